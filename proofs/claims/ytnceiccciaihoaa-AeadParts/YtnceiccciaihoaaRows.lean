/-
  No cell of these rows narrows 'for every input' (looked for: loops, veiled, ifaces, maps, wideKeys, modest, calm, conditions, laid).
  DERIVED. THE GIVEN ROWS OF THIS SEAT. 6 by the template 'for every input the law returns true; each argument reads behind the call as it read before'; 0 by the template 'total and deterministic' (their statements: YtnceiccciaihoaaTotals.lean).
  GIVEN WITH THE SEED: the statements are not yours to turn. If you find one false, say at which input.
  Laid BY PROGRAM, IN A SANDBOX (cutbox-rows.mjs): the forced cells as the released guide's own fill.sh prints them over the translation 3164535a9b15f5f5… (all of the seat's roots in one cut). By AI agents, Wed Nov 11 2026. No macro, syntax, notation, axiom, sorry.
-/
import Derived.Test.YtnceiccciaihoaaChecked
import GoSem.Claim
import GoSem.ClaimJoined
import GoSem.ClaimMapViews
import Derived.JoinedTies
import Derived.KernelRfl
namespace Go.Proofs.Ytnceiccciaihoaa
/- THE CELL 'sum', in the pinned program and in every row, IS THE sha256 OF THE DUMP (.gsa) THAT YtnceiccciaihoaaProg.lean LOADS. Nothing in Lean hashes anything: it is a label: what it is worth is what the hold of that sum in a sandbox is worth. -/
noncomputable def Try.pinned : Pinned := { name := "ytnceiccciaihoaa", sum := "3164535a9b15f5f59f27989ac790dfbf4befaeaeb5c4450c846079f3fb65ba65", checked := Try.checked }
namespace Rows
def none {H : Type} : Left H := { results := [], args := [] }

/-- 'locketlaw05.AeadSeals': WHATEVER THE INPUT: true; the input reads as it did. -/
def aeadSealsSpec : ChangeSpec := { name := "aeadSeals", fn := fun _ => fun
  | [d1, d2, d3, d4] => { results := [.lit (.bool true)], args := [d1, d2, d3, d4] }
  | _ => none }
def aeadSealsRow : OpenClaim := { program := "ytnceiccciaihoaa", sum := "3164535a9b15f5f59f27989ac790dfbf4befaeaeb5c4450c846079f3fb65ba65", func := "locket/locketlaw05.AeadSeals", spec := "aeadSeals", apart := false }
def AeadSealsSaid : Prop := aeadSealsRow.holds Try.pinned (OpenSpec.ofChange aeadSealsSpec)

/-- ITS FALSE NEIGHBOUR: 'it returns false'. Refute it at one input. -/
def aeadSealsWrong : ChangeSpec := { name := "aeadSeals", fn := fun _ => fun
  | [d1, d2, d3, d4] => { results := [.lit (.bool false)], args := [d1, d2, d3, d4] }
  | _ => none }
def AeadSealsWrongFalsely : Prop := aeadSealsRow.holds Try.pinned (OpenSpec.ofChange aeadSealsWrong)

/-- 'locketlaw05.AeadOpens': WHATEVER THE INPUT: true; the input reads as it did. -/
def aeadOpensSpec : ChangeSpec := { name := "aeadOpens", fn := fun _ => fun
  | [d1, d2, d3, d4] => { results := [.lit (.bool true)], args := [d1, d2, d3, d4] }
  | _ => none }
def aeadOpensRow : OpenClaim := { program := "ytnceiccciaihoaa", sum := "3164535a9b15f5f59f27989ac790dfbf4befaeaeb5c4450c846079f3fb65ba65", func := "locket/locketlaw05.AeadOpens", spec := "aeadOpens", apart := false }
def AeadOpensSaid : Prop := aeadOpensRow.holds Try.pinned (OpenSpec.ofChange aeadOpensSpec)

/-- ITS FALSE NEIGHBOUR: 'it returns false'. Refute it at one input. -/
def aeadOpensWrong : ChangeSpec := { name := "aeadOpens", fn := fun _ => fun
  | [d1, d2, d3, d4] => { results := [.lit (.bool false)], args := [d1, d2, d3, d4] }
  | _ => none }
def AeadOpensWrongFalsely : Prop := aeadOpensRow.holds Try.pinned (OpenSpec.ofChange aeadOpensWrong)

/-- 'locketlaw05.AeadTags': WHATEVER THE INPUT: true; the input reads as it did. -/
def aeadTagsSpec : ChangeSpec := { name := "aeadTags", fn := fun _ => fun
  | [d1, d2, d3, d4, d5] => { results := [.lit (.bool true)], args := [d1, d2, d3, d4, d5] }
  | _ => none }
def aeadTagsRow : OpenClaim := { program := "ytnceiccciaihoaa", sum := "3164535a9b15f5f59f27989ac790dfbf4befaeaeb5c4450c846079f3fb65ba65", func := "locket/locketlaw05.AeadTags", spec := "aeadTags", apart := false }
def AeadTagsSaid : Prop := aeadTagsRow.holds Try.pinned (OpenSpec.ofChange aeadTagsSpec)

/-- ITS FALSE NEIGHBOUR: 'it returns false'. Refute it at one input. -/
def aeadTagsWrong : ChangeSpec := { name := "aeadTags", fn := fun _ => fun
  | [d1, d2, d3, d4, d5] => { results := [.lit (.bool false)], args := [d1, d2, d3, d4, d5] }
  | _ => none }
def AeadTagsWrongFalsely : Prop := aeadTagsRow.holds Try.pinned (OpenSpec.ofChange aeadTagsWrong)

/-- 'locketlaw05.AeadLengths': WHATEVER THE INPUT: true; the input reads as it did. -/
def aeadLengthsSpec : ChangeSpec := { name := "aeadLengths", fn := fun _ => fun
  | [d1, d2, d3, d4] => { results := [.lit (.bool true)], args := [d1, d2, d3, d4] }
  | _ => none }
def aeadLengthsRow : OpenClaim := { program := "ytnceiccciaihoaa", sum := "3164535a9b15f5f59f27989ac790dfbf4befaeaeb5c4450c846079f3fb65ba65", func := "locket/locketlaw05.AeadLengths", spec := "aeadLengths", apart := false }
def AeadLengthsSaid : Prop := aeadLengthsRow.holds Try.pinned (OpenSpec.ofChange aeadLengthsSpec)

/-- ITS FALSE NEIGHBOUR: 'it returns false'. Refute it at one input. -/
def aeadLengthsWrong : ChangeSpec := { name := "aeadLengths", fn := fun _ => fun
  | [d1, d2, d3, d4] => { results := [.lit (.bool false)], args := [d1, d2, d3, d4] }
  | _ => none }
def AeadLengthsWrongFalsely : Prop := aeadLengthsRow.holds Try.pinned (OpenSpec.ofChange aeadLengthsWrong)

/-- 'locketlaw05.AeadParts': WHATEVER THE INPUT: true; the input reads as it did. -/
def aeadPartsSpec : ChangeSpec := { name := "aeadParts", fn := fun _ => fun
  | [d1, d2, d3, d4] => { results := [.lit (.bool true)], args := [d1, d2, d3, d4] }
  | _ => none }
def aeadPartsRow : OpenClaim := { program := "ytnceiccciaihoaa", sum := "3164535a9b15f5f59f27989ac790dfbf4befaeaeb5c4450c846079f3fb65ba65", func := "locket/locketlaw05.AeadParts", spec := "aeadParts", apart := false }
def AeadPartsSaid : Prop := aeadPartsRow.holds Try.pinned (OpenSpec.ofChange aeadPartsSpec)

/-- ITS FALSE NEIGHBOUR: 'it returns false'. Refute it at one input. -/
def aeadPartsWrong : ChangeSpec := { name := "aeadParts", fn := fun _ => fun
  | [d1, d2, d3, d4] => { results := [.lit (.bool false)], args := [d1, d2, d3, d4] }
  | _ => none }
def AeadPartsWrongFalsely : Prop := aeadPartsRow.holds Try.pinned (OpenSpec.ofChange aeadPartsWrong)

/-- 'locketlaw05.AeadOwn': WHATEVER THE INPUT: true; the input reads as it did. -/
def aeadOwnSpec : ChangeSpec := { name := "aeadOwn", fn := fun _ => fun
  | [d1, d2, d3] => { results := [.lit (.bool true)], args := [d1, d2, d3] }
  | _ => none }
def aeadOwnRow : OpenClaim := { program := "ytnceiccciaihoaa", sum := "3164535a9b15f5f59f27989ac790dfbf4befaeaeb5c4450c846079f3fb65ba65", func := "locket/locketlaw05.AeadOwn", spec := "aeadOwn", apart := false }
def AeadOwnSaid : Prop := aeadOwnRow.holds Try.pinned (OpenSpec.ofChange aeadOwnSpec)

/-- ITS FALSE NEIGHBOUR: 'it returns false'. Refute it at one input. -/
def aeadOwnWrong : ChangeSpec := { name := "aeadOwn", fn := fun _ => fun
  | [d1, d2, d3] => { results := [.lit (.bool false)], args := [d1, d2, d3] }
  | _ => none }
def AeadOwnWrongFalsely : Prop := aeadOwnRow.holds Try.pinned (OpenSpec.ofChange aeadOwnWrong)

/- THE SECOND FORM. 'bulk': how many values and letters a reading holds, each counted each time it is reached (what is shared counts as often as it is met; a slice's spare places count too). A statement '..UptoSaid' is the law's where the arguments, and the package variables that the reading takes, are together of bulk at most 1048576: NARROWER than '..Said'. Prove '..Said' where nothing that the law and all that it calls make is longer than what came in: it says more and counts as full. Else prove '..UptoSaid'. A law counts once. -/
mutual
def uptoBulk {H : Type} : DataW H → Nat
  | .lit (.string bytes) => bytes.length + 1
  | .lit _ => 1
  | .nil => 1
  | .ptr d => uptoBulk d + 1
  | .slice elems spare => uptoBulkAll elems + uptoBulkAll spare + 1
  | .agg parts => uptoBulkAll parts + 1
  | .iface _ d => uptoBulk d + 1
  | .map entries => uptoBulkEntries entries + 1
  | .held _ => 1
def uptoBulkAll {H : Type} : List (DataW H) → Nat
  | [] => 0
  | d :: r => uptoBulk d + uptoBulkAll r
def uptoBulkEntries {H : Type} : List (Lit × DataW H) → Nat
  | [] => 0
  | x :: r => uptoBulkEntry x + uptoBulkEntries r
def uptoBulkEntry {H : Type} : Lit × DataW H → Nat
  | (.string bytes, d) => bytes.length + uptoBulk d + 1
  | (_, d) => uptoBulk d + 1
 end
def uptoSmall : (H : Type) → List (DataW H) → Bool := fun _ ds => decide (uptoBulkAll ds ≤ 1048576)
def OpenSpec.upto (s : _root_.Go.ChangeSpec) : _root_.Go.OpenSpec := { _root_.Go.OpenSpec.ofChange s with cond := some uptoSmall }

/-- 'locketlaw05.AeadSeals', WHERE WHAT IT READS IS OF BULK AT MOST 1048576: true; the input reads as it did. -/
def aeadSealsUptoRow : OpenClaim := { program := "ytnceiccciaihoaa", sum := "3164535a9b15f5f59f27989ac790dfbf4befaeaeb5c4450c846079f3fb65ba65", func := "locket/locketlaw05.AeadSeals", spec := "aeadSeals", apart := false, narrowed := true }
def AeadSealsUptoSaid : Prop := aeadSealsUptoRow.holds Try.pinned (OpenSpec.upto aeadSealsSpec)

/-- 'locketlaw05.AeadOpens', WHERE WHAT IT READS IS OF BULK AT MOST 1048576: true; the input reads as it did. -/
def aeadOpensUptoRow : OpenClaim := { program := "ytnceiccciaihoaa", sum := "3164535a9b15f5f59f27989ac790dfbf4befaeaeb5c4450c846079f3fb65ba65", func := "locket/locketlaw05.AeadOpens", spec := "aeadOpens", apart := false, narrowed := true }
def AeadOpensUptoSaid : Prop := aeadOpensUptoRow.holds Try.pinned (OpenSpec.upto aeadOpensSpec)

/-- 'locketlaw05.AeadTags', WHERE WHAT IT READS IS OF BULK AT MOST 1048576: true; the input reads as it did. -/
def aeadTagsUptoRow : OpenClaim := { program := "ytnceiccciaihoaa", sum := "3164535a9b15f5f59f27989ac790dfbf4befaeaeb5c4450c846079f3fb65ba65", func := "locket/locketlaw05.AeadTags", spec := "aeadTags", apart := false, narrowed := true }
def AeadTagsUptoSaid : Prop := aeadTagsUptoRow.holds Try.pinned (OpenSpec.upto aeadTagsSpec)

/-- 'locketlaw05.AeadLengths', WHERE WHAT IT READS IS OF BULK AT MOST 1048576: true; the input reads as it did. -/
def aeadLengthsUptoRow : OpenClaim := { program := "ytnceiccciaihoaa", sum := "3164535a9b15f5f59f27989ac790dfbf4befaeaeb5c4450c846079f3fb65ba65", func := "locket/locketlaw05.AeadLengths", spec := "aeadLengths", apart := false, narrowed := true }
def AeadLengthsUptoSaid : Prop := aeadLengthsUptoRow.holds Try.pinned (OpenSpec.upto aeadLengthsSpec)

/-- 'locketlaw05.AeadParts', WHERE WHAT IT READS IS OF BULK AT MOST 1048576: true; the input reads as it did. -/
def aeadPartsUptoRow : OpenClaim := { program := "ytnceiccciaihoaa", sum := "3164535a9b15f5f59f27989ac790dfbf4befaeaeb5c4450c846079f3fb65ba65", func := "locket/locketlaw05.AeadParts", spec := "aeadParts", apart := false, narrowed := true }
def AeadPartsUptoSaid : Prop := aeadPartsUptoRow.holds Try.pinned (OpenSpec.upto aeadPartsSpec)

/-- 'locketlaw05.AeadOwn', WHERE WHAT IT READS IS OF BULK AT MOST 1048576: true; the input reads as it did. -/
def aeadOwnUptoRow : OpenClaim := { program := "ytnceiccciaihoaa", sum := "3164535a9b15f5f59f27989ac790dfbf4befaeaeb5c4450c846079f3fb65ba65", func := "locket/locketlaw05.AeadOwn", spec := "aeadOwn", apart := false, narrowed := true }
def AeadOwnUptoSaid : Prop := aeadOwnUptoRow.holds Try.pinned (OpenSpec.upto aeadOwnSpec)

end Rows
end Go.Proofs.Ytnceiccciaihoaa
