/-
  No cell of these rows narrows 'for every input' (looked for: loops, veiled, ifaces, maps, wideKeys, modest, calm, conditions, laid).
  DERIVED. THE GIVEN ROWS OF THIS SEAT. 5 by the template 'for every input the law returns true; each argument reads behind the call as it read before'; 0 by the template 'total and deterministic' (their statements: YtigfiopmochliaaTotals.lean).
  GIVEN WITH THE SEED: the statements are not yours to turn. If you find one false, say at which input.
  Laid BY PROGRAM, IN A SANDBOX (cutbox-rows.mjs): the forced cells as the released guide's own fill.sh prints them over the translation 6dc15bf8bcce6000… (all of the seat's roots in one cut). By AI agents, Wed Nov 11 2026. No macro, syntax, notation, axiom, sorry.
-/
import Derived.Test.YtigfiopmochliaaChecked
import GoSem.Claim
import GoSem.ClaimJoined
import GoSem.ClaimMapViews
import Derived.JoinedTies
import Derived.KernelRfl
namespace Go.Proofs.Ytigfiopmochliaa
/- THE CELL 'sum', in the pinned program and in every row, IS THE sha256 OF THE DUMP (.gsa) THAT YtigfiopmochliaaProg.lean LOADS. Nothing in Lean hashes anything: it is a label: what it is worth is what the hold of that sum in a sandbox is worth. -/
noncomputable def Try.pinned : Pinned := { name := "ytigfiopmochliaa", sum := "6dc15bf8bcce6000337f4032b4dadd27c81a2582bd7acdd1094701d4390fba0d", checked := Try.checked }
namespace Rows
def none {H : Type} : Left H := { results := [], args := [] }

/-- 'locketlaw11.DocsPlays': WHATEVER THE INPUT: true; the input reads as it did. -/
def docsPlaysSpec : ChangeSpec := { name := "docsPlays", fn := fun _ => fun
  | [d1, d2] => { results := [.lit (.bool true)], args := [d1, d2] }
  | _ => none }
def docsPlaysRow : OpenClaim := { program := "ytigfiopmochliaa", sum := "6dc15bf8bcce6000337f4032b4dadd27c81a2582bd7acdd1094701d4390fba0d", func := "locket/locketlaw11.DocsPlays", spec := "docsPlays", unfollowed := true, recurses := true, apart := false }
def DocsPlaysSaid : Prop := docsPlaysRow.holds Try.pinned (OpenSpec.ofChange docsPlaysSpec)

/-- ITS FALSE NEIGHBOUR: 'it returns false'. Refute it at one input. -/
def docsPlaysWrong : ChangeSpec := { name := "docsPlays", fn := fun _ => fun
  | [d1, d2] => { results := [.lit (.bool false)], args := [d1, d2] }
  | _ => none }
def DocsPlaysWrongFalsely : Prop := docsPlaysRow.holds Try.pinned (OpenSpec.ofChange docsPlaysWrong)

/-- 'locketlaw11.DocsLast': WHATEVER THE INPUT: true; the input reads as it did. -/
def docsLastSpec : ChangeSpec := { name := "docsLast", fn := fun _ => fun
  | [d1, d2, d3] => { results := [.lit (.bool true)], args := [d1, d2, d3] }
  | _ => none }
def docsLastRow : OpenClaim := { program := "ytigfiopmochliaa", sum := "6dc15bf8bcce6000337f4032b4dadd27c81a2582bd7acdd1094701d4390fba0d", func := "locket/locketlaw11.DocsLast", spec := "docsLast", unfollowed := true, recurses := true, apart := false }
def DocsLastSaid : Prop := docsLastRow.holds Try.pinned (OpenSpec.ofChange docsLastSpec)

/-- ITS FALSE NEIGHBOUR: 'it returns false'. Refute it at one input. -/
def docsLastWrong : ChangeSpec := { name := "docsLast", fn := fun _ => fun
  | [d1, d2, d3] => { results := [.lit (.bool false)], args := [d1, d2, d3] }
  | _ => none }
def DocsLastWrongFalsely : Prop := docsLastRow.holds Try.pinned (OpenSpec.ofChange docsLastWrong)

/-- 'locketlaw11.DocsClones': WHATEVER THE INPUT: true; the input reads as it did. -/
def docsClonesSpec : ChangeSpec := { name := "docsClones", fn := fun _ => fun
  | [d1, d2] => { results := [.lit (.bool true)], args := [d1, d2] }
  | _ => none }
def docsClonesRow : OpenClaim := { program := "ytigfiopmochliaa", sum := "6dc15bf8bcce6000337f4032b4dadd27c81a2582bd7acdd1094701d4390fba0d", func := "locket/locketlaw11.DocsClones", spec := "docsClones", inPlace := ["maps.clone"], unfollowed := true, recurses := true, apart := false }
def DocsClonesSaid : Prop := docsClonesRow.holds Try.pinned (OpenSpec.ofChange docsClonesSpec)

/-- ITS FALSE NEIGHBOUR: 'it returns false'. Refute it at one input. -/
def docsClonesWrong : ChangeSpec := { name := "docsClones", fn := fun _ => fun
  | [d1, d2] => { results := [.lit (.bool false)], args := [d1, d2] }
  | _ => none }
def DocsClonesWrongFalsely : Prop := docsClonesRow.holds Try.pinned (OpenSpec.ofChange docsClonesWrong)

/-- 'locketlaw11.DocsOrder': WHATEVER THE INPUT: true; the input reads as it did. -/
def docsOrderSpec : ChangeSpec := { name := "docsOrder", fn := fun _ => fun
  | [d1, d2] => { results := [.lit (.bool true)], args := [d1, d2] }
  | _ => none }
def docsOrderRow : OpenClaim := { program := "ytigfiopmochliaa", sum := "6dc15bf8bcce6000337f4032b4dadd27c81a2582bd7acdd1094701d4390fba0d", func := "locket/locketlaw11.DocsOrder", spec := "docsOrder", unfollowed := true, recurses := true, apart := false }
def DocsOrderSaid : Prop := docsOrderRow.holds Try.pinned (OpenSpec.ofChange docsOrderSpec)

/-- ITS FALSE NEIGHBOUR: 'it returns false'. Refute it at one input. -/
def docsOrderWrong : ChangeSpec := { name := "docsOrder", fn := fun _ => fun
  | [d1, d2] => { results := [.lit (.bool false)], args := [d1, d2] }
  | _ => none }
def DocsOrderWrongFalsely : Prop := docsOrderRow.holds Try.pinned (OpenSpec.ofChange docsOrderWrong)

/-- 'locketlaw11.DocsOthers': WHATEVER THE INPUT: true; the input reads as it did. -/
def docsOthersSpec : ChangeSpec := { name := "docsOthers", fn := fun _ => fun
  | [d1, d2] => { results := [.lit (.bool true)], args := [d1, d2] }
  | _ => none }
def docsOthersRow : OpenClaim := { program := "ytigfiopmochliaa", sum := "6dc15bf8bcce6000337f4032b4dadd27c81a2582bd7acdd1094701d4390fba0d", func := "locket/locketlaw11.DocsOthers", spec := "docsOthers", unfollowed := true, recurses := true, apart := false }
def DocsOthersSaid : Prop := docsOthersRow.holds Try.pinned (OpenSpec.ofChange docsOthersSpec)

/-- ITS FALSE NEIGHBOUR: 'it returns false'. Refute it at one input. -/
def docsOthersWrong : ChangeSpec := { name := "docsOthers", fn := fun _ => fun
  | [d1, d2] => { results := [.lit (.bool false)], args := [d1, d2] }
  | _ => none }
def DocsOthersWrongFalsely : Prop := docsOthersRow.holds Try.pinned (OpenSpec.ofChange docsOthersWrong)

/- THE SECOND FORM. 'bulk': how many values and letters a reading holds, each counted each time it is reached (what is shared counts as often as it is met; a slice's spare places count too). A statement '..UptoSaid' is the law's where the arguments, and the package variables that the reading takes, are together of bulk at most 1048576: NARROWER than '..Said'. Prove '..Said' where nothing that the law and all that it calls make is longer than what came in: it says more and counts as full. Else prove '..UptoSaid'. A law counts once. -/
mutual
def uptoBulk {H : Type} : DataW H → Nat
  | .lit (.string bytes) => bytes.length + 1
  | .lit _ => 1
  | .nil => 1
  | .ptr d => uptoBulk d + 1
  | .slice elems spare => uptoBulkAll elems + uptoBulkAll spare + 1
  | .agg parts => uptoBulkAll parts + 1
  | .iface _ d => uptoBulk d + 1
  | .map entries => uptoBulkEntries entries + 1
  | .held _ => 1
def uptoBulkAll {H : Type} : List (DataW H) → Nat
  | [] => 0
  | d :: r => uptoBulk d + uptoBulkAll r
def uptoBulkEntries {H : Type} : List (Lit × DataW H) → Nat
  | [] => 0
  | x :: r => uptoBulkEntry x + uptoBulkEntries r
def uptoBulkEntry {H : Type} : Lit × DataW H → Nat
  | (.string bytes, d) => bytes.length + uptoBulk d + 1
  | (_, d) => uptoBulk d + 1
 end
def uptoSmall : (H : Type) → List (DataW H) → Bool := fun _ ds => decide (uptoBulkAll ds ≤ 1048576)
def OpenSpec.upto (s : _root_.Go.ChangeSpec) : _root_.Go.OpenSpec := { _root_.Go.OpenSpec.ofChange s with cond := some uptoSmall }

/-- 'locketlaw11.DocsPlays', WHERE WHAT IT READS IS OF BULK AT MOST 1048576: true; the input reads as it did. -/
def docsPlaysUptoRow : OpenClaim := { program := "ytigfiopmochliaa", sum := "6dc15bf8bcce6000337f4032b4dadd27c81a2582bd7acdd1094701d4390fba0d", func := "locket/locketlaw11.DocsPlays", spec := "docsPlays", unfollowed := true, recurses := true, apart := false, narrowed := true }
def DocsPlaysUptoSaid : Prop := docsPlaysUptoRow.holds Try.pinned (OpenSpec.upto docsPlaysSpec)

/-- 'locketlaw11.DocsLast', WHERE WHAT IT READS IS OF BULK AT MOST 1048576: true; the input reads as it did. -/
def docsLastUptoRow : OpenClaim := { program := "ytigfiopmochliaa", sum := "6dc15bf8bcce6000337f4032b4dadd27c81a2582bd7acdd1094701d4390fba0d", func := "locket/locketlaw11.DocsLast", spec := "docsLast", unfollowed := true, recurses := true, apart := false, narrowed := true }
def DocsLastUptoSaid : Prop := docsLastUptoRow.holds Try.pinned (OpenSpec.upto docsLastSpec)

/-- 'locketlaw11.DocsClones', WHERE WHAT IT READS IS OF BULK AT MOST 1048576: true; the input reads as it did. -/
def docsClonesUptoRow : OpenClaim := { program := "ytigfiopmochliaa", sum := "6dc15bf8bcce6000337f4032b4dadd27c81a2582bd7acdd1094701d4390fba0d", func := "locket/locketlaw11.DocsClones", spec := "docsClones", inPlace := ["maps.clone"], unfollowed := true, recurses := true, apart := false, narrowed := true }
def DocsClonesUptoSaid : Prop := docsClonesUptoRow.holds Try.pinned (OpenSpec.upto docsClonesSpec)

/-- 'locketlaw11.DocsOrder', WHERE WHAT IT READS IS OF BULK AT MOST 1048576: true; the input reads as it did. -/
def docsOrderUptoRow : OpenClaim := { program := "ytigfiopmochliaa", sum := "6dc15bf8bcce6000337f4032b4dadd27c81a2582bd7acdd1094701d4390fba0d", func := "locket/locketlaw11.DocsOrder", spec := "docsOrder", unfollowed := true, recurses := true, apart := false, narrowed := true }
def DocsOrderUptoSaid : Prop := docsOrderUptoRow.holds Try.pinned (OpenSpec.upto docsOrderSpec)

/-- 'locketlaw11.DocsOthers', WHERE WHAT IT READS IS OF BULK AT MOST 1048576: true; the input reads as it did. -/
def docsOthersUptoRow : OpenClaim := { program := "ytigfiopmochliaa", sum := "6dc15bf8bcce6000337f4032b4dadd27c81a2582bd7acdd1094701d4390fba0d", func := "locket/locketlaw11.DocsOthers", spec := "docsOthers", unfollowed := true, recurses := true, apart := false, narrowed := true }
def DocsOthersUptoSaid : Prop := docsOthersUptoRow.holds Try.pinned (OpenSpec.upto docsOthersSpec)

end Rows
end Go.Proofs.Ytigfiopmochliaa
