/-
  No cell of these rows narrows 'for every input' (looked for: loops, veiled, ifaces, maps, wideKeys, modest, calm, conditions, laid).
  DERIVED. THE GIVEN ROWS OF THIS SEAT. 6 by the template 'for every input the law returns true; each argument reads behind the call as it read before'; 0 by the template 'total and deterministic' (their statements: YtchoiioeeepoaaaTotals.lean).
  GIVEN WITH THE SEED: the statements are not yours to turn. If you find one false, say at which input.
  Laid BY PROGRAM, IN A SANDBOX (cutbox-rows.mjs): the forced cells as the released guide's own fill.sh prints them over the translation 34264031cbe86fec… (all of the seat's roots in one cut). By AI agents, Wed Nov 11 2026. No macro, syntax, notation, axiom, sorry.
-/
import Derived.Test.YtchoiioeeepoaaaChecked
import GoSem.Claim
import GoSem.ClaimJoined
import GoSem.ClaimMapViews
import Derived.JoinedTies
import Derived.KernelRfl
namespace Go.Proofs.Ytchoiioeeepoaaa
/- THE CELL 'sum', in the pinned program and in every row, IS THE sha256 OF THE DUMP (.gsa) THAT YtchoiioeeepoaaaProg.lean LOADS. Nothing in Lean hashes anything: it is a label: what it is worth is what the hold of that sum in a sandbox is worth. -/
noncomputable def Try.pinned : Pinned := { name := "ytchoiioeeepoaaa", sum := "34264031cbe86fec89e6e8962533a5d7dc9c073a9d437109e741d332ed1e9dea", checked := Try.checked }
namespace Rows
def none {H : Type} : Left H := { results := [], args := [] }

/-- 'locketlaw19.ServerPlays': WHATEVER THE INPUT: true; the input reads as it did. -/
def serverPlaysSpec : ChangeSpec := { name := "serverPlays", fn := fun _ => fun
  | [d] => { results := [.lit (.bool true)], args := [d] }
  | _ => none }
def serverPlaysRow : OpenClaim := { program := "ytchoiioeeepoaaa", sum := "34264031cbe86fec89e6e8962533a5d7dc9c073a9d437109e741d332ed1e9dea", func := "locket/locketlaw19.ServerPlays", spec := "serverPlays", unfollowed := true, recurses := true, plainKeys := false, apart := false }
def ServerPlaysSaid : Prop := serverPlaysRow.holds Try.pinned (OpenSpec.ofChange serverPlaysSpec)

/-- ITS FALSE NEIGHBOUR: 'it returns false'. Refute it at one input. -/
def serverPlaysWrong : ChangeSpec := { name := "serverPlays", fn := fun _ => fun
  | [d] => { results := [.lit (.bool false)], args := [d] }
  | _ => none }
def ServerPlaysWrongFalsely : Prop := serverPlaysRow.holds Try.pinned (OpenSpec.ofChange serverPlaysWrong)

/-- 'locketlaw19.ServerGrows': WHATEVER THE INPUT: true; the input reads as it did. -/
def serverGrowsSpec : ChangeSpec := { name := "serverGrows", fn := fun _ => fun
  | [d] => { results := [.lit (.bool true)], args := [d] }
  | _ => none }
def serverGrowsRow : OpenClaim := { program := "ytchoiioeeepoaaa", sum := "34264031cbe86fec89e6e8962533a5d7dc9c073a9d437109e741d332ed1e9dea", func := "locket/locketlaw19.ServerGrows", spec := "serverGrows", unfollowed := true, recurses := true, plainKeys := false, apart := false }
def ServerGrowsSaid : Prop := serverGrowsRow.holds Try.pinned (OpenSpec.ofChange serverGrowsSpec)

/-- ITS FALSE NEIGHBOUR: 'it returns false'. Refute it at one input. -/
def serverGrowsWrong : ChangeSpec := { name := "serverGrows", fn := fun _ => fun
  | [d] => { results := [.lit (.bool false)], args := [d] }
  | _ => none }
def ServerGrowsWrongFalsely : Prop := serverGrowsRow.holds Try.pinned (OpenSpec.ofChange serverGrowsWrong)

/-- 'locketlaw19.ServerReads': WHATEVER THE INPUT: true; the input reads as it did. -/
def serverReadsSpec : ChangeSpec := { name := "serverReads", fn := fun _ => fun
  | [d] => { results := [.lit (.bool true)], args := [d] }
  | _ => none }
def serverReadsRow : OpenClaim := { program := "ytchoiioeeepoaaa", sum := "34264031cbe86fec89e6e8962533a5d7dc9c073a9d437109e741d332ed1e9dea", func := "locket/locketlaw19.ServerReads", spec := "serverReads", unfollowed := true, recurses := true, plainKeys := false, apart := false }
def ServerReadsSaid : Prop := serverReadsRow.holds Try.pinned (OpenSpec.ofChange serverReadsSpec)

/-- ITS FALSE NEIGHBOUR: 'it returns false'. Refute it at one input. -/
def serverReadsWrong : ChangeSpec := { name := "serverReads", fn := fun _ => fun
  | [d] => { results := [.lit (.bool false)], args := [d] }
  | _ => none }
def ServerReadsWrongFalsely : Prop := serverReadsRow.holds Try.pinned (OpenSpec.ofChange serverReadsWrong)

/-- 'locketlaw19.ServerApart': WHATEVER THE INPUT: true; the input reads as it did. -/
def serverApartSpec : ChangeSpec := { name := "serverApart", fn := fun _ => fun
  | [d1, d2, d3] => { results := [.lit (.bool true)], args := [d1, d2, d3] }
  | _ => none }
def serverApartRow : OpenClaim := { program := "ytchoiioeeepoaaa", sum := "34264031cbe86fec89e6e8962533a5d7dc9c073a9d437109e741d332ed1e9dea", func := "locket/locketlaw19.ServerApart", spec := "serverApart", unfollowed := true, recurses := true, plainKeys := false, apart := false }
def ServerApartSaid : Prop := serverApartRow.holds Try.pinned (OpenSpec.ofChange serverApartSpec)

/-- ITS FALSE NEIGHBOUR: 'it returns false'. Refute it at one input. -/
def serverApartWrong : ChangeSpec := { name := "serverApart", fn := fun _ => fun
  | [d1, d2, d3] => { results := [.lit (.bool false)], args := [d1, d2, d3] }
  | _ => none }
def ServerApartWrongFalsely : Prop := serverApartRow.holds Try.pinned (OpenSpec.ofChange serverApartWrong)

/-- 'locketlaw19.ServerForks': WHATEVER THE INPUT: true; the input reads as it did. -/
def serverForksSpec : ChangeSpec := { name := "serverForks", fn := fun _ => fun
  | [d1, d2, d3] => { results := [.lit (.bool true)], args := [d1, d2, d3] }
  | _ => none }
def serverForksRow : OpenClaim := { program := "ytchoiioeeepoaaa", sum := "34264031cbe86fec89e6e8962533a5d7dc9c073a9d437109e741d332ed1e9dea", func := "locket/locketlaw19.ServerForks", spec := "serverForks", unfollowed := true, recurses := true, plainKeys := false, apart := false }
def ServerForksSaid : Prop := serverForksRow.holds Try.pinned (OpenSpec.ofChange serverForksSpec)

/-- ITS FALSE NEIGHBOUR: 'it returns false'. Refute it at one input. -/
def serverForksWrong : ChangeSpec := { name := "serverForks", fn := fun _ => fun
  | [d1, d2, d3] => { results := [.lit (.bool false)], args := [d1, d2, d3] }
  | _ => none }
def ServerForksWrongFalsely : Prop := serverForksRow.holds Try.pinned (OpenSpec.ofChange serverForksWrong)

/-- 'locketlaw19.ServerBlind': WHATEVER THE INPUT: true; the input reads as it did. -/
def serverBlindSpec : ChangeSpec := { name := "serverBlind", fn := fun _ => fun
  | [d] => { results := [.lit (.bool true)], args := [d] }
  | _ => none }
def serverBlindRow : OpenClaim := { program := "ytchoiioeeepoaaa", sum := "34264031cbe86fec89e6e8962533a5d7dc9c073a9d437109e741d332ed1e9dea", func := "locket/locketlaw19.ServerBlind", spec := "serverBlind", unfollowed := true, recurses := true, plainKeys := false, apart := false }
def ServerBlindSaid : Prop := serverBlindRow.holds Try.pinned (OpenSpec.ofChange serverBlindSpec)

/-- ITS FALSE NEIGHBOUR: 'it returns false'. Refute it at one input. -/
def serverBlindWrong : ChangeSpec := { name := "serverBlind", fn := fun _ => fun
  | [d] => { results := [.lit (.bool false)], args := [d] }
  | _ => none }
def ServerBlindWrongFalsely : Prop := serverBlindRow.holds Try.pinned (OpenSpec.ofChange serverBlindWrong)

/- THE SECOND FORM. 'bulk': how many values and letters a reading holds, each counted each time it is reached (what is shared counts as often as it is met; a slice's spare places count too). A statement '..UptoSaid' is the law's where the arguments, and the package variables that the reading takes, are together of bulk at most 1048576: NARROWER than '..Said'. Prove '..Said' where nothing that the law and all that it calls make is longer than what came in: it says more and counts as full. Else prove '..UptoSaid'. A law counts once. -/
mutual
def uptoBulk {H : Type} : DataW H → Nat
  | .lit (.string bytes) => bytes.length + 1
  | .lit _ => 1
  | .nil => 1
  | .ptr d => uptoBulk d + 1
  | .slice elems spare => uptoBulkAll elems + uptoBulkAll spare + 1
  | .agg parts => uptoBulkAll parts + 1
  | .iface _ d => uptoBulk d + 1
  | .map entries => uptoBulkEntries entries + 1
  | .held _ => 1
def uptoBulkAll {H : Type} : List (DataW H) → Nat
  | [] => 0
  | d :: r => uptoBulk d + uptoBulkAll r
def uptoBulkEntries {H : Type} : List (Lit × DataW H) → Nat
  | [] => 0
  | x :: r => uptoBulkEntry x + uptoBulkEntries r
def uptoBulkEntry {H : Type} : Lit × DataW H → Nat
  | (.string bytes, d) => bytes.length + uptoBulk d + 1
  | (_, d) => uptoBulk d + 1
 end
def uptoSmall : (H : Type) → List (DataW H) → Bool := fun _ ds => decide (uptoBulkAll ds ≤ 1048576)
def OpenSpec.upto (s : _root_.Go.ChangeSpec) : _root_.Go.OpenSpec := { _root_.Go.OpenSpec.ofChange s with cond := some uptoSmall }

/-- 'locketlaw19.ServerPlays', WHERE WHAT IT READS IS OF BULK AT MOST 1048576: true; the input reads as it did. -/
def serverPlaysUptoRow : OpenClaim := { program := "ytchoiioeeepoaaa", sum := "34264031cbe86fec89e6e8962533a5d7dc9c073a9d437109e741d332ed1e9dea", func := "locket/locketlaw19.ServerPlays", spec := "serverPlays", unfollowed := true, recurses := true, plainKeys := false, apart := false, narrowed := true }
def ServerPlaysUptoSaid : Prop := serverPlaysUptoRow.holds Try.pinned (OpenSpec.upto serverPlaysSpec)

/-- 'locketlaw19.ServerGrows', WHERE WHAT IT READS IS OF BULK AT MOST 1048576: true; the input reads as it did. -/
def serverGrowsUptoRow : OpenClaim := { program := "ytchoiioeeepoaaa", sum := "34264031cbe86fec89e6e8962533a5d7dc9c073a9d437109e741d332ed1e9dea", func := "locket/locketlaw19.ServerGrows", spec := "serverGrows", unfollowed := true, recurses := true, plainKeys := false, apart := false, narrowed := true }
def ServerGrowsUptoSaid : Prop := serverGrowsUptoRow.holds Try.pinned (OpenSpec.upto serverGrowsSpec)

/-- 'locketlaw19.ServerReads', WHERE WHAT IT READS IS OF BULK AT MOST 1048576: true; the input reads as it did. -/
def serverReadsUptoRow : OpenClaim := { program := "ytchoiioeeepoaaa", sum := "34264031cbe86fec89e6e8962533a5d7dc9c073a9d437109e741d332ed1e9dea", func := "locket/locketlaw19.ServerReads", spec := "serverReads", unfollowed := true, recurses := true, plainKeys := false, apart := false, narrowed := true }
def ServerReadsUptoSaid : Prop := serverReadsUptoRow.holds Try.pinned (OpenSpec.upto serverReadsSpec)

/-- 'locketlaw19.ServerApart', WHERE WHAT IT READS IS OF BULK AT MOST 1048576: true; the input reads as it did. -/
def serverApartUptoRow : OpenClaim := { program := "ytchoiioeeepoaaa", sum := "34264031cbe86fec89e6e8962533a5d7dc9c073a9d437109e741d332ed1e9dea", func := "locket/locketlaw19.ServerApart", spec := "serverApart", unfollowed := true, recurses := true, plainKeys := false, apart := false, narrowed := true }
def ServerApartUptoSaid : Prop := serverApartUptoRow.holds Try.pinned (OpenSpec.upto serverApartSpec)

/-- 'locketlaw19.ServerForks', WHERE WHAT IT READS IS OF BULK AT MOST 1048576: true; the input reads as it did. -/
def serverForksUptoRow : OpenClaim := { program := "ytchoiioeeepoaaa", sum := "34264031cbe86fec89e6e8962533a5d7dc9c073a9d437109e741d332ed1e9dea", func := "locket/locketlaw19.ServerForks", spec := "serverForks", unfollowed := true, recurses := true, plainKeys := false, apart := false, narrowed := true }
def ServerForksUptoSaid : Prop := serverForksUptoRow.holds Try.pinned (OpenSpec.upto serverForksSpec)

/-- 'locketlaw19.ServerBlind', WHERE WHAT IT READS IS OF BULK AT MOST 1048576: true; the input reads as it did. -/
def serverBlindUptoRow : OpenClaim := { program := "ytchoiioeeepoaaa", sum := "34264031cbe86fec89e6e8962533a5d7dc9c073a9d437109e741d332ed1e9dea", func := "locket/locketlaw19.ServerBlind", spec := "serverBlind", unfollowed := true, recurses := true, plainKeys := false, apart := false, narrowed := true }
def ServerBlindUptoSaid : Prop := serverBlindUptoRow.holds Try.pinned (OpenSpec.upto serverBlindSpec)

end Rows
end Go.Proofs.Ytchoiioeeepoaaa
