/-
  No cell of these rows narrows 'for every input' (looked for: loops, veiled, ifaces, maps, wideKeys, modest, calm, conditions, laid).
  DERIVED. THE GIVEN ROWS OF THIS SEAT. 6 by the template 'for every input the law returns true; each argument reads behind the call as it read before'; 0 by the template 'total and deterministic' (their statements: YtmlnbbggfjgacaaTotals.lean).
  GIVEN WITH THE SEED: the statements are not yours to turn. If you find one false, say at which input.
  Laid BY PROGRAM, IN A SANDBOX (cutbox-rows.mjs): the forced cells as the released guide's own fill.sh prints them over the translation 8d8565ac03196d6b… (all of the seat's roots in one cut). By AI agents, Wed Nov 11 2026. No macro, syntax, notation, axiom, sorry.
-/
import Derived.Test.YtmlnbbggfjgacaaChecked
import GoSem.Claim
import GoSem.ClaimJoined
import GoSem.ClaimMapViews
import Derived.JoinedTies
import Derived.KernelRfl
namespace Go.Proofs.Ytmlnbbggfjgacaa
/- THE CELL 'sum', in the pinned program and in every row, IS THE sha256 OF THE DUMP (.gsa) THAT YtmlnbbggfjgacaaProg.lean LOADS. Nothing in Lean hashes anything: it is a label: what it is worth is what the hold of that sum in a sandbox is worth. -/
noncomputable def Try.pinned : Pinned := { name := "ytmlnbbggfjgacaa", sum := "8d8565ac03196d6be9dfb5c29141eedc7c87738748eca3a4504175589510c3d6", checked := Try.checked }
namespace Rows
def none {H : Type} : Left H := { results := [], args := [] }

/-- 'locketlaw10.PolicyPlays': WHATEVER THE INPUT: true; the input reads as it did. -/
def policyPlaysSpec : ChangeSpec := { name := "policyPlays", fn := fun _ => fun
  | [d1, d2] => { results := [.lit (.bool true)], args := [d1, d2] }
  | _ => none }
def policyPlaysRow : OpenClaim := { program := "ytmlnbbggfjgacaa", sum := "8d8565ac03196d6be9dfb5c29141eedc7c87738748eca3a4504175589510c3d6", func := "locket/locketlaw10.PolicyPlays", spec := "policyPlays", unfollowed := true, recurses := true, apart := false }
def PolicyPlaysSaid : Prop := policyPlaysRow.holds Try.pinned (OpenSpec.ofChange policyPlaysSpec)

/-- ITS FALSE NEIGHBOUR: 'it returns false'. Refute it at one input. -/
def policyPlaysWrong : ChangeSpec := { name := "policyPlays", fn := fun _ => fun
  | [d1, d2] => { results := [.lit (.bool false)], args := [d1, d2] }
  | _ => none }
def PolicyPlaysWrongFalsely : Prop := policyPlaysRow.holds Try.pinned (OpenSpec.ofChange policyPlaysWrong)

/-- 'locketlaw10.PolicyForms': WHATEVER THE INPUT: true; the input reads as it did. -/
def policyFormsSpec : ChangeSpec := { name := "policyForms", fn := fun _ => fun
  | [d1, d2] => { results := [.lit (.bool true)], args := [d1, d2] }
  | _ => none }
def policyFormsRow : OpenClaim := { program := "ytmlnbbggfjgacaa", sum := "8d8565ac03196d6be9dfb5c29141eedc7c87738748eca3a4504175589510c3d6", func := "locket/locketlaw10.PolicyForms", spec := "policyForms", unfollowed := true, recurses := true, apart := false }
def PolicyFormsSaid : Prop := policyFormsRow.holds Try.pinned (OpenSpec.ofChange policyFormsSpec)

/-- ITS FALSE NEIGHBOUR: 'it returns false'. Refute it at one input. -/
def policyFormsWrong : ChangeSpec := { name := "policyForms", fn := fun _ => fun
  | [d1, d2] => { results := [.lit (.bool false)], args := [d1, d2] }
  | _ => none }
def PolicyFormsWrongFalsely : Prop := policyFormsRow.holds Try.pinned (OpenSpec.ofChange policyFormsWrong)

/-- 'locketlaw10.PolicyFounder': WHATEVER THE INPUT: true; the input reads as it did. -/
def policyFounderSpec : ChangeSpec := { name := "policyFounder", fn := fun _ => fun
  | [d1, d2] => { results := [.lit (.bool true)], args := [d1, d2] }
  | _ => none }
def policyFounderRow : OpenClaim := { program := "ytmlnbbggfjgacaa", sum := "8d8565ac03196d6be9dfb5c29141eedc7c87738748eca3a4504175589510c3d6", func := "locket/locketlaw10.PolicyFounder", spec := "policyFounder", unfollowed := true, recurses := true, apart := false }
def PolicyFounderSaid : Prop := policyFounderRow.holds Try.pinned (OpenSpec.ofChange policyFounderSpec)

/-- ITS FALSE NEIGHBOUR: 'it returns false'. Refute it at one input. -/
def policyFounderWrong : ChangeSpec := { name := "policyFounder", fn := fun _ => fun
  | [d1, d2] => { results := [.lit (.bool false)], args := [d1, d2] }
  | _ => none }
def PolicyFounderWrongFalsely : Prop := policyFounderRow.holds Try.pinned (OpenSpec.ofChange policyFounderWrong)

/-- 'locketlaw10.PolicyOwn': WHATEVER THE INPUT: true; the input reads as it did. -/
def policyOwnSpec : ChangeSpec := { name := "policyOwn", fn := fun _ => fun
  | [d1, d2] => { results := [.lit (.bool true)], args := [d1, d2] }
  | _ => none }
def policyOwnRow : OpenClaim := { program := "ytmlnbbggfjgacaa", sum := "8d8565ac03196d6be9dfb5c29141eedc7c87738748eca3a4504175589510c3d6", func := "locket/locketlaw10.PolicyOwn", spec := "policyOwn", unfollowed := true, recurses := true, apart := false }
def PolicyOwnSaid : Prop := policyOwnRow.holds Try.pinned (OpenSpec.ofChange policyOwnSpec)

/-- ITS FALSE NEIGHBOUR: 'it returns false'. Refute it at one input. -/
def policyOwnWrong : ChangeSpec := { name := "policyOwn", fn := fun _ => fun
  | [d1, d2] => { results := [.lit (.bool false)], args := [d1, d2] }
  | _ => none }
def PolicyOwnWrongFalsely : Prop := policyOwnRow.holds Try.pinned (OpenSpec.ofChange policyOwnWrong)

/-- 'locketlaw10.PolicyGrants': WHATEVER THE INPUT: true; the input reads as it did. -/
def policyGrantsSpec : ChangeSpec := { name := "policyGrants", fn := fun _ => fun
  | [d1, d2] => { results := [.lit (.bool true)], args := [d1, d2] }
  | _ => none }
def policyGrantsRow : OpenClaim := { program := "ytmlnbbggfjgacaa", sum := "8d8565ac03196d6be9dfb5c29141eedc7c87738748eca3a4504175589510c3d6", func := "locket/locketlaw10.PolicyGrants", spec := "policyGrants", unfollowed := true, recurses := true, apart := false }
def PolicyGrantsSaid : Prop := policyGrantsRow.holds Try.pinned (OpenSpec.ofChange policyGrantsSpec)

/-- ITS FALSE NEIGHBOUR: 'it returns false'. Refute it at one input. -/
def policyGrantsWrong : ChangeSpec := { name := "policyGrants", fn := fun _ => fun
  | [d1, d2] => { results := [.lit (.bool false)], args := [d1, d2] }
  | _ => none }
def PolicyGrantsWrongFalsely : Prop := policyGrantsRow.holds Try.pinned (OpenSpec.ofChange policyGrantsWrong)

/-- 'locketlaw10.PolicyRotates': WHATEVER THE INPUT: true; the input reads as it did. -/
def policyRotatesSpec : ChangeSpec := { name := "policyRotates", fn := fun _ => fun
  | [d1, d2, d3] => { results := [.lit (.bool true)], args := [d1, d2, d3] }
  | _ => none }
def policyRotatesRow : OpenClaim := { program := "ytmlnbbggfjgacaa", sum := "8d8565ac03196d6be9dfb5c29141eedc7c87738748eca3a4504175589510c3d6", func := "locket/locketlaw10.PolicyRotates", spec := "policyRotates", unfollowed := true, recurses := true, apart := false }
def PolicyRotatesSaid : Prop := policyRotatesRow.holds Try.pinned (OpenSpec.ofChange policyRotatesSpec)

/-- ITS FALSE NEIGHBOUR: 'it returns false'. Refute it at one input. -/
def policyRotatesWrong : ChangeSpec := { name := "policyRotates", fn := fun _ => fun
  | [d1, d2, d3] => { results := [.lit (.bool false)], args := [d1, d2, d3] }
  | _ => none }
def PolicyRotatesWrongFalsely : Prop := policyRotatesRow.holds Try.pinned (OpenSpec.ofChange policyRotatesWrong)

/- THE SECOND FORM. 'bulk': how many values and letters a reading holds, each counted each time it is reached (what is shared counts as often as it is met; a slice's spare places count too). A statement '..UptoSaid' is the law's where the arguments, and the package variables that the reading takes, are together of bulk at most 1048576: NARROWER than '..Said'. Prove '..Said' where nothing that the law and all that it calls make is longer than what came in: it says more and counts as full. Else prove '..UptoSaid'. A law counts once. -/
mutual
def uptoBulk {H : Type} : DataW H → Nat
  | .lit (.string bytes) => bytes.length + 1
  | .lit _ => 1
  | .nil => 1
  | .ptr d => uptoBulk d + 1
  | .slice elems spare => uptoBulkAll elems + uptoBulkAll spare + 1
  | .agg parts => uptoBulkAll parts + 1
  | .iface _ d => uptoBulk d + 1
  | .map entries => uptoBulkEntries entries + 1
  | .held _ => 1
def uptoBulkAll {H : Type} : List (DataW H) → Nat
  | [] => 0
  | d :: r => uptoBulk d + uptoBulkAll r
def uptoBulkEntries {H : Type} : List (Lit × DataW H) → Nat
  | [] => 0
  | x :: r => uptoBulkEntry x + uptoBulkEntries r
def uptoBulkEntry {H : Type} : Lit × DataW H → Nat
  | (.string bytes, d) => bytes.length + uptoBulk d + 1
  | (_, d) => uptoBulk d + 1
 end
def uptoSmall : (H : Type) → List (DataW H) → Bool := fun _ ds => decide (uptoBulkAll ds ≤ 1048576)
def OpenSpec.upto (s : _root_.Go.ChangeSpec) : _root_.Go.OpenSpec := { _root_.Go.OpenSpec.ofChange s with cond := some uptoSmall }

/-- 'locketlaw10.PolicyPlays', WHERE WHAT IT READS IS OF BULK AT MOST 1048576: true; the input reads as it did. -/
def policyPlaysUptoRow : OpenClaim := { program := "ytmlnbbggfjgacaa", sum := "8d8565ac03196d6be9dfb5c29141eedc7c87738748eca3a4504175589510c3d6", func := "locket/locketlaw10.PolicyPlays", spec := "policyPlays", unfollowed := true, recurses := true, apart := false, narrowed := true }
def PolicyPlaysUptoSaid : Prop := policyPlaysUptoRow.holds Try.pinned (OpenSpec.upto policyPlaysSpec)

/-- 'locketlaw10.PolicyForms', WHERE WHAT IT READS IS OF BULK AT MOST 1048576: true; the input reads as it did. -/
def policyFormsUptoRow : OpenClaim := { program := "ytmlnbbggfjgacaa", sum := "8d8565ac03196d6be9dfb5c29141eedc7c87738748eca3a4504175589510c3d6", func := "locket/locketlaw10.PolicyForms", spec := "policyForms", unfollowed := true, recurses := true, apart := false, narrowed := true }
def PolicyFormsUptoSaid : Prop := policyFormsUptoRow.holds Try.pinned (OpenSpec.upto policyFormsSpec)

/-- 'locketlaw10.PolicyFounder', WHERE WHAT IT READS IS OF BULK AT MOST 1048576: true; the input reads as it did. -/
def policyFounderUptoRow : OpenClaim := { program := "ytmlnbbggfjgacaa", sum := "8d8565ac03196d6be9dfb5c29141eedc7c87738748eca3a4504175589510c3d6", func := "locket/locketlaw10.PolicyFounder", spec := "policyFounder", unfollowed := true, recurses := true, apart := false, narrowed := true }
def PolicyFounderUptoSaid : Prop := policyFounderUptoRow.holds Try.pinned (OpenSpec.upto policyFounderSpec)

/-- 'locketlaw10.PolicyOwn', WHERE WHAT IT READS IS OF BULK AT MOST 1048576: true; the input reads as it did. -/
def policyOwnUptoRow : OpenClaim := { program := "ytmlnbbggfjgacaa", sum := "8d8565ac03196d6be9dfb5c29141eedc7c87738748eca3a4504175589510c3d6", func := "locket/locketlaw10.PolicyOwn", spec := "policyOwn", unfollowed := true, recurses := true, apart := false, narrowed := true }
def PolicyOwnUptoSaid : Prop := policyOwnUptoRow.holds Try.pinned (OpenSpec.upto policyOwnSpec)

/-- 'locketlaw10.PolicyGrants', WHERE WHAT IT READS IS OF BULK AT MOST 1048576: true; the input reads as it did. -/
def policyGrantsUptoRow : OpenClaim := { program := "ytmlnbbggfjgacaa", sum := "8d8565ac03196d6be9dfb5c29141eedc7c87738748eca3a4504175589510c3d6", func := "locket/locketlaw10.PolicyGrants", spec := "policyGrants", unfollowed := true, recurses := true, apart := false, narrowed := true }
def PolicyGrantsUptoSaid : Prop := policyGrantsUptoRow.holds Try.pinned (OpenSpec.upto policyGrantsSpec)

/-- 'locketlaw10.PolicyRotates', WHERE WHAT IT READS IS OF BULK AT MOST 1048576: true; the input reads as it did. -/
def policyRotatesUptoRow : OpenClaim := { program := "ytmlnbbggfjgacaa", sum := "8d8565ac03196d6be9dfb5c29141eedc7c87738748eca3a4504175589510c3d6", func := "locket/locketlaw10.PolicyRotates", spec := "policyRotates", unfollowed := true, recurses := true, apart := false, narrowed := true }
def PolicyRotatesUptoSaid : Prop := policyRotatesUptoRow.holds Try.pinned (OpenSpec.upto policyRotatesSpec)

end Rows
end Go.Proofs.Ytmlnbbggfjgacaa
