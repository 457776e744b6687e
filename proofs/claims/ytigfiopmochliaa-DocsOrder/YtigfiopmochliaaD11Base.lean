/- What the walks of the five statements share. -/
import Derived.Test.YtigfiopmochliaaD11Anc
import Derived.Test.YtigfiopmochliaaD11Same
import Derived.Test.YtigfiopmochliaaD11Rd
import Derived.Test.YtigfiopmochliaaE9Small
import Derived.Test.YtigfiopmochliaaP10Ents
import Derived.Test.YtigfiopmochliaaE9RRA
namespace Go.Proofs.Ytigfiopmochliaa.D11
open Go.RowKit C8 E9 P10
theorem after_len (L : Col) (a : En) : (after L a).1.length ≤ L.length + 1 := by
  unfold after
  have h1 := length_ins_le a.name a.value L
  have h2 := length_del_le a.name L
  split
  · split
    · exact h1
    · split
      · split
        · simp only; omega
        · simp
      · simp
  · simp
/-- A collection of the call's own: its blocks lie behind what was there at W. -/
structure Pl (W w : World) (p b : Nat) (L : Col) : Prop where
  bel : Below W.heap.size W w
  dc : DcIs w p b L
  lp : W.heap.size ≤ p
  lb : W.heap.size ≤ b
section
variable {W w w' : World} {p b : Nat} {L : Col}
theorem Pl.step (h : Pl W w p b L) (hb : Below w.heap.size w w') : Pl W w' p b L := ⟨h.bel.trans (bel_le hb h.bel.size), h.dc.below hb, h.lp, h.lb⟩
theorem Pl.turn (h : Pl W w p b L) {M : Col} (hd : DcIs w' p b M) (ho : Only [b] w w') : Pl W w' p b M := ⟨h.bel.trans (ho.below h.bel.size (by simpa using h.lb)), hd, h.lp, h.lb⟩
theorem Pl.new (hb : Below W.heap.size W w) (hd : DcIs w' p b L) (hp : w.heap.size ≤ p) (hq : w.heap.size ≤ b) (hb2 : Below w.heap.size w w') : Pl W w' p b L := ⟨hb.trans (bel_le hb2 hb.size), hd, Nat.le_trans hb.size hp, Nat.le_trans hb.size hq⟩
theorem DcIs.isMap (h : DcIs w p b L) : ∀ g ∈ [b], ∃ es c, w.heap[g]? = some (.map es c) := fun g hg => by
  rw [List.mem_singleton.1 hg]
  obtain ⟨es, c, hb, _⟩ := h.own
  exact ⟨es, c, hb⟩
/-- All tells a row of the collection. -/
theorem AllSays.row {e : Ending} (h : AllSays w L e w') : ∃ q c, e = .returned (.slice q L.length c) ∧ DkRow w' q L ∧ Below w.heap.size w w' := by
  obtain ⟨q, c, xs, rfl, hown, hare, hb⟩ := h
  exact ⟨q, c, rfl, AreQ.row (hare.imp (fun v l hx => hx.1)) hown rfl, hb⟩
end
theorem cells9 {w : World} {b : Nat} {t : TypeId} {fr : Nat × Nat} {x0 x1 x2 x3 x4 x5 x6 x7 x8 : Value} (h : w.heap[b]? = some (.cells #[x0, x1, x2, x3, x4, x5, x6, x7, x8] t fr)) :
    w.cell? ⟨b, 0, none⟩ = some x0 ∧ w.cell? ⟨b, 1, none⟩ = some x1 ∧ w.cell? ⟨b, 2, none⟩ = some x2 ∧ w.cell? ⟨b, 3, none⟩ = some x3 ∧ w.cell? ⟨b, 4, none⟩ = some x4 ∧ w.cell? ⟨b, 5, none⟩ = some x5 ∧ w.cell? ⟨b, 6, none⟩ = some x6 ∧ w.cell? ⟨b, 7, none⟩ = some x7 ∧ w.cell? ⟨b, 8, none⟩ = some x8 := by
  refine ⟨?_, ?_, ?_, ?_, ?_, ?_, ?_, ?_, ?_⟩
  all_goals (rw [cell_of_row _ _ _ _ _ _ h]; rfl)
theorem small_eq {a : En} {va : Value} {w : World} {s : Bool} (ha : EnIs w va a) (h : small a = s) : Calls Try.prog 10 #[va] w fun e w' => e = .returned (.bool s) ∧ Below w.heap.size w w' := by
  have := small_any a va w ha
  rwa [h] at this
theorem right_eq {a : En} {va : Value} {w : World} {s : Bool} (ha : EnIs w va a) (h : right a = s) : Calls Try.prog 25 #[va] w fun e w' => e = .returned (.bool s) ∧ Below w.heap.size w w' := by
  have := Right_any a va w ha
  rwa [h] at this
/-- Apply, where what an entry makes is known. -/
theorem apply_eq {w : World} {p b : Nat} {L M : Col} {a : En} {va : Value} {x : Int} (h : DcIs w p b L) (ha : EnIs w va a) (hf : L.length < 1000000) (he : after L a = (M, x)) :
    Calls Try.prog 11 #[.pointer (some ⟨p, 0, none⟩), va] w fun e w' => e = .returned (.int .i64 x) ∧ DcIs w' p b M ∧ Only [b] w w' := by
  refine (Apply_any w p b L a va h ha hf).mono ?_
  unfold ApSays
  rw [he]
  exact fun e w' hx => hx
end Go.Proofs.Ytigfiopmochliaa.D11
