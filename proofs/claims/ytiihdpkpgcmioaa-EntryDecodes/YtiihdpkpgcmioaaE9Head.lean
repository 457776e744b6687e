/- How every statement begins: the entry in its box, the anchor, whether it is small. -/
import Derived.Test.YtiihdpkpgcmioaaE9Anc
import Derived.Test.YtiihdpkpgcmioaaE9Small
namespace Go.Proofs.Ytiihdpkpgcmioaa.E9
open Go.RowKit C8
/-- An entry in the box that the statement began with. -/
structure St9 (w W : World) (b : Nat) (C : Array Value) : Prop where
  bel : Below w.heap.size w W
  box : W.heap[b]? = some (.cells C 25 (0, 0))
theorem St9.step {w W W' : World} {b : Nat} {C : Array Value} (h : St9 w W b C) (hb : Below W.heap.size W W') : St9 w W' b C :=
  ⟨h.bel.trans (bel_le hb h.bel.size), (hb.block _ (Array.getElem?_eq_some_iff.1 h.box).1).trans h.box⟩
theorem St9.start (w : World) (C : Array Value) : St9 w (w.alloc (.cells C 25)) w.heap.size C := ⟨bel_alloc (Nat.le_refl _) _, heap_alloc_new w _⟩
theorem St9.cells {w W : World} {b : Nat} {x0 x1 x2 x3 x4 x5 x6 x7 x8 : Value} (h : St9 w W b #[x0, x1, x2, x3, x4, x5, x6, x7, x8]) : W.cell? ⟨b, 0, none⟩ = some (x0) ∧ W.cell? ⟨b, 1, none⟩ = some (x1) ∧ W.cell? ⟨b, 2, none⟩ = some (x2) ∧ W.cell? ⟨b, 3, none⟩ = some (x3) ∧ W.cell? ⟨b, 4, none⟩ = some (x4) ∧ W.cell? ⟨b, 5, none⟩ = some (x5) ∧ W.cell? ⟨b, 6, none⟩ = some (x6) ∧ W.cell? ⟨b, 7, none⟩ = some (x7) ∧ W.cell? ⟨b, 8, none⟩ = some (x8) := by
  refine ⟨?_, ?_, ?_, ?_, ?_, ?_, ?_, ?_, ?_⟩ <;> (rw [cell_of_row _ _ _ _ _ _ h.box]; rfl)
theorem anchor_st {w : World} (W : World) : Calls Try.prog 9 #[] W fun e w' => e = .returned (.bool true) ∧ Below W.heap.size W w' ∧ (Below w.heap.size w W → Below w.heap.size w w') :=
  (anchor_any W).mono (by rintro e w' ⟨rfl, h⟩; exact ⟨rfl, h, fun k => k.trans (bel_le h k.size)⟩)
end Go.Proofs.Ytiihdpkpgcmioaa.E9
