/- Pairs of counts that lie in boxes of their own: what is read of them, and that they stay. -/
import Derived.Test.YtbppipnnmmddaaaT6Pair
namespace Go.Proofs.Ytbppipnnmmddaaa
open Go.RowKit Ieee
theorem belowLe {B B' : Nat} {w w' : World} (h : Below B w w') (hb : B' ≤ B) : Below B' w w' := ⟨h.os, h.tape, h.output, h.size, fun k hk => h.block k (by omega)⟩
/-- A pair's box. -/
def bx (x y : Int) : Obj := .cells #[.int .i64 x, .int .i64 y] 23
/-- At block g lies the pair's box. -/
def PB (W : World) (g : Nat) (x y : Int) : Prop := W.heap[g]? = some (bx x y)
theorem PB.c0 {W : World} {g : Nat} {x y : Int} (h : PB W g x y) : W.cell? ⟨g, 0, none⟩ = some (.int .i64 x) := cell_of_row _ _ _ _ _ _ h
theorem PB.c1 {W : World} {g : Nat} {x y : Int} (h : PB W g x y) : W.cell? ⟨g, 1, none⟩ = some (.int .i64 y) := cell_of_row _ _ _ _ _ _ h
theorem PB.below {W W' : World} {g K : Nat} {x y : Int} (h : PB W g x y) (b : Below K W W') (hk : g < K) : PB W' g x y := (b.block g hk).trans h
/-- One pair's box lies behind what was there. -/
structure At1 (w0 : World) (x y : Int) (W : World) : Prop where
  bel : Below w0.heap.size w0 W
  sz : w0.heap.size < W.heap.size
  p : PB W w0.heap.size x y
theorem At1.start (w : World) (x y : Int) : At1 w x y (w.alloc (bx x y)) :=
  ⟨below_box _ _, by simp, by show (w.heap.push _)[_]? = _; rw [Array.getElem?_push_size]⟩
theorem At1.next {w0 W W' : World} {x y : Int} (h : At1 w0 x y W) (b : Below W.heap.size W W') : At1 w0 x y W' :=
  ⟨h.bel.trans (belowLe b (Nat.le_of_lt h.sz)), Nat.lt_of_lt_of_le h.sz b.size, h.p.below b h.sz⟩
theorem below_of {w w' : World} {k : Nat} (h : w' = w.drewN k) : Below w.heap.size w w' := h ▸ below_drewN w k
/-- Two pairs' boxes lie behind what was there. -/
structure At2 (w0 : World) (x y u v : Int) (W : World) : Prop where
  bel : Below w0.heap.size w0 W
  sz : w0.heap.size + 1 < W.heap.size
  p : PB W w0.heap.size x y
  q : PB W (w0.heap.size + 1) u v
theorem At2.start (w : World) (x y u v : Int) : At2 w x y u v ((w.alloc (bx x y)).alloc (bx u v)) :=
  ⟨(below_box _ _).alloc (by simp) _, by simp, by show ((w.heap.push _).push _)[_]? = _; rw [Array.getElem?_push_lt (by simp), Array.getElem_push_eq], by show ((w.heap.push _).push _)[_]? = _; rw [Array.getElem?_push, if_pos (by simp)]⟩
theorem At2.next {w0 W W' : World} {x y u v : Int} (h : At2 w0 x y u v W) (b : Below W.heap.size W W') : At2 w0 x y u v W' :=
  ⟨h.bel.trans (belowLe b (by have := h.sz; omega)), Nat.lt_of_lt_of_le h.sz b.size, h.p.below b (by have := h.sz; omega), h.q.below b h.sz⟩
theorem At2.drew {w0 W : World} {x y u v : Int} (h : At2 w0 x y u v W) : At2 w0 x y u v W.drew := ⟨h.bel.drew, h.sz, h.p, h.q⟩
end Go.Proofs.Ytbppipnnmmddaaa
