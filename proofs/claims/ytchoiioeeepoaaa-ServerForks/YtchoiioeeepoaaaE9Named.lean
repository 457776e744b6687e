/- The contract of named. -/
import Derived.Test.YtchoiioeeepoaaaE9Eq
namespace Go.Proofs.Ytchoiioeeepoaaa.E9
open Go.RowKit C8
theorem mid3 (w : World) (A B C : Obj) : (((w.alloc A).alloc B).alloc C).heap[w.heap.size + 1]? = some B := by
  rw [Below.heap_alloc _ _ _ (by simp)]
  exact heap_alloc2_new w A B
theorem bel3 (w : World) (A B C : Obj) : Below w.heap.size w (((w.alloc A).alloc B).alloc C) :=
  ((bel_alloc (Nat.le_refl _) A).trans (bel_alloc (by simp) B)).trans (bel_alloc (by simp; omega) C)
theorem EnAt.mk0 {w : World} {e : En} {np : Option Addr} {nc : Nat} {vp : Option Addr} {vc : Nat} {q : Option Addr} (h1 : Src w (.slice np e.name.length nc) e.name) (h2 : Src w (.slice vp e.value.length vc) e.value) (h3 : WrRow w q e.wraps) (ln : e.name.length ≤ 9223372036854775807) (lv : e.value.length ≤ 9223372036854775807) (lw : e.wraps.length ≤ 9223372036854775807) : EnAt w e np nc vp vc q := ⟨h1, h2, h3, ln, lv, lw⟩
end Go.Proofs.Ytchoiioeeepoaaa.E9
