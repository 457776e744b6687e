/- The contract of First. -/
import Derived.Test.YtmlnbbggfjgacaaP10Leaf
import Derived.Laws.ResultCell
import Derived.Test.YtmlnbbggfjgacaaE9D4
namespace Go.Proofs.Ytmlnbbggfjgacaa.P10
open Go.RowKit C8 E9
theorem row3 {w : World} {b : Nat} {t : TypeId} {x0 x1 x2 : Value} (h : w.heap[b]? = some (.cells #[x0, x1, x2] t (0, 0))) (v0 v1 v2 : Value) :
    (((w.setCell ⟨b, 0, none⟩ v0).setCell ⟨b, 1, none⟩ v1).setCell ⟨b, 2, none⟩ v2).heap[b]? = some (.cells #[v0, v1, v2] t (0, 0)) := by
  have k0 : (w.setCell ⟨b, 0, none⟩ v0).heap[b]? = some (.cells #[v0, x1, x2] t (0, 0)) := heap_setCell_same _ b 0 _ t v0 h
  have k1 : ((w.setCell ⟨b, 0, none⟩ v0).setCell ⟨b, 1, none⟩ v1).heap[b]? = some (.cells #[v0, v1, x2] t (0, 0)) := heap_setCell_same _ b 1 _ t v1 k0
  have k2 : (((w.setCell ⟨b, 0, none⟩ v0).setCell ⟨b, 1, none⟩ v1).setCell ⟨b, 2, none⟩ v2).heap[b]? = some (.cells #[v0, v1, v2] t (0, 0)) := heap_setCell_same _ b 2 _ t v2 k1
  exact k2
theorem only3 (w : World) (b : Nat) (v0 v1 v2 : Value) : Only [b] w (((w.setCell ⟨b, 0, none⟩ v0).setCell ⟨b, 1, none⟩ v1).setCell ⟨b, 2, none⟩ v2) :=
  ((Only.setCell _ _ _ (by simp)).trans (Only.setCell _ _ _ (by simp))).trans (Only.setCell _ _ _ (by simp))
theorem bel3c {w0 w : World} {b A : Nat} (h : Below A w0 w) (hb : A ≤ b) (v0 v1 v2 : Value) : Below A w0 (((w.setCell ⟨b, 0, none⟩ v0).setCell ⟨b, 1, none⟩ v1).setCell ⟨b, 2, none⟩ v2) :=
  (((h.setCell (p := ⟨b, 0, none⟩) hb v0).setCell (p := ⟨b, 1, none⟩) hb v1).setCell (p := ⟨b, 2, none⟩) hb v2)
/-- No policy. -/
def z3 : Array Value := #[.int .i64 0, .int .i64 0, .slice none 0 0]
/-- The founder's policy. -/
def pfirst (n : Int) : Pol := ⟨n, 0, [(n, 7)]⟩
set_option maxHeartbeats 4000000 in
theorem First_bad (n : Int) (w : World) (h : n < 1 ∨ 16 < n) : Calls Try.prog 10 #[.int .i64 n] w fun e w' => e = .returned (.tuple #[.agg z3, .int .i64 10]) ∧ Below w.heap.size w w' := by
  have HC24 : ∀ W, Calls Try.prog 24 #[.int .i64 n, .int .i64 1, .int .i64 16] W fun e w' => e = .returned (.bool false) ∧ w' = W := fun W => pwithin_no _ _ _ W h
  have HZ : Hid ((w.alloc (.cells #[.int .i64 0, .int .i64 0, .slice none 0 0] 26)).heap[w.heap.size]? = some (.cells #[.int .i64 0, .int .i64 0, .slice none 0 0] 26 (0, 0))) := heap_alloc_new w _
  have HB : Hid (Below w.heap.size w (w.alloc (.cells #[.int .i64 0, .int .i64 0, .slice none 0 0] 26))) := bel_alloc (Nat.le_refl _) _
  go_enter Try.func10, Try.ntmps10
  go_wp2_with (first | (go_at_call 24; with_reducible refine (HC24 _).mono ?_; rintro e w1 ⟨rfl, rfl⟩))
  exact bodyPost_ret (results_row2 rfl _ _ w.heap.size 26 _ (0, 0) _ rfl HZ.out Try.underlying26 rfl (by kernel_rfl)) rfl ⟨rfl, HB.out⟩
set_option maxHeartbeats 4000000 in
theorem First_ok (n : Int) (w : World) (h : 1 ≤ n ∧ n ≤ 16) : Calls Try.prog 10 #[.int .i64 n] w fun e w' => ∃ v, e = .returned (.tuple #[v, .int .i64 0]) ∧ PolIs w' v (pfirst n) ∧ Below w.heap.size w w' := by
  have HC24 : ∀ W, Calls Try.prog 24 #[.int .i64 n, .int .i64 1, .int .i64 16] W fun e w' => e = .returned (.bool true) ∧ w' = W := fun W => pwithin_yes _ _ _ W h.1 h.2
  have HZ : Hid (∀ o, ((w.alloc (.cells #[.int .i64 n, .int .i64 0, .slice (some ⟨w.heap.size + 1, 0, none⟩) 1 1] 26)).alloc o).heap[w.heap.size]? = some (.cells #[.int .i64 n, .int .i64 0, .slice (some ⟨w.heap.size + 1, 0, none⟩) 1 1] 26 (0, 0))) := fun o => heap_alloc2_old w _ o
  have HM : Hid (((w.alloc (.cells #[.int .i64 n, .int .i64 0, .slice (some ⟨w.heap.size + 1, 0, none⟩) 1 1] 26)).alloc (.cells #[.int .i64 n, .int .i64 7] 50)).heap[w.heap.size + 1]? = some (.cells #[.int .i64 n, .int .i64 7] 50 (0, 0))) := heap_alloc2_new w _ _
  have HB : Hid (∀ o, Below w.heap.size w ((w.alloc (.cells #[.int .i64 n, .int .i64 0, .slice (some ⟨w.heap.size + 1, 0, none⟩) 1 1] 26)).alloc o)) := fun o => (bel_alloc (Nat.le_refl _) _).trans (bel_alloc (by simp) _)
  clear h
  go_enter Try.func10, Try.ntmps10
  go_wp2_with (first | (go_at_call 24; with_reducible refine (HC24 _).mono ?_; rintro e w1 ⟨rfl, rfl⟩))
  refine bodyPost_ret (results_row2 rfl _ _ w.heap.size 26 _ (0, 0) _ rfl (HZ.out _) Try.underlying26 rfl (by kernel_rfl)) rfl ⟨_, rfl, ⟨some ⟨w.heap.size + 1, 0, none⟩, 1, rfl, fun j hj => ?_, by simp [pfirst]⟩, HB.out _⟩
  have hr := HM.out
  obtain rfl : j = 0 := by simp [pfirst] at hj; exact hj
  refine ⟨w.heap.size + 1, 0, rfl, (Array.getElem?_eq_some_iff.1 hr).1, ?_, ?_⟩
  · rw [cell_of_row _ _ _ _ _ _ hr]; rfl
  · rw [cell_of_row _ _ _ _ _ _ hr]; rfl
end Go.Proofs.Ytmlnbbggfjgacaa.P10
