/- The document's Right: the kind 5. -/
import Derived.Test.YtiihdpkpgcmioaaE9RWL
namespace Go.Proofs.Ytiihdpkpgcmioaa.E9
open Go.RowKit C8
set_option maxHeartbeats 4000000 in
theorem rr5x4 (w : World) (a2 a3 a6 a7 a8 : Int) (np vp q : Option Addr) (nc vc c n4 n5 n9 : Nat) (HW : Hid (decide (1 ≤ a2 ∧ a2 ≤ 16) = true)) (s1 : 1 ≤ a3) (s2 : a3 ≤ 1099511627776)  (p4 : 0 < n4) :
    Calls Try.prog 14 #[.agg #[.int .i64 5, .int .i64 a2, .int .i64 a3, .slice np n4 nc, .slice vp n5 vc, .int .i64 a6, .int .i64 a7, .int .i64 a8, .slice q n9 c]] w fun e w' => e = .returned (.bool false) ∧ Below w.heap.size w w' := by
  have HB : Hid (∀ o1, Below w.heap.size w (w.alloc o1)) := fun o1 => bel_alloc (Nat.le_refl _) o1
  have q4 : (0 : Int) < (n4 : Int) := by omega
  go_enter Try.func14, Try.ntmps14
  go_wp2_with (first | (go_at_call 25; refine (who_any _ _).mono ?_; rintro e w1 ⟨he, rfl⟩; (try rw [HW.out] at he); subst he))
  go_ret
  exact ⟨rfl, HB.out _⟩
set_option maxHeartbeats 4000000 in
theorem rr5x5 (w : World) (a2 a3 a6 a7 a8 : Int) (np vp q : Option Addr) (nc vc c n5 n9 : Nat) (HW : Hid (decide (1 ≤ a2 ∧ a2 ≤ 16) = true)) (s1 : 1 ≤ a3) (s2 : a3 ≤ 1099511627776)  (p5 : 0 < n5) :
    Calls Try.prog 14 #[.agg #[.int .i64 5, .int .i64 a2, .int .i64 a3, .slice np 0 nc, .slice vp n5 vc, .int .i64 a6, .int .i64 a7, .int .i64 a8, .slice q n9 c]] w fun e w' => e = .returned (.bool false) ∧ Below w.heap.size w w' := by
  have HB : Hid (∀ o1, Below w.heap.size w (w.alloc o1)) := fun o1 => bel_alloc (Nat.le_refl _) o1
  have q5 : (0 : Int) < (n5 : Int) := by omega
  go_enter Try.func14, Try.ntmps14
  go_wp2_with (first | (go_at_call 25; refine (who_any _ _).mono ?_; rintro e w1 ⟨he, rfl⟩; (try rw [HW.out] at he); subst he))
  go_ret
  exact ⟨rfl, HB.out _⟩
set_option maxHeartbeats 4000000 in
theorem rr5x6 (w : World) (a2 a3 a6 a7 a8 : Int) (np vp q : Option Addr) (nc vc c n9 : Nat) (HW : Hid (decide (1 ≤ a2 ∧ a2 ≤ 16) = true)) (s1 : 1 ≤ a3) (s2 : a3 ≤ 1099511627776)  (z6 : ¬ a6 = 0) :
    Calls Try.prog 14 #[.agg #[.int .i64 5, .int .i64 a2, .int .i64 a3, .slice np 0 nc, .slice vp 0 vc, .int .i64 a6, .int .i64 a7, .int .i64 a8, .slice q n9 c]] w fun e w' => e = .returned (.bool false) ∧ Below w.heap.size w w' := by
  have HB : Hid (∀ o1, Below w.heap.size w (w.alloc o1)) := fun o1 => bel_alloc (Nat.le_refl _) o1
  have y6 : (a6 == 0) = false := by simp [z6]
  go_enter Try.func14, Try.ntmps14
  go_wp2_with (first | (go_at_call 25; refine (who_any _ _).mono ?_; rintro e w1 ⟨he, rfl⟩; (try rw [HW.out] at he); subst he))
  go_ret
  exact ⟨rfl, HB.out _⟩
set_option maxHeartbeats 4000000 in
theorem rr5x7 (w : World) (a2 a3 a7 a8 : Int) (np vp q : Option Addr) (nc vc c n9 : Nat) (HW : Hid (decide (1 ≤ a2 ∧ a2 ≤ 16) = true)) (s1 : 1 ≤ a3) (s2 : a3 ≤ 1099511627776)  (z7 : ¬ a7 = 0) :
    Calls Try.prog 14 #[.agg #[.int .i64 5, .int .i64 a2, .int .i64 a3, .slice np 0 nc, .slice vp 0 vc, .int .i64 0, .int .i64 a7, .int .i64 a8, .slice q n9 c]] w fun e w' => e = .returned (.bool false) ∧ Below w.heap.size w w' := by
  have HB : Hid (∀ o1, Below w.heap.size w (w.alloc o1)) := fun o1 => bel_alloc (Nat.le_refl _) o1
  have y7 : (a7 == 0) = false := by simp [z7]
  go_enter Try.func14, Try.ntmps14
  go_wp2_with (first | (go_at_call 25; refine (who_any _ _).mono ?_; rintro e w1 ⟨he, rfl⟩; (try rw [HW.out] at he); subst he))
  go_ret
  exact ⟨rfl, HB.out _⟩
set_option maxHeartbeats 4000000 in
theorem rr5a (w : World) (a2 a3 a8 : Int) (np vp q : Option Addr) (nc vc c n9 : Nat) (HW : Hid (decide (1 ≤ a2 ∧ a2 ≤ 16) = true)) (s1 : 1 ≤ a3) (s2 : a3 ≤ 1099511627776)  (p8 : a8 < 1) :
    Calls Try.prog 14 #[.agg #[.int .i64 5, .int .i64 a2, .int .i64 a3, .slice np 0 nc, .slice vp 0 vc, .int .i64 0, .int .i64 0, .int .i64 a8, .slice q n9 c]] w fun e w' => e = .returned (.bool false) ∧ Below w.heap.size w w' := by
  have HB : Hid (∀ o1, Below w.heap.size w (w.alloc o1)) := fun o1 => bel_alloc (Nat.le_refl _) o1
  have q8 : ¬ 1 ≤ a8 := by omega
  go_enter Try.func14, Try.ntmps14
  go_wp2_with (first | (go_at_call 25; refine (who_any _ _).mono ?_; rintro e w1 ⟨he, rfl⟩; (try rw [HW.out] at he); subst he))
  go_ret
  exact ⟨rfl, HB.out _⟩
set_option maxHeartbeats 4000000 in
theorem rr5b (w : World) (a2 a3 a8 : Int) (np vp q : Option Addr) (nc vc c n9 : Nat) (HW : Hid (decide (1 ≤ a2 ∧ a2 ≤ 16) = true)) (s1 : 1 ≤ a3) (s2 : a3 ≤ 1099511627776)  (p8 : 1 ≤ a8) (p9 : 16 < a8) :
    Calls Try.prog 14 #[.agg #[.int .i64 5, .int .i64 a2, .int .i64 a3, .slice np 0 nc, .slice vp 0 vc, .int .i64 0, .int .i64 0, .int .i64 a8, .slice q n9 c]] w fun e w' => e = .returned (.bool false) ∧ Below w.heap.size w w' := by
  have HB : Hid (∀ o1, Below w.heap.size w (w.alloc o1)) := fun o1 => bel_alloc (Nat.le_refl _) o1
  have q8 : ¬ a8 ≤ 16 := by omega
  go_enter Try.func14, Try.ntmps14
  go_wp2_with (first | (go_at_call 25; refine (who_any _ _).mono ?_; rintro e w1 ⟨he, rfl⟩; (try rw [HW.out] at he); subst he))
  go_ret
  exact ⟨rfl, HB.out _⟩
set_option maxHeartbeats 4000000 in
theorem rr5c (w : World) (a2 a3 a8 : Int) (np vp q : Option Addr) (nc vc c n9 : Nat) (HW : Hid (decide (1 ≤ a2 ∧ a2 ≤ 16) = true)) (s1 : 1 ≤ a3) (s2 : a3 ≤ 1099511627776)  (p8 : 1 ≤ a8) (p9 : a8 ≤ 16) (r : Bool) (HWR : ∀ W, Hid (Below w.heap.size w W) → Calls Try.prog 26 #[.slice q n9 c] W fun e w' => e = .returned (.bool r) ∧ Hid (Below w.heap.size w w')) :
    Calls Try.prog 14 #[.agg #[.int .i64 5, .int .i64 a2, .int .i64 a3, .slice np 0 nc, .slice vp 0 vc, .int .i64 0, .int .i64 0, .int .i64 a8, .slice q n9 c]] w fun e w' => e = .returned (.bool r) ∧ Below w.heap.size w w' := by
  have HB : Hid (∀ o1, Below w.heap.size w (w.alloc o1)) := fun o1 => bel_alloc (Nat.le_refl _) o1
  go_enter Try.func14, Try.ntmps14
  go_wp2_with (first | (go_at_call 25; refine (who_any _ _).mono ?_; rintro e w1 ⟨he, rfl⟩; (try rw [HW.out] at he); subst he) | (go_at_call 26; refine (HWR _ (HB.out _)).mono ?_; rintro e w2 ⟨rfl, HB1⟩))
  go_ret
  exact ⟨rfl, HB1.out⟩
end Go.Proofs.Ytiihdpkpgcmioaa.E9
