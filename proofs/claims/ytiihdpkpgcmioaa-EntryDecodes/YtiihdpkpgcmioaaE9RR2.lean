/- The document's Right: the kind 2. -/
import Derived.Test.YtiihdpkpgcmioaaE9RWL
namespace Go.Proofs.Ytiihdpkpgcmioaa.E9
open Go.RowKit C8
set_option maxHeartbeats 4000000 in
theorem rr2x5 (w : World) (a2 a3 a6 a7 a8 : Int) (np vp q : Option Addr) (nc vc c n4 n5 n9 : Nat) (HW : Hid (decide (1 ≤ a2 ∧ a2 ≤ 16) = true)) (s1 : 1 ≤ a3) (s2 : a3 ≤ 1099511627776)  (p5 : 0 < n5) :
    Calls Try.prog 14 #[.agg #[.int .i64 2, .int .i64 a2, .int .i64 a3, .slice np n4 nc, .slice vp n5 vc, .int .i64 a6, .int .i64 a7, .int .i64 a8, .slice q n9 c]] w fun e w' => e = .returned (.bool false) ∧ Below w.heap.size w w' := by
  have HB : Hid (∀ o1, Below w.heap.size w (w.alloc o1)) := fun o1 => bel_alloc (Nat.le_refl _) o1
  have q5 : (0 : Int) < (n5 : Int) := by omega
  go_enter Try.func14, Try.ntmps14
  go_wp2_with (first | (go_at_call 25; refine (who_any _ _).mono ?_; rintro e w1 ⟨he, rfl⟩; (try rw [HW.out] at he); subst he))
  go_ret
  exact ⟨rfl, HB.out _⟩
set_option maxHeartbeats 4000000 in
theorem rr2x6 (w : World) (a2 a3 a6 a7 a8 : Int) (np vp q : Option Addr) (nc vc c n4 n9 : Nat) (HW : Hid (decide (1 ≤ a2 ∧ a2 ≤ 16) = true)) (s1 : 1 ≤ a3) (s2 : a3 ≤ 1099511627776)  (z6 : ¬ a6 = 0) :
    Calls Try.prog 14 #[.agg #[.int .i64 2, .int .i64 a2, .int .i64 a3, .slice np n4 nc, .slice vp 0 vc, .int .i64 a6, .int .i64 a7, .int .i64 a8, .slice q n9 c]] w fun e w' => e = .returned (.bool false) ∧ Below w.heap.size w w' := by
  have HB : Hid (∀ o1, Below w.heap.size w (w.alloc o1)) := fun o1 => bel_alloc (Nat.le_refl _) o1
  have y6 : (a6 == 0) = false := by simp [z6]
  go_enter Try.func14, Try.ntmps14
  go_wp2_with (first | (go_at_call 25; refine (who_any _ _).mono ?_; rintro e w1 ⟨he, rfl⟩; (try rw [HW.out] at he); subst he))
  go_ret
  exact ⟨rfl, HB.out _⟩
set_option maxHeartbeats 4000000 in
theorem rr2x7 (w : World) (a2 a3 a7 a8 : Int) (np vp q : Option Addr) (nc vc c n4 n9 : Nat) (HW : Hid (decide (1 ≤ a2 ∧ a2 ≤ 16) = true)) (s1 : 1 ≤ a3) (s2 : a3 ≤ 1099511627776)  (z7 : ¬ a7 = 0) :
    Calls Try.prog 14 #[.agg #[.int .i64 2, .int .i64 a2, .int .i64 a3, .slice np n4 nc, .slice vp 0 vc, .int .i64 0, .int .i64 a7, .int .i64 a8, .slice q n9 c]] w fun e w' => e = .returned (.bool false) ∧ Below w.heap.size w w' := by
  have HB : Hid (∀ o1, Below w.heap.size w (w.alloc o1)) := fun o1 => bel_alloc (Nat.le_refl _) o1
  have y7 : (a7 == 0) = false := by simp [z7]
  go_enter Try.func14, Try.ntmps14
  go_wp2_with (first | (go_at_call 25; refine (who_any _ _).mono ?_; rintro e w1 ⟨he, rfl⟩; (try rw [HW.out] at he); subst he))
  go_ret
  exact ⟨rfl, HB.out _⟩
set_option maxHeartbeats 4000000 in
theorem rr2x8 (w : World) (a2 a3 a8 : Int) (np vp q : Option Addr) (nc vc c n4 n9 : Nat) (HW : Hid (decide (1 ≤ a2 ∧ a2 ≤ 16) = true)) (s1 : 1 ≤ a3) (s2 : a3 ≤ 1099511627776)  (z8 : ¬ a8 = 0) :
    Calls Try.prog 14 #[.agg #[.int .i64 2, .int .i64 a2, .int .i64 a3, .slice np n4 nc, .slice vp 0 vc, .int .i64 0, .int .i64 0, .int .i64 a8, .slice q n9 c]] w fun e w' => e = .returned (.bool false) ∧ Below w.heap.size w w' := by
  have HB : Hid (∀ o1, Below w.heap.size w (w.alloc o1)) := fun o1 => bel_alloc (Nat.le_refl _) o1
  have y8 : (a8 == 0) = false := by simp [z8]
  go_enter Try.func14, Try.ntmps14
  go_wp2_with (first | (go_at_call 25; refine (who_any _ _).mono ?_; rintro e w1 ⟨he, rfl⟩; (try rw [HW.out] at he); subst he))
  go_ret
  exact ⟨rfl, HB.out _⟩
set_option maxHeartbeats 4000000 in
theorem rr2x9 (w : World) (a2 a3 : Int) (np vp q : Option Addr) (nc vc c n4 n9 : Nat) (HW : Hid (decide (1 ≤ a2 ∧ a2 ≤ 16) = true)) (s1 : 1 ≤ a3) (s2 : a3 ≤ 1099511627776)  (p9 : 0 < n9) :
    Calls Try.prog 14 #[.agg #[.int .i64 2, .int .i64 a2, .int .i64 a3, .slice np n4 nc, .slice vp 0 vc, .int .i64 0, .int .i64 0, .int .i64 0, .slice q n9 c]] w fun e w' => e = .returned (.bool false) ∧ Below w.heap.size w w' := by
  have HB : Hid (∀ o1, Below w.heap.size w (w.alloc o1)) := fun o1 => bel_alloc (Nat.le_refl _) o1
  have q9 : (0 : Int) < (n9 : Int) := by omega
  go_enter Try.func14, Try.ntmps14
  go_wp2_with (first | (go_at_call 25; refine (who_any _ _).mono ?_; rintro e w1 ⟨he, rfl⟩; (try rw [HW.out] at he); subst he))
  go_ret
  exact ⟨rfl, HB.out _⟩
set_option maxHeartbeats 4000000 in
theorem rr2a (w : World) (a2 a3 : Int) (np vp q : Option Addr) (nc vc c  : Nat) (HW : Hid (decide (1 ≤ a2 ∧ a2 ≤ 16) = true)) (s1 : 1 ≤ a3) (s2 : a3 ≤ 1099511627776)   :
    Calls Try.prog 14 #[.agg #[.int .i64 2, .int .i64 a2, .int .i64 a3, .slice np 0 nc, .slice vp 0 vc, .int .i64 0, .int .i64 0, .int .i64 0, .slice q 0 c]] w fun e w' => e = .returned (.bool false) ∧ Below w.heap.size w w' := by
  have HB : Hid (∀ o1, Below w.heap.size w (w.alloc o1)) := fun o1 => bel_alloc (Nat.le_refl _) o1
  go_enter Try.func14, Try.ntmps14
  go_wp2_with (first | (go_at_call 25; refine (who_any _ _).mono ?_; rintro e w1 ⟨he, rfl⟩; (try rw [HW.out] at he); subst he))
  go_ret
  exact ⟨rfl, HB.out _⟩
set_option maxHeartbeats 4000000 in
theorem rr2b (w : World) (a2 a3 : Int) (np vp q : Option Addr) (nc vc c n4 : Nat) (HW : Hid (decide (1 ≤ a2 ∧ a2 ≤ 16) = true)) (s1 : 1 ≤ a3) (s2 : a3 ≤ 1099511627776)  (p4 : 64 < n4) :
    Calls Try.prog 14 #[.agg #[.int .i64 2, .int .i64 a2, .int .i64 a3, .slice np n4 nc, .slice vp 0 vc, .int .i64 0, .int .i64 0, .int .i64 0, .slice q 0 c]] w fun e w' => e = .returned (.bool false) ∧ Below w.heap.size w w' := by
  have HB : Hid (∀ o1, Below w.heap.size w (w.alloc o1)) := fun o1 => bel_alloc (Nat.le_refl _) o1
  have q4 : ¬ (n4 : Int) ≤ 64 := by omega
  have q5 : (1 : Int) ≤ (n4 : Int) := by omega
  go_enter Try.func14, Try.ntmps14
  go_wp2_with (first | (go_at_call 25; refine (who_any _ _).mono ?_; rintro e w1 ⟨he, rfl⟩; (try rw [HW.out] at he); subst he))
  go_ret
  exact ⟨rfl, HB.out _⟩
set_option maxHeartbeats 4000000 in
theorem rr2c (w : World) (a2 a3 : Int) (np vp q : Option Addr) (nc vc c n4 : Nat) (HW : Hid (decide (1 ≤ a2 ∧ a2 ≤ 16) = true)) (s1 : 1 ≤ a3) (s2 : a3 ≤ 1099511627776)  (p4 : 1 ≤ n4) (p5 : n4 ≤ 64) :
    Calls Try.prog 14 #[.agg #[.int .i64 2, .int .i64 a2, .int .i64 a3, .slice np n4 nc, .slice vp 0 vc, .int .i64 0, .int .i64 0, .int .i64 0, .slice q 0 c]] w fun e w' => e = .returned (.bool true) ∧ Below w.heap.size w w' := by
  have HB : Hid (∀ o1, Below w.heap.size w (w.alloc o1)) := fun o1 => bel_alloc (Nat.le_refl _) o1
  have q4 : (n4 : Int) ≤ 64 := by omega
  have q5 : (1 : Int) ≤ (n4 : Int) := by omega
  go_enter Try.func14, Try.ntmps14
  go_wp2_with (first | (go_at_call 25; refine (who_any _ _).mono ?_; rintro e w1 ⟨he, rfl⟩; (try rw [HW.out] at he); subst he))
  go_ret
  exact ⟨rfl, HB.out _⟩
end Go.Proofs.Ytiihdpkpgcmioaa.E9
