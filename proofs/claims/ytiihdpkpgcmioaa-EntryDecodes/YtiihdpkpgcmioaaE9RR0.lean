/- The document's Right: no kind. -/
import Derived.Test.YtiihdpkpgcmioaaE9RWL
namespace Go.Proofs.Ytiihdpkpgcmioaa.E9
open Go.RowKit C8
set_option maxHeartbeats 4000000 in
theorem rr0x4 (w : World) (a1 a2 a3 a6 a7 a8 : Int) (np vp q : Option Addr) (nc vc c n4 n5 n9 : Nat) (HW : Hid (decide (1 ≤ a2 ∧ a2 ≤ 16) = true)) (s1 : 1 ≤ a3) (s2 : a3 ≤ 1099511627776) (k1 : ¬ a1 = 1) (k2 : ¬ a1 = 2) (k3 : ¬ a1 = 3) (k4 : ¬ a1 = 4) (k5 : ¬ a1 = 5) (p4 : 0 < n4) :
    Calls Try.prog 14 #[.agg #[.int .i64 a1, .int .i64 a2, .int .i64 a3, .slice np n4 nc, .slice vp n5 vc, .int .i64 a6, .int .i64 a7, .int .i64 a8, .slice q n9 c]] w fun e w' => e = .returned (.bool false) ∧ Below w.heap.size w w' := by
  have HB : Hid (∀ o1, Below w.heap.size w (w.alloc o1)) := fun o1 => bel_alloc (Nat.le_refl _) o1
  have kz1 : (a1 == 1) = false := by simp [k1]
  have kz2 : (a1 == 2) = false := by simp [k2]
  have kz3 : (a1 == 3) = false := by simp [k3]
  have kz4 : (a1 == 4) = false := by simp [k4]
  have kz5 : (a1 == 5) = false := by simp [k5]
  have q4 : (0 : Int) < (n4 : Int) := by omega
  go_enter Try.func14, Try.ntmps14
  go_wp2_with (first | (go_at_call 25; refine (who_any _ _).mono ?_; rintro e w1 ⟨he, rfl⟩; (try rw [HW.out] at he); subst he))
  go_ret
  exact ⟨rfl, HB.out _⟩
set_option maxHeartbeats 4000000 in
theorem rr0x5 (w : World) (a1 a2 a3 a6 a7 a8 : Int) (np vp q : Option Addr) (nc vc c n5 n9 : Nat) (HW : Hid (decide (1 ≤ a2 ∧ a2 ≤ 16) = true)) (s1 : 1 ≤ a3) (s2 : a3 ≤ 1099511627776) (k1 : ¬ a1 = 1) (k2 : ¬ a1 = 2) (k3 : ¬ a1 = 3) (k4 : ¬ a1 = 4) (k5 : ¬ a1 = 5) (p5 : 0 < n5) :
    Calls Try.prog 14 #[.agg #[.int .i64 a1, .int .i64 a2, .int .i64 a3, .slice np 0 nc, .slice vp n5 vc, .int .i64 a6, .int .i64 a7, .int .i64 a8, .slice q n9 c]] w fun e w' => e = .returned (.bool false) ∧ Below w.heap.size w w' := by
  have HB : Hid (∀ o1, Below w.heap.size w (w.alloc o1)) := fun o1 => bel_alloc (Nat.le_refl _) o1
  have kz1 : (a1 == 1) = false := by simp [k1]
  have kz2 : (a1 == 2) = false := by simp [k2]
  have kz3 : (a1 == 3) = false := by simp [k3]
  have kz4 : (a1 == 4) = false := by simp [k4]
  have kz5 : (a1 == 5) = false := by simp [k5]
  have q5 : (0 : Int) < (n5 : Int) := by omega
  go_enter Try.func14, Try.ntmps14
  go_wp2_with (first | (go_at_call 25; refine (who_any _ _).mono ?_; rintro e w1 ⟨he, rfl⟩; (try rw [HW.out] at he); subst he))
  go_ret
  exact ⟨rfl, HB.out _⟩
set_option maxHeartbeats 4000000 in
theorem rr0x6 (w : World) (a1 a2 a3 a6 a7 a8 : Int) (np vp q : Option Addr) (nc vc c n9 : Nat) (HW : Hid (decide (1 ≤ a2 ∧ a2 ≤ 16) = true)) (s1 : 1 ≤ a3) (s2 : a3 ≤ 1099511627776) (k1 : ¬ a1 = 1) (k2 : ¬ a1 = 2) (k3 : ¬ a1 = 3) (k4 : ¬ a1 = 4) (k5 : ¬ a1 = 5) (z6 : ¬ a6 = 0) :
    Calls Try.prog 14 #[.agg #[.int .i64 a1, .int .i64 a2, .int .i64 a3, .slice np 0 nc, .slice vp 0 vc, .int .i64 a6, .int .i64 a7, .int .i64 a8, .slice q n9 c]] w fun e w' => e = .returned (.bool false) ∧ Below w.heap.size w w' := by
  have HB : Hid (∀ o1, Below w.heap.size w (w.alloc o1)) := fun o1 => bel_alloc (Nat.le_refl _) o1
  have kz1 : (a1 == 1) = false := by simp [k1]
  have kz2 : (a1 == 2) = false := by simp [k2]
  have kz3 : (a1 == 3) = false := by simp [k3]
  have kz4 : (a1 == 4) = false := by simp [k4]
  have kz5 : (a1 == 5) = false := by simp [k5]
  have y6 : (a6 == 0) = false := by simp [z6]
  go_enter Try.func14, Try.ntmps14
  go_wp2_with (first | (go_at_call 25; refine (who_any _ _).mono ?_; rintro e w1 ⟨he, rfl⟩; (try rw [HW.out] at he); subst he))
  go_ret
  exact ⟨rfl, HB.out _⟩
set_option maxHeartbeats 4000000 in
theorem rr0x7 (w : World) (a1 a2 a3 a7 a8 : Int) (np vp q : Option Addr) (nc vc c n9 : Nat) (HW : Hid (decide (1 ≤ a2 ∧ a2 ≤ 16) = true)) (s1 : 1 ≤ a3) (s2 : a3 ≤ 1099511627776) (k1 : ¬ a1 = 1) (k2 : ¬ a1 = 2) (k3 : ¬ a1 = 3) (k4 : ¬ a1 = 4) (k5 : ¬ a1 = 5) (z7 : ¬ a7 = 0) :
    Calls Try.prog 14 #[.agg #[.int .i64 a1, .int .i64 a2, .int .i64 a3, .slice np 0 nc, .slice vp 0 vc, .int .i64 0, .int .i64 a7, .int .i64 a8, .slice q n9 c]] w fun e w' => e = .returned (.bool false) ∧ Below w.heap.size w w' := by
  have HB : Hid (∀ o1, Below w.heap.size w (w.alloc o1)) := fun o1 => bel_alloc (Nat.le_refl _) o1
  have kz1 : (a1 == 1) = false := by simp [k1]
  have kz2 : (a1 == 2) = false := by simp [k2]
  have kz3 : (a1 == 3) = false := by simp [k3]
  have kz4 : (a1 == 4) = false := by simp [k4]
  have kz5 : (a1 == 5) = false := by simp [k5]
  have y7 : (a7 == 0) = false := by simp [z7]
  go_enter Try.func14, Try.ntmps14
  go_wp2_with (first | (go_at_call 25; refine (who_any _ _).mono ?_; rintro e w1 ⟨he, rfl⟩; (try rw [HW.out] at he); subst he))
  go_ret
  exact ⟨rfl, HB.out _⟩
set_option maxHeartbeats 4000000 in
theorem rr0x8 (w : World) (a1 a2 a3 a8 : Int) (np vp q : Option Addr) (nc vc c n9 : Nat) (HW : Hid (decide (1 ≤ a2 ∧ a2 ≤ 16) = true)) (s1 : 1 ≤ a3) (s2 : a3 ≤ 1099511627776) (k1 : ¬ a1 = 1) (k2 : ¬ a1 = 2) (k3 : ¬ a1 = 3) (k4 : ¬ a1 = 4) (k5 : ¬ a1 = 5) (z8 : ¬ a8 = 0) :
    Calls Try.prog 14 #[.agg #[.int .i64 a1, .int .i64 a2, .int .i64 a3, .slice np 0 nc, .slice vp 0 vc, .int .i64 0, .int .i64 0, .int .i64 a8, .slice q n9 c]] w fun e w' => e = .returned (.bool false) ∧ Below w.heap.size w w' := by
  have HB : Hid (∀ o1, Below w.heap.size w (w.alloc o1)) := fun o1 => bel_alloc (Nat.le_refl _) o1
  have kz1 : (a1 == 1) = false := by simp [k1]
  have kz2 : (a1 == 2) = false := by simp [k2]
  have kz3 : (a1 == 3) = false := by simp [k3]
  have kz4 : (a1 == 4) = false := by simp [k4]
  have kz5 : (a1 == 5) = false := by simp [k5]
  have y8 : (a8 == 0) = false := by simp [z8]
  go_enter Try.func14, Try.ntmps14
  go_wp2_with (first | (go_at_call 25; refine (who_any _ _).mono ?_; rintro e w1 ⟨he, rfl⟩; (try rw [HW.out] at he); subst he))
  go_ret
  exact ⟨rfl, HB.out _⟩
set_option maxHeartbeats 4000000 in
theorem rr0x9 (w : World) (a1 a2 a3 : Int) (np vp q : Option Addr) (nc vc c n9 : Nat) (HW : Hid (decide (1 ≤ a2 ∧ a2 ≤ 16) = true)) (s1 : 1 ≤ a3) (s2 : a3 ≤ 1099511627776) (k1 : ¬ a1 = 1) (k2 : ¬ a1 = 2) (k3 : ¬ a1 = 3) (k4 : ¬ a1 = 4) (k5 : ¬ a1 = 5) (p9 : 0 < n9) :
    Calls Try.prog 14 #[.agg #[.int .i64 a1, .int .i64 a2, .int .i64 a3, .slice np 0 nc, .slice vp 0 vc, .int .i64 0, .int .i64 0, .int .i64 0, .slice q n9 c]] w fun e w' => e = .returned (.bool false) ∧ Below w.heap.size w w' := by
  have HB : Hid (∀ o1, Below w.heap.size w (w.alloc o1)) := fun o1 => bel_alloc (Nat.le_refl _) o1
  have kz1 : (a1 == 1) = false := by simp [k1]
  have kz2 : (a1 == 2) = false := by simp [k2]
  have kz3 : (a1 == 3) = false := by simp [k3]
  have kz4 : (a1 == 4) = false := by simp [k4]
  have kz5 : (a1 == 5) = false := by simp [k5]
  have q9 : (0 : Int) < (n9 : Int) := by omega
  go_enter Try.func14, Try.ntmps14
  go_wp2_with (first | (go_at_call 25; refine (who_any _ _).mono ?_; rintro e w1 ⟨he, rfl⟩; (try rw [HW.out] at he); subst he))
  go_ret
  exact ⟨rfl, HB.out _⟩
set_option maxHeartbeats 4000000 in
theorem rr0a (w : World) (a1 a2 a3 : Int) (np vp q : Option Addr) (nc vc c  : Nat) (HW : Hid (decide (1 ≤ a2 ∧ a2 ≤ 16) = true)) (s1 : 1 ≤ a3) (s2 : a3 ≤ 1099511627776) (k1 : ¬ a1 = 1) (k2 : ¬ a1 = 2) (k3 : ¬ a1 = 3) (k4 : ¬ a1 = 4) (k5 : ¬ a1 = 5)  :
    Calls Try.prog 14 #[.agg #[.int .i64 a1, .int .i64 a2, .int .i64 a3, .slice np 0 nc, .slice vp 0 vc, .int .i64 0, .int .i64 0, .int .i64 0, .slice q 0 c]] w fun e w' => e = .returned (.bool false) ∧ Below w.heap.size w w' := by
  have HB : Hid (∀ o1, Below w.heap.size w (w.alloc o1)) := fun o1 => bel_alloc (Nat.le_refl _) o1
  have kz1 : (a1 == 1) = false := by simp [k1]
  have kz2 : (a1 == 2) = false := by simp [k2]
  have kz3 : (a1 == 3) = false := by simp [k3]
  have kz4 : (a1 == 4) = false := by simp [k4]
  have kz5 : (a1 == 5) = false := by simp [k5]
  go_enter Try.func14, Try.ntmps14
  go_wp2_with (first | (go_at_call 25; refine (who_any _ _).mono ?_; rintro e w1 ⟨he, rfl⟩; (try rw [HW.out] at he); subst he))
  go_ret
  exact ⟨rfl, HB.out _⟩
end Go.Proofs.Ytiihdpkpgcmioaa.E9
