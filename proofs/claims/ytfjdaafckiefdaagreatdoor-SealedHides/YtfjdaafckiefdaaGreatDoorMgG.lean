/- The document's Right: no kind. -/
import Derived.Test.YtfjdaafckiefdaaGreatDoorE9RWL
namespace Go.Proofs.YtfjdaafckiefdaaGreatDoor.E9
open Go.RowKit C8
set_option maxHeartbeats 4000000 in
theorem rr0x4 (w : World) (a1 a2 a3 a6 a7 a8 : Int) (np vp q : Option Addr) (nc vc c n4 n5 n9 : Nat) (HW : Hid (decide (1 ≤ a2 ∧ a2 ≤ 16) = true)) (s1 : 1 ≤ a3) (s2 : a3 ≤ 1099511627776) (k1 : ¬ a1 = 1) (k2 : ¬ a1 = 2) (k3 : ¬ a1 = 3) (k4 : ¬ a1 = 4) (k5 : ¬ a1 = 5) (p4 : 0 < n4) :
    Calls Tryz.prog 34 #[.agg #[.int .i64 a1, .int .i64 a2, .int .i64 a3, .slice np n4 nc, .slice vp n5 vc, .int .i64 a6, .int .i64 a7, .int .i64 a8, .slice q n9 c]] w fun e w' => e = .returned (.bool false) ∧ Below w.heap.size w w' := by
  have HB : Hid (∀ o1, Below w.heap.size w (w.alloc o1)) := fun o1 => bel_alloc (Nat.le_refl _) o1
  have kz1 : (a1 == 1) = false := by simp [k1]
  have kz2 : (a1 == 2) = false := by simp [k2]
  have kz3 : (a1 == 3) = false := by simp [k3]
  have kz4 : (a1 == 4) = false := by simp [k4]
  have kz5 : (a1 == 5) = false := by simp [k5]
  have q4 : (0 : Int) < (n4 : Int) := by omega
  go_enter Tryz.func34, Tryz.ntmps34
  go_wp2_with (first | (go_at_call 79; refine (who_any _ _).mono ?_; rintro e w1 ⟨he, rfl⟩; (try rw [HW.out] at he); subst he))
  go_ret
  exact ⟨rfl, HB.out _⟩
set_option maxHeartbeats 4000000 in
theorem rr0x5 (w : World) (a1 a2 a3 a6 a7 a8 : Int) (np vp q : Option Addr) (nc vc c n5 n9 : Nat) (HW : Hid (decide (1 ≤ a2 ∧ a2 ≤ 16) = true)) (s1 : 1 ≤ a3) (s2 : a3 ≤ 1099511627776) (k1 : ¬ a1 = 1) (k2 : ¬ a1 = 2) (k3 : ¬ a1 = 3) (k4 : ¬ a1 = 4) (k5 : ¬ a1 = 5) (p5 : 0 < n5) :
    Calls Tryz.prog 34 #[.agg #[.int .i64 a1, .int .i64 a2, .int .i64 a3, .slice np 0 nc, .slice vp n5 vc, .int .i64 a6, .int .i64 a7, .int .i64 a8, .slice q n9 c]] w fun e w' => e = .returned (.bool false) ∧ Below w.heap.size w w' := by
  have HB : Hid (∀ o1, Below w.heap.size w (w.alloc o1)) := fun o1 => bel_alloc (Nat.le_refl _) o1
  have kz1 : (a1 == 1) = false := by simp [k1]
  have kz2 : (a1 == 2) = false := by simp [k2]
  have kz3 : (a1 == 3) = false := by simp [k3]
  have kz4 : (a1 == 4) = false := by simp [k4]
  have kz5 : (a1 == 5) = false := by simp [k5]
  have q5 : (0 : Int) < (n5 : Int) := by omega
  go_enter Tryz.func34, Tryz.ntmps34
  go_wp2_with (first | (go_at_call 79; refine (who_any _ _).mono ?_; rintro e w1 ⟨he, rfl⟩; (try rw [HW.out] at he); subst he))
  go_ret
  exact ⟨rfl, HB.out _⟩
set_option maxHeartbeats 4000000 in
theorem rr0x6 (w : World) (a1 a2 a3 a6 a7 a8 : Int) (np vp q : Option Addr) (nc vc c n9 : Nat) (HW : Hid (decide (1 ≤ a2 ∧ a2 ≤ 16) = true)) (s1 : 1 ≤ a3) (s2 : a3 ≤ 1099511627776) (k1 : ¬ a1 = 1) (k2 : ¬ a1 = 2) (k3 : ¬ a1 = 3) (k4 : ¬ a1 = 4) (k5 : ¬ a1 = 5) (z6 : ¬ a6 = 0) :
    Calls Tryz.prog 34 #[.agg #[.int .i64 a1, .int .i64 a2, .int .i64 a3, .slice np 0 nc, .slice vp 0 vc, .int .i64 a6, .int .i64 a7, .int .i64 a8, .slice q n9 c]] w fun e w' => e = .returned (.bool false) ∧ Below w.heap.size w w' := by
  have HB : Hid (∀ o1, Below w.heap.size w (w.alloc o1)) := fun o1 => bel_alloc (Nat.le_refl _) o1
  have kz1 : (a1 == 1) = false := by simp [k1]
  have kz2 : (a1 == 2) = false := by simp [k2]
  have kz3 : (a1 == 3) = false := by simp [k3]
  have kz4 : (a1 == 4) = false := by simp [k4]
  have kz5 : (a1 == 5) = false := by simp [k5]
  have y6 : (a6 == 0) = false := by simp [z6]
  go_enter Tryz.func34, Tryz.ntmps34
  go_wp2_with (first | (go_at_call 79; refine (who_any _ _).mono ?_; rintro e w1 ⟨he, rfl⟩; (try rw [HW.out] at he); subst he))
  go_ret
  exact ⟨rfl, HB.out _⟩
set_option maxHeartbeats 4000000 in
theorem rr0x7 (w : World) (a1 a2 a3 a7 a8 : Int) (np vp q : Option Addr) (nc vc c n9 : Nat) (HW : Hid (decide (1 ≤ a2 ∧ a2 ≤ 16) = true)) (s1 : 1 ≤ a3) (s2 : a3 ≤ 1099511627776) (k1 : ¬ a1 = 1) (k2 : ¬ a1 = 2) (k3 : ¬ a1 = 3) (k4 : ¬ a1 = 4) (k5 : ¬ a1 = 5) (z7 : ¬ a7 = 0) :
    Calls Tryz.prog 34 #[.agg #[.int .i64 a1, .int .i64 a2, .int .i64 a3, .slice np 0 nc, .slice vp 0 vc, .int .i64 0, .int .i64 a7, .int .i64 a8, .slice q n9 c]] w fun e w' => e = .returned (.bool false) ∧ Below w.heap.size w w' := by
  have HB : Hid (∀ o1, Below w.heap.size w (w.alloc o1)) := fun o1 => bel_alloc (Nat.le_refl _) o1
  have kz1 : (a1 == 1) = false := by simp [k1]
  have kz2 : (a1 == 2) = false := by simp [k2]
  have kz3 : (a1 == 3) = false := by simp [k3]
  have kz4 : (a1 == 4) = false := by simp [k4]
  have kz5 : (a1 == 5) = false := by simp [k5]
  have y7 : (a7 == 0) = false := by simp [z7]
  go_enter Tryz.func34, Tryz.ntmps34
  go_wp2_with (first | (go_at_call 79; refine (who_any _ _).mono ?_; rintro e w1 ⟨he, rfl⟩; (try rw [HW.out] at he); subst he))
  go_ret
  exact ⟨rfl, HB.out _⟩
set_option maxHeartbeats 4000000 in
theorem rr0x8 (w : World) (a1 a2 a3 a8 : Int) (np vp q : Option Addr) (nc vc c n9 : Nat) (HW : Hid (decide (1 ≤ a2 ∧ a2 ≤ 16) = true)) (s1 : 1 ≤ a3) (s2 : a3 ≤ 1099511627776) (k1 : ¬ a1 = 1) (k2 : ¬ a1 = 2) (k3 : ¬ a1 = 3) (k4 : ¬ a1 = 4) (k5 : ¬ a1 = 5) (z8 : ¬ a8 = 0) :
    Calls Tryz.prog 34 #[.agg #[.int .i64 a1, .int .i64 a2, .int .i64 a3, .slice np 0 nc, .slice vp 0 vc, .int .i64 0, .int .i64 0, .int .i64 a8, .slice q n9 c]] w fun e w' => e = .returned (.bool false) ∧ Below w.heap.size w w' := by
  have HB : Hid (∀ o1, Below w.heap.size w (w.alloc o1)) := fun o1 => bel_alloc (Nat.le_refl _) o1
  have kz1 : (a1 == 1) = false := by simp [k1]
  have kz2 : (a1 == 2) = false := by simp [k2]
  have kz3 : (a1 == 3) = false := by simp [k3]
  have kz4 : (a1 == 4) = false := by simp [k4]
  have kz5 : (a1 == 5) = false := by simp [k5]
  have y8 : (a8 == 0) = false := by simp [z8]
  go_enter Tryz.func34, Tryz.ntmps34
  go_wp2_with (first | (go_at_call 79; refine (who_any _ _).mono ?_; rintro e w1 ⟨he, rfl⟩; (try rw [HW.out] at he); subst he))
  go_ret
  exact ⟨rfl, HB.out _⟩
set_option maxHeartbeats 4000000 in
theorem rr0x9 (w : World) (a1 a2 a3 : Int) (np vp q : Option Addr) (nc vc c n9 : Nat) (HW : Hid (decide (1 ≤ a2 ∧ a2 ≤ 16) = true)) (s1 : 1 ≤ a3) (s2 : a3 ≤ 1099511627776) (k1 : ¬ a1 = 1) (k2 : ¬ a1 = 2) (k3 : ¬ a1 = 3) (k4 : ¬ a1 = 4) (k5 : ¬ a1 = 5) (p9 : 0 < n9) :
    Calls Tryz.prog 34 #[.agg #[.int .i64 a1, .int .i64 a2, .int .i64 a3, .slice np 0 nc, .slice vp 0 vc, .int .i64 0, .int .i64 0, .int .i64 0, .slice q n9 c]] w fun e w' => e = .returned (.bool false) ∧ Below w.heap.size w w' := by
  have HB : Hid (∀ o1, Below w.heap.size w (w.alloc o1)) := fun o1 => bel_alloc (Nat.le_refl _) o1
  have kz1 : (a1 == 1) = false := by simp [k1]
  have kz2 : (a1 == 2) = false := by simp [k2]
  have kz3 : (a1 == 3) = false := by simp [k3]
  have kz4 : (a1 == 4) = false := by simp [k4]
  have kz5 : (a1 == 5) = false := by simp [k5]
  have q9 : (0 : Int) < (n9 : Int) := by omega
  go_enter Tryz.func34, Tryz.ntmps34
  go_wp2_with (first | (go_at_call 79; refine (who_any _ _).mono ?_; rintro e w1 ⟨he, rfl⟩; (try rw [HW.out] at he); subst he))
  go_ret
  exact ⟨rfl, HB.out _⟩
set_option maxHeartbeats 4000000 in
theorem rr0a (w : World) (a1 a2 a3 : Int) (np vp q : Option Addr) (nc vc c  : Nat) (HW : Hid (decide (1 ≤ a2 ∧ a2 ≤ 16) = true)) (s1 : 1 ≤ a3) (s2 : a3 ≤ 1099511627776) (k1 : ¬ a1 = 1) (k2 : ¬ a1 = 2) (k3 : ¬ a1 = 3) (k4 : ¬ a1 = 4) (k5 : ¬ a1 = 5)  :
    Calls Tryz.prog 34 #[.agg #[.int .i64 a1, .int .i64 a2, .int .i64 a3, .slice np 0 nc, .slice vp 0 vc, .int .i64 0, .int .i64 0, .int .i64 0, .slice q 0 c]] w fun e w' => e = .returned (.bool false) ∧ Below w.heap.size w w' := by
  have HB : Hid (∀ o1, Below w.heap.size w (w.alloc o1)) := fun o1 => bel_alloc (Nat.le_refl _) o1
  have kz1 : (a1 == 1) = false := by simp [k1]
  have kz2 : (a1 == 2) = false := by simp [k2]
  have kz3 : (a1 == 3) = false := by simp [k3]
  have kz4 : (a1 == 4) = false := by simp [k4]
  have kz5 : (a1 == 5) = false := by simp [k5]
  go_enter Tryz.func34, Tryz.ntmps34
  go_wp2_with (first | (go_at_call 79; refine (who_any _ _).mono ?_; rintro e w1 ⟨he, rfl⟩; (try rw [HW.out] at he); subst he))
  go_ret
  exact ⟨rfl, HB.out _⟩
end Go.Proofs.YtfjdaafckiefdaaGreatDoor.E9
/- The document's Right: the kind 1. -/
namespace Go.Proofs.YtfjdaafckiefdaaGreatDoor.E9
open Go.RowKit C8
set_option maxHeartbeats 4000000 in
theorem rr1x6 (w : World) (a2 a3 a6 a7 a8 : Int) (np vp q : Option Addr) (nc vc c n4 n5 n9 : Nat) (HW : Hid (decide (1 ≤ a2 ∧ a2 ≤ 16) = true)) (s1 : 1 ≤ a3) (s2 : a3 ≤ 1099511627776)  (z6 : ¬ a6 = 0) :
    Calls Tryz.prog 34 #[.agg #[.int .i64 1, .int .i64 a2, .int .i64 a3, .slice np n4 nc, .slice vp n5 vc, .int .i64 a6, .int .i64 a7, .int .i64 a8, .slice q n9 c]] w fun e w' => e = .returned (.bool false) ∧ Below w.heap.size w w' := by
  have HB : Hid (∀ o1, Below w.heap.size w (w.alloc o1)) := fun o1 => bel_alloc (Nat.le_refl _) o1
  have y6 : (a6 == 0) = false := by simp [z6]
  go_enter Tryz.func34, Tryz.ntmps34
  go_wp2_with (first | (go_at_call 79; refine (who_any _ _).mono ?_; rintro e w1 ⟨he, rfl⟩; (try rw [HW.out] at he); subst he))
  go_ret
  exact ⟨rfl, HB.out _⟩
set_option maxHeartbeats 4000000 in
theorem rr1x7 (w : World) (a2 a3 a7 a8 : Int) (np vp q : Option Addr) (nc vc c n4 n5 n9 : Nat) (HW : Hid (decide (1 ≤ a2 ∧ a2 ≤ 16) = true)) (s1 : 1 ≤ a3) (s2 : a3 ≤ 1099511627776)  (z7 : ¬ a7 = 0) :
    Calls Tryz.prog 34 #[.agg #[.int .i64 1, .int .i64 a2, .int .i64 a3, .slice np n4 nc, .slice vp n5 vc, .int .i64 0, .int .i64 a7, .int .i64 a8, .slice q n9 c]] w fun e w' => e = .returned (.bool false) ∧ Below w.heap.size w w' := by
  have HB : Hid (∀ o1, Below w.heap.size w (w.alloc o1)) := fun o1 => bel_alloc (Nat.le_refl _) o1
  have y7 : (a7 == 0) = false := by simp [z7]
  go_enter Tryz.func34, Tryz.ntmps34
  go_wp2_with (first | (go_at_call 79; refine (who_any _ _).mono ?_; rintro e w1 ⟨he, rfl⟩; (try rw [HW.out] at he); subst he))
  go_ret
  exact ⟨rfl, HB.out _⟩
set_option maxHeartbeats 4000000 in
theorem rr1x8 (w : World) (a2 a3 a8 : Int) (np vp q : Option Addr) (nc vc c n4 n5 n9 : Nat) (HW : Hid (decide (1 ≤ a2 ∧ a2 ≤ 16) = true)) (s1 : 1 ≤ a3) (s2 : a3 ≤ 1099511627776)  (z8 : ¬ a8 = 0) :
    Calls Tryz.prog 34 #[.agg #[.int .i64 1, .int .i64 a2, .int .i64 a3, .slice np n4 nc, .slice vp n5 vc, .int .i64 0, .int .i64 0, .int .i64 a8, .slice q n9 c]] w fun e w' => e = .returned (.bool false) ∧ Below w.heap.size w w' := by
  have HB : Hid (∀ o1, Below w.heap.size w (w.alloc o1)) := fun o1 => bel_alloc (Nat.le_refl _) o1
  have y8 : (a8 == 0) = false := by simp [z8]
  go_enter Tryz.func34, Tryz.ntmps34
  go_wp2_with (first | (go_at_call 79; refine (who_any _ _).mono ?_; rintro e w1 ⟨he, rfl⟩; (try rw [HW.out] at he); subst he))
  go_ret
  exact ⟨rfl, HB.out _⟩
set_option maxHeartbeats 4000000 in
theorem rr1x9 (w : World) (a2 a3 : Int) (np vp q : Option Addr) (nc vc c n4 n5 n9 : Nat) (HW : Hid (decide (1 ≤ a2 ∧ a2 ≤ 16) = true)) (s1 : 1 ≤ a3) (s2 : a3 ≤ 1099511627776)  (p9 : 0 < n9) :
    Calls Tryz.prog 34 #[.agg #[.int .i64 1, .int .i64 a2, .int .i64 a3, .slice np n4 nc, .slice vp n5 vc, .int .i64 0, .int .i64 0, .int .i64 0, .slice q n9 c]] w fun e w' => e = .returned (.bool false) ∧ Below w.heap.size w w' := by
  have HB : Hid (∀ o1, Below w.heap.size w (w.alloc o1)) := fun o1 => bel_alloc (Nat.le_refl _) o1
  have q9 : (0 : Int) < (n9 : Int) := by omega
  go_enter Tryz.func34, Tryz.ntmps34
  go_wp2_with (first | (go_at_call 79; refine (who_any _ _).mono ?_; rintro e w1 ⟨he, rfl⟩; (try rw [HW.out] at he); subst he))
  go_ret
  exact ⟨rfl, HB.out _⟩
set_option maxHeartbeats 4000000 in
theorem rr1a (w : World) (a2 a3 : Int) (np vp q : Option Addr) (nc vc c n5 : Nat) (HW : Hid (decide (1 ≤ a2 ∧ a2 ≤ 16) = true)) (s1 : 1 ≤ a3) (s2 : a3 ≤ 1099511627776)   :
    Calls Tryz.prog 34 #[.agg #[.int .i64 1, .int .i64 a2, .int .i64 a3, .slice np 0 nc, .slice vp n5 vc, .int .i64 0, .int .i64 0, .int .i64 0, .slice q 0 c]] w fun e w' => e = .returned (.bool false) ∧ Below w.heap.size w w' := by
  have HB : Hid (∀ o1, Below w.heap.size w (w.alloc o1)) := fun o1 => bel_alloc (Nat.le_refl _) o1
  go_enter Tryz.func34, Tryz.ntmps34
  go_wp2_with (first | (go_at_call 79; refine (who_any _ _).mono ?_; rintro e w1 ⟨he, rfl⟩; (try rw [HW.out] at he); subst he))
  go_ret
  exact ⟨rfl, HB.out _⟩
set_option maxHeartbeats 4000000 in
theorem rr1b (w : World) (a2 a3 : Int) (np vp q : Option Addr) (nc vc c n4 n5 : Nat) (HW : Hid (decide (1 ≤ a2 ∧ a2 ≤ 16) = true)) (s1 : 1 ≤ a3) (s2 : a3 ≤ 1099511627776)  (p4 : 64 < n4) :
    Calls Tryz.prog 34 #[.agg #[.int .i64 1, .int .i64 a2, .int .i64 a3, .slice np n4 nc, .slice vp n5 vc, .int .i64 0, .int .i64 0, .int .i64 0, .slice q 0 c]] w fun e w' => e = .returned (.bool false) ∧ Below w.heap.size w w' := by
  have HB : Hid (∀ o1, Below w.heap.size w (w.alloc o1)) := fun o1 => bel_alloc (Nat.le_refl _) o1
  have q4 : ¬ (n4 : Int) ≤ 64 := by omega
  have q5 : (1 : Int) ≤ (n4 : Int) := by omega
  go_enter Tryz.func34, Tryz.ntmps34
  go_wp2_with (first | (go_at_call 79; refine (who_any _ _).mono ?_; rintro e w1 ⟨he, rfl⟩; (try rw [HW.out] at he); subst he))
  go_ret
  exact ⟨rfl, HB.out _⟩
set_option maxHeartbeats 4000000 in
theorem rr1c (w : World) (a2 a3 : Int) (np vp q : Option Addr) (nc vc c n4 n5 : Nat) (HW : Hid (decide (1 ≤ a2 ∧ a2 ≤ 16) = true)) (s1 : 1 ≤ a3) (s2 : a3 ≤ 1099511627776)  (p4 : 1 ≤ n4) (p5 : n4 ≤ 64) :
    Calls Tryz.prog 34 #[.agg #[.int .i64 1, .int .i64 a2, .int .i64 a3, .slice np n4 nc, .slice vp n5 vc, .int .i64 0, .int .i64 0, .int .i64 0, .slice q 0 c]] w fun e w' => e = .returned (.bool (decide ((n5 : Int) ≤ 512))) ∧ Below w.heap.size w w' := by
  have HB : Hid (∀ o1, Below w.heap.size w (w.alloc o1)) := fun o1 => bel_alloc (Nat.le_refl _) o1
  have q4 : (n4 : Int) ≤ 64 := by omega
  have q5 : (1 : Int) ≤ (n4 : Int) := by omega
  go_enter Tryz.func34, Tryz.ntmps34
  go_wp2_with (first | (go_at_call 79; refine (who_any _ _).mono ?_; rintro e w1 ⟨he, rfl⟩; (try rw [HW.out] at he); subst he))
  go_ret
  exact ⟨rfl, HB.out _⟩
end Go.Proofs.YtfjdaafckiefdaaGreatDoor.E9
/- The document's Right: the kind 2. -/
namespace Go.Proofs.YtfjdaafckiefdaaGreatDoor.E9
open Go.RowKit C8
set_option maxHeartbeats 4000000 in
theorem rr2x5 (w : World) (a2 a3 a6 a7 a8 : Int) (np vp q : Option Addr) (nc vc c n4 n5 n9 : Nat) (HW : Hid (decide (1 ≤ a2 ∧ a2 ≤ 16) = true)) (s1 : 1 ≤ a3) (s2 : a3 ≤ 1099511627776)  (p5 : 0 < n5) :
    Calls Tryz.prog 34 #[.agg #[.int .i64 2, .int .i64 a2, .int .i64 a3, .slice np n4 nc, .slice vp n5 vc, .int .i64 a6, .int .i64 a7, .int .i64 a8, .slice q n9 c]] w fun e w' => e = .returned (.bool false) ∧ Below w.heap.size w w' := by
  have HB : Hid (∀ o1, Below w.heap.size w (w.alloc o1)) := fun o1 => bel_alloc (Nat.le_refl _) o1
  have q5 : (0 : Int) < (n5 : Int) := by omega
  go_enter Tryz.func34, Tryz.ntmps34
  go_wp2_with (first | (go_at_call 79; refine (who_any _ _).mono ?_; rintro e w1 ⟨he, rfl⟩; (try rw [HW.out] at he); subst he))
  go_ret
  exact ⟨rfl, HB.out _⟩
set_option maxHeartbeats 4000000 in
theorem rr2x6 (w : World) (a2 a3 a6 a7 a8 : Int) (np vp q : Option Addr) (nc vc c n4 n9 : Nat) (HW : Hid (decide (1 ≤ a2 ∧ a2 ≤ 16) = true)) (s1 : 1 ≤ a3) (s2 : a3 ≤ 1099511627776)  (z6 : ¬ a6 = 0) :
    Calls Tryz.prog 34 #[.agg #[.int .i64 2, .int .i64 a2, .int .i64 a3, .slice np n4 nc, .slice vp 0 vc, .int .i64 a6, .int .i64 a7, .int .i64 a8, .slice q n9 c]] w fun e w' => e = .returned (.bool false) ∧ Below w.heap.size w w' := by
  have HB : Hid (∀ o1, Below w.heap.size w (w.alloc o1)) := fun o1 => bel_alloc (Nat.le_refl _) o1
  have y6 : (a6 == 0) = false := by simp [z6]
  go_enter Tryz.func34, Tryz.ntmps34
  go_wp2_with (first | (go_at_call 79; refine (who_any _ _).mono ?_; rintro e w1 ⟨he, rfl⟩; (try rw [HW.out] at he); subst he))
  go_ret
  exact ⟨rfl, HB.out _⟩
set_option maxHeartbeats 4000000 in
theorem rr2x7 (w : World) (a2 a3 a7 a8 : Int) (np vp q : Option Addr) (nc vc c n4 n9 : Nat) (HW : Hid (decide (1 ≤ a2 ∧ a2 ≤ 16) = true)) (s1 : 1 ≤ a3) (s2 : a3 ≤ 1099511627776)  (z7 : ¬ a7 = 0) :
    Calls Tryz.prog 34 #[.agg #[.int .i64 2, .int .i64 a2, .int .i64 a3, .slice np n4 nc, .slice vp 0 vc, .int .i64 0, .int .i64 a7, .int .i64 a8, .slice q n9 c]] w fun e w' => e = .returned (.bool false) ∧ Below w.heap.size w w' := by
  have HB : Hid (∀ o1, Below w.heap.size w (w.alloc o1)) := fun o1 => bel_alloc (Nat.le_refl _) o1
  have y7 : (a7 == 0) = false := by simp [z7]
  go_enter Tryz.func34, Tryz.ntmps34
  go_wp2_with (first | (go_at_call 79; refine (who_any _ _).mono ?_; rintro e w1 ⟨he, rfl⟩; (try rw [HW.out] at he); subst he))
  go_ret
  exact ⟨rfl, HB.out _⟩
set_option maxHeartbeats 4000000 in
theorem rr2x8 (w : World) (a2 a3 a8 : Int) (np vp q : Option Addr) (nc vc c n4 n9 : Nat) (HW : Hid (decide (1 ≤ a2 ∧ a2 ≤ 16) = true)) (s1 : 1 ≤ a3) (s2 : a3 ≤ 1099511627776)  (z8 : ¬ a8 = 0) :
    Calls Tryz.prog 34 #[.agg #[.int .i64 2, .int .i64 a2, .int .i64 a3, .slice np n4 nc, .slice vp 0 vc, .int .i64 0, .int .i64 0, .int .i64 a8, .slice q n9 c]] w fun e w' => e = .returned (.bool false) ∧ Below w.heap.size w w' := by
  have HB : Hid (∀ o1, Below w.heap.size w (w.alloc o1)) := fun o1 => bel_alloc (Nat.le_refl _) o1
  have y8 : (a8 == 0) = false := by simp [z8]
  go_enter Tryz.func34, Tryz.ntmps34
  go_wp2_with (first | (go_at_call 79; refine (who_any _ _).mono ?_; rintro e w1 ⟨he, rfl⟩; (try rw [HW.out] at he); subst he))
  go_ret
  exact ⟨rfl, HB.out _⟩
set_option maxHeartbeats 4000000 in
theorem rr2x9 (w : World) (a2 a3 : Int) (np vp q : Option Addr) (nc vc c n4 n9 : Nat) (HW : Hid (decide (1 ≤ a2 ∧ a2 ≤ 16) = true)) (s1 : 1 ≤ a3) (s2 : a3 ≤ 1099511627776)  (p9 : 0 < n9) :
    Calls Tryz.prog 34 #[.agg #[.int .i64 2, .int .i64 a2, .int .i64 a3, .slice np n4 nc, .slice vp 0 vc, .int .i64 0, .int .i64 0, .int .i64 0, .slice q n9 c]] w fun e w' => e = .returned (.bool false) ∧ Below w.heap.size w w' := by
  have HB : Hid (∀ o1, Below w.heap.size w (w.alloc o1)) := fun o1 => bel_alloc (Nat.le_refl _) o1
  have q9 : (0 : Int) < (n9 : Int) := by omega
  go_enter Tryz.func34, Tryz.ntmps34
  go_wp2_with (first | (go_at_call 79; refine (who_any _ _).mono ?_; rintro e w1 ⟨he, rfl⟩; (try rw [HW.out] at he); subst he))
  go_ret
  exact ⟨rfl, HB.out _⟩
set_option maxHeartbeats 4000000 in
theorem rr2a (w : World) (a2 a3 : Int) (np vp q : Option Addr) (nc vc c  : Nat) (HW : Hid (decide (1 ≤ a2 ∧ a2 ≤ 16) = true)) (s1 : 1 ≤ a3) (s2 : a3 ≤ 1099511627776)   :
    Calls Tryz.prog 34 #[.agg #[.int .i64 2, .int .i64 a2, .int .i64 a3, .slice np 0 nc, .slice vp 0 vc, .int .i64 0, .int .i64 0, .int .i64 0, .slice q 0 c]] w fun e w' => e = .returned (.bool false) ∧ Below w.heap.size w w' := by
  have HB : Hid (∀ o1, Below w.heap.size w (w.alloc o1)) := fun o1 => bel_alloc (Nat.le_refl _) o1
  go_enter Tryz.func34, Tryz.ntmps34
  go_wp2_with (first | (go_at_call 79; refine (who_any _ _).mono ?_; rintro e w1 ⟨he, rfl⟩; (try rw [HW.out] at he); subst he))
  go_ret
  exact ⟨rfl, HB.out _⟩
set_option maxHeartbeats 4000000 in
theorem rr2b (w : World) (a2 a3 : Int) (np vp q : Option Addr) (nc vc c n4 : Nat) (HW : Hid (decide (1 ≤ a2 ∧ a2 ≤ 16) = true)) (s1 : 1 ≤ a3) (s2 : a3 ≤ 1099511627776)  (p4 : 64 < n4) :
    Calls Tryz.prog 34 #[.agg #[.int .i64 2, .int .i64 a2, .int .i64 a3, .slice np n4 nc, .slice vp 0 vc, .int .i64 0, .int .i64 0, .int .i64 0, .slice q 0 c]] w fun e w' => e = .returned (.bool false) ∧ Below w.heap.size w w' := by
  have HB : Hid (∀ o1, Below w.heap.size w (w.alloc o1)) := fun o1 => bel_alloc (Nat.le_refl _) o1
  have q4 : ¬ (n4 : Int) ≤ 64 := by omega
  have q5 : (1 : Int) ≤ (n4 : Int) := by omega
  go_enter Tryz.func34, Tryz.ntmps34
  go_wp2_with (first | (go_at_call 79; refine (who_any _ _).mono ?_; rintro e w1 ⟨he, rfl⟩; (try rw [HW.out] at he); subst he))
  go_ret
  exact ⟨rfl, HB.out _⟩
set_option maxHeartbeats 4000000 in
theorem rr2c (w : World) (a2 a3 : Int) (np vp q : Option Addr) (nc vc c n4 : Nat) (HW : Hid (decide (1 ≤ a2 ∧ a2 ≤ 16) = true)) (s1 : 1 ≤ a3) (s2 : a3 ≤ 1099511627776)  (p4 : 1 ≤ n4) (p5 : n4 ≤ 64) :
    Calls Tryz.prog 34 #[.agg #[.int .i64 2, .int .i64 a2, .int .i64 a3, .slice np n4 nc, .slice vp 0 vc, .int .i64 0, .int .i64 0, .int .i64 0, .slice q 0 c]] w fun e w' => e = .returned (.bool true) ∧ Below w.heap.size w w' := by
  have HB : Hid (∀ o1, Below w.heap.size w (w.alloc o1)) := fun o1 => bel_alloc (Nat.le_refl _) o1
  have q4 : (n4 : Int) ≤ 64 := by omega
  have q5 : (1 : Int) ≤ (n4 : Int) := by omega
  go_enter Tryz.func34, Tryz.ntmps34
  go_wp2_with (first | (go_at_call 79; refine (who_any _ _).mono ?_; rintro e w1 ⟨he, rfl⟩; (try rw [HW.out] at he); subst he))
  go_ret
  exact ⟨rfl, HB.out _⟩
end Go.Proofs.YtfjdaafckiefdaaGreatDoor.E9
/- The document's Right: the kind 3. -/
namespace Go.Proofs.YtfjdaafckiefdaaGreatDoor.E9
open Go.RowKit C8
set_option maxHeartbeats 4000000 in
theorem rr3x4 (w : World) (a2 a3 a6 a7 a8 : Int) (np vp q : Option Addr) (nc vc c n4 n5 n9 : Nat) (HW : Hid (decide (1 ≤ a2 ∧ a2 ≤ 16) = true)) (s1 : 1 ≤ a3) (s2 : a3 ≤ 1099511627776)  (p4 : 0 < n4) :
    Calls Tryz.prog 34 #[.agg #[.int .i64 3, .int .i64 a2, .int .i64 a3, .slice np n4 nc, .slice vp n5 vc, .int .i64 a6, .int .i64 a7, .int .i64 a8, .slice q n9 c]] w fun e w' => e = .returned (.bool false) ∧ Below w.heap.size w w' := by
  have HB : Hid (∀ o1, Below w.heap.size w (w.alloc o1)) := fun o1 => bel_alloc (Nat.le_refl _) o1
  have q4 : (0 : Int) < (n4 : Int) := by omega
  go_enter Tryz.func34, Tryz.ntmps34
  go_wp2_with (first | (go_at_call 79; refine (who_any _ _).mono ?_; rintro e w1 ⟨he, rfl⟩; (try rw [HW.out] at he); subst he))
  go_ret
  exact ⟨rfl, HB.out _⟩
set_option maxHeartbeats 4000000 in
theorem rr3x5 (w : World) (a2 a3 a6 a7 a8 : Int) (np vp q : Option Addr) (nc vc c n5 n9 : Nat) (HW : Hid (decide (1 ≤ a2 ∧ a2 ≤ 16) = true)) (s1 : 1 ≤ a3) (s2 : a3 ≤ 1099511627776)  (p5 : 0 < n5) :
    Calls Tryz.prog 34 #[.agg #[.int .i64 3, .int .i64 a2, .int .i64 a3, .slice np 0 nc, .slice vp n5 vc, .int .i64 a6, .int .i64 a7, .int .i64 a8, .slice q n9 c]] w fun e w' => e = .returned (.bool false) ∧ Below w.heap.size w w' := by
  have HB : Hid (∀ o1, Below w.heap.size w (w.alloc o1)) := fun o1 => bel_alloc (Nat.le_refl _) o1
  have q5 : (0 : Int) < (n5 : Int) := by omega
  go_enter Tryz.func34, Tryz.ntmps34
  go_wp2_with (first | (go_at_call 79; refine (who_any _ _).mono ?_; rintro e w1 ⟨he, rfl⟩; (try rw [HW.out] at he); subst he))
  go_ret
  exact ⟨rfl, HB.out _⟩
set_option maxHeartbeats 4000000 in
theorem rr3x8 (w : World) (a2 a3 a6 a7 a8 : Int) (np vp q : Option Addr) (nc vc c n9 : Nat) (HW : Hid (decide (1 ≤ a2 ∧ a2 ≤ 16) = true)) (s1 : 1 ≤ a3) (s2 : a3 ≤ 1099511627776)  (z8 : ¬ a8 = 0) :
    Calls Tryz.prog 34 #[.agg #[.int .i64 3, .int .i64 a2, .int .i64 a3, .slice np 0 nc, .slice vp 0 vc, .int .i64 a6, .int .i64 a7, .int .i64 a8, .slice q n9 c]] w fun e w' => e = .returned (.bool false) ∧ Below w.heap.size w w' := by
  have HB : Hid (∀ o1, Below w.heap.size w (w.alloc o1)) := fun o1 => bel_alloc (Nat.le_refl _) o1
  have y8 : (a8 == 0) = false := by simp [z8]
  go_enter Tryz.func34, Tryz.ntmps34
  go_wp2_with (first | (go_at_call 79; refine (who_any _ _).mono ?_; rintro e w1 ⟨he, rfl⟩; (try rw [HW.out] at he); subst he))
  go_ret
  exact ⟨rfl, HB.out _⟩
set_option maxHeartbeats 4000000 in
theorem rr3x9 (w : World) (a2 a3 a6 a7 : Int) (np vp q : Option Addr) (nc vc c n9 : Nat) (HW : Hid (decide (1 ≤ a2 ∧ a2 ≤ 16) = true)) (s1 : 1 ≤ a3) (s2 : a3 ≤ 1099511627776)  (p9 : 0 < n9) :
    Calls Tryz.prog 34 #[.agg #[.int .i64 3, .int .i64 a2, .int .i64 a3, .slice np 0 nc, .slice vp 0 vc, .int .i64 a6, .int .i64 a7, .int .i64 0, .slice q n9 c]] w fun e w' => e = .returned (.bool false) ∧ Below w.heap.size w w' := by
  have HB : Hid (∀ o1, Below w.heap.size w (w.alloc o1)) := fun o1 => bel_alloc (Nat.le_refl _) o1
  have q9 : (0 : Int) < (n9 : Int) := by omega
  go_enter Tryz.func34, Tryz.ntmps34
  go_wp2_with (first | (go_at_call 79; refine (who_any _ _).mono ?_; rintro e w1 ⟨he, rfl⟩; (try rw [HW.out] at he); subst he))
  go_ret
  exact ⟨rfl, HB.out _⟩
set_option maxHeartbeats 4000000 in
theorem rr3a (w : World) (a2 a3 a6 a7 : Int) (np vp q : Option Addr) (nc vc c  : Nat) (HW : Hid (decide (1 ≤ a2 ∧ a2 ≤ 16) = true)) (s1 : 1 ≤ a3) (s2 : a3 ≤ 1099511627776)  (HV : Hid (decide (1 ≤ a6 ∧ a6 ≤ 16) = false)) :
    Calls Tryz.prog 34 #[.agg #[.int .i64 3, .int .i64 a2, .int .i64 a3, .slice np 0 nc, .slice vp 0 vc, .int .i64 a6, .int .i64 a7, .int .i64 0, .slice q 0 c]] w fun e w' => e = .returned (.bool false) ∧ Below w.heap.size w w' := by
  have HB : Hid (∀ o1, Below w.heap.size w (w.alloc o1)) := fun o1 => bel_alloc (Nat.le_refl _) o1
  go_enter Tryz.func34, Tryz.ntmps34
  go_wp2_with (first | (go_at_call 79; refine (who_any _ _).mono ?_; rintro e w1 ⟨he, rfl⟩; (try rw [HW.out] at he); (try rw [HV.out] at he); subst he))
  go_ret
  exact ⟨rfl, HB.out _⟩
set_option maxHeartbeats 4000000 in
theorem rr3b (w : World) (a2 a3 a6 a7 : Int) (np vp q : Option Addr) (nc vc c  : Nat) (HW : Hid (decide (1 ≤ a2 ∧ a2 ≤ 16) = true)) (s1 : 1 ≤ a3) (s2 : a3 ≤ 1099511627776)  (HV : Hid (decide (1 ≤ a6 ∧ a6 ≤ 16) = true)) (p7 : a7 < 1) :
    Calls Tryz.prog 34 #[.agg #[.int .i64 3, .int .i64 a2, .int .i64 a3, .slice np 0 nc, .slice vp 0 vc, .int .i64 a6, .int .i64 a7, .int .i64 0, .slice q 0 c]] w fun e w' => e = .returned (.bool false) ∧ Below w.heap.size w w' := by
  have HB : Hid (∀ o1, Below w.heap.size w (w.alloc o1)) := fun o1 => bel_alloc (Nat.le_refl _) o1
  have q7 : ¬ 1 ≤ a7 := by omega
  go_enter Tryz.func34, Tryz.ntmps34
  go_wp2_with (first | (go_at_call 79; refine (who_any _ _).mono ?_; rintro e w1 ⟨he, rfl⟩; (try rw [HW.out] at he); (try rw [HV.out] at he); subst he))
  go_ret
  exact ⟨rfl, HB.out _⟩
set_option maxHeartbeats 4000000 in
theorem rr3c (w : World) (a2 a3 a6 a7 : Int) (np vp q : Option Addr) (nc vc c  : Nat) (HW : Hid (decide (1 ≤ a2 ∧ a2 ≤ 16) = true)) (s1 : 1 ≤ a3) (s2 : a3 ≤ 1099511627776)  (HV : Hid (decide (1 ≤ a6 ∧ a6 ≤ 16) = true)) (p7 : 1 ≤ a7) :
    Calls Tryz.prog 34 #[.agg #[.int .i64 3, .int .i64 a2, .int .i64 a3, .slice np 0 nc, .slice vp 0 vc, .int .i64 a6, .int .i64 a7, .int .i64 0, .slice q 0 c]] w fun e w' => e = .returned (.bool (decide (a7 ≤ 7))) ∧ Below w.heap.size w w' := by
  have HB : Hid (∀ o1, Below w.heap.size w (w.alloc o1)) := fun o1 => bel_alloc (Nat.le_refl _) o1
  go_enter Tryz.func34, Tryz.ntmps34
  go_wp2_with (first | (go_at_call 79; refine (who_any _ _).mono ?_; rintro e w1 ⟨he, rfl⟩; (try rw [HW.out] at he); (try rw [HV.out] at he); subst he))
  go_ret
  exact ⟨rfl, HB.out _⟩
end Go.Proofs.YtfjdaafckiefdaaGreatDoor.E9
/- The document's Right: the kind 4. -/
namespace Go.Proofs.YtfjdaafckiefdaaGreatDoor.E9
open Go.RowKit C8
set_option maxHeartbeats 4000000 in
theorem rr4x4 (w : World) (a2 a3 a6 a7 a8 : Int) (np vp q : Option Addr) (nc vc c n4 n5 n9 : Nat) (HW : Hid (decide (1 ≤ a2 ∧ a2 ≤ 16) = true)) (s1 : 1 ≤ a3) (s2 : a3 ≤ 1099511627776)  (p4 : 0 < n4) :
    Calls Tryz.prog 34 #[.agg #[.int .i64 4, .int .i64 a2, .int .i64 a3, .slice np n4 nc, .slice vp n5 vc, .int .i64 a6, .int .i64 a7, .int .i64 a8, .slice q n9 c]] w fun e w' => e = .returned (.bool false) ∧ Below w.heap.size w w' := by
  have HB : Hid (∀ o1, Below w.heap.size w (w.alloc o1)) := fun o1 => bel_alloc (Nat.le_refl _) o1
  have q4 : (0 : Int) < (n4 : Int) := by omega
  go_enter Tryz.func34, Tryz.ntmps34
  go_wp2_with (first | (go_at_call 79; refine (who_any _ _).mono ?_; rintro e w1 ⟨he, rfl⟩; (try rw [HW.out] at he); subst he))
  go_ret
  exact ⟨rfl, HB.out _⟩
set_option maxHeartbeats 4000000 in
theorem rr4x5 (w : World) (a2 a3 a6 a7 a8 : Int) (np vp q : Option Addr) (nc vc c n5 n9 : Nat) (HW : Hid (decide (1 ≤ a2 ∧ a2 ≤ 16) = true)) (s1 : 1 ≤ a3) (s2 : a3 ≤ 1099511627776)  (p5 : 0 < n5) :
    Calls Tryz.prog 34 #[.agg #[.int .i64 4, .int .i64 a2, .int .i64 a3, .slice np 0 nc, .slice vp n5 vc, .int .i64 a6, .int .i64 a7, .int .i64 a8, .slice q n9 c]] w fun e w' => e = .returned (.bool false) ∧ Below w.heap.size w w' := by
  have HB : Hid (∀ o1, Below w.heap.size w (w.alloc o1)) := fun o1 => bel_alloc (Nat.le_refl _) o1
  have q5 : (0 : Int) < (n5 : Int) := by omega
  go_enter Tryz.func34, Tryz.ntmps34
  go_wp2_with (first | (go_at_call 79; refine (who_any _ _).mono ?_; rintro e w1 ⟨he, rfl⟩; (try rw [HW.out] at he); subst he))
  go_ret
  exact ⟨rfl, HB.out _⟩
set_option maxHeartbeats 4000000 in
theorem rr4x7 (w : World) (a2 a3 a6 a7 a8 : Int) (np vp q : Option Addr) (nc vc c n9 : Nat) (HW : Hid (decide (1 ≤ a2 ∧ a2 ≤ 16) = true)) (s1 : 1 ≤ a3) (s2 : a3 ≤ 1099511627776)  (z7 : ¬ a7 = 0) :
    Calls Tryz.prog 34 #[.agg #[.int .i64 4, .int .i64 a2, .int .i64 a3, .slice np 0 nc, .slice vp 0 vc, .int .i64 a6, .int .i64 a7, .int .i64 a8, .slice q n9 c]] w fun e w' => e = .returned (.bool false) ∧ Below w.heap.size w w' := by
  have HB : Hid (∀ o1, Below w.heap.size w (w.alloc o1)) := fun o1 => bel_alloc (Nat.le_refl _) o1
  have y7 : (a7 == 0) = false := by simp [z7]
  go_enter Tryz.func34, Tryz.ntmps34
  go_wp2_with (first | (go_at_call 79; refine (who_any _ _).mono ?_; rintro e w1 ⟨he, rfl⟩; (try rw [HW.out] at he); subst he))
  go_ret
  exact ⟨rfl, HB.out _⟩
set_option maxHeartbeats 4000000 in
theorem rr4x8 (w : World) (a2 a3 a6 a8 : Int) (np vp q : Option Addr) (nc vc c n9 : Nat) (HW : Hid (decide (1 ≤ a2 ∧ a2 ≤ 16) = true)) (s1 : 1 ≤ a3) (s2 : a3 ≤ 1099511627776)  (z8 : ¬ a8 = 0) :
    Calls Tryz.prog 34 #[.agg #[.int .i64 4, .int .i64 a2, .int .i64 a3, .slice np 0 nc, .slice vp 0 vc, .int .i64 a6, .int .i64 0, .int .i64 a8, .slice q n9 c]] w fun e w' => e = .returned (.bool false) ∧ Below w.heap.size w w' := by
  have HB : Hid (∀ o1, Below w.heap.size w (w.alloc o1)) := fun o1 => bel_alloc (Nat.le_refl _) o1
  have y8 : (a8 == 0) = false := by simp [z8]
  go_enter Tryz.func34, Tryz.ntmps34
  go_wp2_with (first | (go_at_call 79; refine (who_any _ _).mono ?_; rintro e w1 ⟨he, rfl⟩; (try rw [HW.out] at he); subst he))
  go_ret
  exact ⟨rfl, HB.out _⟩
set_option maxHeartbeats 4000000 in
theorem rr4x9 (w : World) (a2 a3 a6 : Int) (np vp q : Option Addr) (nc vc c n9 : Nat) (HW : Hid (decide (1 ≤ a2 ∧ a2 ≤ 16) = true)) (s1 : 1 ≤ a3) (s2 : a3 ≤ 1099511627776)  (p9 : 0 < n9) :
    Calls Tryz.prog 34 #[.agg #[.int .i64 4, .int .i64 a2, .int .i64 a3, .slice np 0 nc, .slice vp 0 vc, .int .i64 a6, .int .i64 0, .int .i64 0, .slice q n9 c]] w fun e w' => e = .returned (.bool false) ∧ Below w.heap.size w w' := by
  have HB : Hid (∀ o1, Below w.heap.size w (w.alloc o1)) := fun o1 => bel_alloc (Nat.le_refl _) o1
  have q9 : (0 : Int) < (n9 : Int) := by omega
  go_enter Tryz.func34, Tryz.ntmps34
  go_wp2_with (first | (go_at_call 79; refine (who_any _ _).mono ?_; rintro e w1 ⟨he, rfl⟩; (try rw [HW.out] at he); subst he))
  go_ret
  exact ⟨rfl, HB.out _⟩
set_option maxHeartbeats 4000000 in
theorem rr4a (w : World) (a2 a3 a6 : Int) (np vp q : Option Addr) (nc vc c  : Nat) (HW : Hid (decide (1 ≤ a2 ∧ a2 ≤ 16) = true)) (s1 : 1 ≤ a3) (s2 : a3 ≤ 1099511627776)   :
    Calls Tryz.prog 34 #[.agg #[.int .i64 4, .int .i64 a2, .int .i64 a3, .slice np 0 nc, .slice vp 0 vc, .int .i64 a6, .int .i64 0, .int .i64 0, .slice q 0 c]] w fun e w' => e = .returned (.bool (decide (1 ≤ a6 ∧ a6 ≤ 16))) ∧ Below w.heap.size w w' := by
  have HB : Hid (∀ o1, Below w.heap.size w (w.alloc o1)) := fun o1 => bel_alloc (Nat.le_refl _) o1
  go_enter Tryz.func34, Tryz.ntmps34
  go_wp2_with (first | (go_at_call 79; refine (who_any _ _).mono ?_; rintro e w1 ⟨he, rfl⟩; (try rw [HW.out] at he); subst he))
  go_ret
  exact ⟨by rw [Bool.decide_and]; rfl, HB.out _⟩
end Go.Proofs.YtfjdaafckiefdaaGreatDoor.E9
/- The document's Right: the kind 5. -/
namespace Go.Proofs.YtfjdaafckiefdaaGreatDoor.E9
open Go.RowKit C8
set_option maxHeartbeats 4000000 in
theorem rr5x4 (w : World) (a2 a3 a6 a7 a8 : Int) (np vp q : Option Addr) (nc vc c n4 n5 n9 : Nat) (HW : Hid (decide (1 ≤ a2 ∧ a2 ≤ 16) = true)) (s1 : 1 ≤ a3) (s2 : a3 ≤ 1099511627776)  (p4 : 0 < n4) :
    Calls Tryz.prog 34 #[.agg #[.int .i64 5, .int .i64 a2, .int .i64 a3, .slice np n4 nc, .slice vp n5 vc, .int .i64 a6, .int .i64 a7, .int .i64 a8, .slice q n9 c]] w fun e w' => e = .returned (.bool false) ∧ Below w.heap.size w w' := by
  have HB : Hid (∀ o1, Below w.heap.size w (w.alloc o1)) := fun o1 => bel_alloc (Nat.le_refl _) o1
  have q4 : (0 : Int) < (n4 : Int) := by omega
  go_enter Tryz.func34, Tryz.ntmps34
  go_wp2_with (first | (go_at_call 79; refine (who_any _ _).mono ?_; rintro e w1 ⟨he, rfl⟩; (try rw [HW.out] at he); subst he))
  go_ret
  exact ⟨rfl, HB.out _⟩
set_option maxHeartbeats 4000000 in
theorem rr5x5 (w : World) (a2 a3 a6 a7 a8 : Int) (np vp q : Option Addr) (nc vc c n5 n9 : Nat) (HW : Hid (decide (1 ≤ a2 ∧ a2 ≤ 16) = true)) (s1 : 1 ≤ a3) (s2 : a3 ≤ 1099511627776)  (p5 : 0 < n5) :
    Calls Tryz.prog 34 #[.agg #[.int .i64 5, .int .i64 a2, .int .i64 a3, .slice np 0 nc, .slice vp n5 vc, .int .i64 a6, .int .i64 a7, .int .i64 a8, .slice q n9 c]] w fun e w' => e = .returned (.bool false) ∧ Below w.heap.size w w' := by
  have HB : Hid (∀ o1, Below w.heap.size w (w.alloc o1)) := fun o1 => bel_alloc (Nat.le_refl _) o1
  have q5 : (0 : Int) < (n5 : Int) := by omega
  go_enter Tryz.func34, Tryz.ntmps34
  go_wp2_with (first | (go_at_call 79; refine (who_any _ _).mono ?_; rintro e w1 ⟨he, rfl⟩; (try rw [HW.out] at he); subst he))
  go_ret
  exact ⟨rfl, HB.out _⟩
set_option maxHeartbeats 4000000 in
theorem rr5x6 (w : World) (a2 a3 a6 a7 a8 : Int) (np vp q : Option Addr) (nc vc c n9 : Nat) (HW : Hid (decide (1 ≤ a2 ∧ a2 ≤ 16) = true)) (s1 : 1 ≤ a3) (s2 : a3 ≤ 1099511627776)  (z6 : ¬ a6 = 0) :
    Calls Tryz.prog 34 #[.agg #[.int .i64 5, .int .i64 a2, .int .i64 a3, .slice np 0 nc, .slice vp 0 vc, .int .i64 a6, .int .i64 a7, .int .i64 a8, .slice q n9 c]] w fun e w' => e = .returned (.bool false) ∧ Below w.heap.size w w' := by
  have HB : Hid (∀ o1, Below w.heap.size w (w.alloc o1)) := fun o1 => bel_alloc (Nat.le_refl _) o1
  have y6 : (a6 == 0) = false := by simp [z6]
  go_enter Tryz.func34, Tryz.ntmps34
  go_wp2_with (first | (go_at_call 79; refine (who_any _ _).mono ?_; rintro e w1 ⟨he, rfl⟩; (try rw [HW.out] at he); subst he))
  go_ret
  exact ⟨rfl, HB.out _⟩
set_option maxHeartbeats 4000000 in
theorem rr5x7 (w : World) (a2 a3 a7 a8 : Int) (np vp q : Option Addr) (nc vc c n9 : Nat) (HW : Hid (decide (1 ≤ a2 ∧ a2 ≤ 16) = true)) (s1 : 1 ≤ a3) (s2 : a3 ≤ 1099511627776)  (z7 : ¬ a7 = 0) :
    Calls Tryz.prog 34 #[.agg #[.int .i64 5, .int .i64 a2, .int .i64 a3, .slice np 0 nc, .slice vp 0 vc, .int .i64 0, .int .i64 a7, .int .i64 a8, .slice q n9 c]] w fun e w' => e = .returned (.bool false) ∧ Below w.heap.size w w' := by
  have HB : Hid (∀ o1, Below w.heap.size w (w.alloc o1)) := fun o1 => bel_alloc (Nat.le_refl _) o1
  have y7 : (a7 == 0) = false := by simp [z7]
  go_enter Tryz.func34, Tryz.ntmps34
  go_wp2_with (first | (go_at_call 79; refine (who_any _ _).mono ?_; rintro e w1 ⟨he, rfl⟩; (try rw [HW.out] at he); subst he))
  go_ret
  exact ⟨rfl, HB.out _⟩
set_option maxHeartbeats 4000000 in
theorem rr5a (w : World) (a2 a3 a8 : Int) (np vp q : Option Addr) (nc vc c n9 : Nat) (HW : Hid (decide (1 ≤ a2 ∧ a2 ≤ 16) = true)) (s1 : 1 ≤ a3) (s2 : a3 ≤ 1099511627776)  (p8 : a8 < 1) :
    Calls Tryz.prog 34 #[.agg #[.int .i64 5, .int .i64 a2, .int .i64 a3, .slice np 0 nc, .slice vp 0 vc, .int .i64 0, .int .i64 0, .int .i64 a8, .slice q n9 c]] w fun e w' => e = .returned (.bool false) ∧ Below w.heap.size w w' := by
  have HB : Hid (∀ o1, Below w.heap.size w (w.alloc o1)) := fun o1 => bel_alloc (Nat.le_refl _) o1
  have q8 : ¬ 1 ≤ a8 := by omega
  go_enter Tryz.func34, Tryz.ntmps34
  go_wp2_with (first | (go_at_call 79; refine (who_any _ _).mono ?_; rintro e w1 ⟨he, rfl⟩; (try rw [HW.out] at he); subst he))
  go_ret
  exact ⟨rfl, HB.out _⟩
set_option maxHeartbeats 4000000 in
theorem rr5b (w : World) (a2 a3 a8 : Int) (np vp q : Option Addr) (nc vc c n9 : Nat) (HW : Hid (decide (1 ≤ a2 ∧ a2 ≤ 16) = true)) (s1 : 1 ≤ a3) (s2 : a3 ≤ 1099511627776)  (p8 : 1 ≤ a8) (p9 : 16 < a8) :
    Calls Tryz.prog 34 #[.agg #[.int .i64 5, .int .i64 a2, .int .i64 a3, .slice np 0 nc, .slice vp 0 vc, .int .i64 0, .int .i64 0, .int .i64 a8, .slice q n9 c]] w fun e w' => e = .returned (.bool false) ∧ Below w.heap.size w w' := by
  have HB : Hid (∀ o1, Below w.heap.size w (w.alloc o1)) := fun o1 => bel_alloc (Nat.le_refl _) o1
  have q8 : ¬ a8 ≤ 16 := by omega
  go_enter Tryz.func34, Tryz.ntmps34
  go_wp2_with (first | (go_at_call 79; refine (who_any _ _).mono ?_; rintro e w1 ⟨he, rfl⟩; (try rw [HW.out] at he); subst he))
  go_ret
  exact ⟨rfl, HB.out _⟩
set_option maxHeartbeats 4000000 in
theorem rr5c (w : World) (a2 a3 a8 : Int) (np vp q : Option Addr) (nc vc c n9 : Nat) (HW : Hid (decide (1 ≤ a2 ∧ a2 ≤ 16) = true)) (s1 : 1 ≤ a3) (s2 : a3 ≤ 1099511627776)  (p8 : 1 ≤ a8) (p9 : a8 ≤ 16) (r : Bool) (HWR : ∀ W, Hid (Below w.heap.size w W) → Calls Tryz.prog 80 #[.slice q n9 c] W fun e w' => e = .returned (.bool r) ∧ Hid (Below w.heap.size w w')) :
    Calls Tryz.prog 34 #[.agg #[.int .i64 5, .int .i64 a2, .int .i64 a3, .slice np 0 nc, .slice vp 0 vc, .int .i64 0, .int .i64 0, .int .i64 a8, .slice q n9 c]] w fun e w' => e = .returned (.bool r) ∧ Below w.heap.size w w' := by
  have HB : Hid (∀ o1, Below w.heap.size w (w.alloc o1)) := fun o1 => bel_alloc (Nat.le_refl _) o1
  go_enter Tryz.func34, Tryz.ntmps34
  go_wp2_with (first | (go_at_call 79; refine (who_any _ _).mono ?_; rintro e w1 ⟨he, rfl⟩; (try rw [HW.out] at he); subst he) | (go_at_call 80; refine (HWR _ (HB.out _)).mono ?_; rintro e w2 ⟨rfl, HB1⟩))
  go_ret
  exact ⟨rfl, HB1.out⟩
end Go.Proofs.YtfjdaafckiefdaaGreatDoor.E9
/- The document's Right: early ways out. -/
namespace Go.Proofs.YtfjdaafckiefdaaGreatDoor.E9
open Go.RowKit C8
set_option maxHeartbeats 4000000 in
theorem rre1 (w : World) (a1 a2 a3 a6 a7 a8 : Int) (np vp q : Option Addr) (nc n4 vc n5 c n9 : Nat) (HW : Hid (decide (1 ≤ a2 ∧ a2 ≤ 16) = false)) :
    Calls Tryz.prog 34 #[.agg #[.int .i64 a1, .int .i64 a2, .int .i64 a3, .slice np n4 nc, .slice vp n5 vc, .int .i64 a6, .int .i64 a7, .int .i64 a8, .slice q n9 c]] w fun e w' => e = .returned (.bool false) ∧ Below w.heap.size w w' := by
  have HB : Hid (∀ o1, Below w.heap.size w (w.alloc o1)) := fun o1 => bel_alloc (Nat.le_refl _) o1
  go_enter Tryz.func34, Tryz.ntmps34
  go_wp2_with (first | (go_at_call 79; refine (who_any _ _).mono ?_; rintro e w1 ⟨he, rfl⟩; (try rw [HW.out] at he); subst he))
  go_ret
  exact ⟨rfl, HB.out _⟩
set_option maxHeartbeats 4000000 in
theorem rre2 (w : World) (a1 a2 a3 a6 a7 a8 : Int) (np vp q : Option Addr) (nc n4 vc n5 c n9 : Nat) (HW : Hid (decide (1 ≤ a2 ∧ a2 ≤ 16) = true)) (s1 : a3 < 1) :
    Calls Tryz.prog 34 #[.agg #[.int .i64 a1, .int .i64 a2, .int .i64 a3, .slice np n4 nc, .slice vp n5 vc, .int .i64 a6, .int .i64 a7, .int .i64 a8, .slice q n9 c]] w fun e w' => e = .returned (.bool false) ∧ Below w.heap.size w w' := by
  have HB : Hid (∀ o1, Below w.heap.size w (w.alloc o1)) := fun o1 => bel_alloc (Nat.le_refl _) o1
  go_enter Tryz.func34, Tryz.ntmps34
  go_wp2_with (first | (go_at_call 79; refine (who_any _ _).mono ?_; rintro e w1 ⟨he, rfl⟩; (try rw [HW.out] at he); subst he))
  go_ret
  exact ⟨rfl, HB.out _⟩
set_option maxHeartbeats 4000000 in
theorem rre3 (w : World) (a1 a2 a3 a6 a7 a8 : Int) (np vp q : Option Addr) (nc n4 vc n5 c n9 : Nat) (HW : Hid (decide (1 ≤ a2 ∧ a2 ≤ 16) = true)) (s1 : 1 ≤ a3) (s2 : 1099511627776 < a3) :
    Calls Tryz.prog 34 #[.agg #[.int .i64 a1, .int .i64 a2, .int .i64 a3, .slice np n4 nc, .slice vp n5 vc, .int .i64 a6, .int .i64 a7, .int .i64 a8, .slice q n9 c]] w fun e w' => e = .returned (.bool false) ∧ Below w.heap.size w w' := by
  have HB : Hid (∀ o1, Below w.heap.size w (w.alloc o1)) := fun o1 => bel_alloc (Nat.le_refl _) o1
  have s3 : ¬ a3 < 1 := by omega
  go_enter Tryz.func34, Tryz.ntmps34
  go_wp2_with (first | (go_at_call 79; refine (who_any _ _).mono ?_; rintro e w1 ⟨he, rfl⟩; (try rw [HW.out] at he); subst he))
  go_ret
  exact ⟨rfl, HB.out _⟩
end Go.Proofs.YtfjdaafckiefdaaGreatDoor.E9
/- The contract of the document's Right. -/
namespace Go.Proofs.YtfjdaafckiefdaaGreatDoor.E9
open Go.RowKit C8
theorem len_pos {α : Type} {l : List α} (h : ¬ l = []) : 0 < l.length := List.length_pos_iff.2 h
theorem rRight_any (a : En) (va : Value) (w : World) (ha : EnIs w va a) : Calls Tryz.prog 34 #[va] w fun e w' => e = .returned (.bool (right a)) ∧ Below w.heap.size w w' := by
  obtain ⟨np, nc, vp, vc, q, c, rfl, ha⟩ := ha
  have hwr : ∀ W, Hid (Below w.heap.size w W) → Calls Tryz.prog 80 #[.slice q a.wraps.length c] W fun e w' => e = .returned (.bool (wok 0 a.wraps)) ∧ Hid (Below w.heap.size w w') := fun W h => by
    refine (rwraps_any _ _ _ W (ha.wraps.below h.out) ha.lw).mono ?_
    rintro e w' ⟨rfl, h2⟩
    exact ⟨rfl, h.out.trans (bel_le h2 h.out.size)⟩
  clear ha
  obtain ⟨a1, a2, a3, a4, a5, a6, a7, a8, a9⟩ := a
  simp only [EnV] at hwr ⊢
  by_cases hW : 1 ≤ a2 ∧ a2 ≤ 16
  rotate_left
  · rw [show right ⟨a1, a2, a3, a4, a5, a6, a7, a8, a9⟩ = false from Bool.eq_false_iff.2 (fun h => hW ((right_iff _).1 h).1)]
    exact rre1 w a1 a2 a3 a6 a7 a8 np vp q nc _ vc _ c _ (decide_eq_false hW)
  have HW : Hid (decide (1 ≤ a2 ∧ a2 ≤ 16) = true) := decide_eq_true hW
  by_cases s1 : 1 ≤ a3
  rotate_left
  · rw [show right ⟨a1, a2, a3, a4, a5, a6, a7, a8, a9⟩ = false from Bool.eq_false_iff.2 (fun h => s1 ((right_iff _).1 h).2.1.1)]
    exact rre2 w a1 a2 a3 a6 a7 a8 np vp q nc _ vc _ c _ HW (by omega)
  by_cases s2 : a3 ≤ 1099511627776
  rotate_left
  · rw [show right ⟨a1, a2, a3, a4, a5, a6, a7, a8, a9⟩ = false from Bool.eq_false_iff.2 (fun h => s2 ((right_iff _).1 h).2.1.2)]
    exact rre3 w a1 a2 a3 a6 a7 a8 np vp q nc _ vc _ c _ HW s1 (by omega)
  by_cases k1 : a1 = 1
  · subst k1
    by_cases z6 : a6 = 0
    rotate_left
    · rw [show right ⟨1, a2, a3, a4, a5, a6, a7, a8, a9⟩ = false from Bool.eq_false_iff.2 (fun h => by obtain ⟨g1, g2, h⟩ := (right_iff _).1 h; simp only at g1 g2 h; rcases h with h | h | h | h | h <;> simp_all <;> omega)]
      exact rr1x6 w a2 a3 a6 a7 a8 np vp q nc vc c _ _ _ HW s1 s2 z6
    subst z6
    by_cases z7 : a7 = 0
    rotate_left
    · rw [show right ⟨1, a2, a3, a4, a5, 0, a7, a8, a9⟩ = false from Bool.eq_false_iff.2 (fun h => by obtain ⟨g1, g2, h⟩ := (right_iff _).1 h; simp only at g1 g2 h; rcases h with h | h | h | h | h <;> simp_all <;> omega)]
      exact rr1x7 w a2 a3 a7 a8 np vp q nc vc c _ _ _ HW s1 s2 z7
    subst z7
    by_cases z8 : a8 = 0
    rotate_left
    · rw [show right ⟨1, a2, a3, a4, a5, 0, 0, a8, a9⟩ = false from Bool.eq_false_iff.2 (fun h => by obtain ⟨g1, g2, h⟩ := (right_iff _).1 h; simp only at g1 g2 h; rcases h with h | h | h | h | h <;> simp_all <;> omega)]
      exact rr1x8 w a2 a3 a8 np vp q nc vc c _ _ _ HW s1 s2 z8
    subst z8
    by_cases z9 : a9 = []
    rotate_left
    · rw [show right ⟨1, a2, a3, a4, a5, 0, 0, 0, a9⟩ = false from Bool.eq_false_iff.2 (fun h => by obtain ⟨g1, g2, h⟩ := (right_iff _).1 h; simp only at g1 g2 h; rcases h with h | h | h | h | h <;> simp_all <;> omega)]
      exact rr1x9 w a2 a3 np vp q nc vc c _ _ _ HW s1 s2 (len_pos z9)
    subst z9
    by_cases n1 : a4 = []
    · rw [show right ⟨1, a2, a3, a4, a5, 0, 0, 0, []⟩ = false from Bool.eq_false_iff.2 (fun h => by obtain ⟨g1, g2, h⟩ := (right_iff _).1 h; simp only at g1 g2 h; rcases h with h | h | h | h | h <;> simp_all <;> omega)]
      subst n1
      exact rr1a w a2 a3 np vp q nc vc c _ HW s1 s2
    by_cases n2 : 64 < a4.length
    · rw [show right ⟨1, a2, a3, a4, a5, 0, 0, 0, []⟩ = false from Bool.eq_false_iff.2 (fun h => by obtain ⟨g1, g2, h⟩ := (right_iff _).1 h; simp only at g1 g2 h; rcases h with h | h | h | h | h <;> simp_all <;> omega)]
      exact rr1b w a2 a3 np vp q nc vc c _ _ HW s1 s2 n2
    rw [show right ⟨1, a2, a3, a4, a5, 0, 0, 0, []⟩ = decide ((a5.length : Int) ≤ 512) from by
      rw [Bool.eq_iff_iff, right_iff, decide_eq_true_eq]
      have := len_pos n1
      simp [hW, s1, s2]
      omega]
    exact rr1c w a2 a3 np vp q nc vc c _ _ HW s1 s2 (len_pos n1) (by omega)
  by_cases k2 : a1 = 2
  · subst k2
    by_cases z5 : a5 = []
    rotate_left
    · rw [show right ⟨2, a2, a3, a4, a5, a6, a7, a8, a9⟩ = false from Bool.eq_false_iff.2 (fun h => by obtain ⟨g1, g2, h⟩ := (right_iff _).1 h; simp only at g1 g2 h; rcases h with h | h | h | h | h <;> simp_all <;> omega)]
      exact rr2x5 w a2 a3 a6 a7 a8 np vp q nc vc c _ _ _ HW s1 s2 (len_pos z5)
    subst z5
    by_cases z6 : a6 = 0
    rotate_left
    · rw [show right ⟨2, a2, a3, a4, [], a6, a7, a8, a9⟩ = false from Bool.eq_false_iff.2 (fun h => by obtain ⟨g1, g2, h⟩ := (right_iff _).1 h; simp only at g1 g2 h; rcases h with h | h | h | h | h <;> simp_all <;> omega)]
      exact rr2x6 w a2 a3 a6 a7 a8 np vp q nc vc c _ _ HW s1 s2 z6
    subst z6
    by_cases z7 : a7 = 0
    rotate_left
    · rw [show right ⟨2, a2, a3, a4, [], 0, a7, a8, a9⟩ = false from Bool.eq_false_iff.2 (fun h => by obtain ⟨g1, g2, h⟩ := (right_iff _).1 h; simp only at g1 g2 h; rcases h with h | h | h | h | h <;> simp_all <;> omega)]
      exact rr2x7 w a2 a3 a7 a8 np vp q nc vc c _ _ HW s1 s2 z7
    subst z7
    by_cases z8 : a8 = 0
    rotate_left
    · rw [show right ⟨2, a2, a3, a4, [], 0, 0, a8, a9⟩ = false from Bool.eq_false_iff.2 (fun h => by obtain ⟨g1, g2, h⟩ := (right_iff _).1 h; simp only at g1 g2 h; rcases h with h | h | h | h | h <;> simp_all <;> omega)]
      exact rr2x8 w a2 a3 a8 np vp q nc vc c _ _ HW s1 s2 z8
    subst z8
    by_cases z9 : a9 = []
    rotate_left
    · rw [show right ⟨2, a2, a3, a4, [], 0, 0, 0, a9⟩ = false from Bool.eq_false_iff.2 (fun h => by obtain ⟨g1, g2, h⟩ := (right_iff _).1 h; simp only at g1 g2 h; rcases h with h | h | h | h | h <;> simp_all <;> omega)]
      exact rr2x9 w a2 a3 np vp q nc vc c _ _ HW s1 s2 (len_pos z9)
    subst z9
    by_cases n1 : a4 = []
    · rw [show right ⟨2, a2, a3, a4, [], 0, 0, 0, []⟩ = false from Bool.eq_false_iff.2 (fun h => by obtain ⟨g1, g2, h⟩ := (right_iff _).1 h; simp only at g1 g2 h; rcases h with h | h | h | h | h <;> simp_all <;> omega)]
      subst n1
      exact rr2a w a2 a3 np vp q nc vc c  HW s1 s2
    by_cases n2 : 64 < a4.length
    · rw [show right ⟨2, a2, a3, a4, [], 0, 0, 0, []⟩ = false from Bool.eq_false_iff.2 (fun h => by obtain ⟨g1, g2, h⟩ := (right_iff _).1 h; simp only at g1 g2 h; rcases h with h | h | h | h | h <;> simp_all <;> omega)]
      exact rr2b w a2 a3 np vp q nc vc c _ HW s1 s2 n2
    rw [show right ⟨2, a2, a3, a4, [], 0, 0, 0, []⟩ = true from by
      rw [right_iff]
      have := len_pos n1
      simp [hW, s1, s2]
      omega]
    exact rr2c w a2 a3 np vp q nc vc c _ HW s1 s2 (len_pos n1) (by omega)
  by_cases k3 : a1 = 3
  · subst k3
    by_cases z4 : a4 = []
    rotate_left
    · rw [show right ⟨3, a2, a3, a4, a5, a6, a7, a8, a9⟩ = false from Bool.eq_false_iff.2 (fun h => by obtain ⟨g1, g2, h⟩ := (right_iff _).1 h; simp only at g1 g2 h; rcases h with h | h | h | h | h <;> simp_all <;> omega)]
      exact rr3x4 w a2 a3 a6 a7 a8 np vp q nc vc c _ _ _ HW s1 s2 (len_pos z4)
    subst z4
    by_cases z5 : a5 = []
    rotate_left
    · rw [show right ⟨3, a2, a3, [], a5, a6, a7, a8, a9⟩ = false from Bool.eq_false_iff.2 (fun h => by obtain ⟨g1, g2, h⟩ := (right_iff _).1 h; simp only at g1 g2 h; rcases h with h | h | h | h | h <;> simp_all <;> omega)]
      exact rr3x5 w a2 a3 a6 a7 a8 np vp q nc vc c _ _ HW s1 s2 (len_pos z5)
    subst z5
    by_cases z8 : a8 = 0
    rotate_left
    · rw [show right ⟨3, a2, a3, [], [], a6, a7, a8, a9⟩ = false from Bool.eq_false_iff.2 (fun h => by obtain ⟨g1, g2, h⟩ := (right_iff _).1 h; simp only at g1 g2 h; rcases h with h | h | h | h | h <;> simp_all <;> omega)]
      exact rr3x8 w a2 a3 a6 a7 a8 np vp q nc vc c _ HW s1 s2 z8
    subst z8
    by_cases z9 : a9 = []
    rotate_left
    · rw [show right ⟨3, a2, a3, [], [], a6, a7, 0, a9⟩ = false from Bool.eq_false_iff.2 (fun h => by obtain ⟨g1, g2, h⟩ := (right_iff _).1 h; simp only at g1 g2 h; rcases h with h | h | h | h | h <;> simp_all <;> omega)]
      exact rr3x9 w a2 a3 a6 a7 np vp q nc vc c _ HW s1 s2 (len_pos z9)
    subst z9
    by_cases v : 1 ≤ a6 ∧ a6 ≤ 16
    rotate_left
    · rw [show right ⟨3, a2, a3, [], [], a6, a7, 0, []⟩ = false from Bool.eq_false_iff.2 (fun h => by obtain ⟨g1, g2, h⟩ := (right_iff _).1 h; simp only at g1 g2 h; rcases h with h | h | h | h | h <;> simp_all <;> omega)]
      exact rr3a w a2 a3 a6 a7 np vp q nc vc c  HW s1 s2 (decide_eq_false v)
    by_cases v7 : 1 ≤ a7
    rotate_left
    · rw [show right ⟨3, a2, a3, [], [], a6, a7, 0, []⟩ = false from Bool.eq_false_iff.2 (fun h => by obtain ⟨g1, g2, h⟩ := (right_iff _).1 h; simp only at g1 g2 h; rcases h with h | h | h | h | h <;> simp_all <;> omega)]
      exact rr3b w a2 a3 a6 a7 np vp q nc vc c  HW s1 s2 (decide_eq_true v) (by omega)
    rw [show right ⟨3, a2, a3, [], [], a6, a7, 0, []⟩ = decide (a7 ≤ 7) from by
      rw [Bool.eq_iff_iff, right_iff, decide_eq_true_eq]
      simp [hW, s1, s2, v, v7]]
    exact rr3c w a2 a3 a6 a7 np vp q nc vc c  HW s1 s2 (decide_eq_true v) v7
  by_cases k4 : a1 = 4
  · subst k4
    by_cases z4 : a4 = []
    rotate_left
    · rw [show right ⟨4, a2, a3, a4, a5, a6, a7, a8, a9⟩ = false from Bool.eq_false_iff.2 (fun h => by obtain ⟨g1, g2, h⟩ := (right_iff _).1 h; simp only at g1 g2 h; rcases h with h | h | h | h | h <;> simp_all <;> omega)]
      exact rr4x4 w a2 a3 a6 a7 a8 np vp q nc vc c _ _ _ HW s1 s2 (len_pos z4)
    subst z4
    by_cases z5 : a5 = []
    rotate_left
    · rw [show right ⟨4, a2, a3, [], a5, a6, a7, a8, a9⟩ = false from Bool.eq_false_iff.2 (fun h => by obtain ⟨g1, g2, h⟩ := (right_iff _).1 h; simp only at g1 g2 h; rcases h with h | h | h | h | h <;> simp_all <;> omega)]
      exact rr4x5 w a2 a3 a6 a7 a8 np vp q nc vc c _ _ HW s1 s2 (len_pos z5)
    subst z5
    by_cases z7 : a7 = 0
    rotate_left
    · rw [show right ⟨4, a2, a3, [], [], a6, a7, a8, a9⟩ = false from Bool.eq_false_iff.2 (fun h => by obtain ⟨g1, g2, h⟩ := (right_iff _).1 h; simp only at g1 g2 h; rcases h with h | h | h | h | h <;> simp_all <;> omega)]
      exact rr4x7 w a2 a3 a6 a7 a8 np vp q nc vc c _ HW s1 s2 z7
    subst z7
    by_cases z8 : a8 = 0
    rotate_left
    · rw [show right ⟨4, a2, a3, [], [], a6, 0, a8, a9⟩ = false from Bool.eq_false_iff.2 (fun h => by obtain ⟨g1, g2, h⟩ := (right_iff _).1 h; simp only at g1 g2 h; rcases h with h | h | h | h | h <;> simp_all <;> omega)]
      exact rr4x8 w a2 a3 a6 a8 np vp q nc vc c _ HW s1 s2 z8
    subst z8
    by_cases z9 : a9 = []
    rotate_left
    · rw [show right ⟨4, a2, a3, [], [], a6, 0, 0, a9⟩ = false from Bool.eq_false_iff.2 (fun h => by obtain ⟨g1, g2, h⟩ := (right_iff _).1 h; simp only at g1 g2 h; rcases h with h | h | h | h | h <;> simp_all <;> omega)]
      exact rr4x9 w a2 a3 a6 np vp q nc vc c _ HW s1 s2 (len_pos z9)
    subst z9
    rw [show right ⟨4, a2, a3, [], [], a6, 0, 0, []⟩ = decide (1 ≤ a6 ∧ a6 ≤ 16) from by
      rw [Bool.eq_iff_iff, right_iff, decide_eq_true_eq]
      simp [hW, s1, s2]]
    exact rr4a w a2 a3 a6 np vp q nc vc c  HW s1 s2
  by_cases k5 : a1 = 5
  · subst k5
    by_cases z4 : a4 = []
    rotate_left
    · rw [show right ⟨5, a2, a3, a4, a5, a6, a7, a8, a9⟩ = false from Bool.eq_false_iff.2 (fun h => by obtain ⟨g1, g2, h⟩ := (right_iff _).1 h; simp only at g1 g2 h; rcases h with h | h | h | h | h <;> simp_all <;> omega)]
      exact rr5x4 w a2 a3 a6 a7 a8 np vp q nc vc c _ _ _ HW s1 s2 (len_pos z4)
    subst z4
    by_cases z5 : a5 = []
    rotate_left
    · rw [show right ⟨5, a2, a3, [], a5, a6, a7, a8, a9⟩ = false from Bool.eq_false_iff.2 (fun h => by obtain ⟨g1, g2, h⟩ := (right_iff _).1 h; simp only at g1 g2 h; rcases h with h | h | h | h | h <;> simp_all <;> omega)]
      exact rr5x5 w a2 a3 a6 a7 a8 np vp q nc vc c _ _ HW s1 s2 (len_pos z5)
    subst z5
    by_cases z6 : a6 = 0
    rotate_left
    · rw [show right ⟨5, a2, a3, [], [], a6, a7, a8, a9⟩ = false from Bool.eq_false_iff.2 (fun h => by obtain ⟨g1, g2, h⟩ := (right_iff _).1 h; simp only at g1 g2 h; rcases h with h | h | h | h | h <;> simp_all <;> omega)]
      exact rr5x6 w a2 a3 a6 a7 a8 np vp q nc vc c _ HW s1 s2 z6
    subst z6
    by_cases z7 : a7 = 0
    rotate_left
    · rw [show right ⟨5, a2, a3, [], [], 0, a7, a8, a9⟩ = false from Bool.eq_false_iff.2 (fun h => by obtain ⟨g1, g2, h⟩ := (right_iff _).1 h; simp only at g1 g2 h; rcases h with h | h | h | h | h <;> simp_all <;> omega)]
      exact rr5x7 w a2 a3 a7 a8 np vp q nc vc c _ HW s1 s2 z7
    subst z7
    by_cases v : 1 ≤ a8
    rotate_left
    · rw [show right ⟨5, a2, a3, [], [], 0, 0, a8, a9⟩ = false from Bool.eq_false_iff.2 (fun h => by obtain ⟨g1, g2, h⟩ := (right_iff _).1 h; simp only at g1 g2 h; rcases h with h | h | h | h | h <;> simp_all <;> omega)]
      exact rr5a w a2 a3 a8 np vp q nc vc c _ HW s1 s2 (by omega)
    by_cases v2 : a8 ≤ 16
    rotate_left
    · rw [show right ⟨5, a2, a3, [], [], 0, 0, a8, a9⟩ = false from Bool.eq_false_iff.2 (fun h => by obtain ⟨g1, g2, h⟩ := (right_iff _).1 h; simp only at g1 g2 h; rcases h with h | h | h | h | h <;> simp_all <;> omega)]
      exact rr5b w a2 a3 a8 np vp q nc vc c _ HW s1 s2 v (by omega)
    rw [show right ⟨5, a2, a3, [], [], 0, 0, a8, a9⟩ = wok 0 a9 from by
      rw [Bool.eq_iff_iff, right_iff]
      simp [hW, s1, s2, v, v2]]
    exact rr5c w a2 a3 a8 np vp q nc vc c _ HW s1 s2 v v2 _ hwr
  by_cases z4 : a4 = []
  rotate_left
  · rw [show right ⟨a1, a2, a3, a4, a5, a6, a7, a8, a9⟩ = false from Bool.eq_false_iff.2 (fun h => by obtain ⟨g1, g2, h⟩ := (right_iff _).1 h; simp only at g1 g2 h; rcases h with h | h | h | h | h <;> simp_all <;> omega)]
    exact rr0x4 w a1 a2 a3 a6 a7 a8 np vp q nc vc c _ _ _ HW s1 s2 k1 k2 k3 k4 k5 (len_pos z4)
  subst z4
  by_cases z5 : a5 = []
  rotate_left
  · rw [show right ⟨a1, a2, a3, [], a5, a6, a7, a8, a9⟩ = false from Bool.eq_false_iff.2 (fun h => by obtain ⟨g1, g2, h⟩ := (right_iff _).1 h; simp only at g1 g2 h; rcases h with h | h | h | h | h <;> simp_all <;> omega)]
    exact rr0x5 w a1 a2 a3 a6 a7 a8 np vp q nc vc c _ _ HW s1 s2 k1 k2 k3 k4 k5 (len_pos z5)
  subst z5
  by_cases z6 : a6 = 0
  rotate_left
  · rw [show right ⟨a1, a2, a3, [], [], a6, a7, a8, a9⟩ = false from Bool.eq_false_iff.2 (fun h => by obtain ⟨g1, g2, h⟩ := (right_iff _).1 h; simp only at g1 g2 h; rcases h with h | h | h | h | h <;> simp_all <;> omega)]
    exact rr0x6 w a1 a2 a3 a6 a7 a8 np vp q nc vc c _ HW s1 s2 k1 k2 k3 k4 k5 z6
  subst z6
  by_cases z7 : a7 = 0
  rotate_left
  · rw [show right ⟨a1, a2, a3, [], [], 0, a7, a8, a9⟩ = false from Bool.eq_false_iff.2 (fun h => by obtain ⟨g1, g2, h⟩ := (right_iff _).1 h; simp only at g1 g2 h; rcases h with h | h | h | h | h <;> simp_all <;> omega)]
    exact rr0x7 w a1 a2 a3 a7 a8 np vp q nc vc c _ HW s1 s2 k1 k2 k3 k4 k5 z7
  subst z7
  by_cases z8 : a8 = 0
  rotate_left
  · rw [show right ⟨a1, a2, a3, [], [], 0, 0, a8, a9⟩ = false from Bool.eq_false_iff.2 (fun h => by obtain ⟨g1, g2, h⟩ := (right_iff _).1 h; simp only at g1 g2 h; rcases h with h | h | h | h | h <;> simp_all <;> omega)]
    exact rr0x8 w a1 a2 a3 a8 np vp q nc vc c _ HW s1 s2 k1 k2 k3 k4 k5 z8
  subst z8
  by_cases z9 : a9 = []
  rotate_left
  · rw [show right ⟨a1, a2, a3, [], [], 0, 0, 0, a9⟩ = false from Bool.eq_false_iff.2 (fun h => by obtain ⟨g1, g2, h⟩ := (right_iff _).1 h; simp only at g1 g2 h; rcases h with h | h | h | h | h <;> simp_all <;> omega)]
    exact rr0x9 w a1 a2 a3 np vp q nc vc c _ HW s1 s2 k1 k2 k3 k4 k5 (len_pos z9)
  subst z9
  rw [show right ⟨a1, a2, a3, [], [], 0, 0, 0, []⟩ = false from Bool.eq_false_iff.2 (fun h => by obtain ⟨g1, g2, h⟩ := (right_iff _).1 h; simp only at g1 g2 h; rcases h with h | h | h | h | h <;> simp_all <;> omega)]
  exact rr0a w a1 a2 a3 np vp q nc vc c  HW s1 s2 k1 k2 k3 k4 k5
end Go.Proofs.YtfjdaafckiefdaaGreatDoor.E9
