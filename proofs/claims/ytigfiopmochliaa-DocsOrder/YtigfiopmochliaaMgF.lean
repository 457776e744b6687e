/- The document's Right: no kind. -/
import Derived.Test.YtigfiopmochliaaE9RWL
namespace Go.Proofs.Ytigfiopmochliaa.E9
open Go.RowKit C8
set_option maxHeartbeats 4000000 in
theorem rr0x4 (w : World) (a1 a2 a3 a6 a7 a8 : Int) (np vp q : Option Addr) (nc vc c n4 n5 n9 : Nat) (HW : Hid (decide (1 ≤ a2 ∧ a2 ≤ 16) = true)) (s1 : 1 ≤ a3) (s2 : a3 ≤ 1099511627776) (k1 : ¬ a1 = 1) (k2 : ¬ a1 = 2) (k3 : ¬ a1 = 3) (k4 : ¬ a1 = 4) (k5 : ¬ a1 = 5) (p4 : 0 < n4) :
    Calls Try.prog 13 #[.agg #[.int .i64 a1, .int .i64 a2, .int .i64 a3, .slice np n4 nc, .slice vp n5 vc, .int .i64 a6, .int .i64 a7, .int .i64 a8, .slice q n9 c]] w fun e w' => e = .returned (.bool false) ∧ Below w.heap.size w w' := by
  have HB : Hid (∀ o1, Below w.heap.size w (w.alloc o1)) := fun o1 => bel_alloc (Nat.le_refl _) o1
  have kz1 : (a1 == 1) = false := by simp [k1]
  have kz2 : (a1 == 2) = false := by simp [k2]
  have kz3 : (a1 == 3) = false := by simp [k3]
  have kz4 : (a1 == 4) = false := by simp [k4]
  have kz5 : (a1 == 5) = false := by simp [k5]
  have q4 : (0 : Int) < (n4 : Int) := by omega
  go_enter Try.func13, Try.ntmps13
  go_wp2_with (first | (go_at_call 26; refine (who_any _ _).mono ?_; rintro e w1 ⟨he, rfl⟩; (try rw [HW.out] at he); subst he))
  go_ret
  exact ⟨rfl, HB.out _⟩
set_option maxHeartbeats 4000000 in
theorem rr0x5 (w : World) (a1 a2 a3 a6 a7 a8 : Int) (np vp q : Option Addr) (nc vc c n5 n9 : Nat) (HW : Hid (decide (1 ≤ a2 ∧ a2 ≤ 16) = true)) (s1 : 1 ≤ a3) (s2 : a3 ≤ 1099511627776) (k1 : ¬ a1 = 1) (k2 : ¬ a1 = 2) (k3 : ¬ a1 = 3) (k4 : ¬ a1 = 4) (k5 : ¬ a1 = 5) (p5 : 0 < n5) :
    Calls Try.prog 13 #[.agg #[.int .i64 a1, .int .i64 a2, .int .i64 a3, .slice np 0 nc, .slice vp n5 vc, .int .i64 a6, .int .i64 a7, .int .i64 a8, .slice q n9 c]] w fun e w' => e = .returned (.bool false) ∧ Below w.heap.size w w' := by
  have HB : Hid (∀ o1, Below w.heap.size w (w.alloc o1)) := fun o1 => bel_alloc (Nat.le_refl _) o1
  have kz1 : (a1 == 1) = false := by simp [k1]
  have kz2 : (a1 == 2) = false := by simp [k2]
  have kz3 : (a1 == 3) = false := by simp [k3]
  have kz4 : (a1 == 4) = false := by simp [k4]
  have kz5 : (a1 == 5) = false := by simp [k5]
  have q5 : (0 : Int) < (n5 : Int) := by omega
  go_enter Try.func13, Try.ntmps13
  go_wp2_with (first | (go_at_call 26; refine (who_any _ _).mono ?_; rintro e w1 ⟨he, rfl⟩; (try rw [HW.out] at he); subst he))
  go_ret
  exact ⟨rfl, HB.out _⟩
set_option maxHeartbeats 4000000 in
theorem rr0x6 (w : World) (a1 a2 a3 a6 a7 a8 : Int) (np vp q : Option Addr) (nc vc c n9 : Nat) (HW : Hid (decide (1 ≤ a2 ∧ a2 ≤ 16) = true)) (s1 : 1 ≤ a3) (s2 : a3 ≤ 1099511627776) (k1 : ¬ a1 = 1) (k2 : ¬ a1 = 2) (k3 : ¬ a1 = 3) (k4 : ¬ a1 = 4) (k5 : ¬ a1 = 5) (z6 : ¬ a6 = 0) :
    Calls Try.prog 13 #[.agg #[.int .i64 a1, .int .i64 a2, .int .i64 a3, .slice np 0 nc, .slice vp 0 vc, .int .i64 a6, .int .i64 a7, .int .i64 a8, .slice q n9 c]] w fun e w' => e = .returned (.bool false) ∧ Below w.heap.size w w' := by
  have HB : Hid (∀ o1, Below w.heap.size w (w.alloc o1)) := fun o1 => bel_alloc (Nat.le_refl _) o1
  have kz1 : (a1 == 1) = false := by simp [k1]
  have kz2 : (a1 == 2) = false := by simp [k2]
  have kz3 : (a1 == 3) = false := by simp [k3]
  have kz4 : (a1 == 4) = false := by simp [k4]
  have kz5 : (a1 == 5) = false := by simp [k5]
  have y6 : (a6 == 0) = false := by simp [z6]
  go_enter Try.func13, Try.ntmps13
  go_wp2_with (first | (go_at_call 26; refine (who_any _ _).mono ?_; rintro e w1 ⟨he, rfl⟩; (try rw [HW.out] at he); subst he))
  go_ret
  exact ⟨rfl, HB.out _⟩
set_option maxHeartbeats 4000000 in
theorem rr0x7 (w : World) (a1 a2 a3 a7 a8 : Int) (np vp q : Option Addr) (nc vc c n9 : Nat) (HW : Hid (decide (1 ≤ a2 ∧ a2 ≤ 16) = true)) (s1 : 1 ≤ a3) (s2 : a3 ≤ 1099511627776) (k1 : ¬ a1 = 1) (k2 : ¬ a1 = 2) (k3 : ¬ a1 = 3) (k4 : ¬ a1 = 4) (k5 : ¬ a1 = 5) (z7 : ¬ a7 = 0) :
    Calls Try.prog 13 #[.agg #[.int .i64 a1, .int .i64 a2, .int .i64 a3, .slice np 0 nc, .slice vp 0 vc, .int .i64 0, .int .i64 a7, .int .i64 a8, .slice q n9 c]] w fun e w' => e = .returned (.bool false) ∧ Below w.heap.size w w' := by
  have HB : Hid (∀ o1, Below w.heap.size w (w.alloc o1)) := fun o1 => bel_alloc (Nat.le_refl _) o1
  have kz1 : (a1 == 1) = false := by simp [k1]
  have kz2 : (a1 == 2) = false := by simp [k2]
  have kz3 : (a1 == 3) = false := by simp [k3]
  have kz4 : (a1 == 4) = false := by simp [k4]
  have kz5 : (a1 == 5) = false := by simp [k5]
  have y7 : (a7 == 0) = false := by simp [z7]
  go_enter Try.func13, Try.ntmps13
  go_wp2_with (first | (go_at_call 26; refine (who_any _ _).mono ?_; rintro e w1 ⟨he, rfl⟩; (try rw [HW.out] at he); subst he))
  go_ret
  exact ⟨rfl, HB.out _⟩
set_option maxHeartbeats 4000000 in
theorem rr0x8 (w : World) (a1 a2 a3 a8 : Int) (np vp q : Option Addr) (nc vc c n9 : Nat) (HW : Hid (decide (1 ≤ a2 ∧ a2 ≤ 16) = true)) (s1 : 1 ≤ a3) (s2 : a3 ≤ 1099511627776) (k1 : ¬ a1 = 1) (k2 : ¬ a1 = 2) (k3 : ¬ a1 = 3) (k4 : ¬ a1 = 4) (k5 : ¬ a1 = 5) (z8 : ¬ a8 = 0) :
    Calls Try.prog 13 #[.agg #[.int .i64 a1, .int .i64 a2, .int .i64 a3, .slice np 0 nc, .slice vp 0 vc, .int .i64 0, .int .i64 0, .int .i64 a8, .slice q n9 c]] w fun e w' => e = .returned (.bool false) ∧ Below w.heap.size w w' := by
  have HB : Hid (∀ o1, Below w.heap.size w (w.alloc o1)) := fun o1 => bel_alloc (Nat.le_refl _) o1
  have kz1 : (a1 == 1) = false := by simp [k1]
  have kz2 : (a1 == 2) = false := by simp [k2]
  have kz3 : (a1 == 3) = false := by simp [k3]
  have kz4 : (a1 == 4) = false := by simp [k4]
  have kz5 : (a1 == 5) = false := by simp [k5]
  have y8 : (a8 == 0) = false := by simp [z8]
  go_enter Try.func13, Try.ntmps13
  go_wp2_with (first | (go_at_call 26; refine (who_any _ _).mono ?_; rintro e w1 ⟨he, rfl⟩; (try rw [HW.out] at he); subst he))
  go_ret
  exact ⟨rfl, HB.out _⟩
set_option maxHeartbeats 4000000 in
theorem rr0x9 (w : World) (a1 a2 a3 : Int) (np vp q : Option Addr) (nc vc c n9 : Nat) (HW : Hid (decide (1 ≤ a2 ∧ a2 ≤ 16) = true)) (s1 : 1 ≤ a3) (s2 : a3 ≤ 1099511627776) (k1 : ¬ a1 = 1) (k2 : ¬ a1 = 2) (k3 : ¬ a1 = 3) (k4 : ¬ a1 = 4) (k5 : ¬ a1 = 5) (p9 : 0 < n9) :
    Calls Try.prog 13 #[.agg #[.int .i64 a1, .int .i64 a2, .int .i64 a3, .slice np 0 nc, .slice vp 0 vc, .int .i64 0, .int .i64 0, .int .i64 0, .slice q n9 c]] w fun e w' => e = .returned (.bool false) ∧ Below w.heap.size w w' := by
  have HB : Hid (∀ o1, Below w.heap.size w (w.alloc o1)) := fun o1 => bel_alloc (Nat.le_refl _) o1
  have kz1 : (a1 == 1) = false := by simp [k1]
  have kz2 : (a1 == 2) = false := by simp [k2]
  have kz3 : (a1 == 3) = false := by simp [k3]
  have kz4 : (a1 == 4) = false := by simp [k4]
  have kz5 : (a1 == 5) = false := by simp [k5]
  have q9 : (0 : Int) < (n9 : Int) := by omega
  go_enter Try.func13, Try.ntmps13
  go_wp2_with (first | (go_at_call 26; refine (who_any _ _).mono ?_; rintro e w1 ⟨he, rfl⟩; (try rw [HW.out] at he); subst he))
  go_ret
  exact ⟨rfl, HB.out _⟩
set_option maxHeartbeats 4000000 in
theorem rr0a (w : World) (a1 a2 a3 : Int) (np vp q : Option Addr) (nc vc c  : Nat) (HW : Hid (decide (1 ≤ a2 ∧ a2 ≤ 16) = true)) (s1 : 1 ≤ a3) (s2 : a3 ≤ 1099511627776) (k1 : ¬ a1 = 1) (k2 : ¬ a1 = 2) (k3 : ¬ a1 = 3) (k4 : ¬ a1 = 4) (k5 : ¬ a1 = 5)  :
    Calls Try.prog 13 #[.agg #[.int .i64 a1, .int .i64 a2, .int .i64 a3, .slice np 0 nc, .slice vp 0 vc, .int .i64 0, .int .i64 0, .int .i64 0, .slice q 0 c]] w fun e w' => e = .returned (.bool false) ∧ Below w.heap.size w w' := by
  have HB : Hid (∀ o1, Below w.heap.size w (w.alloc o1)) := fun o1 => bel_alloc (Nat.le_refl _) o1
  have kz1 : (a1 == 1) = false := by simp [k1]
  have kz2 : (a1 == 2) = false := by simp [k2]
  have kz3 : (a1 == 3) = false := by simp [k3]
  have kz4 : (a1 == 4) = false := by simp [k4]
  have kz5 : (a1 == 5) = false := by simp [k5]
  go_enter Try.func13, Try.ntmps13
  go_wp2_with (first | (go_at_call 26; refine (who_any _ _).mono ?_; rintro e w1 ⟨he, rfl⟩; (try rw [HW.out] at he); subst he))
  go_ret
  exact ⟨rfl, HB.out _⟩
end Go.Proofs.Ytigfiopmochliaa.E9
/- The document's Right: the kind 1. -/
namespace Go.Proofs.Ytigfiopmochliaa.E9
open Go.RowKit C8
set_option maxHeartbeats 4000000 in
theorem rr1x6 (w : World) (a2 a3 a6 a7 a8 : Int) (np vp q : Option Addr) (nc vc c n4 n5 n9 : Nat) (HW : Hid (decide (1 ≤ a2 ∧ a2 ≤ 16) = true)) (s1 : 1 ≤ a3) (s2 : a3 ≤ 1099511627776)  (z6 : ¬ a6 = 0) :
    Calls Try.prog 13 #[.agg #[.int .i64 1, .int .i64 a2, .int .i64 a3, .slice np n4 nc, .slice vp n5 vc, .int .i64 a6, .int .i64 a7, .int .i64 a8, .slice q n9 c]] w fun e w' => e = .returned (.bool false) ∧ Below w.heap.size w w' := by
  have HB : Hid (∀ o1, Below w.heap.size w (w.alloc o1)) := fun o1 => bel_alloc (Nat.le_refl _) o1
  have y6 : (a6 == 0) = false := by simp [z6]
  go_enter Try.func13, Try.ntmps13
  go_wp2_with (first | (go_at_call 26; refine (who_any _ _).mono ?_; rintro e w1 ⟨he, rfl⟩; (try rw [HW.out] at he); subst he))
  go_ret
  exact ⟨rfl, HB.out _⟩
set_option maxHeartbeats 4000000 in
theorem rr1x7 (w : World) (a2 a3 a7 a8 : Int) (np vp q : Option Addr) (nc vc c n4 n5 n9 : Nat) (HW : Hid (decide (1 ≤ a2 ∧ a2 ≤ 16) = true)) (s1 : 1 ≤ a3) (s2 : a3 ≤ 1099511627776)  (z7 : ¬ a7 = 0) :
    Calls Try.prog 13 #[.agg #[.int .i64 1, .int .i64 a2, .int .i64 a3, .slice np n4 nc, .slice vp n5 vc, .int .i64 0, .int .i64 a7, .int .i64 a8, .slice q n9 c]] w fun e w' => e = .returned (.bool false) ∧ Below w.heap.size w w' := by
  have HB : Hid (∀ o1, Below w.heap.size w (w.alloc o1)) := fun o1 => bel_alloc (Nat.le_refl _) o1
  have y7 : (a7 == 0) = false := by simp [z7]
  go_enter Try.func13, Try.ntmps13
  go_wp2_with (first | (go_at_call 26; refine (who_any _ _).mono ?_; rintro e w1 ⟨he, rfl⟩; (try rw [HW.out] at he); subst he))
  go_ret
  exact ⟨rfl, HB.out _⟩
set_option maxHeartbeats 4000000 in
theorem rr1x8 (w : World) (a2 a3 a8 : Int) (np vp q : Option Addr) (nc vc c n4 n5 n9 : Nat) (HW : Hid (decide (1 ≤ a2 ∧ a2 ≤ 16) = true)) (s1 : 1 ≤ a3) (s2 : a3 ≤ 1099511627776)  (z8 : ¬ a8 = 0) :
    Calls Try.prog 13 #[.agg #[.int .i64 1, .int .i64 a2, .int .i64 a3, .slice np n4 nc, .slice vp n5 vc, .int .i64 0, .int .i64 0, .int .i64 a8, .slice q n9 c]] w fun e w' => e = .returned (.bool false) ∧ Below w.heap.size w w' := by
  have HB : Hid (∀ o1, Below w.heap.size w (w.alloc o1)) := fun o1 => bel_alloc (Nat.le_refl _) o1
  have y8 : (a8 == 0) = false := by simp [z8]
  go_enter Try.func13, Try.ntmps13
  go_wp2_with (first | (go_at_call 26; refine (who_any _ _).mono ?_; rintro e w1 ⟨he, rfl⟩; (try rw [HW.out] at he); subst he))
  go_ret
  exact ⟨rfl, HB.out _⟩
set_option maxHeartbeats 4000000 in
theorem rr1x9 (w : World) (a2 a3 : Int) (np vp q : Option Addr) (nc vc c n4 n5 n9 : Nat) (HW : Hid (decide (1 ≤ a2 ∧ a2 ≤ 16) = true)) (s1 : 1 ≤ a3) (s2 : a3 ≤ 1099511627776)  (p9 : 0 < n9) :
    Calls Try.prog 13 #[.agg #[.int .i64 1, .int .i64 a2, .int .i64 a3, .slice np n4 nc, .slice vp n5 vc, .int .i64 0, .int .i64 0, .int .i64 0, .slice q n9 c]] w fun e w' => e = .returned (.bool false) ∧ Below w.heap.size w w' := by
  have HB : Hid (∀ o1, Below w.heap.size w (w.alloc o1)) := fun o1 => bel_alloc (Nat.le_refl _) o1
  have q9 : (0 : Int) < (n9 : Int) := by omega
  go_enter Try.func13, Try.ntmps13
  go_wp2_with (first | (go_at_call 26; refine (who_any _ _).mono ?_; rintro e w1 ⟨he, rfl⟩; (try rw [HW.out] at he); subst he))
  go_ret
  exact ⟨rfl, HB.out _⟩
set_option maxHeartbeats 4000000 in
theorem rr1a (w : World) (a2 a3 : Int) (np vp q : Option Addr) (nc vc c n5 : Nat) (HW : Hid (decide (1 ≤ a2 ∧ a2 ≤ 16) = true)) (s1 : 1 ≤ a3) (s2 : a3 ≤ 1099511627776)   :
    Calls Try.prog 13 #[.agg #[.int .i64 1, .int .i64 a2, .int .i64 a3, .slice np 0 nc, .slice vp n5 vc, .int .i64 0, .int .i64 0, .int .i64 0, .slice q 0 c]] w fun e w' => e = .returned (.bool false) ∧ Below w.heap.size w w' := by
  have HB : Hid (∀ o1, Below w.heap.size w (w.alloc o1)) := fun o1 => bel_alloc (Nat.le_refl _) o1
  go_enter Try.func13, Try.ntmps13
  go_wp2_with (first | (go_at_call 26; refine (who_any _ _).mono ?_; rintro e w1 ⟨he, rfl⟩; (try rw [HW.out] at he); subst he))
  go_ret
  exact ⟨rfl, HB.out _⟩
set_option maxHeartbeats 4000000 in
theorem rr1b (w : World) (a2 a3 : Int) (np vp q : Option Addr) (nc vc c n4 n5 : Nat) (HW : Hid (decide (1 ≤ a2 ∧ a2 ≤ 16) = true)) (s1 : 1 ≤ a3) (s2 : a3 ≤ 1099511627776)  (p4 : 64 < n4) :
    Calls Try.prog 13 #[.agg #[.int .i64 1, .int .i64 a2, .int .i64 a3, .slice np n4 nc, .slice vp n5 vc, .int .i64 0, .int .i64 0, .int .i64 0, .slice q 0 c]] w fun e w' => e = .returned (.bool false) ∧ Below w.heap.size w w' := by
  have HB : Hid (∀ o1, Below w.heap.size w (w.alloc o1)) := fun o1 => bel_alloc (Nat.le_refl _) o1
  have q4 : ¬ (n4 : Int) ≤ 64 := by omega
  have q5 : (1 : Int) ≤ (n4 : Int) := by omega
  go_enter Try.func13, Try.ntmps13
  go_wp2_with (first | (go_at_call 26; refine (who_any _ _).mono ?_; rintro e w1 ⟨he, rfl⟩; (try rw [HW.out] at he); subst he))
  go_ret
  exact ⟨rfl, HB.out _⟩
set_option maxHeartbeats 4000000 in
theorem rr1c (w : World) (a2 a3 : Int) (np vp q : Option Addr) (nc vc c n4 n5 : Nat) (HW : Hid (decide (1 ≤ a2 ∧ a2 ≤ 16) = true)) (s1 : 1 ≤ a3) (s2 : a3 ≤ 1099511627776)  (p4 : 1 ≤ n4) (p5 : n4 ≤ 64) :
    Calls Try.prog 13 #[.agg #[.int .i64 1, .int .i64 a2, .int .i64 a3, .slice np n4 nc, .slice vp n5 vc, .int .i64 0, .int .i64 0, .int .i64 0, .slice q 0 c]] w fun e w' => e = .returned (.bool (decide ((n5 : Int) ≤ 512))) ∧ Below w.heap.size w w' := by
  have HB : Hid (∀ o1, Below w.heap.size w (w.alloc o1)) := fun o1 => bel_alloc (Nat.le_refl _) o1
  have q4 : (n4 : Int) ≤ 64 := by omega
  have q5 : (1 : Int) ≤ (n4 : Int) := by omega
  go_enter Try.func13, Try.ntmps13
  go_wp2_with (first | (go_at_call 26; refine (who_any _ _).mono ?_; rintro e w1 ⟨he, rfl⟩; (try rw [HW.out] at he); subst he))
  go_ret
  exact ⟨rfl, HB.out _⟩
end Go.Proofs.Ytigfiopmochliaa.E9
/- The document's Right: the kind 2. -/
namespace Go.Proofs.Ytigfiopmochliaa.E9
open Go.RowKit C8
set_option maxHeartbeats 4000000 in
theorem rr2x5 (w : World) (a2 a3 a6 a7 a8 : Int) (np vp q : Option Addr) (nc vc c n4 n5 n9 : Nat) (HW : Hid (decide (1 ≤ a2 ∧ a2 ≤ 16) = true)) (s1 : 1 ≤ a3) (s2 : a3 ≤ 1099511627776)  (p5 : 0 < n5) :
    Calls Try.prog 13 #[.agg #[.int .i64 2, .int .i64 a2, .int .i64 a3, .slice np n4 nc, .slice vp n5 vc, .int .i64 a6, .int .i64 a7, .int .i64 a8, .slice q n9 c]] w fun e w' => e = .returned (.bool false) ∧ Below w.heap.size w w' := by
  have HB : Hid (∀ o1, Below w.heap.size w (w.alloc o1)) := fun o1 => bel_alloc (Nat.le_refl _) o1
  have q5 : (0 : Int) < (n5 : Int) := by omega
  go_enter Try.func13, Try.ntmps13
  go_wp2_with (first | (go_at_call 26; refine (who_any _ _).mono ?_; rintro e w1 ⟨he, rfl⟩; (try rw [HW.out] at he); subst he))
  go_ret
  exact ⟨rfl, HB.out _⟩
set_option maxHeartbeats 4000000 in
theorem rr2x6 (w : World) (a2 a3 a6 a7 a8 : Int) (np vp q : Option Addr) (nc vc c n4 n9 : Nat) (HW : Hid (decide (1 ≤ a2 ∧ a2 ≤ 16) = true)) (s1 : 1 ≤ a3) (s2 : a3 ≤ 1099511627776)  (z6 : ¬ a6 = 0) :
    Calls Try.prog 13 #[.agg #[.int .i64 2, .int .i64 a2, .int .i64 a3, .slice np n4 nc, .slice vp 0 vc, .int .i64 a6, .int .i64 a7, .int .i64 a8, .slice q n9 c]] w fun e w' => e = .returned (.bool false) ∧ Below w.heap.size w w' := by
  have HB : Hid (∀ o1, Below w.heap.size w (w.alloc o1)) := fun o1 => bel_alloc (Nat.le_refl _) o1
  have y6 : (a6 == 0) = false := by simp [z6]
  go_enter Try.func13, Try.ntmps13
  go_wp2_with (first | (go_at_call 26; refine (who_any _ _).mono ?_; rintro e w1 ⟨he, rfl⟩; (try rw [HW.out] at he); subst he))
  go_ret
  exact ⟨rfl, HB.out _⟩
set_option maxHeartbeats 4000000 in
theorem rr2x7 (w : World) (a2 a3 a7 a8 : Int) (np vp q : Option Addr) (nc vc c n4 n9 : Nat) (HW : Hid (decide (1 ≤ a2 ∧ a2 ≤ 16) = true)) (s1 : 1 ≤ a3) (s2 : a3 ≤ 1099511627776)  (z7 : ¬ a7 = 0) :
    Calls Try.prog 13 #[.agg #[.int .i64 2, .int .i64 a2, .int .i64 a3, .slice np n4 nc, .slice vp 0 vc, .int .i64 0, .int .i64 a7, .int .i64 a8, .slice q n9 c]] w fun e w' => e = .returned (.bool false) ∧ Below w.heap.size w w' := by
  have HB : Hid (∀ o1, Below w.heap.size w (w.alloc o1)) := fun o1 => bel_alloc (Nat.le_refl _) o1
  have y7 : (a7 == 0) = false := by simp [z7]
  go_enter Try.func13, Try.ntmps13
  go_wp2_with (first | (go_at_call 26; refine (who_any _ _).mono ?_; rintro e w1 ⟨he, rfl⟩; (try rw [HW.out] at he); subst he))
  go_ret
  exact ⟨rfl, HB.out _⟩
set_option maxHeartbeats 4000000 in
theorem rr2x8 (w : World) (a2 a3 a8 : Int) (np vp q : Option Addr) (nc vc c n4 n9 : Nat) (HW : Hid (decide (1 ≤ a2 ∧ a2 ≤ 16) = true)) (s1 : 1 ≤ a3) (s2 : a3 ≤ 1099511627776)  (z8 : ¬ a8 = 0) :
    Calls Try.prog 13 #[.agg #[.int .i64 2, .int .i64 a2, .int .i64 a3, .slice np n4 nc, .slice vp 0 vc, .int .i64 0, .int .i64 0, .int .i64 a8, .slice q n9 c]] w fun e w' => e = .returned (.bool false) ∧ Below w.heap.size w w' := by
  have HB : Hid (∀ o1, Below w.heap.size w (w.alloc o1)) := fun o1 => bel_alloc (Nat.le_refl _) o1
  have y8 : (a8 == 0) = false := by simp [z8]
  go_enter Try.func13, Try.ntmps13
  go_wp2_with (first | (go_at_call 26; refine (who_any _ _).mono ?_; rintro e w1 ⟨he, rfl⟩; (try rw [HW.out] at he); subst he))
  go_ret
  exact ⟨rfl, HB.out _⟩
set_option maxHeartbeats 4000000 in
theorem rr2x9 (w : World) (a2 a3 : Int) (np vp q : Option Addr) (nc vc c n4 n9 : Nat) (HW : Hid (decide (1 ≤ a2 ∧ a2 ≤ 16) = true)) (s1 : 1 ≤ a3) (s2 : a3 ≤ 1099511627776)  (p9 : 0 < n9) :
    Calls Try.prog 13 #[.agg #[.int .i64 2, .int .i64 a2, .int .i64 a3, .slice np n4 nc, .slice vp 0 vc, .int .i64 0, .int .i64 0, .int .i64 0, .slice q n9 c]] w fun e w' => e = .returned (.bool false) ∧ Below w.heap.size w w' := by
  have HB : Hid (∀ o1, Below w.heap.size w (w.alloc o1)) := fun o1 => bel_alloc (Nat.le_refl _) o1
  have q9 : (0 : Int) < (n9 : Int) := by omega
  go_enter Try.func13, Try.ntmps13
  go_wp2_with (first | (go_at_call 26; refine (who_any _ _).mono ?_; rintro e w1 ⟨he, rfl⟩; (try rw [HW.out] at he); subst he))
  go_ret
  exact ⟨rfl, HB.out _⟩
set_option maxHeartbeats 4000000 in
theorem rr2a (w : World) (a2 a3 : Int) (np vp q : Option Addr) (nc vc c  : Nat) (HW : Hid (decide (1 ≤ a2 ∧ a2 ≤ 16) = true)) (s1 : 1 ≤ a3) (s2 : a3 ≤ 1099511627776)   :
    Calls Try.prog 13 #[.agg #[.int .i64 2, .int .i64 a2, .int .i64 a3, .slice np 0 nc, .slice vp 0 vc, .int .i64 0, .int .i64 0, .int .i64 0, .slice q 0 c]] w fun e w' => e = .returned (.bool false) ∧ Below w.heap.size w w' := by
  have HB : Hid (∀ o1, Below w.heap.size w (w.alloc o1)) := fun o1 => bel_alloc (Nat.le_refl _) o1
  go_enter Try.func13, Try.ntmps13
  go_wp2_with (first | (go_at_call 26; refine (who_any _ _).mono ?_; rintro e w1 ⟨he, rfl⟩; (try rw [HW.out] at he); subst he))
  go_ret
  exact ⟨rfl, HB.out _⟩
set_option maxHeartbeats 4000000 in
theorem rr2b (w : World) (a2 a3 : Int) (np vp q : Option Addr) (nc vc c n4 : Nat) (HW : Hid (decide (1 ≤ a2 ∧ a2 ≤ 16) = true)) (s1 : 1 ≤ a3) (s2 : a3 ≤ 1099511627776)  (p4 : 64 < n4) :
    Calls Try.prog 13 #[.agg #[.int .i64 2, .int .i64 a2, .int .i64 a3, .slice np n4 nc, .slice vp 0 vc, .int .i64 0, .int .i64 0, .int .i64 0, .slice q 0 c]] w fun e w' => e = .returned (.bool false) ∧ Below w.heap.size w w' := by
  have HB : Hid (∀ o1, Below w.heap.size w (w.alloc o1)) := fun o1 => bel_alloc (Nat.le_refl _) o1
  have q4 : ¬ (n4 : Int) ≤ 64 := by omega
  have q5 : (1 : Int) ≤ (n4 : Int) := by omega
  go_enter Try.func13, Try.ntmps13
  go_wp2_with (first | (go_at_call 26; refine (who_any _ _).mono ?_; rintro e w1 ⟨he, rfl⟩; (try rw [HW.out] at he); subst he))
  go_ret
  exact ⟨rfl, HB.out _⟩
set_option maxHeartbeats 4000000 in
theorem rr2c (w : World) (a2 a3 : Int) (np vp q : Option Addr) (nc vc c n4 : Nat) (HW : Hid (decide (1 ≤ a2 ∧ a2 ≤ 16) = true)) (s1 : 1 ≤ a3) (s2 : a3 ≤ 1099511627776)  (p4 : 1 ≤ n4) (p5 : n4 ≤ 64) :
    Calls Try.prog 13 #[.agg #[.int .i64 2, .int .i64 a2, .int .i64 a3, .slice np n4 nc, .slice vp 0 vc, .int .i64 0, .int .i64 0, .int .i64 0, .slice q 0 c]] w fun e w' => e = .returned (.bool true) ∧ Below w.heap.size w w' := by
  have HB : Hid (∀ o1, Below w.heap.size w (w.alloc o1)) := fun o1 => bel_alloc (Nat.le_refl _) o1
  have q4 : (n4 : Int) ≤ 64 := by omega
  have q5 : (1 : Int) ≤ (n4 : Int) := by omega
  go_enter Try.func13, Try.ntmps13
  go_wp2_with (first | (go_at_call 26; refine (who_any _ _).mono ?_; rintro e w1 ⟨he, rfl⟩; (try rw [HW.out] at he); subst he))
  go_ret
  exact ⟨rfl, HB.out _⟩
end Go.Proofs.Ytigfiopmochliaa.E9
/- The document's Right: the kind 3. -/
namespace Go.Proofs.Ytigfiopmochliaa.E9
open Go.RowKit C8
set_option maxHeartbeats 4000000 in
theorem rr3x4 (w : World) (a2 a3 a6 a7 a8 : Int) (np vp q : Option Addr) (nc vc c n4 n5 n9 : Nat) (HW : Hid (decide (1 ≤ a2 ∧ a2 ≤ 16) = true)) (s1 : 1 ≤ a3) (s2 : a3 ≤ 1099511627776)  (p4 : 0 < n4) :
    Calls Try.prog 13 #[.agg #[.int .i64 3, .int .i64 a2, .int .i64 a3, .slice np n4 nc, .slice vp n5 vc, .int .i64 a6, .int .i64 a7, .int .i64 a8, .slice q n9 c]] w fun e w' => e = .returned (.bool false) ∧ Below w.heap.size w w' := by
  have HB : Hid (∀ o1, Below w.heap.size w (w.alloc o1)) := fun o1 => bel_alloc (Nat.le_refl _) o1
  have q4 : (0 : Int) < (n4 : Int) := by omega
  go_enter Try.func13, Try.ntmps13
  go_wp2_with (first | (go_at_call 26; refine (who_any _ _).mono ?_; rintro e w1 ⟨he, rfl⟩; (try rw [HW.out] at he); subst he))
  go_ret
  exact ⟨rfl, HB.out _⟩
set_option maxHeartbeats 4000000 in
theorem rr3x5 (w : World) (a2 a3 a6 a7 a8 : Int) (np vp q : Option Addr) (nc vc c n5 n9 : Nat) (HW : Hid (decide (1 ≤ a2 ∧ a2 ≤ 16) = true)) (s1 : 1 ≤ a3) (s2 : a3 ≤ 1099511627776)  (p5 : 0 < n5) :
    Calls Try.prog 13 #[.agg #[.int .i64 3, .int .i64 a2, .int .i64 a3, .slice np 0 nc, .slice vp n5 vc, .int .i64 a6, .int .i64 a7, .int .i64 a8, .slice q n9 c]] w fun e w' => e = .returned (.bool false) ∧ Below w.heap.size w w' := by
  have HB : Hid (∀ o1, Below w.heap.size w (w.alloc o1)) := fun o1 => bel_alloc (Nat.le_refl _) o1
  have q5 : (0 : Int) < (n5 : Int) := by omega
  go_enter Try.func13, Try.ntmps13
  go_wp2_with (first | (go_at_call 26; refine (who_any _ _).mono ?_; rintro e w1 ⟨he, rfl⟩; (try rw [HW.out] at he); subst he))
  go_ret
  exact ⟨rfl, HB.out _⟩
set_option maxHeartbeats 4000000 in
theorem rr3x8 (w : World) (a2 a3 a6 a7 a8 : Int) (np vp q : Option Addr) (nc vc c n9 : Nat) (HW : Hid (decide (1 ≤ a2 ∧ a2 ≤ 16) = true)) (s1 : 1 ≤ a3) (s2 : a3 ≤ 1099511627776)  (z8 : ¬ a8 = 0) :
    Calls Try.prog 13 #[.agg #[.int .i64 3, .int .i64 a2, .int .i64 a3, .slice np 0 nc, .slice vp 0 vc, .int .i64 a6, .int .i64 a7, .int .i64 a8, .slice q n9 c]] w fun e w' => e = .returned (.bool false) ∧ Below w.heap.size w w' := by
  have HB : Hid (∀ o1, Below w.heap.size w (w.alloc o1)) := fun o1 => bel_alloc (Nat.le_refl _) o1
  have y8 : (a8 == 0) = false := by simp [z8]
  go_enter Try.func13, Try.ntmps13
  go_wp2_with (first | (go_at_call 26; refine (who_any _ _).mono ?_; rintro e w1 ⟨he, rfl⟩; (try rw [HW.out] at he); subst he))
  go_ret
  exact ⟨rfl, HB.out _⟩
set_option maxHeartbeats 4000000 in
theorem rr3x9 (w : World) (a2 a3 a6 a7 : Int) (np vp q : Option Addr) (nc vc c n9 : Nat) (HW : Hid (decide (1 ≤ a2 ∧ a2 ≤ 16) = true)) (s1 : 1 ≤ a3) (s2 : a3 ≤ 1099511627776)  (p9 : 0 < n9) :
    Calls Try.prog 13 #[.agg #[.int .i64 3, .int .i64 a2, .int .i64 a3, .slice np 0 nc, .slice vp 0 vc, .int .i64 a6, .int .i64 a7, .int .i64 0, .slice q n9 c]] w fun e w' => e = .returned (.bool false) ∧ Below w.heap.size w w' := by
  have HB : Hid (∀ o1, Below w.heap.size w (w.alloc o1)) := fun o1 => bel_alloc (Nat.le_refl _) o1
  have q9 : (0 : Int) < (n9 : Int) := by omega
  go_enter Try.func13, Try.ntmps13
  go_wp2_with (first | (go_at_call 26; refine (who_any _ _).mono ?_; rintro e w1 ⟨he, rfl⟩; (try rw [HW.out] at he); subst he))
  go_ret
  exact ⟨rfl, HB.out _⟩
set_option maxHeartbeats 4000000 in
theorem rr3a (w : World) (a2 a3 a6 a7 : Int) (np vp q : Option Addr) (nc vc c  : Nat) (HW : Hid (decide (1 ≤ a2 ∧ a2 ≤ 16) = true)) (s1 : 1 ≤ a3) (s2 : a3 ≤ 1099511627776)  (HV : Hid (decide (1 ≤ a6 ∧ a6 ≤ 16) = false)) :
    Calls Try.prog 13 #[.agg #[.int .i64 3, .int .i64 a2, .int .i64 a3, .slice np 0 nc, .slice vp 0 vc, .int .i64 a6, .int .i64 a7, .int .i64 0, .slice q 0 c]] w fun e w' => e = .returned (.bool false) ∧ Below w.heap.size w w' := by
  have HB : Hid (∀ o1, Below w.heap.size w (w.alloc o1)) := fun o1 => bel_alloc (Nat.le_refl _) o1
  go_enter Try.func13, Try.ntmps13
  go_wp2_with (first | (go_at_call 26; refine (who_any _ _).mono ?_; rintro e w1 ⟨he, rfl⟩; (try rw [HW.out] at he); (try rw [HV.out] at he); subst he))
  go_ret
  exact ⟨rfl, HB.out _⟩
set_option maxHeartbeats 4000000 in
theorem rr3b (w : World) (a2 a3 a6 a7 : Int) (np vp q : Option Addr) (nc vc c  : Nat) (HW : Hid (decide (1 ≤ a2 ∧ a2 ≤ 16) = true)) (s1 : 1 ≤ a3) (s2 : a3 ≤ 1099511627776)  (HV : Hid (decide (1 ≤ a6 ∧ a6 ≤ 16) = true)) (p7 : a7 < 1) :
    Calls Try.prog 13 #[.agg #[.int .i64 3, .int .i64 a2, .int .i64 a3, .slice np 0 nc, .slice vp 0 vc, .int .i64 a6, .int .i64 a7, .int .i64 0, .slice q 0 c]] w fun e w' => e = .returned (.bool false) ∧ Below w.heap.size w w' := by
  have HB : Hid (∀ o1, Below w.heap.size w (w.alloc o1)) := fun o1 => bel_alloc (Nat.le_refl _) o1
  have q7 : ¬ 1 ≤ a7 := by omega
  go_enter Try.func13, Try.ntmps13
  go_wp2_with (first | (go_at_call 26; refine (who_any _ _).mono ?_; rintro e w1 ⟨he, rfl⟩; (try rw [HW.out] at he); (try rw [HV.out] at he); subst he))
  go_ret
  exact ⟨rfl, HB.out _⟩
set_option maxHeartbeats 4000000 in
theorem rr3c (w : World) (a2 a3 a6 a7 : Int) (np vp q : Option Addr) (nc vc c  : Nat) (HW : Hid (decide (1 ≤ a2 ∧ a2 ≤ 16) = true)) (s1 : 1 ≤ a3) (s2 : a3 ≤ 1099511627776)  (HV : Hid (decide (1 ≤ a6 ∧ a6 ≤ 16) = true)) (p7 : 1 ≤ a7) :
    Calls Try.prog 13 #[.agg #[.int .i64 3, .int .i64 a2, .int .i64 a3, .slice np 0 nc, .slice vp 0 vc, .int .i64 a6, .int .i64 a7, .int .i64 0, .slice q 0 c]] w fun e w' => e = .returned (.bool (decide (a7 ≤ 7))) ∧ Below w.heap.size w w' := by
  have HB : Hid (∀ o1, Below w.heap.size w (w.alloc o1)) := fun o1 => bel_alloc (Nat.le_refl _) o1
  go_enter Try.func13, Try.ntmps13
  go_wp2_with (first | (go_at_call 26; refine (who_any _ _).mono ?_; rintro e w1 ⟨he, rfl⟩; (try rw [HW.out] at he); (try rw [HV.out] at he); subst he))
  go_ret
  exact ⟨rfl, HB.out _⟩
end Go.Proofs.Ytigfiopmochliaa.E9
/- The document's Right: the kind 4. -/
namespace Go.Proofs.Ytigfiopmochliaa.E9
open Go.RowKit C8
set_option maxHeartbeats 4000000 in
theorem rr4x4 (w : World) (a2 a3 a6 a7 a8 : Int) (np vp q : Option Addr) (nc vc c n4 n5 n9 : Nat) (HW : Hid (decide (1 ≤ a2 ∧ a2 ≤ 16) = true)) (s1 : 1 ≤ a3) (s2 : a3 ≤ 1099511627776)  (p4 : 0 < n4) :
    Calls Try.prog 13 #[.agg #[.int .i64 4, .int .i64 a2, .int .i64 a3, .slice np n4 nc, .slice vp n5 vc, .int .i64 a6, .int .i64 a7, .int .i64 a8, .slice q n9 c]] w fun e w' => e = .returned (.bool false) ∧ Below w.heap.size w w' := by
  have HB : Hid (∀ o1, Below w.heap.size w (w.alloc o1)) := fun o1 => bel_alloc (Nat.le_refl _) o1
  have q4 : (0 : Int) < (n4 : Int) := by omega
  go_enter Try.func13, Try.ntmps13
  go_wp2_with (first | (go_at_call 26; refine (who_any _ _).mono ?_; rintro e w1 ⟨he, rfl⟩; (try rw [HW.out] at he); subst he))
  go_ret
  exact ⟨rfl, HB.out _⟩
set_option maxHeartbeats 4000000 in
theorem rr4x5 (w : World) (a2 a3 a6 a7 a8 : Int) (np vp q : Option Addr) (nc vc c n5 n9 : Nat) (HW : Hid (decide (1 ≤ a2 ∧ a2 ≤ 16) = true)) (s1 : 1 ≤ a3) (s2 : a3 ≤ 1099511627776)  (p5 : 0 < n5) :
    Calls Try.prog 13 #[.agg #[.int .i64 4, .int .i64 a2, .int .i64 a3, .slice np 0 nc, .slice vp n5 vc, .int .i64 a6, .int .i64 a7, .int .i64 a8, .slice q n9 c]] w fun e w' => e = .returned (.bool false) ∧ Below w.heap.size w w' := by
  have HB : Hid (∀ o1, Below w.heap.size w (w.alloc o1)) := fun o1 => bel_alloc (Nat.le_refl _) o1
  have q5 : (0 : Int) < (n5 : Int) := by omega
  go_enter Try.func13, Try.ntmps13
  go_wp2_with (first | (go_at_call 26; refine (who_any _ _).mono ?_; rintro e w1 ⟨he, rfl⟩; (try rw [HW.out] at he); subst he))
  go_ret
  exact ⟨rfl, HB.out _⟩
set_option maxHeartbeats 4000000 in
theorem rr4x7 (w : World) (a2 a3 a6 a7 a8 : Int) (np vp q : Option Addr) (nc vc c n9 : Nat) (HW : Hid (decide (1 ≤ a2 ∧ a2 ≤ 16) = true)) (s1 : 1 ≤ a3) (s2 : a3 ≤ 1099511627776)  (z7 : ¬ a7 = 0) :
    Calls Try.prog 13 #[.agg #[.int .i64 4, .int .i64 a2, .int .i64 a3, .slice np 0 nc, .slice vp 0 vc, .int .i64 a6, .int .i64 a7, .int .i64 a8, .slice q n9 c]] w fun e w' => e = .returned (.bool false) ∧ Below w.heap.size w w' := by
  have HB : Hid (∀ o1, Below w.heap.size w (w.alloc o1)) := fun o1 => bel_alloc (Nat.le_refl _) o1
  have y7 : (a7 == 0) = false := by simp [z7]
  go_enter Try.func13, Try.ntmps13
  go_wp2_with (first | (go_at_call 26; refine (who_any _ _).mono ?_; rintro e w1 ⟨he, rfl⟩; (try rw [HW.out] at he); subst he))
  go_ret
  exact ⟨rfl, HB.out _⟩
set_option maxHeartbeats 4000000 in
theorem rr4x8 (w : World) (a2 a3 a6 a8 : Int) (np vp q : Option Addr) (nc vc c n9 : Nat) (HW : Hid (decide (1 ≤ a2 ∧ a2 ≤ 16) = true)) (s1 : 1 ≤ a3) (s2 : a3 ≤ 1099511627776)  (z8 : ¬ a8 = 0) :
    Calls Try.prog 13 #[.agg #[.int .i64 4, .int .i64 a2, .int .i64 a3, .slice np 0 nc, .slice vp 0 vc, .int .i64 a6, .int .i64 0, .int .i64 a8, .slice q n9 c]] w fun e w' => e = .returned (.bool false) ∧ Below w.heap.size w w' := by
  have HB : Hid (∀ o1, Below w.heap.size w (w.alloc o1)) := fun o1 => bel_alloc (Nat.le_refl _) o1
  have y8 : (a8 == 0) = false := by simp [z8]
  go_enter Try.func13, Try.ntmps13
  go_wp2_with (first | (go_at_call 26; refine (who_any _ _).mono ?_; rintro e w1 ⟨he, rfl⟩; (try rw [HW.out] at he); subst he))
  go_ret
  exact ⟨rfl, HB.out _⟩
set_option maxHeartbeats 4000000 in
theorem rr4x9 (w : World) (a2 a3 a6 : Int) (np vp q : Option Addr) (nc vc c n9 : Nat) (HW : Hid (decide (1 ≤ a2 ∧ a2 ≤ 16) = true)) (s1 : 1 ≤ a3) (s2 : a3 ≤ 1099511627776)  (p9 : 0 < n9) :
    Calls Try.prog 13 #[.agg #[.int .i64 4, .int .i64 a2, .int .i64 a3, .slice np 0 nc, .slice vp 0 vc, .int .i64 a6, .int .i64 0, .int .i64 0, .slice q n9 c]] w fun e w' => e = .returned (.bool false) ∧ Below w.heap.size w w' := by
  have HB : Hid (∀ o1, Below w.heap.size w (w.alloc o1)) := fun o1 => bel_alloc (Nat.le_refl _) o1
  have q9 : (0 : Int) < (n9 : Int) := by omega
  go_enter Try.func13, Try.ntmps13
  go_wp2_with (first | (go_at_call 26; refine (who_any _ _).mono ?_; rintro e w1 ⟨he, rfl⟩; (try rw [HW.out] at he); subst he))
  go_ret
  exact ⟨rfl, HB.out _⟩
set_option maxHeartbeats 4000000 in
theorem rr4a (w : World) (a2 a3 a6 : Int) (np vp q : Option Addr) (nc vc c  : Nat) (HW : Hid (decide (1 ≤ a2 ∧ a2 ≤ 16) = true)) (s1 : 1 ≤ a3) (s2 : a3 ≤ 1099511627776)   :
    Calls Try.prog 13 #[.agg #[.int .i64 4, .int .i64 a2, .int .i64 a3, .slice np 0 nc, .slice vp 0 vc, .int .i64 a6, .int .i64 0, .int .i64 0, .slice q 0 c]] w fun e w' => e = .returned (.bool (decide (1 ≤ a6 ∧ a6 ≤ 16))) ∧ Below w.heap.size w w' := by
  have HB : Hid (∀ o1, Below w.heap.size w (w.alloc o1)) := fun o1 => bel_alloc (Nat.le_refl _) o1
  go_enter Try.func13, Try.ntmps13
  go_wp2_with (first | (go_at_call 26; refine (who_any _ _).mono ?_; rintro e w1 ⟨he, rfl⟩; (try rw [HW.out] at he); subst he))
  go_ret
  exact ⟨by rw [Bool.decide_and]; rfl, HB.out _⟩
end Go.Proofs.Ytigfiopmochliaa.E9
/- The document's Right: the kind 5. -/
namespace Go.Proofs.Ytigfiopmochliaa.E9
open Go.RowKit C8
set_option maxHeartbeats 4000000 in
theorem rr5x4 (w : World) (a2 a3 a6 a7 a8 : Int) (np vp q : Option Addr) (nc vc c n4 n5 n9 : Nat) (HW : Hid (decide (1 ≤ a2 ∧ a2 ≤ 16) = true)) (s1 : 1 ≤ a3) (s2 : a3 ≤ 1099511627776)  (p4 : 0 < n4) :
    Calls Try.prog 13 #[.agg #[.int .i64 5, .int .i64 a2, .int .i64 a3, .slice np n4 nc, .slice vp n5 vc, .int .i64 a6, .int .i64 a7, .int .i64 a8, .slice q n9 c]] w fun e w' => e = .returned (.bool false) ∧ Below w.heap.size w w' := by
  have HB : Hid (∀ o1, Below w.heap.size w (w.alloc o1)) := fun o1 => bel_alloc (Nat.le_refl _) o1
  have q4 : (0 : Int) < (n4 : Int) := by omega
  go_enter Try.func13, Try.ntmps13
  go_wp2_with (first | (go_at_call 26; refine (who_any _ _).mono ?_; rintro e w1 ⟨he, rfl⟩; (try rw [HW.out] at he); subst he))
  go_ret
  exact ⟨rfl, HB.out _⟩
set_option maxHeartbeats 4000000 in
theorem rr5x5 (w : World) (a2 a3 a6 a7 a8 : Int) (np vp q : Option Addr) (nc vc c n5 n9 : Nat) (HW : Hid (decide (1 ≤ a2 ∧ a2 ≤ 16) = true)) (s1 : 1 ≤ a3) (s2 : a3 ≤ 1099511627776)  (p5 : 0 < n5) :
    Calls Try.prog 13 #[.agg #[.int .i64 5, .int .i64 a2, .int .i64 a3, .slice np 0 nc, .slice vp n5 vc, .int .i64 a6, .int .i64 a7, .int .i64 a8, .slice q n9 c]] w fun e w' => e = .returned (.bool false) ∧ Below w.heap.size w w' := by
  have HB : Hid (∀ o1, Below w.heap.size w (w.alloc o1)) := fun o1 => bel_alloc (Nat.le_refl _) o1
  have q5 : (0 : Int) < (n5 : Int) := by omega
  go_enter Try.func13, Try.ntmps13
  go_wp2_with (first | (go_at_call 26; refine (who_any _ _).mono ?_; rintro e w1 ⟨he, rfl⟩; (try rw [HW.out] at he); subst he))
  go_ret
  exact ⟨rfl, HB.out _⟩
set_option maxHeartbeats 4000000 in
theorem rr5x6 (w : World) (a2 a3 a6 a7 a8 : Int) (np vp q : Option Addr) (nc vc c n9 : Nat) (HW : Hid (decide (1 ≤ a2 ∧ a2 ≤ 16) = true)) (s1 : 1 ≤ a3) (s2 : a3 ≤ 1099511627776)  (z6 : ¬ a6 = 0) :
    Calls Try.prog 13 #[.agg #[.int .i64 5, .int .i64 a2, .int .i64 a3, .slice np 0 nc, .slice vp 0 vc, .int .i64 a6, .int .i64 a7, .int .i64 a8, .slice q n9 c]] w fun e w' => e = .returned (.bool false) ∧ Below w.heap.size w w' := by
  have HB : Hid (∀ o1, Below w.heap.size w (w.alloc o1)) := fun o1 => bel_alloc (Nat.le_refl _) o1
  have y6 : (a6 == 0) = false := by simp [z6]
  go_enter Try.func13, Try.ntmps13
  go_wp2_with (first | (go_at_call 26; refine (who_any _ _).mono ?_; rintro e w1 ⟨he, rfl⟩; (try rw [HW.out] at he); subst he))
  go_ret
  exact ⟨rfl, HB.out _⟩
set_option maxHeartbeats 4000000 in
theorem rr5x7 (w : World) (a2 a3 a7 a8 : Int) (np vp q : Option Addr) (nc vc c n9 : Nat) (HW : Hid (decide (1 ≤ a2 ∧ a2 ≤ 16) = true)) (s1 : 1 ≤ a3) (s2 : a3 ≤ 1099511627776)  (z7 : ¬ a7 = 0) :
    Calls Try.prog 13 #[.agg #[.int .i64 5, .int .i64 a2, .int .i64 a3, .slice np 0 nc, .slice vp 0 vc, .int .i64 0, .int .i64 a7, .int .i64 a8, .slice q n9 c]] w fun e w' => e = .returned (.bool false) ∧ Below w.heap.size w w' := by
  have HB : Hid (∀ o1, Below w.heap.size w (w.alloc o1)) := fun o1 => bel_alloc (Nat.le_refl _) o1
  have y7 : (a7 == 0) = false := by simp [z7]
  go_enter Try.func13, Try.ntmps13
  go_wp2_with (first | (go_at_call 26; refine (who_any _ _).mono ?_; rintro e w1 ⟨he, rfl⟩; (try rw [HW.out] at he); subst he))
  go_ret
  exact ⟨rfl, HB.out _⟩
set_option maxHeartbeats 4000000 in
theorem rr5a (w : World) (a2 a3 a8 : Int) (np vp q : Option Addr) (nc vc c n9 : Nat) (HW : Hid (decide (1 ≤ a2 ∧ a2 ≤ 16) = true)) (s1 : 1 ≤ a3) (s2 : a3 ≤ 1099511627776)  (p8 : a8 < 1) :
    Calls Try.prog 13 #[.agg #[.int .i64 5, .int .i64 a2, .int .i64 a3, .slice np 0 nc, .slice vp 0 vc, .int .i64 0, .int .i64 0, .int .i64 a8, .slice q n9 c]] w fun e w' => e = .returned (.bool false) ∧ Below w.heap.size w w' := by
  have HB : Hid (∀ o1, Below w.heap.size w (w.alloc o1)) := fun o1 => bel_alloc (Nat.le_refl _) o1
  have q8 : ¬ 1 ≤ a8 := by omega
  go_enter Try.func13, Try.ntmps13
  go_wp2_with (first | (go_at_call 26; refine (who_any _ _).mono ?_; rintro e w1 ⟨he, rfl⟩; (try rw [HW.out] at he); subst he))
  go_ret
  exact ⟨rfl, HB.out _⟩
set_option maxHeartbeats 4000000 in
theorem rr5b (w : World) (a2 a3 a8 : Int) (np vp q : Option Addr) (nc vc c n9 : Nat) (HW : Hid (decide (1 ≤ a2 ∧ a2 ≤ 16) = true)) (s1 : 1 ≤ a3) (s2 : a3 ≤ 1099511627776)  (p8 : 1 ≤ a8) (p9 : 16 < a8) :
    Calls Try.prog 13 #[.agg #[.int .i64 5, .int .i64 a2, .int .i64 a3, .slice np 0 nc, .slice vp 0 vc, .int .i64 0, .int .i64 0, .int .i64 a8, .slice q n9 c]] w fun e w' => e = .returned (.bool false) ∧ Below w.heap.size w w' := by
  have HB : Hid (∀ o1, Below w.heap.size w (w.alloc o1)) := fun o1 => bel_alloc (Nat.le_refl _) o1
  have q8 : ¬ a8 ≤ 16 := by omega
  go_enter Try.func13, Try.ntmps13
  go_wp2_with (first | (go_at_call 26; refine (who_any _ _).mono ?_; rintro e w1 ⟨he, rfl⟩; (try rw [HW.out] at he); subst he))
  go_ret
  exact ⟨rfl, HB.out _⟩
set_option maxHeartbeats 4000000 in
theorem rr5c (w : World) (a2 a3 a8 : Int) (np vp q : Option Addr) (nc vc c n9 : Nat) (HW : Hid (decide (1 ≤ a2 ∧ a2 ≤ 16) = true)) (s1 : 1 ≤ a3) (s2 : a3 ≤ 1099511627776)  (p8 : 1 ≤ a8) (p9 : a8 ≤ 16) (r : Bool) (HWR : ∀ W, Hid (Below w.heap.size w W) → Calls Try.prog 27 #[.slice q n9 c] W fun e w' => e = .returned (.bool r) ∧ Hid (Below w.heap.size w w')) :
    Calls Try.prog 13 #[.agg #[.int .i64 5, .int .i64 a2, .int .i64 a3, .slice np 0 nc, .slice vp 0 vc, .int .i64 0, .int .i64 0, .int .i64 a8, .slice q n9 c]] w fun e w' => e = .returned (.bool r) ∧ Below w.heap.size w w' := by
  have HB : Hid (∀ o1, Below w.heap.size w (w.alloc o1)) := fun o1 => bel_alloc (Nat.le_refl _) o1
  go_enter Try.func13, Try.ntmps13
  go_wp2_with (first | (go_at_call 26; refine (who_any _ _).mono ?_; rintro e w1 ⟨he, rfl⟩; (try rw [HW.out] at he); subst he) | (go_at_call 27; refine (HWR _ (HB.out _)).mono ?_; rintro e w2 ⟨rfl, HB1⟩))
  go_ret
  exact ⟨rfl, HB1.out⟩
end Go.Proofs.Ytigfiopmochliaa.E9
/- The document's Right: early ways out. -/
namespace Go.Proofs.Ytigfiopmochliaa.E9
open Go.RowKit C8
set_option maxHeartbeats 4000000 in
theorem rre1 (w : World) (a1 a2 a3 a6 a7 a8 : Int) (np vp q : Option Addr) (nc n4 vc n5 c n9 : Nat) (HW : Hid (decide (1 ≤ a2 ∧ a2 ≤ 16) = false)) :
    Calls Try.prog 13 #[.agg #[.int .i64 a1, .int .i64 a2, .int .i64 a3, .slice np n4 nc, .slice vp n5 vc, .int .i64 a6, .int .i64 a7, .int .i64 a8, .slice q n9 c]] w fun e w' => e = .returned (.bool false) ∧ Below w.heap.size w w' := by
  have HB : Hid (∀ o1, Below w.heap.size w (w.alloc o1)) := fun o1 => bel_alloc (Nat.le_refl _) o1
  go_enter Try.func13, Try.ntmps13
  go_wp2_with (first | (go_at_call 26; refine (who_any _ _).mono ?_; rintro e w1 ⟨he, rfl⟩; (try rw [HW.out] at he); subst he))
  go_ret
  exact ⟨rfl, HB.out _⟩
set_option maxHeartbeats 4000000 in
theorem rre2 (w : World) (a1 a2 a3 a6 a7 a8 : Int) (np vp q : Option Addr) (nc n4 vc n5 c n9 : Nat) (HW : Hid (decide (1 ≤ a2 ∧ a2 ≤ 16) = true)) (s1 : a3 < 1) :
    Calls Try.prog 13 #[.agg #[.int .i64 a1, .int .i64 a2, .int .i64 a3, .slice np n4 nc, .slice vp n5 vc, .int .i64 a6, .int .i64 a7, .int .i64 a8, .slice q n9 c]] w fun e w' => e = .returned (.bool false) ∧ Below w.heap.size w w' := by
  have HB : Hid (∀ o1, Below w.heap.size w (w.alloc o1)) := fun o1 => bel_alloc (Nat.le_refl _) o1
  go_enter Try.func13, Try.ntmps13
  go_wp2_with (first | (go_at_call 26; refine (who_any _ _).mono ?_; rintro e w1 ⟨he, rfl⟩; (try rw [HW.out] at he); subst he))
  go_ret
  exact ⟨rfl, HB.out _⟩
set_option maxHeartbeats 4000000 in
theorem rre3 (w : World) (a1 a2 a3 a6 a7 a8 : Int) (np vp q : Option Addr) (nc n4 vc n5 c n9 : Nat) (HW : Hid (decide (1 ≤ a2 ∧ a2 ≤ 16) = true)) (s1 : 1 ≤ a3) (s2 : 1099511627776 < a3) :
    Calls Try.prog 13 #[.agg #[.int .i64 a1, .int .i64 a2, .int .i64 a3, .slice np n4 nc, .slice vp n5 vc, .int .i64 a6, .int .i64 a7, .int .i64 a8, .slice q n9 c]] w fun e w' => e = .returned (.bool false) ∧ Below w.heap.size w w' := by
  have HB : Hid (∀ o1, Below w.heap.size w (w.alloc o1)) := fun o1 => bel_alloc (Nat.le_refl _) o1
  have s3 : ¬ a3 < 1 := by omega
  go_enter Try.func13, Try.ntmps13
  go_wp2_with (first | (go_at_call 26; refine (who_any _ _).mono ?_; rintro e w1 ⟨he, rfl⟩; (try rw [HW.out] at he); subst he))
  go_ret
  exact ⟨rfl, HB.out _⟩
end Go.Proofs.Ytigfiopmochliaa.E9
