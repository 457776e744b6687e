/- The contract of rightByKind. -/
import Derived.Test.YtigfiopmochliaaE9Eq
namespace Go.Proofs.Ytigfiopmochliaa.E9
open Go.RowKit C8
set_option maxHeartbeats 1000000 in
theorem bk1y (w : World) (a2 a3 a6 a7 a8 : Int) (np vp q : Option Addr) (nc n4 vc n5 c n9 : Nat) (HX : Hid (decide ((1 : Int) ≤ (n4 : Int) ∧ (n4 : Int) ≤ 64) = true)) :
    Calls Try.prog 33 #[.agg #[.int .i64 1, .int .i64 a2, .int .i64 a3, .slice np n4 nc, .slice vp n5 vc, .int .i64 a6, .int .i64 a7, .int .i64 a8, .slice q n9 c]] w fun e w' => e = .returned (.bool (decide ((n5 : Int) ≤ 512))) ∧ Below w.heap.size w w' := by
  have HB : Hid (∀ o1, Below w.heap.size w (w.alloc o1)) := fun o1 => bel_alloc (Nat.le_refl _) o1
  go_enter Try.func33, Try.ntmps33
  go_wp2_with (first | (go_at_call 32; refine (within_any _ _ _ _).mono ?_; rintro e w1 ⟨he, rfl⟩; (try rw [HX.out] at he); subst he))
  go_ret
  exact ⟨rfl, HB.out _⟩
set_option maxHeartbeats 1000000 in
theorem bk1n (w : World) (a2 a3 a6 a7 a8 : Int) (np vp q : Option Addr) (nc n4 vc n5 c n9 : Nat) (HX : Hid (decide ((1 : Int) ≤ (n4 : Int) ∧ (n4 : Int) ≤ 64) = false)) :
    Calls Try.prog 33 #[.agg #[.int .i64 1, .int .i64 a2, .int .i64 a3, .slice np n4 nc, .slice vp n5 vc, .int .i64 a6, .int .i64 a7, .int .i64 a8, .slice q n9 c]] w fun e w' => e = .returned (.bool false) ∧ Below w.heap.size w w' := by
  have HB : Hid (∀ o1, Below w.heap.size w (w.alloc o1)) := fun o1 => bel_alloc (Nat.le_refl _) o1
  go_enter Try.func33, Try.ntmps33
  go_wp2_with (first | (go_at_call 32; refine (within_any _ _ _ _).mono ?_; rintro e w1 ⟨he, rfl⟩; (try rw [HX.out] at he); subst he))
  go_ret
  exact ⟨rfl, HB.out _⟩
set_option maxHeartbeats 1000000 in
theorem bk2 (w : World) (a2 a3 a6 a7 a8 : Int) (np vp q : Option Addr) (nc n4 vc n5 c n9 : Nat)  :
    Calls Try.prog 33 #[.agg #[.int .i64 2, .int .i64 a2, .int .i64 a3, .slice np n4 nc, .slice vp n5 vc, .int .i64 a6, .int .i64 a7, .int .i64 a8, .slice q n9 c]] w fun e w' => e = .returned (.bool (decide ((1 : Int) ≤ (n4 : Int) ∧ (n4 : Int) ≤ 64))) ∧ Below w.heap.size w w' := by
  have HB : Hid (∀ o1, Below w.heap.size w (w.alloc o1)) := fun o1 => bel_alloc (Nat.le_refl _) o1
  go_enter Try.func33, Try.ntmps33
  go_wp2_with (first | (go_at_call 32; refine (within_any _ _ _ _).mono ?_; rintro e w1 ⟨he, rfl⟩; subst he))
  go_ret
  exact ⟨by rw [Bool.decide_and]; rfl, HB.out _⟩
set_option maxHeartbeats 1000000 in
theorem bk3y (w : World) (a2 a3 a6 a7 a8 : Int) (np vp q : Option Addr) (nc n4 vc n5 c n9 : Nat) (HX : Hid (decide ((1 : Int) ≤ a6 ∧ a6 ≤ 16) = true)) :
    Calls Try.prog 33 #[.agg #[.int .i64 3, .int .i64 a2, .int .i64 a3, .slice np n4 nc, .slice vp n5 vc, .int .i64 a6, .int .i64 a7, .int .i64 a8, .slice q n9 c]] w fun e w' => e = .returned (.bool (decide ((1 : Int) ≤ a7 ∧ a7 ≤ 7))) ∧ Below w.heap.size w w' := by
  have HB : Hid (∀ o1, Below w.heap.size w (w.alloc o1)) := fun o1 => bel_alloc (Nat.le_refl _) o1
  go_enter Try.func33, Try.ntmps33
  go_wp2_with (first | (go_at_call 32; refine (within_any _ _ _ _).mono ?_; rintro e w1 ⟨he, rfl⟩; (try rw [HX.out] at he); subst he))
  go_ret
  exact ⟨by rw [Bool.decide_and]; rfl, HB.out _⟩
set_option maxHeartbeats 1000000 in
theorem bk3n (w : World) (a2 a3 a6 a7 a8 : Int) (np vp q : Option Addr) (nc n4 vc n5 c n9 : Nat) (HX : Hid (decide ((1 : Int) ≤ a6 ∧ a6 ≤ 16) = false)) :
    Calls Try.prog 33 #[.agg #[.int .i64 3, .int .i64 a2, .int .i64 a3, .slice np n4 nc, .slice vp n5 vc, .int .i64 a6, .int .i64 a7, .int .i64 a8, .slice q n9 c]] w fun e w' => e = .returned (.bool false) ∧ Below w.heap.size w w' := by
  have HB : Hid (∀ o1, Below w.heap.size w (w.alloc o1)) := fun o1 => bel_alloc (Nat.le_refl _) o1
  go_enter Try.func33, Try.ntmps33
  go_wp2_with (first | (go_at_call 32; refine (within_any _ _ _ _).mono ?_; rintro e w1 ⟨he, rfl⟩; (try rw [HX.out] at he); subst he))
  go_ret
  exact ⟨rfl, HB.out _⟩
set_option maxHeartbeats 1000000 in
theorem bk4 (w : World) (a2 a3 a6 a7 a8 : Int) (np vp q : Option Addr) (nc n4 vc n5 c n9 : Nat)  :
    Calls Try.prog 33 #[.agg #[.int .i64 4, .int .i64 a2, .int .i64 a3, .slice np n4 nc, .slice vp n5 vc, .int .i64 a6, .int .i64 a7, .int .i64 a8, .slice q n9 c]] w fun e w' => e = .returned (.bool (decide ((1 : Int) ≤ a6 ∧ a6 ≤ 16))) ∧ Below w.heap.size w w' := by
  have HB : Hid (∀ o1, Below w.heap.size w (w.alloc o1)) := fun o1 => bel_alloc (Nat.le_refl _) o1
  go_enter Try.func33, Try.ntmps33
  go_wp2_with (first | (go_at_call 32; refine (within_any _ _ _ _).mono ?_; rintro e w1 ⟨he, rfl⟩; subst he))
  go_ret
  exact ⟨by rw [Bool.decide_and]; rfl, HB.out _⟩
set_option maxHeartbeats 1000000 in
theorem bk5y (w : World) (a2 a3 a6 a7 a8 : Int) (np vp q : Option Addr) (nc n4 vc n5 c n9 : Nat) (HX : Hid (decide ((1 : Int) ≤ a8 ∧ a8 ≤ 16) = true)) (r : Bool) (HW : ∀ W, Hid (Below w.heap.size w W) → Calls Try.prog 40 #[.slice q n9 c] W fun e w' => e = .returned (.bool r) ∧ Hid (Below w.heap.size w w')) :
    Calls Try.prog 33 #[.agg #[.int .i64 5, .int .i64 a2, .int .i64 a3, .slice np n4 nc, .slice vp n5 vc, .int .i64 a6, .int .i64 a7, .int .i64 a8, .slice q n9 c]] w fun e w' => e = .returned (.bool r) ∧ Below w.heap.size w w' := by
  have HB : Hid (∀ o1, Below w.heap.size w (w.alloc o1)) := fun o1 => bel_alloc (Nat.le_refl _) o1
  go_enter Try.func33, Try.ntmps33
  go_wp2_with (first | (go_at_call 32; refine (within_any _ _ _ _).mono ?_; rintro e w1 ⟨he, rfl⟩; (try rw [HX.out] at he); subst he) | (go_at_call 40; refine (HW _ (HB.out _)).mono ?_; rintro e w1 ⟨rfl, HB1⟩))
  go_ret
  exact ⟨rfl, HB1.out⟩
set_option maxHeartbeats 1000000 in
theorem bk5n (w : World) (a2 a3 a6 a7 a8 : Int) (np vp q : Option Addr) (nc n4 vc n5 c n9 : Nat) (HX : Hid (decide ((1 : Int) ≤ a8 ∧ a8 ≤ 16) = false)) :
    Calls Try.prog 33 #[.agg #[.int .i64 5, .int .i64 a2, .int .i64 a3, .slice np n4 nc, .slice vp n5 vc, .int .i64 a6, .int .i64 a7, .int .i64 a8, .slice q n9 c]] w fun e w' => e = .returned (.bool false) ∧ Below w.heap.size w w' := by
  have HB : Hid (∀ o1, Below w.heap.size w (w.alloc o1)) := fun o1 => bel_alloc (Nat.le_refl _) o1
  go_enter Try.func33, Try.ntmps33
  go_wp2_with (first | (go_at_call 32; refine (within_any _ _ _ _).mono ?_; rintro e w1 ⟨he, rfl⟩; (try rw [HX.out] at he); subst he))
  go_ret
  exact ⟨rfl, HB.out _⟩
set_option maxHeartbeats 1000000 in
theorem bk0 (w : World) (a1 a2 a3 a6 a7 a8 : Int) (np vp q : Option Addr) (nc n4 vc n5 c n9 : Nat) (k1 : ¬ a1 = 1) (k2 : ¬ a1 = 2) (k3 : ¬ a1 = 3) (k4 : ¬ a1 = 4) (k5 : ¬ a1 = 5) :
    Calls Try.prog 33 #[.agg #[.int .i64 a1, .int .i64 a2, .int .i64 a3, .slice np n4 nc, .slice vp n5 vc, .int .i64 a6, .int .i64 a7, .int .i64 a8, .slice q n9 c]] w fun e w' => e = .returned (.bool false) ∧ Below w.heap.size w w' := by
  have HB : Hid (∀ o1, Below w.heap.size w (w.alloc o1)) := fun o1 => bel_alloc (Nat.le_refl _) o1
  have z1 : (a1 == 1) = false := by simp [k1]
  have z2 : (a1 == 2) = false := by simp [k2]
  have z3 : (a1 == 3) = false := by simp [k3]
  have z4 : (a1 == 4) = false := by simp [k4]
  have z5 : (a1 == 5) = false := by simp [k5]
  go_enter Try.func33, Try.ntmps33
  go_wp2_with (first | fail)
  go_ret
  exact ⟨rfl, HB.out _⟩
theorem byKind_any (a : En) (va : Value) (w : World) (ha : EnIs w va a) :
    Calls Try.prog 33 #[va] w fun e w' => e = .returned (.bool (byKind a)) ∧ Below w.heap.size w w' := by
  obtain ⟨np, nc, vp, vc, q, c, rfl, ha⟩ := ha
  have HW : ∀ W, Hid (Below w.heap.size w W) → Calls Try.prog 40 #[.slice q a.wraps.length c] W fun e w' => e = .returned (.bool (wok 0 a.wraps)) ∧ Hid (Below w.heap.size w w') := fun W h => by
    refine (rightWraps_any _ _ _ W (ha.wraps.below h.out) ha.lw).mono ?_
    rintro e w' ⟨rfl, h2⟩
    exact ⟨rfl, h.out.trans (bel_le h2 h.out.size)⟩
  clear ha
  obtain ⟨a1, a2, a3, a4, a5, a6, a7, a8, a9⟩ := a
  simp only [EnV] at HW ⊢
  have c4 : decide ((1 : Int) ≤ (a4.length : Int) ∧ (a4.length : Int) ≤ 64) = decide (1 ≤ a4.length ∧ a4.length ≤ 64) := by rw [decide_eq_decide]; omega
  have c5 : decide ((a5.length : Int) ≤ 512) = decide (a5.length ≤ 512) := by rw [decide_eq_decide]; omega
  unfold byKind
  simp only
  by_cases k1 : a1 = 1
  · subst k1
    rw [if_pos rfl, ← c4, ← c5]
    cases hx : decide ((1 : Int) ≤ (a4.length : Int) ∧ (a4.length : Int) ≤ 64) with
    | true => exact bk1y w a2 a3 a6 a7 a8 np vp q nc _ vc _ c _ hx
    | false => exact bk1n w a2 a3 a6 a7 a8 np vp q nc _ vc _ c _ hx
  rw [if_neg k1]
  by_cases k2 : a1 = 2
  · subst k2
    rw [if_pos rfl, ← c4]
    exact bk2 w a2 a3 a6 a7 a8 np vp q nc _ vc _ c _
  rw [if_neg k2]
  by_cases k3 : a1 = 3
  · subst k3
    rw [if_pos rfl]
    cases hx : decide ((1 : Int) ≤ a6 ∧ a6 ≤ 16) with
    | true => exact bk3y w a2 a3 a6 a7 a8 np vp q nc _ vc _ c _ hx
    | false => exact bk3n w a2 a3 a6 a7 a8 np vp q nc _ vc _ c _ hx
  rw [if_neg k3]
  by_cases k4 : a1 = 4
  · subst k4
    rw [if_pos rfl]
    exact bk4 w a2 a3 a6 a7 a8 np vp q nc _ vc _ c _
  rw [if_neg k4]
  by_cases k5 : a1 = 5
  · subst k5
    rw [if_pos rfl]
    cases hx : decide ((1 : Int) ≤ a8 ∧ a8 ≤ 16) with
    | true => exact bk5y w a2 a3 a6 a7 a8 np vp q nc _ vc _ c _ hx _ HW
    | false => exact bk5n w a2 a3 a6 a7 a8 np vp q nc _ vc _ c _ hx
  rw [if_neg k5]
  exact bk0 w a1 a2 a3 a6 a7 a8 np vp q nc _ vc _ c _ k1 k2 k3 k4 k5
end Go.Proofs.Ytigfiopmochliaa.E9
