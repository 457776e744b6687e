/- The contracts of Same, rightByKind and named. -/
import Derived.Test.YtigfiopmochliaaE9Eq
namespace Go.Proofs.Ytigfiopmochliaa.E9
open Go.RowKit C8
set_option maxHeartbeats 8000000 in
theorem Same_any (a b : En) (va vb : Value) (w : World) (ha : EnIs w va a) (hb : EnIs w vb b) :
    Calls Try.prog 34 #[va, vb] w fun e w' => e = .returned (.bool (same a b)) ∧ Below w.heap.size w w' := by
  obtain ⟨np, nc, vp, vc, q, c, rfl, ha⟩ := ha
  obtain ⟨np', nc', vp', vc', q', c', rfl, hb⟩ := hb
  have HN : ∀ W, Hid (Below w.heap.size w W) → Calls Try.prog 41 #[.slice np a.name.length nc, .slice np' b.name.length nc'] W fun e w' => e = .returned (.bool (decide (a.name = b.name))) ∧ w' = W := fun W h => equal_any _ _ _ _ _ _ _ _ W (ha.name.below h.out) (hb.name.below h.out)
  have HV : ∀ W, Hid (Below w.heap.size w W) → Calls Try.prog 41 #[.slice vp a.value.length vc, .slice vp' b.value.length vc'] W fun e w' => e = .returned (.bool (decide (a.value = b.value))) ∧ w' = W := fun W h => equal_any _ _ _ _ _ _ _ _ W (ha.value.below h.out) (hb.value.below h.out)
  have HW : ∀ W, Hid (Below w.heap.size w W) → Calls Try.prog 42 #[.slice q a.wraps.length c, .slice q' b.wraps.length c', .func (.func 43) #[] #[]] W fun e w' => e = .returned (.bool (decide (a.wraps = b.wraps))) ∧ Hid (Below w.heap.size w w') := fun W h => by
    refine (equalFunc_any _ _ _ _ _ _ W (ha.wraps.below h.out) (hb.wraps.below h.out) ha.lw).mono ?_
    rintro e w' ⟨rfl, h2⟩
    exact ⟨rfl, h.out.trans (bel_le h2 h.out.size)⟩
  have HB : Hid (∀ o1 o2, Below w.heap.size w ((w.alloc o1).alloc o2)) := fun o1 o2 => (bel_alloc (Nat.le_refl _) o1).trans (bel_alloc (by simp) o2)
  have HBH : ∀ o1 o2, Hid (Below w.heap.size w ((w.alloc o1).alloc o2)) := HB.out
  clear ha hb
  obtain ⟨res, HR⟩ : ∃ res, Hid (same a b = res) := ⟨_, rfl⟩
  rw [HR.out]
  obtain ⟨a1, a2, a3, a4, a5, a6, a7, a8, a9⟩ := a
  obtain ⟨b1, b2, b3, b4, b5, b6, b7, b8, b9⟩ := b
  simp only [EnV] at HN HV HW ⊢
  by_cases h1 : a1 = b1
  rotate_left
  · have HF : Hid (res = false) := by show _ = _; rw [← HR.out]; simp [same, h1]
    have z1 : (a1 == b1) = false := by simp [h1]
    clear h1 HR
    generalize a4.length = n4 at *
    generalize b4.length = m4 at *
    generalize a5.length = n5 at *
    generalize b5.length = m5 at *
    generalize a9.length = n9 at *
    generalize b9.length = m9 at *
    go_enter Try.func34, Try.ntmps34
    go_wp2_with (first | (go_at_call 41; first | (with_reducible refine (HN _ (HBH _ _)).mono ?_; rintro e w1 ⟨rfl, rfl⟩) | (with_reducible refine (HV _ (HBH _ _)).mono ?_; rintro e w1 ⟨rfl, rfl⟩)) | (go_at_call 42; refine (HW _ (HB.out _ _)).mono ?_; rintro e w1 ⟨rfl, HB1⟩))
    go_ret
    exact ⟨by rw [HF.out]; rfl, HB.out _ _⟩
  subst h1
  by_cases h2 : a2 = b2
  rotate_left
  · have HF : Hid (res = false) := by show _ = _; rw [← HR.out]; simp [same, h2]
    have z2 : (a2 == b2) = false := by simp [h2]
    clear h2 HR
    generalize a4.length = n4 at *
    generalize b4.length = m4 at *
    generalize a5.length = n5 at *
    generalize b5.length = m5 at *
    generalize a9.length = n9 at *
    generalize b9.length = m9 at *
    go_enter Try.func34, Try.ntmps34
    go_wp2_with (first | (go_at_call 41; first | (with_reducible refine (HN _ (HBH _ _)).mono ?_; rintro e w1 ⟨rfl, rfl⟩) | (with_reducible refine (HV _ (HBH _ _)).mono ?_; rintro e w1 ⟨rfl, rfl⟩)) | (go_at_call 42; refine (HW _ (HB.out _ _)).mono ?_; rintro e w1 ⟨rfl, HB1⟩))
    go_ret
    exact ⟨by rw [HF.out]; rfl, HB.out _ _⟩
  subst h2
  by_cases h3 : a3 = b3
  rotate_left
  · have HF : Hid (res = false) := by show _ = _; rw [← HR.out]; simp [same, h3]
    have z3 : (a3 == b3) = false := by simp [h3]
    clear h3 HR
    generalize a4.length = n4 at *
    generalize b4.length = m4 at *
    generalize a5.length = n5 at *
    generalize b5.length = m5 at *
    generalize a9.length = n9 at *
    generalize b9.length = m9 at *
    go_enter Try.func34, Try.ntmps34
    go_wp2_with (first | (go_at_call 41; first | (with_reducible refine (HN _ (HBH _ _)).mono ?_; rintro e w1 ⟨rfl, rfl⟩) | (with_reducible refine (HV _ (HBH _ _)).mono ?_; rintro e w1 ⟨rfl, rfl⟩)) | (go_at_call 42; refine (HW _ (HB.out _ _)).mono ?_; rintro e w1 ⟨rfl, HB1⟩))
    go_ret
    exact ⟨by rw [HF.out]; rfl, HB.out _ _⟩
  subst h3
  by_cases h4 : a4 = b4
  rotate_left
  · have HF : Hid (res = false) := by show _ = _; rw [← HR.out]; simp [same, h4]
    rw [decide_eq_false h4] at HN
    clear h4 HR
    generalize a4.length = n4 at *
    generalize b4.length = m4 at *
    generalize a5.length = n5 at *
    generalize b5.length = m5 at *
    generalize a9.length = n9 at *
    generalize b9.length = m9 at *
    go_enter Try.func34, Try.ntmps34
    go_wp2_with (first | (go_at_call 41; first | (with_reducible refine (HN _ (HBH _ _)).mono ?_; rintro e w1 ⟨rfl, rfl⟩) | (with_reducible refine (HV _ (HBH _ _)).mono ?_; rintro e w1 ⟨rfl, rfl⟩)) | (go_at_call 42; refine (HW _ (HB.out _ _)).mono ?_; rintro e w1 ⟨rfl, HB1⟩))
    go_ret
    exact ⟨by rw [HF.out]; rfl, HB.out _ _⟩
  rw [decide_eq_true h4] at HN
  by_cases h5 : a5 = b5
  rotate_left
  · have HF : Hid (res = false) := by show _ = _; rw [← HR.out]; simp [same, h5]
    rw [decide_eq_false h5] at HV
    clear h5 HR
    generalize a4.length = n4 at *
    generalize b4.length = m4 at *
    generalize a5.length = n5 at *
    generalize b5.length = m5 at *
    generalize a9.length = n9 at *
    generalize b9.length = m9 at *
    go_enter Try.func34, Try.ntmps34
    go_wp2_with (first | (go_at_call 41; first | (with_reducible refine (HN _ (HBH _ _)).mono ?_; rintro e w1 ⟨rfl, rfl⟩) | (with_reducible refine (HV _ (HBH _ _)).mono ?_; rintro e w1 ⟨rfl, rfl⟩)) | (go_at_call 42; refine (HW _ (HB.out _ _)).mono ?_; rintro e w1 ⟨rfl, HB1⟩))
    go_ret
    exact ⟨by rw [HF.out]; rfl, HB.out _ _⟩
  rw [decide_eq_true h5] at HV
  by_cases h6 : a6 = b6
  rotate_left
  · have HF : Hid (res = false) := by show _ = _; rw [← HR.out]; simp [same, h6]
    have z6 : (a6 == b6) = false := by simp [h6]
    clear h6 HR
    generalize a4.length = n4 at *
    generalize b4.length = m4 at *
    generalize a5.length = n5 at *
    generalize b5.length = m5 at *
    generalize a9.length = n9 at *
    generalize b9.length = m9 at *
    go_enter Try.func34, Try.ntmps34
    go_wp2_with (first | (go_at_call 41; first | (with_reducible refine (HN _ (HBH _ _)).mono ?_; rintro e w1 ⟨rfl, rfl⟩) | (with_reducible refine (HV _ (HBH _ _)).mono ?_; rintro e w1 ⟨rfl, rfl⟩)) | (go_at_call 42; refine (HW _ (HB.out _ _)).mono ?_; rintro e w1 ⟨rfl, HB1⟩))
    go_ret
    exact ⟨by rw [HF.out]; rfl, HB.out _ _⟩
  subst h6
  by_cases h7 : a7 = b7
  rotate_left
  · have HF : Hid (res = false) := by show _ = _; rw [← HR.out]; simp [same, h7]
    have z7 : (a7 == b7) = false := by simp [h7]
    clear h7 HR
    generalize a4.length = n4 at *
    generalize b4.length = m4 at *
    generalize a5.length = n5 at *
    generalize b5.length = m5 at *
    generalize a9.length = n9 at *
    generalize b9.length = m9 at *
    go_enter Try.func34, Try.ntmps34
    go_wp2_with (first | (go_at_call 41; first | (with_reducible refine (HN _ (HBH _ _)).mono ?_; rintro e w1 ⟨rfl, rfl⟩) | (with_reducible refine (HV _ (HBH _ _)).mono ?_; rintro e w1 ⟨rfl, rfl⟩)) | (go_at_call 42; refine (HW _ (HB.out _ _)).mono ?_; rintro e w1 ⟨rfl, HB1⟩))
    go_ret
    exact ⟨by rw [HF.out]; rfl, HB.out _ _⟩
  subst h7
  by_cases h8 : a8 = b8
  rotate_left
  · have HF : Hid (res = false) := by show _ = _; rw [← HR.out]; simp [same, h8]
    have z8 : (a8 == b8) = false := by simp [h8]
    clear h8 HR
    generalize a4.length = n4 at *
    generalize b4.length = m4 at *
    generalize a5.length = n5 at *
    generalize b5.length = m5 at *
    generalize a9.length = n9 at *
    generalize b9.length = m9 at *
    go_enter Try.func34, Try.ntmps34
    go_wp2_with (first | (go_at_call 41; first | (with_reducible refine (HN _ (HBH _ _)).mono ?_; rintro e w1 ⟨rfl, rfl⟩) | (with_reducible refine (HV _ (HBH _ _)).mono ?_; rintro e w1 ⟨rfl, rfl⟩)) | (go_at_call 42; refine (HW _ (HB.out _ _)).mono ?_; rintro e w1 ⟨rfl, HB1⟩))
    go_ret
    exact ⟨by rw [HF.out]; rfl, HB.out _ _⟩
  subst h8
  by_cases h9 : a9 = b9
  rotate_left
  · have HF : Hid (res = false) := by show _ = _; rw [← HR.out]; simp [same, h9]
    rw [decide_eq_false h9] at HW
    clear h9 HR
    generalize a4.length = n4 at *
    generalize b4.length = m4 at *
    generalize a5.length = n5 at *
    generalize b5.length = m5 at *
    generalize a9.length = n9 at *
    generalize b9.length = m9 at *
    go_enter Try.func34, Try.ntmps34
    go_wp2_with (first | (go_at_call 41; first | (with_reducible refine (HN _ (HBH _ _)).mono ?_; rintro e w1 ⟨rfl, rfl⟩) | (with_reducible refine (HV _ (HBH _ _)).mono ?_; rintro e w1 ⟨rfl, rfl⟩)) | (go_at_call 42; refine (HW _ (HB.out _ _)).mono ?_; rintro e w1 ⟨rfl, HB1⟩))
    go_ret
    exact ⟨by rw [HF.out]; rfl, HB1.out⟩
  rw [decide_eq_true h9] at HW
  have HF : Hid (res = true) := by show _ = _; rw [← HR.out]; simp [same, h4, h5, h9]
  clear h4 h5 h9 HR
  generalize a4.length = n4 at *
  generalize b4.length = m4 at *
  generalize a5.length = n5 at *
  generalize b5.length = m5 at *
  generalize a9.length = n9 at *
  generalize b9.length = m9 at *
  go_enter Try.func34, Try.ntmps34
  go_wp2_with (first | (go_at_call 41; first | (with_reducible refine (HN _ (HBH _ _)).mono ?_; rintro e w1 ⟨rfl, rfl⟩) | (with_reducible refine (HV _ (HBH _ _)).mono ?_; rintro e w1 ⟨rfl, rfl⟩)) | (go_at_call 42; refine (HW _ (HB.out _ _)).mono ?_; rintro e w1 ⟨rfl, HB1⟩))
  go_ret
  exact ⟨by rw [HF.out]; rfl, HB1.out⟩
end Go.Proofs.Ytigfiopmochliaa.E9
