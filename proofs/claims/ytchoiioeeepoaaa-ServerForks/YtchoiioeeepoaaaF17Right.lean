/- The contracts of Right and Same. -/
import Derived.Test.YtchoiioeeepoaaaF17Leaf
namespace Go.Proofs.Ytchoiioeeepoaaa.F17
open Go.RowKit C8 E9
set_option maxHeartbeats 4000000 in
theorem Right_any (f : Fr) (v : Value) (w : World) (h : FrIs w v f) :
    Calls Try.prog 39 #[v] w fun e w' => e = .returned (.bool (right f)) ∧ Below w.heap.size w w' := by
  obtain ⟨q, c, sp, sc, rfl, h⟩ := h
  have HK : ∀ W, Below w.heap.size w W → Calls Try.prog 51 #[.slice q f.links.length c] W fun e w' => e = .returned (.bool (lks f.links)) ∧ w' = W := fun W hW => rightLinks_any _ _ _ W (h.links.below hW) h.ll
  have HC : ∀ W, Calls Try.prog 50 #[.int .i64 f.coll, .int .i64 1, .int .i64 1099511627776] W fun e w' => e = .returned (.bool (decide (1 ≤ f.coll ∧ f.coll ≤ 1099511627776))) ∧ w' = W := fun W => within_any _ _ _ W
  have HI : ∀ W, Calls Try.prog 50 #[.int .i64 f.idx, .int .i64 0, .int .i64 64] W fun e w' => e = .returned (.bool (decide (0 ≤ f.idx ∧ f.idx ≤ 64))) ∧ w' = W := fun W => within_any _ _ _ W
  have HB : Hid (∀ o, Below w.heap.size w (w.alloc o)) := fun o => bel_alloc (Nat.le_refl _) o
  obtain ⟨res, HR⟩ : ∃ res, Hid (right f = res) := ⟨_, rfl⟩
  rw [HR.out]
  clear h
  obtain ⟨k, cl, i, ls, t⟩ := f
  simp only [FrV] at HK HC HI ⊢
  have HR2 : Hid ((decide (1 ≤ cl ∧ cl ≤ 1099511627776) && decide (0 ≤ i ∧ i ≤ 64) && lks ls && byKind ⟨k, cl, i, ls, t⟩) = res) := HR.out
  clear HR
  generalize decide (1 ≤ cl ∧ cl ≤ 1099511627776) = b1 at *
  generalize decide (0 ≤ i ∧ i ≤ 64) = b2 at *
  generalize lks ls = b3 at *
  have HK2 : Hid (byKind ⟨k, cl, i, ls, t⟩ = (if k = 1 then decide (i = 0) && decide (0 < ls.length) && decide (t.length = 0) else if k = 2 then decide (ls.length = 0) && decide (t.length = 0) else if k = 3 then decide (t.length = 0) else if k = 4 then decide (ls.length = 0) && decide (t.length = 32) else false)) := rfl
  rw [HK2.out] at HR2
  clear HK2
  generalize ls.length = n at *
  generalize t.length = m at *
  rcases Bool.eq_false_or_eq_true b1 with hb | hb
  rotate_left
  · subst hb
    have HF : Hid (res = false) := by
      have := HR2.out
      simp at this
      exact this
    clear HR2
    go_enter Try.func39, Try.ntmps39
    go_wp2_with (first | (go_at_call 50; first | (with_reducible refine (HC _).mono ?_; rintro e w1 ⟨rfl, rfl⟩) | (with_reducible refine (HI _).mono ?_; rintro e w1 ⟨rfl, rfl⟩)) | (go_at_call 51; refine (HK _ (HB.out _)).mono ?_; rintro e w1 ⟨rfl, rfl⟩))
    go_ret
    exact ⟨by rw [HF.out]; rfl, HB.out _⟩
  subst hb
  rcases Bool.eq_false_or_eq_true b2 with hb | hb
  rotate_left
  · subst hb
    have HF : Hid (res = false) := by
      have := HR2.out
      simp at this
      exact this
    clear HR2
    go_enter Try.func39, Try.ntmps39
    go_wp2_with (first | (go_at_call 50; first | (with_reducible refine (HC _).mono ?_; rintro e w1 ⟨rfl, rfl⟩) | (with_reducible refine (HI _).mono ?_; rintro e w1 ⟨rfl, rfl⟩)) | (go_at_call 51; refine (HK _ (HB.out _)).mono ?_; rintro e w1 ⟨rfl, rfl⟩))
    go_ret
    exact ⟨by rw [HF.out]; rfl, HB.out _⟩
  subst hb
  rcases Bool.eq_false_or_eq_true b3 with hb | hb
  rotate_left
  · subst hb
    have HF : Hid (res = false) := by
      have := HR2.out
      simp at this
      exact this
    clear HR2
    go_enter Try.func39, Try.ntmps39
    go_wp2_with (first | (go_at_call 50; first | (with_reducible refine (HC _).mono ?_; rintro e w1 ⟨rfl, rfl⟩) | (with_reducible refine (HI _).mono ?_; rintro e w1 ⟨rfl, rfl⟩)) | (go_at_call 51; refine (HK _ (HB.out _)).mono ?_; rintro e w1 ⟨rfl, rfl⟩))
    go_ret
    exact ⟨by rw [HF.out]; rfl, HB.out _⟩
  subst hb
  by_cases k1 : k = 1
  · subst k1
    by_cases hq : i = 0
    rotate_left
    · have z : (i == 0) = false := by simp [hq]
      have HF : Hid (res = false) := by
        have := HR2.out
        simp [hq] at this
        first | exact this | exact this.symm
      clear HR2
      go_enter Try.func39, Try.ntmps39
      go_wp2_with (first | (go_at_call 50; first | (with_reducible refine (HC _).mono ?_; rintro e w1 ⟨rfl, rfl⟩) | (with_reducible refine (HI _).mono ?_; rintro e w1 ⟨rfl, rfl⟩)) | (go_at_call 51; refine (HK _ (HB.out _)).mono ?_; rintro e w1 ⟨rfl, rfl⟩))
      go_ret
      exact ⟨by rw [HF.out]; rfl, HB.out _⟩
    subst hq
    by_cases hg : 0 < n
    rotate_left
    · have z : ¬ (0 : Int) < (n : Int) := by omega
      have z2 : n = 0 := by omega
      have HF : Hid (res = false) := by
        have := HR2.out
        simp [z2] at this
        first | exact this | exact this.symm
      clear HR2
      clear z2
      go_enter Try.func39, Try.ntmps39
      go_wp2_with (first | (go_at_call 50; first | (with_reducible refine (HC _).mono ?_; rintro e w1 ⟨rfl, rfl⟩) | (with_reducible refine (HI _).mono ?_; rintro e w1 ⟨rfl, rfl⟩)) | (go_at_call 51; refine (HK _ (HB.out _)).mono ?_; rintro e w1 ⟨rfl, rfl⟩))
      go_ret
      exact ⟨by rw [HF.out]; rfl, HB.out _⟩
    have z1 : (0 : Int) < (n : Int) := by omega
    by_cases hq : m = 0
    rotate_left
    · have z : ((m : Int) == 0) = false := by simp; omega
      have HF : Hid (res = false) := by
        have := HR2.out
        simp [hg, hq] at this
        first | exact this | exact this.symm
      clear HR2
      go_enter Try.func39, Try.ntmps39
      go_wp2_with (first | (go_at_call 50; first | (with_reducible refine (HC _).mono ?_; rintro e w1 ⟨rfl, rfl⟩) | (with_reducible refine (HI _).mono ?_; rintro e w1 ⟨rfl, rfl⟩)) | (go_at_call 51; refine (HK _ (HB.out _)).mono ?_; rintro e w1 ⟨rfl, rfl⟩))
      go_ret
      exact ⟨by rw [HF.out]; rfl, HB.out _⟩
    subst hq
    have HF : Hid (res = true) := by
      have := HR2.out
      simp [hg] at this
      first | exact this | exact this.symm
    clear HR2
    go_enter Try.func39, Try.ntmps39
    go_wp2_with (first | (go_at_call 50; first | (with_reducible refine (HC _).mono ?_; rintro e w1 ⟨rfl, rfl⟩) | (with_reducible refine (HI _).mono ?_; rintro e w1 ⟨rfl, rfl⟩)) | (go_at_call 51; refine (HK _ (HB.out _)).mono ?_; rintro e w1 ⟨rfl, rfl⟩))
    go_ret
    exact ⟨by rw [HF.out]; rfl, HB.out _⟩
  by_cases k2 : k = 2
  · subst k2
    by_cases hq : n = 0
    rotate_left
    · have z : ((n : Int) == 0) = false := by simp; omega
      have HF : Hid (res = false) := by
        have := HR2.out
        simp [hq] at this
        first | exact this | exact this.symm
      clear HR2
      go_enter Try.func39, Try.ntmps39
      go_wp2_with (first | (go_at_call 50; first | (with_reducible refine (HC _).mono ?_; rintro e w1 ⟨rfl, rfl⟩) | (with_reducible refine (HI _).mono ?_; rintro e w1 ⟨rfl, rfl⟩)) | (go_at_call 51; refine (HK _ (HB.out _)).mono ?_; rintro e w1 ⟨rfl, rfl⟩))
      go_ret
      exact ⟨by rw [HF.out]; rfl, HB.out _⟩
    subst hq
    by_cases hq : m = 0
    rotate_left
    · have z : ((m : Int) == 0) = false := by simp; omega
      have HF : Hid (res = false) := by
        have := HR2.out
        simp [hq] at this
        first | exact this | exact this.symm
      clear HR2
      go_enter Try.func39, Try.ntmps39
      go_wp2_with (first | (go_at_call 50; first | (with_reducible refine (HC _).mono ?_; rintro e w1 ⟨rfl, rfl⟩) | (with_reducible refine (HI _).mono ?_; rintro e w1 ⟨rfl, rfl⟩)) | (go_at_call 51; refine (HK _ (HB.out _)).mono ?_; rintro e w1 ⟨rfl, rfl⟩))
      go_ret
      exact ⟨by rw [HF.out]; rfl, HB.out _⟩
    subst hq
    have HF : Hid (res = true) := by
      have := HR2.out
      simp [] at this
      first | exact this | exact this.symm
    clear HR2
    go_enter Try.func39, Try.ntmps39
    go_wp2_with (first | (go_at_call 50; first | (with_reducible refine (HC _).mono ?_; rintro e w1 ⟨rfl, rfl⟩) | (with_reducible refine (HI _).mono ?_; rintro e w1 ⟨rfl, rfl⟩)) | (go_at_call 51; refine (HK _ (HB.out _)).mono ?_; rintro e w1 ⟨rfl, rfl⟩))
    go_ret
    exact ⟨by rw [HF.out]; rfl, HB.out _⟩
  by_cases k3 : k = 3
  · subst k3
    by_cases hq : m = 0
    rotate_left
    · have z : ((m : Int) == 0) = false := by simp; omega
      have HF : Hid (res = false) := by
        have := HR2.out
        simp [hq] at this
        first | exact this | exact this.symm
      clear HR2
      go_enter Try.func39, Try.ntmps39
      go_wp2_with (first | (go_at_call 50; first | (with_reducible refine (HC _).mono ?_; rintro e w1 ⟨rfl, rfl⟩) | (with_reducible refine (HI _).mono ?_; rintro e w1 ⟨rfl, rfl⟩)) | (go_at_call 51; refine (HK _ (HB.out _)).mono ?_; rintro e w1 ⟨rfl, rfl⟩))
      go_ret
      exact ⟨by rw [HF.out]; rfl, HB.out _⟩
    subst hq
    have HF : Hid (res = true) := by
      have := HR2.out
      simp [] at this
      first | exact this | exact this.symm
    clear HR2
    go_enter Try.func39, Try.ntmps39
    go_wp2_with (first | (go_at_call 50; first | (with_reducible refine (HC _).mono ?_; rintro e w1 ⟨rfl, rfl⟩) | (with_reducible refine (HI _).mono ?_; rintro e w1 ⟨rfl, rfl⟩)) | (go_at_call 51; refine (HK _ (HB.out _)).mono ?_; rintro e w1 ⟨rfl, rfl⟩))
    go_ret
    exact ⟨by rw [HF.out]; rfl, HB.out _⟩
  by_cases k4 : k = 4
  · subst k4
    by_cases hq : n = 0
    rotate_left
    · have z : ((n : Int) == 0) = false := by simp; omega
      have HF : Hid (res = false) := by
        have := HR2.out
        simp [hq] at this
        first | exact this | exact this.symm
      clear HR2
      go_enter Try.func39, Try.ntmps39
      go_wp2_with (first | (go_at_call 50; first | (with_reducible refine (HC _).mono ?_; rintro e w1 ⟨rfl, rfl⟩) | (with_reducible refine (HI _).mono ?_; rintro e w1 ⟨rfl, rfl⟩)) | (go_at_call 51; refine (HK _ (HB.out _)).mono ?_; rintro e w1 ⟨rfl, rfl⟩))
      go_ret
      exact ⟨by rw [HF.out]; rfl, HB.out _⟩
    subst hq
    by_cases hq : m = 32
    rotate_left
    · have z : ((m : Int) == 32) = false := by simp; omega
      have HF : Hid (res = false) := by
        have := HR2.out
        simp [hq] at this
        first | exact this | exact this.symm
      clear HR2
      go_enter Try.func39, Try.ntmps39
      go_wp2_with (first | (go_at_call 50; first | (with_reducible refine (HC _).mono ?_; rintro e w1 ⟨rfl, rfl⟩) | (with_reducible refine (HI _).mono ?_; rintro e w1 ⟨rfl, rfl⟩)) | (go_at_call 51; refine (HK _ (HB.out _)).mono ?_; rintro e w1 ⟨rfl, rfl⟩))
      go_ret
      exact ⟨by rw [HF.out]; rfl, HB.out _⟩
    subst hq
    have HF : Hid (res = true) := by
      have := HR2.out
      simp [] at this
      first | exact this | exact this.symm
    clear HR2
    go_enter Try.func39, Try.ntmps39
    go_wp2_with (first | (go_at_call 50; first | (with_reducible refine (HC _).mono ?_; rintro e w1 ⟨rfl, rfl⟩) | (with_reducible refine (HI _).mono ?_; rintro e w1 ⟨rfl, rfl⟩)) | (go_at_call 51; refine (HK _ (HB.out _)).mono ?_; rintro e w1 ⟨rfl, rfl⟩))
    go_ret
    exact ⟨by rw [HF.out]; rfl, HB.out _⟩
  have z1 : (k == 1) = false := by simp [k1]
  have z2 : (k == 2) = false := by simp [k2]
  have z3 : (k == 3) = false := by simp [k3]
  have z4 : (k == 4) = false := by simp [k4]
  have HF : Hid (res = false) := by
    have := HR2.out
    simp [k1, k2, k3, k4] at this
    first | exact this | exact this.symm
  clear HR2
  go_enter Try.func39, Try.ntmps39
  go_wp2_with (first | (go_at_call 50; first | (with_reducible refine (HC _).mono ?_; rintro e w1 ⟨rfl, rfl⟩) | (with_reducible refine (HI _).mono ?_; rintro e w1 ⟨rfl, rfl⟩)) | (go_at_call 51; refine (HK _ (HB.out _)).mono ?_; rintro e w1 ⟨rfl, rfl⟩))
  go_ret
  exact ⟨by rw [HF.out]; rfl, HB.out _⟩
end Go.Proofs.Ytchoiioeeepoaaa.F17
