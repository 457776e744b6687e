/- The contract of the document's Right. -/
import Derived.Test.YtigfiopmochliaaMgF
namespace Go.Proofs.Ytigfiopmochliaa.E9
open Go.RowKit C8
theorem len_pos {α : Type} {l : List α} (h : ¬ l = []) : 0 < l.length := List.length_pos_iff.2 h
theorem rRight_any (a : En) (va : Value) (w : World) (ha : EnIs w va a) : Calls Try.prog 13 #[va] w fun e w' => e = .returned (.bool (right a)) ∧ Below w.heap.size w w' := by
  obtain ⟨np, nc, vp, vc, q, c, rfl, ha⟩ := ha
  have hwr : ∀ W, Hid (Below w.heap.size w W) → Calls Try.prog 27 #[.slice q a.wraps.length c] W fun e w' => e = .returned (.bool (wok 0 a.wraps)) ∧ Hid (Below w.heap.size w w') := fun W h => by
    refine (rwraps_any _ _ _ W (ha.wraps.below h.out) ha.lw).mono ?_
    rintro e w' ⟨rfl, h2⟩
    exact ⟨rfl, h.out.trans (bel_le h2 h.out.size)⟩
  clear ha
  obtain ⟨a1, a2, a3, a4, a5, a6, a7, a8, a9⟩ := a
  simp only [EnV] at hwr ⊢
  by_cases hW : 1 ≤ a2 ∧ a2 ≤ 16
  rotate_left
  · rw [show right ⟨a1, a2, a3, a4, a5, a6, a7, a8, a9⟩ = false from Bool.eq_false_iff.2 (fun h => hW ((right_iff _).1 h).1)]
    exact rre1 w a1 a2 a3 a6 a7 a8 np vp q nc _ vc _ c _ (decide_eq_false hW)
  have HW : Hid (decide (1 ≤ a2 ∧ a2 ≤ 16) = true) := decide_eq_true hW
  by_cases s1 : 1 ≤ a3
  rotate_left
  · rw [show right ⟨a1, a2, a3, a4, a5, a6, a7, a8, a9⟩ = false from Bool.eq_false_iff.2 (fun h => s1 ((right_iff _).1 h).2.1.1)]
    exact rre2 w a1 a2 a3 a6 a7 a8 np vp q nc _ vc _ c _ HW (by omega)
  by_cases s2 : a3 ≤ 1099511627776
  rotate_left
  · rw [show right ⟨a1, a2, a3, a4, a5, a6, a7, a8, a9⟩ = false from Bool.eq_false_iff.2 (fun h => s2 ((right_iff _).1 h).2.1.2)]
    exact rre3 w a1 a2 a3 a6 a7 a8 np vp q nc _ vc _ c _ HW s1 (by omega)
  by_cases k1 : a1 = 1
  · subst k1
    by_cases z6 : a6 = 0
    rotate_left
    · rw [show right ⟨1, a2, a3, a4, a5, a6, a7, a8, a9⟩ = false from Bool.eq_false_iff.2 (fun h => by obtain ⟨g1, g2, h⟩ := (right_iff _).1 h; simp only at g1 g2 h; rcases h with h | h | h | h | h <;> simp_all <;> omega)]
      exact rr1x6 w a2 a3 a6 a7 a8 np vp q nc vc c _ _ _ HW s1 s2 z6
    subst z6
    by_cases z7 : a7 = 0
    rotate_left
    · rw [show right ⟨1, a2, a3, a4, a5, 0, a7, a8, a9⟩ = false from Bool.eq_false_iff.2 (fun h => by obtain ⟨g1, g2, h⟩ := (right_iff _).1 h; simp only at g1 g2 h; rcases h with h | h | h | h | h <;> simp_all <;> omega)]
      exact rr1x7 w a2 a3 a7 a8 np vp q nc vc c _ _ _ HW s1 s2 z7
    subst z7
    by_cases z8 : a8 = 0
    rotate_left
    · rw [show right ⟨1, a2, a3, a4, a5, 0, 0, a8, a9⟩ = false from Bool.eq_false_iff.2 (fun h => by obtain ⟨g1, g2, h⟩ := (right_iff _).1 h; simp only at g1 g2 h; rcases h with h | h | h | h | h <;> simp_all <;> omega)]
      exact rr1x8 w a2 a3 a8 np vp q nc vc c _ _ _ HW s1 s2 z8
    subst z8
    by_cases z9 : a9 = []
    rotate_left
    · rw [show right ⟨1, a2, a3, a4, a5, 0, 0, 0, a9⟩ = false from Bool.eq_false_iff.2 (fun h => by obtain ⟨g1, g2, h⟩ := (right_iff _).1 h; simp only at g1 g2 h; rcases h with h | h | h | h | h <;> simp_all <;> omega)]
      exact rr1x9 w a2 a3 np vp q nc vc c _ _ _ HW s1 s2 (len_pos z9)
    subst z9
    by_cases n1 : a4 = []
    · rw [show right ⟨1, a2, a3, a4, a5, 0, 0, 0, []⟩ = false from Bool.eq_false_iff.2 (fun h => by obtain ⟨g1, g2, h⟩ := (right_iff _).1 h; simp only at g1 g2 h; rcases h with h | h | h | h | h <;> simp_all <;> omega)]
      subst n1
      exact rr1a w a2 a3 np vp q nc vc c _ HW s1 s2
    by_cases n2 : 64 < a4.length
    · rw [show right ⟨1, a2, a3, a4, a5, 0, 0, 0, []⟩ = false from Bool.eq_false_iff.2 (fun h => by obtain ⟨g1, g2, h⟩ := (right_iff _).1 h; simp only at g1 g2 h; rcases h with h | h | h | h | h <;> simp_all <;> omega)]
      exact rr1b w a2 a3 np vp q nc vc c _ _ HW s1 s2 n2
    rw [show right ⟨1, a2, a3, a4, a5, 0, 0, 0, []⟩ = decide ((a5.length : Int) ≤ 512) from by
      rw [Bool.eq_iff_iff, right_iff, decide_eq_true_eq]
      have := len_pos n1
      simp [hW, s1, s2]
      omega]
    exact rr1c w a2 a3 np vp q nc vc c _ _ HW s1 s2 (len_pos n1) (by omega)
  by_cases k2 : a1 = 2
  · subst k2
    by_cases z5 : a5 = []
    rotate_left
    · rw [show right ⟨2, a2, a3, a4, a5, a6, a7, a8, a9⟩ = false from Bool.eq_false_iff.2 (fun h => by obtain ⟨g1, g2, h⟩ := (right_iff _).1 h; simp only at g1 g2 h; rcases h with h | h | h | h | h <;> simp_all <;> omega)]
      exact rr2x5 w a2 a3 a6 a7 a8 np vp q nc vc c _ _ _ HW s1 s2 (len_pos z5)
    subst z5
    by_cases z6 : a6 = 0
    rotate_left
    · rw [show right ⟨2, a2, a3, a4, [], a6, a7, a8, a9⟩ = false from Bool.eq_false_iff.2 (fun h => by obtain ⟨g1, g2, h⟩ := (right_iff _).1 h; simp only at g1 g2 h; rcases h with h | h | h | h | h <;> simp_all <;> omega)]
      exact rr2x6 w a2 a3 a6 a7 a8 np vp q nc vc c _ _ HW s1 s2 z6
    subst z6
    by_cases z7 : a7 = 0
    rotate_left
    · rw [show right ⟨2, a2, a3, a4, [], 0, a7, a8, a9⟩ = false from Bool.eq_false_iff.2 (fun h => by obtain ⟨g1, g2, h⟩ := (right_iff _).1 h; simp only at g1 g2 h; rcases h with h | h | h | h | h <;> simp_all <;> omega)]
      exact rr2x7 w a2 a3 a7 a8 np vp q nc vc c _ _ HW s1 s2 z7
    subst z7
    by_cases z8 : a8 = 0
    rotate_left
    · rw [show right ⟨2, a2, a3, a4, [], 0, 0, a8, a9⟩ = false from Bool.eq_false_iff.2 (fun h => by obtain ⟨g1, g2, h⟩ := (right_iff _).1 h; simp only at g1 g2 h; rcases h with h | h | h | h | h <;> simp_all <;> omega)]
      exact rr2x8 w a2 a3 a8 np vp q nc vc c _ _ HW s1 s2 z8
    subst z8
    by_cases z9 : a9 = []
    rotate_left
    · rw [show right ⟨2, a2, a3, a4, [], 0, 0, 0, a9⟩ = false from Bool.eq_false_iff.2 (fun h => by obtain ⟨g1, g2, h⟩ := (right_iff _).1 h; simp only at g1 g2 h; rcases h with h | h | h | h | h <;> simp_all <;> omega)]
      exact rr2x9 w a2 a3 np vp q nc vc c _ _ HW s1 s2 (len_pos z9)
    subst z9
    by_cases n1 : a4 = []
    · rw [show right ⟨2, a2, a3, a4, [], 0, 0, 0, []⟩ = false from Bool.eq_false_iff.2 (fun h => by obtain ⟨g1, g2, h⟩ := (right_iff _).1 h; simp only at g1 g2 h; rcases h with h | h | h | h | h <;> simp_all <;> omega)]
      subst n1
      exact rr2a w a2 a3 np vp q nc vc c  HW s1 s2
    by_cases n2 : 64 < a4.length
    · rw [show right ⟨2, a2, a3, a4, [], 0, 0, 0, []⟩ = false from Bool.eq_false_iff.2 (fun h => by obtain ⟨g1, g2, h⟩ := (right_iff _).1 h; simp only at g1 g2 h; rcases h with h | h | h | h | h <;> simp_all <;> omega)]
      exact rr2b w a2 a3 np vp q nc vc c _ HW s1 s2 n2
    rw [show right ⟨2, a2, a3, a4, [], 0, 0, 0, []⟩ = true from by
      rw [right_iff]
      have := len_pos n1
      simp [hW, s1, s2]
      omega]
    exact rr2c w a2 a3 np vp q nc vc c _ HW s1 s2 (len_pos n1) (by omega)
  by_cases k3 : a1 = 3
  · subst k3
    by_cases z4 : a4 = []
    rotate_left
    · rw [show right ⟨3, a2, a3, a4, a5, a6, a7, a8, a9⟩ = false from Bool.eq_false_iff.2 (fun h => by obtain ⟨g1, g2, h⟩ := (right_iff _).1 h; simp only at g1 g2 h; rcases h with h | h | h | h | h <;> simp_all <;> omega)]
      exact rr3x4 w a2 a3 a6 a7 a8 np vp q nc vc c _ _ _ HW s1 s2 (len_pos z4)
    subst z4
    by_cases z5 : a5 = []
    rotate_left
    · rw [show right ⟨3, a2, a3, [], a5, a6, a7, a8, a9⟩ = false from Bool.eq_false_iff.2 (fun h => by obtain ⟨g1, g2, h⟩ := (right_iff _).1 h; simp only at g1 g2 h; rcases h with h | h | h | h | h <;> simp_all <;> omega)]
      exact rr3x5 w a2 a3 a6 a7 a8 np vp q nc vc c _ _ HW s1 s2 (len_pos z5)
    subst z5
    by_cases z8 : a8 = 0
    rotate_left
    · rw [show right ⟨3, a2, a3, [], [], a6, a7, a8, a9⟩ = false from Bool.eq_false_iff.2 (fun h => by obtain ⟨g1, g2, h⟩ := (right_iff _).1 h; simp only at g1 g2 h; rcases h with h | h | h | h | h <;> simp_all <;> omega)]
      exact rr3x8 w a2 a3 a6 a7 a8 np vp q nc vc c _ HW s1 s2 z8
    subst z8
    by_cases z9 : a9 = []
    rotate_left
    · rw [show right ⟨3, a2, a3, [], [], a6, a7, 0, a9⟩ = false from Bool.eq_false_iff.2 (fun h => by obtain ⟨g1, g2, h⟩ := (right_iff _).1 h; simp only at g1 g2 h; rcases h with h | h | h | h | h <;> simp_all <;> omega)]
      exact rr3x9 w a2 a3 a6 a7 np vp q nc vc c _ HW s1 s2 (len_pos z9)
    subst z9
    by_cases v : 1 ≤ a6 ∧ a6 ≤ 16
    rotate_left
    · rw [show right ⟨3, a2, a3, [], [], a6, a7, 0, []⟩ = false from Bool.eq_false_iff.2 (fun h => by obtain ⟨g1, g2, h⟩ := (right_iff _).1 h; simp only at g1 g2 h; rcases h with h | h | h | h | h <;> simp_all <;> omega)]
      exact rr3a w a2 a3 a6 a7 np vp q nc vc c  HW s1 s2 (decide_eq_false v)
    by_cases v7 : 1 ≤ a7
    rotate_left
    · rw [show right ⟨3, a2, a3, [], [], a6, a7, 0, []⟩ = false from Bool.eq_false_iff.2 (fun h => by obtain ⟨g1, g2, h⟩ := (right_iff _).1 h; simp only at g1 g2 h; rcases h with h | h | h | h | h <;> simp_all <;> omega)]
      exact rr3b w a2 a3 a6 a7 np vp q nc vc c  HW s1 s2 (decide_eq_true v) (by omega)
    rw [show right ⟨3, a2, a3, [], [], a6, a7, 0, []⟩ = decide (a7 ≤ 7) from by
      rw [Bool.eq_iff_iff, right_iff, decide_eq_true_eq]
      simp [hW, s1, s2, v, v7]]
    exact rr3c w a2 a3 a6 a7 np vp q nc vc c  HW s1 s2 (decide_eq_true v) v7
  by_cases k4 : a1 = 4
  · subst k4
    by_cases z4 : a4 = []
    rotate_left
    · rw [show right ⟨4, a2, a3, a4, a5, a6, a7, a8, a9⟩ = false from Bool.eq_false_iff.2 (fun h => by obtain ⟨g1, g2, h⟩ := (right_iff _).1 h; simp only at g1 g2 h; rcases h with h | h | h | h | h <;> simp_all <;> omega)]
      exact rr4x4 w a2 a3 a6 a7 a8 np vp q nc vc c _ _ _ HW s1 s2 (len_pos z4)
    subst z4
    by_cases z5 : a5 = []
    rotate_left
    · rw [show right ⟨4, a2, a3, [], a5, a6, a7, a8, a9⟩ = false from Bool.eq_false_iff.2 (fun h => by obtain ⟨g1, g2, h⟩ := (right_iff _).1 h; simp only at g1 g2 h; rcases h with h | h | h | h | h <;> simp_all <;> omega)]
      exact rr4x5 w a2 a3 a6 a7 a8 np vp q nc vc c _ _ HW s1 s2 (len_pos z5)
    subst z5
    by_cases z7 : a7 = 0
    rotate_left
    · rw [show right ⟨4, a2, a3, [], [], a6, a7, a8, a9⟩ = false from Bool.eq_false_iff.2 (fun h => by obtain ⟨g1, g2, h⟩ := (right_iff _).1 h; simp only at g1 g2 h; rcases h with h | h | h | h | h <;> simp_all <;> omega)]
      exact rr4x7 w a2 a3 a6 a7 a8 np vp q nc vc c _ HW s1 s2 z7
    subst z7
    by_cases z8 : a8 = 0
    rotate_left
    · rw [show right ⟨4, a2, a3, [], [], a6, 0, a8, a9⟩ = false from Bool.eq_false_iff.2 (fun h => by obtain ⟨g1, g2, h⟩ := (right_iff _).1 h; simp only at g1 g2 h; rcases h with h | h | h | h | h <;> simp_all <;> omega)]
      exact rr4x8 w a2 a3 a6 a8 np vp q nc vc c _ HW s1 s2 z8
    subst z8
    by_cases z9 : a9 = []
    rotate_left
    · rw [show right ⟨4, a2, a3, [], [], a6, 0, 0, a9⟩ = false from Bool.eq_false_iff.2 (fun h => by obtain ⟨g1, g2, h⟩ := (right_iff _).1 h; simp only at g1 g2 h; rcases h with h | h | h | h | h <;> simp_all <;> omega)]
      exact rr4x9 w a2 a3 a6 np vp q nc vc c _ HW s1 s2 (len_pos z9)
    subst z9
    rw [show right ⟨4, a2, a3, [], [], a6, 0, 0, []⟩ = decide (1 ≤ a6 ∧ a6 ≤ 16) from by
      rw [Bool.eq_iff_iff, right_iff, decide_eq_true_eq]
      simp [hW, s1, s2]]
    exact rr4a w a2 a3 a6 np vp q nc vc c  HW s1 s2
  by_cases k5 : a1 = 5
  · subst k5
    by_cases z4 : a4 = []
    rotate_left
    · rw [show right ⟨5, a2, a3, a4, a5, a6, a7, a8, a9⟩ = false from Bool.eq_false_iff.2 (fun h => by obtain ⟨g1, g2, h⟩ := (right_iff _).1 h; simp only at g1 g2 h; rcases h with h | h | h | h | h <;> simp_all <;> omega)]
      exact rr5x4 w a2 a3 a6 a7 a8 np vp q nc vc c _ _ _ HW s1 s2 (len_pos z4)
    subst z4
    by_cases z5 : a5 = []
    rotate_left
    · rw [show right ⟨5, a2, a3, [], a5, a6, a7, a8, a9⟩ = false from Bool.eq_false_iff.2 (fun h => by obtain ⟨g1, g2, h⟩ := (right_iff _).1 h; simp only at g1 g2 h; rcases h with h | h | h | h | h <;> simp_all <;> omega)]
      exact rr5x5 w a2 a3 a6 a7 a8 np vp q nc vc c _ _ HW s1 s2 (len_pos z5)
    subst z5
    by_cases z6 : a6 = 0
    rotate_left
    · rw [show right ⟨5, a2, a3, [], [], a6, a7, a8, a9⟩ = false from Bool.eq_false_iff.2 (fun h => by obtain ⟨g1, g2, h⟩ := (right_iff _).1 h; simp only at g1 g2 h; rcases h with h | h | h | h | h <;> simp_all <;> omega)]
      exact rr5x6 w a2 a3 a6 a7 a8 np vp q nc vc c _ HW s1 s2 z6
    subst z6
    by_cases z7 : a7 = 0
    rotate_left
    · rw [show right ⟨5, a2, a3, [], [], 0, a7, a8, a9⟩ = false from Bool.eq_false_iff.2 (fun h => by obtain ⟨g1, g2, h⟩ := (right_iff _).1 h; simp only at g1 g2 h; rcases h with h | h | h | h | h <;> simp_all <;> omega)]
      exact rr5x7 w a2 a3 a7 a8 np vp q nc vc c _ HW s1 s2 z7
    subst z7
    by_cases v : 1 ≤ a8
    rotate_left
    · rw [show right ⟨5, a2, a3, [], [], 0, 0, a8, a9⟩ = false from Bool.eq_false_iff.2 (fun h => by obtain ⟨g1, g2, h⟩ := (right_iff _).1 h; simp only at g1 g2 h; rcases h with h | h | h | h | h <;> simp_all <;> omega)]
      exact rr5a w a2 a3 a8 np vp q nc vc c _ HW s1 s2 (by omega)
    by_cases v2 : a8 ≤ 16
    rotate_left
    · rw [show right ⟨5, a2, a3, [], [], 0, 0, a8, a9⟩ = false from Bool.eq_false_iff.2 (fun h => by obtain ⟨g1, g2, h⟩ := (right_iff _).1 h; simp only at g1 g2 h; rcases h with h | h | h | h | h <;> simp_all <;> omega)]
      exact rr5b w a2 a3 a8 np vp q nc vc c _ HW s1 s2 v (by omega)
    rw [show right ⟨5, a2, a3, [], [], 0, 0, a8, a9⟩ = wok 0 a9 from by
      rw [Bool.eq_iff_iff, right_iff]
      simp [hW, s1, s2, v, v2]]
    exact rr5c w a2 a3 a8 np vp q nc vc c _ HW s1 s2 v v2 _ hwr
  by_cases z4 : a4 = []
  rotate_left
  · rw [show right ⟨a1, a2, a3, a4, a5, a6, a7, a8, a9⟩ = false from Bool.eq_false_iff.2 (fun h => by obtain ⟨g1, g2, h⟩ := (right_iff _).1 h; simp only at g1 g2 h; rcases h with h | h | h | h | h <;> simp_all <;> omega)]
    exact rr0x4 w a1 a2 a3 a6 a7 a8 np vp q nc vc c _ _ _ HW s1 s2 k1 k2 k3 k4 k5 (len_pos z4)
  subst z4
  by_cases z5 : a5 = []
  rotate_left
  · rw [show right ⟨a1, a2, a3, [], a5, a6, a7, a8, a9⟩ = false from Bool.eq_false_iff.2 (fun h => by obtain ⟨g1, g2, h⟩ := (right_iff _).1 h; simp only at g1 g2 h; rcases h with h | h | h | h | h <;> simp_all <;> omega)]
    exact rr0x5 w a1 a2 a3 a6 a7 a8 np vp q nc vc c _ _ HW s1 s2 k1 k2 k3 k4 k5 (len_pos z5)
  subst z5
  by_cases z6 : a6 = 0
  rotate_left
  · rw [show right ⟨a1, a2, a3, [], [], a6, a7, a8, a9⟩ = false from Bool.eq_false_iff.2 (fun h => by obtain ⟨g1, g2, h⟩ := (right_iff _).1 h; simp only at g1 g2 h; rcases h with h | h | h | h | h <;> simp_all <;> omega)]
    exact rr0x6 w a1 a2 a3 a6 a7 a8 np vp q nc vc c _ HW s1 s2 k1 k2 k3 k4 k5 z6
  subst z6
  by_cases z7 : a7 = 0
  rotate_left
  · rw [show right ⟨a1, a2, a3, [], [], 0, a7, a8, a9⟩ = false from Bool.eq_false_iff.2 (fun h => by obtain ⟨g1, g2, h⟩ := (right_iff _).1 h; simp only at g1 g2 h; rcases h with h | h | h | h | h <;> simp_all <;> omega)]
    exact rr0x7 w a1 a2 a3 a7 a8 np vp q nc vc c _ HW s1 s2 k1 k2 k3 k4 k5 z7
  subst z7
  by_cases z8 : a8 = 0
  rotate_left
  · rw [show right ⟨a1, a2, a3, [], [], 0, 0, a8, a9⟩ = false from Bool.eq_false_iff.2 (fun h => by obtain ⟨g1, g2, h⟩ := (right_iff _).1 h; simp only at g1 g2 h; rcases h with h | h | h | h | h <;> simp_all <;> omega)]
    exact rr0x8 w a1 a2 a3 a8 np vp q nc vc c _ HW s1 s2 k1 k2 k3 k4 k5 z8
  subst z8
  by_cases z9 : a9 = []
  rotate_left
  · rw [show right ⟨a1, a2, a3, [], [], 0, 0, 0, a9⟩ = false from Bool.eq_false_iff.2 (fun h => by obtain ⟨g1, g2, h⟩ := (right_iff _).1 h; simp only at g1 g2 h; rcases h with h | h | h | h | h <;> simp_all <;> omega)]
    exact rr0x9 w a1 a2 a3 np vp q nc vc c _ HW s1 s2 k1 k2 k3 k4 k5 (len_pos z9)
  subst z9
  rw [show right ⟨a1, a2, a3, [], [], 0, 0, 0, []⟩ = false from Bool.eq_false_iff.2 (fun h => by obtain ⟨g1, g2, h⟩ := (right_iff _).1 h; simp only at g1 g2 h; rcases h with h | h | h | h | h <;> simp_all <;> omega)]
  exact rr0a w a1 a2 a3 np vp q nc vc c  HW s1 s2 k1 k2 k3 k4 k5
end Go.Proofs.Ytigfiopmochliaa.E9
