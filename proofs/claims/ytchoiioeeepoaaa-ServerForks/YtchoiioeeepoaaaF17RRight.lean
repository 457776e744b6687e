/- The document's Right. -/
import Derived.Test.YtchoiioeeepoaaaF17Leaf
namespace Go.Proofs.Ytchoiioeeepoaaa.F17
open Go.RowKit C8 E9
set_option maxHeartbeats 8000000 in
theorem rRight_any (f : Fr) (v : Value) (w : World) (h : FrIs w v f) : Calls Try.prog 12 #[v] w fun e w' => e = .returned (.bool (right f)) ∧ Below w.heap.size w w' := by
  obtain ⟨q, c, sp, sc, rfl, h⟩ := h
  have HA : Hid (LkRow w q f.links) := h.links
  have ll := h.ll
  have lt := h.lt
  clear h
  obtain ⟨res, HR⟩ : ∃ res, Hid (right f = res) := ⟨_, rfl⟩
  rw [HR.out]
  obtain ⟨k, cl, i, ls, t⟩ := f
  simp only [FrV] at HA ll lt ⊢
  have HU : Hid ((decide (1 ≤ cl ∧ cl ≤ 1099511627776) && decide (0 ≤ i ∧ i ≤ 64) && (decide (ls.length ≤ 8) && lok ls) && byKind ⟨k, cl, i, ls, t⟩) = res) := HR.out
  have HK : Hid (byKind ⟨k, cl, i, ls, t⟩ = (if k = 1 then decide (i = 0) && decide (0 < ls.length) && decide (t.length = 0) else if k = 2 then decide (ls.length = 0) && decide (t.length = 0) else if k = 3 then decide (t.length = 0) else if k = 4 then decide (ls.length = 0) && decide (t.length = 32) else false)) := rfl
  rw [HK.out] at HU
  clear HR HK
  obtain ⟨n, HN⟩ : ∃ n, Hid (ls.length = n) := ⟨_, rfl⟩
  rw [HN.out] at HU ll ⊢
  generalize t.length = m at *
  have l1 : (n : Int) ≤ 9223372036854775807 := by omega
  have l2 : (m : Int) ≤ 9223372036854775807 := by omega
  have HB0 : Hid (Below w.heap.size w (w.alloc (.cells #[.int .i64 k, .int .i64 cl, .int .i64 i, .slice q n c, .slice sp m sc] 37))) := bel_alloc (Nat.le_refl _) _
  have HX : Hid ((w.alloc (.cells #[.int .i64 k, .int .i64 cl, .int .i64 i, .slice q n c, .slice sp m sc] 37)).heap[w.heap.size]? = some (.cells #[.int .i64 k, .int .i64 cl, .int .i64 i, .slice q n c, .slice sp m sc] 37 (0, 0))) := heap_alloc_new w _
  by_cases c1 : 1 ≤ cl
  rotate_left
  · have z : cl < 1 := by omega
    have HF : Hid (false = res) := by
      have := HU.out
      rw [decide_eq_false (fun h : 1 ≤ cl ∧ cl ≤ 1099511627776 => c1 h.1)] at this
      show _ = _
      simp at this
      exact this.symm
    clear HU
    go_enter Try.func12, Try.ntmps12
    go_wp2_with fail
    go_ret
    exact ⟨by rw [← HF.out]; rfl, HB0.out⟩
  by_cases c2 : cl ≤ 1099511627776
  rotate_left
  · have z : 1099511627776 < cl := by omega
    have HF : Hid (false = res) := by
      have := HU.out
      rw [decide_eq_false (fun h : 1 ≤ cl ∧ cl ≤ 1099511627776 => c2 h.2)] at this
      show _ = _
      simp at this
      exact this.symm
    clear HU
    go_enter Try.func12, Try.ntmps12
    go_wp2_with fail
    go_ret
    exact ⟨by rw [← HF.out]; rfl, HB0.out⟩
  by_cases c3 : 0 ≤ i
  rotate_left
  · have z : i < 0 := by omega
    have HF : Hid (false = res) := by
      have := HU.out
      rw [decide_eq_false (fun h : 0 ≤ i ∧ i ≤ 64 => c3 h.1)] at this
      show _ = _
      simp at this
      exact this.symm
    clear HU
    go_enter Try.func12, Try.ntmps12
    go_wp2_with fail
    go_ret
    exact ⟨by rw [← HF.out]; rfl, HB0.out⟩
  by_cases c4 : i ≤ 64
  rotate_left
  · have z : 64 < i := by omega
    have HF : Hid (false = res) := by
      have := HU.out
      rw [decide_eq_false (fun h : 0 ≤ i ∧ i ≤ 64 => c4 h.2)] at this
      show _ = _
      simp at this
      exact this.symm
    clear HU
    go_enter Try.func12, Try.ntmps12
    go_wp2_with fail
    go_ret
    exact ⟨by rw [← HF.out]; rfl, HB0.out⟩
  by_cases c5 : n ≤ 8
  rotate_left
  · have z : (8 : Int) < (n : Int) := by omega
    have HF : Hid (false = res) := by
      have := HU.out
      rw [decide_eq_false c5] at this
      show _ = _
      simp at this
      exact this.symm
    clear HU
    go_enter Try.func12, Try.ntmps12
    go_wp2_with fail
    go_ret
    exact ⟨by rw [← HF.out]; rfl, HB0.out⟩
  have z5 : ¬ (8 : Int) < (n : Int) := by omega
  replace HU : Hid ((lok ls && (if k = 1 then decide (i = 0) && decide (0 < n) && decide (m = 0) else if k = 2 then decide (n = 0) && decide (m = 0) else if k = 3 then decide (m = 0) else if k = 4 then decide (n = 0) && decide (m = 32) else false)) = res) := by
    have := HU.out
    rw [decide_eq_true (p := 1 ≤ cl ∧ cl ≤ 1099511627776) ⟨c1, c2⟩, decide_eq_true (p := 0 ≤ i ∧ i ≤ 64) ⟨c3, c4⟩, decide_eq_true c5] at this
    exact this
  go_enter Try.func12, Try.ntmps12
  go_wp2_with fail
  generalize w.alloc (.cells #[.int .i64 k, .int .i64 cl, .int .i64 i, .slice q n c, .slice sp m sc] 37) = W at *
  go_loopw [3] (fun iv wr => ∃ j : Nat, j ≤ n ∧ iv = .int .i64 j ∧ W = wr ∧ Hid (lok (ls.drop j) = lok ls)) (fun iv _ => n - (intOf iv).toNat)
  case atStart => exact ⟨0, by omega, rfl, rfl, rfl⟩
  case round =>
    obtain ⟨j, hj, rfl, rfl, HE⟩ := hrel
    have d3 : W.cell? ⟨w.heap.size, 3, none⟩ = some (.slice q n c) := by rw [cell_of_row _ _ _ _ _ _ HX.out]; rfl
    by_cases hlt : j < n
    · have ja : j < ls.length := by rw [HN.out]; exact hlt
      obtain ⟨b, o, bp, bc, rfl, k2, k3, k4, k5⟩ := HA.out j ja
      have d0 := (HB0.out.cell (p := ⟨b, o + j, none⟩) k2).trans k3
      have j1 : (j : Int) < (n : Int) := by omega
      have j0 : (0 : Int) ≤ (j : Int) := by omega
      have HL : Hid (lok ls = (decide (1 ≤ ls[j].length ∧ ls[j].length ≤ 4096) && lok (ls.drop (j + 1)))) := HE.out.symm.trans (lok_drop ja)
      clear k3 k4 HE
      generalize ls[j].length = xl at *
      clear ja
      by_cases x1 : 1 ≤ xl
      rotate_left
      · have z1 : (xl : Int) < 1 := by omega
        have HF : Hid (false = res) := by show _ = _; rw [← HU.out, HL.out, decide_eq_false (fun h => x1 h.1)]; rfl
        clear HU HL
        go_wp2_with fail
        go_ret
        exact ⟨by rw [← HF.out]; rfl, HB0.out⟩
      by_cases x2 : xl ≤ 4096
      rotate_left
      · have z1 : ¬ (xl : Int) < 1 := by omega
        have z2 : (4096 : Int) < (xl : Int) := by omega
        have HF : Hid (false = res) := by show _ = _; rw [← HU.out, HL.out, decide_eq_false (fun h => x2 h.2)]; rfl
        clear HU HL
        go_wp2_with fail
        go_ret
        exact ⟨by rw [← HF.out]; rfl, HB0.out⟩
      have z1 : ¬ (xl : Int) < 1 := by omega
      have z2 : ¬ (4096 : Int) < (xl : Int) := by omega
      have HE2 : Hid (lok (ls.drop (j + 1)) = lok ls) := by show _ = _; rw [HL.out, decide_eq_true (p := 1 ≤ xl ∧ xl ≤ 4096) ⟨x1, x2⟩]; rfl
      clear HL HU
      go_wp2_with fail
      refine ⟨⟨j + 1, by omega, by simp, trivial, HE2⟩, ?_⟩
      simp only [intOf]
      omega
    · obtain rfl : j = n := by omega
      have j1 : ¬ (j : Int) < (j : Int) := by omega
      have d0 : W.cell? ⟨w.heap.size, 0, none⟩ = some (.int .i64 k) := by rw [cell_of_row _ _ _ _ _ _ HX.out]; rfl
      have d2 : W.cell? ⟨w.heap.size, 2, none⟩ = some (.int .i64 i) := by rw [cell_of_row _ _ _ _ _ _ HX.out]; rfl
      have d4 : W.cell? ⟨w.heap.size, 4, none⟩ = some (.slice sp m sc) := by rw [cell_of_row _ _ _ _ _ _ HX.out]; rfl
      have HT : Hid (lok ls = true) := by
        have := HE.out
        rw [List.drop_eq_nil_of_le (by rw [HN.out]; omega)] at this
        exact this.symm
      rw [HT.out] at HU
      clear HE HT HA HN
      by_cases k1 : k = 1
      · subst k1
        replace HU : Hid ((decide (i = 0) && decide (0 < j) && decide (m = 0)) = res) := HU.out
        by_cases g1 : 0 < j
        rotate_left
        · have z : ¬ (0 : Int) < (j : Int) := by omega
          have HF : Hid (false = res) := by
            show _ = _
            rw [← HU.out]
            rw [decide_eq_false g1]; simp
          clear HU
          go_wp2_with fail
          go_ret
          exact ⟨by rw [← HF.out]; rfl, HB0.out⟩
        have y1 : (0 : Int) < (j : Int) := by omega
        by_cases g2 : i = 0
        rotate_left
        · have z : (i == 0) = false := by simp [g2]
          have HF : Hid (false = res) := by
            show _ = _
            rw [← HU.out]
            rw [decide_eq_false g2]; rfl
          clear HU
          go_wp2_with fail
          go_ret
          exact ⟨by rw [← HF.out]; rfl, HB0.out⟩
        subst g2
        by_cases g3 : m = 0
        rotate_left
        · have z : ((m : Int) == 0) = false := by simp; omega
          have HF : Hid (false = res) := by
            show _ = _
            rw [← HU.out]
            rw [decide_eq_false g3]; simp
          clear HU
          go_wp2_with fail
          go_ret
          exact ⟨by rw [← HF.out]; rfl, HB0.out⟩
        subst g3
        have HF : Hid (true = res) := by
          show _ = _
          rw [← HU.out]
          rw [decide_eq_true g1]; rfl
        clear HU
        go_wp2_with fail
        go_ret
        exact ⟨by rw [← HF.out]; rfl, HB0.out⟩
      by_cases k2 : k = 2
      · subst k2
        replace HU : Hid ((decide (j = 0) && decide (m = 0)) = res) := HU.out
        by_cases g1 : j = 0
        rotate_left
        · have z : ((j : Int) == 0) = false := by simp; omega
          have HF : Hid (false = res) := by
            show _ = _
            rw [← HU.out]
            rw [decide_eq_false g1]; rfl
          clear HU
          go_wp2_with fail
          go_ret
          exact ⟨by rw [← HF.out]; rfl, HB0.out⟩
        subst g1
        by_cases g3 : m = 0
        rotate_left
        · have z : ((m : Int) == 0) = false := by simp; omega
          have HF : Hid (false = res) := by
            show _ = _
            rw [← HU.out]
            rw [decide_eq_false g3]; rfl
          clear HU
          go_wp2_with fail
          go_ret
          exact ⟨by rw [← HF.out]; rfl, HB0.out⟩
        subst g3
        have HF : Hid (true = res) := by
          show _ = _
          rw [← HU.out]
          rfl
        clear HU
        go_wp2_with fail
        go_ret
        exact ⟨by rw [← HF.out]; rfl, HB0.out⟩
      by_cases k3 : k = 3
      · subst k3
        replace HU : Hid (decide (m = 0) = res) := HU.out
        by_cases g3 : m = 0
        rotate_left
        · have z : ((m : Int) == 0) = false := by simp; omega
          have HF : Hid (false = res) := by
            show _ = _
            rw [← HU.out]
            rw [decide_eq_false g3]
          clear HU
          go_wp2_with fail
          go_ret
          exact ⟨by rw [← HF.out]; rfl, HB0.out⟩
        subst g3
        have HF : Hid (true = res) := by
          show _ = _
          rw [← HU.out]
          rfl
        clear HU
        go_wp2_with fail
        go_ret
        exact ⟨by rw [← HF.out]; rfl, HB0.out⟩
      by_cases k4 : k = 4
      · subst k4
        replace HU : Hid ((decide (j = 0) && decide (m = 32)) = res) := HU.out
        by_cases g1 : j = 0
        rotate_left
        · have z : ((j : Int) == 0) = false := by simp; omega
          have HF : Hid (false = res) := by
            show _ = _
            rw [← HU.out]
            rw [decide_eq_false g1]; rfl
          clear HU
          go_wp2_with fail
          go_ret
          exact ⟨by rw [← HF.out]; rfl, HB0.out⟩
        subst g1
        by_cases g3 : m = 32
        rotate_left
        · have z : ((m : Int) == 32) = false := by simp; omega
          have HF : Hid (false = res) := by
            show _ = _
            rw [← HU.out]
            rw [decide_eq_false g3]; rfl
          clear HU
          go_wp2_with fail
          go_ret
          exact ⟨by rw [← HF.out]; rfl, HB0.out⟩
        subst g3
        have HF : Hid (true = res) := by
          show _ = _
          rw [← HU.out]
          rfl
        clear HU
        go_wp2_with fail
        go_ret
        exact ⟨by rw [← HF.out]; rfl, HB0.out⟩
      have z1 : (k == 1) = false := by simp [k1]
      have z2 : (k == 2) = false := by simp [k2]
      have z3 : (k == 3) = false := by simp [k3]
      have z4 : (k == 4) = false := by simp [k4]
      have HF : Hid (false = res) := by
        show _ = _
        rw [← HU.out]
        rw [if_neg k1, if_neg k2, if_neg k3, if_neg k4]; rfl
      clear HU
      go_wp2_with fail
      go_ret
      exact ⟨by rw [← HF.out]; rfl, HB0.out⟩
end Go.Proofs.Ytchoiioeeepoaaa.F17
