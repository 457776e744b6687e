/- The contracts of EqualFunc and rightWraps. -/
import Derived.Test.YtigfiopmochliaaMgD
namespace Go.Proofs.Ytigfiopmochliaa.E9
open Go.RowKit C8
theorem bel_alloc {w : World} {B : Nat} (h : B ≤ w.heap.size) (o : Obj) : Below B w (w.alloc o) := (Below.refl _ w).alloc h _
theorem take_ext {α : Type} {a b : List α} {j : Nat} (ha : j < a.length) (hb : j < b.length) (h : a.take j = b.take j) (he : a[j] = b[j]) : a.take (j + 1) = b.take (j + 1) := by
  rw [List.take_succ_eq_append_getElem ha, List.take_succ_eq_append_getElem hb, h, he]
set_option maxHeartbeats 4000000 in
theorem equalFunc_any (wa wb : List (Int × List Nat)) (qa qb : Option Addr) (ca cb : Nat) (w : World) (ha : WrRow w qa wa) (hb : WrRow w qb wb) (la : wa.length ≤ 9223372036854775807) :
    Calls Try.prog 42 #[.slice qa wa.length ca, .slice qb wb.length cb, .func (.func 43) #[] #[]] w fun e w' => e = .returned (.bool (decide (wa = wb))) ∧ Below w.heap.size w w' := by
  have HA : Hid (WrRow w qa wa) := ha
  have HBR : Hid (WrRow w qb wb) := hb
  clear ha hb
  by_cases hn : wa.length = wb.length
  · obtain ⟨n, HN⟩ : ∃ n, Hid (wa.length = n) := ⟨_, rfl⟩
    have HM : Hid (wb.length = n) := hn.symm.trans HN.out
    obtain ⟨res, HR⟩ : ∃ res, Hid (decide (wa = wb) = res) := ⟨_, rfl⟩
    rw [HN.out] at la
    rw [HN.out, HM.out, HR.out]
    clear hn
    have l1 : (n : Int) ≤ 9223372036854775807 := by omega
    go_enter Try.func42, Try.ntmps42
    go_wp2_with fail
    go_loopw [17] (fun i wr => ∃ j : Nat, j ≤ n ∧ i = .int .i64 j ∧ Hid (Below w.heap.size w wr) ∧ Hid (wa.take j = wb.take j)) (fun i _ => n - (intOf i).toNat)
    case atStart => exact ⟨0, by omega, rfl, Below.refl _ _, rfl⟩
    case round =>
      obtain ⟨j, hj, rfl, HB, HE⟩ := hrel
      by_cases hlt : j < n
      · have ja : j < wa.length := by rw [HN.out]; exact hlt
        have jb : j < wb.length := by rw [HM.out]; exact hlt
        obtain ⟨b, o, bp, bc, rfl, k2, k3, k4, k5, k6⟩ := HA.out j ja
        obtain ⟨b', o', bp', bc', rfl, m2, m3, m4, m5, m6⟩ := HBR.out j jb
        have d0 := (HB.out.cell (p := ⟨b, o + j * 2, none⟩) k2).trans k3
        have d1 := (HB.out.cell (p := ⟨b, o + j * 2 + 1, none⟩) k2).trans k4
        have f0 : ∀ ob, (wr.alloc ob).cell? ⟨b', o' + j * 2, none⟩ = _ := fun ob => ((HB.out.trans (bel_alloc HB.out.size ob)).cell (p := ⟨b', o' + j * 2, none⟩) m2).trans m3
        have f1 : ∀ ob, (wr.alloc ob).cell? ⟨b', o' + j * 2 + 1, none⟩ = _ := fun ob => ((HB.out.trans (bel_alloc HB.out.size ob)).cell (p := ⟨b', o' + j * 2 + 1, none⟩) m2).trans m4
        have j1 : (j : Int) < (n : Int) := by omega
        have j0 : (0 : Int) ≤ (j : Int) := by omega
        have HS : ∀ W, Hid (Below wr.heap.size wr W) → Calls Try.prog 43 #[.agg #[.int .i64 wa[j].1, .slice bp wa[j].2.length bc], .agg #[.int .i64 wb[j].1, .slice bp' wb[j].2.length bc']] W fun e w' => e = .returned (.bool (decide (wa[j].1 = wb[j].1 ∧ wa[j].2 = wb[j].2))) ∧ Hid (Below w.heap.size w w') := fun W hW => by
          have hB : Below w.heap.size w W := HB.out.trans (bel_le hW.out HB.out.size)
          refine (sameWrap_any _ _ _ _ _ _ _ _ _ _ W (k5.below hB) (m5.below hB)).mono ?_
          rintro e w' ⟨rfl, h⟩
          exact ⟨rfl, hB.trans (bel_le h hB.size)⟩
        have HW : Hid (∀ o1 o2, Below wr.heap.size wr ((wr.alloc o1).alloc o2)) := fun o1 o2 => (bel_alloc (Nat.le_refl _) o1).trans (bel_alloc (by simp) o2)
        clear k3 k4 k5 k6 m3 m4 m5 m6
        by_cases he : wa[j].1 = wb[j].1 ∧ wa[j].2 = wb[j].2
        · have HE2 : Hid (wa.take (j + 1) = wb.take (j + 1)) := take_ext ja jb HE.out (Prod.ext he.1 he.2)
          rw [decide_eq_true he] at HS
          clear he HE
          generalize wa[j] = x at *
          generalize wb[j] = y at *
          obtain ⟨x1, x2⟩ := x
          obtain ⟨y1, y2⟩ := y
          simp only at d0 d1 f0 f1 HS
          generalize x2.length = xl at *
          generalize y2.length = yl at *
          clear ja jb
          go_wp2_with (first | (go_at_call 43; refine (HS _ (HW.out _ _)).mono ?_; rintro e w1 ⟨rfl, HB1⟩))
          refine ⟨⟨j + 1, by omega, by simp, HB1, HE2⟩, ?_⟩
          simp only [intOf]
          omega
        · have HF : Hid (res = false) := by
            show _ = _
            rw [← HR.out]
            apply decide_eq_false
            rintro rfl
            exact he ⟨rfl, rfl⟩
          rw [decide_eq_false he] at HS
          clear he HE
          generalize wa[j] = x at *
          generalize wb[j] = y at *
          obtain ⟨x1, x2⟩ := x
          obtain ⟨y1, y2⟩ := y
          simp only at d0 d1 f0 f1 HS
          generalize x2.length = xl at *
          generalize y2.length = yl at *
          clear ja jb
          go_wp2_with (first | (go_at_call 43; refine (HS _ (HW.out _ _)).mono ?_; rintro e w1 ⟨rfl, HB1⟩))
          go_ret
          exact ⟨by rw [HF.out]; rfl, HB1.out⟩
      · obtain rfl : j = n := by omega
        have j1 : ¬ (j : Int) < (j : Int) := by omega
        have HT : Hid (res = true) := by
          show _ = _
          rw [← HR.out]
          apply decide_eq_true
          have := HE.out
          rwa [List.take_of_length_le (by rw [HN.out]; omega), List.take_of_length_le (by rw [HM.out]; omega)] at this
        clear HE
        go_wp2_with fail
        go_ret
        exact ⟨by rw [HT.out]; rfl, HB.out⟩
  · have e1 : decide (wa = wb) = false := decide_eq_false (fun h => hn (by rw [h]))
    have hn1 : ¬ (wa.length : Int) = (wb.length : Int) := by omega
    have hn2 : ((wa.length : Int) == (wb.length : Int)) = false := by simpa using hn1
    rw [e1]
    generalize wa.length = n at *
    generalize wb.length = m at *
    clear HA HBR e1
    go_enter Try.func42, Try.ntmps42
    go_wp2_with fail
    go_ret
    exact ⟨rfl, Below.refl _ _⟩
theorem wok_drop {last : Int} {ws : List (Int × List Nat)} {j : Nat} (h : j < ws.length) : wok last (ws.drop j) = (decide (last + 1 ≤ ws[j].1 ∧ ws[j].1 ≤ 16) && decide (ws[j].2.length = 48) && wok ws[j].1 (ws.drop (j + 1))) := by
  rw [List.drop_eq_getElem_cons h, wok]
set_option maxHeartbeats 4000000 in
theorem rightWraps_any (ws : List (Int × List Nat)) (q : Option Addr) (c : Nat) (w : World) (h : WrRow w q ws) (hl : ws.length ≤ 9223372036854775807) :
    Calls Try.prog 40 #[.slice q ws.length c] w fun e w' => e = .returned (.bool (wok 0 ws)) ∧ Below w.heap.size w w' := by
  have HA : Hid (WrRow w q ws) := h
  obtain ⟨n, HN⟩ : ∃ n, Hid (ws.length = n) := ⟨_, rfl⟩
  obtain ⟨res, HR⟩ : ∃ res, Hid (wok 0 ws = res) := ⟨_, rfl⟩
  rw [HN.out] at hl
  rw [HN.out, HR.out]
  clear h
  have l1 : (n : Int) ≤ 9223372036854775807 := by omega
  go_enter Try.func40, Try.ntmps40
  go_wp2_with fail
  go_loopw [3, 8] (fun la i wr => ∃ (j : Nat) (last : Int), j ≤ n ∧ i = .int .i64 j ∧ la = .int .i64 last ∧ 0 ≤ last ∧ last ≤ 16 ∧ Hid (Below w.heap.size w wr) ∧ Hid (wok last (ws.drop j) = res)) (fun _ i _ => n - (intOf i).toNat)
  case atStart => exact ⟨0, 0, by omega, rfl, rfl, by omega, by omega, Below.refl _ _, HR.out⟩
  case round =>
    obtain ⟨j, last, hj, rfl, rfl, h0, h16, HB, HE⟩ := hrel
    by_cases hlt : j < n
    · have ja : j < ws.length := by rw [HN.out]; exact hlt
      obtain ⟨b, o, bp, bc, rfl, k2, k3, k4, k5, k6⟩ := HA.out j ja
      have d0 := (HB.out.cell (p := ⟨b, o + j * 2, none⟩) k2).trans k3
      have d1 := (HB.out.cell (p := ⟨b, o + j * 2 + 1, none⟩) k2).trans k4
      have j1 : (j : Int) < (n : Int) := by omega
      have j0 : (0 : Int) ≤ (j : Int) := by omega
      have HBA : Hid (∀ ob, Below w.heap.size w (wr.alloc ob)) := fun ob => HB.out.trans (bel_alloc HB.out.size ob)
      replace HE : Hid ((decide (last + 1 ≤ ws[j].1 ∧ ws[j].1 ≤ 16) && decide (ws[j].2.length = 48) && wok ws[j].1 (ws.drop (j + 1))) = res) := (wok_drop ja) ▸ HE.out
      clear k3 k4 k5 k6
      obtain ⟨r, HRR⟩ : ∃ r, Hid (ws.drop (j + 1) = r) := ⟨_, rfl⟩
      rw [HRR.out] at HE
      generalize ws[j] = x at *
      obtain ⟨x1, x2⟩ := x
      simp only at d0 d1 HE
      generalize x2.length = xl at *
      clear ja
      by_cases hx : last + 1 ≤ x1 ∧ x1 ≤ 16
      · by_cases hy : xl = 48
        · subst hy
          replace HE : Hid (wok x1 r = res) := by
            have := HE.out
            rw [decide_eq_true hx, decide_eq_true rfl] at this
            exact this
          go_wp2_with (first | (go_at_call 32; refine (within_yes _ _ _ _ hx.1 hx.2).mono ?_; rintro e w1 ⟨rfl, rfl⟩))
          refine ⟨⟨j + 1, x1, by omega, by simp, rfl, by omega, by omega, HBA.out _, by show wok x1 (ws.drop (j + 1)) = res; rw [HRR.out]; exact HE.out⟩, ?_⟩
          simp only [intOf]
          omega
        · have hy1 : ((xl : Int) == 48) = false := by simp; omega
          have HF : Hid (res = false) := by
            have := HE.out
            rw [decide_eq_false hy] at this
            simp at this
            exact this
          go_wp2_with (first | (go_at_call 32; refine (within_yes _ _ _ _ hx.1 hx.2).mono ?_; rintro e w1 ⟨rfl, rfl⟩))
          go_ret
          exact ⟨by rw [HF.out]; rfl, HBA.out _⟩
      · have HF : Hid (res = false) := by
          have := HE.out
          rw [decide_eq_false hx] at this
          simp at this
          exact this
        have hx2 : x1 < last + 1 ∨ 16 < x1 := by omega
        have HX : ∀ W, Calls Try.prog 32 #[.int .i64 x1, .int .i64 (last + 1), .int .i64 16] W fun e w' => e = .returned (.bool false) ∧ w' = W := fun W => within_no _ _ _ W hx2
        clear hx hx2 HE
        go_wp2_with (first | (go_at_call 32; refine (HX _).mono ?_; rintro e w1 ⟨rfl, rfl⟩))
        go_ret
        exact ⟨by rw [HF.out]; rfl, HBA.out _⟩
    · obtain rfl : j = n := by omega
      have j1 : ¬ (j : Int) < (j : Int) := by omega
      have HT : Hid (res = true) := by
        have := HE.out
        rw [List.drop_eq_nil_of_le (by rw [HN.out]; omega)] at this
        exact this.symm
      clear HE
      go_wp2_with fail
      go_ret
      exact ⟨by rw [HT.out]; rfl, HB.out⟩
end Go.Proofs.Ytigfiopmochliaa.E9
