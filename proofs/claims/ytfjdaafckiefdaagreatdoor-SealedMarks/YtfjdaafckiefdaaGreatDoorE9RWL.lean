/- The contract of the document's wraps. -/
import Derived.Test.YtfjdaafckiefdaaGreatDoorMgX
namespace Go.Proofs.YtfjdaafckiefdaaGreatDoor.E9
open Go.RowKit C8
/-- The member ahead. -/
def prevW (ws : List (Int × List Nat)) (j : Nat) : Int := if j = 0 then 0 else (ws.getD (j - 1) (0, [])).1
theorem prevW_succ {ws : List (Int × List Nat)} {j : Nat} (h : j < ws.length) : prevW ws (j + 1) = ws[j].1 := by simp [prevW, h]
set_option maxHeartbeats 8000000 in
theorem rwraps_any (ws : List (Int × List Nat)) (q : Option Addr) (c : Nat) (w : World) (h : WrRow w q ws) (hl : ws.length ≤ 9223372036854775807) :
    Calls Tryz.prog 80 #[.slice q ws.length c] w fun e w' => e = .returned (.bool (wok 0 ws)) ∧ Below w.heap.size w w' := by
  have HA : Hid (WrRow w q ws) := h
  obtain ⟨n, HN⟩ : ∃ n, Hid (ws.length = n) := ⟨_, rfl⟩
  obtain ⟨res, HR⟩ : ∃ res, Hid (wok 0 ws = res) := ⟨_, rfl⟩
  rw [HN.out] at hl
  rw [HN.out, HR.out]
  clear h
  have l1 : (n : Int) ≤ 9223372036854775807 := by omega
  go_enter Tryz.func80, Tryz.ntmps80
  go_wp2_with fail
  go_loopw [3] (fun i wr => ∃ j : Nat, j ≤ n ∧ i = .int .i64 j ∧ Hid (Below w.heap.size w wr) ∧ Hid (wok (prevW ws j) (ws.drop j) = res ∧ 0 ≤ prevW ws j)) (fun i _ => n - (intOf i).toNat)
  case atStart => exact ⟨0, by omega, rfl, Below.refl _ _, ⟨HR.out, by simp [prevW]⟩⟩
  case round =>
    obtain ⟨j, hj, rfl, HB, HE⟩ := hrel
    by_cases hlt : j < n
    · have ja : j < ws.length := by rw [HN.out]; exact hlt
      have HPV : Hid (0 < j → ∃ ip, ip < n ∧ j = ip + 1 ∧ ∃ b o, q = some ⟨b, o, none⟩ ∧ ∀ w', Only [] wr w' → w'.cell? ⟨b, o + ip * 2 + 0, none⟩ = some (.int .i64 (prevW ws j))) := fun h0 => by
        obtain ⟨ip, rfl⟩ : ∃ ip, j = ip + 1 := ⟨j - 1, by omega⟩
        have hi : ip < ws.length := by rw [HN.out]; omega
        obtain ⟨b, o, bp, bc, hq, k2, k3, _⟩ := HA.out ip hi
        refine ⟨ip, by omega, rfl, b, o, hq, fun w' ho => ?_⟩
        rw [prevW_succ hi]
        exact ((HB.out.trans (ho.below HB.out.size (by simp))).cell (p := ⟨b, o + ip * 2, none⟩) k2).trans k3
      obtain ⟨ba, oa, bp, bc, rfl, k2, k3, k4, k5, k6⟩ := HA.out j ja
      have j1 : (j : Int) < (n : Int) := by omega
      have j0 : (0 : Int) ≤ (j : Int) := by omega
      have hjn := hlt
      have hB : ∀ w', Only [] wr w' → Below w.heap.size w w' := fun w' ho => HB.out.trans (ho.below HB.out.size (by simp))
      have HA0 : Hid (∀ w', Only [] wr w' → w'.cell? ⟨ba, oa + j * 2 + 0, none⟩ = some (.int .i64 ws[j].1)) := fun w' ho => ((hB w' ho).cell (p := ⟨ba, oa + j * 2, none⟩) k2).trans k3
      have HA1 : Hid (∀ w', Only [] wr w' → w'.cell? ⟨ba, oa + j * 2 + 1, none⟩ = some (.slice bp ws[j].2.length bc)) := fun w' ho => ((hB w' ho).cell (p := ⟨ba, oa + j * 2 + 1, none⟩) k2).trans k4
      have HSA : Hid (∀ w', Only [] wr w' → SrcV [] ws[j].2 (.slice bp ws[j].2.length bc) w') := fun w' ho => ⟨k5.below (hB w' ho), fun _ b _ => by simp⟩
      have HFIN : Hid (∀ w', Only [] wr w' → Below w.heap.size w w') := hB
      have HST : Hid ((decide (prevW ws j + 1 ≤ ws[j].1 ∧ ws[j].1 ≤ 16) && decide (ws[j].2.length = 48) && wok ws[j].1 (ws.drop (j + 1))) = res ∧ 0 ≤ prevW ws j) := ⟨(wok_drop ja) ▸ HE.out.1, HE.out.2⟩
      have HPS : Hid (prevW ws (j + 1) = ws[j].1) := prevW_succ ja
      clear k3 k4 k5 k6 hB HE
      generalize ws[j] = x at *
      obtain ⟨x1, x2⟩ := x
      simp only at HA0 HA1 HSA HST HPS
      clear ja
      have HNX0 : Hid (prevW ws j + 1 ≤ x1 → x1 ≤ 16 → x2.length = 48 → wok (prevW ws (j + 1)) (ws.drop (j + 1)) = res ∧ 0 ≤ prevW ws (j + 1)) := fun g1 g2 g3 => by
        have h1 := HST.out.1
        rw [decide_eq_true ⟨g1, g2⟩, decide_eq_true g3] at h1
        rw [HPS.out]
        exact ⟨by simpa using h1, by have := HST.out.2; omega⟩
      have HF0 : Hid (¬ (prevW ws j + 1 ≤ x1 ∧ x1 ≤ 16 ∧ x2.length = 48) → res = false) := fun g => by
        rw [← HST.out.1]
        by_cases g1 : prevW ws j + 1 ≤ x1 ∧ x1 ≤ 16
        · have g3 : ¬ x2.length = 48 := fun e => g ⟨g1.1, g1.2, e⟩
          rw [decide_eq_false g3]
          simp
        · rw [decide_eq_false g1]
          simp
      have HPP : Hid (0 ≤ prevW ws j) := HST.out.2
      by_cases hw : 1 ≤ x1 ∧ x1 ≤ 16
      · have HWH : Hid (decide (1 ≤ x1 ∧ x1 ≤ 16) = true) := decide_eq_true hw
        by_cases hln : x2.length = 48
        · have HLN : Hid (((x2.length : Int) == 48) = true) := by show _ = _; simp; omega
          by_cases hp : 0 < j
          · have HPO : Hid (decide ((0 : Int) < (j : Int)) = true) := by show _ = _; simp; omega
            obtain ⟨ip, hip, hje, b', o', eq, HP0'⟩ := HPV.out hp
            cases eq
            have hin := hip
            have HSU : Hid (IntKind.i64.wrap ((j : Int) - 1) = (ip : Int)) := by
              show _ = _
              rw [show (j : Int) - 1 = (ip : Int) from by omega]
              exact i64_id _ (by omega)
            obtain ⟨pv, HPVE⟩ : ∃ pv, Hid (prevW ws j = pv) := ⟨_, rfl⟩
            have HP0 : Hid (∀ w', Only [] wr w' → w'.cell? ⟨ba, oa + ip * 2 + 0, none⟩ = some (.int .i64 pv)) := by rw [← HPVE.out]; exact HP0'
            clear HP0' HPV
            by_cases hle : x1 ≤ pv
            · have HLE : Hid (decide (x1 ≤ pv) = true) := decide_eq_true hle
              have HF2 : Hid (res = false) := HF0.out (fun g => by have := HPVE.out; omega)
              clear HF0 HNX0 HST HPS HPP hw hle
              go_wp2_with fail
              have RB : ∀ k w w', Below w.heap.size w w' → (fun (_ : Nat) (_ : World) => True) k w → (fun (_ : Nat) (_ : World) => True) k w' := fun _ _ _ _ _ => trivial
              refine wp_region_st (rwD ba oa n c j ip x1 pv x2) (fun u u' => Only [] u u') (SeqS [] (fun (_ : Nat) (_ : World) => True)) (by kernel_rfl) (only_drew _ _) (only_trans _) (rwD_kept ba oa n c j ip x1 pv x2) (by kernel_rfl) (SeqS.start (trivial)) ?_ ?_
              · intro i o a' w' f hi inv hS hfi hfw hpre
                have ho : Only [] wr w' := inv.grow
                have hlt : i < 34 := (Array.getElem?_eq_some_iff.1 hi).1
                obtain rfl|rfl|rfl|rfl|rfl|rfl|rfl|rfl|rfl|rfl|rfl|rfl|rfl|rfl|rfl|rfl|rfl|rfl|rfl|rfl|rfl|rfl|rfl|rfl|rfl|rfl|rfl|rfl|rfl|rfl|rfl|rfl|rfl|rfl : i = 0 ∨ i = 1 ∨ i = 2 ∨ i = 3 ∨ i = 4 ∨ i = 5 ∨ i = 6 ∨ i = 7 ∨ i = 8 ∨ i = 9 ∨ i = 10 ∨ i = 11 ∨ i = 12 ∨ i = 13 ∨ i = 14 ∨ i = 15 ∨ i = 16 ∨ i = 17 ∨ i = 18 ∨ i = 19 ∨ i = 20 ∨ i = 21 ∨ i = 22 ∨ i = 23 ∨ i = 24 ∨ i = 25 ∨ i = 26 ∨ i = 27 ∨ i = 28 ∨ i = 29 ∨ i = 30 ∨ i = 31 ∨ i = 32 ∨ i = 33 := by omega
                · obtain rfl := Option.some.inj hi
                  exact sq_value _ rfl rfl rfl (Below.refl _ _) (by decide) hS RB (by show a'.tmps.getD 0 undef = _; rw [inv.old 0 (notDst_spec (by kernel_rfl))]; rfl)
                · obtain rfl := Option.some.inj hi
                  exact sq_value _ rfl rfl rfl (Below.refl _ _) (by decide) hS RB (by show a'.tmps.getD 3 undef = _; rw [inv.old 3 (notDst_spec (by kernel_rfl))]; rfl)
                · obtain rfl := Option.some.inj hi
                  have h0 : a'.tmps.getD 10 undef = _ := pre_of hpre 0 10 (by kernel_rfl) (by kernel_rfl)
                  have h1 : a'.tmps.getD 11 undef = _ := pre_of hpre 1 11 (by kernel_rfl) (by kernel_rfl)
                  exact sq_value _ rfl rfl (idx28_run 10 11 ba oa n c j rfl h0 h1 hjn) (Below.refl _ _) (by decide) hS RB rfl
                · obtain rfl := Option.some.inj hi
                  have h0 : a'.tmps.getD 12 undef = _ := pre_of hpre 2 12 (by kernel_rfl) (by kernel_rfl)
                  exact sq_value _ rfl rfl (fo_run 107 0 12 ba (oa + j * 2) rfl h0 (fo47_0 ba (oa + j * 2))) (Below.refl _ _) (by decide) hS RB rfl
                · obtain rfl := Option.some.inj hi
                  have h0 : a'.tmps.getD 13 undef = _ := pre_of hpre 3 13 (by kernel_rfl) (by kernel_rfl)
                  exact sq_value _ rfl rfl (load_run 3 13 ba (oa + j * 2 + 0) _ rfl h0 (ld3 (HA0.out w' ho))) (Below.refl _ _) (by decide) hS RB rfl
                · obtain rfl := Option.some.inj hi
                  have h0 : a'.tmps.getD 14 undef = _ := pre_of hpre 4 14 (by kernel_rfl) (by kernel_rfl)
                  refine sq_quiet 79 #[a'.tmps.getD 14 undef] rfl rfl (by kernel_rfl) (by decide) hS ?_
                  rw [h0]
                  exact (who_any _ w').mono (by rintro e u ⟨rfl, rfl⟩; exact ⟨_, rfl, Only.refl _ _, (fun _ h => h), by rw [HWH.out]; rfl⟩)
                · obtain rfl := Option.some.inj hi
                  have h0 : a'.tmps.getD 15 undef = _ := pre_of hpre 5 15 (by kernel_rfl) (by kernel_rfl)
                  exact sq_value _ rfl rfl (not_run 15 true rfl h0) (Below.refl _ _) (by decide) hS RB rfl
                · obtain rfl := Option.some.inj hi
                  have h0 := pre_of hpre 6 16 (by kernel_rfl) (by kernel_rfl)
                  exact sq_value _ rfl rfl (rfl) (Below.refl _ _) (by decide) hS RB h0
                · obtain rfl := Option.some.inj hi
                  have hgu : a'.tmps.getD 17 undef = _ := pre_of hpre 7 17 (by kernel_rfl) (by kernel_rfl)
                  exact sq_value _ rfl (wanted_of 7 17 false rfl (by kernel_rfl) hgu) rfl (Below.refl _ _) (by decide) hS RB (by show a'.tmps.getD 0 undef = _; rw [inv.old 0 (notDst_spec (by kernel_rfl))]; rfl)
                · obtain rfl := Option.some.inj hi
                  have hgu : a'.tmps.getD 17 undef = _ := pre_of hpre 7 17 (by kernel_rfl) (by kernel_rfl)
                  exact sq_value _ rfl (wanted_of 7 17 false rfl (by kernel_rfl) hgu) rfl (Below.refl _ _) (by decide) hS RB (by show a'.tmps.getD 3 undef = _; rw [inv.old 3 (notDst_spec (by kernel_rfl))]; rfl)
                · obtain rfl := Option.some.inj hi
                  have hgu : a'.tmps.getD 17 undef = _ := pre_of hpre 7 17 (by kernel_rfl) (by kernel_rfl)
                  have h0 : a'.tmps.getD 18 undef = _ := pre_of hpre 8 18 (by kernel_rfl) (by kernel_rfl)
                  have h1 : a'.tmps.getD 19 undef = _ := pre_of hpre 9 19 (by kernel_rfl) (by kernel_rfl)
                  exact sq_value _ rfl (wanted_of 7 17 false rfl (by kernel_rfl) hgu) (idx28_run 18 19 ba oa n c j rfl h0 h1 hjn) (Below.refl _ _) (by decide) hS RB rfl
                · obtain rfl := Option.some.inj hi
                  have hgu : a'.tmps.getD 17 undef = _ := pre_of hpre 7 17 (by kernel_rfl) (by kernel_rfl)
                  have h0 : a'.tmps.getD 20 undef = _ := pre_of hpre 10 20 (by kernel_rfl) (by kernel_rfl)
                  exact sq_value _ rfl (wanted_of 7 17 false rfl (by kernel_rfl) hgu) (fo_run 107 1 20 ba (oa + j * 2) rfl h0 (fo47_1 ba (oa + j * 2))) (Below.refl _ _) (by decide) hS RB rfl
                · obtain rfl := Option.some.inj hi
                  have hgu : a'.tmps.getD 17 undef = _ := pre_of hpre 7 17 (by kernel_rfl) (by kernel_rfl)
                  have h0 : a'.tmps.getD 21 undef = _ := pre_of hpre 11 21 (by kernel_rfl) (by kernel_rfl)
                  exact sq_value _ rfl (wanted_of 7 17 false rfl (by kernel_rfl) hgu) (load_run 22 21 ba (oa + j * 2 + 1) _ rfl h0 (ld22 (HA1.out w' ho))) (Below.refl _ _) (by decide) hS RB (HSA.out w' ho)
                · obtain rfl := Option.some.inj hi
                  have hgu : a'.tmps.getD 17 undef = _ := pre_of hpre 7 17 (by kernel_rfl) (by kernel_rfl)
                  have h0 := pre_of hpre 12 22 (by kernel_rfl) (by kernel_rfl)
                  exact sq_value _ rfl (wanted_of 7 17 false rfl (by kernel_rfl) hgu) (len_run 22 rfl h0.1) (Below.refl _ _) (by decide) hS RB rfl
                · obtain rfl := Option.some.inj hi
                  have hgu : a'.tmps.getD 17 undef = _ := pre_of hpre 7 17 (by kernel_rfl) (by kernel_rfl)
                  have h0 : a'.tmps.getD 23 undef = _ := pre_of hpre 13 23 (by kernel_rfl) (by kernel_rfl)
                  exact sq_value _ rfl (wanted_of 7 17 false rfl (by kernel_rfl) hgu) (neqK_run 23 _ _ rfl h0) (Below.refl _ _) (by decide) hS RB (by show Value.bool _ = _; rw [HLN.out]; rfl)
                · obtain rfl := Option.some.inj hi
                  have h0 : a'.tmps.getD 17 undef = _ := pre_of hpre 7 17 (by kernel_rfl) (by kernel_rfl)
                  have h1 : a'.tmps.getD 24 undef = _ := pre_of hpre 14 24 (by kernel_rfl) (by kernel_rfl)
                  exact sq_value _ rfl rfl (pick_run 17 false _ _ _ _ rfl h0 rfl h1) (Below.refl _ _) (by decide) hS RB rfl
                · obtain rfl := Option.some.inj hi
                  have h0 := pre_of hpre 15 25 (by kernel_rfl) (by kernel_rfl)
                  exact sq_value _ rfl rfl (rfl) (Below.refl _ _) (by decide) hS RB h0
                · obtain rfl := Option.some.inj hi
                  have hgu : a'.tmps.getD 26 undef = _ := pre_of hpre 16 26 (by kernel_rfl) (by kernel_rfl)
                  exact sq_value _ rfl (wanted_of 16 26 false rfl (by kernel_rfl) hgu) rfl (Below.refl _ _) (by decide) hS RB (by show a'.tmps.getD 3 undef = _; rw [inv.old 3 (notDst_spec (by kernel_rfl))]; rfl)
                · obtain rfl := Option.some.inj hi
                  have hgu : a'.tmps.getD 26 undef = _ := pre_of hpre 16 26 (by kernel_rfl) (by kernel_rfl)
                  have h0 : a'.tmps.getD 27 undef = _ := pre_of hpre 17 27 (by kernel_rfl) (by kernel_rfl)
                  exact sq_value _ rfl (wanted_of 16 26 false rfl (by kernel_rfl) hgu) (gtrK_run 27 _ _ rfl h0) (Below.refl _ _) (by decide) hS RB (by show Value.bool _ = _; rw [HPO.out])
                · obtain rfl := Option.some.inj hi
                  have hgu : a'.tmps.getD 26 undef = _ := pre_of hpre 16 26 (by kernel_rfl) (by kernel_rfl)
                  have h0 := pre_of hpre 18 28 (by kernel_rfl) (by kernel_rfl)
                  exact sq_value _ rfl (wanted_of 16 26 false rfl (by kernel_rfl) hgu) (rfl) (Below.refl _ _) (by decide) hS RB h0
                · obtain rfl := Option.some.inj hi
                  have hgu : a'.tmps.getD 29 undef = _ := pre_of hpre 19 29 (by kernel_rfl) (by kernel_rfl)
                  exact sq_value _ rfl (wanted_of 19 29 true rfl (by kernel_rfl) hgu) rfl (Below.refl _ _) (by decide) hS RB (by show a'.tmps.getD 0 undef = _; rw [inv.old 0 (notDst_spec (by kernel_rfl))]; rfl)
                · obtain rfl := Option.some.inj hi
                  have hgu : a'.tmps.getD 29 undef = _ := pre_of hpre 19 29 (by kernel_rfl) (by kernel_rfl)
                  exact sq_value _ rfl (wanted_of 19 29 true rfl (by kernel_rfl) hgu) rfl (Below.refl _ _) (by decide) hS RB (by show a'.tmps.getD 3 undef = _; rw [inv.old 3 (notDst_spec (by kernel_rfl))]; rfl)
                · obtain rfl := Option.some.inj hi
                  have hgu : a'.tmps.getD 29 undef = _ := pre_of hpre 19 29 (by kernel_rfl) (by kernel_rfl)
                  have h0 : a'.tmps.getD 30 undef = _ := pre_of hpre 20 30 (by kernel_rfl) (by kernel_rfl)
                  have h1 : a'.tmps.getD 31 undef = _ := pre_of hpre 21 31 (by kernel_rfl) (by kernel_rfl)
                  exact sq_value _ rfl (wanted_of 19 29 true rfl (by kernel_rfl) hgu) (idx28_run 30 31 ba oa n c j rfl h0 h1 hjn) (Below.refl _ _) (by decide) hS RB rfl
                · obtain rfl := Option.some.inj hi
                  have hgu : a'.tmps.getD 29 undef = _ := pre_of hpre 19 29 (by kernel_rfl) (by kernel_rfl)
                  have h0 : a'.tmps.getD 32 undef = _ := pre_of hpre 22 32 (by kernel_rfl) (by kernel_rfl)
                  exact sq_value _ rfl (wanted_of 19 29 true rfl (by kernel_rfl) hgu) (fo_run 107 0 32 ba (oa + j * 2) rfl h0 (fo47_0 ba (oa + j * 2))) (Below.refl _ _) (by decide) hS RB rfl
                · obtain rfl := Option.some.inj hi
                  have hgu : a'.tmps.getD 29 undef = _ := pre_of hpre 19 29 (by kernel_rfl) (by kernel_rfl)
                  have h0 : a'.tmps.getD 33 undef = _ := pre_of hpre 23 33 (by kernel_rfl) (by kernel_rfl)
                  exact sq_value _ rfl (wanted_of 19 29 true rfl (by kernel_rfl) hgu) (load_run 3 33 ba (oa + j * 2 + 0) _ rfl h0 (ld3 (HA0.out w' ho))) (Below.refl _ _) (by decide) hS RB rfl
                · obtain rfl := Option.some.inj hi
                  have hgu : a'.tmps.getD 29 undef = _ := pre_of hpre 19 29 (by kernel_rfl) (by kernel_rfl)
                  exact sq_value _ rfl (wanted_of 19 29 true rfl (by kernel_rfl) hgu) rfl (Below.refl _ _) (by decide) hS RB (by show a'.tmps.getD 0 undef = _; rw [inv.old 0 (notDst_spec (by kernel_rfl))]; rfl)
                · obtain rfl := Option.some.inj hi
                  have hgu : a'.tmps.getD 29 undef = _ := pre_of hpre 19 29 (by kernel_rfl) (by kernel_rfl)
                  exact sq_value _ rfl (wanted_of 19 29 true rfl (by kernel_rfl) hgu) rfl (Below.refl _ _) (by decide) hS RB (by show a'.tmps.getD 3 undef = _; rw [inv.old 3 (notDst_spec (by kernel_rfl))]; rfl)
                · obtain rfl := Option.some.inj hi
                  have hgu : a'.tmps.getD 29 undef = _ := pre_of hpre 19 29 (by kernel_rfl) (by kernel_rfl)
                  have h0 : a'.tmps.getD 36 undef = _ := pre_of hpre 26 36 (by kernel_rfl) (by kernel_rfl)
                  exact sq_value _ rfl (wanted_of 19 29 true rfl (by kernel_rfl) hgu) (subK_run 36 _ _ rfl h0) (Below.refl _ _) (by decide) hS RB (by show Value.int _ _ = _; rw [HSU.out])
                · obtain rfl := Option.some.inj hi
                  have hgu : a'.tmps.getD 29 undef = _ := pre_of hpre 19 29 (by kernel_rfl) (by kernel_rfl)
                  have h0 : a'.tmps.getD 35 undef = _ := pre_of hpre 25 35 (by kernel_rfl) (by kernel_rfl)
                  have h1 : a'.tmps.getD 37 undef = _ := pre_of hpre 27 37 (by kernel_rfl) (by kernel_rfl)
                  exact sq_value _ rfl (wanted_of 19 29 true rfl (by kernel_rfl) hgu) (idx28_run 35 37 ba oa n c ip rfl h0 h1 hin) (Below.refl _ _) (by decide) hS RB rfl
                · obtain rfl := Option.some.inj hi
                  have hgu : a'.tmps.getD 29 undef = _ := pre_of hpre 19 29 (by kernel_rfl) (by kernel_rfl)
                  have h0 : a'.tmps.getD 38 undef = _ := pre_of hpre 28 38 (by kernel_rfl) (by kernel_rfl)
                  exact sq_value _ rfl (wanted_of 19 29 true rfl (by kernel_rfl) hgu) (fo_run 107 0 38 ba (oa + ip * 2) rfl h0 (fo47_0 ba (oa + ip * 2))) (Below.refl _ _) (by decide) hS RB rfl
                · obtain rfl := Option.some.inj hi
                  have hgu : a'.tmps.getD 29 undef = _ := pre_of hpre 19 29 (by kernel_rfl) (by kernel_rfl)
                  have h0 : a'.tmps.getD 39 undef = _ := pre_of hpre 29 39 (by kernel_rfl) (by kernel_rfl)
                  exact sq_value _ rfl (wanted_of 19 29 true rfl (by kernel_rfl) hgu) (load_run 3 39 ba (oa + ip * 2 + 0) _ rfl h0 (ld3 (HP0.out w' ho))) (Below.refl _ _) (by decide) hS RB rfl
                · obtain rfl := Option.some.inj hi
                  have hgu : a'.tmps.getD 29 undef = _ := pre_of hpre 19 29 (by kernel_rfl) (by kernel_rfl)
                  have h0 : a'.tmps.getD 34 undef = _ := pre_of hpre 24 34 (by kernel_rfl) (by kernel_rfl)
                  have h1 : a'.tmps.getD 40 undef = _ := pre_of hpre 30 40 (by kernel_rfl) (by kernel_rfl)
                  exact sq_value _ rfl (wanted_of 19 29 true rfl (by kernel_rfl) hgu) (leqN_run 34 40 _ _ rfl h0 h1) (Below.refl _ _) (by decide) hS RB (by show Value.bool _ = _; rw [HLE.out])
                · obtain rfl := Option.some.inj hi
                  have hgu : a'.tmps.getD 26 undef = _ := pre_of hpre 16 26 (by kernel_rfl) (by kernel_rfl)
                  have h0 : a'.tmps.getD 29 undef = _ := pre_of hpre 19 29 (by kernel_rfl) (by kernel_rfl)
                  have h1 : a'.tmps.getD 41 undef = _ := pre_of hpre 31 41 (by kernel_rfl) (by kernel_rfl)
                  exact sq_value _ rfl (wanted_of 16 26 false rfl (by kernel_rfl) hgu) (pick_run 29 true _ _ _ _ rfl h0 h1 rfl) (Below.refl _ _) (by decide) hS RB rfl
                · obtain rfl := Option.some.inj hi
                  have h0 : a'.tmps.getD 26 undef = _ := pre_of hpre 16 26 (by kernel_rfl) (by kernel_rfl)
                  have h1 : a'.tmps.getD 42 undef = _ := pre_of hpre 32 42 (by kernel_rfl) (by kernel_rfl)
                  exact sq_value _ rfl rfl (pick_run 26 false _ _ _ _ rfl h0 rfl h1) (Below.refl _ _) (by decide) hS RB rfl
              · intro a' w3 f inv hS hall hd
                have hk33 := hd 33 43 (by kernel_rfl)
                have ho : Only [] wr w3 := inv.grow
                have hdf : a'.defers = [] := inv.defers
                have hsz : a'.tmps.size = 47 := inv.size
                have e := frame26 hsz (fun t ht => inv.old t (dstsIn_spec (ts := [10, 11, 12, 13, 14, 15, 16, 17, 18, 19, 20, 21, 22, 23, 24, 25, 26, 27, 28, 29, 30, 31, 32, 33, 34, 35, 36, 37, 38, 39, 40, 41, 42, 43]) (by kernel_rfl) t ht))
                have hR := hS.done (fun c hc => hall c (show c < 34 by simp at hc <;> omega))
                clear inv hd hsz hall hS
                obtain ⟨tmps, defers⟩ := a'
                obtain rfl : defers = [] := hdf
                replace e : tmps = _ := e
                replace hk33 : tmps.getD 43 undef = (.bool true) := hk33
                generalize tmps.getD 10 undef = x10 at *
                generalize tmps.getD 11 undef = x11 at *
                generalize tmps.getD 12 undef = x12 at *
                generalize tmps.getD 13 undef = x13 at *
                generalize tmps.getD 14 undef = x14 at *
                generalize tmps.getD 15 undef = x15 at *
                generalize tmps.getD 16 undef = x16 at *
                generalize tmps.getD 17 undef = x17 at *
                generalize tmps.getD 18 undef = x18 at *
                generalize tmps.getD 19 undef = x19 at *
                generalize tmps.getD 20 undef = x20 at *
                generalize tmps.getD 21 undef = x21 at *
                generalize tmps.getD 22 undef = x22 at *
                generalize tmps.getD 23 undef = x23 at *
                generalize tmps.getD 24 undef = x24 at *
                generalize tmps.getD 25 undef = x25 at *
                generalize tmps.getD 26 undef = x26 at *
                generalize tmps.getD 27 undef = x27 at *
                generalize tmps.getD 28 undef = x28 at *
                generalize tmps.getD 29 undef = x29 at *
                generalize tmps.getD 30 undef = x30 at *
                generalize tmps.getD 31 undef = x31 at *
                generalize tmps.getD 32 undef = x32 at *
                generalize tmps.getD 33 undef = x33 at *
                generalize tmps.getD 34 undef = x34 at *
                generalize tmps.getD 35 undef = x35 at *
                generalize tmps.getD 36 undef = x36 at *
                generalize tmps.getD 37 undef = x37 at *
                generalize tmps.getD 38 undef = x38 at *
                generalize tmps.getD 39 undef = x39 at *
                generalize tmps.getD 40 undef = x40 at *
                generalize tmps.getD 41 undef = x41 at *
                generalize tmps.getD 42 undef = x42 at *
                generalize tmps.getD 43 undef = x43 at *
                simp only [Array.getD_eq_getD_getElem?, List.getElem?_toArray, List.getElem?_cons_succ, List.getElem?_cons_zero, Option.getD_some] at e
                subst e
                subst hk33
                have HB3 : Hid (Below w.heap.size w w3) := HFIN.out _ ho
                clear ho hR
                go_wp2_with fail
                go_ret
                exact ⟨by rw [HF2.out]; rfl, HB3.out⟩
            · have HLE : Hid (decide (x1 ≤ pv) = false) := decide_eq_false hle
              have HNX : Hid (wok (prevW ws (j + 1)) (ws.drop (j + 1)) = res ∧ 0 ≤ prevW ws (j + 1)) := HNX0.out (by have := HPVE.out; omega) hw.2 hln
              clear HF0 HNX0 HST HPS HPP hw hle
              go_wp2_with fail
              have RB : ∀ k w w', Below w.heap.size w w' → (fun (_ : Nat) (_ : World) => True) k w → (fun (_ : Nat) (_ : World) => True) k w' := fun _ _ _ _ _ => trivial
              refine wp_region_st (rwE ba oa n c j ip x1 pv x2) (fun u u' => Only [] u u') (SeqS [] (fun (_ : Nat) (_ : World) => True)) (by kernel_rfl) (only_drew _ _) (only_trans _) (rwE_kept ba oa n c j ip x1 pv x2) (by kernel_rfl) (SeqS.start (trivial)) ?_ ?_
              · intro i o a' w' f hi inv hS hfi hfw hpre
                have ho : Only [] wr w' := inv.grow
                have hlt : i < 34 := (Array.getElem?_eq_some_iff.1 hi).1
                obtain rfl|rfl|rfl|rfl|rfl|rfl|rfl|rfl|rfl|rfl|rfl|rfl|rfl|rfl|rfl|rfl|rfl|rfl|rfl|rfl|rfl|rfl|rfl|rfl|rfl|rfl|rfl|rfl|rfl|rfl|rfl|rfl|rfl|rfl : i = 0 ∨ i = 1 ∨ i = 2 ∨ i = 3 ∨ i = 4 ∨ i = 5 ∨ i = 6 ∨ i = 7 ∨ i = 8 ∨ i = 9 ∨ i = 10 ∨ i = 11 ∨ i = 12 ∨ i = 13 ∨ i = 14 ∨ i = 15 ∨ i = 16 ∨ i = 17 ∨ i = 18 ∨ i = 19 ∨ i = 20 ∨ i = 21 ∨ i = 22 ∨ i = 23 ∨ i = 24 ∨ i = 25 ∨ i = 26 ∨ i = 27 ∨ i = 28 ∨ i = 29 ∨ i = 30 ∨ i = 31 ∨ i = 32 ∨ i = 33 := by omega
                · obtain rfl := Option.some.inj hi
                  exact sq_value _ rfl rfl rfl (Below.refl _ _) (by decide) hS RB (by show a'.tmps.getD 0 undef = _; rw [inv.old 0 (notDst_spec (by kernel_rfl))]; rfl)
                · obtain rfl := Option.some.inj hi
                  exact sq_value _ rfl rfl rfl (Below.refl _ _) (by decide) hS RB (by show a'.tmps.getD 3 undef = _; rw [inv.old 3 (notDst_spec (by kernel_rfl))]; rfl)
                · obtain rfl := Option.some.inj hi
                  have h0 : a'.tmps.getD 10 undef = _ := pre_of hpre 0 10 (by kernel_rfl) (by kernel_rfl)
                  have h1 : a'.tmps.getD 11 undef = _ := pre_of hpre 1 11 (by kernel_rfl) (by kernel_rfl)
                  exact sq_value _ rfl rfl (idx28_run 10 11 ba oa n c j rfl h0 h1 hjn) (Below.refl _ _) (by decide) hS RB rfl
                · obtain rfl := Option.some.inj hi
                  have h0 : a'.tmps.getD 12 undef = _ := pre_of hpre 2 12 (by kernel_rfl) (by kernel_rfl)
                  exact sq_value _ rfl rfl (fo_run 107 0 12 ba (oa + j * 2) rfl h0 (fo47_0 ba (oa + j * 2))) (Below.refl _ _) (by decide) hS RB rfl
                · obtain rfl := Option.some.inj hi
                  have h0 : a'.tmps.getD 13 undef = _ := pre_of hpre 3 13 (by kernel_rfl) (by kernel_rfl)
                  exact sq_value _ rfl rfl (load_run 3 13 ba (oa + j * 2 + 0) _ rfl h0 (ld3 (HA0.out w' ho))) (Below.refl _ _) (by decide) hS RB rfl
                · obtain rfl := Option.some.inj hi
                  have h0 : a'.tmps.getD 14 undef = _ := pre_of hpre 4 14 (by kernel_rfl) (by kernel_rfl)
                  refine sq_quiet 79 #[a'.tmps.getD 14 undef] rfl rfl (by kernel_rfl) (by decide) hS ?_
                  rw [h0]
                  exact (who_any _ w').mono (by rintro e u ⟨rfl, rfl⟩; exact ⟨_, rfl, Only.refl _ _, (fun _ h => h), by rw [HWH.out]; rfl⟩)
                · obtain rfl := Option.some.inj hi
                  have h0 : a'.tmps.getD 15 undef = _ := pre_of hpre 5 15 (by kernel_rfl) (by kernel_rfl)
                  exact sq_value _ rfl rfl (not_run 15 true rfl h0) (Below.refl _ _) (by decide) hS RB rfl
                · obtain rfl := Option.some.inj hi
                  have h0 := pre_of hpre 6 16 (by kernel_rfl) (by kernel_rfl)
                  exact sq_value _ rfl rfl (rfl) (Below.refl _ _) (by decide) hS RB h0
                · obtain rfl := Option.some.inj hi
                  have hgu : a'.tmps.getD 17 undef = _ := pre_of hpre 7 17 (by kernel_rfl) (by kernel_rfl)
                  exact sq_value _ rfl (wanted_of 7 17 false rfl (by kernel_rfl) hgu) rfl (Below.refl _ _) (by decide) hS RB (by show a'.tmps.getD 0 undef = _; rw [inv.old 0 (notDst_spec (by kernel_rfl))]; rfl)
                · obtain rfl := Option.some.inj hi
                  have hgu : a'.tmps.getD 17 undef = _ := pre_of hpre 7 17 (by kernel_rfl) (by kernel_rfl)
                  exact sq_value _ rfl (wanted_of 7 17 false rfl (by kernel_rfl) hgu) rfl (Below.refl _ _) (by decide) hS RB (by show a'.tmps.getD 3 undef = _; rw [inv.old 3 (notDst_spec (by kernel_rfl))]; rfl)
                · obtain rfl := Option.some.inj hi
                  have hgu : a'.tmps.getD 17 undef = _ := pre_of hpre 7 17 (by kernel_rfl) (by kernel_rfl)
                  have h0 : a'.tmps.getD 18 undef = _ := pre_of hpre 8 18 (by kernel_rfl) (by kernel_rfl)
                  have h1 : a'.tmps.getD 19 undef = _ := pre_of hpre 9 19 (by kernel_rfl) (by kernel_rfl)
                  exact sq_value _ rfl (wanted_of 7 17 false rfl (by kernel_rfl) hgu) (idx28_run 18 19 ba oa n c j rfl h0 h1 hjn) (Below.refl _ _) (by decide) hS RB rfl
                · obtain rfl := Option.some.inj hi
                  have hgu : a'.tmps.getD 17 undef = _ := pre_of hpre 7 17 (by kernel_rfl) (by kernel_rfl)
                  have h0 : a'.tmps.getD 20 undef = _ := pre_of hpre 10 20 (by kernel_rfl) (by kernel_rfl)
                  exact sq_value _ rfl (wanted_of 7 17 false rfl (by kernel_rfl) hgu) (fo_run 107 1 20 ba (oa + j * 2) rfl h0 (fo47_1 ba (oa + j * 2))) (Below.refl _ _) (by decide) hS RB rfl
                · obtain rfl := Option.some.inj hi
                  have hgu : a'.tmps.getD 17 undef = _ := pre_of hpre 7 17 (by kernel_rfl) (by kernel_rfl)
                  have h0 : a'.tmps.getD 21 undef = _ := pre_of hpre 11 21 (by kernel_rfl) (by kernel_rfl)
                  exact sq_value _ rfl (wanted_of 7 17 false rfl (by kernel_rfl) hgu) (load_run 22 21 ba (oa + j * 2 + 1) _ rfl h0 (ld22 (HA1.out w' ho))) (Below.refl _ _) (by decide) hS RB (HSA.out w' ho)
                · obtain rfl := Option.some.inj hi
                  have hgu : a'.tmps.getD 17 undef = _ := pre_of hpre 7 17 (by kernel_rfl) (by kernel_rfl)
                  have h0 := pre_of hpre 12 22 (by kernel_rfl) (by kernel_rfl)
                  exact sq_value _ rfl (wanted_of 7 17 false rfl (by kernel_rfl) hgu) (len_run 22 rfl h0.1) (Below.refl _ _) (by decide) hS RB rfl
                · obtain rfl := Option.some.inj hi
                  have hgu : a'.tmps.getD 17 undef = _ := pre_of hpre 7 17 (by kernel_rfl) (by kernel_rfl)
                  have h0 : a'.tmps.getD 23 undef = _ := pre_of hpre 13 23 (by kernel_rfl) (by kernel_rfl)
                  exact sq_value _ rfl (wanted_of 7 17 false rfl (by kernel_rfl) hgu) (neqK_run 23 _ _ rfl h0) (Below.refl _ _) (by decide) hS RB (by show Value.bool _ = _; rw [HLN.out]; rfl)
                · obtain rfl := Option.some.inj hi
                  have h0 : a'.tmps.getD 17 undef = _ := pre_of hpre 7 17 (by kernel_rfl) (by kernel_rfl)
                  have h1 : a'.tmps.getD 24 undef = _ := pre_of hpre 14 24 (by kernel_rfl) (by kernel_rfl)
                  exact sq_value _ rfl rfl (pick_run 17 false _ _ _ _ rfl h0 rfl h1) (Below.refl _ _) (by decide) hS RB rfl
                · obtain rfl := Option.some.inj hi
                  have h0 := pre_of hpre 15 25 (by kernel_rfl) (by kernel_rfl)
                  exact sq_value _ rfl rfl (rfl) (Below.refl _ _) (by decide) hS RB h0
                · obtain rfl := Option.some.inj hi
                  have hgu : a'.tmps.getD 26 undef = _ := pre_of hpre 16 26 (by kernel_rfl) (by kernel_rfl)
                  exact sq_value _ rfl (wanted_of 16 26 false rfl (by kernel_rfl) hgu) rfl (Below.refl _ _) (by decide) hS RB (by show a'.tmps.getD 3 undef = _; rw [inv.old 3 (notDst_spec (by kernel_rfl))]; rfl)
                · obtain rfl := Option.some.inj hi
                  have hgu : a'.tmps.getD 26 undef = _ := pre_of hpre 16 26 (by kernel_rfl) (by kernel_rfl)
                  have h0 : a'.tmps.getD 27 undef = _ := pre_of hpre 17 27 (by kernel_rfl) (by kernel_rfl)
                  exact sq_value _ rfl (wanted_of 16 26 false rfl (by kernel_rfl) hgu) (gtrK_run 27 _ _ rfl h0) (Below.refl _ _) (by decide) hS RB (by show Value.bool _ = _; rw [HPO.out])
                · obtain rfl := Option.some.inj hi
                  have hgu : a'.tmps.getD 26 undef = _ := pre_of hpre 16 26 (by kernel_rfl) (by kernel_rfl)
                  have h0 := pre_of hpre 18 28 (by kernel_rfl) (by kernel_rfl)
                  exact sq_value _ rfl (wanted_of 16 26 false rfl (by kernel_rfl) hgu) (rfl) (Below.refl _ _) (by decide) hS RB h0
                · obtain rfl := Option.some.inj hi
                  have hgu : a'.tmps.getD 29 undef = _ := pre_of hpre 19 29 (by kernel_rfl) (by kernel_rfl)
                  exact sq_value _ rfl (wanted_of 19 29 true rfl (by kernel_rfl) hgu) rfl (Below.refl _ _) (by decide) hS RB (by show a'.tmps.getD 0 undef = _; rw [inv.old 0 (notDst_spec (by kernel_rfl))]; rfl)
                · obtain rfl := Option.some.inj hi
                  have hgu : a'.tmps.getD 29 undef = _ := pre_of hpre 19 29 (by kernel_rfl) (by kernel_rfl)
                  exact sq_value _ rfl (wanted_of 19 29 true rfl (by kernel_rfl) hgu) rfl (Below.refl _ _) (by decide) hS RB (by show a'.tmps.getD 3 undef = _; rw [inv.old 3 (notDst_spec (by kernel_rfl))]; rfl)
                · obtain rfl := Option.some.inj hi
                  have hgu : a'.tmps.getD 29 undef = _ := pre_of hpre 19 29 (by kernel_rfl) (by kernel_rfl)
                  have h0 : a'.tmps.getD 30 undef = _ := pre_of hpre 20 30 (by kernel_rfl) (by kernel_rfl)
                  have h1 : a'.tmps.getD 31 undef = _ := pre_of hpre 21 31 (by kernel_rfl) (by kernel_rfl)
                  exact sq_value _ rfl (wanted_of 19 29 true rfl (by kernel_rfl) hgu) (idx28_run 30 31 ba oa n c j rfl h0 h1 hjn) (Below.refl _ _) (by decide) hS RB rfl
                · obtain rfl := Option.some.inj hi
                  have hgu : a'.tmps.getD 29 undef = _ := pre_of hpre 19 29 (by kernel_rfl) (by kernel_rfl)
                  have h0 : a'.tmps.getD 32 undef = _ := pre_of hpre 22 32 (by kernel_rfl) (by kernel_rfl)
                  exact sq_value _ rfl (wanted_of 19 29 true rfl (by kernel_rfl) hgu) (fo_run 107 0 32 ba (oa + j * 2) rfl h0 (fo47_0 ba (oa + j * 2))) (Below.refl _ _) (by decide) hS RB rfl
                · obtain rfl := Option.some.inj hi
                  have hgu : a'.tmps.getD 29 undef = _ := pre_of hpre 19 29 (by kernel_rfl) (by kernel_rfl)
                  have h0 : a'.tmps.getD 33 undef = _ := pre_of hpre 23 33 (by kernel_rfl) (by kernel_rfl)
                  exact sq_value _ rfl (wanted_of 19 29 true rfl (by kernel_rfl) hgu) (load_run 3 33 ba (oa + j * 2 + 0) _ rfl h0 (ld3 (HA0.out w' ho))) (Below.refl _ _) (by decide) hS RB rfl
                · obtain rfl := Option.some.inj hi
                  have hgu : a'.tmps.getD 29 undef = _ := pre_of hpre 19 29 (by kernel_rfl) (by kernel_rfl)
                  exact sq_value _ rfl (wanted_of 19 29 true rfl (by kernel_rfl) hgu) rfl (Below.refl _ _) (by decide) hS RB (by show a'.tmps.getD 0 undef = _; rw [inv.old 0 (notDst_spec (by kernel_rfl))]; rfl)
                · obtain rfl := Option.some.inj hi
                  have hgu : a'.tmps.getD 29 undef = _ := pre_of hpre 19 29 (by kernel_rfl) (by kernel_rfl)
                  exact sq_value _ rfl (wanted_of 19 29 true rfl (by kernel_rfl) hgu) rfl (Below.refl _ _) (by decide) hS RB (by show a'.tmps.getD 3 undef = _; rw [inv.old 3 (notDst_spec (by kernel_rfl))]; rfl)
                · obtain rfl := Option.some.inj hi
                  have hgu : a'.tmps.getD 29 undef = _ := pre_of hpre 19 29 (by kernel_rfl) (by kernel_rfl)
                  have h0 : a'.tmps.getD 36 undef = _ := pre_of hpre 26 36 (by kernel_rfl) (by kernel_rfl)
                  exact sq_value _ rfl (wanted_of 19 29 true rfl (by kernel_rfl) hgu) (subK_run 36 _ _ rfl h0) (Below.refl _ _) (by decide) hS RB (by show Value.int _ _ = _; rw [HSU.out])
                · obtain rfl := Option.some.inj hi
                  have hgu : a'.tmps.getD 29 undef = _ := pre_of hpre 19 29 (by kernel_rfl) (by kernel_rfl)
                  have h0 : a'.tmps.getD 35 undef = _ := pre_of hpre 25 35 (by kernel_rfl) (by kernel_rfl)
                  have h1 : a'.tmps.getD 37 undef = _ := pre_of hpre 27 37 (by kernel_rfl) (by kernel_rfl)
                  exact sq_value _ rfl (wanted_of 19 29 true rfl (by kernel_rfl) hgu) (idx28_run 35 37 ba oa n c ip rfl h0 h1 hin) (Below.refl _ _) (by decide) hS RB rfl
                · obtain rfl := Option.some.inj hi
                  have hgu : a'.tmps.getD 29 undef = _ := pre_of hpre 19 29 (by kernel_rfl) (by kernel_rfl)
                  have h0 : a'.tmps.getD 38 undef = _ := pre_of hpre 28 38 (by kernel_rfl) (by kernel_rfl)
                  exact sq_value _ rfl (wanted_of 19 29 true rfl (by kernel_rfl) hgu) (fo_run 107 0 38 ba (oa + ip * 2) rfl h0 (fo47_0 ba (oa + ip * 2))) (Below.refl _ _) (by decide) hS RB rfl
                · obtain rfl := Option.some.inj hi
                  have hgu : a'.tmps.getD 29 undef = _ := pre_of hpre 19 29 (by kernel_rfl) (by kernel_rfl)
                  have h0 : a'.tmps.getD 39 undef = _ := pre_of hpre 29 39 (by kernel_rfl) (by kernel_rfl)
                  exact sq_value _ rfl (wanted_of 19 29 true rfl (by kernel_rfl) hgu) (load_run 3 39 ba (oa + ip * 2 + 0) _ rfl h0 (ld3 (HP0.out w' ho))) (Below.refl _ _) (by decide) hS RB rfl
                · obtain rfl := Option.some.inj hi
                  have hgu : a'.tmps.getD 29 undef = _ := pre_of hpre 19 29 (by kernel_rfl) (by kernel_rfl)
                  have h0 : a'.tmps.getD 34 undef = _ := pre_of hpre 24 34 (by kernel_rfl) (by kernel_rfl)
                  have h1 : a'.tmps.getD 40 undef = _ := pre_of hpre 30 40 (by kernel_rfl) (by kernel_rfl)
                  exact sq_value _ rfl (wanted_of 19 29 true rfl (by kernel_rfl) hgu) (leqN_run 34 40 _ _ rfl h0 h1) (Below.refl _ _) (by decide) hS RB (by show Value.bool _ = _; rw [HLE.out])
                · obtain rfl := Option.some.inj hi
                  have hgu : a'.tmps.getD 26 undef = _ := pre_of hpre 16 26 (by kernel_rfl) (by kernel_rfl)
                  have h0 : a'.tmps.getD 29 undef = _ := pre_of hpre 19 29 (by kernel_rfl) (by kernel_rfl)
                  have h1 : a'.tmps.getD 41 undef = _ := pre_of hpre 31 41 (by kernel_rfl) (by kernel_rfl)
                  exact sq_value _ rfl (wanted_of 16 26 false rfl (by kernel_rfl) hgu) (pick_run 29 true _ _ _ _ rfl h0 h1 rfl) (Below.refl _ _) (by decide) hS RB rfl
                · obtain rfl := Option.some.inj hi
                  have h0 : a'.tmps.getD 26 undef = _ := pre_of hpre 16 26 (by kernel_rfl) (by kernel_rfl)
                  have h1 : a'.tmps.getD 42 undef = _ := pre_of hpre 32 42 (by kernel_rfl) (by kernel_rfl)
                  exact sq_value _ rfl rfl (pick_run 26 false _ _ _ _ rfl h0 rfl h1) (Below.refl _ _) (by decide) hS RB rfl
              · intro a' w3 f inv hS hall hd
                have hk33 := hd 33 43 (by kernel_rfl)
                have ho : Only [] wr w3 := inv.grow
                have hdf : a'.defers = [] := inv.defers
                have hsz : a'.tmps.size = 47 := inv.size
                have e := frame26 hsz (fun t ht => inv.old t (dstsIn_spec (ts := [10, 11, 12, 13, 14, 15, 16, 17, 18, 19, 20, 21, 22, 23, 24, 25, 26, 27, 28, 29, 30, 31, 32, 33, 34, 35, 36, 37, 38, 39, 40, 41, 42, 43]) (by kernel_rfl) t ht))
                have hR := hS.done (fun c hc => hall c (show c < 34 by simp at hc <;> omega))
                clear inv hd hsz hall hS
                obtain ⟨tmps, defers⟩ := a'
                obtain rfl : defers = [] := hdf
                replace e : tmps = _ := e
                replace hk33 : tmps.getD 43 undef = (.bool false) := hk33
                generalize tmps.getD 10 undef = x10 at *
                generalize tmps.getD 11 undef = x11 at *
                generalize tmps.getD 12 undef = x12 at *
                generalize tmps.getD 13 undef = x13 at *
                generalize tmps.getD 14 undef = x14 at *
                generalize tmps.getD 15 undef = x15 at *
                generalize tmps.getD 16 undef = x16 at *
                generalize tmps.getD 17 undef = x17 at *
                generalize tmps.getD 18 undef = x18 at *
                generalize tmps.getD 19 undef = x19 at *
                generalize tmps.getD 20 undef = x20 at *
                generalize tmps.getD 21 undef = x21 at *
                generalize tmps.getD 22 undef = x22 at *
                generalize tmps.getD 23 undef = x23 at *
                generalize tmps.getD 24 undef = x24 at *
                generalize tmps.getD 25 undef = x25 at *
                generalize tmps.getD 26 undef = x26 at *
                generalize tmps.getD 27 undef = x27 at *
                generalize tmps.getD 28 undef = x28 at *
                generalize tmps.getD 29 undef = x29 at *
                generalize tmps.getD 30 undef = x30 at *
                generalize tmps.getD 31 undef = x31 at *
                generalize tmps.getD 32 undef = x32 at *
                generalize tmps.getD 33 undef = x33 at *
                generalize tmps.getD 34 undef = x34 at *
                generalize tmps.getD 35 undef = x35 at *
                generalize tmps.getD 36 undef = x36 at *
                generalize tmps.getD 37 undef = x37 at *
                generalize tmps.getD 38 undef = x38 at *
                generalize tmps.getD 39 undef = x39 at *
                generalize tmps.getD 40 undef = x40 at *
                generalize tmps.getD 41 undef = x41 at *
                generalize tmps.getD 42 undef = x42 at *
                generalize tmps.getD 43 undef = x43 at *
                simp only [Array.getD_eq_getD_getElem?, List.getElem?_toArray, List.getElem?_cons_succ, List.getElem?_cons_zero, Option.getD_some] at e
                subst e
                subst hk33
                have HB3 : Hid (Below w.heap.size w w3) := HFIN.out _ ho
                clear ho hR
                go_wp2_with fail
                refine ⟨⟨j + 1, by omega, (by first | (simp; done) | (simp; omega)), HB3, HNX⟩, ?_⟩
                simp only [intOf]
                omega
          · have HPO : Hid (decide ((0 : Int) < (j : Int)) = false) := by show _ = _; simp; omega
            have hp0 : prevW ws j = 0 := by simp [prevW, show j = 0 from by omega]
            have HNX : Hid (wok (prevW ws (j + 1)) (ws.drop (j + 1)) = res ∧ 0 ≤ prevW ws (j + 1)) := HNX0.out (by omega) hw.2 hln
            clear hp0
            clear HF0 HNX0 HST HPS HPP hw HPV
            go_wp2_with fail
            have RB : ∀ k w w', Below w.heap.size w w' → (fun (_ : Nat) (_ : World) => True) k w → (fun (_ : Nat) (_ : World) => True) k w' := fun _ _ _ _ _ => trivial
            refine wp_region_st (rwC ba oa n c j x1 x2) (fun u u' => Only [] u u') (SeqS [] (fun (_ : Nat) (_ : World) => True)) (by kernel_rfl) (only_drew _ _) (only_trans _) (rwC_kept ba oa n c j x1 x2) (by kernel_rfl) (SeqS.start (trivial)) ?_ ?_
            · intro i o a' w' f hi inv hS hfi hfw hpre
              have ho : Only [] wr w' := inv.grow
              have hlt : i < 34 := (Array.getElem?_eq_some_iff.1 hi).1
              obtain rfl|rfl|rfl|rfl|rfl|rfl|rfl|rfl|rfl|rfl|rfl|rfl|rfl|rfl|rfl|rfl|rfl|rfl|rfl|rfl|rfl|rfl|rfl|rfl|rfl|rfl|rfl|rfl|rfl|rfl|rfl|rfl|rfl|rfl : i = 0 ∨ i = 1 ∨ i = 2 ∨ i = 3 ∨ i = 4 ∨ i = 5 ∨ i = 6 ∨ i = 7 ∨ i = 8 ∨ i = 9 ∨ i = 10 ∨ i = 11 ∨ i = 12 ∨ i = 13 ∨ i = 14 ∨ i = 15 ∨ i = 16 ∨ i = 17 ∨ i = 18 ∨ i = 19 ∨ i = 20 ∨ i = 21 ∨ i = 22 ∨ i = 23 ∨ i = 24 ∨ i = 25 ∨ i = 26 ∨ i = 27 ∨ i = 28 ∨ i = 29 ∨ i = 30 ∨ i = 31 ∨ i = 32 ∨ i = 33 := by omega
              · obtain rfl := Option.some.inj hi
                exact sq_value _ rfl rfl rfl (Below.refl _ _) (by decide) hS RB (by show a'.tmps.getD 0 undef = _; rw [inv.old 0 (notDst_spec (by kernel_rfl))]; rfl)
              · obtain rfl := Option.some.inj hi
                exact sq_value _ rfl rfl rfl (Below.refl _ _) (by decide) hS RB (by show a'.tmps.getD 3 undef = _; rw [inv.old 3 (notDst_spec (by kernel_rfl))]; rfl)
              · obtain rfl := Option.some.inj hi
                have h0 : a'.tmps.getD 10 undef = _ := pre_of hpre 0 10 (by kernel_rfl) (by kernel_rfl)
                have h1 : a'.tmps.getD 11 undef = _ := pre_of hpre 1 11 (by kernel_rfl) (by kernel_rfl)
                exact sq_value _ rfl rfl (idx28_run 10 11 ba oa n c j rfl h0 h1 hjn) (Below.refl _ _) (by decide) hS RB rfl
              · obtain rfl := Option.some.inj hi
                have h0 : a'.tmps.getD 12 undef = _ := pre_of hpre 2 12 (by kernel_rfl) (by kernel_rfl)
                exact sq_value _ rfl rfl (fo_run 107 0 12 ba (oa + j * 2) rfl h0 (fo47_0 ba (oa + j * 2))) (Below.refl _ _) (by decide) hS RB rfl
              · obtain rfl := Option.some.inj hi
                have h0 : a'.tmps.getD 13 undef = _ := pre_of hpre 3 13 (by kernel_rfl) (by kernel_rfl)
                exact sq_value _ rfl rfl (load_run 3 13 ba (oa + j * 2 + 0) _ rfl h0 (ld3 (HA0.out w' ho))) (Below.refl _ _) (by decide) hS RB rfl
              · obtain rfl := Option.some.inj hi
                have h0 : a'.tmps.getD 14 undef = _ := pre_of hpre 4 14 (by kernel_rfl) (by kernel_rfl)
                refine sq_quiet 79 #[a'.tmps.getD 14 undef] rfl rfl (by kernel_rfl) (by decide) hS ?_
                rw [h0]
                exact (who_any _ w').mono (by rintro e u ⟨rfl, rfl⟩; exact ⟨_, rfl, Only.refl _ _, (fun _ h => h), by rw [HWH.out]; rfl⟩)
              · obtain rfl := Option.some.inj hi
                have h0 : a'.tmps.getD 15 undef = _ := pre_of hpre 5 15 (by kernel_rfl) (by kernel_rfl)
                exact sq_value _ rfl rfl (not_run 15 true rfl h0) (Below.refl _ _) (by decide) hS RB rfl
              · obtain rfl := Option.some.inj hi
                have h0 := pre_of hpre 6 16 (by kernel_rfl) (by kernel_rfl)
                exact sq_value _ rfl rfl (rfl) (Below.refl _ _) (by decide) hS RB h0
              · obtain rfl := Option.some.inj hi
                have hgu : a'.tmps.getD 17 undef = _ := pre_of hpre 7 17 (by kernel_rfl) (by kernel_rfl)
                exact sq_value _ rfl (wanted_of 7 17 false rfl (by kernel_rfl) hgu) rfl (Below.refl _ _) (by decide) hS RB (by show a'.tmps.getD 0 undef = _; rw [inv.old 0 (notDst_spec (by kernel_rfl))]; rfl)
              · obtain rfl := Option.some.inj hi
                have hgu : a'.tmps.getD 17 undef = _ := pre_of hpre 7 17 (by kernel_rfl) (by kernel_rfl)
                exact sq_value _ rfl (wanted_of 7 17 false rfl (by kernel_rfl) hgu) rfl (Below.refl _ _) (by decide) hS RB (by show a'.tmps.getD 3 undef = _; rw [inv.old 3 (notDst_spec (by kernel_rfl))]; rfl)
              · obtain rfl := Option.some.inj hi
                have hgu : a'.tmps.getD 17 undef = _ := pre_of hpre 7 17 (by kernel_rfl) (by kernel_rfl)
                have h0 : a'.tmps.getD 18 undef = _ := pre_of hpre 8 18 (by kernel_rfl) (by kernel_rfl)
                have h1 : a'.tmps.getD 19 undef = _ := pre_of hpre 9 19 (by kernel_rfl) (by kernel_rfl)
                exact sq_value _ rfl (wanted_of 7 17 false rfl (by kernel_rfl) hgu) (idx28_run 18 19 ba oa n c j rfl h0 h1 hjn) (Below.refl _ _) (by decide) hS RB rfl
              · obtain rfl := Option.some.inj hi
                have hgu : a'.tmps.getD 17 undef = _ := pre_of hpre 7 17 (by kernel_rfl) (by kernel_rfl)
                have h0 : a'.tmps.getD 20 undef = _ := pre_of hpre 10 20 (by kernel_rfl) (by kernel_rfl)
                exact sq_value _ rfl (wanted_of 7 17 false rfl (by kernel_rfl) hgu) (fo_run 107 1 20 ba (oa + j * 2) rfl h0 (fo47_1 ba (oa + j * 2))) (Below.refl _ _) (by decide) hS RB rfl
              · obtain rfl := Option.some.inj hi
                have hgu : a'.tmps.getD 17 undef = _ := pre_of hpre 7 17 (by kernel_rfl) (by kernel_rfl)
                have h0 : a'.tmps.getD 21 undef = _ := pre_of hpre 11 21 (by kernel_rfl) (by kernel_rfl)
                exact sq_value _ rfl (wanted_of 7 17 false rfl (by kernel_rfl) hgu) (load_run 22 21 ba (oa + j * 2 + 1) _ rfl h0 (ld22 (HA1.out w' ho))) (Below.refl _ _) (by decide) hS RB (HSA.out w' ho)
              · obtain rfl := Option.some.inj hi
                have hgu : a'.tmps.getD 17 undef = _ := pre_of hpre 7 17 (by kernel_rfl) (by kernel_rfl)
                have h0 := pre_of hpre 12 22 (by kernel_rfl) (by kernel_rfl)
                exact sq_value _ rfl (wanted_of 7 17 false rfl (by kernel_rfl) hgu) (len_run 22 rfl h0.1) (Below.refl _ _) (by decide) hS RB rfl
              · obtain rfl := Option.some.inj hi
                have hgu : a'.tmps.getD 17 undef = _ := pre_of hpre 7 17 (by kernel_rfl) (by kernel_rfl)
                have h0 : a'.tmps.getD 23 undef = _ := pre_of hpre 13 23 (by kernel_rfl) (by kernel_rfl)
                exact sq_value _ rfl (wanted_of 7 17 false rfl (by kernel_rfl) hgu) (neqK_run 23 _ _ rfl h0) (Below.refl _ _) (by decide) hS RB (by show Value.bool _ = _; rw [HLN.out]; rfl)
              · obtain rfl := Option.some.inj hi
                have h0 : a'.tmps.getD 17 undef = _ := pre_of hpre 7 17 (by kernel_rfl) (by kernel_rfl)
                have h1 : a'.tmps.getD 24 undef = _ := pre_of hpre 14 24 (by kernel_rfl) (by kernel_rfl)
                exact sq_value _ rfl rfl (pick_run 17 false _ _ _ _ rfl h0 rfl h1) (Below.refl _ _) (by decide) hS RB rfl
              · obtain rfl := Option.some.inj hi
                have h0 := pre_of hpre 15 25 (by kernel_rfl) (by kernel_rfl)
                exact sq_value _ rfl rfl (rfl) (Below.refl _ _) (by decide) hS RB h0
              · obtain rfl := Option.some.inj hi
                have hgu : a'.tmps.getD 26 undef = _ := pre_of hpre 16 26 (by kernel_rfl) (by kernel_rfl)
                exact sq_value _ rfl (wanted_of 16 26 false rfl (by kernel_rfl) hgu) rfl (Below.refl _ _) (by decide) hS RB (by show a'.tmps.getD 3 undef = _; rw [inv.old 3 (notDst_spec (by kernel_rfl))]; rfl)
              · obtain rfl := Option.some.inj hi
                have hgu : a'.tmps.getD 26 undef = _ := pre_of hpre 16 26 (by kernel_rfl) (by kernel_rfl)
                have h0 : a'.tmps.getD 27 undef = _ := pre_of hpre 17 27 (by kernel_rfl) (by kernel_rfl)
                exact sq_value _ rfl (wanted_of 16 26 false rfl (by kernel_rfl) hgu) (gtrK_run 27 _ _ rfl h0) (Below.refl _ _) (by decide) hS RB (by show Value.bool _ = _; rw [HPO.out])
              · obtain rfl := Option.some.inj hi
                have hgu : a'.tmps.getD 26 undef = _ := pre_of hpre 16 26 (by kernel_rfl) (by kernel_rfl)
                have h0 := pre_of hpre 18 28 (by kernel_rfl) (by kernel_rfl)
                exact sq_value _ rfl (wanted_of 16 26 false rfl (by kernel_rfl) hgu) (rfl) (Below.refl _ _) (by decide) hS RB h0
              · obtain rfl := Option.some.inj hi
                have hgu : a'.tmps.getD 29 undef = _ := pre_of hpre 19 29 (by kernel_rfl) (by kernel_rfl)
                exact sq_skip rfl (unwanted_of 19 29 false rfl (by kernel_rfl) hgu) (by decide) hS rfl
              · obtain rfl := Option.some.inj hi
                have hgu : a'.tmps.getD 29 undef = _ := pre_of hpre 19 29 (by kernel_rfl) (by kernel_rfl)
                exact sq_skip rfl (unwanted_of 19 29 false rfl (by kernel_rfl) hgu) (by decide) hS rfl
              · obtain rfl := Option.some.inj hi
                have hgu : a'.tmps.getD 29 undef = _ := pre_of hpre 19 29 (by kernel_rfl) (by kernel_rfl)
                exact sq_skip rfl (unwanted_of 19 29 false rfl (by kernel_rfl) hgu) (by decide) hS rfl
              · obtain rfl := Option.some.inj hi
                have hgu : a'.tmps.getD 29 undef = _ := pre_of hpre 19 29 (by kernel_rfl) (by kernel_rfl)
                exact sq_skip rfl (unwanted_of 19 29 false rfl (by kernel_rfl) hgu) (by decide) hS rfl
              · obtain rfl := Option.some.inj hi
                have hgu : a'.tmps.getD 29 undef = _ := pre_of hpre 19 29 (by kernel_rfl) (by kernel_rfl)
                exact sq_skip rfl (unwanted_of 19 29 false rfl (by kernel_rfl) hgu) (by decide) hS rfl
              · obtain rfl := Option.some.inj hi
                have hgu : a'.tmps.getD 29 undef = _ := pre_of hpre 19 29 (by kernel_rfl) (by kernel_rfl)
                exact sq_skip rfl (unwanted_of 19 29 false rfl (by kernel_rfl) hgu) (by decide) hS rfl
              · obtain rfl := Option.some.inj hi
                have hgu : a'.tmps.getD 29 undef = _ := pre_of hpre 19 29 (by kernel_rfl) (by kernel_rfl)
                exact sq_skip rfl (unwanted_of 19 29 false rfl (by kernel_rfl) hgu) (by decide) hS rfl
              · obtain rfl := Option.some.inj hi
                have hgu : a'.tmps.getD 29 undef = _ := pre_of hpre 19 29 (by kernel_rfl) (by kernel_rfl)
                exact sq_skip rfl (unwanted_of 19 29 false rfl (by kernel_rfl) hgu) (by decide) hS rfl
              · obtain rfl := Option.some.inj hi
                have hgu : a'.tmps.getD 29 undef = _ := pre_of hpre 19 29 (by kernel_rfl) (by kernel_rfl)
                exact sq_skip rfl (unwanted_of 19 29 false rfl (by kernel_rfl) hgu) (by decide) hS rfl
              · obtain rfl := Option.some.inj hi
                have hgu : a'.tmps.getD 29 undef = _ := pre_of hpre 19 29 (by kernel_rfl) (by kernel_rfl)
                exact sq_skip rfl (unwanted_of 19 29 false rfl (by kernel_rfl) hgu) (by decide) hS rfl
              · obtain rfl := Option.some.inj hi
                have hgu : a'.tmps.getD 29 undef = _ := pre_of hpre 19 29 (by kernel_rfl) (by kernel_rfl)
                exact sq_skip rfl (unwanted_of 19 29 false rfl (by kernel_rfl) hgu) (by decide) hS rfl
              · obtain rfl := Option.some.inj hi
                have hgu : a'.tmps.getD 29 undef = _ := pre_of hpre 19 29 (by kernel_rfl) (by kernel_rfl)
                exact sq_skip rfl (unwanted_of 19 29 false rfl (by kernel_rfl) hgu) (by decide) hS rfl
              · obtain rfl := Option.some.inj hi
                have hgu : a'.tmps.getD 26 undef = _ := pre_of hpre 16 26 (by kernel_rfl) (by kernel_rfl)
                have h0 : a'.tmps.getD 29 undef = _ := pre_of hpre 19 29 (by kernel_rfl) (by kernel_rfl)
                exact sq_value _ rfl (wanted_of 16 26 false rfl (by kernel_rfl) hgu) (pick_run 29 false _ _ _ _ rfl h0 rfl rfl) (Below.refl _ _) (by decide) hS RB rfl
              · obtain rfl := Option.some.inj hi
                have h0 : a'.tmps.getD 26 undef = _ := pre_of hpre 16 26 (by kernel_rfl) (by kernel_rfl)
                have h1 : a'.tmps.getD 42 undef = _ := pre_of hpre 32 42 (by kernel_rfl) (by kernel_rfl)
                exact sq_value _ rfl rfl (pick_run 26 false _ _ _ _ rfl h0 rfl h1) (Below.refl _ _) (by decide) hS RB rfl
            · intro a' w3 f inv hS hall hd
              have hk33 := hd 33 43 (by kernel_rfl)
              have ho : Only [] wr w3 := inv.grow
              have hdf : a'.defers = [] := inv.defers
              have hsz : a'.tmps.size = 47 := inv.size
              have e := frame26 hsz (fun t ht => inv.old t (dstsIn_spec (ts := [10, 11, 12, 13, 14, 15, 16, 17, 18, 19, 20, 21, 22, 23, 24, 25, 26, 27, 28, 29, 30, 31, 32, 33, 34, 35, 36, 37, 38, 39, 40, 41, 42, 43]) (by kernel_rfl) t ht))
              have hR := hS.done (fun c hc => hall c (show c < 34 by simp at hc <;> omega))
              clear inv hd hsz hall hS
              obtain ⟨tmps, defers⟩ := a'
              obtain rfl : defers = [] := hdf
              replace e : tmps = _ := e
              replace hk33 : tmps.getD 43 undef = (.bool false) := hk33
              generalize tmps.getD 10 undef = x10 at *
              generalize tmps.getD 11 undef = x11 at *
              generalize tmps.getD 12 undef = x12 at *
              generalize tmps.getD 13 undef = x13 at *
              generalize tmps.getD 14 undef = x14 at *
              generalize tmps.getD 15 undef = x15 at *
              generalize tmps.getD 16 undef = x16 at *
              generalize tmps.getD 17 undef = x17 at *
              generalize tmps.getD 18 undef = x18 at *
              generalize tmps.getD 19 undef = x19 at *
              generalize tmps.getD 20 undef = x20 at *
              generalize tmps.getD 21 undef = x21 at *
              generalize tmps.getD 22 undef = x22 at *
              generalize tmps.getD 23 undef = x23 at *
              generalize tmps.getD 24 undef = x24 at *
              generalize tmps.getD 25 undef = x25 at *
              generalize tmps.getD 26 undef = x26 at *
              generalize tmps.getD 27 undef = x27 at *
              generalize tmps.getD 28 undef = x28 at *
              generalize tmps.getD 29 undef = x29 at *
              generalize tmps.getD 30 undef = x30 at *
              generalize tmps.getD 31 undef = x31 at *
              generalize tmps.getD 32 undef = x32 at *
              generalize tmps.getD 33 undef = x33 at *
              generalize tmps.getD 34 undef = x34 at *
              generalize tmps.getD 35 undef = x35 at *
              generalize tmps.getD 36 undef = x36 at *
              generalize tmps.getD 37 undef = x37 at *
              generalize tmps.getD 38 undef = x38 at *
              generalize tmps.getD 39 undef = x39 at *
              generalize tmps.getD 40 undef = x40 at *
              generalize tmps.getD 41 undef = x41 at *
              generalize tmps.getD 42 undef = x42 at *
              generalize tmps.getD 43 undef = x43 at *
              simp only [Array.getD_eq_getD_getElem?, List.getElem?_toArray, List.getElem?_cons_succ, List.getElem?_cons_zero, Option.getD_some] at e
              subst e
              subst hk33
              have HB3 : Hid (Below w.heap.size w w3) := HFIN.out _ ho
              clear ho hR
              go_wp2_with fail
              refine ⟨⟨j + 1, by omega, (by first | (simp; done) | (simp; omega)), HB3, HNX⟩, ?_⟩
              simp only [intOf]
              omega
        · have HLN : Hid (((x2.length : Int) == 48) = false) := by show _ = _; simp; omega
          have HF2 : Hid (res = false) := HF0.out (fun g => hln g.2.2)
          clear HF0 HNX0 HST HPS HPP hw HPV
          go_wp2_with fail
          have RB : ∀ k w w', Below w.heap.size w w' → (fun (_ : Nat) (_ : World) => True) k w → (fun (_ : Nat) (_ : World) => True) k w' := fun _ _ _ _ _ => trivial
          refine wp_region_st (rwB ba oa n c j x1 x2) (fun u u' => Only [] u u') (SeqS [] (fun (_ : Nat) (_ : World) => True)) (by kernel_rfl) (only_drew _ _) (only_trans _) (rwB_kept ba oa n c j x1 x2) (by kernel_rfl) (SeqS.start (trivial)) ?_ ?_
          · intro i o a' w' f hi inv hS hfi hfw hpre
            have ho : Only [] wr w' := inv.grow
            have hlt : i < 34 := (Array.getElem?_eq_some_iff.1 hi).1
            obtain rfl|rfl|rfl|rfl|rfl|rfl|rfl|rfl|rfl|rfl|rfl|rfl|rfl|rfl|rfl|rfl|rfl|rfl|rfl|rfl|rfl|rfl|rfl|rfl|rfl|rfl|rfl|rfl|rfl|rfl|rfl|rfl|rfl|rfl : i = 0 ∨ i = 1 ∨ i = 2 ∨ i = 3 ∨ i = 4 ∨ i = 5 ∨ i = 6 ∨ i = 7 ∨ i = 8 ∨ i = 9 ∨ i = 10 ∨ i = 11 ∨ i = 12 ∨ i = 13 ∨ i = 14 ∨ i = 15 ∨ i = 16 ∨ i = 17 ∨ i = 18 ∨ i = 19 ∨ i = 20 ∨ i = 21 ∨ i = 22 ∨ i = 23 ∨ i = 24 ∨ i = 25 ∨ i = 26 ∨ i = 27 ∨ i = 28 ∨ i = 29 ∨ i = 30 ∨ i = 31 ∨ i = 32 ∨ i = 33 := by omega
            · obtain rfl := Option.some.inj hi
              exact sq_value _ rfl rfl rfl (Below.refl _ _) (by decide) hS RB (by show a'.tmps.getD 0 undef = _; rw [inv.old 0 (notDst_spec (by kernel_rfl))]; rfl)
            · obtain rfl := Option.some.inj hi
              exact sq_value _ rfl rfl rfl (Below.refl _ _) (by decide) hS RB (by show a'.tmps.getD 3 undef = _; rw [inv.old 3 (notDst_spec (by kernel_rfl))]; rfl)
            · obtain rfl := Option.some.inj hi
              have h0 : a'.tmps.getD 10 undef = _ := pre_of hpre 0 10 (by kernel_rfl) (by kernel_rfl)
              have h1 : a'.tmps.getD 11 undef = _ := pre_of hpre 1 11 (by kernel_rfl) (by kernel_rfl)
              exact sq_value _ rfl rfl (idx28_run 10 11 ba oa n c j rfl h0 h1 hjn) (Below.refl _ _) (by decide) hS RB rfl
            · obtain rfl := Option.some.inj hi
              have h0 : a'.tmps.getD 12 undef = _ := pre_of hpre 2 12 (by kernel_rfl) (by kernel_rfl)
              exact sq_value _ rfl rfl (fo_run 107 0 12 ba (oa + j * 2) rfl h0 (fo47_0 ba (oa + j * 2))) (Below.refl _ _) (by decide) hS RB rfl
            · obtain rfl := Option.some.inj hi
              have h0 : a'.tmps.getD 13 undef = _ := pre_of hpre 3 13 (by kernel_rfl) (by kernel_rfl)
              exact sq_value _ rfl rfl (load_run 3 13 ba (oa + j * 2 + 0) _ rfl h0 (ld3 (HA0.out w' ho))) (Below.refl _ _) (by decide) hS RB rfl
            · obtain rfl := Option.some.inj hi
              have h0 : a'.tmps.getD 14 undef = _ := pre_of hpre 4 14 (by kernel_rfl) (by kernel_rfl)
              refine sq_quiet 79 #[a'.tmps.getD 14 undef] rfl rfl (by kernel_rfl) (by decide) hS ?_
              rw [h0]
              exact (who_any _ w').mono (by rintro e u ⟨rfl, rfl⟩; exact ⟨_, rfl, Only.refl _ _, (fun _ h => h), by rw [HWH.out]; rfl⟩)
            · obtain rfl := Option.some.inj hi
              have h0 : a'.tmps.getD 15 undef = _ := pre_of hpre 5 15 (by kernel_rfl) (by kernel_rfl)
              exact sq_value _ rfl rfl (not_run 15 true rfl h0) (Below.refl _ _) (by decide) hS RB rfl
            · obtain rfl := Option.some.inj hi
              have h0 := pre_of hpre 6 16 (by kernel_rfl) (by kernel_rfl)
              exact sq_value _ rfl rfl (rfl) (Below.refl _ _) (by decide) hS RB h0
            · obtain rfl := Option.some.inj hi
              have hgu : a'.tmps.getD 17 undef = _ := pre_of hpre 7 17 (by kernel_rfl) (by kernel_rfl)
              exact sq_value _ rfl (wanted_of 7 17 false rfl (by kernel_rfl) hgu) rfl (Below.refl _ _) (by decide) hS RB (by show a'.tmps.getD 0 undef = _; rw [inv.old 0 (notDst_spec (by kernel_rfl))]; rfl)
            · obtain rfl := Option.some.inj hi
              have hgu : a'.tmps.getD 17 undef = _ := pre_of hpre 7 17 (by kernel_rfl) (by kernel_rfl)
              exact sq_value _ rfl (wanted_of 7 17 false rfl (by kernel_rfl) hgu) rfl (Below.refl _ _) (by decide) hS RB (by show a'.tmps.getD 3 undef = _; rw [inv.old 3 (notDst_spec (by kernel_rfl))]; rfl)
            · obtain rfl := Option.some.inj hi
              have hgu : a'.tmps.getD 17 undef = _ := pre_of hpre 7 17 (by kernel_rfl) (by kernel_rfl)
              have h0 : a'.tmps.getD 18 undef = _ := pre_of hpre 8 18 (by kernel_rfl) (by kernel_rfl)
              have h1 : a'.tmps.getD 19 undef = _ := pre_of hpre 9 19 (by kernel_rfl) (by kernel_rfl)
              exact sq_value _ rfl (wanted_of 7 17 false rfl (by kernel_rfl) hgu) (idx28_run 18 19 ba oa n c j rfl h0 h1 hjn) (Below.refl _ _) (by decide) hS RB rfl
            · obtain rfl := Option.some.inj hi
              have hgu : a'.tmps.getD 17 undef = _ := pre_of hpre 7 17 (by kernel_rfl) (by kernel_rfl)
              have h0 : a'.tmps.getD 20 undef = _ := pre_of hpre 10 20 (by kernel_rfl) (by kernel_rfl)
              exact sq_value _ rfl (wanted_of 7 17 false rfl (by kernel_rfl) hgu) (fo_run 107 1 20 ba (oa + j * 2) rfl h0 (fo47_1 ba (oa + j * 2))) (Below.refl _ _) (by decide) hS RB rfl
            · obtain rfl := Option.some.inj hi
              have hgu : a'.tmps.getD 17 undef = _ := pre_of hpre 7 17 (by kernel_rfl) (by kernel_rfl)
              have h0 : a'.tmps.getD 21 undef = _ := pre_of hpre 11 21 (by kernel_rfl) (by kernel_rfl)
              exact sq_value _ rfl (wanted_of 7 17 false rfl (by kernel_rfl) hgu) (load_run 22 21 ba (oa + j * 2 + 1) _ rfl h0 (ld22 (HA1.out w' ho))) (Below.refl _ _) (by decide) hS RB (HSA.out w' ho)
            · obtain rfl := Option.some.inj hi
              have hgu : a'.tmps.getD 17 undef = _ := pre_of hpre 7 17 (by kernel_rfl) (by kernel_rfl)
              have h0 := pre_of hpre 12 22 (by kernel_rfl) (by kernel_rfl)
              exact sq_value _ rfl (wanted_of 7 17 false rfl (by kernel_rfl) hgu) (len_run 22 rfl h0.1) (Below.refl _ _) (by decide) hS RB rfl
            · obtain rfl := Option.some.inj hi
              have hgu : a'.tmps.getD 17 undef = _ := pre_of hpre 7 17 (by kernel_rfl) (by kernel_rfl)
              have h0 : a'.tmps.getD 23 undef = _ := pre_of hpre 13 23 (by kernel_rfl) (by kernel_rfl)
              exact sq_value _ rfl (wanted_of 7 17 false rfl (by kernel_rfl) hgu) (neqK_run 23 _ _ rfl h0) (Below.refl _ _) (by decide) hS RB (by show Value.bool _ = _; rw [HLN.out]; rfl)
            · obtain rfl := Option.some.inj hi
              have h0 : a'.tmps.getD 17 undef = _ := pre_of hpre 7 17 (by kernel_rfl) (by kernel_rfl)
              have h1 : a'.tmps.getD 24 undef = _ := pre_of hpre 14 24 (by kernel_rfl) (by kernel_rfl)
              exact sq_value _ rfl rfl (pick_run 17 false _ _ _ _ rfl h0 rfl h1) (Below.refl _ _) (by decide) hS RB rfl
            · obtain rfl := Option.some.inj hi
              have h0 := pre_of hpre 15 25 (by kernel_rfl) (by kernel_rfl)
              exact sq_value _ rfl rfl (rfl) (Below.refl _ _) (by decide) hS RB h0
            · obtain rfl := Option.some.inj hi
              have hgu : a'.tmps.getD 26 undef = _ := pre_of hpre 16 26 (by kernel_rfl) (by kernel_rfl)
              exact sq_skip rfl (unwanted_of 16 26 true rfl (by kernel_rfl) hgu) (by decide) hS rfl
            · obtain rfl := Option.some.inj hi
              have hgu : a'.tmps.getD 26 undef = _ := pre_of hpre 16 26 (by kernel_rfl) (by kernel_rfl)
              exact sq_skip rfl (unwanted_of 16 26 true rfl (by kernel_rfl) hgu) (by decide) hS rfl
            · obtain rfl := Option.some.inj hi
              have hgu : a'.tmps.getD 26 undef = _ := pre_of hpre 16 26 (by kernel_rfl) (by kernel_rfl)
              exact sq_skip rfl (unwanted_of 16 26 true rfl (by kernel_rfl) hgu) (by decide) hS rfl
            · obtain rfl := Option.some.inj hi
              have hgu : a'.tmps.getD 29 undef = _ := pre_of hpre 19 29 (by kernel_rfl) (by kernel_rfl)
              exact sq_skip rfl (unwanted_undef 19 29 _ rfl (by kernel_rfl) hgu) (by decide) hS rfl
            · obtain rfl := Option.some.inj hi
              have hgu : a'.tmps.getD 29 undef = _ := pre_of hpre 19 29 (by kernel_rfl) (by kernel_rfl)
              exact sq_skip rfl (unwanted_undef 19 29 _ rfl (by kernel_rfl) hgu) (by decide) hS rfl
            · obtain rfl := Option.some.inj hi
              have hgu : a'.tmps.getD 29 undef = _ := pre_of hpre 19 29 (by kernel_rfl) (by kernel_rfl)
              exact sq_skip rfl (unwanted_undef 19 29 _ rfl (by kernel_rfl) hgu) (by decide) hS rfl
            · obtain rfl := Option.some.inj hi
              have hgu : a'.tmps.getD 29 undef = _ := pre_of hpre 19 29 (by kernel_rfl) (by kernel_rfl)
              exact sq_skip rfl (unwanted_undef 19 29 _ rfl (by kernel_rfl) hgu) (by decide) hS rfl
            · obtain rfl := Option.some.inj hi
              have hgu : a'.tmps.getD 29 undef = _ := pre_of hpre 19 29 (by kernel_rfl) (by kernel_rfl)
              exact sq_skip rfl (unwanted_undef 19 29 _ rfl (by kernel_rfl) hgu) (by decide) hS rfl
            · obtain rfl := Option.some.inj hi
              have hgu : a'.tmps.getD 29 undef = _ := pre_of hpre 19 29 (by kernel_rfl) (by kernel_rfl)
              exact sq_skip rfl (unwanted_undef 19 29 _ rfl (by kernel_rfl) hgu) (by decide) hS rfl
            · obtain rfl := Option.some.inj hi
              have hgu : a'.tmps.getD 29 undef = _ := pre_of hpre 19 29 (by kernel_rfl) (by kernel_rfl)
              exact sq_skip rfl (unwanted_undef 19 29 _ rfl (by kernel_rfl) hgu) (by decide) hS rfl
            · obtain rfl := Option.some.inj hi
              have hgu : a'.tmps.getD 29 undef = _ := pre_of hpre 19 29 (by kernel_rfl) (by kernel_rfl)
              exact sq_skip rfl (unwanted_undef 19 29 _ rfl (by kernel_rfl) hgu) (by decide) hS rfl
            · obtain rfl := Option.some.inj hi
              have hgu : a'.tmps.getD 29 undef = _ := pre_of hpre 19 29 (by kernel_rfl) (by kernel_rfl)
              exact sq_skip rfl (unwanted_undef 19 29 _ rfl (by kernel_rfl) hgu) (by decide) hS rfl
            · obtain rfl := Option.some.inj hi
              have hgu : a'.tmps.getD 29 undef = _ := pre_of hpre 19 29 (by kernel_rfl) (by kernel_rfl)
              exact sq_skip rfl (unwanted_undef 19 29 _ rfl (by kernel_rfl) hgu) (by decide) hS rfl
            · obtain rfl := Option.some.inj hi
              have hgu : a'.tmps.getD 29 undef = _ := pre_of hpre 19 29 (by kernel_rfl) (by kernel_rfl)
              exact sq_skip rfl (unwanted_undef 19 29 _ rfl (by kernel_rfl) hgu) (by decide) hS rfl
            · obtain rfl := Option.some.inj hi
              have hgu : a'.tmps.getD 29 undef = _ := pre_of hpre 19 29 (by kernel_rfl) (by kernel_rfl)
              exact sq_skip rfl (unwanted_undef 19 29 _ rfl (by kernel_rfl) hgu) (by decide) hS rfl
            · obtain rfl := Option.some.inj hi
              have hgu : a'.tmps.getD 26 undef = _ := pre_of hpre 16 26 (by kernel_rfl) (by kernel_rfl)
              exact sq_skip rfl (unwanted_of 16 26 true rfl (by kernel_rfl) hgu) (by decide) hS rfl
            · obtain rfl := Option.some.inj hi
              have h0 : a'.tmps.getD 26 undef = _ := pre_of hpre 16 26 (by kernel_rfl) (by kernel_rfl)
              exact sq_value _ rfl rfl (pick_run 26 true _ _ _ _ rfl h0 rfl rfl) (Below.refl _ _) (by decide) hS RB rfl
          · intro a' w3 f inv hS hall hd
            have hk33 := hd 33 43 (by kernel_rfl)
            have ho : Only [] wr w3 := inv.grow
            have hdf : a'.defers = [] := inv.defers
            have hsz : a'.tmps.size = 47 := inv.size
            have e := frame26 hsz (fun t ht => inv.old t (dstsIn_spec (ts := [10, 11, 12, 13, 14, 15, 16, 17, 18, 19, 20, 21, 22, 23, 24, 25, 26, 27, 28, 29, 30, 31, 32, 33, 34, 35, 36, 37, 38, 39, 40, 41, 42, 43]) (by kernel_rfl) t ht))
            have hR := hS.done (fun c hc => hall c (show c < 34 by simp at hc <;> omega))
            clear inv hd hsz hall hS
            obtain ⟨tmps, defers⟩ := a'
            obtain rfl : defers = [] := hdf
            replace e : tmps = _ := e
            replace hk33 : tmps.getD 43 undef = (.bool true) := hk33
            generalize tmps.getD 10 undef = x10 at *
            generalize tmps.getD 11 undef = x11 at *
            generalize tmps.getD 12 undef = x12 at *
            generalize tmps.getD 13 undef = x13 at *
            generalize tmps.getD 14 undef = x14 at *
            generalize tmps.getD 15 undef = x15 at *
            generalize tmps.getD 16 undef = x16 at *
            generalize tmps.getD 17 undef = x17 at *
            generalize tmps.getD 18 undef = x18 at *
            generalize tmps.getD 19 undef = x19 at *
            generalize tmps.getD 20 undef = x20 at *
            generalize tmps.getD 21 undef = x21 at *
            generalize tmps.getD 22 undef = x22 at *
            generalize tmps.getD 23 undef = x23 at *
            generalize tmps.getD 24 undef = x24 at *
            generalize tmps.getD 25 undef = x25 at *
            generalize tmps.getD 26 undef = x26 at *
            generalize tmps.getD 27 undef = x27 at *
            generalize tmps.getD 28 undef = x28 at *
            generalize tmps.getD 29 undef = x29 at *
            generalize tmps.getD 30 undef = x30 at *
            generalize tmps.getD 31 undef = x31 at *
            generalize tmps.getD 32 undef = x32 at *
            generalize tmps.getD 33 undef = x33 at *
            generalize tmps.getD 34 undef = x34 at *
            generalize tmps.getD 35 undef = x35 at *
            generalize tmps.getD 36 undef = x36 at *
            generalize tmps.getD 37 undef = x37 at *
            generalize tmps.getD 38 undef = x38 at *
            generalize tmps.getD 39 undef = x39 at *
            generalize tmps.getD 40 undef = x40 at *
            generalize tmps.getD 41 undef = x41 at *
            generalize tmps.getD 42 undef = x42 at *
            generalize tmps.getD 43 undef = x43 at *
            simp only [Array.getD_eq_getD_getElem?, List.getElem?_toArray, List.getElem?_cons_succ, List.getElem?_cons_zero, Option.getD_some] at e
            subst e
            subst hk33
            have HB3 : Hid (Below w.heap.size w w3) := HFIN.out _ ho
            clear ho hR
            go_wp2_with fail
            go_ret
            exact ⟨by rw [HF2.out]; rfl, HB3.out⟩
      · have HWH : Hid (decide (1 ≤ x1 ∧ x1 ≤ 16) = false) := decide_eq_false hw
        have HF2 : Hid (res = false) := HF0.out (fun g => by have := HPP.out; omega)
        clear HF0 HNX0 HST HPS HPP hw HPV
        go_wp2_with fail
        have RB : ∀ k w w', Below w.heap.size w w' → (fun (_ : Nat) (_ : World) => True) k w → (fun (_ : Nat) (_ : World) => True) k w' := fun _ _ _ _ _ => trivial
        refine wp_region_st (rwA ba oa n c j x1) (fun u u' => Only [] u u') (SeqS [] (fun (_ : Nat) (_ : World) => True)) (by kernel_rfl) (only_drew _ _) (only_trans _) (rwA_kept ba oa n c j x1) (by kernel_rfl) (SeqS.start (trivial)) ?_ ?_
        · intro i o a' w' f hi inv hS hfi hfw hpre
          have ho : Only [] wr w' := inv.grow
          have hlt : i < 34 := (Array.getElem?_eq_some_iff.1 hi).1
          obtain rfl|rfl|rfl|rfl|rfl|rfl|rfl|rfl|rfl|rfl|rfl|rfl|rfl|rfl|rfl|rfl|rfl|rfl|rfl|rfl|rfl|rfl|rfl|rfl|rfl|rfl|rfl|rfl|rfl|rfl|rfl|rfl|rfl|rfl : i = 0 ∨ i = 1 ∨ i = 2 ∨ i = 3 ∨ i = 4 ∨ i = 5 ∨ i = 6 ∨ i = 7 ∨ i = 8 ∨ i = 9 ∨ i = 10 ∨ i = 11 ∨ i = 12 ∨ i = 13 ∨ i = 14 ∨ i = 15 ∨ i = 16 ∨ i = 17 ∨ i = 18 ∨ i = 19 ∨ i = 20 ∨ i = 21 ∨ i = 22 ∨ i = 23 ∨ i = 24 ∨ i = 25 ∨ i = 26 ∨ i = 27 ∨ i = 28 ∨ i = 29 ∨ i = 30 ∨ i = 31 ∨ i = 32 ∨ i = 33 := by omega
          · obtain rfl := Option.some.inj hi
            exact sq_value _ rfl rfl rfl (Below.refl _ _) (by decide) hS RB (by show a'.tmps.getD 0 undef = _; rw [inv.old 0 (notDst_spec (by kernel_rfl))]; rfl)
          · obtain rfl := Option.some.inj hi
            exact sq_value _ rfl rfl rfl (Below.refl _ _) (by decide) hS RB (by show a'.tmps.getD 3 undef = _; rw [inv.old 3 (notDst_spec (by kernel_rfl))]; rfl)
          · obtain rfl := Option.some.inj hi
            have h0 : a'.tmps.getD 10 undef = _ := pre_of hpre 0 10 (by kernel_rfl) (by kernel_rfl)
            have h1 : a'.tmps.getD 11 undef = _ := pre_of hpre 1 11 (by kernel_rfl) (by kernel_rfl)
            exact sq_value _ rfl rfl (idx28_run 10 11 ba oa n c j rfl h0 h1 hjn) (Below.refl _ _) (by decide) hS RB rfl
          · obtain rfl := Option.some.inj hi
            have h0 : a'.tmps.getD 12 undef = _ := pre_of hpre 2 12 (by kernel_rfl) (by kernel_rfl)
            exact sq_value _ rfl rfl (fo_run 107 0 12 ba (oa + j * 2) rfl h0 (fo47_0 ba (oa + j * 2))) (Below.refl _ _) (by decide) hS RB rfl
          · obtain rfl := Option.some.inj hi
            have h0 : a'.tmps.getD 13 undef = _ := pre_of hpre 3 13 (by kernel_rfl) (by kernel_rfl)
            exact sq_value _ rfl rfl (load_run 3 13 ba (oa + j * 2 + 0) _ rfl h0 (ld3 (HA0.out w' ho))) (Below.refl _ _) (by decide) hS RB rfl
          · obtain rfl := Option.some.inj hi
            have h0 : a'.tmps.getD 14 undef = _ := pre_of hpre 4 14 (by kernel_rfl) (by kernel_rfl)
            refine sq_quiet 79 #[a'.tmps.getD 14 undef] rfl rfl (by kernel_rfl) (by decide) hS ?_
            rw [h0]
            exact (who_any _ w').mono (by rintro e u ⟨rfl, rfl⟩; exact ⟨_, rfl, Only.refl _ _, (fun _ h => h), by rw [HWH.out]; rfl⟩)
          · obtain rfl := Option.some.inj hi
            have h0 : a'.tmps.getD 15 undef = _ := pre_of hpre 5 15 (by kernel_rfl) (by kernel_rfl)
            exact sq_value _ rfl rfl (not_run 15 false rfl h0) (Below.refl _ _) (by decide) hS RB rfl
          · obtain rfl := Option.some.inj hi
            have h0 := pre_of hpre 6 16 (by kernel_rfl) (by kernel_rfl)
            exact sq_value _ rfl rfl (rfl) (Below.refl _ _) (by decide) hS RB h0
          · obtain rfl := Option.some.inj hi
            have hgu : a'.tmps.getD 17 undef = _ := pre_of hpre 7 17 (by kernel_rfl) (by kernel_rfl)
            exact sq_skip rfl (unwanted_of 7 17 true rfl (by kernel_rfl) hgu) (by decide) hS rfl
          · obtain rfl := Option.some.inj hi
            have hgu : a'.tmps.getD 17 undef = _ := pre_of hpre 7 17 (by kernel_rfl) (by kernel_rfl)
            exact sq_skip rfl (unwanted_of 7 17 true rfl (by kernel_rfl) hgu) (by decide) hS rfl
          · obtain rfl := Option.some.inj hi
            have hgu : a'.tmps.getD 17 undef = _ := pre_of hpre 7 17 (by kernel_rfl) (by kernel_rfl)
            exact sq_skip rfl (unwanted_of 7 17 true rfl (by kernel_rfl) hgu) (by decide) hS rfl
          · obtain rfl := Option.some.inj hi
            have hgu : a'.tmps.getD 17 undef = _ := pre_of hpre 7 17 (by kernel_rfl) (by kernel_rfl)
            exact sq_skip rfl (unwanted_of 7 17 true rfl (by kernel_rfl) hgu) (by decide) hS rfl
          · obtain rfl := Option.some.inj hi
            have hgu : a'.tmps.getD 17 undef = _ := pre_of hpre 7 17 (by kernel_rfl) (by kernel_rfl)
            exact sq_skip rfl (unwanted_of 7 17 true rfl (by kernel_rfl) hgu) (by decide) hS rfl
          · obtain rfl := Option.some.inj hi
            have hgu : a'.tmps.getD 17 undef = _ := pre_of hpre 7 17 (by kernel_rfl) (by kernel_rfl)
            exact sq_skip rfl (unwanted_of 7 17 true rfl (by kernel_rfl) hgu) (by decide) hS rfl
          · obtain rfl := Option.some.inj hi
            have hgu : a'.tmps.getD 17 undef = _ := pre_of hpre 7 17 (by kernel_rfl) (by kernel_rfl)
            exact sq_skip rfl (unwanted_of 7 17 true rfl (by kernel_rfl) hgu) (by decide) hS rfl
          · obtain rfl := Option.some.inj hi
            have h0 : a'.tmps.getD 17 undef = _ := pre_of hpre 7 17 (by kernel_rfl) (by kernel_rfl)
            exact sq_value _ rfl rfl (pick_run 17 true _ _ _ _ rfl h0 rfl rfl) (Below.refl _ _) (by decide) hS RB rfl
          · obtain rfl := Option.some.inj hi
            have h0 := pre_of hpre 15 25 (by kernel_rfl) (by kernel_rfl)
            exact sq_value _ rfl rfl (rfl) (Below.refl _ _) (by decide) hS RB h0
          · obtain rfl := Option.some.inj hi
            have hgu : a'.tmps.getD 26 undef = _ := pre_of hpre 16 26 (by kernel_rfl) (by kernel_rfl)
            exact sq_skip rfl (unwanted_of 16 26 true rfl (by kernel_rfl) hgu) (by decide) hS rfl
          · obtain rfl := Option.some.inj hi
            have hgu : a'.tmps.getD 26 undef = _ := pre_of hpre 16 26 (by kernel_rfl) (by kernel_rfl)
            exact sq_skip rfl (unwanted_of 16 26 true rfl (by kernel_rfl) hgu) (by decide) hS rfl
          · obtain rfl := Option.some.inj hi
            have hgu : a'.tmps.getD 26 undef = _ := pre_of hpre 16 26 (by kernel_rfl) (by kernel_rfl)
            exact sq_skip rfl (unwanted_of 16 26 true rfl (by kernel_rfl) hgu) (by decide) hS rfl
          · obtain rfl := Option.some.inj hi
            have hgu : a'.tmps.getD 29 undef = _ := pre_of hpre 19 29 (by kernel_rfl) (by kernel_rfl)
            exact sq_skip rfl (unwanted_undef 19 29 _ rfl (by kernel_rfl) hgu) (by decide) hS rfl
          · obtain rfl := Option.some.inj hi
            have hgu : a'.tmps.getD 29 undef = _ := pre_of hpre 19 29 (by kernel_rfl) (by kernel_rfl)
            exact sq_skip rfl (unwanted_undef 19 29 _ rfl (by kernel_rfl) hgu) (by decide) hS rfl
          · obtain rfl := Option.some.inj hi
            have hgu : a'.tmps.getD 29 undef = _ := pre_of hpre 19 29 (by kernel_rfl) (by kernel_rfl)
            exact sq_skip rfl (unwanted_undef 19 29 _ rfl (by kernel_rfl) hgu) (by decide) hS rfl
          · obtain rfl := Option.some.inj hi
            have hgu : a'.tmps.getD 29 undef = _ := pre_of hpre 19 29 (by kernel_rfl) (by kernel_rfl)
            exact sq_skip rfl (unwanted_undef 19 29 _ rfl (by kernel_rfl) hgu) (by decide) hS rfl
          · obtain rfl := Option.some.inj hi
            have hgu : a'.tmps.getD 29 undef = _ := pre_of hpre 19 29 (by kernel_rfl) (by kernel_rfl)
            exact sq_skip rfl (unwanted_undef 19 29 _ rfl (by kernel_rfl) hgu) (by decide) hS rfl
          · obtain rfl := Option.some.inj hi
            have hgu : a'.tmps.getD 29 undef = _ := pre_of hpre 19 29 (by kernel_rfl) (by kernel_rfl)
            exact sq_skip rfl (unwanted_undef 19 29 _ rfl (by kernel_rfl) hgu) (by decide) hS rfl
          · obtain rfl := Option.some.inj hi
            have hgu : a'.tmps.getD 29 undef = _ := pre_of hpre 19 29 (by kernel_rfl) (by kernel_rfl)
            exact sq_skip rfl (unwanted_undef 19 29 _ rfl (by kernel_rfl) hgu) (by decide) hS rfl
          · obtain rfl := Option.some.inj hi
            have hgu : a'.tmps.getD 29 undef = _ := pre_of hpre 19 29 (by kernel_rfl) (by kernel_rfl)
            exact sq_skip rfl (unwanted_undef 19 29 _ rfl (by kernel_rfl) hgu) (by decide) hS rfl
          · obtain rfl := Option.some.inj hi
            have hgu : a'.tmps.getD 29 undef = _ := pre_of hpre 19 29 (by kernel_rfl) (by kernel_rfl)
            exact sq_skip rfl (unwanted_undef 19 29 _ rfl (by kernel_rfl) hgu) (by decide) hS rfl
          · obtain rfl := Option.some.inj hi
            have hgu : a'.tmps.getD 29 undef = _ := pre_of hpre 19 29 (by kernel_rfl) (by kernel_rfl)
            exact sq_skip rfl (unwanted_undef 19 29 _ rfl (by kernel_rfl) hgu) (by decide) hS rfl
          · obtain rfl := Option.some.inj hi
            have hgu : a'.tmps.getD 29 undef = _ := pre_of hpre 19 29 (by kernel_rfl) (by kernel_rfl)
            exact sq_skip rfl (unwanted_undef 19 29 _ rfl (by kernel_rfl) hgu) (by decide) hS rfl
          · obtain rfl := Option.some.inj hi
            have hgu : a'.tmps.getD 29 undef = _ := pre_of hpre 19 29 (by kernel_rfl) (by kernel_rfl)
            exact sq_skip rfl (unwanted_undef 19 29 _ rfl (by kernel_rfl) hgu) (by decide) hS rfl
          · obtain rfl := Option.some.inj hi
            have hgu : a'.tmps.getD 26 undef = _ := pre_of hpre 16 26 (by kernel_rfl) (by kernel_rfl)
            exact sq_skip rfl (unwanted_of 16 26 true rfl (by kernel_rfl) hgu) (by decide) hS rfl
          · obtain rfl := Option.some.inj hi
            have h0 : a'.tmps.getD 26 undef = _ := pre_of hpre 16 26 (by kernel_rfl) (by kernel_rfl)
            exact sq_value _ rfl rfl (pick_run 26 true _ _ _ _ rfl h0 rfl rfl) (Below.refl _ _) (by decide) hS RB rfl
        · intro a' w3 f inv hS hall hd
          have hk33 := hd 33 43 (by kernel_rfl)
          have ho : Only [] wr w3 := inv.grow
          have hdf : a'.defers = [] := inv.defers
          have hsz : a'.tmps.size = 47 := inv.size
          have e := frame26 hsz (fun t ht => inv.old t (dstsIn_spec (ts := [10, 11, 12, 13, 14, 15, 16, 17, 18, 19, 20, 21, 22, 23, 24, 25, 26, 27, 28, 29, 30, 31, 32, 33, 34, 35, 36, 37, 38, 39, 40, 41, 42, 43]) (by kernel_rfl) t ht))
          have hR := hS.done (fun c hc => hall c (show c < 34 by simp at hc <;> omega))
          clear inv hd hsz hall hS
          obtain ⟨tmps, defers⟩ := a'
          obtain rfl : defers = [] := hdf
          replace e : tmps = _ := e
          replace hk33 : tmps.getD 43 undef = (.bool true) := hk33
          generalize tmps.getD 10 undef = x10 at *
          generalize tmps.getD 11 undef = x11 at *
          generalize tmps.getD 12 undef = x12 at *
          generalize tmps.getD 13 undef = x13 at *
          generalize tmps.getD 14 undef = x14 at *
          generalize tmps.getD 15 undef = x15 at *
          generalize tmps.getD 16 undef = x16 at *
          generalize tmps.getD 17 undef = x17 at *
          generalize tmps.getD 18 undef = x18 at *
          generalize tmps.getD 19 undef = x19 at *
          generalize tmps.getD 20 undef = x20 at *
          generalize tmps.getD 21 undef = x21 at *
          generalize tmps.getD 22 undef = x22 at *
          generalize tmps.getD 23 undef = x23 at *
          generalize tmps.getD 24 undef = x24 at *
          generalize tmps.getD 25 undef = x25 at *
          generalize tmps.getD 26 undef = x26 at *
          generalize tmps.getD 27 undef = x27 at *
          generalize tmps.getD 28 undef = x28 at *
          generalize tmps.getD 29 undef = x29 at *
          generalize tmps.getD 30 undef = x30 at *
          generalize tmps.getD 31 undef = x31 at *
          generalize tmps.getD 32 undef = x32 at *
          generalize tmps.getD 33 undef = x33 at *
          generalize tmps.getD 34 undef = x34 at *
          generalize tmps.getD 35 undef = x35 at *
          generalize tmps.getD 36 undef = x36 at *
          generalize tmps.getD 37 undef = x37 at *
          generalize tmps.getD 38 undef = x38 at *
          generalize tmps.getD 39 undef = x39 at *
          generalize tmps.getD 40 undef = x40 at *
          generalize tmps.getD 41 undef = x41 at *
          generalize tmps.getD 42 undef = x42 at *
          generalize tmps.getD 43 undef = x43 at *
          simp only [Array.getD_eq_getD_getElem?, List.getElem?_toArray, List.getElem?_cons_succ, List.getElem?_cons_zero, Option.getD_some] at e
          subst e
          subst hk33
          have HB3 : Hid (Below w.heap.size w w3) := HFIN.out _ ho
          clear ho hR
          go_wp2_with fail
          go_ret
          exact ⟨by rw [HF2.out]; rfl, HB3.out⟩
    · obtain rfl : j = n := by omega
      have j1 : ¬ (j : Int) < (j : Int) := by omega
      have HT : Hid (res = true) := by
        have := HE.out.1
        rw [List.drop_eq_nil_of_le (by rw [HN.out]; omega)] at this
        exact this.symm
      have hj16 : (j : Int) ≤ 16 := by
        have h1 : wok 0 ws = true := by rw [HR.out, HT.out]
        have := wok_le h1
        rw [HN.out] at this
        omega
      clear HE
      go_wp2_with fail
      go_ret
      exact ⟨by rw [HT.out]; rfl, HB.out⟩
end Go.Proofs.YtfjdaafckiefdaaGreatDoor.E9
