/- The contract of times. -/
import Derived.Test.YtnceiccciaihoaaP4Fold
namespace Go.Proofs.Ytnceiccciaihoaa.P4
open Go.RowKit
def fourW (w : World) (n m : List Nat) : World := (threeW w n m).alloc (Obj.cells zeros5 51)
theorem fourW_old (w : World) (n m : List Nat) {g : Nat} {s : List Nat} (h : WAt (threeW w n m) g s) : WAt (fourW w n m) g s := by
  have h' := h
  unfold WAt at h ⊢
  rw [← h]
  show ((threeW w n m).heap.push _)[g]? = _
  rw [Array.getElem?_push, if_neg (Nat.ne_of_lt h'.lt)]
theorem fourW_3 (w : World) (n m : List Nat) : WAt (fourW w n m) (w.heap.size + 3) (List.replicate 5 0) := by
  show ((threeW w n m).heap.push _)[_]? = _
  rw [Array.getElem?_push, if_pos (by rw [threeW_size])]
  rfl
theorem fourW_below (w : World) (n m : List Nat) : Below w.heap.size w (fourW w n m) := (threeW_below w n m).alloc (by rw [threeW_size]; omega) _
/-- One part of a product is added at its place. -/
theorem part_low {n m pr : List Nat} {i j : Nat} (hl : pr.length = 5) (hj : j < m.length) (hp : i + j < 5)
    (h : Po.pos Po.B pr % Po.P = (Po.pos Po.B (n.take i) * Po.pos Po.B m + Po.B ^ i * Sp.nth n i * Po.pos Po.B (m.take j)) % Po.P) :
    Po.pos Po.B (pr.set (i + j) (Sp.nth pr (i + j) + Sp.nth n i * Sp.nth m j)) % Po.P = (Po.pos Po.B (n.take i) * Po.pos Po.B m + Po.B ^ i * Sp.nth n i * Po.pos Po.B (m.take (j + 1))) % Po.P := by
  rw [Po.pos_set _ _ _ _ (by omega), Po.pos_take _ hj, Nat.mul_add, ← Nat.add_assoc, Nat.add_mod, h, ← Nat.add_mod]
  congr 2
  rw [Nat.pow_add, Nat.mul_assoc, Nat.mul_assoc]
  congr 1
  rw [← Nat.mul_assoc, ← Nat.mul_assoc, Nat.mul_comm (Po.B ^ j)]
theorem part_high {n m pr : List Nat} {i j p : Nat} (hl : pr.length = 5) (hj : j < m.length) (hp : i + j = p + 5) (hp5 : p < 5)
    (h : Po.pos Po.B pr % Po.P = (Po.pos Po.B (n.take i) * Po.pos Po.B m + Po.B ^ i * Sp.nth n i * Po.pos Po.B (m.take j)) % Po.P) :
    Po.pos Po.B (pr.set p (Sp.nth pr p + 5 * (Sp.nth n i * Sp.nth m j))) % Po.P = (Po.pos Po.B (n.take i) * Po.pos Po.B m + Po.B ^ i * Sp.nth n i * Po.pos Po.B (m.take (j + 1))) % Po.P := by
  have e := Po.place_mod (Sp.nth n i * Sp.nth m j) (i + j) (by omega)
  rw [show i + j - 5 = p from by omega] at e
  have e2 : Po.B ^ (i + j) * (Sp.nth n i * Sp.nth m j) = Po.B ^ i * Sp.nth n i * (Po.B ^ j * Sp.nth m j) := by
    rw [Nat.pow_add, Nat.mul_assoc, Nat.mul_assoc]
    congr 1
    rw [← Nat.mul_assoc, ← Nat.mul_assoc, Nat.mul_comm (Po.B ^ j)]
  rw [Po.pos_set _ _ _ _ (by omega), Po.pos_take _ hj, Nat.mul_add, ← Nat.add_assoc, Nat.add_mod, h, e, ← Nat.add_mod, e2]
theorem mul_le_53 {y z : Nat} (hy : y < 134217728) (hz : z < 67108864) : y * z ≤ 9007199254740992 := by
  have := Nat.mul_le_mul (Nat.le_of_lt hy) (Nat.le_of_lt hz)
  omega
set_option maxHeartbeats 1000000 in
theorem times_any (n m : List Nat) (w : World) (hln : n.length = 5) (hlm : m.length = 5) (hn : ∀ x ∈ n, x < 134217728) (hm : ∀ x ∈ m, x < 67108864) :
    Calls Try.prog 28 #[.agg (arr .u64 n), .agg (arr .u64 m)] w fun e w' => ∃ d, e = .returned (.agg (arr .u64 d)) ∧ Wide d ∧ Po.pos Po.B d % Po.P = (Po.pos Po.B n * Po.pos Po.B m) % Po.P ∧ Below w.heap.size w w' := by
  have HLN : Hid (n.length = 5) := hln
  have HLM : Hid (m.length = 5) := hlm
  have HN : Hid (∀ x ∈ n, x < 134217728) := hn
  have HM : Hid (∀ x ∈ m, x < 67108864) := hm
  clear hln hlm hn hm
  go_enter Try.func28, Try.ntmps28
  go_wp2_with fail
  rw [zeros5_eq, show (((w.alloc (Obj.cells (arr .u64 n) 51)).alloc (Obj.cells (arr .u64 m) 51)).alloc (Obj.cells zeros5 51)).alloc (Obj.cells zeros5 51) = fourW w n m from rfl]
  have H0 : Hid (WAt (fourW w n m) w.heap.size n) := fourW_old w n m (threeW_0 w n m)
  have H1 : Hid (WAt (fourW w n m) (w.heap.size + 1) m) := fourW_old w n m (threeW_1 w n m)
  have H2 : Hid (WAt (fourW w n m) (w.heap.size + 2) (List.replicate 5 0)) := fourW_old w n m (threeW_2 w n m)
  have H3 : Hid (WAt (fourW w n m) (w.heap.size + 3) (List.replicate 5 0)) := fourW_3 w n m
  have HB : Hid (Below w.heap.size w (fourW w n m)) := fourW_below w n m
  generalize fourW w n m = W at *
  go_loopw [10] (fun u wr => ∃ (i : Nat) (pr : List Nat), i ≤ 5 ∧ u = .int .i64 i ∧ Hid (WAt wr (w.heap.size + 3) pr) ∧ Hid (W.grownBy wr (some (w.heap.size + 3))) ∧ Hid (pr.length = 5) ∧ Hid (∀ x ∈ pr, x ≤ 5 * i * 45035996273704960) ∧ Hid (Po.pos Po.B pr % Po.P = (Po.pos Po.B (n.take i) * Po.pos Po.B m) % Po.P)) (fun u _ => 5 - (intOf u).toNat)
  case atStart => exact ⟨0, _, by omega, rfl, H3.out, grownBy_refl _ _, by show _ = _; simp, fun x hx => by simp at hx; omega, by show _ = _; simp [Po.pos, List.replicate]⟩
  case round =>
    clear H3
    obtain ⟨i, pr, hi, rfl, HS, HG, HSL, HSB, HP⟩ := hrel
    by_cases hlt : i < 5
    · have i0 : (0 : Int) ≤ (i : Int) := by omega
      have i1 : (i : Int) < 5 := by omega
      go_wp2_with fail
      go_loopw [13] (fun u wr => ∃ (j : Nat) (pr : List Nat), j ≤ 5 ∧ u = .int .i64 j ∧ Hid (WAt wr (w.heap.size + 3) pr) ∧ Hid (W.grownBy wr (some (w.heap.size + 3))) ∧ Hid (pr.length = 5) ∧ Hid (∀ x ∈ pr, x ≤ (5 * i + j) * 45035996273704960) ∧ Hid (Po.pos Po.B pr % Po.P = (Po.pos Po.B (n.take i) * Po.pos Po.B m + Po.B ^ i * Sp.nth n i * Po.pos Po.B (m.take j)) % Po.P)) (fun u _ => 5 - (intOf u).toNat)
      case atStart => exact ⟨0, pr, by omega, rfl, HS.out, HG.out, HSL.out, HSB.out, by show _ = _; rw [HP.out]; simp [Po.pos]⟩
      case round =>
        clear HS HG HSL HSB HP
        obtain ⟨j, pr, hj, rfl, HS, HG, HSL, HSB, HP⟩ := hrel
        by_cases hjl : j < 5
        · have cn := (H0.out.grown HG.out (by omega)).cell i (by rw [HLN.out]; exact hlt)
          have cm := (H1.out.grown HG.out (by omega)).cell j (by rw [HLM.out]; exact hjl)
          have xn : Sp.nth n i < 134217728 := Sp.nth_lt (by decide) HN.out i
          have xm : Sp.nth m j < 67108864 := Sp.nth_lt (by decide) HM.out j
          have hv := mul_le_53 xn xm
          have e1 : ((Sp.nth n i : Nat) : Int) * ((Sp.nth m j : Nat) : Int) = ((Sp.nth n i * Sp.nth m j : Nat) : Int) := by simp
          have j0 : (0 : Int) ≤ (j : Int) := by omega
          have j1 : (j : Int) < 5 := by omega
          by_cases h5 : i + j < 5
          · have hnp : Sp.nth pr (i + j) < (5 * i + j) * 45035996273704960 + 1 := Sp.nth_lt (by omega) (fun x hx => by have := HSB.out x hx; omega) (i + j)
            have cp := HS.out.cell (i + j) (by rw [HSL.out]; exact h5)
            have fp := HS.out.may (i + j)
            have HS2 : Hid (WAt (((wr.drewN 1).setCell ⟨w.heap.size + 3, i + j, none⟩ (.int .u64 ((Sp.nth pr (i + j) + Sp.nth n i * Sp.nth m j : Nat) : Int)))) (w.heap.size + 3) (pr.set (i + j) (Sp.nth pr (i + j) + Sp.nth n i * Sp.nth m j))) := (HS.out.drewN 1).set _ _
            have HG2 : Hid (W.grownBy ((wr.drewN 1).setCell ⟨w.heap.size + 3, i + j, none⟩ (.int .u64 ((Sp.nth pr (i + j) + Sp.nth n i * Sp.nth m j : Nat) : Int))) (some (w.heap.size + 3))) := grownBy_set (grownBy_drewN HG.out 1) _ _
            have HSL2 : Hid ((pr.set (i + j) (Sp.nth pr (i + j) + Sp.nth n i * Sp.nth m j)).length = 5) := by show _ = _; rw [List.length_set]; exact HSL.out
            have HSB2 : Hid (∀ x ∈ pr.set (i + j) (Sp.nth pr (i + j) + Sp.nth n i * Sp.nth m j), x ≤ (5 * i + (j + 1)) * 45035996273704960) := fun x hx => by
              have := set_le HSB.out hv x hx
              omega
            have HP2 : Hid (Po.pos Po.B (pr.set (i + j) (Sp.nth pr (i + j) + Sp.nth n i * Sp.nth m j)) % Po.P = (Po.pos Po.B (n.take i) * Po.pos Po.B m + Po.B ^ i * Sp.nth n i * Po.pos Po.B (m.take (j + 1))) % Po.P) := part_low HSL.out (by rw [HLM.out]; exact hjl) h5 HP.out
            clear HS HG HSL HSB HP
            generalize pr.set (i + j) (Sp.nth pr (i + j) + Sp.nth n i * Sp.nth m j) = pr2 at *
            generalize Sp.nth n i * Sp.nth m j = v at *
            generalize Sp.nth pr (i + j) = old at *
            generalize hy : Sp.nth n i = y at cn xn e1
            generalize Sp.nth m j = z at cm xm e1
            have HY : Hid (Sp.nth n i = y) := hy
            clear hy
            have e2 : ((old + v : Nat) : Int) = (old : Int) + (v : Int) := by omega
            rw [e2] at HS2 HG2
            have p1 : (i : Int) + (j : Int) < 5 := by omega
            have p2 : ((i : Int) + (j : Int)).toNat = i + j := by omega
            have p3 : ¬ 5 ≤ (i : Int) + (j : Int) := by omega
            go_wp2_with fail
            go_region
            go_wp2_with fail
            go_roundw
            case rel => exact ⟨j + 1, pr2, by omega, by go_num, HS2.out, HG2.out, HSL2.out, HSB2.out, by show _ = _; rw [← HY.out]; exact HP2.out⟩
            case measure => simp [intOf]; omega
          · obtain ⟨p, hpp⟩ : ∃ p, i + j - 5 = p := ⟨_, rfl⟩
            have hp : i + j = p + 5 := by omega
            have hp5 : p < 5 := by omega
            clear hpp
            have hnp : Sp.nth pr p < (5 * i + j) * 45035996273704960 + 1 := Sp.nth_lt (by omega) (fun x hx => by have := HSB.out x hx; omega) p
            have cp := HS.out.cell p (by rw [HSL.out]; exact hp5)
            have fp := HS.out.may p
            have HS2 : Hid (WAt (((wr.drewN 1).setCell ⟨w.heap.size + 3, p, none⟩ (.int .u64 ((Sp.nth pr p + 5 * (Sp.nth n i * Sp.nth m j) : Nat) : Int)))) (w.heap.size + 3) (pr.set p (Sp.nth pr p + 5 * (Sp.nth n i * Sp.nth m j)))) := (HS.out.drewN 1).set _ _
            have HG2 : Hid (W.grownBy ((wr.drewN 1).setCell ⟨w.heap.size + 3, p, none⟩ (.int .u64 ((Sp.nth pr p + 5 * (Sp.nth n i * Sp.nth m j) : Nat) : Int))) (some (w.heap.size + 3))) := grownBy_set (grownBy_drewN HG.out 1) _ _
            have HSL2 : Hid ((pr.set p (Sp.nth pr p + 5 * (Sp.nth n i * Sp.nth m j))).length = 5) := by show _ = _; rw [List.length_set]; exact HSL.out
            have HSB2 : Hid (∀ x ∈ pr.set p (Sp.nth pr p + 5 * (Sp.nth n i * Sp.nth m j)), x ≤ (5 * i + (j + 1)) * 45035996273704960) := fun x hx => by
              have := set_le HSB.out (show 5 * (Sp.nth n i * Sp.nth m j) ≤ 45035996273704960 by omega) x hx
              omega
            have HP2 : Hid (Po.pos Po.B (pr.set p (Sp.nth pr p + 5 * (Sp.nth n i * Sp.nth m j))) % Po.P = (Po.pos Po.B (n.take i) * Po.pos Po.B m + Po.B ^ i * Sp.nth n i * Po.pos Po.B (m.take (j + 1))) % Po.P) := part_high HSL.out (by rw [HLM.out]; exact hjl) hp hp5 HP.out
            clear HS HG HSL HSB HP
            generalize pr.set p (Sp.nth pr p + 5 * (Sp.nth n i * Sp.nth m j)) = pr2 at *
            generalize Sp.nth n i * Sp.nth m j = v at *
            generalize Sp.nth pr p = old at *
            generalize hy : Sp.nth n i = y at cn xn e1
            generalize Sp.nth m j = z at cm xm e1
            have HY : Hid (Sp.nth n i = y) := hy
            clear hy
            have e2 : ((old + 5 * v : Nat) : Int) = (old : Int) + (v : Int) * 5 := by omega
            rw [e2] at HS2 HG2
            have p1 : (i : Int) + (j : Int) - 5 = (p : Int) := by omega
            have p2 : (0 : Int) ≤ (p : Int) := by omega
            have p3 : 5 ≤ (i : Int) + (j : Int) := by omega
            have p4 : (p : Int) < 5 := by omega
            clear hp h5
            go_wp2_with fail
            go_region
            go_wp2_with fail
            go_roundw
            case rel => exact ⟨j + 1, pr2, by omega, by go_num, HS2.out, HG2.out, HSL2.out, HSB2.out, by show _ = _; rw [← HY.out]; exact HP2.out⟩
            case measure => simp [intOf]; omega
        · obtain rfl : j = 5 := by omega
          have h6 : m.take 5 = m := List.take_of_length_le (by rw [HLM.out]; exact Nat.le_refl _)
          have HP6 : Hid (Po.pos Po.B pr % Po.P = (Po.pos Po.B (n.take (i + 1)) * Po.pos Po.B m) % Po.P) := by
            show _ = _
            rw [HP.out, h6, Po.pos_take _ (by rw [HLN.out]; exact hlt), Nat.add_mul]
          have HSB6 : Hid (∀ x ∈ pr, x ≤ 5 * (i + 1) * 45035996273704960) := fun x hx => by
            have := HSB.out x hx
            omega
          clear HP h6 HSB
          go_wp2_with fail
          go_roundw
          case rel => exact ⟨i + 1, pr, by omega, by go_num, HS.out, HG.out, HSL.out, HSB6.out, HP6.out⟩
          case measure => simp [intOf]; omega
    · obtain rfl : i = 5 := by omega
      have h6 : n.take 5 = n := List.take_of_length_le (by rw [HLN.out]; exact Nat.le_refl _)
      have hp := HP.out
      rw [h6] at hp
      have HP6 : Hid (Po.pos Po.B pr % Po.P = (Po.pos Po.B n * Po.pos Po.B m) % Po.P) := hp
      have H6 : Hid (WAt wr (w.heap.size + 2) (List.replicate 5 0)) := H2.out.grown HG.out (by omega)
      have HB6 : Hid (Below w.heap.size w wr) := below_grown HB.out HG.out (by omega)
      have HC := fold_any pr (w.heap.size + 3) wr HS.out HSL.out (fun x hx => by have := HSB.out x hx; omega)
      clear hp h6 HP HS HG HSB HB H0 H1 H2 HN HM
      go_wp2_with fail
      refine HC.mono ?_
      rintro e w1 ⟨rfl, d, hwd, hpd, hw1, hg1⟩
      clear HC
      have HD : Hid (Wide d) := hwd
      have HPD : Hid (Po.pos Po.B d % Po.P = (Po.pos Po.B n * Po.pos Po.B m) % Po.P) := hpd.trans HP6.out
      have HDL : Hid (d.length = 5) := hwd.1
      have H7 : Hid (WAt w1 (w.heap.size + 3) d) := hw1
      have H8 : Hid (WAt w1 (w.heap.size + 2) (List.replicate 5 0)) := H6.out.grown hg1 (by omega)
      have HB8 : Hid (Below w.heap.size w w1) := below_grown HB6.out hg1 (by omega)
      clear hwd hpd hw1 hg1 H6 HB6 HP6
      go_wp2_with (first | with_reducible (refine stop_load 51 ?_))
      refine Stop.go ?_
      with_reducible refine law_load_arr (w.heap.size + 3) 0 .u64 d _ ?ux ?uc under38 rfl ?ui ?uk
      case ux => exact rfl
      case uc => exact rangeAt_of_row H7.out
      case ui => rw [HDL.out]; exact info38
      go_wp2_with (first | with_reducible (refine stop_store 51 ?_))
      refine Stop.go ?_
      with_reducible refine law_store (w.heap.size + 2) 0 (arr .u64 d) ?tx ?ty ?tt ?ti (ints_one _ _) ?tk
      case tx => exact rfl
      case ty => exact rfl
      case tt => rw [arr_size, HDL.out]; exact there_of_row H8.out 5 (by simp [arr_size])
      case ti => rw [arr_size, HDL.out]; exact info38
      go_wp2_with fail
      refine bodyPost_ret (v := .agg (arr .u64 d)) (results_row rfl _ _ (w.heap.size + 2) 0 (ints .u64 d) _ rfl ?_ under38 rfl ?_) rfl ⟨d, rfl, HD.out, HPD.out, ?_⟩
      · exact World.rangeAt_setCells_same _ _ _ _ (by rw [arr_list, ints_length, HDL.out]; exact there_of_row H8.out 5 (by simp [arr_size]))
      · rw [ints_length, HDL.out]; exact info38
      · exact Below.setCells _ _ _ HB8.out (by omega)
end Go.Proofs.Ytnceiccciaihoaa.P4
