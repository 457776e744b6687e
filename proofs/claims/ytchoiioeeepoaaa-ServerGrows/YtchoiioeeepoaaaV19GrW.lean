/- ServerGrows: the walk. -/
import Derived.Test.YtchoiioeeepoaaaV19Ll
namespace Go.Proofs.Ytchoiioeeepoaaa.V19
open Go.RowKit C8 E9 F17
set_option maxHeartbeats 8000000 in
set_option maxRecDepth 20000 in
theorem grows_any (q : Option Addr) (cp : Nat) (lss : List Ls) (w : World) (h : LlRow w q lss) (hl : lss.length ≤ 9223372036854775807) :
    Calls Try.prog 4 #[.slice q lss.length cp] w fun e w' => e = .returned (.bool true) ∧ Below w.heap.size w w' := by
  obtain ⟨n, HN⟩ : ∃ n, Hid (lss.length = n) := ⟨_, rfl⟩
  have HA : Hid (LlRow w q lss) := h
  have hn : n ≤ 9223372036854775807 := by rw [← HN.out]; exact hl
  rw [HN.out]
  have HC : Calls Try.prog 9 #[] w fun e w' => e = .returned (.bool true) ∧ Hid (Below w.heap.size w w') := anchor_any w
  clear h hl
  go_enter Try.func4, Try.ntmps4
  go_wp2_with fail
  refine HC.mono ?_
  rintro e w1 ⟨rfl, H1⟩
  clear HC
  by_cases h30 : (30 : Int) < (n : Int)
  · go_wp2_with fail
    go_ret
    exact ⟨rfl, H1.out⟩
  have HIN : Hid (In64 0 ∧ In64 1) := by unfold In64; exact ⟨by omega, by omega⟩
  go_wp2_with fail
  refine (Sk.new H1.out).mono ?_
  rintro e w2 ⟨p, b, rfl, H2⟩
  go_wp2_with fail
  go_loopw [21, 4] (fun i v wr => ∃ j : Nat, j ≤ n ∧ i = .int .i64 j ∧ ∃ wq wc z, v = .slice wq z wc ∧ z ≤ 64 ∧ Hid (∃ m M, m ≤ j ∧ (M 0 1).length = z ∧ (M 0 1).Nodup ∧ Sk w wr p b m M [(wq, M 0 1)])) (fun i _ _ => n - (intOf i).toNat)
  case atStart => exact ⟨0, by omega, rfl, none, 0, 0, rfl, by omega, 0, none0, by omega, rfl, List.nodup_nil, H2.out.sv, fun r hr => by rw [List.mem_singleton.1 hr]; exact LkRow.nil _ _⟩
  case round =>
    obtain ⟨j, hj, rfl, wq, wc, z, rfl, hz64, HQ⟩ := hrel
    obtain ⟨m, M, hm, hz, hnd, hsk⟩ := HQ.out
    have HSK : Hid (Sk w wr p b m M [(wq, M 0 1)]) := hsk
    have HZ : Hid ((M 0 1).length = z) := hz
    have HND0 : Hid ((M 0 1).Nodup) := hnd
    clear hsk hz hnd HQ
    by_cases hlt : j < n
    · have ja : j < lss.length := by rw [HN.out]; exact hlt
      obtain ⟨b1, o1, lq, lc, rfl, k2, k3, k4, k5⟩ := (HA.out.below HSK.out.sv.bel) j ja
      obtain ⟨l, HL⟩ : ∃ l : Ls, Hid (lss[j] = l) := ⟨lss[j], rfl⟩
      rw [HL.out] at k3 k4 k5
      have HRL : Hid (LkRow wr lq l) := k4
      obtain ⟨zl, HZL⟩ : ∃ z, Hid (l.length = z) := ⟨_, rfl⟩
      rw [HZL.out] at k3 k5
      have j1 : (j : Int) < (n : Int) := by omega
      have j0 : (0 : Int) ≤ (j : Int) := by omega
      clear k2 k4
      obtain ⟨W2, hW2⟩ : ∃ W2, W2 = wr.alloc (.cells #[.int .i64 1, .int .i64 1, .int .i64 0, .slice lq zl lc, .slice none 0 0] 37) := ⟨_, rfl⟩
      have hb2 : Below wr.heap.size wr W2 := by rw [hW2]; exact (Below.refl _ wr).alloc (Nat.le_refl _) _
      have hbx : W2.heap[wr.heap.size]? = some (.cells #[.int .i64 1, .int .i64 1, .int .i64 0, .slice lq zl lc, .slice none 0 0] 37 (0, 0)) := by rw [hW2]; exact heap_alloc_new wr _
      have HS2 : Hid (Sk w W2 p b m M [(wq, M 0 1)]) := HSK.out.step hb2
      have HFI : Hid (FrIs W2 (.agg #[.int .i64 1, .int .i64 1, .int .i64 0, .slice lq zl lc, .slice none 0 0]) (pf 1 l)) := pf_is (HRL.out.below hb2) HZL.out k5
      have HBX : Hid (∀ W, Below W2.heap.size W2 W → W.heap[wr.heap.size]? = some (.cells #[.int .i64 1, .int .i64 1, .int .i64 0, .slice lq zl lc, .slice none 0 0] 37 (0, 0))) := fun W hW => (hW.block _ (Array.getElem?_eq_some_iff.1 hbx).1).trans hbx
      have HSM : Calls Try.prog 10 #[.slice (some ⟨W2.heap.size, 0, none⟩) 1 1, .int .i64 1] (W2.alloc (.cells #[.int .i64 0, .int .i64 0, .int .i64 1, .int .i64 1, .int .i64 0, .slice lq zl lc, .slice none 0 0, .slice none 0 0] 36)) fun e w' => e = .returned (.bool (sm1 l)) ∧ Hid (Below W2.heap.size W2 w') := small_one 1 (HRL.out.below hb2) HZL.out k5
      obtain ⟨bs, HBS⟩ : ∃ b, Hid (sm1 l = b) := ⟨_, rfl⟩
      rw [HBS.out] at HSM
      have d0 : W2.cell? ⟨wr.heap.size, 0, none⟩ = some (.int .i64 1) := cell_of_row _ _ _ _ _ _ hbx
      have d1 : W2.cell? ⟨wr.heap.size, 1, none⟩ = some (.int .i64 1) := cell_of_row _ _ _ _ _ _ hbx
      have d2 : W2.cell? ⟨wr.heap.size, 2, none⟩ = some (.int .i64 0) := cell_of_row _ _ _ _ _ _ hbx
      have d3 : W2.cell? ⟨wr.heap.size, 3, none⟩ = some (.slice lq zl lc) := cell_of_row _ _ _ _ _ _ hbx
      have d4 : W2.cell? ⟨wr.heap.size, 4, none⟩ = some (.slice none 0 0) := cell_of_row _ _ _ _ _ _ hbx
      clear hb2 hbx HSK
      go_upto_region 11 with fail
      rw [← hW2]
      clear hW2
      go_wp2_with fail
      refine HSM.mono ?_
      rintro e w3 ⟨rfl, H3⟩
      clear HSM d0 d1 d2 d3 d4 k3
      cases bs with
      | false =>
        go_wp2_with fail
        go_ret
        exact ⟨rfl, (HS2.out.step H3.out).sv.bel⟩
      | true =>
      have hbx := HBX.out w3 H3.out
      have d0 : w3.cell? ⟨wr.heap.size, 0, none⟩ = some (.int .i64 1) := cell_of_row _ _ _ _ _ _ hbx
      have d1 : w3.cell? ⟨wr.heap.size, 1, none⟩ = some (.int .i64 1) := cell_of_row _ _ _ _ _ _ hbx
      have d2 : w3.cell? ⟨wr.heap.size, 2, none⟩ = some (.int .i64 0) := cell_of_row _ _ _ _ _ _ hbx
      have d3 : w3.cell? ⟨wr.heap.size, 3, none⟩ = some (.slice lq zl lc) := cell_of_row _ _ _ _ _ _ hbx
      have d4 : w3.cell? ⟨wr.heap.size, 4, none⟩ = some (.slice none 0 0) := cell_of_row _ _ _ _ _ _ hbx
      clear hbx
      have HRT : Calls Try.prog 12 #[.agg #[.int .i64 1, .int .i64 1, .int .i64 0, .slice lq zl lc, .slice none 0 0]] w3 fun e w' => e = .returned (.bool (F17.right (pf 1 l))) ∧ Hid (Below w3.heap.size w3 w') := rRight_any _ _ _ (HFI.out.below H3.out)
      obtain ⟨br, HBR⟩ : ∃ b, Hid (F17.right (pf 1 l) = b) := ⟨_, rfl⟩
      rw [HBR.out] at HRT
      go_wp2_with fail
      refine HRT.mono ?_
      rintro e w4 ⟨rfl, H4⟩
      clear HRT d0 d1 d2 d3 d4
      have H24 : Hid (Below W2.heap.size W2 w4) := H3.out.trans (H4.out.mono H3.out.size)
      clear H3 H4
      cases br with
      | false =>
        obtain ⟨m2, hm2⟩ : ∃ m2, m2 = m := ⟨_, rfl⟩
        obtain ⟨M2, hM2⟩ : ∃ M2, M2 = M := ⟨_, rfl⟩
        obtain ⟨z2, hz2⟩ : ∃ z2, z2 = z := ⟨_, rfl⟩
        have HNX : Hid (Sk w w4 p b m2 M2 [(wq, M 0 1)]) := by rw [hm2, hM2]; exact HS2.out.step H24.out
        have HZ2 : Hid ((M2 0 1).length = z2) := by show _ = _; rw [hM2, HZ.out, hz2]
        have HTK : Hid ((M2 0 1).take z = M 0 1) := by show _ = _; rw [hM2, List.take_of_length_le (by rw [HZ.out]; exact Nat.le_refl _)]
        have HND : Hid ((M2 0 1).Nodup) := by rw [hM2]; exact HND0.out
        have hz26 : z2 ≤ 64 := by omega
        have hzz : z ≤ z2 := by omega
        have hm9 : m2 ≤ j + 1 := by omega
        clear hM2 hm2 hz2 HBX HS2 HFI HRL HBR
        go_wp2_with fail
        refine (HNX.out.logc HIN.out.1 HIN.out.2 (n := z2) HZ2.out).mono ?_
        rintro e w6 ⟨nq, nc, rfl, hnc, H6⟩
        have HSK6 : Hid (Sk w w6 p b m2 M2 [(nq, M2 0 1), (wq, M 0 1)]) := H6.out.1
        clear H6 HNX
        have hsl := slice_h nq z2 nc z (by omega) w6
        have HSM : Calls Try.prog 18 #[.slice nq z nc, .slice wq z wc] w6 fun e w' => e = .returned (.bool true) ∧ Hid (Sk w w' p b m2 M2 [(nq, M2 0 1)]) := by
          have hr1 := row_take (HSK6.out.rows (nq, M2 0 1) (by simp)) z
          have hr2 := HSK6.out.rows (wq, M 0 1) (by simp)
          simp only at hr1 hr2
          rw [HTK.out] at hr1
          have := same_any nq wq nc wc _ _ w6 hr1 hr2 (by rw [HZ.out]; omega) (by rw [HZ.out]; omega)
          rw [HZ.out] at this
          refine this.mono ?_
          rintro e w' ⟨rfl, hb⟩
          exact ⟨by rw [decide_eq_true rfl], (HSK6.out.step hb).sv, fun r hr => (HSK6.out.step hb).rows r (by simp at hr; simp [hr])⟩
        go_wp2_with fail
        refine HSM.mono ?_
        rintro e w7 ⟨rfl, H7⟩
        clear HSM HSK6 hsl HTK
        have HRW : Hid (LkRow w7 nq (M2 0 1)) := H7.out.rows (nq, M2 0 1) (by simp)
        go_wp2_with fail
        go_loopw [61] (fun i wx => ∃ a : Nat, a ≤ z2 ∧ i = .int .i64 a ∧ w7 = wx) (fun i _ => z2 - (intOf i).toNat)
        case atStart => exact ⟨0, by omega, rfl, rfl⟩
        case round =>
          obtain ⟨a, ha, rfl, rfl⟩ := hrel
          by_cases hat : a < z2
          · have aa : a < (M2 0 1).length := by rw [HZ2.out]; exact hat
            obtain ⟨b1, o1, bp, bc, rfl, k2, k3, k4, k5⟩ := HRW.out a aa
            obtain ⟨y, HY⟩ : ∃ y : List Nat, Hid ((M2 0 1)[a] = y) := ⟨(M2 0 1)[a], rfl⟩
            rw [HY.out] at k3 k4
            have HYS : Hid (∀ x ∈ y, x < 256) := k4.small
            have cv1 : (convert 32 9 (.slice bp y.length bc)).run Try.prog w7 = .ok (.string (strB y)) w7 := conv_src k4
            obtain ⟨zy, hzy⟩ : ∃ z, z = y.length := ⟨_, rfl⟩
            rw [← hzy] at k3 cv1
            have a1 : (a : Int) < (z2 : Int) := by omega
            have a0 : (0 : Int) ≤ (a : Int) := by omega
            have hsl := slice_h (some ⟨b1, o1, none⟩) z2 nc a (by omega) w7
            clear k2 k4 k5 hzy
            go_wp2_with fail
            go_loopw [70] (fun i wx => ∃ k : Nat, k ≤ a ∧ i = .int .i64 k ∧ w7 = wx) (fun i _ => a - (intOf i).toNat)
            case atStart => exact ⟨0, by omega, rfl, rfl⟩
            case round =>
              obtain ⟨k, hk, rfl, rfl⟩ := hrel
              by_cases hkt : k < a
              · have ka : k < (M2 0 1).length := by omega
                obtain ⟨b2, o2, bp2, bc2, m1, m2, m3, m4, m5⟩ := HRW.out k ka
                cases m1
                obtain ⟨x, HX⟩ : ∃ x : List Nat, Hid ((M2 0 1)[k] = x) := ⟨(M2 0 1)[k], rfl⟩
                rw [HX.out] at m3 m4
                have cv2 : (convert 32 9 (.slice bp2 x.length bc2)).run Try.prog w7 = .ok (.string (strB x)) w7 := conv_src m4
                have heq : ((strB y).toList == (strB x).toList) = false := by
                  rw [strB_beqL HYS.out m4.small, decide_eq_false]
                  rw [← HY.out, ← HX.out]
                  intro e
                  have := (List.getElem_inj (h₀ := aa) (h₁ := ka) HND.out).1 e
                  omega
                obtain ⟨zx, hzx⟩ : ∃ u, u = x.length := ⟨_, rfl⟩
                rw [← hzx] at m3 cv2
                have k1 : (k : Int) < (a : Int) := by omega
                have k0 : (0 : Int) ≤ (k : Int) := by omega
                generalize strB x = sx at *
                generalize strB y = sy at *
                clear m2 m4 m5 hzx
                go_wp2_with fail
                refine ⟨⟨k + 1, by omega, by simp, trivial⟩, ?_⟩
                simp only [intOf]
                omega
              · obtain rfl : k = a := by omega
                have k1 : ¬ (k : Int) < (k : Int) := by omega
                go_wp2_with fail
                refine ⟨⟨k + 1, by omega, by simp, trivial⟩, ?_⟩
                simp only [intOf]
                omega
          · obtain rfl : a = z2 := by omega
            have a1 : ¬ (a : Int) < (a : Int) := by omega
            go_wp2_with fail
            refine ⟨⟨j + 1, by omega, by simp, nq, nc, a, rfl, by omega, m2, M2, by omega, HZ2.out, HND.out, H7.out⟩, ?_⟩
            simp only [intOf]
            omega
      | true =>
        have hbx := HBX.out w4 H24.out
        have d0 : w4.cell? ⟨wr.heap.size, 0, none⟩ = some (.int .i64 1) := cell_of_row _ _ _ _ _ _ hbx
        have d1 : w4.cell? ⟨wr.heap.size, 1, none⟩ = some (.int .i64 1) := cell_of_row _ _ _ _ _ _ hbx
        have d2 : w4.cell? ⟨wr.heap.size, 2, none⟩ = some (.int .i64 0) := cell_of_row _ _ _ _ _ _ hbx
        have d3 : w4.cell? ⟨wr.heap.size, 3, none⟩ = some (.slice lq zl lc) := cell_of_row _ _ _ _ _ _ hbx
        have d4 : w4.cell? ⟨wr.heap.size, 4, none⟩ = some (.slice none 0 0) := cell_of_row _ _ _ _ _ _ hbx
        clear hbx
        have HBY : Calls Try.prog 13 #[.agg #[.int .i64 1, .int .i64 1, .int .i64 0, .slice lq zl lc, .slice none 0 0]] w4 fun e w' => ∃ v, e = .returned v ∧ Hid (Sk w w' p b m M [(wq, M 0 1)] ∧ Src w' v (F17.bytes (pf 1 l))) := by
          refine (rBytes_any _ _ w4 (HFI.out.below H24.out) HBR.out).mono ?_
          rintro e w' ⟨v, rfl, h1, h2⟩
          exact ⟨v, rfl, (HS2.out.step H24.out).step h2, Src.own (F17.bytes_small HFI.out.small) h1⟩
        obtain ⟨m2, hm2⟩ : ∃ m2, m2 = m + 1 := ⟨_, rfl⟩
        obtain ⟨⟨M2, r2, er2⟩, HHD⟩ : ∃ u, Hid (hd M 0 (F17.bytes (pf 1 l)) = u) := ⟨_, rfl⟩
        obtain ⟨t, HT⟩ : ∃ t, Hid (M2 0 1 = M 0 1 ++ t ∧ (M2 0 1).Nodup) := by
          obtain ⟨t, h1, h2⟩ := hd_grows HBR.out HND0.out
          rw [HHD.out] at h1 h2
          exact ⟨t, h1, h2⟩
        obtain ⟨z2, HZ2⟩ : ∃ z2, Hid ((M2 0 1).length = z2) := ⟨_, rfl⟩
        have HTK : Hid ((M2 0 1).take z = M 0 1) := by
          show _ = _
          rw [HT.out.1, ← HZ.out, List.take_left']
          rfl
        have HND : Hid ((M2 0 1).Nodup) := HT.out.2
        have hzz : z ≤ z2 := by
          have h1 := HZ2.out
          rw [HT.out.1, List.length_append, HZ.out] at h1
          omega
        have hm9 : m2 ≤ j + 1 := by omega
        have hm8 : m ≤ 900000 := by omega
        go_wp2_with fail
        refine HBY.mono ?_
        rintro e w5 ⟨v5, rfl, H5⟩
        clear HBY d0 d1 d2 d3 d4
        go_wp2_with fail
        refine (H5.out.1.handle HHD.out H5.out.2 HIN.out.1 hm8).mono ?_
        rintro e w6 ⟨v6, rfl, H6⟩
        rw [← hm2] at H6
        have HNX : Hid (Sk w w6 p b m2 M2 [(wq, M 0 1)]) := H6.out.1
        have hz26 : z2 ≤ 64 := by
          have := (HNX.out.sv.ok 0 1).1
          rw [HZ2.out] at this
          exact this
        clear HBX HS2 HFI HRL HBR H5 H6 HHD HT hm2
        go_wp2_with fail
        refine (HNX.out.logc HIN.out.1 HIN.out.2 (n := z2) HZ2.out).mono ?_
        rintro e u6 ⟨nq, nc, rfl, hnc, H6⟩
        have HSK6 : Hid (Sk w u6 p b m2 M2 [(nq, M2 0 1), (wq, M 0 1)]) := H6.out.1
        clear H6 HNX
        have hsl := slice_h nq z2 nc z (by omega) u6
        have HSM : Calls Try.prog 18 #[.slice nq z nc, .slice wq z wc] u6 fun e w' => e = .returned (.bool true) ∧ Hid (Sk w w' p b m2 M2 [(nq, M2 0 1)]) := by
          have hr1 := row_take (HSK6.out.rows (nq, M2 0 1) (by simp)) z
          have hr2 := HSK6.out.rows (wq, M 0 1) (by simp)
          simp only at hr1 hr2
          rw [HTK.out] at hr1
          have := same_any nq wq nc wc _ _ u6 hr1 hr2 (by rw [HZ.out]; omega) (by rw [HZ.out]; omega)
          rw [HZ.out] at this
          refine this.mono ?_
          rintro e w' ⟨rfl, hb⟩
          exact ⟨by rw [decide_eq_true rfl], (HSK6.out.step hb).sv, fun r hr => (HSK6.out.step hb).rows r (by simp at hr; simp [hr])⟩
        go_wp2_with fail
        refine HSM.mono ?_
        rintro e u7 ⟨rfl, H7⟩
        clear HSM HSK6 hsl HTK
        have HRW : Hid (LkRow u7 nq (M2 0 1)) := H7.out.rows (nq, M2 0 1) (by simp)
        go_wp2_with fail
        go_loopw [61] (fun i wx => ∃ a : Nat, a ≤ z2 ∧ i = .int .i64 a ∧ u7 = wx) (fun i _ => z2 - (intOf i).toNat)
        case atStart => exact ⟨0, by omega, rfl, rfl⟩
        case round =>
          obtain ⟨a, ha, rfl, rfl⟩ := hrel
          by_cases hat : a < z2
          · have aa : a < (M2 0 1).length := by rw [HZ2.out]; exact hat
            obtain ⟨b1, o1, bp, bc, rfl, k2, k3, k4, k5⟩ := HRW.out a aa
            obtain ⟨y, HY⟩ : ∃ y : List Nat, Hid ((M2 0 1)[a] = y) := ⟨(M2 0 1)[a], rfl⟩
            rw [HY.out] at k3 k4
            have HYS : Hid (∀ x ∈ y, x < 256) := k4.small
            have cv1 : (convert 32 9 (.slice bp y.length bc)).run Try.prog u7 = .ok (.string (strB y)) u7 := conv_src k4
            obtain ⟨zy, hzy⟩ : ∃ z, z = y.length := ⟨_, rfl⟩
            rw [← hzy] at k3 cv1
            have a1 : (a : Int) < (z2 : Int) := by omega
            have a0 : (0 : Int) ≤ (a : Int) := by omega
            have hsl := slice_h (some ⟨b1, o1, none⟩) z2 nc a (by omega) u7
            clear k2 k4 k5 hzy
            go_wp2_with fail
            go_loopw [70] (fun i wx => ∃ k : Nat, k ≤ a ∧ i = .int .i64 k ∧ u7 = wx) (fun i _ => a - (intOf i).toNat)
            case atStart => exact ⟨0, by omega, rfl, rfl⟩
            case round =>
              obtain ⟨k, hk, rfl, rfl⟩ := hrel
              by_cases hkt : k < a
              · have ka : k < (M2 0 1).length := by omega
                obtain ⟨b2, o2, bp2, bc2, m1, m2, m3, m4, m5⟩ := HRW.out k ka
                cases m1
                obtain ⟨x, HX⟩ : ∃ x : List Nat, Hid ((M2 0 1)[k] = x) := ⟨(M2 0 1)[k], rfl⟩
                rw [HX.out] at m3 m4
                have cv2 : (convert 32 9 (.slice bp2 x.length bc2)).run Try.prog u7 = .ok (.string (strB x)) u7 := conv_src m4
                have heq : ((strB y).toList == (strB x).toList) = false := by
                  rw [strB_beqL HYS.out m4.small, decide_eq_false]
                  rw [← HY.out, ← HX.out]
                  intro e
                  have := (List.getElem_inj (h₀ := aa) (h₁ := ka) HND.out).1 e
                  omega
                obtain ⟨zx, hzx⟩ : ∃ u, u = x.length := ⟨_, rfl⟩
                rw [← hzx] at m3 cv2
                have k1 : (k : Int) < (a : Int) := by omega
                have k0 : (0 : Int) ≤ (k : Int) := by omega
                generalize strB x = sx at *
                generalize strB y = sy at *
                clear m2 m4 m5 hzx
                go_wp2_with fail
                refine ⟨⟨k + 1, by omega, by simp, trivial⟩, ?_⟩
                simp only [intOf]
                omega
              · obtain rfl : k = a := by omega
                have k1 : ¬ (k : Int) < (k : Int) := by omega
                go_wp2_with fail
                refine ⟨⟨k + 1, by omega, by simp, trivial⟩, ?_⟩
                simp only [intOf]
                omega
          · obtain rfl : a = z2 := by omega
            have a1 : ¬ (a : Int) < (a : Int) := by omega
            go_wp2_with fail
            refine ⟨⟨j + 1, by omega, by simp, nq, nc, a, rfl, by omega, m2, M2, by omega, HZ2.out, HND.out, H7.out⟩, ?_⟩
            simp only [intOf]
            omega
    · obtain rfl : j = n := by omega
      have j1 : ¬ (j : Int) < (j : Int) := by omega
      go_wp2_with fail
      go_ret
      exact ⟨rfl, HSK.out.sv.bel⟩
end Go.Proofs.Ytchoiioeeepoaaa.V19
