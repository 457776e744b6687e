/- ServerApart: the walk. -/
import Derived.Test.YtchoiioeeepoaaaV19Str
namespace Go.Proofs.Ytchoiioeeepoaaa.V19
open Go.RowKit C8 E9 F17
theorem lks_of {ls ms : Ls} (h : ∀ y ∈ ls ++ ms, 1 ≤ y.length ∧ y.length ≤ 100) (k : StrOk ls) (hn : ls.length ≤ 8) : LinksOk ls ∧ ∀ y ∈ ls, y.length ≤ 100 :=
  ⟨⟨hn, fun y hy => ⟨⟨(h y (List.mem_append_left _ hy)).1, by have := (h y (List.mem_append_left _ hy)).2; omega⟩, (k y hy).2⟩⟩, fun y hy => (h y (List.mem_append_left _ hy)).2⟩
set_option maxHeartbeats 8000000 in
set_option maxRecDepth 20000 in
theorem apart_any (q0 q1 : Option Addr) (c0 c1 : Nat) (ls ms : Ls) (x : Int) (w : World) (ha : StrRow w q0 ls) (hb : StrRow w q1 ms) (ka : StrOk ls) (kb : StrOk ms) (la : ls.length ≤ 9223372036854775807) (lb : ms.length ≤ 9223372036854775807) :
    Calls Try.prog 6 #[.slice q0 ls.length c0, .slice q1 ms.length c1, .int .i64 x] w fun e w' => e = .returned (.bool true) ∧ Below w.heap.size w w' := by
  obtain ⟨n, HN⟩ : ∃ n, Hid (ls.length = n) := ⟨_, rfl⟩
  obtain ⟨m, HM⟩ : ∃ n, Hid (ms.length = n) := ⟨_, rfl⟩
  have HA : Hid (StrRow w q0 ls ∧ StrOk ls) := ⟨ha, ka⟩
  have HB : Hid (StrRow w q1 ms ∧ StrOk ms) := ⟨hb, kb⟩
  rw [HN.out, HM.out]
  rw [HN.out] at la
  rw [HM.out] at lb
  have HC : Calls Try.prog 9 #[] w fun e w' => e = .returned (.bool true) ∧ Hid (Below w.heap.size w w') := anchor_any w
  have HX : Hid (n ≤ 9223372036854775807 ∧ m ≤ 9223372036854775807) := ⟨la, lb⟩
  clear ha hb ka kb la lb
  go_enter Try.func6, Try.ntmps6
  go_wp2_with fail
  refine HC.mono ?_
  rintro e w1 ⟨rfl, H1⟩
  clear HC
  by_cases g1 : (n : Int) < 1
  · go_wp2_with fail
    go_ret
    exact ⟨rfl, H1.out⟩
  by_cases g2 : (8 : Int) < (n : Int)
  · go_wp2_with fail
    go_ret
    exact ⟨rfl, H1.out⟩
  by_cases g3 : (m : Int) < 1
  · go_wp2_with fail
    go_ret
    exact ⟨rfl, H1.out⟩
  by_cases g4 : (8 : Int) < (m : Int)
  · go_wp2_with fail
    go_ret
    exact ⟨rfl, H1.out⟩
  by_cases g5 : x < 0
  · go_wp2_with fail
    go_ret
    exact ⟨rfl, H1.out⟩
  by_cases g6 : 1 < x
  · go_wp2_with fail
    go_ret
    exact ⟨rfl, H1.out⟩
  go_wp2_with (first | with_reducible (refine stop_builtin .append ?_))
  refine Stop.go ?_
  refine law_append_strs w1.heap.size (.slice (some ⟨w1.heap.size, 0, none⟩) 0 0) 0 [] q0 n c0 ls rfl rfl (OwnS.empty w1) HN.out (by omega) ((HA.out.1.below H1.out).below ((Below.refl _ w1).alloc (Nat.le_refl _) _)) (by omega) (by simp) ?_
  intro v2 w2 k1 k2
  rw [Nat.zero_add, List.nil_append] at k1
  obtain ⟨p2, e2, rfl⟩ := k1.slice
  have HB2 : Hid (Below w.heap.size w w2) := H1.out.trans (((Below.refl _ w1).alloc (Nat.le_refl _) _).trans ((OwnS.empty w1).grown k2 (by simp)) |>.mono H1.out.size)
  go_wp2_with (first | with_reducible (refine stop_builtin .append ?_))
  refine Stop.go ?_
  refine law_append_strs w1.heap.size (.slice p2 n e2) n ls q1 m c1 ms rfl rfl k1 HM.out (by omega) (HB.out.1.below HB2.out) (by omega) (by have := k2.size; simp at this; omega) ?_
  intro v3 w3 k3 k4
  obtain ⟨p3, e3, rfl⟩ := k3.slice
  obtain ⟨N, hN⟩ : ∃ N, n + m = N := ⟨_, rfl⟩
  rw [hN] at k3 ⊢
  have HR : Hid (StrRow w3 p3 (ls ++ ms)) := k3.row
  have HNN : Hid ((ls ++ ms).length = N) := by
    show _ = _
    rw [List.length_append, HN.out, HM.out, hN]
  have HB3 : Hid (Below w.heap.size w w3) := by
    have h9 := H1.out.size
    have h8 : w1.heap.size ≤ w2.heap.size := by have := k2.size; simp at this; omega
    exact HB2.out.trans ((k1.grown k4 h8).mono h9)
  have HGG : Hid (1 ≤ n ∧ n ≤ 8 ∧ 1 ≤ m ∧ m ≤ 8 ∧ (x = 0 ∨ x = 1)) := ⟨by omega, by omega, by omega, by omega, by omega⟩
  have hN16 : N ≤ 16 := by omega
  clear k1 k2 k3 k4 H1 HB2 hN
  go_wp2_with fail
  go_loopw [51] (fun i wr => ∃ j : Nat, j ≤ N ∧ i = .int .i64 j ∧ w3 = wr ∧ Hid (∀ y ∈ (ls ++ ms).take j, 1 ≤ y.length ∧ y.length ≤ 100)) (fun i _ => N - (intOf i).toNat)
  case atStart => exact ⟨0, by omega, rfl, rfl, fun y hy => by simp at hy⟩
  case round =>
    obtain ⟨j, hj, rfl, rfl, HG⟩ := hrel
    by_cases hlt : j < N
    · have ja : j < (ls ++ ms).length := by rw [HNN.out]; exact hlt
      obtain ⟨b, o, rfl, _, e1⟩ := HR.out j ja
      obtain ⟨y, HY⟩ : ∃ y : List Nat, Hid ((ls ++ ms)[j] = y) := ⟨(ls ++ ms)[j], rfl⟩
      rw [HY.out] at e1
      obtain ⟨sy, HSY⟩ : ∃ s, Hid (strB y = s) := ⟨_, rfl⟩
      rw [HSY.out] at e1
      have HSZ : Hid (sy.size = y.length) := by
        show _ = _
        rw [← HSY.out, strB_size]
      have j1 : (j : Int) < (N : Int) := by omega
      have j0 : (0 : Int) ≤ (j : Int) := by omega
      by_cases b1 : (sy.size : Int) < 1
      · go_wp2_with fail
        go_ret
        exact ⟨rfl, HB3.out⟩
      by_cases b2 : (100 : Int) < (sy.size : Int)
      · go_wp2_with fail
        go_ret
        exact ⟨rfl, HB3.out⟩
      go_wp2_with fail
      refine ⟨⟨j + 1, by omega, by simp, trivial, fun z hz => ?_⟩, ?_⟩
      · rw [List.take_succ_eq_append_getElem ja, HY.out] at hz
        rcases List.mem_append.1 hz with hz | hz
        · exact HG.out z hz
        · rw [List.mem_singleton.1 hz]
          have := HSZ.out
          omega
      · simp only [intOf]
        omega
    · obtain rfl : j = N := by omega
      have j1 : ¬ (j : Int) < (j : Int) := by omega
      have hall : ∀ y ∈ ls ++ ms, 1 ≤ y.length ∧ y.length ≤ 100 := by
        have := HG.out
        rwa [List.take_of_length_le (by rw [HNN.out]; omega)] at this
      obtain ⟨kA, kA2⟩ := lks_of hall HA.out.2 (by rw [HN.out]; exact HGG.out.2.1)
      obtain ⟨kB, kB2⟩ := lks_of (ls := ms) (ms := ls) (fun y hy => hall y (by simpa [or_comm] using hy)) HB.out.2 (by rw [HM.out]; exact HGG.out.2.2.2.1)
      have hx : x = 0 ∨ x = 1 := HGG.out.2.2.2.2
      have n1 : 1 ≤ ls.length := by rw [HN.out]; exact HGG.out.1
      have m1 : 1 ≤ ms.length := by rw [HM.out]; exact HGG.out.2.2.1
      have n8 : ls.length ≤ 8 := kA.1
      have m8 : ms.length ≤ 8 := kB.1
      obtain ⟨l1, HL1⟩ : ∃ l, Hid (add [] ls = l) := ⟨_, rfl⟩
      obtain ⟨l2, HL2⟩ : ∃ l, Hid (add [] ms = l) := ⟨_, rfl⟩
      obtain ⟨z1, HZ1⟩ : ∃ k, Hid (l1.length = k) := ⟨_, rfl⟩
      obtain ⟨z2, HZ2⟩ : ∃ k, Hid (l2.length = k) := ⟨_, rfl⟩
      have s1 : z1 ≤ 8 := by
        have := (add_length (ls := ls) (log := [])).2
        rw [HL1.out, HZ1.out] at this
        simp at this
        omega
      have s2 : z2 ≤ 8 := by
        have := (add_length (ls := ms) (log := [])).2
        rw [HL2.out, HZ2.out] at this
        simp at this
        omega
      obtain ⟨M1, hM1⟩ : ∃ M, upd none0 x 1 l1 = M := ⟨_, rfl⟩
      obtain ⟨M2, hM2⟩ : ∃ M, upd M1 x 2 l2 = M := ⟨_, rfl⟩
      obtain ⟨M3, hM3⟩ : ∃ M, upd M2 (1 - x) 1 l2 = M := ⟨_, rfl⟩
      have a1 : M1 x 1 = l1 := by rw [← hM1, upd_same]
      have a2 : M1 x 2 = [] := by rw [← hM1, upd_other _ _ (by omega)]; rfl
      have a3 : M2 (1 - x) 1 = [] := by rw [← hM2, upd_other _ _ (by omega), ← hM1, upd_other _ _ (by omega)]; rfl
      have a4 : M3 x 1 = l1 := by rw [← hM3, upd_other _ _ (by omega), ← hM2, upd_other _ _ (by omega), a1]
      have a5 : M3 x 2 = l2 := by rw [← hM3, upd_other _ _ (by omega), ← hM2, upd_same]
      have a6 : M3 (1 - x) 1 = l2 := by rw [← hM3, upd_same]
      have a7 : M3 (1 - x) 2 = [] := by rw [← hM3, upd_other _ _ (by omega), ← hM2, upd_other _ _ (by omega), ← hM1, upd_other _ _ (by omega)]; rfl
      have f1 : Hid (hd none0 x (F17.bytes (pf 1 ls)) = (M1, [], 0)) := by
        show _ = _
        rw [hd_pushed hx (by omega) n1 kA (pf_small n8 kA2) (by show 0 + _ ≤ _; omega)]
        show (upd none0 x 1 (add [] ls), _, _) = _
        rw [HL1.out, hM1]
      have f2 : Hid (hd M1 x (F17.bytes (pf 2 ms)) = (M2, [], 0)) := by
        show _ = _
        rw [hd_pushed hx (by omega) m1 kB (pf_small m8 kB2) (by rw [a2]; show 0 + _ ≤ _; omega), a2, HL2.out, hM2]
      have f3 : Hid (hd M2 (1 - x) (F17.bytes (pf 1 ms)) = (M3, [], 0)) := by
        show _ = _
        rw [hd_pushed (by omega) (by omega) m1 kB (pf_small m8 kB2) (by rw [a3]; show 0 + _ ≤ _; omega), a3, HL2.out, hM3]
      have HF : Hid (LinksOk ls ∧ LinksOk ms ∧ 1 ≤ ls.length ∧ 1 ≤ ms.length ∧ (F17.bytes (pf 1 ls)).length ≤ 32768 ∧ (F17.bytes (pf 1 ms)).length ≤ 32768 ∧ (F17.bytes (pf 2 ms)).length ≤ 32768) :=
        ⟨kA, kB, n1, m1, pf_small n8 kA2, pf_small m8 kB2, pf_small m8 kB2⟩
      have HIX : Hid (In64 x ∧ In64 (1 - x)) := by unfold In64; exact ⟨by omega, by omega⟩
      have HI : Hid (In64 1 ∧ In64 2) := by unfold In64; exact ⟨by omega, by omega⟩
      have HAA : Hid ((M1 x 1 = l1 ∧ M3 x 1 = l1 ∧ M3 x 2 = l2 ∧ M3 (1 - x) 1 = l2 ∧ M3 (1 - x) 2 = []) ∧ z1 ≤ 9223372036854775807 ∧ z2 ≤ 9223372036854775807) := ⟨⟨a1, a4, a5, a6, a7⟩, by omega, by omega⟩
      have g0 : 0 ≤ 1 - x := by omega
      clear kA kA2 kB kB2 n1 m1 n8 m8 hM1 hM2 hM3 a1 a2 a3 a4 a5 a6 a7 HR HNN HG hall
      go_wp2_with fail
      refine (Sk.new HB3.out).mono ?_
      rintro e w4 ⟨p, b, rfl, H4⟩
      clear HB3
      go_wp2_with fail
      refine (H4.out.push HA.out.1 HN.out (c := 1) (by omega) HF.out.2.2.1 HF.out.1 HF.out.2.2.2.2.1).mono ?_
      rintro e w5 ⟨v5, rfl, H5⟩
      clear H4
      go_wp2_with fail
      refine (H5.out.1.handle f1.out H5.out.2 HIX.out.1 (by omega)).mono ?_
      rintro e w6 ⟨v6, rfl, H6⟩
      clear H5
      go_wp2_with fail
      refine (H6.out.1.log HIX.out.1 HI.out.1 (n := z1) (by rw [HAA.out.1.1]; exact HZ1.out)).mono ?_
      rintro e w7 ⟨q7, c7, rfl, H7⟩
      replace H7 := H7.out.1
      rw [HAA.out.1.1] at H7
      have H7' : Hid (Sk w w7 p b (0 + 1) M1 [(q7, l1)]) := H7
      clear H6 H7
      go_wp2_with fail
      refine (H7'.out.push HB.out.1 HM.out (c := 2) (by omega) HF.out.2.2.2.1 HF.out.2.1 HF.out.2.2.2.2.2.2).mono ?_
      rintro e w8 ⟨v8, rfl, H8⟩
      clear H7'
      go_wp2_with fail
      refine (H8.out.1.handle f2.out H8.out.2 HIX.out.1 (by omega)).mono ?_
      rintro e w9 ⟨v9, rfl, H9⟩
      clear H8
      go_wp2_with fail
      refine (H9.out.1.push HB.out.1 HM.out (c := 1) (by omega) HF.out.2.2.2.1 HF.out.2.1 HF.out.2.2.2.2.2.1).mono ?_
      rintro e w10 ⟨v10, rfl, H10⟩
      clear H9
      go_wp2_with fail
      refine (H10.out.1.handle f3.out H10.out.2 HIX.out.2 (by omega)).mono ?_
      rintro e w11 ⟨v11, rfl, H11⟩
      clear H10
      go_wp2_with fail
      refine (H11.out.1.log HIX.out.1 HI.out.1 (n := z1) (by rw [HAA.out.1.2.1]; exact HZ1.out)).mono ?_
      rintro e w12 ⟨q12, c12, rfl, H12⟩
      replace H12 := H12.out.1
      rw [HAA.out.1.2.1] at H12
      have H12' : Hid (Sk w w12 p b (0 + 1 + 1 + 1) M3 [(q12, l1), (q7, l1)]) := H12
      clear H11 H12
      go_wp2_with fail
      refine (H12'.out.same (ls := l1) (ms := l1) (by simp) (by simp) HZ1.out HZ1.out HAA.out.2.1 HAA.out.2.1).mono ?_
      rintro e w13 ⟨rfl, H13⟩
      clear H12'
      rw [decide_eq_true rfl]
      go_wp2_with fail
      refine (H13.out.log HIX.out.1 HI.out.2 (n := z2) (by rw [HAA.out.1.2.2.1]; exact HZ2.out)).mono ?_
      rintro e w14 ⟨q14, c14, rfl, H14⟩
      replace H14 := H14.out.1
      rw [HAA.out.1.2.2.1] at H14
      have H14' : Hid (Sk w w14 p b (0 + 1 + 1 + 1) M3 [(q14, l2), (q12, l1), (q7, l1)]) := H14
      clear H13 H14
      go_wp2_with fail
      refine (H14'.out.log HIX.out.2 HI.out.1 (n := z2) (by rw [HAA.out.1.2.2.2.1]; exact HZ2.out)).mono ?_
      rintro e w15 ⟨q15, c15, rfl, H15⟩
      replace H15 := H15.out.1
      rw [HAA.out.1.2.2.2.1] at H15
      have H15' : Hid (Sk w w15 p b (0 + 1 + 1 + 1) M3 [(q15, l2), (q14, l2), (q12, l1), (q7, l1)]) := H15
      clear H14' H15
      go_wp2_with fail
      refine (H15'.out.same (ls := l2) (ms := l2) (by simp) (by simp) HZ2.out HZ2.out HAA.out.2.2 HAA.out.2.2).mono ?_
      rintro e w16 ⟨rfl, H16⟩
      clear H15'
      rw [decide_eq_true rfl]
      go_wp2_with fail
      refine (H16.out.log HIX.out.2 HI.out.2 (n := 0) (by rw [HAA.out.1.2.2.2.2]; rfl)).mono ?_
      rintro e w17 ⟨q17, c17, rfl, H17⟩
      clear H16
      go_wp2_with fail
      go_ret
      exact ⟨rfl, H17.out.1.sv.bel⟩
end Go.Proofs.Ytchoiioeeepoaaa.V19
