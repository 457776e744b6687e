/- ServerForks: the walk. -/
import Derived.Test.YtchoiioeeepoaaaV19Rt
import Derived.Test.YtchoiioeeepoaaaV19Str
namespace Go.Proofs.Ytchoiioeeepoaaa.V19
open Go.RowKit C8 E9 F17
theorem LgV.rows {m : Nat} {L : Ls} {v : Value} {w w' : World} (h : LgV m L v w) (ho : Rows w w') : LgV m L v w' := by
  obtain ⟨q, c, e, k⟩ := h
  exact ⟨q, c, e, ho _ _ k⟩
theorem lks_of {ls ms : Ls} (h : ∀ y ∈ ls ++ ms, 1 ≤ y.length ∧ y.length ≤ 100) (k : StrOk ls) (hn : ls.length ≤ 8) : LinksOk ls ∧ ∀ y ∈ ls, y.length ≤ 100 :=
  ⟨⟨hn, fun y hy => ⟨⟨(h y (List.mem_append_left _ hy)).1, by have := (h y (List.mem_append_left _ hy)).2; omega⟩, (k y hy).2⟩⟩, fun y hy => (h y (List.mem_append_left _ hy)).2⟩
def fk17 (p zk z1 wc : Nat) (nn : Int) (wq : Option Addr) (l1 : Ls) : Nat → Value → World → Prop
  | 0 => IsV (.pointer (some ⟨p, 0, none⟩))
  | 1 => IsV (.int .i64 nn)
  | 2 => IsV (.int .i64 0)
  | 3 => IsV (.bool false)
  | 4 => IsV (.bool false)
  | 5 => IsV (.pointer (some ⟨p, 0, none⟩))
  | 6 => LgV zk (l1.take zk)
  | 7 => IsV (.slice wq z1 wc)
  | 8 => IsV (.int .i64 nn)
  | 9 => IsV (.slice wq z1 wc)
  | 10 => IsV (.int .i64 (z1 : Int))
  | 11 => IsV (.int .i64 (zk : Int))
  | 12 => IsV (.slice wq zk wc)
  | 13 => IsV (.bool true)
  | 14 => IsV (.bool false)
  | 15 => IsV (.bool false)
  | 16 => IsV (.bool false)
  | 17 => IsV (.pointer (some ⟨p, 0, none⟩))
  | 18 => LgV 0 []
  | 19 => IsV (.int .i64 0)
  | 20 => IsV (.bool false)
  | 21 => IsV (.bool false)
  | _ => fun _ _ => True
theorem fk17_kept (p zk z1 wc : Nat) (nn : Int) (wq : Option Addr) (l1 : Ls) : ∀ i v w w', fk17 p zk z1 wc nn wq l1 i v w → Rows w w' → fk17 p zk z1 wc nn wq l1 i v w'
  | 0, _, _, _, h, _ => h
  | 1, _, _, _, h, _ => h
  | 2, _, _, _, h, _ => h
  | 3, _, _, _, h, _ => h
  | 4, _, _, _, h, _ => h
  | 5, _, _, _, h, _ => h
  | 6, _, _, _, h, ho => h.rows ho
  | 7, _, _, _, h, _ => h
  | 8, _, _, _, h, _ => h
  | 9, _, _, _, h, _ => h
  | 10, _, _, _, h, _ => h
  | 11, _, _, _, h, _ => h
  | 12, _, _, _, h, _ => h
  | 13, _, _, _, h, _ => h
  | 14, _, _, _, h, _ => h
  | 15, _, _, _, h, _ => h
  | 16, _, _, _, h, _ => h
  | 17, _, _, _, h, _ => h
  | 18, _, _, _, h, ho => h.rows ho
  | 19, _, _, _, h, _ => h
  | 20, _, _, _, h, _ => h
  | 21, _, _, _, h, _ => h
  | _ + 22, _, _, _, _, _ => trivial
set_option maxHeartbeats 8000000 in
set_option maxRecDepth 20000 in
theorem forks_any (q0 q1 : Option Addr) (c0 c1 : Nat) (ls ms : Ls) (nn : Int) (w : World) (hnn : In64 nn) (ha : StrRow w q0 ls) (hb : StrRow w q1 ms) (ka : StrOk ls) (kb : StrOk ms) (la : ls.length ≤ 9223372036854775807) (lb : ms.length ≤ 9223372036854775807) :
    Calls Try.prog 7 #[.slice q0 ls.length c0, .int .i64 nn, .slice q1 ms.length c1] w fun e w' => e = .returned (.bool true) ∧ Below w.heap.size w w' := by
  obtain ⟨n, HN⟩ : ∃ n, Hid (ls.length = n) := ⟨_, rfl⟩
  obtain ⟨m, HM⟩ : ∃ n, Hid (ms.length = n) := ⟨_, rfl⟩
  have HA : Hid (StrRow w q0 ls ∧ StrOk ls) := ⟨ha, ka⟩
  have HB : Hid (StrRow w q1 ms ∧ StrOk ms) := ⟨hb, kb⟩
  rw [HN.out, HM.out]
  rw [HN.out] at la
  rw [HM.out] at lb
  have HC : Calls Try.prog 9 #[] w fun e w' => e = .returned (.bool true) ∧ Hid (Below w.heap.size w w') := anchor_any w
  have HX : Hid (n ≤ 9223372036854775807 ∧ m ≤ 9223372036854775807) := ⟨la, lb⟩
  have HNI : Hid (In64 nn) := hnn
  clear ha hb ka kb la lb hnn
  go_enter Try.func7, Try.ntmps7
  go_wp2_with fail
  refine HC.mono ?_
  rintro e w1 ⟨rfl, H1⟩
  clear HC
  by_cases g1 : (n : Int) < 1
  · go_wp2_with fail
    go_ret
    exact ⟨rfl, H1.out⟩
  by_cases g2 : (8 : Int) < (n : Int)
  · go_wp2_with fail
    go_ret
    exact ⟨rfl, H1.out⟩
  by_cases g3 : (m : Int) < 1
  · go_wp2_with fail
    go_ret
    exact ⟨rfl, H1.out⟩
  by_cases g4 : (8 : Int) < (m : Int)
  · go_wp2_with fail
    go_ret
    exact ⟨rfl, H1.out⟩
  go_wp2_with (first | with_reducible (refine stop_builtin .append ?_))
  refine Stop.go ?_
  refine law_append_strs w1.heap.size (.slice (some ⟨w1.heap.size, 0, none⟩) 0 0) 0 [] q0 n c0 ls rfl rfl (OwnS.empty w1) HN.out (by omega) ((HA.out.1.below H1.out).below ((Below.refl _ w1).alloc (Nat.le_refl _) _)) (by omega) (by simp) ?_
  intro v2 w2 k1 k2
  rw [Nat.zero_add, List.nil_append] at k1
  obtain ⟨p2, e2, rfl⟩ := k1.slice
  have HB2 : Hid (Below w.heap.size w w2) := H1.out.trans (((Below.refl _ w1).alloc (Nat.le_refl _) _).trans ((OwnS.empty w1).grown k2 (by simp)) |>.mono H1.out.size)
  go_wp2_with (first | with_reducible (refine stop_builtin .append ?_))
  refine Stop.go ?_
  refine law_append_strs w1.heap.size (.slice p2 n e2) n ls q1 m c1 ms rfl rfl k1 HM.out (by omega) (HB.out.1.below HB2.out) (by omega) (by have := k2.size; simp at this; omega) ?_
  intro v3 w3 k3 k4
  obtain ⟨p3, e3, rfl⟩ := k3.slice
  obtain ⟨N, hN⟩ : ∃ N, n + m = N := ⟨_, rfl⟩
  rw [hN] at k3 ⊢
  have HR : Hid (StrRow w3 p3 (ls ++ ms)) := k3.row
  have HNN : Hid ((ls ++ ms).length = N) := by
    show _ = _
    rw [List.length_append, HN.out, HM.out, hN]
  have HB3 : Hid (Below w.heap.size w w3) := by
    have h9 := H1.out.size
    have h8 : w1.heap.size ≤ w2.heap.size := by have := k2.size; simp at this; omega
    exact HB2.out.trans ((k1.grown k4 h8).mono h9)
  have HGG : Hid (1 ≤ n ∧ n ≤ 8 ∧ 1 ≤ m ∧ m ≤ 8) := ⟨by omega, by omega, by omega, by omega⟩
  have hN16 : N ≤ 16 := by omega
  clear k1 k2 k3 k4 H1 HB2 hN
  go_wp2_with fail
  go_loopw [39] (fun i wr => ∃ j : Nat, j ≤ N ∧ i = .int .i64 j ∧ w3 = wr ∧ Hid (∀ y ∈ (ls ++ ms).take j, 1 ≤ y.length ∧ y.length ≤ 100)) (fun i _ => N - (intOf i).toNat)
  case atStart => exact ⟨0, by omega, rfl, rfl, fun y hy => by simp at hy⟩
  case round =>
    obtain ⟨j, hj, rfl, rfl, HG⟩ := hrel
    by_cases hlt : j < N
    · have ja : j < (ls ++ ms).length := by rw [HNN.out]; exact hlt
      obtain ⟨b, o, rfl, _, e1⟩ := HR.out j ja
      obtain ⟨y, HY⟩ : ∃ y : List Nat, Hid ((ls ++ ms)[j] = y) := ⟨(ls ++ ms)[j], rfl⟩
      rw [HY.out] at e1
      obtain ⟨sy, HSY⟩ : ∃ s, Hid (strB y = s) := ⟨_, rfl⟩
      rw [HSY.out] at e1
      have HSZ : Hid (sy.size = y.length) := by
        show _ = _
        rw [← HSY.out, strB_size]
      have j1 : (j : Int) < (N : Int) := by omega
      have j0 : (0 : Int) ≤ (j : Int) := by omega
      by_cases b1 : (sy.size : Int) < 1
      · go_wp2_with fail
        go_ret
        exact ⟨rfl, HB3.out⟩
      by_cases b2 : (100 : Int) < (sy.size : Int)
      · go_wp2_with fail
        go_ret
        exact ⟨rfl, HB3.out⟩
      go_wp2_with fail
      refine ⟨⟨j + 1, by omega, by simp, trivial, fun z hz => ?_⟩, ?_⟩
      · rw [List.take_succ_eq_append_getElem ja, HY.out] at hz
        rcases List.mem_append.1 hz with hz | hz
        · exact HG.out z hz
        · rw [List.mem_singleton.1 hz]
          have := HSZ.out
          omega
      · simp only [intOf]
        omega
    · obtain rfl : j = N := by omega
      have j1 : ¬ (j : Int) < (j : Int) := by omega
      have hall : ∀ y ∈ ls ++ ms, 1 ≤ y.length ∧ y.length ≤ 100 := by
        have := HG.out
        rwa [List.take_of_length_le (by rw [HNN.out]; omega)] at this
      obtain ⟨kA, kA2⟩ := lks_of hall HA.out.2 (by rw [HN.out]; exact HGG.out.2.1)
      obtain ⟨kB, kB2⟩ := lks_of (ls := ms) (ms := ls) (fun y hy => hall y (by simpa [or_comm] using hy)) HB.out.2 (by rw [HM.out]; exact HGG.out.2.2.2)
      have n1 : 1 ≤ ls.length := by rw [HN.out]; exact HGG.out.1
      have m1 : 1 ≤ ms.length := by rw [HM.out]; exact HGG.out.2.2.1
      have n8 : ls.length ≤ 8 := kA.1
      have m8 : ms.length ≤ 8 := kB.1
      obtain ⟨l1, HL1⟩ : ∃ l, Hid (add [] ls = l) := ⟨_, rfl⟩
      obtain ⟨l2, HL2⟩ : ∃ l, Hid (add [] ms = l) := ⟨_, rfl⟩
      obtain ⟨z1, HZ1⟩ : ∃ k, Hid (l1.length = k) := ⟨_, rfl⟩
      obtain ⟨z2, HZ2⟩ : ∃ k, Hid (l2.length = k) := ⟨_, rfl⟩
      have s1 : z1 ≤ 8 := by
        have := (add_length (ls := ls) (log := [])).2
        rw [HL1.out, HZ1.out] at this
        simp at this
        omega
      have s2 : 1 ≤ z2 := by
        have h1 : ms[0] ∈ l2 := by
          rw [← HL2.out]
          exact mem_add.2 (.inr (List.getElem_mem _))
        rw [← HZ2.out]
        exact List.length_pos_of_mem h1
      obtain ⟨M1, hM1⟩ : ∃ M, upd none0 0 1 l1 = M := ⟨_, rfl⟩
      obtain ⟨M2, hM2⟩ : ∃ M, upd M1 1 3 l2 = M := ⟨_, rfl⟩
      have a0 : M1 1 3 = [] := by rw [← hM1, upd_other _ _ (by omega)]; rfl
      have a1 : M2 0 1 = l1 := by rw [← hM2, upd_other _ _ (by omega), ← hM1, upd_same]
      have a2 : M2 0 3 = [] := by rw [← hM2, upd_other _ _ (by omega), ← hM1, upd_other _ _ (by omega)]; rfl
      have a3 : M2 1 3 = l2 := by rw [← hM2, upd_same]
      have f1 : Hid (hd none0 0 (F17.bytes (pf 1 ls)) = (M1, [], 0)) := by
        show _ = _
        rw [hd_pushed (.inl rfl) (by omega) n1 kA (pf_small n8 kA2) (by show 0 + _ ≤ _; omega)]
        show (upd none0 0 1 (add [] ls), _, _) = _
        rw [HL1.out, hM1]
      have f2 : Hid (hd M1 1 (F17.bytes (pf 3 ms)) = (M2, [], 0)) := by
        show _ = _
        rw [hd_pushed (.inr rfl) (by omega) m1 kB (pf_small m8 kB2) (by rw [a0]; show 0 + _ ≤ _; omega), a0, HL2.out, hM2]
      have HF : Hid (LinksOk ls ∧ LinksOk ms ∧ 1 ≤ ls.length ∧ 1 ≤ ms.length ∧ (F17.bytes (pf 1 ls)).length ≤ 32768 ∧ (F17.bytes (pf 1 ms)).length ≤ 32768 ∧ (F17.bytes (pf 3 ms)).length ≤ 32768) :=
        ⟨kA, kB, n1, m1, pf_small n8 kA2, pf_small m8 kB2, pf_small m8 kB2⟩
      have HI : Hid (In64 0 ∧ In64 1 ∧ In64 3) := by unfold In64; exact ⟨by omega, by omega, by omega⟩
      have HAA : Hid ((M2 0 1 = l1 ∧ M2 0 3 = [] ∧ M2 1 3 = l2) ∧ z1 ≤ 9223372036854775807) := ⟨⟨a1, a2, a3⟩, by omega⟩
      have HM8 : Hid (ms.length ≤ 8) := m8
      clear kA kA2 kB kB2 n1 m1 n8 m8 hM1 hM2 a0 a1 a2 a3 HR HNN HG hall
      go_wp2_with fail
      refine (Sk.new HB3.out).mono ?_
      rintro e w4 ⟨p, b, rfl, H4⟩
      clear HB3
      go_wp2_with fail
      refine (H4.out.push HA.out.1 HN.out (c := 1) (by omega) HF.out.2.2.1 HF.out.1 HF.out.2.2.2.2.1).mono ?_
      rintro e w5 ⟨v5, rfl, H5⟩
      clear H4
      go_wp2_with fail
      refine (H5.out.1.handle f1.out H5.out.2 HI.out.1 (by omega)).mono ?_
      rintro e w6 ⟨v6, rfl, H6⟩
      clear H5
      go_wp2_with fail
      refine (H6.out.1.push HB.out.1 HM.out (c := 3) (by omega) HF.out.2.2.2.1 HF.out.2.1 HF.out.2.2.2.2.2.2).mono ?_
      rintro e w7 ⟨v7, rfl, H7⟩
      clear H6
      go_wp2_with fail
      refine (H7.out.1.handle f2.out H7.out.2 HI.out.2.1 (by omega)).mono ?_
      rintro e w7b ⟨v7b, rfl, H7b⟩
      clear H7
      go_wp2_with fail
      refine (H7b.out.1.logc HI.out.1 HI.out.2.1 (n := z1) (by rw [HAA.out.1.1]; exact HZ1.out)).mono ?_
      rintro e w8 ⟨wq, wc, rfl, hwc, H8⟩
      replace H8 := H8.out.1
      rw [HAA.out.1.1] at H8
      have HS8 : Hid (Sk w w8 p b (0 + 1 + 1) M2 [(wq, l1)]) := H8
      clear H7b H8
      by_cases hneg : nn < 0
      · go_wp2_with fail
        refine (HS8.out.fork HNI.out (by omega)).mono ?_
        rintro e w9 ⟨er, rfl, H9⟩
        obtain ⟨rfl, h9⟩ := H9.out.1 hneg
        have HS9 : Hid (Sk w w9 p b (0 + 1 + 1) M2 [(wq, l1)]) := h9
        clear h9 H9 HS8
        go_wp2_with fail
        refine (HS9.out.log HI.out.1 HI.out.2.1 (n := z1) (by rw [HAA.out.1.1]; exact HZ1.out)).mono ?_
        rintro e w10 ⟨q10, c10, rfl, H10⟩
        replace H10 := H10.out.1
        rw [HAA.out.1.1] at H10
        have HS10 : Hid (Sk w w10 p b (0 + 1 + 1) M2 [(q10, l1), (wq, l1)]) := H10
        clear H10 HS9
        go_wp2_with fail
        refine (HS10.out.same (ls := l1) (ms := l1) (by simp) (by simp) HZ1.out HZ1.out HAA.out.2 HAA.out.2).mono ?_
        rintro e w11 ⟨rfl, H11⟩
        clear HS10
        rw [decide_eq_true rfl]
        go_wp2_with fail
        refine (H11.out.log HI.out.2.1 HI.out.2.2 (n := z2) (by rw [HAA.out.1.2.2]; exact HZ2.out)).mono ?_
        rintro e w12 ⟨q12, c12, rfl, H12⟩
        clear H11
        have hz0 : (0 : Int) < (z2 : Int) := by omega
        go_wp2_with fail
        go_ret
        exact ⟨by simp; omega, H12.out.1.sv.bel⟩
      · obtain ⟨zk, HZK⟩ : ∃ k, Hid (k = min nn.toNat z1) := ⟨_, rfl⟩
        have HMIN : Hid (min nn (z1 : Int) = (zk : Int)) := by have := HZK.out; show _ = _; omega
        have HZC : Hid (zk ≤ wc) := by have := HZK.out; show _ ≤ _; omega
        have hk1 : zk ≤ z1 := by have := HZK.out; omega
        have HTL : Hid ((l1.take zk).length = zk) := by show _ = _; rw [List.length_take, HZ1.out]; omega
        have HTK : Hid (forkM nn M2 1 1 = l1.take zk) := by
          show _ = _
          unfold forkM
          rw [if_pos rfl, HAA.out.1.1, HZK.out, ← HZ1.out]
          exact (List.take_eq_take_iff.2 (by omega))
        have HT3 : Hid (forkM nn M2 1 3 = []) := by
          show _ = _
          unfold forkM
          rw [if_pos rfl, HAA.out.1.2.1, List.take_nil]
        have HT1 : Hid (forkM nn M2 0 1 = l1) := by
          show _ = _
          unfold forkM
          rw [if_neg (by omega), HAA.out.1.1]
        obtain ⟨M3, HM3⟩ : ∃ M, Hid (forkM nn M2 = M) := ⟨_, rfl⟩
        rw [HM3.out] at HTK HT3 HT1
        obtain ⟨R, HRE⟩ : ∃ R : World → Prop, Hid (R = fun u => Sk w u p b (0 + 1 + 1 + (0 + 1 + 1)) M3 [(wq, l1)]) := ⟨_, rfl⟩
        have HRK : Hid (∀ u u', R u → Bm u u' → R u') := fun u u' h hb => by
          rw [HRE.out] at h ⊢
          exact Sk.step h hb
        have HFK : Hid (∀ u, Bm w8 u → Calls Try.prog 16 #[.pointer (some ⟨p, 0, none⟩), .int .i64 nn] u fun e u' => e = .returned (.int .i64 0) ∧ Rows u u' ∧ R u') := fun u hb => by
          refine ((HS8.out.step hb).fork HNI.out (by omega)).mono ?_
          rintro e u' ⟨er, rfl, H⟩
          obtain ⟨rfl, h9⟩ := H.out.2.1 (by omega)
          rw [HM3.out] at h9
          rw [HRE.out]
          exact ⟨rfl, H.out.2.2, h9⟩
        have HLG1 : Hid (∀ u, R u → Calls Try.prog 19 #[.pointer (some ⟨p, 0, none⟩), .int .i64 1, .int .i64 1] u fun e u' => ∃ q c, e = .returned (.slice q zk c) ∧ LkRow u' q (l1.take zk) ∧ Below u.heap.size u u') := fun u hR => by
          rw [HRE.out] at hR
          refine (hR.log HI.out.2.1 HI.out.2.1 (n := zk) (by rw [HTK.out]; exact HTL.out)).mono ?_
          rintro e u' ⟨q, c, rfl, H⟩
          have := H.out.1.rows _ (List.mem_cons_self ..)
          rw [HTK.out] at this
          exact ⟨q, c, rfl, this, H.out.2⟩
        have HLG3 : Hid (∀ u, R u → Calls Try.prog 19 #[.pointer (some ⟨p, 0, none⟩), .int .i64 1, .int .i64 3] u fun e u' => ∃ q c, e = .returned (.slice q 0 c) ∧ LkRow u' q [] ∧ Below u.heap.size u u') := fun u hR => by
          rw [HRE.out] at hR
          refine (hR.log HI.out.2.1 HI.out.2.2 (n := 0) (by rw [HT3.out]; rfl)).mono ?_
          rintro e u' ⟨q, c, rfl, H⟩
          exact ⟨q, c, rfl, LkRow.nil _ _, H.out.2⟩
        have HSM : Hid (∀ u q c, R u → LkRow u q (l1.take zk) → Calls Try.prog 18 #[.slice q zk c, .slice wq zk wc] u fun e u' => e = .returned (.bool true) ∧ Below u.heap.size u u') := fun u q c hR hr => by
          rw [HRE.out] at hR
          have h2 := row_take (hR.rows (wq, l1) (by simp)) zk
          have := same_any q wq c wc _ _ u hr h2 (by rw [HTL.out]; have := HAA.out.2; omega) (by rw [HTL.out]; have := HAA.out.2; omega)
          rw [HTL.out] at this
          refine this.mono ?_
          rintro e u' ⟨rfl, hb⟩
          exact ⟨by rw [decide_eq_true rfl], hb⟩
        go_upto_region 17 with fail
        have K : ∀ u u', (R) u → Bm u u' → (R) u' := HRK.out
        have hd0 := C8.below_drewN 1 w8 w8.heap.size
        refine wp_region_sa (fk17 p zk z1 wc nn wq l1) Rows (Tm 2 w8 (R) [(3, 2), (4, 3), (15, 4), (16, 15)]) (by kernel_rfl) (Rows.below hd0) (fun _ _ _ h k => h.trans k) (fk17_kept p zk z1 wc nn wq l1) (by kernel_rfl) ⟨fun _ => hd0, fun h => (by cases h), fun _ _ h => (by cases h)⟩ ?_ ?_
        · intro i o a' w' f hi inv hS hfi hfw hpre
          have hlt : i < 22 := (Array.getElem?_eq_some_iff.1 hi).1
          obtain rfl|rfl|rfl|rfl|rfl|rfl|rfl|rfl|rfl|rfl|rfl|rfl|rfl|rfl|rfl|rfl|rfl|rfl|rfl|rfl|rfl|rfl : i = 0 ∨ i = 1 ∨ i = 2 ∨ i = 3 ∨ i = 4 ∨ i = 5 ∨ i = 6 ∨ i = 7 ∨ i = 8 ∨ i = 9 ∨ i = 10 ∨ i = 11 ∨ i = 12 ∨ i = 13 ∨ i = 14 ∨ i = 15 ∨ i = 16 ∨ i = 17 ∨ i = 18 ∨ i = 19 ∨ i = 20 ∨ i = 21 := by omega
          · obtain rfl := Option.some.inj hi
            have h0 : a'.tmps.getD 9 undef = (.pointer (some ⟨p, 0, none⟩)) := by rw [inv.old 9 (notDst_spec (by kernel_rfl))]; rfl
            exact rt_value K _ rfl rfl (rfl) (by decide) (allu (fun h => absurd (show (0 : Nat) = 3 from h) (by decide)) (allu (fun h => absurd (show (0 : Nat) = 4 from h) (by decide)) (allu (fun h => absurd (show (0 : Nat) = 15 from h) (by decide)) (allu (fun h => absurd (show (0 : Nat) = 16 from h) (by decide)) all0u)))) hS h0
          · obtain rfl := Option.some.inj hi
            have h0 : a'.tmps.getD 1 undef = (.int .i64 nn) := by rw [inv.old 1 (notDst_spec (by kernel_rfl))]; rfl
            exact rt_value K _ rfl rfl (rfl) (by decide) (allu (fun h => absurd (show (1 : Nat) = 3 from h) (by decide)) (allu (fun h => absurd (show (1 : Nat) = 4 from h) (by decide)) (allu (fun h => absurd (show (1 : Nat) = 15 from h) (by decide)) (allu (fun h => absurd (show (1 : Nat) = 16 from h) (by decide)) all0u)))) hS h0
          · obtain rfl := Option.some.inj hi
            have h0 : a'.tmps.getD 81 undef = (.pointer (some ⟨p, 0, none⟩)) := pre_of hpre 0 81 (by kernel_rfl) (by kernel_rfl)
            have h1 : a'.tmps.getD 82 undef = (.int .i64 nn) := pre_of hpre 1 82 (by kernel_rfl) (by kernel_rfl)
            refine rt_turn 16 #[a'.tmps.getD 81 undef, a'.tmps.getD 82 undef] rfl rfl (by kernel_rfl) rfl hfi (allu (fun h => absurd (show (2 : Nat) = 3 from h) (by decide)) (allu (fun h => absurd (show (2 : Nat) = 4 from h) (by decide)) (allu (fun h => absurd (show (2 : Nat) = 15 from h) (by decide)) (allu (fun h => absurd (show (2 : Nat) = 16 from h) (by decide)) all0u)))) hS (fun hb => ?_)
            rw [h0, h1]
            exact (HFK.out w' hb).mono (by rintro x u ⟨rfl, h1, h2⟩; exact ⟨_, rfl, h1, h2, rfl⟩)
          · obtain rfl := Option.some.inj hi
            have h0 : a'.tmps.getD 83 undef = (.int .i64 0) := pre_of hpre 2 83 (by kernel_rfl) (by kernel_rfl)
            exact rt_value K _ rfl rfl (neqE_run 39 83 _ _ _ rfl (by decide) h0 rfl) (by decide) (allu (fun _ => been_of hfw 2 (by kernel_rfl)) (allu (fun h => absurd (show (3 : Nat) = 4 from h) (by decide)) (allu (fun h => absurd (show (3 : Nat) = 15 from h) (by decide)) (allu (fun h => absurd (show (3 : Nat) = 16 from h) (by decide)) all0u)))) hS rfl
          · obtain rfl := Option.some.inj hi
            have h0 := pre_of hpre 3 84 (by kernel_rfl) (by kernel_rfl)
            exact rt_value K _ rfl rfl (rfl) (by decide) (allu (fun h => absurd (show (4 : Nat) = 3 from h) (by decide)) (allu (fun _ => been_of hfw 3 (by kernel_rfl)) (allu (fun h => absurd (show (4 : Nat) = 15 from h) (by decide)) (allu (fun h => absurd (show (4 : Nat) = 16 from h) (by decide)) all0u)))) hS h0
          · obtain rfl := Option.some.inj hi
            have hgu : a'.tmps.getD 85 undef = _ := pre_of hpre 4 85 (by kernel_rfl) (by kernel_rfl)
            have h0 : a'.tmps.getD 9 undef = (.pointer (some ⟨p, 0, none⟩)) := by rw [inv.old 9 (notDst_spec (by kernel_rfl))]; rfl
            exact rt_value K _ rfl (wanted_of 4 85 false rfl (by kernel_rfl) hgu) (rfl) (by decide) (allu (fun h => absurd (show (5 : Nat) = 3 from h) (by decide)) (allu (fun h => absurd (show (5 : Nat) = 4 from h) (by decide)) (allu (fun h => absurd (show (5 : Nat) = 15 from h) (by decide)) (allu (fun h => absurd (show (5 : Nat) = 16 from h) (by decide)) all0u)))) hS h0
          · obtain rfl := Option.some.inj hi
            have hgu : a'.tmps.getD 85 undef = _ := pre_of hpre 4 85 (by kernel_rfl) (by kernel_rfl)
            have h0 : a'.tmps.getD 86 undef = (.pointer (some ⟨p, 0, none⟩)) := pre_of hpre 5 86 (by kernel_rfl) (by kernel_rfl)
            refine rt_quiet K 19 #[a'.tmps.getD 86 undef, .int .i64 1, .int .i64 1] rfl (wanted_of 4 85 false rfl (by kernel_rfl) hgu) (by kernel_rfl) (by decide) (allu (fun h => absurd (show (6 : Nat) = 3 from h) (by decide)) (allu (fun h => absurd (show (6 : Nat) = 4 from h) (by decide)) (allu (fun h => absurd (show (6 : Nat) = 15 from h) (by decide)) (allu (fun h => absurd (show (6 : Nat) = 16 from h) (by decide)) all0u)))) hS ?_
            rw [h0]
            have g4 := been_of hfw 4 (by kernel_rfl)
            have hR := hS.2.1 (hS.2.2 (3, 2) (by simp) (hS.2.2 (4, 3) (by simp) g4))
            exact (HLG1.out w' hR).mono (by rintro x u ⟨q1, c1, rfl, h1, h2⟩; exact ⟨_, rfl, h2, q1, c1, rfl, h1⟩)
          · obtain rfl := Option.some.inj hi
            have hgu : a'.tmps.getD 85 undef = _ := pre_of hpre 4 85 (by kernel_rfl) (by kernel_rfl)
            have h0 : a'.tmps.getD 10 undef = (.slice wq z1 wc) := by rw [inv.old 10 (notDst_spec (by kernel_rfl))]; rfl
            exact rt_value K _ rfl (wanted_of 4 85 false rfl (by kernel_rfl) hgu) (rfl) (by decide) (allu (fun h => absurd (show (7 : Nat) = 3 from h) (by decide)) (allu (fun h => absurd (show (7 : Nat) = 4 from h) (by decide)) (allu (fun h => absurd (show (7 : Nat) = 15 from h) (by decide)) (allu (fun h => absurd (show (7 : Nat) = 16 from h) (by decide)) all0u)))) hS h0
          · obtain rfl := Option.some.inj hi
            have hgu : a'.tmps.getD 85 undef = _ := pre_of hpre 4 85 (by kernel_rfl) (by kernel_rfl)
            have h0 : a'.tmps.getD 1 undef = (.int .i64 nn) := by rw [inv.old 1 (notDst_spec (by kernel_rfl))]; rfl
            exact rt_value K _ rfl (wanted_of 4 85 false rfl (by kernel_rfl) hgu) (rfl) (by decide) (allu (fun h => absurd (show (8 : Nat) = 3 from h) (by decide)) (allu (fun h => absurd (show (8 : Nat) = 4 from h) (by decide)) (allu (fun h => absurd (show (8 : Nat) = 15 from h) (by decide)) (allu (fun h => absurd (show (8 : Nat) = 16 from h) (by decide)) all0u)))) hS h0
          · obtain rfl := Option.some.inj hi
            have hgu : a'.tmps.getD 85 undef = _ := pre_of hpre 4 85 (by kernel_rfl) (by kernel_rfl)
            have h0 : a'.tmps.getD 10 undef = (.slice wq z1 wc) := by rw [inv.old 10 (notDst_spec (by kernel_rfl))]; rfl
            exact rt_value K _ rfl (wanted_of 4 85 false rfl (by kernel_rfl) hgu) (rfl) (by decide) (allu (fun h => absurd (show (9 : Nat) = 3 from h) (by decide)) (allu (fun h => absurd (show (9 : Nat) = 4 from h) (by decide)) (allu (fun h => absurd (show (9 : Nat) = 15 from h) (by decide)) (allu (fun h => absurd (show (9 : Nat) = 16 from h) (by decide)) all0u)))) hS h0
          · obtain rfl := Option.some.inj hi
            have hgu : a'.tmps.getD 85 undef = _ := pre_of hpre 4 85 (by kernel_rfl) (by kernel_rfl)
            have h0 : a'.tmps.getD 90 undef = (.slice wq z1 wc) := pre_of hpre 9 90 (by kernel_rfl) (by kernel_rfl)
            exact rt_value K _ rfl (wanted_of 4 85 false rfl (by kernel_rfl) hgu) (lenV_run 90 _ _ _ 31 rfl (by decide) h0) (by decide) (allu (fun h => absurd (show (10 : Nat) = 3 from h) (by decide)) (allu (fun h => absurd (show (10 : Nat) = 4 from h) (by decide)) (allu (fun h => absurd (show (10 : Nat) = 15 from h) (by decide)) (allu (fun h => absurd (show (10 : Nat) = 16 from h) (by decide)) all0u)))) hS rfl
          · obtain rfl := Option.some.inj hi
            have hgu : a'.tmps.getD 85 undef = _ := pre_of hpre 4 85 (by kernel_rfl) (by kernel_rfl)
            have h0 : a'.tmps.getD 89 undef = (.int .i64 nn) := pre_of hpre 8 89 (by kernel_rfl) (by kernel_rfl)
            have h1 : a'.tmps.getD 91 undef = (.int .i64 (z1 : Int)) := pre_of hpre 10 91 (by kernel_rfl) (by kernel_rfl)
            exact rt_value K _ rfl (wanted_of 4 85 false rfl (by kernel_rfl) hgu) (minM_run 89 91 _ _ _ rfl h0 h1 HMIN.out) (by decide) (allu (fun h => absurd (show (11 : Nat) = 3 from h) (by decide)) (allu (fun h => absurd (show (11 : Nat) = 4 from h) (by decide)) (allu (fun h => absurd (show (11 : Nat) = 15 from h) (by decide)) (allu (fun h => absurd (show (11 : Nat) = 16 from h) (by decide)) all0u)))) hS rfl
          · obtain rfl := Option.some.inj hi
            have hgu : a'.tmps.getD 85 undef = _ := pre_of hpre 4 85 (by kernel_rfl) (by kernel_rfl)
            have h0 : a'.tmps.getD 88 undef = (.slice wq z1 wc) := pre_of hpre 7 88 (by kernel_rfl) (by kernel_rfl)
            have h1 : a'.tmps.getD 92 undef = (.int .i64 (zk : Int)) := pre_of hpre 11 92 (by kernel_rfl) (by kernel_rfl)
            exact rt_value K _ rfl (wanted_of 4 85 false rfl (by kernel_rfl) hgu) (sliceM_run 88 92 wq z1 wc zk rfl h0 h1 (slice_h wq z1 wc zk HZC.out w')) (by decide) (allu (fun h => absurd (show (12 : Nat) = 3 from h) (by decide)) (allu (fun h => absurd (show (12 : Nat) = 4 from h) (by decide)) (allu (fun h => absurd (show (12 : Nat) = 15 from h) (by decide)) (allu (fun h => absurd (show (12 : Nat) = 16 from h) (by decide)) all0u)))) hS rfl
          · obtain rfl := Option.some.inj hi
            have hgu : a'.tmps.getD 85 undef = _ := pre_of hpre 4 85 (by kernel_rfl) (by kernel_rfl)
            obtain ⟨q0, c0, e0, k0⟩ := pre_of hpre 6 87 (by kernel_rfl) (by kernel_rfl)
            have h1 : a'.tmps.getD 93 undef = (.slice wq zk wc) := pre_of hpre 12 93 (by kernel_rfl) (by kernel_rfl)
            refine rt_quiet K 18 #[a'.tmps.getD 87 undef, a'.tmps.getD 93 undef] rfl (wanted_of 4 85 false rfl (by kernel_rfl) hgu) (by kernel_rfl) (by decide) (allu (fun h => absurd (show (13 : Nat) = 3 from h) (by decide)) (allu (fun h => absurd (show (13 : Nat) = 4 from h) (by decide)) (allu (fun h => absurd (show (13 : Nat) = 15 from h) (by decide)) (allu (fun h => absurd (show (13 : Nat) = 16 from h) (by decide)) all0u)))) hS ?_
            rw [e0, h1]
            have g4 := been_of hfw 4 (by kernel_rfl)
            have hR := hS.2.1 (hS.2.2 (3, 2) (by simp) (hS.2.2 (4, 3) (by simp) g4))
            exact (HSM.out w' q0 c0 hR k0).mono (by rintro x u ⟨rfl, h⟩; exact ⟨_, rfl, h, rfl⟩)
          · obtain rfl := Option.some.inj hi
            have hgu : a'.tmps.getD 85 undef = _ := pre_of hpre 4 85 (by kernel_rfl) (by kernel_rfl)
            have h0 : a'.tmps.getD 94 undef = (.bool true) := pre_of hpre 13 94 (by kernel_rfl) (by kernel_rfl)
            exact rt_value K _ rfl (wanted_of 4 85 false rfl (by kernel_rfl) hgu) (not_run 94 _ rfl h0) (by decide) (allu (fun h => absurd (show (14 : Nat) = 3 from h) (by decide)) (allu (fun h => absurd (show (14 : Nat) = 4 from h) (by decide)) (allu (fun h => absurd (show (14 : Nat) = 15 from h) (by decide)) (allu (fun h => absurd (show (14 : Nat) = 16 from h) (by decide)) all0u)))) hS rfl
          · obtain rfl := Option.some.inj hi
            have h0 : a'.tmps.getD 85 undef = (.bool false) := pre_of hpre 4 85 (by kernel_rfl) (by kernel_rfl)
            have h1 : a'.tmps.getD 95 undef = (.bool false) := pre_of hpre 14 95 (by kernel_rfl) (by kernel_rfl)
            exact rt_value K _ rfl rfl (pick_run 85 false _ _ _ _ rfl h0 rfl h1) (by decide) (allu (fun h => absurd (show (15 : Nat) = 3 from h) (by decide)) (allu (fun h => absurd (show (15 : Nat) = 4 from h) (by decide)) (allu (fun _ => been_of hfw 4 (by kernel_rfl)) (allu (fun h => absurd (show (15 : Nat) = 16 from h) (by decide)) all0u)))) hS rfl
          · obtain rfl := Option.some.inj hi
            have h0 := pre_of hpre 15 96 (by kernel_rfl) (by kernel_rfl)
            exact rt_value K _ rfl rfl (rfl) (by decide) (allu (fun h => absurd (show (16 : Nat) = 3 from h) (by decide)) (allu (fun h => absurd (show (16 : Nat) = 4 from h) (by decide)) (allu (fun h => absurd (show (16 : Nat) = 15 from h) (by decide)) (allu (fun _ => been_of hfw 15 (by kernel_rfl)) all0u)))) hS h0
          · obtain rfl := Option.some.inj hi
            have hgu : a'.tmps.getD 97 undef = _ := pre_of hpre 16 97 (by kernel_rfl) (by kernel_rfl)
            have h0 : a'.tmps.getD 9 undef = (.pointer (some ⟨p, 0, none⟩)) := by rw [inv.old 9 (notDst_spec (by kernel_rfl))]; rfl
            exact rt_value K _ rfl (wanted_of 16 97 false rfl (by kernel_rfl) hgu) (rfl) (by decide) (allu (fun h => absurd (show (17 : Nat) = 3 from h) (by decide)) (allu (fun h => absurd (show (17 : Nat) = 4 from h) (by decide)) (allu (fun h => absurd (show (17 : Nat) = 15 from h) (by decide)) (allu (fun h => absurd (show (17 : Nat) = 16 from h) (by decide)) all0u)))) hS h0
          · obtain rfl := Option.some.inj hi
            have hgu : a'.tmps.getD 97 undef = _ := pre_of hpre 16 97 (by kernel_rfl) (by kernel_rfl)
            have h0 : a'.tmps.getD 98 undef = (.pointer (some ⟨p, 0, none⟩)) := pre_of hpre 17 98 (by kernel_rfl) (by kernel_rfl)
            refine rt_quiet K 19 #[a'.tmps.getD 98 undef, .int .i64 1, .int .i64 3] rfl (wanted_of 16 97 false rfl (by kernel_rfl) hgu) (by kernel_rfl) (by decide) (allu (fun h => absurd (show (18 : Nat) = 3 from h) (by decide)) (allu (fun h => absurd (show (18 : Nat) = 4 from h) (by decide)) (allu (fun h => absurd (show (18 : Nat) = 15 from h) (by decide)) (allu (fun h => absurd (show (18 : Nat) = 16 from h) (by decide)) all0u)))) hS ?_
            rw [h0]
            have g16 := been_of hfw 16 (by kernel_rfl)
            have hR := hS.2.1 (hS.2.2 (3, 2) (by simp) (hS.2.2 (4, 3) (by simp) (hS.2.2 (15, 4) (by simp) (hS.2.2 (16, 15) (by simp) g16))))
            exact (HLG3.out w' hR).mono (by rintro x u ⟨q1, c1, rfl, h1, h2⟩; exact ⟨_, rfl, h2, q1, c1, rfl, h1⟩)
          · obtain rfl := Option.some.inj hi
            have hgu : a'.tmps.getD 97 undef = _ := pre_of hpre 16 97 (by kernel_rfl) (by kernel_rfl)
            obtain ⟨q0, c0, e0, k0⟩ := pre_of hpre 18 99 (by kernel_rfl) (by kernel_rfl)
            exact rt_value K _ rfl (wanted_of 16 97 false rfl (by kernel_rfl) hgu) (lenV_run 99 _ _ _ 31 rfl (by decide) e0) (by decide) (allu (fun h => absurd (show (19 : Nat) = 3 from h) (by decide)) (allu (fun h => absurd (show (19 : Nat) = 4 from h) (by decide)) (allu (fun h => absurd (show (19 : Nat) = 15 from h) (by decide)) (allu (fun h => absurd (show (19 : Nat) = 16 from h) (by decide)) all0u)))) hS rfl
          · obtain rfl := Option.some.inj hi
            have hgu : a'.tmps.getD 97 undef = _ := pre_of hpre 16 97 (by kernel_rfl) (by kernel_rfl)
            have h0 : a'.tmps.getD 100 undef = (.int .i64 0) := pre_of hpre 19 100 (by kernel_rfl) (by kernel_rfl)
            exact rt_value K _ rfl (wanted_of 16 97 false rfl (by kernel_rfl) hgu) (gtrE_run 100 0 0 rfl h0) (by decide) (allu (fun h => absurd (show (20 : Nat) = 3 from h) (by decide)) (allu (fun h => absurd (show (20 : Nat) = 4 from h) (by decide)) (allu (fun h => absurd (show (20 : Nat) = 15 from h) (by decide)) (allu (fun h => absurd (show (20 : Nat) = 16 from h) (by decide)) all0u)))) hS rfl
          · obtain rfl := Option.some.inj hi
            have h0 : a'.tmps.getD 97 undef = (.bool false) := pre_of hpre 16 97 (by kernel_rfl) (by kernel_rfl)
            have h1 : a'.tmps.getD 101 undef = (.bool false) := pre_of hpre 20 101 (by kernel_rfl) (by kernel_rfl)
            exact rt_value K _ rfl rfl (pick_run 97 false _ _ _ _ rfl h0 rfl h1) (by decide) (allu (fun h => absurd (show (21 : Nat) = 3 from h) (by decide)) (allu (fun h => absurd (show (21 : Nat) = 4 from h) (by decide)) (allu (fun h => absurd (show (21 : Nat) = 15 from h) (by decide)) (allu (fun h => absurd (show (21 : Nat) = 16 from h) (by decide)) all0u)))) hS rfl
        intro a' w9 f inv hS hall hd
        have hk21 := hd 21 102 (by kernel_rfl)
        have hR : (R) w9 := hS.2.1 (hall 2 (by decide))
        have hdf : a'.defers = [] := inv.defers
        have e := frame_of [81, 82, 83, 84, 85, 86, 87, 88, 89, 90, 91, 92, 93, 94, 95, 96, 97, 98, 99, 100, 101, 102] inv.size (fun t ht => inv.old t (dstsIn_spec (ts := [81, 82, 83, 84, 85, 86, 87, 88, 89, 90, 91, 92, 93, 94, 95, 96, 97, 98, 99, 100, 101, 102]) (by kernel_rfl) t ht))
        clear inv hd hall hS hd0 K
        obtain ⟨tmps, defers⟩ := a'
        obtain rfl : defers = [] := hdf
        replace e : tmps = List.foldl (fun G t => G.setIfInBounds t (tmps.getD t undef)) _ [81, 82, 83, 84, 85, 86, 87, 88, 89, 90, 91, 92, 93, 94, 95, 96, 97, 98, 99, 100, 101, 102] := e
        simp only [List.foldl_cons, List.foldl_nil] at e
        replace hk21 : tmps.getD 102 undef = (.bool false) := hk21
        generalize tmps.getD 81 undef = x81 at *
        generalize tmps.getD 82 undef = x82 at *
        generalize tmps.getD 83 undef = x83 at *
        generalize tmps.getD 84 undef = x84 at *
        generalize tmps.getD 85 undef = x85 at *
        generalize tmps.getD 86 undef = x86 at *
        generalize tmps.getD 87 undef = x87 at *
        generalize tmps.getD 88 undef = x88 at *
        generalize tmps.getD 89 undef = x89 at *
        generalize tmps.getD 90 undef = x90 at *
        generalize tmps.getD 91 undef = x91 at *
        generalize tmps.getD 92 undef = x92 at *
        generalize tmps.getD 93 undef = x93 at *
        generalize tmps.getD 94 undef = x94 at *
        generalize tmps.getD 95 undef = x95 at *
        generalize tmps.getD 96 undef = x96 at *
        generalize tmps.getD 97 undef = x97 at *
        generalize tmps.getD 98 undef = x98 at *
        generalize tmps.getD 99 undef = x99 at *
        generalize tmps.getD 100 undef = x100 at *
        generalize tmps.getD 101 undef = x101 at *
        generalize tmps.getD 102 undef = x102 at *
        simp only [List.setIfInBounds_toArray, List.set_cons_succ, List.set_cons_zero] at e
        subst e
        subst hk21
        rw [HRE.out] at hR
        have HS9 : Hid (Sk w w9 p b (0 + 1 + 1 + (0 + 1 + 1)) M3 [(wq, l1)]) := hR
        obtain ⟨M4, HM4⟩ : ∃ M, Hid (upd M3 1 1 (add (M3 1 1) ms) = M) := ⟨_, rfl⟩
        have f3 : Hid (hd M3 1 (F17.bytes (pf 1 ms)) = (M4, [], 0)) := by
          show _ = _
          rw [hd_pushed (.inr rfl) (by omega) HF.out.2.2.2.1 HF.out.2.1 HF.out.2.2.2.2.2.1 (by rw [HTK.out, HTL.out]; have := HM8.out; omega), HM4.out]
        have HT4 : Hid (M4 0 1 = l1) := by
          show _ = _
          rw [← HM4.out, upd_other _ _ (by omega), HT1.out]
        clear hR HFK HLG1 HLG3 HSM HRK HS8 HMIN HZC HTL HTK HT3 HT1
        go_wp2_with fail
        refine (HS9.out.push HB.out.1 HM.out (c := 1) (by omega) HF.out.2.2.2.1 HF.out.2.1 HF.out.2.2.2.2.2.1).mono ?_
        rintro e w10 ⟨v10, rfl, H10⟩
        clear HS9
        go_wp2_with fail
        refine (H10.out.1.handle f3.out H10.out.2 HI.out.2.1 (by omega)).mono ?_
        rintro e w11 ⟨v11, rfl, H11⟩
        clear H10
        go_wp2_with fail
        refine (H11.out.1.log HI.out.1 HI.out.2.1 (n := z1) (by rw [HT4.out]; exact HZ1.out)).mono ?_
        rintro e w12 ⟨q12, c12, rfl, H12⟩
        replace H12 := H12.out.1
        rw [HT4.out] at H12
        have HS12 : Hid (Sk w w12 p b (0 + 1 + 1 + (0 + 1 + 1) + 1) M4 [(q12, l1), (wq, l1)]) := H12
        clear H11 H12
        go_wp2_with fail
        refine (HS12.out.same (ls := l1) (ms := l1) (by simp) (by simp) HZ1.out HZ1.out HAA.out.2 HAA.out.2).mono ?_
        rintro e w13 ⟨rfl, H13⟩
        clear HS12
        rw [decide_eq_true rfl]
        go_wp2_with fail
        go_ret
        exact ⟨rfl, H13.out.sv.bel⟩
end Go.Proofs.Ytchoiioeeepoaaa.V19
