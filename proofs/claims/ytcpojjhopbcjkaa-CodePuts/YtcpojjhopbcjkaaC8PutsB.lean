/- The walk of CodePuts. -/
import Derived.Test.YtcpojjhopbcjkaaC8PutsV
namespace Go.Proofs.Ytcpojjhopbcjkaa.C8
open Go.RowKit
set_option maxRecDepth 10000 in
set_option maxHeartbeats 8000000 in
theorem puts_bad (ps : List Pt) (a : Option Addr) (n c : Nat) (w : World) (hn : ps.length = n) (gn : n ≤ 9223372036854775807) (hp : PartRow w a ps) (hs : sm ps = true) (he : Cd.err ps ≠ 0) :
    Calls Try.prog 3 #[.slice a n c] w fun e w' => e = .returned (.bool true) ∧ Below w.heap.size w w' := by
  have HP : Hid (PartRow w a ps) := hp
  have HN : Hid (ps.length = n) := hn
  have hl : n ≤ 20 := by
    have h := hs
    simp only [sm, Bool.and_eq_true, decide_eq_true_eq] at h
    omega
  have n1 : (n : Int) ≤ 20 := by omega
  have HE : Hid (Cd.err ps ≠ 0) := he
  clear hp he
  go_enter Try.func3, Try.ntmps3
  go_wp2_with (go_at_call 9; refine (anchor_any _).mono ?_; rintro e w0 ⟨rfl, b0⟩; have B0 : Hid (Below w.heap.size w w0) := b0; clear b0)
  refine (small_any ps a n c w0 hn gn (HP.out.moved (bel_le B0.out (Nat.le_refl _)))).mono ?_
  rintro e w1 ⟨rfl, b1⟩
  have B1 : Hid (Below w.heap.size w w1) := B0.out.trans (bel_le b1 B0.out.size)
  clear b1
  rw [hs]
  go_wp2_with fail
  refine (put_any ps a n c w1 hn hl (HP.out.moved B1.out)).mono ?_
  intro e w2 h2
  obtain ⟨rfl, b2⟩ := h2.bad HE.out
  have B2 : Hid (Below w.heap.size w w2) := B1.out.trans (bel_le b2 B1.out.size)
  obtain ⟨er, HER⟩ : ∃ er, Hid (Cd.err ps = er) := ⟨_, rfl⟩
  rw [HER.out]
  clear h2 b2 B0 B1 hs hn gn
  go_wp2_with fail
  go_loopw [5, 23] (fun wv i wr => ∃ j : Nat, j ≤ n ∧ i = .int .i64 j ∧ Hid (wr.ownsRow w2.heap.size 5 1 wv (Cd.enc (ps.take j)).length (ints .u8 (Cd.enc (ps.take j)))) ∧ Hid (Below w.heap.size w wr) ∧ Hid (Cd.err (ps.take j) = 0) ∧ Hid (Below w2.heap.size w2 wr)) (fun _ i _ => n - (intOf i).toNat)
  case atStart => exact ⟨0, by omega, rfl, own_none _ _ _ _, B2.out, rfl, Below.refl _ _⟩
  case round =>
    obtain ⟨j, hj, rfl, HO, HB, HE0, HZ⟩ := hrel
    by_cases hlt : j < n
    · have hjp : j < ps.length := by rw [HN.out]; exact hlt
      obtain ⟨b, o, sv, rfl, hb, d0, d1, d2, hsv, ht⟩ := HP.out.below HB.out j hjp
      obtain ⟨sp, sc, rfl, -⟩ := hsv.1.slice
      have j1 : (j : Int) < (n : Int) := by omega
      have j0 : (0 : Int) ≤ (j : Int) := by omega
      by_cases hw : Cd.wrong ps[j] = 0
      · have HE2 : Hid (Cd.err (ps.take (j + 1)) = 0) := Cd.err_take_succ HE0.out hjp hw
        have HC2 : Hid (Cd.enc (ps.take (j + 1)) = Cd.enc (ps.take j) ++ Cd.one ps[j]) := by
          show _ = _
          rw [List.take_succ_eq_append_getElem hjp, Cd.enc_snoc]
        have HL : Hid ((Cd.enc (ps.take j)).length ≤ 80000) := by
          have h1 := Cd.enc_length_le (Cd.wrong_of_err HE0.out)
          have h2 : (ps.take j).length ≤ 19 := by rw [List.length_take]; omega
          show _ ≤ _
          omega
        have HSM : Hid (∀ x ∈ ps[j].text, x < 256) := hsv.1.small
        have h1len := Cd.one_length_le hw
        obtain ⟨qw, cw, rfl⟩ := own_slice HO.out
        generalize hen : Cd.enc (ps.take j) = en at *
        obtain ⟨en2, HN2⟩ : ∃ en2, Hid (Cd.enc (ps.take (j + 1)) = en2) := ⟨_, rfl⟩
        rw [HN2.out] at HC2
        clear hen
        generalize ps[j] = pt at *
        obtain ⟨isT, pn, tx⟩ := pt
        simp only at d0 d1 d2 hsv ht HSM
        have HAP : Hid (∀ (cp : Value) (w3 : World) (v : Value) (m : Nat), Below (wr.heap.size + 1) (wr.alloc (Obj.cells #[cp, .int .i64 pn, .slice sp tx.length sc] 30)) w3 → w3.ownsRow (wr.heap.size + 1) 5 1 v m (ints .u8 (Cd.one ⟨isT, pn, tx⟩)) → w3.ownsRow w2.heap.size 5 1 (.slice qw en.length cw) en.length (ints .u8 en) ∧ Src w3 v (Cd.one ⟨isT, pn, tx⟩) ∧ w2.heap.size ≤ w3.heap.size ∧ Below w.heap.size w w3 ∧ ∀ v' w4, Grow (.slice qw en.length cw) v' w3 w4 → Below w2.heap.size w2 w4 ∧ Below w.heap.size w w4) := fun cp w3 v m hb3 hv => by
          have hA : Below wr.heap.size wr (wr.alloc (Obj.cells #[cp, .int .i64 pn, .slice sp tx.length sc] 30)) := (Below.refl _ wr).alloc (Nat.le_refl _) _
          have hB3 : Below wr.heap.size wr w3 := hA.trans (bel_le hb3 (by omega))
          have ho3 := own_below HO.out hB3
          have hz3 := Nat.le_trans HZ.out.size hB3.size
          have hbw : Below w.heap.size w w3 := HB.out.trans (bel_le hB3 HB.out.size)
          refine ⟨ho3, Src.own (Cd.one_lt HSM.out) hv, hz3, hbw, fun v' w4 h4 => ⟨(HZ.out.trans (bel_le hB3 HZ.out.size)).trans (h4.below ho3 hz3), hbw.trans (bel_le (h4.below ho3 hz3) B2.out.size)⟩⟩
        have HB2S : Hid (w.heap.size ≤ w2.heap.size) := B2.out.size
        cases isT with
        | true =>
          have h5 : tx.length ≤ 4096 := by rw [wrong_text rfl] at hw; split at hw <;> simp_all
          have e1 : Cd.one ⟨true, pn, tx⟩ = Cd.be 2 tx.length ++ tx := by unfold Cd.one; rw [if_pos rfl]
          have h6 : (tx.length : Int) ≤ 4096 := by omega
          have HCT : ∀ W, W = wr.alloc (Obj.cells #[.bool true, .int .i64 pn, .slice sp tx.length sc] 30) → Calls Try.prog 12 #[.slice sp tx.length sc] W fun e w' => ∃ v m, e = .returned v ∧ Hid (w'.ownsRow (wr.heap.size + 1) 5 1 v m (ints .u8 (Cd.one ⟨true, pn, tx⟩))) ∧ Hid (Below (wr.heap.size + 1) (wr.alloc (Obj.cells #[.bool true, .int .i64 pn, .slice sp tx.length sc] 30)) w') := by
            rintro W rfl
            refine (RefText_any _ tx _ (hsv.1.below ((Below.refl _ wr).alloc (Nat.le_refl _) _)) h5).mono ?_
            rintro e w' ⟨v, rfl, h1, h2⟩
            rw [show (wr.alloc (Obj.cells #[.bool true, .int .i64 pn, .slice sp tx.length sc] 30)).heap.size = wr.heap.size + 1 from by simp] at h1 h2
            exact ⟨v, _, rfl, by rw [e1]; exact h1, h2⟩
          have HONE : Hid (en2 = en ++ Cd.one ⟨true, pn, tx⟩ ∧ (Cd.one ⟨true, pn, tx⟩).length ≤ 4098) := ⟨HC2.out, h1len⟩
          generalize Cd.one ⟨true, pn, tx⟩ = on1 at *
          clear hw hsv e1 HC2 h1len HO HB HE0 hjp
          generalize tx.length = tl at *
          generalize hel : en.length = el at *
          go_wp2_with (first | (go_at_call 12; refine (HCT _ rfl).mono ?_; rintro e w3 ⟨v3, m3, rfl, HV3, HB3⟩) | with_reducible (refine stop_builtin .append ?_))
          refine Stop.go ?_
          obtain ⟨ho3, hs3, hz3, hbw3, hk3⟩ := HAP.out _ w3 v3 m3 HB3.out HV3.out
          refine law_append_grow w2.heap.size _ el en v3 on1 rfl rfl ho3 hs3 (by have := HL.out; have := HONE.out.2; omega) hz3 ?_
          intro v4 w4 h4 g4
          obtain ⟨hz4, hb4⟩ := hk3 v4 w4 g4
          have HO4 : Hid (w4.ownsRow w2.heap.size 5 1 v4 en2.length (ints .u8 en2)) := by
            rw [HONE.out.1, List.length_append, hel]
            exact h4
          have HB4 : Hid (Below w.heap.size w w4) := hb4
          have HZ4 : Hid (Below w2.heap.size w2 w4) := hz4
          clear ho3 hs3 hz3 hbw3 hk3 h4 g4 hz4 hb4 HAP HCT HV3 HB3 HONE HL
          go_wp2_with fail
          refine ⟨⟨j + 1, by omega, by simp, by rw [HN2.out]; exact HO4, HB4, HE2, HZ4⟩, ?_⟩
          simp only [intOf]
          omega
        | false =>
          have h5 : ¬ (pn < 0 ∨ 1099511627776 < pn) := by rw [wrong_num rfl] at hw; split at hw <;> simp_all
          have h6 : 0 ≤ pn := by omega
          have h7 : pn ≤ 1099511627776 := by omega
          have e1 : Cd.one ⟨false, pn, tx⟩ = Cd.be 6 pn.toNat := by unfold Cd.one; rw [if_neg (by simp)]
          have HCT : ∀ W, W = wr.alloc (Obj.cells #[.bool false, .int .i64 pn, .slice sp tx.length sc] 30) → Calls Try.prog 13 #[.int .i64 pn] W fun e w' => ∃ v m, e = .returned v ∧ Hid (w'.ownsRow (wr.heap.size + 1) 5 1 v m (ints .u8 (Cd.one ⟨false, pn, tx⟩))) ∧ Hid (Below (wr.heap.size + 1) (wr.alloc (Obj.cells #[.bool false, .int .i64 pn, .slice sp tx.length sc] 30)) w') := by
            rintro W rfl
            have h8 := RefNum_any pn.toNat (wr.alloc (Obj.cells #[.bool false, .int .i64 pn, .slice sp tx.length sc] 30)) (by omega)
            rw [show ((pn.toNat : Nat) : Int) = pn from by omega] at h8
            refine h8.mono ?_
            rintro e w' ⟨v, rfl, h1, h2⟩
            rw [show (wr.alloc (Obj.cells #[.bool false, .int .i64 pn, .slice sp tx.length sc] 30)).heap.size = wr.heap.size + 1 from by simp] at h1 h2
            exact ⟨v, _, rfl, by rw [e1]; exact h1, h2⟩
          have HONE : Hid (en2 = en ++ Cd.one ⟨false, pn, tx⟩ ∧ (Cd.one ⟨false, pn, tx⟩).length ≤ 4098) := ⟨HC2.out, h1len⟩
          generalize Cd.one ⟨false, pn, tx⟩ = on1 at *
          clear hw hsv e1 HC2 h1len HO HB HE0 hjp h5
          generalize tx.length = tl at *
          generalize hel : en.length = el at *
          go_wp2_with (first | (go_at_call 13; refine (HCT _ rfl).mono ?_; rintro e w3 ⟨v3, m3, rfl, HV3, HB3⟩) | with_reducible (refine stop_builtin .append ?_))
          refine Stop.go ?_
          obtain ⟨ho3, hs3, hz3, hbw3, hk3⟩ := HAP.out _ w3 v3 m3 HB3.out HV3.out
          refine law_append_grow w2.heap.size _ el en v3 on1 rfl rfl ho3 hs3 (by have := HL.out; have := HONE.out.2; omega) hz3 ?_
          intro v4 w4 h4 g4
          obtain ⟨hz4, hb4⟩ := hk3 v4 w4 g4
          have HO4 : Hid (w4.ownsRow w2.heap.size 5 1 v4 en2.length (ints .u8 en2)) := by
            rw [HONE.out.1, List.length_append, hel]
            exact h4
          have HB4 : Hid (Below w.heap.size w w4) := hb4
          have HZ4 : Hid (Below w2.heap.size w2 w4) := hz4
          clear ho3 hs3 hz3 hbw3 hk3 h4 g4 hz4 hb4 HAP HCT HV3 HB3 HONE HL
          go_wp2_with fail
          refine ⟨⟨j + 1, by omega, by simp, by rw [HN2.out]; exact HO4, HB4, HE2, HZ4⟩, ?_⟩
          simp only [intOf]
          omega
      · have HEQ : Hid (er = Cd.wrong ps[j]) := by show _ = _; rw [← HER.out]; exact Cd.err_take HE0.out hjp hw
        have HB2 : Hid (∀ o, Below w.heap.size w (wr.alloc o)) := fun o => HB.out.alloc HB.out.size o
        generalize ps[j] = pt at *
        obtain ⟨isT, pn, tx⟩ := pt
        simp only at d0 d1 d2 hsv ht
        clear HE0 HO hjp
        cases isT with
        | true =>
          have h5 : 4096 < tx.length := by rw [wrong_text rfl] at hw; split at hw <;> simp_all
          have e5 : er = 11 := by rw [HEQ.out, wrong_text rfl, if_pos h5]
          have h6 : (4096 : Int) < (tx.length : Int) := by omega
          subst e5
          clear hw HEQ hsv
          generalize tx.length = tl at *
          go_wp2_with fail
          go_ret
          exact ⟨rfl, HB2.out _⟩
        | false =>
          have h5 : pn < 0 ∨ 1099511627776 < pn := by rw [wrong_num rfl] at hw; split at hw <;> simp_all
          have e5 : er = 12 := by rw [HEQ.out, wrong_num rfl, if_pos h5]
          subst e5
          clear hw HEQ hsv
          generalize tx.length = tl at *
          by_cases h6 : pn < 0
          · clear h5
            go_wp2_with fail
            go_ret
            exact ⟨rfl, HB2.out _⟩
          · have h7 : 1099511627776 < pn := by omega
            clear h5
            go_wp2_with fail
            go_ret
            exact ⟨rfl, HB2.out _⟩
    · exfalso
      have := HE0.out
      rw [List.take_of_length_le (by rw [HN.out]; omega)] at this
      exact HE.out this
end Go.Proofs.Ytcpojjhopbcjkaa.C8
