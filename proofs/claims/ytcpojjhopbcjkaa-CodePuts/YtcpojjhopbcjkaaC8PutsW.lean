/- The walk of CodePuts. -/
import Derived.Test.YtcpojjhopbcjkaaC8PutsB
import Derived.Test.YtcpojjhopbcjkaaC8Both
namespace Go.Proofs.Ytcpojjhopbcjkaa.C8
open Go.RowKit
set_option maxRecDepth 10000 in
set_option maxHeartbeats 8000000 in
theorem puts_main (ps : List Pt) (a : Option Addr) (n c : Nat) (w : World) (hn : ps.length = n) (gn : n ≤ 9223372036854775807) (hp : PartRow w a ps) (hs : sm ps = true) (he : Cd.err ps = 0) :
    Calls Try.prog 3 #[.slice a n c] w fun e w' => e = .returned (.bool true) ∧ Below w.heap.size w w' := by
  have HP : Hid (PartRow w a ps) := hp
  have HN : Hid (ps.length = n) := hn
  have hl : n ≤ 20 := by
    have h := hs
    simp only [sm, Bool.and_eq_true, decide_eq_true_eq] at h
    omega
  have n1 : (n : Int) ≤ 20 := by omega
  have HE : Hid (Cd.err ps = 0) := he
  have HSX : Hid (∀ y ∈ Cd.enc ps, y < 256) := Cd.enc_lt (fun p hp => by
    obtain ⟨k, hk, rfl⟩ := List.getElem_of_mem hp
    obtain ⟨_, _, _, _, _, _, _, _, h6, _⟩ := HP.out k hk
    exact h6.1.small)
  have HLN : Hid ((Cd.enc ps).length ≤ 90000) := by
    have h1 := Cd.enc_length_le (Cd.wrong_of_err he)
    show _ ≤ _
    omega
  clear hp he
  go_enter Try.func3, Try.ntmps3
  go_wp2_with (go_at_call 9; refine (anchor_any _).mono ?_; rintro e w0 ⟨rfl, b0⟩; have B0 : Hid (Below w.heap.size w w0) := b0; clear b0)
  refine (small_any ps a n c w0 hn gn (HP.out.moved (bel_le B0.out (Nat.le_refl _)))).mono ?_
  rintro e w1 ⟨rfl, b1⟩
  have B1 : Hid (Below w.heap.size w w1) := B0.out.trans (bel_le b1 B0.out.size)
  clear b1
  rw [hs]
  go_wp2_with fail
  refine (put_any ps a n c w1 hn hl (HP.out.moved B1.out)).mono ?_
  intro e w2 h2
  obtain ⟨bv, rfl, ho2, b2⟩ := h2.ok HE.out
  have B2 : Hid (Below w.heap.size w w2) := B1.out.trans (bel_le b2 B1.out.size)
  have HBV : Hid (w2.ownsRow w1.heap.size 5 1 bv (Cd.enc ps).length (ints .u8 (Cd.enc ps))) := ho2
  obtain ⟨qb, cb, rfl⟩ := own_slice ho2
  obtain ⟨lb, HLB⟩ : ∃ lb, Hid ((Cd.enc ps).length = lb) := ⟨_, rfl⟩
  rw [HLB.out] at HBV HLN ⊢
  clear h2 ho2 b2 B0 B1 hs hn gn
  go_wp2_with fail
  go_loopw [5, 23] (fun wv i wr => ∃ j : Nat, j ≤ n ∧ i = .int .i64 j ∧ Hid (wr.ownsRow w2.heap.size 5 1 wv (Cd.enc (ps.take j)).length (ints .u8 (Cd.enc (ps.take j)))) ∧ Hid (Below w.heap.size w wr) ∧ Hid (Cd.err (ps.take j) = 0) ∧ Hid (Below w2.heap.size w2 wr)) (fun _ i _ => n - (intOf i).toNat)
  case atStart => exact ⟨0, by omega, rfl, own_none _ _ _ _, B2.out, rfl, Below.refl _ _⟩
  case round =>
    obtain ⟨j, hj, rfl, HO, HB, HE0, HZ⟩ := hrel
    by_cases hlt : j < n
    · have hjp : j < ps.length := by rw [HN.out]; exact hlt
      obtain ⟨b, o, sv, rfl, hb, d0, d1, d2, hsv, ht⟩ := HP.out.below HB.out j hjp
      obtain ⟨sp, sc, rfl, -⟩ := hsv.1.slice
      have j1 : (j : Int) < (n : Int) := by omega
      have j0 : (0 : Int) ≤ (j : Int) := by omega
      have hw : Cd.wrong ps[j] = 0 := Cd.wrong_of_err HE.out _ (List.getElem_mem hjp)
      have HE2 : Hid (Cd.err (ps.take (j + 1)) = 0) := Cd.err_take_succ HE0.out hjp hw
      have HC2 : Hid (Cd.enc (ps.take (j + 1)) = Cd.enc (ps.take j) ++ Cd.one ps[j]) := by
        show _ = _
        rw [List.take_succ_eq_append_getElem hjp, Cd.enc_snoc]
      have HL : Hid ((Cd.enc (ps.take j)).length ≤ 80000) := by
        have h1 := Cd.enc_length_le (Cd.wrong_of_err HE0.out)
        have h2 : (ps.take j).length ≤ 19 := by rw [List.length_take]; omega
        show _ ≤ _
        omega
      have HSM : Hid (∀ x ∈ ps[j].text, x < 256) := hsv.1.small
      have h1len := Cd.one_length_le hw
      obtain ⟨qw, cw, rfl⟩ := own_slice HO.out
      generalize hen : Cd.enc (ps.take j) = en at *
      obtain ⟨en2, HN2⟩ : ∃ en2, Hid (Cd.enc (ps.take (j + 1)) = en2) := ⟨_, rfl⟩
      rw [HN2.out] at HC2
      clear hen
      generalize ps[j] = pt at *
      obtain ⟨isT, pn, tx⟩ := pt
      simp only at d0 d1 d2 hsv ht HSM
      have HAP : Hid (∀ (cp : Value) (w3 : World) (v : Value) (m : Nat), Below (wr.heap.size + 1) (wr.alloc (Obj.cells #[cp, .int .i64 pn, .slice sp tx.length sc] 30)) w3 → w3.ownsRow (wr.heap.size + 1) 5 1 v m (ints .u8 (Cd.one ⟨isT, pn, tx⟩)) → w3.ownsRow w2.heap.size 5 1 (.slice qw en.length cw) en.length (ints .u8 en) ∧ Src w3 v (Cd.one ⟨isT, pn, tx⟩) ∧ w2.heap.size ≤ w3.heap.size ∧ Below w.heap.size w w3 ∧ ∀ v' w4, Grow (.slice qw en.length cw) v' w3 w4 → Below w2.heap.size w2 w4 ∧ Below w.heap.size w w4) := fun cp w3 v m hb3 hv => by
        have hA : Below wr.heap.size wr (wr.alloc (Obj.cells #[cp, .int .i64 pn, .slice sp tx.length sc] 30)) := (Below.refl _ wr).alloc (Nat.le_refl _) _
        have hB3 : Below wr.heap.size wr w3 := hA.trans (bel_le hb3 (by omega))
        have ho3 := own_below HO.out hB3
        have hz3 := Nat.le_trans HZ.out.size hB3.size
        have hbw : Below w.heap.size w w3 := HB.out.trans (bel_le hB3 HB.out.size)
        refine ⟨ho3, Src.own (Cd.one_lt HSM.out) hv, hz3, hbw, fun v' w4 h4 => ⟨(HZ.out.trans (bel_le hB3 HZ.out.size)).trans (h4.below ho3 hz3), hbw.trans (bel_le (h4.below ho3 hz3) B2.out.size)⟩⟩
      have HB2S : Hid (w.heap.size ≤ w2.heap.size) := B2.out.size
      cases isT with
      | true =>
        have h5 : tx.length ≤ 4096 := by rw [wrong_text rfl] at hw; split at hw <;> simp_all
        have e1 : Cd.one ⟨true, pn, tx⟩ = Cd.be 2 tx.length ++ tx := by unfold Cd.one; rw [if_pos rfl]
        have h6 : (tx.length : Int) ≤ 4096 := by omega
        have HCT : ∀ W, W = wr.alloc (Obj.cells #[.bool true, .int .i64 pn, .slice sp tx.length sc] 30) → Calls Try.prog 12 #[.slice sp tx.length sc] W fun e w' => ∃ v m, e = .returned v ∧ Hid (w'.ownsRow (wr.heap.size + 1) 5 1 v m (ints .u8 (Cd.one ⟨true, pn, tx⟩))) ∧ Hid (Below (wr.heap.size + 1) (wr.alloc (Obj.cells #[.bool true, .int .i64 pn, .slice sp tx.length sc] 30)) w') := by
          rintro W rfl
          refine (RefText_any _ tx _ (hsv.1.below ((Below.refl _ wr).alloc (Nat.le_refl _) _)) h5).mono ?_
          rintro e w' ⟨v, rfl, h1, h2⟩
          rw [show (wr.alloc (Obj.cells #[.bool true, .int .i64 pn, .slice sp tx.length sc] 30)).heap.size = wr.heap.size + 1 from by simp] at h1 h2
          exact ⟨v, _, rfl, by rw [e1]; exact h1, h2⟩
        have HONE : Hid (en2 = en ++ Cd.one ⟨true, pn, tx⟩ ∧ (Cd.one ⟨true, pn, tx⟩).length ≤ 4098) := ⟨HC2.out, h1len⟩
        generalize Cd.one ⟨true, pn, tx⟩ = on1 at *
        clear hw hsv e1 HC2 h1len HO HB HE0 hjp
        generalize tx.length = tl at *
        generalize hel : en.length = el at *
        go_wp2_with (first | (go_at_call 12; refine (HCT _ rfl).mono ?_; rintro e w3 ⟨v3, m3, rfl, HV3, HB3⟩) | with_reducible (refine stop_builtin .append ?_))
        refine Stop.go ?_
        obtain ⟨ho3, hs3, hz3, hbw3, hk3⟩ := HAP.out _ w3 v3 m3 HB3.out HV3.out
        refine law_append_grow w2.heap.size _ el en v3 on1 rfl rfl ho3 hs3 (by have := HL.out; have := HONE.out.2; omega) hz3 ?_
        intro v4 w4 h4 g4
        obtain ⟨hz4, hb4⟩ := hk3 v4 w4 g4
        have HO4 : Hid (w4.ownsRow w2.heap.size 5 1 v4 en2.length (ints .u8 en2)) := by
          rw [HONE.out.1, List.length_append, hel]
          exact h4
        have HB4 : Hid (Below w.heap.size w w4) := hb4
        have HZ4 : Hid (Below w2.heap.size w2 w4) := hz4
        clear ho3 hs3 hz3 hbw3 hk3 h4 g4 hz4 hb4 HAP HCT HV3 HB3 HONE HL
        go_wp2_with fail
        refine ⟨⟨j + 1, by omega, by simp, by rw [HN2.out]; exact HO4, HB4, HE2, HZ4⟩, ?_⟩
        simp only [intOf]
        omega
      | false =>
        have h5 : ¬ (pn < 0 ∨ 1099511627776 < pn) := by rw [wrong_num rfl] at hw; split at hw <;> simp_all
        have h6 : 0 ≤ pn := by omega
        have h7 : pn ≤ 1099511627776 := by omega
        have e1 : Cd.one ⟨false, pn, tx⟩ = Cd.be 6 pn.toNat := by unfold Cd.one; rw [if_neg (by simp)]
        have HCT : ∀ W, W = wr.alloc (Obj.cells #[.bool false, .int .i64 pn, .slice sp tx.length sc] 30) → Calls Try.prog 13 #[.int .i64 pn] W fun e w' => ∃ v m, e = .returned v ∧ Hid (w'.ownsRow (wr.heap.size + 1) 5 1 v m (ints .u8 (Cd.one ⟨false, pn, tx⟩))) ∧ Hid (Below (wr.heap.size + 1) (wr.alloc (Obj.cells #[.bool false, .int .i64 pn, .slice sp tx.length sc] 30)) w') := by
          rintro W rfl
          have h8 := RefNum_any pn.toNat (wr.alloc (Obj.cells #[.bool false, .int .i64 pn, .slice sp tx.length sc] 30)) (by omega)
          rw [show ((pn.toNat : Nat) : Int) = pn from by omega] at h8
          refine h8.mono ?_
          rintro e w' ⟨v, rfl, h1, h2⟩
          rw [show (wr.alloc (Obj.cells #[.bool false, .int .i64 pn, .slice sp tx.length sc] 30)).heap.size = wr.heap.size + 1 from by simp] at h1 h2
          exact ⟨v, _, rfl, by rw [e1]; exact h1, h2⟩
        have HONE : Hid (en2 = en ++ Cd.one ⟨false, pn, tx⟩ ∧ (Cd.one ⟨false, pn, tx⟩).length ≤ 4098) := ⟨HC2.out, h1len⟩
        generalize Cd.one ⟨false, pn, tx⟩ = on1 at *
        clear hw hsv e1 HC2 h1len HO HB HE0 hjp h5
        generalize tx.length = tl at *
        generalize hel : en.length = el at *
        go_wp2_with (first | (go_at_call 13; refine (HCT _ rfl).mono ?_; rintro e w3 ⟨v3, m3, rfl, HV3, HB3⟩) | with_reducible (refine stop_builtin .append ?_))
        refine Stop.go ?_
        obtain ⟨ho3, hs3, hz3, hbw3, hk3⟩ := HAP.out _ w3 v3 m3 HB3.out HV3.out
        refine law_append_grow w2.heap.size _ el en v3 on1 rfl rfl ho3 hs3 (by have := HL.out; have := HONE.out.2; omega) hz3 ?_
        intro v4 w4 h4 g4
        obtain ⟨hz4, hb4⟩ := hk3 v4 w4 g4
        have HO4 : Hid (w4.ownsRow w2.heap.size 5 1 v4 en2.length (ints .u8 en2)) := by
          rw [HONE.out.1, List.length_append, hel]
          exact h4
        have HB4 : Hid (Below w.heap.size w w4) := hb4
        have HZ4 : Hid (Below w2.heap.size w2 w4) := hz4
        clear ho3 hs3 hz3 hbw3 hk3 h4 g4 hz4 hb4 HAP HCT HV3 HB3 HONE HL
        go_wp2_with fail
        refine ⟨⟨j + 1, by omega, by simp, by rw [HN2.out]; exact HO4, HB4, HE2, HZ4⟩, ?_⟩
        simp only [intOf]
        omega
    · obtain rfl : j = n := by omega
      have j1 : ¬ (j : Int) < (j : Int) := by omega
      have HO1 : Hid (wr.ownsRow w2.heap.size 5 1 u5 lb (ints .u8 (Cd.enc ps))) := by
        have h := HO.out
        rw [List.take_of_length_le (by rw [HN.out]; omega), HLB.out] at h
        exact h
      have HB3 : Hid (wr.ownsRow w1.heap.size 5 1 (.slice qb lb cb) lb (ints .u8 (Cd.enc ps))) := own_below HBV.out HZ.out
      have hc1 : (convert 25 9 u5).run Try.prog wr = .ok (.string (strB (Cd.enc ps))) wr := conv_src (Src.own HSX.out HO1.out)
      have hc2 : (convert 25 9 (.slice qb lb cb)).run Try.prog wr = .ok (.string (strB (Cd.enc ps))) wr := conv_src (Src.own HSX.out HB3.out)
      obtain ⟨qw, cw, rfl⟩ := own_slice HO1.out
      have hbe : ((strB (Cd.enc ps)).toList == (strB (Cd.enc ps)).toList) = true := beq_self_eq_true _
      have HRC : ∀ W, W = wr → Calls Try.prog 14 #[.slice qb lb cb] W fun e w' => ∃ p g o, e = .returned (.pointer (some ⟨p, 0, none⟩)) ∧ Hid (RdAt w' p g o (Cd.enc ps) false) ∧ Hid (w.heap.size ≤ p) ∧ Hid (Below w.heap.size w w') := by
        rintro W rfl
        refine (Read_any _ (Cd.enc ps) W (Src.own HSX.out HB3.out) (by rw [HLB.out]; have := HLN.out; omega)).mono ?_
        rintro e w' ⟨p, g, o, rfl, h1, h2, h3, h4⟩
        exact ⟨p, g, o, rfl, h1, Nat.le_trans HB.out.size h2, HB.out.trans (bel_le h4 HB.out.size)⟩
      generalize strB (Cd.enc ps) = sb at *
      clear HO HE0 HZ HO1 HB3 HBV B2
      go_wp2_with (first | (go_at_call 14; refine (HRC _ rfl).mono ?_; rintro e w3 ⟨p, g, o, rfl, HR3, HPW, HB3⟩))
      clear hc1 hc2 hbe HRC HB
      rename Value => uz
      go_loopw [91] (fun i wr => ∃ (j2 o : Nat), j2 ≤ j ∧ i = .int .i64 j2 ∧ Hid (RdAt wr p g o (Cd.enc (ps.drop j2)) false) ∧ Hid (Below w.heap.size w wr)) (fun i _ => j - (intOf i).toNat)
      case atStart => exact ⟨0, o, by omega, rfl, by rw [List.drop_zero]; exact HR3.out, HB3.out⟩
      case round =>
        obtain ⟨j2, o, hj2, rfl, HRD, HB⟩ := hrel
        by_cases hlt2 : j2 < j
        · have hjp : j2 < ps.length := by rw [HN.out]; exact hlt2
          obtain ⟨b, o', sv, rfl, hb, d0, d1, d2, hsv, ht⟩ := HP.out.below HB.out j2 hjp
          obtain ⟨sp, sc, rfl, -⟩ := hsv.1.slice
          have j3 : (j2 : Int) < (j : Int) := by omega
          have j0 : (0 : Int) ≤ (j2 : Int) := by omega
          have hw : Cd.wrong ps[j2] = 0 := Cd.wrong_of_err HE.out _ (List.getElem_mem hjp)
          obtain ⟨rest, HRT⟩ : ∃ rest, Hid (Cd.enc (ps.drop (j2 + 1)) = rest) := ⟨_, rfl⟩
          have hdr : Cd.enc (ps.drop j2) = Cd.one ps[j2] ++ rest := by rw [List.drop_eq_getElem_cons hjp, Cd.enc, HRT.out]
          rw [hdr] at HRD
          generalize ps[j2] = pt at *
          obtain ⟨isT, pn, tx⟩ := pt
          simp only at d0 d1 d2 hsv ht
          clear hdr hjp
          cases isT with
          | true =>
            have hAl : Below wr.heap.size wr (wr.alloc (Obj.cells #[.bool true, .int .i64 pn, .slice sp tx.length sc] 30)) := (Below.refl _ wr).alloc (Nat.le_refl _) _
            have hnew := heap_alloc_new wr (Obj.cells #[.bool true, .int .i64 pn, .slice sp tx.length sc] 30)
            have HAB : Hid (∀ w', Only [p] (wr.alloc (Obj.cells #[.bool true, .int .i64 pn, .slice sp tx.length sc] 30)) w' → w'.cell? ⟨wr.heap.size, 0, none⟩ = some (.bool true) ∧ w'.cell? ⟨wr.heap.size, 1, none⟩ = some (.int .i64 pn) ∧ w'.cell? ⟨wr.heap.size, 2, none⟩ = some (.slice sp tx.length sc)) := fun w' ho => by
              have hW := (ho.block wr.heap.size (Array.getElem?_eq_some_iff.1 hnew).1 (by have := HRD.out.lt; simp; omega)).trans hnew
              refine ⟨?_, ?_, ?_⟩ <;> (rw [cell_of_row _ _ _ _ _ _ hW]; rfl)
            have HTX : Hid (∀ w', Only [p] (wr.alloc (Obj.cells #[.bool true, .int .i64 pn, .slice sp tx.length sc] 30)) w' → SrcV [p] tx (.slice sp tx.length sc) w') := fun w' ho =>
              have h1 : tx ≠ [] → Off (.slice sp tx.length sc) [p] := fun h0 bb hb => by have h2 := hsv.2 h0 bb hb; have := HPW.out; simp; omega
              ⟨(hsv.1.below hAl).off ho h1, h1⟩
            have HC : Hid (∀ w', Only [p] (wr.alloc (Obj.cells #[.bool true, .int .i64 pn, .slice sp tx.length sc] 30)) w' → RdAt w' p g o (Cd.one ⟨true, pn, tx⟩ ++ rest) false → Calls Try.prog 15 #[.pointer (some ⟨p, 0, none⟩), .int .i64 0, .int .i64 4096] w' fun e w2 => ∃ v, e = .returned v ∧ Only [p] w' w2 ∧ RdAt w2 p g (o + (2 + tx.length)) rest false ∧ SrcV [p] tx v w2) := fun w' _ hR =>
              (part_text w' p g o ⟨true, pn, tx⟩ rest hR rfl hw).mono (by rintro e u ⟨v, rfl, h1, h2, h3⟩; exact ⟨v, rfl, h3, h2, h1⟩)
            have HR0 : Hid (RdAt (wr.alloc (Obj.cells #[.bool true, .int .i64 pn, .slice sp tx.length sc] 30)) p g o (Cd.one ⟨true, pn, tx⟩ ++ rest) false) := HRD.out.below hAl
            have HB1 : Hid (Below w.heap.size w (wr.alloc (Obj.cells #[.bool true, .int .i64 pn, .slice sp tx.length sc] 30))) := HB.out.trans (bel_le hAl HB.out.size)
            clear hAl hnew hsv HRD HB
            go_wp2_with fail
            clear d0 d1 d2
            generalize wr.alloc (Obj.cells #[.bool true, .int .i64 pn, .slice sp tx.length sc] 30) = W1 at *
            generalize wr.heap.size = ab at *
            have RB : ∀ k w w', Below w.heap.size w w' → (fun k u => match k with | 0 => RdAt u p g o (Cd.one ⟨true, pn, tx⟩ ++ rest) false | _ => RdAt u p g (o + (2 + tx.length)) rest false) k w → (fun k u => match k with | 0 => RdAt u p g o (Cd.one ⟨true, pn, tx⟩ ++ rest) false | _ => RdAt u p g (o + (2 + tx.length)) rest false) k w' := fun k u u' hb h => by match k with | 0 => exact RdAt.below h hb | _ + 1 => exact RdAt.below h hb
            refine wp_region_st (pt24 p ab tx) (fun u u' => Only [p] u u') (SeqS [4] (fun k u => match k with | 0 => RdAt u p g o (Cd.one ⟨true, pn, tx⟩ ++ rest) false | _ => RdAt u p g (o + (2 + tx.length)) rest false)) (by kernel_rfl) (only_drew _ _) (only_trans _) (pt24_kept p ab tx) (by kernel_rfl) (SeqS.start (HR0.out.below (below_drewN 1 _ _))) ?_ ?_
            · intro i o a' w' f hi inv hS hfi hfw hpre
              have ho : Only [p] W1 w' := inv.grow
              have hlt : i < 23 := (Array.getElem?_eq_some_iff.1 hi).1
              obtain rfl|rfl|rfl|rfl|rfl|rfl|rfl|rfl|rfl|rfl|rfl|rfl|rfl|rfl|rfl|rfl|rfl|rfl|rfl|rfl|rfl|rfl|rfl : i = 0 ∨ i = 1 ∨ i = 2 ∨ i = 3 ∨ i = 4 ∨ i = 5 ∨ i = 6 ∨ i = 7 ∨ i = 8 ∨ i = 9 ∨ i = 10 ∨ i = 11 ∨ i = 12 ∨ i = 13 ∨ i = 14 ∨ i = 15 ∨ i = 16 ∨ i = 17 ∨ i = 18 ∨ i = 19 ∨ i = 20 ∨ i = 21 ∨ i = 22 := by omega
              · obtain rfl := Option.some.inj hi
                have h0 : a'.tmps.getD 10 undef = (.pointer (some ⟨ab, 0, none⟩)) := by rw [inv.old 10 (notDst_spec (by kernel_rfl))]; rfl
                exact sq_value _ rfl rfl (fa_run 30 0 10 ab rfl h0 (fa30_0 ab)) (Below.refl _ _) (by decide) hS RB rfl
              · obtain rfl := Option.some.inj hi
                have h0 : a'.tmps.getD 95 undef = _ := pre_of hpre 0 95 (by kernel_rfl) (by kernel_rfl)
                exact sq_value _ rfl rfl (load_run 4 95 ab (0) _ rfl h0 (ld4 ((HAB.out w' ho).1))) (Below.refl _ _) (by decide) hS RB rfl
              · obtain rfl := Option.some.inj hi
                have h0 := pre_of hpre 1 96 (by kernel_rfl) (by kernel_rfl)
                exact sq_value _ rfl rfl (rfl) (Below.refl _ _) (by decide) hS RB h0
              · obtain rfl := Option.some.inj hi
                have hgu : a'.tmps.getD 97 undef = _ := pre_of hpre 2 97 (by kernel_rfl) (by kernel_rfl)
                exact sq_value _ rfl (wanted_of 2 97 true rfl (by kernel_rfl) hgu) rfl (Below.refl _ _) (by decide) hS RB (by show a'.tmps.getD 8 undef = _; rw [inv.old 8 (notDst_spec (by kernel_rfl))]; rfl)
              · obtain rfl := Option.some.inj hi
                have hgu : a'.tmps.getD 97 undef = _ := pre_of hpre 2 97 (by kernel_rfl) (by kernel_rfl)
                have h0 : a'.tmps.getD 98 undef = _ := pre_of hpre 3 98 (by kernel_rfl) (by kernel_rfl)
                refine sq_call (k := 0) 15 #[a'.tmps.getD 98 undef, .int .i64 0, .int .i64 4096] rfl (wanted_of 2 97 true rfl (by kernel_rfl) hgu) (by kernel_rfl) rfl (by decide) hfi (fun c h _ => absurd rfl h) hS (fun hR => ?_)
                rw [h0]
                exact HC.out w' ho hR
              · obtain rfl := Option.some.inj hi
                have hgu : a'.tmps.getD 97 undef = _ := pre_of hpre 2 97 (by kernel_rfl) (by kernel_rfl)
                have h0 := pre_of hpre 4 99 (by kernel_rfl) (by kernel_rfl)
                exact sq_value _ rfl (wanted_of 2 97 true rfl (by kernel_rfl) hgu) (conv_run 99 rfl (h0.1)) (Below.refl _ _) (by decide) hS RB rfl
              · obtain rfl := Option.some.inj hi
                have hgu : a'.tmps.getD 97 undef = _ := pre_of hpre 2 97 (by kernel_rfl) (by kernel_rfl)
                have h0 : a'.tmps.getD 10 undef = (.pointer (some ⟨ab, 0, none⟩)) := by rw [inv.old 10 (notDst_spec (by kernel_rfl))]; rfl
                exact sq_value _ rfl (wanted_of 2 97 true rfl (by kernel_rfl) hgu) (fa_run 30 2 10 ab rfl h0 (fa30_2 ab)) (Below.refl _ _) (by decide) hS RB rfl
              · obtain rfl := Option.some.inj hi
                have hgu : a'.tmps.getD 97 undef = _ := pre_of hpre 2 97 (by kernel_rfl) (by kernel_rfl)
                have h0 : a'.tmps.getD 101 undef = _ := pre_of hpre 6 101 (by kernel_rfl) (by kernel_rfl)
                exact sq_value _ rfl (wanted_of 2 97 true rfl (by kernel_rfl) hgu) (load_run 25 101 ab (2) _ rfl h0 (ld25 ((HAB.out w' ho).2.2))) (Below.refl _ _) (by decide) hS RB (HTX.out w' ho)
              · obtain rfl := Option.some.inj hi
                have hgu : a'.tmps.getD 97 undef = _ := pre_of hpre 2 97 (by kernel_rfl) (by kernel_rfl)
                have h0 := pre_of hpre 7 102 (by kernel_rfl) (by kernel_rfl)
                exact sq_value _ rfl (wanted_of 2 97 true rfl (by kernel_rfl) hgu) (conv_run 102 rfl (h0.1)) (Below.refl _ _) (by decide) hS RB rfl
              · obtain rfl := Option.some.inj hi
                have hgu : a'.tmps.getD 97 undef = _ := pre_of hpre 2 97 (by kernel_rfl) (by kernel_rfl)
                have h0 : a'.tmps.getD 100 undef = _ := pre_of hpre 5 100 (by kernel_rfl) (by kernel_rfl)
                have h1 : a'.tmps.getD 103 undef = _ := pre_of hpre 8 103 (by kernel_rfl) (by kernel_rfl)
                exact sq_value _ rfl (wanted_of 2 97 true rfl (by kernel_rfl) hgu) (neqS_run 100 103 _ _ rfl h0 h1) (Below.refl _ _) (by decide) hS RB (by show Value.bool _ = _; simp)
              · obtain rfl := Option.some.inj hi
                have h0 : a'.tmps.getD 97 undef = _ := pre_of hpre 2 97 (by kernel_rfl) (by kernel_rfl)
                have h1 : a'.tmps.getD 104 undef = _ := pre_of hpre 9 104 (by kernel_rfl) (by kernel_rfl)
                exact sq_value _ rfl rfl (pick_run 97 true _ _ _ _ rfl h0 h1 rfl) (Below.refl _ _) (by decide) hS RB rfl
              · obtain rfl := Option.some.inj hi
                have h0 := pre_of hpre 10 105 (by kernel_rfl) (by kernel_rfl)
                exact sq_value _ rfl rfl (rfl) (Below.refl _ _) (by decide) hS RB h0
              · obtain rfl := Option.some.inj hi
                have hgu : a'.tmps.getD 106 undef = _ := pre_of hpre 11 106 (by kernel_rfl) (by kernel_rfl)
                have h0 : a'.tmps.getD 10 undef = (.pointer (some ⟨ab, 0, none⟩)) := by rw [inv.old 10 (notDst_spec (by kernel_rfl))]; rfl
                exact sq_value _ rfl (wanted_of 11 106 false rfl (by kernel_rfl) hgu) (fa_run 30 0 10 ab rfl h0 (fa30_0 ab)) (Below.refl _ _) (by decide) hS RB rfl
              · obtain rfl := Option.some.inj hi
                have hgu : a'.tmps.getD 106 undef = _ := pre_of hpre 11 106 (by kernel_rfl) (by kernel_rfl)
                have h0 : a'.tmps.getD 107 undef = _ := pre_of hpre 12 107 (by kernel_rfl) (by kernel_rfl)
                exact sq_value _ rfl (wanted_of 11 106 false rfl (by kernel_rfl) hgu) (load_run 4 107 ab (0) _ rfl h0 (ld4 ((HAB.out w' ho).1))) (Below.refl _ _) (by decide) hS RB rfl
              · obtain rfl := Option.some.inj hi
                have hgu : a'.tmps.getD 106 undef = _ := pre_of hpre 11 106 (by kernel_rfl) (by kernel_rfl)
                have h0 : a'.tmps.getD 108 undef = _ := pre_of hpre 13 108 (by kernel_rfl) (by kernel_rfl)
                exact sq_value _ rfl (wanted_of 11 106 false rfl (by kernel_rfl) hgu) (not_run 108 true rfl h0) (Below.refl _ _) (by decide) hS RB rfl
              · obtain rfl := Option.some.inj hi
                have hgu : a'.tmps.getD 106 undef = _ := pre_of hpre 11 106 (by kernel_rfl) (by kernel_rfl)
                have h0 := pre_of hpre 14 109 (by kernel_rfl) (by kernel_rfl)
                exact sq_value _ rfl (wanted_of 11 106 false rfl (by kernel_rfl) hgu) (rfl) (Below.refl _ _) (by decide) hS RB h0
              · obtain rfl := Option.some.inj hi
                have hgu : a'.tmps.getD 110 undef = _ := pre_of hpre 15 110 (by kernel_rfl) (by kernel_rfl)
                exact sq_skip rfl (unwanted_of 15 110 false rfl (by kernel_rfl) hgu) (by decide) hS rfl
              · obtain rfl := Option.some.inj hi
                have hgu : a'.tmps.getD 110 undef = _ := pre_of hpre 15 110 (by kernel_rfl) (by kernel_rfl)
                exact sq_skip rfl (unwanted_of 15 110 false rfl (by kernel_rfl) hgu) (by decide) hS rfl
              · obtain rfl := Option.some.inj hi
                have hgu : a'.tmps.getD 110 undef = _ := pre_of hpre 15 110 (by kernel_rfl) (by kernel_rfl)
                exact sq_skip rfl (unwanted_of 15 110 false rfl (by kernel_rfl) hgu) (by decide) hS rfl
              · obtain rfl := Option.some.inj hi
                have hgu : a'.tmps.getD 110 undef = _ := pre_of hpre 15 110 (by kernel_rfl) (by kernel_rfl)
                exact sq_skip rfl (unwanted_of 15 110 false rfl (by kernel_rfl) hgu) (by decide) hS rfl
              · obtain rfl := Option.some.inj hi
                have hgu : a'.tmps.getD 110 undef = _ := pre_of hpre 15 110 (by kernel_rfl) (by kernel_rfl)
                exact sq_skip rfl (unwanted_of 15 110 false rfl (by kernel_rfl) hgu) (by decide) hS rfl
              · obtain rfl := Option.some.inj hi
                have hgu : a'.tmps.getD 106 undef = _ := pre_of hpre 11 106 (by kernel_rfl) (by kernel_rfl)
                have h0 : a'.tmps.getD 110 undef = _ := pre_of hpre 15 110 (by kernel_rfl) (by kernel_rfl)
                exact sq_value _ rfl (wanted_of 11 106 false rfl (by kernel_rfl) hgu) (pick_run 110 false _ _ _ _ rfl h0 rfl rfl) (Below.refl _ _) (by decide) hS RB rfl
              · obtain rfl := Option.some.inj hi
                have h0 : a'.tmps.getD 106 undef = _ := pre_of hpre 11 106 (by kernel_rfl) (by kernel_rfl)
                have h1 : a'.tmps.getD 116 undef = _ := pre_of hpre 21 116 (by kernel_rfl) (by kernel_rfl)
                exact sq_value _ rfl rfl (pick_run 106 false _ _ _ _ rfl h0 rfl h1) (Below.refl _ _) (by decide) hS RB rfl
            · intro a' w5 f inv hS hall hd
              have hk22 := hd 22 117 (by kernel_rfl)
              have ho : Only [p] W1 w5 := inv.grow
              have hdf : a'.defers = [] := inv.defers
              have hsz : a'.tmps.size = 126 := inv.size
              have e := frame3_24 hsz (fun t ht => inv.old t (dstsIn_spec (ts := [95, 96, 97, 98, 99, 100, 101, 102, 103, 104, 105, 106, 107, 108, 109, 110, 111, 112, 113, 114, 115, 116, 117]) (by kernel_rfl) t ht))
              have hR := hS.done (fun c hc => hall c (show c < 23 by simp at hc <;> omega))
              clear inv hd hsz hall hS
              obtain ⟨tmps, defers⟩ := a'
              obtain rfl : defers = [] := hdf
              replace e : tmps = _ := e
              replace hk22 : tmps.getD 117 undef = (.bool false) := hk22
              generalize tmps.getD 95 undef = x95 at *
              generalize tmps.getD 96 undef = x96 at *
              generalize tmps.getD 97 undef = x97 at *
              generalize tmps.getD 98 undef = x98 at *
              generalize tmps.getD 99 undef = x99 at *
              generalize tmps.getD 100 undef = x100 at *
              generalize tmps.getD 101 undef = x101 at *
              generalize tmps.getD 102 undef = x102 at *
              generalize tmps.getD 103 undef = x103 at *
              generalize tmps.getD 104 undef = x104 at *
              generalize tmps.getD 105 undef = x105 at *
              generalize tmps.getD 106 undef = x106 at *
              generalize tmps.getD 107 undef = x107 at *
              generalize tmps.getD 108 undef = x108 at *
              generalize tmps.getD 109 undef = x109 at *
              generalize tmps.getD 110 undef = x110 at *
              generalize tmps.getD 111 undef = x111 at *
              generalize tmps.getD 112 undef = x112 at *
              generalize tmps.getD 113 undef = x113 at *
              generalize tmps.getD 114 undef = x114 at *
              generalize tmps.getD 115 undef = x115 at *
              generalize tmps.getD 116 undef = x116 at *
              generalize tmps.getD 117 undef = x117 at *
              simp only [Array.getD_eq_getD_getElem?, List.getElem?_toArray, List.getElem?_cons_succ, List.getElem?_cons_zero, Option.getD_some] at e
              subst e
              subst hk22
              have HR5 : Hid (RdAt w5 p g (o + (2 + tx.length)) rest false) := hR
              have HB5 : Hid (Below w.heap.size w w5) := HB1.out.trans (ho.below HB1.out.size (by simpa using HPW.out))
              clear hR ho RB HC HR0 HAB HTX HB1
              go_wp2_with fail
              go_roundw
              case rel =>
                first
                  | exact ⟨j2 + 1, _, by omega, by go_num, by rw [HRT.out]; exact HR5.out, HB5.out⟩
                  | ((repeat apply Exists.intro)
                     refine ⟨⟨j2 + 1, _, by omega, ?_, by rw [HRT.out]; exact HR5.out, HB5.out⟩, rfl⟩
                     go_num)
              case measure => simp [intOf]; omega
          | false =>
            have hAl : Below wr.heap.size wr (wr.alloc (Obj.cells #[.bool false, .int .i64 pn, .slice sp tx.length sc] 30)) := (Below.refl _ wr).alloc (Nat.le_refl _) _
            have hnew := heap_alloc_new wr (Obj.cells #[.bool false, .int .i64 pn, .slice sp tx.length sc] 30)
            have HAB : Hid (∀ w', Only [p] (wr.alloc (Obj.cells #[.bool false, .int .i64 pn, .slice sp tx.length sc] 30)) w' → w'.cell? ⟨wr.heap.size, 0, none⟩ = some (.bool false) ∧ w'.cell? ⟨wr.heap.size, 1, none⟩ = some (.int .i64 pn) ∧ w'.cell? ⟨wr.heap.size, 2, none⟩ = some (.slice sp tx.length sc)) := fun w' ho => by
              have hW := (ho.block wr.heap.size (Array.getElem?_eq_some_iff.1 hnew).1 (by have := HRD.out.lt; simp; omega)).trans hnew
              refine ⟨?_, ?_, ?_⟩ <;> (rw [cell_of_row _ _ _ _ _ _ hW]; rfl)
            have HTX : Hid (∀ w', Only [p] (wr.alloc (Obj.cells #[.bool false, .int .i64 pn, .slice sp tx.length sc] 30)) w' → SrcV [p] tx (.slice sp tx.length sc) w') := fun w' ho =>
              have h1 : tx ≠ [] → Off (.slice sp tx.length sc) [p] := fun h0 bb hb => by have h2 := hsv.2 h0 bb hb; have := HPW.out; simp; omega
              ⟨(hsv.1.below hAl).off ho h1, h1⟩
            have HC : Hid (∀ w', Only [p] (wr.alloc (Obj.cells #[.bool false, .int .i64 pn, .slice sp tx.length sc] 30)) w' → RdAt w' p g o (Cd.one ⟨false, pn, tx⟩ ++ rest) false → Calls Try.prog 16 #[.pointer (some ⟨p, 0, none⟩), .int .i64 0, .int .i64 1099511627776] w' fun e w2 => ∃ v, e = .returned v ∧ Only [p] w' w2 ∧ RdAt w2 p g (o + 6) rest false ∧ IsV (.int .i64 pn) v w2) := fun w' _ hR =>
              (part_num w' p g o ⟨false, pn, tx⟩ rest hR rfl hw).mono (by rintro e u ⟨rfl, h2, h3⟩; exact ⟨_, rfl, h3, h2, rfl⟩)
            have HR0 : Hid (RdAt (wr.alloc (Obj.cells #[.bool false, .int .i64 pn, .slice sp tx.length sc] 30)) p g o (Cd.one ⟨false, pn, tx⟩ ++ rest) false) := HRD.out.below hAl
            have HB1 : Hid (Below w.heap.size w (wr.alloc (Obj.cells #[.bool false, .int .i64 pn, .slice sp tx.length sc] 30))) := HB.out.trans (bel_le hAl HB.out.size)
            clear hAl hnew hsv HRD HB
            go_wp2_with fail
            clear d0 d1 d2
            generalize wr.alloc (Obj.cells #[.bool false, .int .i64 pn, .slice sp tx.length sc] 30) = W1 at *
            generalize wr.heap.size = ab at *
            have RB : ∀ k w w', Below w.heap.size w w' → (fun k u => match k with | 0 => RdAt u p g o (Cd.one ⟨false, pn, tx⟩ ++ rest) false | _ => RdAt u p g (o + 6) rest false) k w → (fun k u => match k with | 0 => RdAt u p g o (Cd.one ⟨false, pn, tx⟩ ++ rest) false | _ => RdAt u p g (o + 6) rest false) k w' := fun k u u' hb h => by match k with | 0 => exact RdAt.below h hb | _ + 1 => exact RdAt.below h hb
            refine wp_region_st (pn24 p ab pn) (fun u u' => Only [p] u u') (SeqS [17] (fun k u => match k with | 0 => RdAt u p g o (Cd.one ⟨false, pn, tx⟩ ++ rest) false | _ => RdAt u p g (o + 6) rest false)) (by kernel_rfl) (only_drew _ _) (only_trans _) (pn24_kept p ab pn) (by kernel_rfl) (SeqS.start (HR0.out.below (below_drewN 1 _ _))) ?_ ?_
            · intro i o a' w' f hi inv hS hfi hfw hpre
              have ho : Only [p] W1 w' := inv.grow
              have hlt : i < 23 := (Array.getElem?_eq_some_iff.1 hi).1
              obtain rfl|rfl|rfl|rfl|rfl|rfl|rfl|rfl|rfl|rfl|rfl|rfl|rfl|rfl|rfl|rfl|rfl|rfl|rfl|rfl|rfl|rfl|rfl : i = 0 ∨ i = 1 ∨ i = 2 ∨ i = 3 ∨ i = 4 ∨ i = 5 ∨ i = 6 ∨ i = 7 ∨ i = 8 ∨ i = 9 ∨ i = 10 ∨ i = 11 ∨ i = 12 ∨ i = 13 ∨ i = 14 ∨ i = 15 ∨ i = 16 ∨ i = 17 ∨ i = 18 ∨ i = 19 ∨ i = 20 ∨ i = 21 ∨ i = 22 := by omega
              · obtain rfl := Option.some.inj hi
                have h0 : a'.tmps.getD 10 undef = (.pointer (some ⟨ab, 0, none⟩)) := by rw [inv.old 10 (notDst_spec (by kernel_rfl))]; rfl
                exact sq_value _ rfl rfl (fa_run 30 0 10 ab rfl h0 (fa30_0 ab)) (Below.refl _ _) (by decide) hS RB rfl
              · obtain rfl := Option.some.inj hi
                have h0 : a'.tmps.getD 95 undef = _ := pre_of hpre 0 95 (by kernel_rfl) (by kernel_rfl)
                exact sq_value _ rfl rfl (load_run 4 95 ab (0) _ rfl h0 (ld4 ((HAB.out w' ho).1))) (Below.refl _ _) (by decide) hS RB rfl
              · obtain rfl := Option.some.inj hi
                have h0 := pre_of hpre 1 96 (by kernel_rfl) (by kernel_rfl)
                exact sq_value _ rfl rfl (rfl) (Below.refl _ _) (by decide) hS RB h0
              · obtain rfl := Option.some.inj hi
                have hgu : a'.tmps.getD 97 undef = _ := pre_of hpre 2 97 (by kernel_rfl) (by kernel_rfl)
                exact sq_skip rfl (unwanted_of 2 97 false rfl (by kernel_rfl) hgu) (by decide) hS rfl
              · obtain rfl := Option.some.inj hi
                have hgu : a'.tmps.getD 97 undef = _ := pre_of hpre 2 97 (by kernel_rfl) (by kernel_rfl)
                exact sq_skip rfl (unwanted_of 2 97 false rfl (by kernel_rfl) hgu) (by decide) hS rfl
              · obtain rfl := Option.some.inj hi
                have hgu : a'.tmps.getD 97 undef = _ := pre_of hpre 2 97 (by kernel_rfl) (by kernel_rfl)
                exact sq_skip rfl (unwanted_of 2 97 false rfl (by kernel_rfl) hgu) (by decide) hS rfl
              · obtain rfl := Option.some.inj hi
                have hgu : a'.tmps.getD 97 undef = _ := pre_of hpre 2 97 (by kernel_rfl) (by kernel_rfl)
                exact sq_skip rfl (unwanted_of 2 97 false rfl (by kernel_rfl) hgu) (by decide) hS rfl
              · obtain rfl := Option.some.inj hi
                have hgu : a'.tmps.getD 97 undef = _ := pre_of hpre 2 97 (by kernel_rfl) (by kernel_rfl)
                exact sq_skip rfl (unwanted_of 2 97 false rfl (by kernel_rfl) hgu) (by decide) hS rfl
              · obtain rfl := Option.some.inj hi
                have hgu : a'.tmps.getD 97 undef = _ := pre_of hpre 2 97 (by kernel_rfl) (by kernel_rfl)
                exact sq_skip rfl (unwanted_of 2 97 false rfl (by kernel_rfl) hgu) (by decide) hS rfl
              · obtain rfl := Option.some.inj hi
                have hgu : a'.tmps.getD 97 undef = _ := pre_of hpre 2 97 (by kernel_rfl) (by kernel_rfl)
                exact sq_skip rfl (unwanted_of 2 97 false rfl (by kernel_rfl) hgu) (by decide) hS rfl
              · obtain rfl := Option.some.inj hi
                have h0 : a'.tmps.getD 97 undef = _ := pre_of hpre 2 97 (by kernel_rfl) (by kernel_rfl)
                exact sq_value _ rfl rfl (pick_run 97 false _ _ _ _ rfl h0 rfl rfl) (Below.refl _ _) (by decide) hS RB rfl
              · obtain rfl := Option.some.inj hi
                have h0 := pre_of hpre 10 105 (by kernel_rfl) (by kernel_rfl)
                exact sq_value _ rfl rfl (rfl) (Below.refl _ _) (by decide) hS RB h0
              · obtain rfl := Option.some.inj hi
                have hgu : a'.tmps.getD 106 undef = _ := pre_of hpre 11 106 (by kernel_rfl) (by kernel_rfl)
                have h0 : a'.tmps.getD 10 undef = (.pointer (some ⟨ab, 0, none⟩)) := by rw [inv.old 10 (notDst_spec (by kernel_rfl))]; rfl
                exact sq_value _ rfl (wanted_of 11 106 false rfl (by kernel_rfl) hgu) (fa_run 30 0 10 ab rfl h0 (fa30_0 ab)) (Below.refl _ _) (by decide) hS RB rfl
              · obtain rfl := Option.some.inj hi
                have hgu : a'.tmps.getD 106 undef = _ := pre_of hpre 11 106 (by kernel_rfl) (by kernel_rfl)
                have h0 : a'.tmps.getD 107 undef = _ := pre_of hpre 12 107 (by kernel_rfl) (by kernel_rfl)
                exact sq_value _ rfl (wanted_of 11 106 false rfl (by kernel_rfl) hgu) (load_run 4 107 ab (0) _ rfl h0 (ld4 ((HAB.out w' ho).1))) (Below.refl _ _) (by decide) hS RB rfl
              · obtain rfl := Option.some.inj hi
                have hgu : a'.tmps.getD 106 undef = _ := pre_of hpre 11 106 (by kernel_rfl) (by kernel_rfl)
                have h0 : a'.tmps.getD 108 undef = _ := pre_of hpre 13 108 (by kernel_rfl) (by kernel_rfl)
                exact sq_value _ rfl (wanted_of 11 106 false rfl (by kernel_rfl) hgu) (not_run 108 false rfl h0) (Below.refl _ _) (by decide) hS RB rfl
              · obtain rfl := Option.some.inj hi
                have hgu : a'.tmps.getD 106 undef = _ := pre_of hpre 11 106 (by kernel_rfl) (by kernel_rfl)
                have h0 := pre_of hpre 14 109 (by kernel_rfl) (by kernel_rfl)
                exact sq_value _ rfl (wanted_of 11 106 false rfl (by kernel_rfl) hgu) (rfl) (Below.refl _ _) (by decide) hS RB h0
              · obtain rfl := Option.some.inj hi
                have hgu : a'.tmps.getD 110 undef = _ := pre_of hpre 15 110 (by kernel_rfl) (by kernel_rfl)
                exact sq_value _ rfl (wanted_of 15 110 true rfl (by kernel_rfl) hgu) rfl (Below.refl _ _) (by decide) hS RB (by show a'.tmps.getD 8 undef = _; rw [inv.old 8 (notDst_spec (by kernel_rfl))]; rfl)
              · obtain rfl := Option.some.inj hi
                have hgu : a'.tmps.getD 110 undef = _ := pre_of hpre 15 110 (by kernel_rfl) (by kernel_rfl)
                have h0 : a'.tmps.getD 111 undef = _ := pre_of hpre 16 111 (by kernel_rfl) (by kernel_rfl)
                refine sq_call (k := 0) 16 #[a'.tmps.getD 111 undef, .int .i64 0, .int .i64 1099511627776] rfl (wanted_of 15 110 true rfl (by kernel_rfl) hgu) (by kernel_rfl) rfl (by decide) hfi (fun c h _ => absurd rfl h) hS (fun hR => ?_)
                rw [h0]
                exact HC.out w' ho hR
              · obtain rfl := Option.some.inj hi
                have hgu : a'.tmps.getD 110 undef = _ := pre_of hpre 15 110 (by kernel_rfl) (by kernel_rfl)
                have h0 : a'.tmps.getD 10 undef = (.pointer (some ⟨ab, 0, none⟩)) := by rw [inv.old 10 (notDst_spec (by kernel_rfl))]; rfl
                exact sq_value _ rfl (wanted_of 15 110 true rfl (by kernel_rfl) hgu) (fa_run 30 1 10 ab rfl h0 (fa30_1 ab)) (Below.refl _ _) (by decide) hS RB rfl
              · obtain rfl := Option.some.inj hi
                have hgu : a'.tmps.getD 110 undef = _ := pre_of hpre 15 110 (by kernel_rfl) (by kernel_rfl)
                have h0 : a'.tmps.getD 113 undef = _ := pre_of hpre 18 113 (by kernel_rfl) (by kernel_rfl)
                exact sq_value _ rfl (wanted_of 15 110 true rfl (by kernel_rfl) hgu) (load_run 3 113 ab (1) _ rfl h0 (ld3 ((HAB.out w' ho).2.1))) (Below.refl _ _) (by decide) hS RB rfl
              · obtain rfl := Option.some.inj hi
                have hgu : a'.tmps.getD 110 undef = _ := pre_of hpre 15 110 (by kernel_rfl) (by kernel_rfl)
                have h0 : a'.tmps.getD 112 undef = _ := pre_of hpre 17 112 (by kernel_rfl) (by kernel_rfl)
                have h1 : a'.tmps.getD 114 undef = _ := pre_of hpre 19 114 (by kernel_rfl) (by kernel_rfl)
                exact sq_value _ rfl (wanted_of 15 110 true rfl (by kernel_rfl) hgu) (neqN_run 112 114 _ _ rfl h0 h1) (Below.refl _ _) (by decide) hS RB (by show Value.bool _ = _; simp)
              · obtain rfl := Option.some.inj hi
                have hgu : a'.tmps.getD 106 undef = _ := pre_of hpre 11 106 (by kernel_rfl) (by kernel_rfl)
                have h0 : a'.tmps.getD 110 undef = _ := pre_of hpre 15 110 (by kernel_rfl) (by kernel_rfl)
                have h1 : a'.tmps.getD 115 undef = _ := pre_of hpre 20 115 (by kernel_rfl) (by kernel_rfl)
                exact sq_value _ rfl (wanted_of 11 106 false rfl (by kernel_rfl) hgu) (pick_run 110 true _ _ _ _ rfl h0 h1 rfl) (Below.refl _ _) (by decide) hS RB rfl
              · obtain rfl := Option.some.inj hi
                have h0 : a'.tmps.getD 106 undef = _ := pre_of hpre 11 106 (by kernel_rfl) (by kernel_rfl)
                have h1 : a'.tmps.getD 116 undef = _ := pre_of hpre 21 116 (by kernel_rfl) (by kernel_rfl)
                exact sq_value _ rfl rfl (pick_run 106 false _ _ _ _ rfl h0 rfl h1) (Below.refl _ _) (by decide) hS RB rfl
            · intro a' w5 f inv hS hall hd
              have hk22 := hd 22 117 (by kernel_rfl)
              have ho : Only [p] W1 w5 := inv.grow
              have hdf : a'.defers = [] := inv.defers
              have hsz : a'.tmps.size = 126 := inv.size
              have e := frame3_24 hsz (fun t ht => inv.old t (dstsIn_spec (ts := [95, 96, 97, 98, 99, 100, 101, 102, 103, 104, 105, 106, 107, 108, 109, 110, 111, 112, 113, 114, 115, 116, 117]) (by kernel_rfl) t ht))
              have hR := hS.done (fun c hc => hall c (show c < 23 by simp at hc <;> omega))
              clear inv hd hsz hall hS
              obtain ⟨tmps, defers⟩ := a'
              obtain rfl : defers = [] := hdf
              replace e : tmps = _ := e
              replace hk22 : tmps.getD 117 undef = (.bool false) := hk22
              generalize tmps.getD 95 undef = x95 at *
              generalize tmps.getD 96 undef = x96 at *
              generalize tmps.getD 97 undef = x97 at *
              generalize tmps.getD 98 undef = x98 at *
              generalize tmps.getD 99 undef = x99 at *
              generalize tmps.getD 100 undef = x100 at *
              generalize tmps.getD 101 undef = x101 at *
              generalize tmps.getD 102 undef = x102 at *
              generalize tmps.getD 103 undef = x103 at *
              generalize tmps.getD 104 undef = x104 at *
              generalize tmps.getD 105 undef = x105 at *
              generalize tmps.getD 106 undef = x106 at *
              generalize tmps.getD 107 undef = x107 at *
              generalize tmps.getD 108 undef = x108 at *
              generalize tmps.getD 109 undef = x109 at *
              generalize tmps.getD 110 undef = x110 at *
              generalize tmps.getD 111 undef = x111 at *
              generalize tmps.getD 112 undef = x112 at *
              generalize tmps.getD 113 undef = x113 at *
              generalize tmps.getD 114 undef = x114 at *
              generalize tmps.getD 115 undef = x115 at *
              generalize tmps.getD 116 undef = x116 at *
              generalize tmps.getD 117 undef = x117 at *
              simp only [Array.getD_eq_getD_getElem?, List.getElem?_toArray, List.getElem?_cons_succ, List.getElem?_cons_zero, Option.getD_some] at e
              subst e
              subst hk22
              have HR5 : Hid (RdAt w5 p g (o + 6) rest false) := hR
              have HB5 : Hid (Below w.heap.size w w5) := HB1.out.trans (ho.below HB1.out.size (by simpa using HPW.out))
              clear hR ho RB HC HR0 HAB HTX HB1
              go_wp2_with fail
              go_roundw
              case rel =>
                first
                  | exact ⟨j2 + 1, _, by omega, by go_num, by rw [HRT.out]; exact HR5.out, HB5.out⟩
                  | ((repeat apply Exists.intro)
                     refine ⟨⟨j2 + 1, _, by omega, ?_, by rw [HRT.out]; exact HR5.out, HB5.out⟩, rfl⟩
                     go_num)
              case measure => simp [intOf]; omega
        · obtain rfl : j2 = j := by omega
          have j3 : ¬ (j2 : Int) < (j2 : Int) := by omega
          have HRE : Hid (RdAt wr p g o [] false) := by
            have h := HRD.out
            rw [List.drop_eq_nil_of_le (by rw [HN.out]; omega)] at h
            exact h
          clear HRD
          go_wp2_with (first
            | (go_at_call 17; refine (End_any _ p g o _ _ HRE.out).mono ?_; rintro e w6 ⟨rfl, rfl⟩)
            | (go_at_call 18; refine (Bad_any _ p g o _ _ HRE.out).mono ?_; rintro e w7 ⟨rfl, rfl⟩))
          go_ret
          exact ⟨rfl, HB.out⟩
theorem puts_any (a : Option Addr) (n c : Nat) (w : World) (h : n ≤ 9223372036854775807 ∧ ∃ ps : List Pt, ps.length = n ∧ PartRow w a ps) :
    Calls Try.prog 3 #[.slice a n c] w fun e w' => e = .returned (.bool true) ∧ Below w.heap.size w w' := by
  obtain ⟨gn, ps, hn, hp⟩ := h
  cases hs : sm ps with
  | false => exact puts_small ps a n c w hn gn hp hs
  | true =>
    by_cases he : Cd.err ps = 0
    · exact puts_main ps a n c w hn gn hp hs he
    · exact puts_bad ps a n c w hn gn hp hs he
end Go.Proofs.Ytcpojjhopbcjkaa.C8
