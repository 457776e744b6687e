/- SuiteTwo, walked. -/
import Derived.Test.YtbblokikhocdfaaDoorS7TwoV
namespace Go.Proofs.YtbblokikhocdfaaDoor.S7
open Go.RowKit
set_option maxHeartbeats 10000000 in
set_option maxRecDepth 10000 in
theorem two_any (la lb lt key : List Nat) (a b t : Option Addr) (n ca m cb r ct : Nat) (w : World) (hA : Src w (.slice a n ca) la) (hB : Src w (.slice b m cb) lb) (hX : Src w (.slice t r ct) lt) (hkl : key.length = 32) (hks : ∀ y ∈ key, y < 256)
    (hal : la.length = n) (hbl : lb.length = m) (htl : lt.length = r) (hn : n ≤ 100) (hm : m ≤ 100) (hr : r ≤ 100) (hT : S2.Tab w) :
    Calls Tryd.prog 9 #[.slice a n ca, .slice b m cb, .agg (arr .u8 key), .slice t r ct] w fun e w' => e = .returned (.bool true) ∧ Below w.heap.size w w' := by
  have hW0 : Below w.heap.size w (w.alloc (.cells (arr .u8 key) 55)) := (Below.refl _ _).alloc (Nat.le_refl _) _
  have HA0 : Hid (Old (w.alloc (.cells (arr .u8 key) 55)).heap.size (w.alloc (.cells (arr .u8 key) 55)) (.slice a n ca) la) := Old.of (hA.below hW0)
  have HB0 : Hid (Old (w.alloc (.cells (arr .u8 key) 55)).heap.size (w.alloc (.cells (arr .u8 key) 55)) (.slice b m cb) lb) := Old.of (hB.below hW0)
  have HX0 : Hid (Old (w.alloc (.cells (arr .u8 key) 55)).heap.size (w.alloc (.cells (arr .u8 key) 55)) (.slice t r ct) lt) := Old.of (hX.below hW0)
  have HN0 : Hid (Old (w.alloc (.cells (arr .u8 key) 55)).heap.size (w.alloc (.cells (arr .u8 key) 55)) (.slice (some ⟨w.heap.size, 0, none⟩) 32 32) key) := Old.of (arr_src 55 hks hkl)
  have HT0 : Hid (S2.Tab (w.alloc (.cells (arr .u8 key) 55))) := tab_below hT hW0 (tab_lt hT)
  have HW0 : Hid (Below w.heap.size w (w.alloc (.cells (arr .u8 key) 55))) := hW0
  have HL : Hid (la.length = n ∧ lb.length = m ∧ lt.length = r ∧ n ≤ 100 ∧ m ≤ 100 ∧ r ≤ 100 ∧ key.length = 32) := ⟨hal, hbl, htl, hn, hm, hr, hkl⟩
  have n1 : ¬ (100 : Int) < (n : Int) := by omega
  have n2 : ¬ (100 : Int) < (m : Int) := by omega
  have n3 : ¬ (100 : Int) < (r : Int) := by omega
  have HZ0 : Hid (0 < w.heap.size) := tab_lt hT
  clear hA hB hX hkl hks hal hbl htl hn hm hr hT hW0
  go_enter Tryd.func9, Tryd.ntmps9
  go_wp2_with fail
  generalize hW : w.alloc (.cells (arr .u8 key) 55) = W at *
  have HZ : Hid (w.heap.size < W.heap.size) := by show _ < _; rw [← hW]; simp
  clear hW
  refine (anchor_any W).mono ?_
  rintro e w1 ⟨rfl, hb1⟩
  have HB1 : Hid (Below W.heap.size W w1) := hb1
  clear hb1
  go_wp2_with fail
  refine (Real_any _ w1 (HA0.out.keep HB1.out).1 (by have := HL.out; omega)).mono ?_
  rintro e w2 ⟨p1, sv1, rfl, hr2, hs2, hb2, hp2, hf2, hl2⟩
  have HR21 : Hid (RlIs w2 p1 sv1 0) := hr2
  have HS21 : Hid (OwnV w1.heap.size la sv1 w2) := hs2
  have HB2 : Hid (Below W.heap.size W w2) := HB1.out.trans (hb2.mono HB1.out.size)
  have HP1 : Hid (W.heap.size ≤ p1 ∧ p1 < w2.heap.size ∧ Off sv1 [p1]) := ⟨Nat.le_trans HB1.out.size hp2, hl2, hf2⟩
  clear hr2 hs2 hb2 hp2 hf2 hl2 HB1
  go_wp2_with fail
  refine (Real_any _ w2 (HA0.out.keep HB2.out).1 (by have := HL.out; omega)).mono ?_
  rintro e w3 ⟨p2, sv2, rfl, hr3, hs3, hb3, hp3, hf3, hl3⟩
  have HR31 : Hid (RlIs w3 p1 sv1 0) := HR21.out.below hb3
  have HS31 : Hid (OwnV w1.heap.size la sv1 w3) := HS21.out.rows (Kp.of_below hb3 (Nat.zero_le _))
  have HR32 : Hid (RlIs w3 p2 sv2 0) := hr3
  have HS32 : Hid (OwnV w2.heap.size la sv2 w3) := hs3
  have HB3 : Hid (Below W.heap.size W w3) := HB2.out.trans (hb3.mono HB2.out.size)
  have HP2 : Hid (W.heap.size ≤ p2 ∧ p2 < w3.heap.size ∧ Off sv2 [p2] ∧ p1 ≠ p2 ∧ p1 < w3.heap.size) := ⟨Nat.le_trans HB2.out.size hp3, hl3, hf3, by have := HP1.out.2.1; omega, Nat.lt_of_lt_of_le HP1.out.2.1 hb3.size⟩
  clear hr3 hs3 hb3 hp3 hf3 hl3 HB2 HR21 HS21
  go_wp2_with fail
  refine (Real_any _ w3 (HB0.out.keep HB3.out).1 (by have := HL.out; omega)).mono ?_
  rintro e w4 ⟨p3, sv3, rfl, hr4, hs4, hb4, hp4, hf4, hl4⟩
  have HR1 : Hid (RlIs w4 p1 sv1 0) := HR31.out.below hb4
  have HS1 : Hid (OwnV 0 la sv1 w4) := (HS31.out.rows (Kp.of_below hb4 (Nat.zero_le _))).older (Nat.zero_le _)
  have HR2 : Hid (RlIs w4 p2 sv2 0) := HR32.out.below hb4
  have HS2 : Hid (OwnV 0 la sv2 w4) := (HS32.out.rows (Kp.of_below hb4 (Nat.zero_le _))).older (Nat.zero_le _)
  have HR3 : Hid (RlIs w4 p3 sv3 0) := hr4
  have HB4 : Hid (Below W.heap.size W w4) := HB3.out.trans (hb4.mono HB3.out.size)
  have HP : Hid (W.heap.size ≤ p1 ∧ W.heap.size ≤ p2 ∧ Off sv1 [p1] ∧ Off sv2 [p2] ∧ p1 ≠ p2 ∧ p1 ≠ p3 ∧ p2 ≠ p3) := ⟨HP1.out.1, HP2.out.1, HP1.out.2.2, HP2.out.2.2.1, HP2.out.2.2.2.1, by have := HP2.out.2.2.2.2; omega, by have := HP2.out.2.1; omega⟩
  clear hr4 hs4 hb4 hp4 hf4 hl4 HB3 HR31 HR32 HS31 HS32 HP1 HP2
  obtain ⟨Z, hZ⟩ : ∃ Z, Z = arr .u8 (List.replicate 12 0) := ⟨_, rfl⟩
  have hmk : (Instr.makeSlice 32 (.int .i64 12) (.int .i64 12)).run Tryd.prog w4.drew = .ok (.slice (some ⟨w4.heap.size, 0, none⟩) 12 12) (w4.drew.alloc (.cells Z 5)) := by rw [hZ]; exact make12 w4.drew
  obtain ⟨bx, hbx⟩ : ∃ l, l = A5.Ae.box key (List.replicate 12 0) [] lt := ⟨_, rfl⟩
  have HSEAL : Hid (∀ (p : Nat) (sv : Value) (u : World), Below W.heap.size W u → RlIs u p sv 0 → Calls Tryd.prog 19 #[.pointer (some ⟨p, 0, none⟩), .slice (some ⟨w.heap.size, 0, none⟩) 32 32, .slice (some ⟨u.heap.size, 0, none⟩) 12 12, .slice none 0 0, .slice t r ct] (u.alloc (.cells Z 5)) fun e w' => ∃ v, e = .returned (.tuple #[v, .int .i64 0]) ∧ OwnV 0 bx v w' ∧ Below u.heap.size u w') := fun p sv u hb hr => by
    have ha : Below u.heap.size u (u.alloc (.cells Z 5)) := below_alloc _ _
    have hz : Src (u.alloc (.cells Z 5)) (.slice (some ⟨u.heap.size, 0, none⟩) 12 12) (List.replicate 12 0) := by rw [hZ]; exact arr_src (w := u) (l := List.replicate 12 0) 5 (by simp) rfl
    have hb' := hb.trans (ha.mono hb.size)
    refine (Seal_real key (List.replicate 12 0) [] lt _ _ _ _ p 0 sv _ (hr.below ha) (HN0.out.keep hb').1 hz (Src.nil _) (HX0.out.keep hb').1 HL.out.2.2.2.2.2.2 rfl (by decide) (by have := HL.out; omega)).mono ?_
    rintro e w' ⟨v, rfl, h1, h2⟩
    refine ⟨v, rfl, ?_, ha.trans (h2.mono ha.size)⟩
    rw [hbx]
    unfold OwnV
    rw [A5.Ae.box_length]
    exact own_older h1 (Nat.zero_le _)
  have HBX : Hid (bx = A5.Ae.box key (List.replicate 12 0) [] lt) := hbx
  have HZZ : Hid (Z = arr .u8 (List.replicate 12 0)) := hZ
  clear hbx hZ
  go_wp2_with fail
  go_region_with ((first
    | (go_at_call 19; refine (HSEAL.out p1 sv1 w4.drew (HB4.out.trans (below_drewN 1 _ _)) HR1.out).mono ?_; rintro e w5 ⟨bv1, rfl, ho5, hb5⟩; have HO5 : Hid (OwnV 0 bx bv1 w5) := ho5; have HB5' : Hid (Below w4.heap.size w4 w5) := (below_drewN 1 w4 _).trans hb5; clear ho5 hb5)))
  have HR51 : Hid (RlIs w5 p1 sv1 0) := HR1.out.below HB5'.out
  have HR52 : Hid (RlIs w5 p2 sv2 0) := HR2.out.below HB5'.out
  have HR53 : Hid (RlIs w5 p3 sv3 0) := HR3.out.below HB5'.out
  have HS51 : Hid (OwnV 0 la sv1 w5) := HS1.out.rows (Kp.of_below HB5'.out (Nat.zero_le _))
  have HS52 : Hid (OwnV 0 la sv2 w5) := HS2.out.rows (Kp.of_below HB5'.out (Nat.zero_le _))
  have HB5 : Hid (Below W.heap.size W w5) := HB4.out.trans (HB5'.out.mono HB4.out.size)
  have hmk5 : (Instr.makeSlice 32 (.int .i64 12) (.int .i64 12)).run Tryd.prog w5.drew = .ok (.slice (some ⟨w5.heap.size, 0, none⟩) 12 12) (w5.drew.alloc (.cells Z 5)) := by rw [HZZ.out]; exact make12 w5.drew
  clear hmk HR1 HR2 HR3 HS1 HS2 HB4 HB5'
  go_wp2_with fail
  go_region_with ((first
    | (go_at_call 19; refine (HSEAL.out p3 sv3 w5.drew (HB5.out.trans (below_drewN 1 _ _)) HR53.out).mono ?_; rintro e w6 ⟨bv2, rfl, ho6, hb6⟩; have HO6 : Hid (OwnV 0 bx bv2 w6) := ho6; have HB6' : Hid (Below w5.heap.size w5 w6) := (below_drewN 1 w5 _).trans hb6; clear ho6 hb6)))
  obtain ⟨k1, hk1⟩ : ∃ l, l = S2.Mk.code la (Su.be 8 1) := ⟨_, rfl⟩
  obtain ⟨k2, hk2⟩ : ∃ l, l = S2.Mk.code la (Su.be 8 2) := ⟨_, rfl⟩
  obtain ⟨sm, hsm⟩ : ∃ l, l = S2.Sp.sum lt := ⟨_, rfl⟩
  obtain ⟨sg, hsg⟩ : ∃ l, l = Su.sign 72 1 := ⟨_, rfl⟩
  have HK : Hid (TwoK W.heap.size p1 p2 p3 sv1 sv2 la lt k1 k2 bx sm sg) :=
    ⟨Nat.lt_of_le_of_lt (Nat.zero_le _) HZ.out, HP.out.1, HP.out.2.1, HP.out.2.2.2.2, HP.out.2.2.1, HP.out.2.2.2.1, HA0.out.1.small, by have := HL.out; omega, by have := HL.out; omega, hk1, hk2, hsm, hsg,
      by rw [HBX.out]; exact A5.Ae.box_lt HX0.out.1.small, by rw [hk1]; exact S2.Mk.code_small _ _, by rw [hk2]; exact S2.Mk.code_small _ _, by rw [hsm]; exact S2.Mk.sum_small _, by rw [hsg]; exact Su.sign_lt (by decide) _⟩
  have hkp : Kp 0 w5 w6 := Kp.of_below HB6'.out (Nat.zero_le _)
  have HB6 : Hid (Below W.heap.size W w6) := HB5.out.trans (HB6'.out.mono HB5.out.size)
  have HS : Hid (TwoS W.heap.size sv1 sv2 (.slice t r ct) bv1 bv2 la lt bx w6) :=
    ⟨tab_below HT0.out HB6.out HK.out.b0, HS51.out.rows hkp, HS52.out.rows hkp, HX0.out.keep HB6.out, HO5.out.rows hkp, HO6.out, HB6.out.size, HK.out.b0⟩
  have HR0 : Hid (∀ x y, twoR W.heap.size p1 p2 p3 sv1 sv2 sv3 0 x y w6) := fun x y => ⟨fun _ => ⟨HR51.out.below HB6'.out, HR52.out.below HB6'.out, HR53.out.below HB6'.out⟩, fun h => by omega, fun h => by omega⟩
  clear hk1 hk2 hsm hsg hkp hmk5 HR51 HR52 HR53 HS51 HS52 HB5 HB6' HO5 HO6 HSEAL HBX HZZ HA0 HB0 HX0 HN0 HT0 HL HP
  go_wp2_with fail
  refine wp_region_sa (two8 p1 p2 p3 (.slice t r ct) bv1 bv2 k1 k2 bx sm sg) (Kp W.heap.size) (SeqA [8, 11, 15, 17, 20, 24, 31, 35, 40, 44, 45, 48, 50, 53] (fun k => twoR W.heap.size p1 p2 p3 sv1 sv2 sv3 (nC k)) 98 103) (by kernel_rfl) (Kp.drew _ _) (fun _ _ _ h k => h.trans k) (two8_kept _ _ _ _ _ _ _ _ _ _ _ _) (by kernel_rfl) (SeqS.start (twoR_quiet _ _ _ _ _ (below_drewN 1 _ _) (HR0.out _ _))) ?_ ?_
  · intro i o a' w' f hi inv hS hfi hfw hpre
    have ho : Kp W.heap.size w6 w' := inv.grow
    have hB' : W.heap.size ≤ w'.heap.size := Nat.le_trans HB6.out.size ho.low.size
    have hlt : i < 58 := (Array.getElem?_eq_some_iff.1 hi).1
    obtain rfl|rfl|rfl|rfl|rfl|rfl|rfl|rfl|rfl|rfl|rfl|rfl|rfl|rfl|rfl|rfl|rfl|rfl|rfl|rfl|rfl|rfl|rfl|rfl|rfl|rfl|rfl|rfl|rfl|rfl|rfl|rfl|rfl|rfl|rfl|rfl|rfl|rfl|rfl|rfl|rfl|rfl|rfl|rfl|rfl|rfl|rfl|rfl|rfl|rfl|rfl|rfl|rfl|rfl|rfl|rfl|rfl|rfl : i = 0 ∨ i = 1 ∨ i = 2 ∨ i = 3 ∨ i = 4 ∨ i = 5 ∨ i = 6 ∨ i = 7 ∨ i = 8 ∨ i = 9 ∨ i = 10 ∨ i = 11 ∨ i = 12 ∨ i = 13 ∨ i = 14 ∨ i = 15 ∨ i = 16 ∨ i = 17 ∨ i = 18 ∨ i = 19 ∨ i = 20 ∨ i = 21 ∨ i = 22 ∨ i = 23 ∨ i = 24 ∨ i = 25 ∨ i = 26 ∨ i = 27 ∨ i = 28 ∨ i = 29 ∨ i = 30 ∨ i = 31 ∨ i = 32 ∨ i = 33 ∨ i = 34 ∨ i = 35 ∨ i = 36 ∨ i = 37 ∨ i = 38 ∨ i = 39 ∨ i = 40 ∨ i = 41 ∨ i = 42 ∨ i = 43 ∨ i = 44 ∨ i = 45 ∨ i = 46 ∨ i = 47 ∨ i = 48 ∨ i = 49 ∨ i = 50 ∨ i = 51 ∨ i = 52 ∨ i = 53 ∨ i = 54 ∨ i = 55 ∨ i = 56 ∨ i = 57 := by omega
    · obtain rfl := Option.some.inj hi
      exact sa_value _ rfl rfl rfl (Below.refl _ _) hB' (by decide) (by decide) (by decide) hS (fun k => twoR_quiet (nC k)) (by show a'.tmps.getD 13 undef = _; rw [inv.old 13 (notDst_spec (by kernel_rfl))]; rfl)
    · obtain rfl := Option.some.inj hi
      have h0 : a'.tmps.getD 53 undef = _ := pre_of hpre 0 53 (by kernel_rfl) (by kernel_rfl)
      exact sa_value _ rfl rfl (eqlN_run 35 53 0 rfl h0) (Below.refl _ _) hB' (by decide) (by decide) (by decide) hS (fun k => twoR_quiet (nC k)) rfl
    · obtain rfl := Option.some.inj hi
      have h0 := pre_of hpre 1 54 (by kernel_rfl) (by kernel_rfl)
      exact sa_value _ rfl rfl rfl (Below.refl _ _) hB' (by decide) (by decide) (by decide) hS (fun k => twoR_quiet (nC k)) h0
    · obtain rfl := Option.some.inj hi
      have hgu : a'.tmps.getD 55 undef = _ := pre_of hpre 2 55 (by kernel_rfl) (by kernel_rfl)
      exact sa_value _ rfl (wanted_of 2 55 true rfl (by kernel_rfl) hgu) rfl (Below.refl _ _) hB' (by decide) (by decide) (by decide) hS (fun k => twoR_quiet (nC k)) (by show a'.tmps.getD 15 undef = _; rw [inv.old 15 (notDst_spec (by kernel_rfl))]; rfl)
    · obtain rfl := Option.some.inj hi
      have hgu : a'.tmps.getD 55 undef = _ := pre_of hpre 2 55 (by kernel_rfl) (by kernel_rfl)
      have h0 : a'.tmps.getD 56 undef = _ := pre_of hpre 3 56 (by kernel_rfl) (by kernel_rfl)
      exact sa_value _ rfl (wanted_of 2 55 true rfl (by kernel_rfl) hgu) (eqlN_run 35 56 0 rfl h0) (Below.refl _ _) hB' (by decide) (by decide) (by decide) hS (fun k => twoR_quiet (nC k)) rfl
    · obtain rfl := Option.some.inj hi
      have h0 : a'.tmps.getD 55 undef = _ := pre_of hpre 2 55 (by kernel_rfl) (by kernel_rfl)
      have h1 : a'.tmps.getD 57 undef = _ := pre_of hpre 4 57 (by kernel_rfl) (by kernel_rfl)
      exact sa_value _ rfl rfl (pick_run 55 57 rfl h0 h1) (Below.refl _ _) hB' (by decide) (by decide) (by decide) hS (fun k => twoR_quiet (nC k)) rfl
    · obtain rfl := Option.some.inj hi
      have h0 := pre_of hpre 5 58 (by kernel_rfl) (by kernel_rfl)
      exact sa_value _ rfl rfl rfl (Below.refl _ _) hB' (by decide) (by decide) (by decide) hS (fun k => twoR_quiet (nC k)) h0
    · obtain rfl := Option.some.inj hi
      have hgu : a'.tmps.getD 59 undef = _ := pre_of hpre 6 59 (by kernel_rfl) (by kernel_rfl)
      exact sa_value _ rfl (wanted_of 6 59 true rfl (by kernel_rfl) hgu) rfl (Below.refl _ _) hB' (by decide) (by decide) (by decide) hS (fun k => twoR_quiet (nC k)) (by show a'.tmps.getD 9 undef = _; rw [inv.old 9 (notDst_spec (by kernel_rfl))]; rfl)
    · obtain rfl := Option.some.inj hi
      have hgu : a'.tmps.getD 59 undef = _ := pre_of hpre 6 59 (by kernel_rfl) (by kernel_rfl)
      have h0 : a'.tmps.getD 60 undef = _ := pre_of hpre 7 60 (by kernel_rfl) (by kernel_rfl)
      refine sa_call0 (k := 0) 17 #[a'.tmps.getD 60 undef] rfl (wanted_of 6 59 true rfl (by kernel_rfl) hgu) (by kernel_rfl) rfl (by decide) hfi (fun c h _ => absurd rfl h) hS (by decide) (by decide) (fun hR => ?_)
      rw [h0]
      exact two_c0 HK.out (HS.out.kp ho) hR
    · obtain rfl := Option.some.inj hi
      have hgu : a'.tmps.getD 59 undef = _ := pre_of hpre 6 59 (by kernel_rfl) (by kernel_rfl)
      have h0 := pre_of hpre 8 61 (by kernel_rfl) (by kernel_rfl)
      exact sa_value _ rfl (wanted_of 6 59 true rfl (by kernel_rfl) hgu) (conv_run 61 _ rfl (OwnV.src h0 (HK.out.sk1))) (Below.refl _ _) hB' (by decide) (by decide) (by decide) hS (fun k => twoR_quiet (nC k)) rfl
    · obtain rfl := Option.some.inj hi
      have hgu : a'.tmps.getD 59 undef = _ := pre_of hpre 6 59 (by kernel_rfl) (by kernel_rfl)
      exact sa_value _ rfl (wanted_of 6 59 true rfl (by kernel_rfl) hgu) rfl (Below.refl _ _) hB' (by decide) (by decide) (by decide) hS (fun k => twoR_quiet (nC k)) (by show a'.tmps.getD 10 undef = _; rw [inv.old 10 (notDst_spec (by kernel_rfl))]; rfl)
    · obtain rfl := Option.some.inj hi
      have hgu : a'.tmps.getD 59 undef = _ := pre_of hpre 6 59 (by kernel_rfl) (by kernel_rfl)
      have h0 : a'.tmps.getD 63 undef = _ := pre_of hpre 10 63 (by kernel_rfl) (by kernel_rfl)
      refine sa_call0 (k := 1) 17 #[a'.tmps.getD 63 undef] rfl (wanted_of 6 59 true rfl (by kernel_rfl) hgu) (by kernel_rfl) rfl (by decide) hfi (fun c _ hc => by cases hc; exact been_of hfw 8 (by kernel_rfl)) hS (by decide) (by decide) (fun hR => ?_)
      rw [h0]
      exact two_c1 HK.out (HS.out.kp ho) hR
    · obtain rfl := Option.some.inj hi
      have hgu : a'.tmps.getD 59 undef = _ := pre_of hpre 6 59 (by kernel_rfl) (by kernel_rfl)
      have h0 := pre_of hpre 11 64 (by kernel_rfl) (by kernel_rfl)
      exact sa_value _ rfl (wanted_of 6 59 true rfl (by kernel_rfl) hgu) (conv_run 64 _ rfl (OwnV.src h0 (HK.out.sk1))) (Below.refl _ _) hB' (by decide) (by decide) (by decide) hS (fun k => twoR_quiet (nC k)) rfl
    · obtain rfl := Option.some.inj hi
      have hgu : a'.tmps.getD 59 undef = _ := pre_of hpre 6 59 (by kernel_rfl) (by kernel_rfl)
      have h0 : a'.tmps.getD 62 undef = _ := pre_of hpre 9 62 (by kernel_rfl) (by kernel_rfl)
      have h1 : a'.tmps.getD 65 undef = _ := pre_of hpre 12 65 (by kernel_rfl) (by kernel_rfl)
      exact sa_value _ rfl (wanted_of 6 59 true rfl (by kernel_rfl) hgu) (eqlS_run 62 65 _ rfl h0 h1) (Below.refl _ _) hB' (by decide) (by decide) (by decide) hS (fun k => twoR_quiet (nC k)) rfl
    · obtain rfl := Option.some.inj hi
      have h0 : a'.tmps.getD 59 undef = _ := pre_of hpre 6 59 (by kernel_rfl) (by kernel_rfl)
      have h1 : a'.tmps.getD 66 undef = _ := pre_of hpre 13 66 (by kernel_rfl) (by kernel_rfl)
      exact sa_value _ rfl rfl (pick_run 59 66 rfl h0 h1) (Below.refl _ _) hB' (by decide) (by decide) (by decide) hS (fun k => twoR_quiet (nC k)) rfl
    · obtain rfl := Option.some.inj hi
      have h0 := pre_of hpre 14 67 (by kernel_rfl) (by kernel_rfl)
      exact sa_event (k := 2) _ rfl rfl rfl hB' (by kernel_rfl) (by decide) hfi (fun c _ hc => by cases hc; exact been_of hfw 11 (by kernel_rfl)) hS (by decide) (by decide) (fun hR => hR) h0
    · obtain rfl := Option.some.inj hi
      have hgu : a'.tmps.getD 68 undef = _ := pre_of hpre 15 68 (by kernel_rfl) (by kernel_rfl)
      exact sa_value _ rfl (wanted_of 15 68 true rfl (by kernel_rfl) hgu) rfl (Below.refl _ _) hB' (by decide) (by decide) (by decide) hS (fun k => twoR_quiet (nC k)) (by show a'.tmps.getD 9 undef = _; rw [inv.old 9 (notDst_spec (by kernel_rfl))]; rfl)
    · obtain rfl := Option.some.inj hi
      have hgu : a'.tmps.getD 68 undef = _ := pre_of hpre 15 68 (by kernel_rfl) (by kernel_rfl)
      have h0 : a'.tmps.getD 69 undef = _ := pre_of hpre 16 69 (by kernel_rfl) (by kernel_rfl)
      refine sa_call0 (k := 3) 17 #[a'.tmps.getD 69 undef] rfl (wanted_of 15 68 true rfl (by kernel_rfl) hgu) (by kernel_rfl) rfl (by decide) hfi (fun c _ hc => by cases hc; exact been_of hfw 15 (by kernel_rfl)) hS (by decide) (by decide) (fun hR => ?_)
      rw [h0]
      exact two_c2 HK.out (HS.out.kp ho) hR
    · obtain rfl := Option.some.inj hi
      have hgu : a'.tmps.getD 68 undef = _ := pre_of hpre 15 68 (by kernel_rfl) (by kernel_rfl)
      have h0 := pre_of hpre 17 70 (by kernel_rfl) (by kernel_rfl)
      exact sa_value _ rfl (wanted_of 15 68 true rfl (by kernel_rfl) hgu) (conv_run 70 _ rfl (OwnV.src h0 (HK.out.sk2))) (Below.refl _ _) hB' (by decide) (by decide) (by decide) hS (fun k => twoR_quiet (nC k)) rfl
    · obtain rfl := Option.some.inj hi
      have hgu : a'.tmps.getD 68 undef = _ := pre_of hpre 15 68 (by kernel_rfl) (by kernel_rfl)
      exact sa_value _ rfl (wanted_of 15 68 true rfl (by kernel_rfl) hgu) rfl (Below.refl _ _) hB' (by decide) (by decide) (by decide) hS (fun k => twoR_quiet (nC k)) (by show a'.tmps.getD 10 undef = _; rw [inv.old 10 (notDst_spec (by kernel_rfl))]; rfl)
    · obtain rfl := Option.some.inj hi
      have hgu : a'.tmps.getD 68 undef = _ := pre_of hpre 15 68 (by kernel_rfl) (by kernel_rfl)
      have h0 : a'.tmps.getD 72 undef = _ := pre_of hpre 19 72 (by kernel_rfl) (by kernel_rfl)
      refine sa_call0 (k := 4) 17 #[a'.tmps.getD 72 undef] rfl (wanted_of 15 68 true rfl (by kernel_rfl) hgu) (by kernel_rfl) rfl (by decide) hfi (fun c _ hc => by cases hc; exact been_of hfw 17 (by kernel_rfl)) hS (by decide) (by decide) (fun hR => ?_)
      rw [h0]
      exact two_c3 HK.out (HS.out.kp ho) hR
    · obtain rfl := Option.some.inj hi
      have hgu : a'.tmps.getD 68 undef = _ := pre_of hpre 15 68 (by kernel_rfl) (by kernel_rfl)
      have h0 := pre_of hpre 20 73 (by kernel_rfl) (by kernel_rfl)
      exact sa_value _ rfl (wanted_of 15 68 true rfl (by kernel_rfl) hgu) (conv_run 73 _ rfl (OwnV.src h0 (HK.out.sk2))) (Below.refl _ _) hB' (by decide) (by decide) (by decide) hS (fun k => twoR_quiet (nC k)) rfl
    · obtain rfl := Option.some.inj hi
      have hgu : a'.tmps.getD 68 undef = _ := pre_of hpre 15 68 (by kernel_rfl) (by kernel_rfl)
      have h0 : a'.tmps.getD 71 undef = _ := pre_of hpre 18 71 (by kernel_rfl) (by kernel_rfl)
      have h1 : a'.tmps.getD 74 undef = _ := pre_of hpre 21 74 (by kernel_rfl) (by kernel_rfl)
      exact sa_value _ rfl (wanted_of 15 68 true rfl (by kernel_rfl) hgu) (eqlS_run 71 74 _ rfl h0 h1) (Below.refl _ _) hB' (by decide) (by decide) (by decide) hS (fun k => twoR_quiet (nC k)) rfl
    · obtain rfl := Option.some.inj hi
      have h0 : a'.tmps.getD 68 undef = _ := pre_of hpre 15 68 (by kernel_rfl) (by kernel_rfl)
      have h1 : a'.tmps.getD 75 undef = _ := pre_of hpre 22 75 (by kernel_rfl) (by kernel_rfl)
      exact sa_value _ rfl rfl (pick_run 68 75 rfl h0 h1) (Below.refl _ _) hB' (by decide) (by decide) (by decide) hS (fun k => twoR_quiet (nC k)) rfl
    · obtain rfl := Option.some.inj hi
      have h0 := pre_of hpre 23 76 (by kernel_rfl) (by kernel_rfl)
      exact sa_event (k := 5) _ rfl rfl rfl hB' (by kernel_rfl) (by decide) hfi (fun c _ hc => by cases hc; exact been_of hfw 20 (by kernel_rfl)) hS (by decide) (by decide) (fun hR => hR) h0
    · obtain rfl := Option.some.inj hi
      have hgu : a'.tmps.getD 77 undef = _ := pre_of hpre 24 77 (by kernel_rfl) (by kernel_rfl)
      exact sa_value _ rfl (wanted_of 24 77 true rfl (by kernel_rfl) hgu) rfl (Below.refl _ _) hB' (by decide) (by decide) (by decide) hS (fun k => twoR_quiet (nC k)) (by show a'.tmps.getD 12 undef = _; rw [inv.old 12 (notDst_spec (by kernel_rfl))]; rfl)
    · obtain rfl := Option.some.inj hi
      have hgu : a'.tmps.getD 77 undef = _ := pre_of hpre 24 77 (by kernel_rfl) (by kernel_rfl)
      have h0 := pre_of hpre 25 78 (by kernel_rfl) (by kernel_rfl)
      exact sa_value _ rfl (wanted_of 24 77 true rfl (by kernel_rfl) hgu) (conv_run 78 _ rfl (by rw [show a'.tmps.getD 78 undef = _ from h0]; exact OwnV.src (HS.out.kp ho).b1 HK.out.sbx)) (Below.refl _ _) hB' (by decide) (by decide) (by decide) hS (fun k => twoR_quiet (nC k)) rfl
    · obtain rfl := Option.some.inj hi
      have hgu : a'.tmps.getD 77 undef = _ := pre_of hpre 24 77 (by kernel_rfl) (by kernel_rfl)
      exact sa_value _ rfl (wanted_of 24 77 true rfl (by kernel_rfl) hgu) rfl (Below.refl _ _) hB' (by decide) (by decide) (by decide) hS (fun k => twoR_quiet (nC k)) (by show a'.tmps.getD 14 undef = _; rw [inv.old 14 (notDst_spec (by kernel_rfl))]; rfl)
    · obtain rfl := Option.some.inj hi
      have hgu : a'.tmps.getD 77 undef = _ := pre_of hpre 24 77 (by kernel_rfl) (by kernel_rfl)
      have h0 := pre_of hpre 27 80 (by kernel_rfl) (by kernel_rfl)
      exact sa_value _ rfl (wanted_of 24 77 true rfl (by kernel_rfl) hgu) (conv_run 80 _ rfl (by rw [show a'.tmps.getD 80 undef = _ from h0]; exact OwnV.src (HS.out.kp ho).b2 HK.out.sbx)) (Below.refl _ _) hB' (by decide) (by decide) (by decide) hS (fun k => twoR_quiet (nC k)) rfl
    · obtain rfl := Option.some.inj hi
      have hgu : a'.tmps.getD 77 undef = _ := pre_of hpre 24 77 (by kernel_rfl) (by kernel_rfl)
      have h0 : a'.tmps.getD 79 undef = _ := pre_of hpre 26 79 (by kernel_rfl) (by kernel_rfl)
      have h1 : a'.tmps.getD 81 undef = _ := pre_of hpre 28 81 (by kernel_rfl) (by kernel_rfl)
      exact sa_value _ rfl (wanted_of 24 77 true rfl (by kernel_rfl) hgu) (eqlS_run 79 81 _ rfl h0 h1) (Below.refl _ _) hB' (by decide) (by decide) (by decide) hS (fun k => twoR_quiet (nC k)) rfl
    · obtain rfl := Option.some.inj hi
      have h0 : a'.tmps.getD 77 undef = _ := pre_of hpre 24 77 (by kernel_rfl) (by kernel_rfl)
      have h1 : a'.tmps.getD 82 undef = _ := pre_of hpre 29 82 (by kernel_rfl) (by kernel_rfl)
      exact sa_value _ rfl rfl (pick_run 77 82 rfl h0 h1) (Below.refl _ _) hB' (by decide) (by decide) (by decide) hS (fun k => twoR_quiet (nC k)) rfl
    · obtain rfl := Option.some.inj hi
      have h0 := pre_of hpre 30 83 (by kernel_rfl) (by kernel_rfl)
      exact sa_event (k := 6) _ rfl rfl rfl hB' (by kernel_rfl) (by decide) hfi (fun c _ hc => by cases hc; exact been_of hfw 24 (by kernel_rfl)) hS (by decide) (by decide) (fun hR => hR) h0
    · obtain rfl := Option.some.inj hi
      have hgu : a'.tmps.getD 84 undef = _ := pre_of hpre 31 84 (by kernel_rfl) (by kernel_rfl)
      exact sa_value _ rfl (wanted_of 31 84 true rfl (by kernel_rfl) hgu) rfl (Below.refl _ _) hB' (by decide) (by decide) (by decide) hS (fun k => twoR_quiet (nC k)) (by show a'.tmps.getD 9 undef = _; rw [inv.old 9 (notDst_spec (by kernel_rfl))]; rfl)
    · obtain rfl := Option.some.inj hi
      have hgu : a'.tmps.getD 84 undef = _ := pre_of hpre 31 84 (by kernel_rfl) (by kernel_rfl)
      exact sa_value _ rfl (wanted_of 31 84 true rfl (by kernel_rfl) hgu) rfl (Below.refl _ _) hB' (by decide) (by decide) (by decide) hS (fun k => twoR_quiet (nC k)) (by show a'.tmps.getD 3 undef = _; rw [inv.old 3 (notDst_spec (by kernel_rfl))]; rfl)
    · obtain rfl := Option.some.inj hi
      have hgu : a'.tmps.getD 84 undef = _ := pre_of hpre 31 84 (by kernel_rfl) (by kernel_rfl)
      have h0 : a'.tmps.getD 86 undef = _ := pre_of hpre 33 86 (by kernel_rfl) (by kernel_rfl)
      exact sa_value _ rfl (wanted_of 31 84 true rfl (by kernel_rfl) hgu) (part_run 86 _ rfl ⟨_, _, _, rfl⟩ h0) (below_alloc _ _) hB' (by decide) (by decide) (by decide) hS (fun k => twoR_quiet (nC k)) partT_new
    · obtain rfl := Option.some.inj hi
      have hgu : a'.tmps.getD 84 undef = _ := pre_of hpre 31 84 (by kernel_rfl) (by kernel_rfl)
      have h0 : a'.tmps.getD 85 undef = _ := pre_of hpre 32 85 (by kernel_rfl) (by kernel_rfl)
      have h1 := pre_of hpre 34 87 (by kernel_rfl) (by kernel_rfl)
      refine sa_call0 (k := 7) 13 #[a'.tmps.getD 85 undef, a'.tmps.getD 87 undef] rfl (wanted_of 31 84 true rfl (by kernel_rfl) hgu) (by kernel_rfl) rfl (by decide) hfi (fun c _ hc => by cases hc; exact been_of hfw 31 (by kernel_rfl)) hS (by decide) (by decide) (fun hR => ?_)
      obtain ⟨g, hg, hc⟩ := PartT.cell h1
      rw [h0, hg]
      exact two_c4 HK.out (HS.out.kp ho) hR hc
    · obtain rfl := Option.some.inj hi
      have hgu : a'.tmps.getD 84 undef = _ := pre_of hpre 31 84 (by kernel_rfl) (by kernel_rfl)
      have h0 := pre_of hpre 35 88 (by kernel_rfl) (by kernel_rfl)
      exact sa_value _ rfl (wanted_of 31 84 true rfl (by kernel_rfl) hgu) (conv_run 88 _ rfl (OwnV.src h0 (HK.out.ssm))) (Below.refl _ _) hB' (by decide) (by decide) (by decide) hS (fun k => twoR_quiet (nC k)) rfl
    · obtain rfl := Option.some.inj hi
      have hgu : a'.tmps.getD 84 undef = _ := pre_of hpre 31 84 (by kernel_rfl) (by kernel_rfl)
      exact sa_value _ rfl (wanted_of 31 84 true rfl (by kernel_rfl) hgu) rfl (Below.refl _ _) hB' (by decide) (by decide) (by decide) hS (fun k => twoR_quiet (nC k)) (by show a'.tmps.getD 11 undef = _; rw [inv.old 11 (notDst_spec (by kernel_rfl))]; rfl)
    · obtain rfl := Option.some.inj hi
      have hgu : a'.tmps.getD 84 undef = _ := pre_of hpre 31 84 (by kernel_rfl) (by kernel_rfl)
      exact sa_value _ rfl (wanted_of 31 84 true rfl (by kernel_rfl) hgu) rfl (Below.refl _ _) hB' (by decide) (by decide) (by decide) hS (fun k => twoR_quiet (nC k)) (by show a'.tmps.getD 3 undef = _; rw [inv.old 3 (notDst_spec (by kernel_rfl))]; rfl)
    · obtain rfl := Option.some.inj hi
      have hgu : a'.tmps.getD 84 undef = _ := pre_of hpre 31 84 (by kernel_rfl) (by kernel_rfl)
      have h0 : a'.tmps.getD 91 undef = _ := pre_of hpre 38 91 (by kernel_rfl) (by kernel_rfl)
      exact sa_value _ rfl (wanted_of 31 84 true rfl (by kernel_rfl) hgu) (part_run 91 _ rfl ⟨_, _, _, rfl⟩ h0) (below_alloc _ _) hB' (by decide) (by decide) (by decide) hS (fun k => twoR_quiet (nC k)) partT_new
    · obtain rfl := Option.some.inj hi
      have hgu : a'.tmps.getD 84 undef = _ := pre_of hpre 31 84 (by kernel_rfl) (by kernel_rfl)
      have h0 : a'.tmps.getD 90 undef = _ := pre_of hpre 37 90 (by kernel_rfl) (by kernel_rfl)
      have h1 := pre_of hpre 39 92 (by kernel_rfl) (by kernel_rfl)
      refine sa_call0 (k := 8) 13 #[a'.tmps.getD 90 undef, a'.tmps.getD 92 undef] rfl (wanted_of 31 84 true rfl (by kernel_rfl) hgu) (by kernel_rfl) rfl (by decide) hfi (fun c _ hc => by cases hc; exact been_of hfw 35 (by kernel_rfl)) hS (by decide) (by decide) (fun hR => ?_)
      obtain ⟨g, hg, hc⟩ := PartT.cell h1
      rw [h0, hg]
      exact two_c5 HK.out (HS.out.kp ho) hR hc
    · obtain rfl := Option.some.inj hi
      have hgu : a'.tmps.getD 84 undef = _ := pre_of hpre 31 84 (by kernel_rfl) (by kernel_rfl)
      have h0 := pre_of hpre 40 93 (by kernel_rfl) (by kernel_rfl)
      exact sa_value _ rfl (wanted_of 31 84 true rfl (by kernel_rfl) hgu) (conv_run 93 _ rfl (OwnV.src h0 (HK.out.ssm))) (Below.refl _ _) hB' (by decide) (by decide) (by decide) hS (fun k => twoR_quiet (nC k)) rfl
    · obtain rfl := Option.some.inj hi
      have hgu : a'.tmps.getD 84 undef = _ := pre_of hpre 31 84 (by kernel_rfl) (by kernel_rfl)
      have h0 : a'.tmps.getD 89 undef = _ := pre_of hpre 36 89 (by kernel_rfl) (by kernel_rfl)
      have h1 : a'.tmps.getD 94 undef = _ := pre_of hpre 41 94 (by kernel_rfl) (by kernel_rfl)
      exact sa_value _ rfl (wanted_of 31 84 true rfl (by kernel_rfl) hgu) (eqlS_run 89 94 _ rfl h0 h1) (Below.refl _ _) hB' (by decide) (by decide) (by decide) hS (fun k => twoR_quiet (nC k)) rfl
    · obtain rfl := Option.some.inj hi
      have h0 : a'.tmps.getD 84 undef = _ := pre_of hpre 31 84 (by kernel_rfl) (by kernel_rfl)
      have h1 : a'.tmps.getD 95 undef = _ := pre_of hpre 42 95 (by kernel_rfl) (by kernel_rfl)
      exact sa_value _ rfl rfl (pick_run 84 95 rfl h0 h1) (Below.refl _ _) hB' (by decide) (by decide) (by decide) hS (fun k => twoR_quiet (nC k)) rfl
    · obtain rfl := Option.some.inj hi
      have h0 := pre_of hpre 43 96 (by kernel_rfl) (by kernel_rfl)
      exact sa_event (k := 9) _ rfl rfl rfl hB' (by kernel_rfl) (by decide) hfi (fun c _ hc => by cases hc; exact been_of hfw 40 (by kernel_rfl)) hS (by decide) (by decide) (fun hR => hR) h0
    · obtain rfl := Option.some.inj hi
      have hgu : a'.tmps.getD 97 undef = _ := pre_of hpre 44 97 (by kernel_rfl) (by kernel_rfl)
      refine sa_call1 (k := 10) 12 #[] rfl (wanted_of 44 97 true rfl (by kernel_rfl) hgu) (by kernel_rfl) rfl (by decide) hfi (fun c _ hc => by cases hc; exact been_of hfw 44 (by kernel_rfl)) hS rfl (by decide) (by rw [show a'.tmps.size = 110 from inv.size]; decide) (fun hR => ?_)
      exact two_c6 (HS.out.kp ho) hR
    · obtain rfl := Option.some.inj hi
      have hgu : a'.tmps.getD 97 undef = _ := pre_of hpre 44 97 (by kernel_rfl) (by kernel_rfl)
      exact sa_value _ rfl (wanted_of 44 97 true rfl (by kernel_rfl) hgu) rfl (Below.refl _ _) hB' (by decide) (by decide) (by decide) hS (fun k => twoR_quiet (nC k)) (by show a'.tmps.getD 3 undef = _; rw [inv.old 3 (notDst_spec (by kernel_rfl))]; rfl)
    · obtain rfl := Option.some.inj hi
      have hgu : a'.tmps.getD 97 undef = _ := pre_of hpre 44 97 (by kernel_rfl) (by kernel_rfl)
      have h0 : a'.tmps.getD 99 undef = _ := pre_of hpre 46 99 (by kernel_rfl) (by kernel_rfl)
      exact sa_value _ rfl (wanted_of 44 97 true rfl (by kernel_rfl) hgu) (part_run 99 _ rfl ⟨_, _, _, rfl⟩ h0) (below_alloc _ _) hB' (by decide) (by decide) (by decide) hS (fun k => twoR_quiet (nC k)) partT_new
    · obtain rfl := Option.some.inj hi
      have hgu : a'.tmps.getD 97 undef = _ := pre_of hpre 44 97 (by kernel_rfl) (by kernel_rfl)
      have h0 := pre_of hpre 45 98 (by kernel_rfl) (by kernel_rfl)
      have h1 := pre_of hpre 47 100 (by kernel_rfl) (by kernel_rfl)
      refine sa_call0 (k := 11) 13 #[a'.tmps.getD 98 undef, a'.tmps.getD 100 undef] rfl (wanted_of 44 97 true rfl (by kernel_rfl) hgu) (by kernel_rfl) rfl (by decide) hfi (fun c _ hc => by cases hc; exact been_of hfw 45 (by kernel_rfl)) hS (by decide) (by decide) (fun hR => ?_)
      obtain ⟨g, hg, hc⟩ := PartT.cell h1
      rw [hg]
      exact two_c7 HK.out (HS.out.kp ho) hR hc
    · obtain rfl := Option.some.inj hi
      have hgu : a'.tmps.getD 97 undef = _ := pre_of hpre 44 97 (by kernel_rfl) (by kernel_rfl)
      have h0 := pre_of hpre 48 101 (by kernel_rfl) (by kernel_rfl)
      exact sa_value _ rfl (wanted_of 44 97 true rfl (by kernel_rfl) hgu) (conv_run 101 _ rfl (OwnV.src h0 (HK.out.ssg))) (Below.refl _ _) hB' (by decide) (by decide) (by decide) hS (fun k => twoR_quiet (nC k)) rfl
    · obtain rfl := Option.some.inj hi
      have hgu : a'.tmps.getD 97 undef = _ := pre_of hpre 44 97 (by kernel_rfl) (by kernel_rfl)
      refine sa_call2 (k := 12) 12 #[] rfl (wanted_of 44 97 true rfl (by kernel_rfl) hgu) (by kernel_rfl) rfl (by decide) hfi (fun c _ hc => by cases hc; exact been_of hfw 48 (by kernel_rfl)) hS rfl (by decide) (by rw [show a'.tmps.size = 110 from inv.size]; decide) (fun hR => ?_)
      exact two_c8 (HS.out.kp ho) hR
    · obtain rfl := Option.some.inj hi
      have hgu : a'.tmps.getD 97 undef = _ := pre_of hpre 44 97 (by kernel_rfl) (by kernel_rfl)
      exact sa_value _ rfl (wanted_of 44 97 true rfl (by kernel_rfl) hgu) rfl (Below.refl _ _) hB' (by decide) (by decide) (by decide) hS (fun k => twoR_quiet (nC k)) (by show a'.tmps.getD 3 undef = _; rw [inv.old 3 (notDst_spec (by kernel_rfl))]; rfl)
    · obtain rfl := Option.some.inj hi
      have hgu : a'.tmps.getD 97 undef = _ := pre_of hpre 44 97 (by kernel_rfl) (by kernel_rfl)
      have h0 : a'.tmps.getD 104 undef = _ := pre_of hpre 51 104 (by kernel_rfl) (by kernel_rfl)
      exact sa_value _ rfl (wanted_of 44 97 true rfl (by kernel_rfl) hgu) (part_run 104 _ rfl ⟨_, _, _, rfl⟩ h0) (below_alloc _ _) hB' (by decide) (by decide) (by decide) hS (fun k => twoR_quiet (nC k)) partT_new
    · obtain rfl := Option.some.inj hi
      have hgu : a'.tmps.getD 97 undef = _ := pre_of hpre 44 97 (by kernel_rfl) (by kernel_rfl)
      have h0 := pre_of hpre 50 103 (by kernel_rfl) (by kernel_rfl)
      have h1 := pre_of hpre 52 105 (by kernel_rfl) (by kernel_rfl)
      refine sa_call0 (k := 13) 13 #[a'.tmps.getD 103 undef, a'.tmps.getD 105 undef] rfl (wanted_of 44 97 true rfl (by kernel_rfl) hgu) (by kernel_rfl) rfl (by decide) hfi (fun c _ hc => by cases hc; exact been_of hfw 50 (by kernel_rfl)) hS (by decide) (by decide) (fun hR => ?_)
      obtain ⟨g, hg, hc⟩ := PartT.cell h1
      rw [hg]
      exact two_c9 HK.out (HS.out.kp ho) hR hc
    · obtain rfl := Option.some.inj hi
      have hgu : a'.tmps.getD 97 undef = _ := pre_of hpre 44 97 (by kernel_rfl) (by kernel_rfl)
      have h0 := pre_of hpre 53 106 (by kernel_rfl) (by kernel_rfl)
      exact sa_value _ rfl (wanted_of 44 97 true rfl (by kernel_rfl) hgu) (conv_run 106 _ rfl (OwnV.src h0 (HK.out.ssg))) (Below.refl _ _) hB' (by decide) (by decide) (by decide) hS (fun k => twoR_quiet (nC k)) rfl
    · obtain rfl := Option.some.inj hi
      have hgu : a'.tmps.getD 97 undef = _ := pre_of hpre 44 97 (by kernel_rfl) (by kernel_rfl)
      have h0 : a'.tmps.getD 102 undef = _ := pre_of hpre 49 102 (by kernel_rfl) (by kernel_rfl)
      have h1 : a'.tmps.getD 107 undef = _ := pre_of hpre 54 107 (by kernel_rfl) (by kernel_rfl)
      exact sa_value _ rfl (wanted_of 44 97 true rfl (by kernel_rfl) hgu) (eqlS_run 102 107 _ rfl h0 h1) (Below.refl _ _) hB' (by decide) (by decide) (by decide) hS (fun k => twoR_quiet (nC k)) rfl
    · obtain rfl := Option.some.inj hi
      have h0 : a'.tmps.getD 97 undef = _ := pre_of hpre 44 97 (by kernel_rfl) (by kernel_rfl)
      have h1 : a'.tmps.getD 108 undef = _ := pre_of hpre 55 108 (by kernel_rfl) (by kernel_rfl)
      exact sa_value _ rfl rfl (pick_run 97 108 rfl h0 h1) (Below.refl _ _) hB' (by decide) (by decide) (by decide) hS (fun k => twoR_quiet (nC k)) rfl
    · obtain rfl := Option.some.inj hi
      have h0 := pre_of hpre 56 109 (by kernel_rfl) (by kernel_rfl)
      exact sa_value _ rfl rfl rfl (Below.refl _ _) hB' (by decide) (by decide) (by decide) hS (fun k => twoR_quiet (nC k)) h0
  · intro a' w7 f inv hS hall hd
    have hv1 := hd 57 8 (by kernel_rfl)
    have ho : Kp W.heap.size w6 w7 := inv.grow
    have hdf : a'.defers = [] := inv.defers
    have hsz : a'.tmps.size = 110 := inv.size
    have e := frame110_8 hsz (fun t ht => inv.old t (dstsIn_spec (ts := [8, 53, 54, 55, 56, 57, 58, 59, 60, 61, 62, 63, 64, 65, 66, 67, 68, 69, 70, 71, 72, 73, 74, 75, 76, 77, 78, 79, 80, 81, 82, 83, 84, 85, 86, 87, 88, 89, 90, 91, 92, 93, 94, 95, 96, 97, 98, 99, 100, 101, 102, 103, 104, 105, 106, 107, 108, 109]) (by kernel_rfl) t ht))
    clear inv hd hsz hall hS
    obtain ⟨tmps, defers⟩ := a'
    obtain rfl : defers = [] := hdf
    replace e : tmps = _ := e
    replace hv1 : (tmps.getD 8 undef) = .bool true := hv1
    generalize tmps.getD 8 undef = x8 at *
    generalize tmps.getD 53 undef = x53 at *
    generalize tmps.getD 54 undef = x54 at *
    generalize tmps.getD 55 undef = x55 at *
    generalize tmps.getD 56 undef = x56 at *
    generalize tmps.getD 57 undef = x57 at *
    generalize tmps.getD 58 undef = x58 at *
    generalize tmps.getD 59 undef = x59 at *
    generalize tmps.getD 60 undef = x60 at *
    generalize tmps.getD 61 undef = x61 at *
    generalize tmps.getD 62 undef = x62 at *
    generalize tmps.getD 63 undef = x63 at *
    generalize tmps.getD 64 undef = x64 at *
    generalize tmps.getD 65 undef = x65 at *
    generalize tmps.getD 66 undef = x66 at *
    generalize tmps.getD 67 undef = x67 at *
    generalize tmps.getD 68 undef = x68 at *
    generalize tmps.getD 69 undef = x69 at *
    generalize tmps.getD 70 undef = x70 at *
    generalize tmps.getD 71 undef = x71 at *
    generalize tmps.getD 72 undef = x72 at *
    generalize tmps.getD 73 undef = x73 at *
    generalize tmps.getD 74 undef = x74 at *
    generalize tmps.getD 75 undef = x75 at *
    generalize tmps.getD 76 undef = x76 at *
    generalize tmps.getD 77 undef = x77 at *
    generalize tmps.getD 78 undef = x78 at *
    generalize tmps.getD 79 undef = x79 at *
    generalize tmps.getD 80 undef = x80 at *
    generalize tmps.getD 81 undef = x81 at *
    generalize tmps.getD 82 undef = x82 at *
    generalize tmps.getD 83 undef = x83 at *
    generalize tmps.getD 84 undef = x84 at *
    generalize tmps.getD 85 undef = x85 at *
    generalize tmps.getD 86 undef = x86 at *
    generalize tmps.getD 87 undef = x87 at *
    generalize tmps.getD 88 undef = x88 at *
    generalize tmps.getD 89 undef = x89 at *
    generalize tmps.getD 90 undef = x90 at *
    generalize tmps.getD 91 undef = x91 at *
    generalize tmps.getD 92 undef = x92 at *
    generalize tmps.getD 93 undef = x93 at *
    generalize tmps.getD 94 undef = x94 at *
    generalize tmps.getD 95 undef = x95 at *
    generalize tmps.getD 96 undef = x96 at *
    generalize tmps.getD 97 undef = x97 at *
    generalize tmps.getD 98 undef = x98 at *
    generalize tmps.getD 99 undef = x99 at *
    generalize tmps.getD 100 undef = x100 at *
    generalize tmps.getD 101 undef = x101 at *
    generalize tmps.getD 102 undef = x102 at *
    generalize tmps.getD 103 undef = x103 at *
    generalize tmps.getD 104 undef = x104 at *
    generalize tmps.getD 105 undef = x105 at *
    generalize tmps.getD 106 undef = x106 at *
    generalize tmps.getD 107 undef = x107 at *
    generalize tmps.getD 108 undef = x108 at *
    generalize tmps.getD 109 undef = x109 at *
    simp only [Array.getD_eq_getD_getElem?] at e
    subst e
    subst hv1
    have HB7 : Hid (Below w.heap.size w w7) := HW0.out.trans ((HB6.out.trans ho.low).mono HW0.out.size)
    clear ho
    go_wp2_with fail
    go_ret
    exact ⟨rfl, HB7.out⟩
end Go.Proofs.YtbblokikhocdfaaDoor.S7
