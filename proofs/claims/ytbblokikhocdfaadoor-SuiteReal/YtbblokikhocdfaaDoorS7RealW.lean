/- SuiteReal, walked. -/
import Derived.Test.YtbblokikhocdfaaDoorS7RealA
namespace Go.Proofs.YtbblokikhocdfaaDoor.S7
open Go.RowKit
set_option maxHeartbeats 10000000 in
set_option maxRecDepth 10000 in
theorem real_any (la lt lo nonce : List Nat) (a t o : Option Addr) (n ca r ct k co j : Nat) (w : World) (hA : Src w (.slice a n ca) la) (hX : Src w (.slice t r ct) lt) (hO : Src w (.slice o k co) lo) (hkl : nonce.length = 12) (hks : ∀ y ∈ nonce, y < 256)
    (hal : la.length = n) (htl : lt.length = r) (hol : lo.length = k) (hn : n ≤ 100) (hr : r ≤ 100) (hk : k ≤ 100) (h1 : 1 ≤ j) (h4 : j ≤ 4) (hT : S2.Tab w) :
    Calls Tryd.prog 4 #[.slice a n ca, .int .i64 (j : Int), .slice t r ct, .agg (arr .u8 nonce), .slice o k co] w fun e w' => e = .returned (.bool true) ∧ Below w.heap.size w w' := by
  have hW0 : Below w.heap.size w (w.alloc (.cells (arr .u8 nonce) 47)) := (Below.refl _ _).alloc (Nat.le_refl _) _
  have HA0 : Hid (Old (w.alloc (.cells (arr .u8 nonce) 47)).heap.size (w.alloc (.cells (arr .u8 nonce) 47)) (.slice a n ca) la) := Old.of (hA.below hW0)
  have HX0 : Hid (Old (w.alloc (.cells (arr .u8 nonce) 47)).heap.size (w.alloc (.cells (arr .u8 nonce) 47)) (.slice t r ct) lt) := Old.of (hX.below hW0)
  have HO0 : Hid (Old (w.alloc (.cells (arr .u8 nonce) 47)).heap.size (w.alloc (.cells (arr .u8 nonce) 47)) (.slice o k co) lo) := Old.of (hO.below hW0)
  have HN0 : Hid (Old (w.alloc (.cells (arr .u8 nonce) 47)).heap.size (w.alloc (.cells (arr .u8 nonce) 47)) (.slice (some ⟨w.heap.size, 0, none⟩) 12 12) nonce) := Old.of (arr_src 47 hks hkl)
  have HT0 : Hid (S2.Tab (w.alloc (.cells (arr .u8 nonce) 47))) := tab_below hT hW0 (tab_lt hT)
  have HW0 : Hid (Below w.heap.size w (w.alloc (.cells (arr .u8 nonce) 47))) := hW0
  have HL : Hid (la.length = n ∧ lt.length = r ∧ lo.length = k ∧ n ≤ 100 ∧ r ≤ 100 ∧ k ≤ 100 ∧ nonce.length = 12 ∧ 1 ≤ j ∧ j ≤ 4) := ⟨hal, htl, hol, hn, hr, hk, hkl, h1, h4⟩
  have n1 : ¬ (100 : Int) < (n : Int) := by omega
  have n2 : ¬ (j : Int) < 1 := by omega
  have n3 : ¬ (4 : Int) < (j : Int) := by omega
  have n4 : ¬ (100 : Int) < (r : Int) := by omega
  have n5 : ¬ (100 : Int) < (k : Int) := by omega
  have j4 : j ≤ 4 := h4
  clear hA hX hO hkl hks hal htl hol hn hr hk hT hW0 h1 h4
  go_enter Tryd.func4, Tryd.ntmps4
  go_wp2_with fail
  generalize hW : w.alloc (.cells (arr .u8 nonce) 47) = W at *
  have HZ : Hid (w.heap.size < W.heap.size) := by show _ < _; rw [← hW]; simp
  clear hW
  refine (anchor_any W).mono ?_
  rintro e w1 ⟨rfl, hb1⟩
  have HB1 : Hid (Below W.heap.size W w1) := hb1
  clear hb1
  go_wp2_with fail
  refine (Real_any _ w1 (HA0.out.keep HB1.out).1 (by have := HL.out; omega)).mono ?_
  rintro e w2 ⟨p, sv, rfl, hr2, hs2, hb2, hp2, hf2, hl2⟩
  have HR2 : Hid (RlIs w2 p sv 0) := hr2
  have HS2 : Hid (OwnV 0 la sv w2) := hs2.older (Nat.zero_le _)
  have HB2 : Hid (Below W.heap.size W w2) := HB1.out.trans (hb2.mono HB1.out.size)
  have HP : Hid (W.heap.size ≤ p ∧ Off sv [p]) := ⟨Nat.le_trans HB1.out.size hp2, hf2⟩
  have HSA : Hid (∀ y ∈ la, y < 256) := HA0.out.1.small
  clear hr2 hs2 hb2 hp2 hf2 hl2 HB1
  go_wp2_with fail
  go_loopw [12, 13, 46] (fun kv _ i wr => ∃ t : Nat, t ≤ j ∧ i = .int .i64 t ∧ Hid (RlIs wr p sv t) ∧ Hid (OwnV 0 la sv wr) ∧ Hid (Below W.heap.size W wr) ∧ Hid (1 ≤ t → OwnV 0 (S2.Mk.code la (Su.be 8 t)) kv wr)) (fun _ _ i _ => j - (intOf i).toNat)
  case atStart => exact ⟨0, by omega, rfl, HR2.out, HS2.out, HB2.out, fun h => by omega⟩
  case round =>
    clear HR2 HS2 HB2
    obtain ⟨i, hi, rfl, HR, HS, HB, HK⟩ := hrel
    by_cases hlt : i < j
    · have t1 : (i : Int) < (j : Int) := by omega
      have t0 : (0 : Int) ≤ (i : Int) := by omega
      have t4 : (i : Int) < 4 := by omega
      have HI : Hid (i < 4) := by show _ < _; omega
      go_wp2_with fail
      refine (key_kp (B := W.heap.size) (Nat.lt_of_le_of_lt (Nat.zero_le _) HZ.out) HP.out.1 HR.out HS.out HSA.out HP.out.2 (tab_below HT0.out HB.out (Nat.lt_of_le_of_lt (Nat.zero_le _) HZ.out)) (by have := HL.out; omega) (by have := HI.out; omega)).mono ?_
      rintro e w4 ⟨kv, rfl, hk4, _, hr4, ho4⟩
      have HR4 : Hid (RlIs w4 p sv (i + 1)) := hr4
      have HS4 : Hid (OwnV 0 la sv w4) := HS.out.rows hk4
      have HB4 : Hid (Below W.heap.size W w4) := HB.out.trans hk4.low
      have HK4 : Hid (OwnV 0 (S2.Mk.code la (Su.be 8 (i + 1))) kv w4) := ho4
      obtain ⟨qk, ck, rfl⟩ : ∃ q c, kv = .slice q 32 c := by have := own_slice ho4; rw [S2.Mk.code_length] at this; exact this
      obtain ⟨cd, hcd⟩ : ∃ l, l = S2.Mk.code la (Su.be 8 (i + 1)) := ⟨_, rfl⟩
      rw [← hcd] at HK4
      have HCS : Hid (∀ y ∈ cd, y < 256) := by show ∀ y ∈ cd, _; rw [hcd]; exact S2.Mk.code_small _ _
      have HCD : Hid (∀ u, Below W.heap.size W u → Calls Tryd.prog 25 #[.slice a n ca, .slice (some ⟨u.heap.size, 0, none⟩) 8 8] (u.alloc (.cells #[.int .u8 0, .int .u8 0, .int .u8 0, .int .u8 0, .int .u8 0, .int .u8 0, .int .u8 0, .int .u8 (IntKind.u8.wrap (IntKind.i64.wrap ((i : Int) + 1)))] 5)) fun e w' => ∃ v, e = .returned v ∧ OwnV 0 cd v w' ∧ Below u.heap.size u w') := fun u hb => by
        have ha : Below u.heap.size u (u.alloc (.cells #[.int .u8 0, .int .u8 0, .int .u8 0, .int .u8 0, .int .u8 0, .int .u8 0, .int .u8 0, .int .u8 (IntKind.u8.wrap (IntKind.i64.wrap ((i : Int) + 1)))] 5)) := below_alloc _ _
        have hz : Src (u.alloc (.cells #[.int .u8 0, .int .u8 0, .int .u8 0, .int .u8 0, .int .u8 0, .int .u8 0, .int .u8 0, .int .u8 (IntKind.u8.wrap (IntKind.i64.wrap ((i : Int) + 1)))] 5)) (.slice (some ⟨u.heap.size, 0, none⟩) 8 8) (Su.be 8 (i + 1)) := by
          have hbe := be_small (t := i + 1) (by have := HI.out; omega)
          have := arr_src (w := u) (l := Su.be 8 (i + 1)) 5 (Su.be_lt 8 _) (Su.be_length _ _)
          have hwr : IntKind.u8.wrap (IntKind.i64.wrap ((i : Int) + 1)) = ((i + 1 : Nat) : Int) := by
            obtain hi4 := HI.out
            obtain rfl | rfl | rfl | rfl : i = 0 ∨ i = 1 ∨ i = 2 ∨ i = 3 := by omega
            all_goals decide
          rw [hwr]
          rw [hbe] at this ⊢
          exact this
        have hb' := hb.trans (ha.mono hb.size)
        refine (S2.rcode_any la (Su.be 8 (i + 1)) a n ca _ _ (HA0.out.keep hb').1.bytesAt (by have := HL.out; omega) hz.srcIs (Su.be_lt 8 _) (by rw [Su.be_length]; decide)).mono ?_
        rintro e w' ⟨v, rfl, h1, h2⟩
        refine ⟨v, rfl, ?_, ha.trans (h2.mono ha.size)⟩
        rw [hcd]
        unfold OwnV
        rw [S2.Mk.code_length]
        exact own_older h1 (Nat.zero_le _)
      have hc1 : (convert 32 9 (.slice qk 32 ck)).run Tryd.prog w4.drew = .ok (.string (strB cd)) w4.drew := conv_src ((HK4.out.src HCS.out).below (below_drewN 1 _ _))
      have hc2 : (convert 32 9 (.slice qk 32 ck)).run Tryd.prog (w4.alloc (.cells #[.int .u8 0, .int .u8 0, .int .u8 0, .int .u8 0, .int .u8 0, .int .u8 0, .int .u8 0, .int .u8 (IntKind.u8.wrap (IntKind.i64.wrap ((i : Int) + 1)))] 5)).drew = .ok (.string (strB cd)) (w4.alloc (.cells #[.int .u8 0, .int .u8 0, .int .u8 0, .int .u8 0, .int .u8 0, .int .u8 0, .int .u8 0, .int .u8 (IntKind.u8.wrap (IntKind.i64.wrap ((i : Int) + 1)))] 5)).drew := conv_src ((HK4.out.src HCS.out).below ((below_alloc w4 (.cells #[.int .u8 0, .int .u8 0, .int .u8 0, .int .u8 0, .int .u8 0, .int .u8 0, .int .u8 0, .int .u8 (IntKind.u8.wrap (IntKind.i64.wrap ((i : Int) + 1)))] 5)).trans (below_drewN 1 _ _)))
      have hbe : ((strB cd).toList == (strB cd).toList) = true := beq_self_eq_true _
      have HE : Hid (cd = S2.Mk.code la (Su.be 8 (i + 1))) := hcd
      clear hk4 hr4 ho4 HR HS HB HK hcd
      go_wp2_with fail
      go_region_with ((first
        | (go_at_call 25; refine (HCD.out w4.drew (HB4.out.trans (below_drewN 1 _ _))).mono ?_; rintro e w5 ⟨v5, rfl, ho5, hb5⟩; have hc3 := conv_src ((HK4.out.src HCS.out).below ((below_drewN 1 w4 _).trans hb5)); have hc4 := conv_src (ho5.src HCS.out); have HB5 : Hid (Below w4.heap.size w4 w5) := (below_drewN 1 w4 _).trans hb5; clear ho5 hb5)))
      all_goals
        go_wp2_with fail
        go_roundw
        case rel =>
          have h5 : RlIs w5 p sv (i + 1) ∧ OwnV 0 la sv w5 ∧ Below W.heap.size W w5 ∧ (1 ≤ i + 1 → OwnV 0 (S2.Mk.code la (Su.be 8 (i + 1))) (.slice qk 32 ck) w5) :=
            ⟨HR4.out.below HB5.out, HS4.out.rows (Kp.of_below HB5.out (Nat.zero_le _)), HB4.out.trans (HB5.out.mono HB4.out.size), fun _ => by rw [← HE.out]; exact HK4.out.rows (Kp.of_below HB5.out (Nat.zero_le _))⟩
          first
            | exact ⟨i + 1, by omega, by go_num, h5.1, h5.2.1, h5.2.2.1, h5.2.2.2⟩
            | ((repeat apply Exists.intro)
               refine ⟨⟨i + 1, by omega, ?_, h5.1, h5.2.1, h5.2.2.1, h5.2.2.2⟩, rfl⟩
               go_num)
        case measure => simp [intOf]; omega
    · obtain rfl : i = j := by omega
      have hKK := HK.out (by have := HL.out; omega)
      obtain ⟨kl, hkl⟩ : ∃ l, l = S2.Mk.code la (Su.be 8 i) := ⟨_, rfl⟩
      rw [← hkl] at hKK
      have HKL : Hid (kl.length = 32 ∧ ∀ y ∈ kl, y < 256) := by rw [hkl]; exact ⟨S2.Mk.code_length _ _, S2.Mk.code_small _ _⟩
      have HKV : Hid (OwnV 0 kl u12 wr) := hKK
      obtain ⟨qk, ck, rfl⟩ : ∃ q c, u12 = .slice q 32 c := by have := own_slice hKK; rw [HKL.out.1] at this; exact this
      clear hKK hkl HK
      go_wp2_with fail
      refine (Seal_real kl nonce lo lt _ _ _ _ p i sv wr HR.out (HKV.out.src HKL.out.2) (HN0.out.keep HB.out).1 (HO0.out.keep HB.out).1 (HX0.out.keep HB.out).1 HKL.out.1 HL.out.2.2.2.2.2.2.1 (by have := HL.out; omega) (by have := HL.out; omega)).mono ?_
      rintro e w5 ⟨bv, rfl, ho5, hb5⟩
      obtain ⟨bx, hbx⟩ : ∃ l, l = A5.Ae.box kl nonce lo lt := ⟨_, rfl⟩
      rw [← hbx] at ho5
      have HBXL : Hid (bx.length = lt.length + 16 ∧ (∀ y ∈ bx, y < 256) ∧ A5.Ae.opens kl nonce lo bx = some lt) := by rw [hbx]; exact ⟨A5.Ae.box_length _ _ _ _, A5.Ae.box_lt HX0.out.1.small, A5.Ae.opens_box _ _ _ _⟩
      have HBX : Hid (bx = A5.Ae.box kl nonce lo lt) := hbx
      have HR5 : Hid (RlIs w5 p sv i) := HR.out.below hb5
      have HK5 : Hid (OwnV 0 kl (.slice qk 32 ck) w5) := HKV.out.rows (Kp.of_below hb5 (Nat.zero_le _))
      have HB5 : Hid (Below W.heap.size W w5) := HB.out.trans (hb5.mono HB.out.size)
      have HV5 : Hid (OwnV 0 bx bv w5) := by show OwnV 0 bx bv w5; unfold OwnV; rw [HBXL.out.1]; exact own_older ho5 (Nat.zero_le _)
      clear ho5 hb5 hbx HR HKV HB HS
      go_wp2_with fail
      refine (Open_real kl nonce lo bx _ _ _ _ p i sv w5 HR5.out (HK5.out.src HKL.out.2) (HN0.out.keep HB5.out).1 (HO0.out.keep HB5.out).1 (HV5.out.src HBXL.out.2.1) HKL.out.1 HL.out.2.2.2.2.2.2.1 (by have := HL.out; omega) (by have := HL.out; have := HBXL.out.1; omega) lt HBXL.out.2.2).mono ?_
      rintro e w6 ⟨xv, rfl, ho6, hb6⟩
      have HR6 : Hid (RlIs w6 p sv i) := HR5.out.below hb6
      have HK6 : Hid (OwnV 0 kl (.slice qk 32 ck) w6) := HK5.out.rows (Kp.of_below hb6 (Nat.zero_le _))
      have HB6 : Hid (Below W.heap.size W w6) := HB5.out.trans (hb6.mono HB5.out.size)
      have HV6 : Hid (OwnV 0 bx bv w6) := HV5.out.rows (Kp.of_below hb6 (Nat.zero_le _))
      have HX6 : Hid (OwnV 0 lt xv w6) := own_older ho6 (Nat.zero_le _)
      clear ho6 hb6 HR5 HK5 HB5 HV5
      obtain ⟨bk, ok, ck', ek, hck, _⟩ := (HK6.out.src HKL.out.2).full HKL.out.1 (by omega)
      obtain ⟨rfl, rfl⟩ : qk = some ⟨bk, ok, none⟩ ∧ ck = ck' := by cases ek; exact ⟨rfl, rfl⟩
      clear ek
      have HBAD : Hid (∀ q q' c b d ov tv, Calls Tryd.prog 21 #[.pointer (some ⟨p, 0, none⟩), .slice q 31 c, .slice q' b d, ov, tv] w6.drew fun e w' => e = .returned (.tuple #[.slice none 0 0, .int .i64 11]) ∧ w' = w6.drew) := fun q q' c b d ov tv => Open_real_bad q q' 31 c b d ov tv p i sv w6.drew (show RlIs w6.drew p sv i from HR6.out) (.inl (by decide))
      have c1 : (1 : Int) ≤ (ck : Int) := by omega
      have c2 : (32 : Int) ≤ (ck : Int) := by omega
      go_wp2_with fail
      go_region_with ((first
        | (go_at_call 21; refine (HBAD.out _ _ _ _ _ _ _).mono ?_; rintro e w7 ⟨rfl, rfl⟩)))
      have hbx := HBX.out
      subst hbx
      have HS : Hid (∀ u, Below w6.heap.size w6.drew u → RlS p i sv (.slice t r ct) (.slice o k co) (.slice (some ⟨bk, ok, none⟩) 32 ck) (.slice (some ⟨w.heap.size, 0, none⟩) 12 12) bv xv lt lo kl nonce (A5.Ae.box kl nonce lo lt) u) := fun u hu => by
        have hb6 : Below w6.heap.size w6 u := (below_drewN 1 _ _).trans hu
        have hWu : Below W.heap.size W u := HB6.out.trans (hb6.mono HB6.out.size)
        exact ⟨HR6.out.below hb6, tab_below HT0.out hWu (Nat.lt_of_le_of_lt (Nat.zero_le _) HZ.out), (HX0.out.keep hWu).1, (HO0.out.keep hWu).1, (HK6.out.src HKL.out.2).below hb6, (HN0.out.keep hWu).1, (HV6.out.src HBXL.out.2.1).below hb6, (HX6.out.src HX0.out.1.small).below hb6⟩
      have HK : Hid (RlK lt lo kl nonce (S2.Sp.sum (lt ++ lo)) (S2.Mk.code kl lt) (A5.Ae.box kl nonce lo lt)) := by
        obtain ⟨_, a2, a3, _, a5, a6, a7, _, _⟩ := HL.out
        have b1 := HKL.out.1
        exact ⟨by omega, by rw [List.length_append]; omega, by omega, by omega, by omega, b1, a7, by omega, by omega, S2.Mk.sum_small _, S2.Mk.code_small _ _, HBXL.out.2.1, HX0.out.1.small⟩
      clear HBAD c1 c2 hck HBX HBXL HKL HR6 HK6 HV6 HX6 HA0 HX0 HO0 HN0 HT0
      go_wp2_with fail
      refine wp_region_sb (rl17 p i (.slice t r ct) (.slice o k co) (.slice (some ⟨bk, ok, none⟩) 32 ck) (.slice (some ⟨w.heap.size, 0, none⟩) 12 12) bv xv lt lo (S2.Sp.sum (lt ++ lo)) (S2.Mk.code kl lt) (A5.Ae.box kl nonce lo lt)) (Below w6.heap.size) (SeqA [1, 4, 9, 13, 15, 16, 20, 25, 29, 33, 37, 44] (rlR w6.heap.size lt) 99 103) (by kernel_rfl) (below_drewN 1 _ _) (fun _ _ _ h k => h.trans k) (by kernel_rfl) (SeqS.start (fun h => absurd h (by decide))) ?_ ?_
      · intro i o' a' w' f hi inv hS hfi hfw hpre
        have ho : Below w6.heap.size w6.drew w' := inv.grow
        have hB' : w6.heap.size ≤ w'.heap.size := Nat.le_trans (Nat.le_refl _) ho.size
        have hlt : i < 64 := (Array.getElem?_eq_some_iff.1 hi).1
        obtain rfl|rfl|rfl|rfl|rfl|rfl|rfl|rfl|rfl|rfl|rfl|rfl|rfl|rfl|rfl|rfl|rfl|rfl|rfl|rfl|rfl|rfl|rfl|rfl|rfl|rfl|rfl|rfl|rfl|rfl|rfl|rfl|rfl|rfl|rfl|rfl|rfl|rfl|rfl|rfl|rfl|rfl|rfl|rfl|rfl|rfl|rfl|rfl|rfl|rfl|rfl|rfl|rfl|rfl|rfl|rfl|rfl|rfl|rfl|rfl|rfl|rfl|rfl|rfl : i = 0 ∨ i = 1 ∨ i = 2 ∨ i = 3 ∨ i = 4 ∨ i = 5 ∨ i = 6 ∨ i = 7 ∨ i = 8 ∨ i = 9 ∨ i = 10 ∨ i = 11 ∨ i = 12 ∨ i = 13 ∨ i = 14 ∨ i = 15 ∨ i = 16 ∨ i = 17 ∨ i = 18 ∨ i = 19 ∨ i = 20 ∨ i = 21 ∨ i = 22 ∨ i = 23 ∨ i = 24 ∨ i = 25 ∨ i = 26 ∨ i = 27 ∨ i = 28 ∨ i = 29 ∨ i = 30 ∨ i = 31 ∨ i = 32 ∨ i = 33 ∨ i = 34 ∨ i = 35 ∨ i = 36 ∨ i = 37 ∨ i = 38 ∨ i = 39 ∨ i = 40 ∨ i = 41 ∨ i = 42 ∨ i = 43 ∨ i = 44 ∨ i = 45 ∨ i = 46 ∨ i = 47 ∨ i = 48 ∨ i = 49 ∨ i = 50 ∨ i = 51 ∨ i = 52 ∨ i = 53 ∨ i = 54 ∨ i = 55 ∨ i = 56 ∨ i = 57 ∨ i = 58 ∨ i = 59 ∨ i = 60 ∨ i = 61 ∨ i = 62 ∨ i = 63 := by omega
        · obtain rfl := Option.some.inj hi
          exact sb_value _ rfl rfl rfl (Below.refl _ _) hB' (by decide) (by decide) (by decide) hS rlR_quiet (rl17_kept _ _ _ _ _ _ _ _ _ _ _ _ _) (by show a'.tmps.getD 11 undef = _; rw [inv.old 11 (notDst_spec (by kernel_rfl))]; rfl)
        · obtain rfl := Option.some.inj hi
          have h0 : a'.tmps.getD 90 undef = _ := pre_of hpre 0 90 (by kernel_rfl) (by kernel_rfl)
          refine sb_call (k := 0) 23 #[a'.tmps.getD 90 undef] rfl rfl (by kernel_rfl) hB' rfl (by decide) hfi (fun c h _ => absurd rfl h) hS (fun _ _ _ h => absurd h (by decide)) (rl17_kept _ _ _ _ _ _ _ _ _ _ _ _ _) ?_
          rw [h0]
          exact count_src (HS.out w' ho).rl
        · obtain rfl := Option.some.inj hi
          exact sb_value _ rfl rfl rfl (Below.refl _ _) hB' (by decide) (by decide) (by decide) hS rlR_quiet (rl17_kept _ _ _ _ _ _ _ _ _ _ _ _ _) (by show a'.tmps.getD 1 undef = _; rw [inv.old 1 (notDst_spec (by kernel_rfl))]; rfl)
        · obtain rfl := Option.some.inj hi
          have h0 : a'.tmps.getD 91 undef = _ := pre_of hpre 1 91 (by kernel_rfl) (by kernel_rfl)
          have h1 : a'.tmps.getD 92 undef = _ := pre_of hpre 2 92 (by kernel_rfl) (by kernel_rfl)
          exact sb_value _ rfl rfl (eqlNN_run 91 92 _ rfl h0 h1) (Below.refl _ _) hB' (by decide) (by decide) (by decide) hS rlR_quiet (rl17_kept _ _ _ _ _ _ _ _ _ _ _ _ _) rfl
        · obtain rfl := Option.some.inj hi
          have h0 := pre_of hpre 3 93 (by kernel_rfl) (by kernel_rfl)
          exact sb_event (k := 1) _ rfl rfl rfl (Below.refl _ _) (by kernel_rfl) (by decide) hfi (fun c _ hc => by cases hc; exact been_of hfw 1 (by kernel_rfl)) hS (fun _ _ _ h => absurd h (by decide)) (fun _ _ _ _ _ _ h => h) h0
        · obtain rfl := Option.some.inj hi
          have hgu : a'.tmps.getD 94 undef = _ := pre_of hpre 4 94 (by kernel_rfl) (by kernel_rfl)
          exact sb_value _ rfl (wanted_of 4 94 true rfl (by kernel_rfl) hgu) rfl (Below.refl _ _) hB' (by decide) (by decide) (by decide) hS rlR_quiet (rl17_kept _ _ _ _ _ _ _ _ _ _ _ _ _) (by show a'.tmps.getD 11 undef = _; rw [inv.old 11 (notDst_spec (by kernel_rfl))]; rfl)
        · obtain rfl := Option.some.inj hi
          have hgu : a'.tmps.getD 94 undef = _ := pre_of hpre 4 94 (by kernel_rfl) (by kernel_rfl)
          exact sb_value _ rfl (wanted_of 4 94 true rfl (by kernel_rfl) hgu) rfl (Below.refl _ _) hB' (by decide) (by decide) (by decide) hS rlR_quiet (rl17_kept _ _ _ _ _ _ _ _ _ _ _ _ _) (by show a'.tmps.getD 2 undef = _; rw [inv.old 2 (notDst_spec (by kernel_rfl))]; rfl)
        · obtain rfl := Option.some.inj hi
          have hgu : a'.tmps.getD 94 undef = _ := pre_of hpre 4 94 (by kernel_rfl) (by kernel_rfl)
          exact sb_value _ rfl (wanted_of 4 94 true rfl (by kernel_rfl) hgu) rfl (Below.refl _ _) hB' (by decide) (by decide) (by decide) hS rlR_quiet (rl17_kept _ _ _ _ _ _ _ _ _ _ _ _ _) (by show a'.tmps.getD 4 undef = _; rw [inv.old 4 (notDst_spec (by kernel_rfl))]; rfl)
        · obtain rfl := Option.some.inj hi
          have hgu : a'.tmps.getD 94 undef = _ := pre_of hpre 4 94 (by kernel_rfl) (by kernel_rfl)
          have h0 : a'.tmps.getD 96 undef = _ := pre_of hpre 6 96 (by kernel_rfl) (by kernel_rfl)
          have h1 : a'.tmps.getD 97 undef = _ := pre_of hpre 7 97 (by kernel_rfl) (by kernel_rfl)
          exact sb_value _ rfl (wanted_of 4 94 true rfl (by kernel_rfl) hgu) (part2_run 96 97 _ _ rfl ⟨_, _, _, rfl⟩ ⟨_, _, _, rfl⟩ h0 h1) (below_alloc _ _) hB' (by decide) (by decide) (by decide) hS rlR_quiet (rl17_kept _ _ _ _ _ _ _ _ _ _ _ _ _) ⟨_, rfl, heap_alloc_new _ _⟩
        · obtain rfl := Option.some.inj hi
          have hgu : a'.tmps.getD 94 undef = _ := pre_of hpre 4 94 (by kernel_rfl) (by kernel_rfl)
          have h0 : a'.tmps.getD 95 undef = _ := pre_of hpre 5 95 (by kernel_rfl) (by kernel_rfl)
          have h1 := pre_of hpre 8 98 (by kernel_rfl) (by kernel_rfl)
          refine sb_call (k := 2) 13 #[a'.tmps.getD 95 undef, a'.tmps.getD 98 undef] rfl (wanted_of 4 94 true rfl (by kernel_rfl) hgu) (by kernel_rfl) hB' rfl (by decide) hfi (fun c _ hc => by cases hc; exact been_of hfw 4 (by kernel_rfl)) hS (fun _ _ _ h => absurd h (by decide)) (rl17_kept _ _ _ _ _ _ _ _ _ _ _ _ _) ?_
          rw [h0]
          exact sum2_src (HS.out w' ho).rl h1 (HS.out w' ho).t (HS.out w' ho).o (HS.out w' ho).tab HK.out.len2
        · obtain rfl := Option.some.inj hi
          have hgu : a'.tmps.getD 94 undef = _ := pre_of hpre 4 94 (by kernel_rfl) (by kernel_rfl)
          have h0 := pre_of hpre 9 99 (by kernel_rfl) (by kernel_rfl)
          exact sb_value _ rfl (wanted_of 4 94 true rfl (by kernel_rfl) hgu) (conv_run 99 _ rfl (OwnV.src h0 HK.out.ssm)) (Below.refl _ _) hB' (by decide) (by decide) (by decide) hS rlR_quiet (rl17_kept _ _ _ _ _ _ _ _ _ _ _ _ _) rfl
        · obtain rfl := Option.some.inj hi
          have hgu : a'.tmps.getD 94 undef = _ := pre_of hpre 4 94 (by kernel_rfl) (by kernel_rfl)
          exact sb_value _ rfl (wanted_of 4 94 true rfl (by kernel_rfl) hgu) (none_run rfl) (below_alloc _ _) hB' (by decide) (by decide) (by decide) hS rlR_quiet (rl17_kept _ _ _ _ _ _ _ _ _ _ _ _ _) ⟨_, rfl⟩
        · obtain rfl := Option.some.inj hi
          have hgu : a'.tmps.getD 94 undef = _ := pre_of hpre 4 94 (by kernel_rfl) (by kernel_rfl)
          exact sb_value _ rfl (wanted_of 4 94 true rfl (by kernel_rfl) hgu) rfl (Below.refl _ _) hB' (by decide) (by decide) (by decide) hS rlR_quiet (rl17_kept _ _ _ _ _ _ _ _ _ _ _ _ _) (by show a'.tmps.getD 2 undef = _; rw [inv.old 2 (notDst_spec (by kernel_rfl))]; rfl)
        · obtain rfl := Option.some.inj hi
          have hgu : a'.tmps.getD 94 undef = _ := pre_of hpre 4 94 (by kernel_rfl) (by kernel_rfl)
          have h0 := pre_of hpre 11 101 (by kernel_rfl) (by kernel_rfl)
          have h1 : a'.tmps.getD 102 undef = _ := pre_of hpre 12 102 (by kernel_rfl) (by kernel_rfl)
          have h2 := pre_of hpre 9 99 (by kernel_rfl) (by kernel_rfl)
          obtain ⟨g, hg⟩ := h0
          obtain ⟨v, w2, hr, hb, hc⟩ := app_zero w' g _ lt (HS.out w' ho).t HK.out.lent
          refine sb_event2 (k := 3) v rfl (wanted_of 4 94 true rfl (by kernel_rfl) hgu) (app_run 101 102 _ _ v rfl rfl hg h1 hr) hb hB' (by kernel_rfl) (by decide) hfi (fun c _ hc => by cases hc; exact been_of hfw 9 (by kernel_rfl)) hS rfl (by rw [show a'.tmps.size = 153 from inv.size]; decide) (by decide) (fun _ => ?_) (rl17_kept _ _ _ _ _ _ _ _ _ _ _ _ _) trivial
          rcases hc with ⟨h3, rfl⟩ | ⟨_, h3⟩
          · exact .inl ⟨h3, g, rfl⟩
          · refine .inr ⟨h3.older hB', fun b hb' e => ?_⟩
            have a1 := (World.ownsRow.lt h2 b e).2
            have a2 := (World.ownsRow.lt h3 b hb').1
            omega
        · obtain rfl := Option.some.inj hi
          have hgu : a'.tmps.getD 94 undef = _ := pre_of hpre 4 94 (by kernel_rfl) (by kernel_rfl)
          exact sb_value _ rfl (wanted_of 4 94 true rfl (by kernel_rfl) hgu) rfl (Below.refl _ _) hB' (by decide) (by decide) (by decide) hS rlR_quiet (rl17_kept _ _ _ _ _ _ _ _ _ _ _ _ _) (by show a'.tmps.getD 4 undef = _; rw [inv.old 4 (notDst_spec (by kernel_rfl))]; rfl)
        · obtain rfl := Option.some.inj hi
          have hgu : a'.tmps.getD 94 undef = _ := pre_of hpre 4 94 (by kernel_rfl) (by kernel_rfl)
          have h1 : a'.tmps.getD 104 undef = _ := pre_of hpre 14 104 (by kernel_rfl) (by kernel_rfl)
          obtain ⟨hR, _⟩ := SeqS.at (k := 4) hS (by kernel_rfl) hfi (fun c _ hc => by cases hc; exact been_of hfw 13 (by kernel_rfl))
          obtain ⟨v, w2, hr, hb, hsrc, hx, hp⟩ := app_second hR (HS.out w' ho).o HK.out.slt HK.out.len2 hB'
          refine sb_event (k := 4) v rfl (wanted_of 4 94 true rfl (by kernel_rfl) hgu) (app_run 103 104 _ _ v rfl rfl rfl h1 hr) hb (by kernel_rfl) (by decide) hfi (fun c _ hc => by cases hc; exact been_of hfw 13 (by kernel_rfl)) hS (fun _ _ _ h => absurd h (by decide)) (fun hseq _ j d hfj hd hV => ?_) hsrc
          by_cases hj : j ∈ [8, 9, 15, 16, 24, 25, 29, 44]
          · have no : ∀ m c, [1, 4, 9, 13, 15, 16, 20, 25, 29, 33, 37, 44][m]? = some c → 4 ≤ m → f c = true → False := fun m c hm h4 ht => by have := (hseq m c hm).1 ht; omega
            simp only [List.mem_cons, List.not_mem_nil, or_false] at hj
            obtain rfl|rfl|rfl|rfl|rfl|rfl|rfl|rfl := hj
            · obtain ⟨g, e, hg⟩ := hV
              exact ⟨g, e, hp g _ hg⟩
            · obtain rfl : 99 = d := Option.some.inj (show some 99 = some d from hd)
              exact hx _ hV
            · exact (no 4 15 rfl (by decide) hfj).elim
            · exact (no 5 16 rfl (by decide) hfj).elim
            · obtain ⟨g, e, hg⟩ := hV
              exact ⟨g, e, hp g _ hg⟩
            · exact (no 7 25 rfl (by decide) hfj).elim
            · exact (no 8 29 rfl (by decide) hfj).elim
            · exact (no 11 44 rfl (by decide) hfj).elim
          · exact rl17_free _ _ _ _ _ _ _ _ _ _ _ _ _ _ _ _ j hj hV
        · obtain rfl := Option.some.inj hi
          have hgu : a'.tmps.getD 94 undef = _ := pre_of hpre 4 94 (by kernel_rfl) (by kernel_rfl)
          have h0 := pre_of hpre 15 105 (by kernel_rfl) (by kernel_rfl)
          refine sb_call (k := 5) 26 #[a'.tmps.getD 105 undef] rfl (wanted_of 4 94 true rfl (by kernel_rfl) hgu) (by kernel_rfl) hB' rfl (by decide) hfi (fun c _ hc => by cases hc; exact been_of hfw 15 (by kernel_rfl)) hS (fun _ _ _ h => absurd h (by decide)) (rl17_kept _ _ _ _ _ _ _ _ _ _ _ _ _) ?_
          exact rsum_src h0 HK.out.len3
        · obtain rfl := Option.some.inj hi
          have hgu : a'.tmps.getD 94 undef = _ := pre_of hpre 4 94 (by kernel_rfl) (by kernel_rfl)
          have h0 := pre_of hpre 16 106 (by kernel_rfl) (by kernel_rfl)
          exact sb_value _ rfl (wanted_of 4 94 true rfl (by kernel_rfl) hgu) (conv_run 106 _ rfl (OwnV.src h0 HK.out.ssm)) (Below.refl _ _) hB' (by decide) (by decide) (by decide) hS rlR_quiet (rl17_kept _ _ _ _ _ _ _ _ _ _ _ _ _) rfl
        · obtain rfl := Option.some.inj hi
          have hgu : a'.tmps.getD 94 undef = _ := pre_of hpre 4 94 (by kernel_rfl) (by kernel_rfl)
          have h0 : a'.tmps.getD 100 undef = _ := pre_of hpre 10 100 (by kernel_rfl) (by kernel_rfl)
          have h1 : a'.tmps.getD 107 undef = _ := pre_of hpre 17 107 (by kernel_rfl) (by kernel_rfl)
          exact sb_value _ rfl (wanted_of 4 94 true rfl (by kernel_rfl) hgu) (eqlS_run 100 107 _ rfl h0 h1) (Below.refl _ _) hB' (by decide) (by decide) (by decide) hS rlR_quiet (rl17_kept _ _ _ _ _ _ _ _ _ _ _ _ _) rfl
        · obtain rfl := Option.some.inj hi
          have h0 : a'.tmps.getD 94 undef = _ := pre_of hpre 4 94 (by kernel_rfl) (by kernel_rfl)
          have h1 : a'.tmps.getD 108 undef = _ := pre_of hpre 18 108 (by kernel_rfl) (by kernel_rfl)
          exact sb_value _ rfl rfl (pick_run 94 108 rfl h0 h1) (Below.refl _ _) hB' (by decide) (by decide) (by decide) hS rlR_quiet (rl17_kept _ _ _ _ _ _ _ _ _ _ _ _ _) rfl
        · obtain rfl := Option.some.inj hi
          have h0 := pre_of hpre 19 109 (by kernel_rfl) (by kernel_rfl)
          exact sb_event (k := 6) _ rfl rfl rfl (Below.refl _ _) (by kernel_rfl) (by decide) hfi (fun c _ hc => by cases hc; exact been_of hfw 16 (by kernel_rfl)) hS (fun _ _ _ h => absurd h (by decide)) (fun _ _ _ _ _ _ h => h) h0
        · obtain rfl := Option.some.inj hi
          have hgu : a'.tmps.getD 110 undef = _ := pre_of hpre 20 110 (by kernel_rfl) (by kernel_rfl)
          exact sb_value _ rfl (wanted_of 20 110 true rfl (by kernel_rfl) hgu) rfl (Below.refl _ _) hB' (by decide) (by decide) (by decide) hS rlR_quiet (rl17_kept _ _ _ _ _ _ _ _ _ _ _ _ _) (by show a'.tmps.getD 11 undef = _; rw [inv.old 11 (notDst_spec (by kernel_rfl))]; rfl)
        · obtain rfl := Option.some.inj hi
          have hgu : a'.tmps.getD 110 undef = _ := pre_of hpre 20 110 (by kernel_rfl) (by kernel_rfl)
          exact sb_value _ rfl (wanted_of 20 110 true rfl (by kernel_rfl) hgu) rfl (Below.refl _ _) hB' (by decide) (by decide) (by decide) hS rlR_quiet (rl17_kept _ _ _ _ _ _ _ _ _ _ _ _ _) (by show a'.tmps.getD 12 undef = _; rw [inv.old 12 (notDst_spec (by kernel_rfl))]; rfl)
        · obtain rfl := Option.some.inj hi
          have hgu : a'.tmps.getD 110 undef = _ := pre_of hpre 20 110 (by kernel_rfl) (by kernel_rfl)
          exact sb_value _ rfl (wanted_of 20 110 true rfl (by kernel_rfl) hgu) rfl (Below.refl _ _) hB' (by decide) (by decide) (by decide) hS rlR_quiet (rl17_kept _ _ _ _ _ _ _ _ _ _ _ _ _) (by show a'.tmps.getD 2 undef = _; rw [inv.old 2 (notDst_spec (by kernel_rfl))]; rfl)
        · obtain rfl := Option.some.inj hi
          have hgu : a'.tmps.getD 110 undef = _ := pre_of hpre 20 110 (by kernel_rfl) (by kernel_rfl)
          have h0 : a'.tmps.getD 113 undef = _ := pre_of hpre 23 113 (by kernel_rfl) (by kernel_rfl)
          exact sb_value _ rfl (wanted_of 20 110 true rfl (by kernel_rfl) hgu) (part_run 113 _ rfl ⟨_, _, _, rfl⟩ h0) (below_alloc _ _) hB' (by decide) (by decide) (by decide) hS rlR_quiet (rl17_kept _ _ _ _ _ _ _ _ _ _ _ _ _) partT_new
        · obtain rfl := Option.some.inj hi
          have hgu : a'.tmps.getD 110 undef = _ := pre_of hpre 20 110 (by kernel_rfl) (by kernel_rfl)
          have h0 : a'.tmps.getD 111 undef = _ := pre_of hpre 21 111 (by kernel_rfl) (by kernel_rfl)
          have h1 : a'.tmps.getD 112 undef = _ := pre_of hpre 22 112 (by kernel_rfl) (by kernel_rfl)
          have h2 := pre_of hpre 24 114 (by kernel_rfl) (by kernel_rfl)
          refine sb_call (k := 7) 15 #[a'.tmps.getD 111 undef, a'.tmps.getD 112 undef, a'.tmps.getD 114 undef] rfl (wanted_of 20 110 true rfl (by kernel_rfl) hgu) (by kernel_rfl) hB' rfl (by decide) hfi (fun c _ hc => by cases hc; exact been_of hfw 20 (by kernel_rfl)) hS (fun _ _ _ h => absurd h (by decide)) (rl17_kept _ _ _ _ _ _ _ _ _ _ _ _ _) ?_
          rw [h0, h1]
          exact code_src (HS.out w' ho).rl h2 (HS.out w' ho).k (HS.out w' ho).t (HS.out w' ho).tab HK.out.lenk HK.out.lent
        · obtain rfl := Option.some.inj hi
          have hgu : a'.tmps.getD 110 undef = _ := pre_of hpre 20 110 (by kernel_rfl) (by kernel_rfl)
          have h0 := pre_of hpre 25 115 (by kernel_rfl) (by kernel_rfl)
          exact sb_value _ rfl (wanted_of 20 110 true rfl (by kernel_rfl) hgu) (conv_run 115 _ rfl (OwnV.src h0 HK.out.scd)) (Below.refl _ _) hB' (by decide) (by decide) (by decide) hS rlR_quiet (rl17_kept _ _ _ _ _ _ _ _ _ _ _ _ _) rfl
        · obtain rfl := Option.some.inj hi
          have hgu : a'.tmps.getD 110 undef = _ := pre_of hpre 20 110 (by kernel_rfl) (by kernel_rfl)
          exact sb_value _ rfl (wanted_of 20 110 true rfl (by kernel_rfl) hgu) rfl (Below.refl _ _) hB' (by decide) (by decide) (by decide) hS rlR_quiet (rl17_kept _ _ _ _ _ _ _ _ _ _ _ _ _) (by show a'.tmps.getD 12 undef = _; rw [inv.old 12 (notDst_spec (by kernel_rfl))]; rfl)
        · obtain rfl := Option.some.inj hi
          have hgu : a'.tmps.getD 110 undef = _ := pre_of hpre 20 110 (by kernel_rfl) (by kernel_rfl)
          exact sb_value _ rfl (wanted_of 20 110 true rfl (by kernel_rfl) hgu) rfl (Below.refl _ _) hB' (by decide) (by decide) (by decide) hS rlR_quiet (rl17_kept _ _ _ _ _ _ _ _ _ _ _ _ _) (by show a'.tmps.getD 2 undef = _; rw [inv.old 2 (notDst_spec (by kernel_rfl))]; rfl)
        · obtain rfl := Option.some.inj hi
          have hgu : a'.tmps.getD 110 undef = _ := pre_of hpre 20 110 (by kernel_rfl) (by kernel_rfl)
          have h0 : a'.tmps.getD 117 undef = _ := pre_of hpre 27 117 (by kernel_rfl) (by kernel_rfl)
          have h1 : a'.tmps.getD 118 undef = _ := pre_of hpre 28 118 (by kernel_rfl) (by kernel_rfl)
          refine sb_call (k := 8) 25 #[a'.tmps.getD 117 undef, a'.tmps.getD 118 undef] rfl (wanted_of 20 110 true rfl (by kernel_rfl) hgu) (by kernel_rfl) hB' rfl (by decide) hfi (fun c _ hc => by cases hc; exact been_of hfw 25 (by kernel_rfl)) hS (fun _ _ _ h => absurd h (by decide)) (rl17_kept _ _ _ _ _ _ _ _ _ _ _ _ _) ?_
          rw [h0, h1]
          exact rcode_src (HS.out w' ho).k (HS.out w' ho).t HK.out.lenk HK.out.lent9
        · obtain rfl := Option.some.inj hi
          have hgu : a'.tmps.getD 110 undef = _ := pre_of hpre 20 110 (by kernel_rfl) (by kernel_rfl)
          have h0 := pre_of hpre 29 119 (by kernel_rfl) (by kernel_rfl)
          exact sb_value _ rfl (wanted_of 20 110 true rfl (by kernel_rfl) hgu) (conv_run 119 _ rfl (OwnV.src h0 HK.out.scd)) (Below.refl _ _) hB' (by decide) (by decide) (by decide) hS rlR_quiet (rl17_kept _ _ _ _ _ _ _ _ _ _ _ _ _) rfl
        · obtain rfl := Option.some.inj hi
          have hgu : a'.tmps.getD 110 undef = _ := pre_of hpre 20 110 (by kernel_rfl) (by kernel_rfl)
          have h0 : a'.tmps.getD 116 undef = _ := pre_of hpre 26 116 (by kernel_rfl) (by kernel_rfl)
          have h1 : a'.tmps.getD 120 undef = _ := pre_of hpre 30 120 (by kernel_rfl) (by kernel_rfl)
          exact sb_value _ rfl (wanted_of 20 110 true rfl (by kernel_rfl) hgu) (eqlS_run 116 120 _ rfl h0 h1) (Below.refl _ _) hB' (by decide) (by decide) (by decide) hS rlR_quiet (rl17_kept _ _ _ _ _ _ _ _ _ _ _ _ _) rfl
        · obtain rfl := Option.some.inj hi
          have h0 : a'.tmps.getD 110 undef = _ := pre_of hpre 20 110 (by kernel_rfl) (by kernel_rfl)
          have h1 : a'.tmps.getD 121 undef = _ := pre_of hpre 31 121 (by kernel_rfl) (by kernel_rfl)
          exact sb_value _ rfl rfl (pick_run 110 121 rfl h0 h1) (Below.refl _ _) hB' (by decide) (by decide) (by decide) hS rlR_quiet (rl17_kept _ _ _ _ _ _ _ _ _ _ _ _ _) rfl
        · obtain rfl := Option.some.inj hi
          have h0 := pre_of hpre 32 122 (by kernel_rfl) (by kernel_rfl)
          exact sb_event (k := 9) _ rfl rfl rfl (Below.refl _ _) (by kernel_rfl) (by decide) hfi (fun c _ hc => by cases hc; exact been_of hfw 29 (by kernel_rfl)) hS (fun _ _ _ h => absurd h (by decide)) (fun _ _ _ _ _ _ h => h) h0
        · obtain rfl := Option.some.inj hi
          have hgu : a'.tmps.getD 123 undef = _ := pre_of hpre 33 123 (by kernel_rfl) (by kernel_rfl)
          exact sb_value _ rfl (wanted_of 33 123 true rfl (by kernel_rfl) hgu) rfl (Below.refl _ _) hB' (by decide) (by decide) (by decide) hS rlR_quiet (rl17_kept _ _ _ _ _ _ _ _ _ _ _ _ _) (by show a'.tmps.getD 15 undef = _; rw [inv.old 15 (notDst_spec (by kernel_rfl))]; rfl)
        · obtain rfl := Option.some.inj hi
          have hgu : a'.tmps.getD 123 undef = _ := pre_of hpre 33 123 (by kernel_rfl) (by kernel_rfl)
          have h0 : a'.tmps.getD 124 undef = _ := pre_of hpre 34 124 (by kernel_rfl) (by kernel_rfl)
          exact sb_value _ rfl (wanted_of 33 123 true rfl (by kernel_rfl) hgu) (eqlN_run 35 124 0 rfl h0) (Below.refl _ _) hB' (by decide) (by decide) (by decide) hS rlR_quiet (rl17_kept _ _ _ _ _ _ _ _ _ _ _ _ _) rfl
        · obtain rfl := Option.some.inj hi
          have h0 : a'.tmps.getD 123 undef = _ := pre_of hpre 33 123 (by kernel_rfl) (by kernel_rfl)
          have h1 : a'.tmps.getD 125 undef = _ := pre_of hpre 35 125 (by kernel_rfl) (by kernel_rfl)
          exact sb_value _ rfl rfl (pick_run 123 125 rfl h0 h1) (Below.refl _ _) hB' (by decide) (by decide) (by decide) hS rlR_quiet (rl17_kept _ _ _ _ _ _ _ _ _ _ _ _ _) rfl
        · obtain rfl := Option.some.inj hi
          have h0 := pre_of hpre 36 126 (by kernel_rfl) (by kernel_rfl)
          exact sb_event (k := 10) _ rfl rfl rfl (Below.refl _ _) (by kernel_rfl) (by decide) hfi (fun c _ hc => by cases hc; exact been_of hfw 33 (by kernel_rfl)) hS (fun _ _ _ h => absurd h (by decide)) (fun _ _ _ _ _ _ h => h) h0
        · obtain rfl := Option.some.inj hi
          have hgu : a'.tmps.getD 127 undef = _ := pre_of hpre 37 127 (by kernel_rfl) (by kernel_rfl)
          exact sb_value _ rfl (wanted_of 37 127 true rfl (by kernel_rfl) hgu) rfl (Below.refl _ _) hB' (by decide) (by decide) (by decide) hS rlR_quiet (rl17_kept _ _ _ _ _ _ _ _ _ _ _ _ _) (by show a'.tmps.getD 14 undef = _; rw [inv.old 14 (notDst_spec (by kernel_rfl))]; rfl)
        · obtain rfl := Option.some.inj hi
          have hgu : a'.tmps.getD 127 undef = _ := pre_of hpre 37 127 (by kernel_rfl) (by kernel_rfl)
          have h0 := pre_of hpre 38 128 (by kernel_rfl) (by kernel_rfl)
          exact sb_value _ rfl (wanted_of 37 127 true rfl (by kernel_rfl) hgu) (conv_run 128 _ rfl (by rw [show a'.tmps.getD 128 undef = _ from h0]; exact (HS.out w' ho).b)) (Below.refl _ _) hB' (by decide) (by decide) (by decide) hS rlR_quiet (rl17_kept _ _ _ _ _ _ _ _ _ _ _ _ _) rfl
        · obtain rfl := Option.some.inj hi
          have hgu : a'.tmps.getD 127 undef = _ := pre_of hpre 37 127 (by kernel_rfl) (by kernel_rfl)
          exact sb_value _ rfl (wanted_of 37 127 true rfl (by kernel_rfl) hgu) rfl (Below.refl _ _) hB' (by decide) (by decide) (by decide) hS rlR_quiet (rl17_kept _ _ _ _ _ _ _ _ _ _ _ _ _) (by show a'.tmps.getD 12 undef = _; rw [inv.old 12 (notDst_spec (by kernel_rfl))]; rfl)
        · obtain rfl := Option.some.inj hi
          have hgu : a'.tmps.getD 127 undef = _ := pre_of hpre 37 127 (by kernel_rfl) (by kernel_rfl)
          exact sb_value _ rfl (wanted_of 37 127 true rfl (by kernel_rfl) hgu) (cut_run _ rfl (by rw [inv.old 8 (notDst_spec (by kernel_rfl))]; rfl)) (Below.refl _ _) hB' (by decide) (by decide) (by decide) hS rlR_quiet (rl17_kept _ _ _ _ _ _ _ _ _ _ _ _ _) rfl
        · obtain rfl := Option.some.inj hi
          have hgu : a'.tmps.getD 127 undef = _ := pre_of hpre 37 127 (by kernel_rfl) (by kernel_rfl)
          exact sb_value _ rfl (wanted_of 37 127 true rfl (by kernel_rfl) hgu) rfl (Below.refl _ _) hB' (by decide) (by decide) (by decide) hS rlR_quiet (rl17_kept _ _ _ _ _ _ _ _ _ _ _ _ _) (by show a'.tmps.getD 4 undef = _; rw [inv.old 4 (notDst_spec (by kernel_rfl))]; rfl)
        · obtain rfl := Option.some.inj hi
          have hgu : a'.tmps.getD 127 undef = _ := pre_of hpre 37 127 (by kernel_rfl) (by kernel_rfl)
          exact sb_value _ rfl (wanted_of 37 127 true rfl (by kernel_rfl) hgu) rfl (Below.refl _ _) hB' (by decide) (by decide) (by decide) hS rlR_quiet (rl17_kept _ _ _ _ _ _ _ _ _ _ _ _ _) (by show a'.tmps.getD 2 undef = _; rw [inv.old 2 (notDst_spec (by kernel_rfl))]; rfl)
        · obtain rfl := Option.some.inj hi
          have hgu : a'.tmps.getD 127 undef = _ := pre_of hpre 37 127 (by kernel_rfl) (by kernel_rfl)
          have h0 : a'.tmps.getD 130 undef = _ := pre_of hpre 40 130 (by kernel_rfl) (by kernel_rfl)
          have h1 : a'.tmps.getD 131 undef = _ := pre_of hpre 41 131 (by kernel_rfl) (by kernel_rfl)
          have h2 : a'.tmps.getD 132 undef = _ := pre_of hpre 42 132 (by kernel_rfl) (by kernel_rfl)
          have h3 : a'.tmps.getD 133 undef = _ := pre_of hpre 43 133 (by kernel_rfl) (by kernel_rfl)
          refine sb_call (k := 11) 27 #[a'.tmps.getD 130 undef, a'.tmps.getD 131 undef, a'.tmps.getD 132 undef, a'.tmps.getD 133 undef] rfl (wanted_of 37 127 true rfl (by kernel_rfl) hgu) (by kernel_rfl) hB' rfl (by decide) hfi (fun c _ hc => by cases hc; exact been_of hfw 37 (by kernel_rfl)) hS (fun _ _ _ h => absurd h (by decide)) (rl17_kept _ _ _ _ _ _ _ _ _ _ _ _ _) ?_
          rw [h0, h1, h2, h3]
          exact rseal_src (HS.out w' ho).k (HS.out w' ho).n (HS.out w' ho).o (HS.out w' ho).t HK.out.k32 HK.out.n12 HK.out.leno HK.out.lent2
        · obtain rfl := Option.some.inj hi
          have hgu : a'.tmps.getD 127 undef = _ := pre_of hpre 37 127 (by kernel_rfl) (by kernel_rfl)
          have h0 := pre_of hpre 44 134 (by kernel_rfl) (by kernel_rfl)
          exact sb_value _ rfl (wanted_of 37 127 true rfl (by kernel_rfl) hgu) (conv_run 134 _ rfl (OwnV.src h0 HK.out.sbx)) (Below.refl _ _) hB' (by decide) (by decide) (by decide) hS rlR_quiet (rl17_kept _ _ _ _ _ _ _ _ _ _ _ _ _) rfl
        · obtain rfl := Option.some.inj hi
          have hgu : a'.tmps.getD 127 undef = _ := pre_of hpre 37 127 (by kernel_rfl) (by kernel_rfl)
          have h0 : a'.tmps.getD 129 undef = _ := pre_of hpre 39 129 (by kernel_rfl) (by kernel_rfl)
          have h1 : a'.tmps.getD 135 undef = _ := pre_of hpre 45 135 (by kernel_rfl) (by kernel_rfl)
          exact sb_value _ rfl (wanted_of 37 127 true rfl (by kernel_rfl) hgu) (eqlS_run 129 135 _ rfl h0 h1) (Below.refl _ _) hB' (by decide) (by decide) (by decide) hS rlR_quiet (rl17_kept _ _ _ _ _ _ _ _ _ _ _ _ _) rfl
        · obtain rfl := Option.some.inj hi
          have h0 : a'.tmps.getD 127 undef = _ := pre_of hpre 37 127 (by kernel_rfl) (by kernel_rfl)
          have h1 : a'.tmps.getD 136 undef = _ := pre_of hpre 46 136 (by kernel_rfl) (by kernel_rfl)
          exact sb_value _ rfl rfl (pick_run 127 136 rfl h0 h1) (Below.refl _ _) hB' (by decide) (by decide) (by decide) hS rlR_quiet (rl17_kept _ _ _ _ _ _ _ _ _ _ _ _ _) rfl
        · obtain rfl := Option.some.inj hi
          have h0 := pre_of hpre 47 137 (by kernel_rfl) (by kernel_rfl)
          exact sb_value _ rfl rfl rfl (Below.refl _ _) hB' (by decide) (by decide) (by decide) hS rlR_quiet (rl17_kept _ _ _ _ _ _ _ _ _ _ _ _ _) h0
        · obtain rfl := Option.some.inj hi
          have hgu : a'.tmps.getD 138 undef = _ := pre_of hpre 48 138 (by kernel_rfl) (by kernel_rfl)
          exact sb_value _ rfl (wanted_of 48 138 true rfl (by kernel_rfl) hgu) rfl (Below.refl _ _) hB' (by decide) (by decide) (by decide) hS rlR_quiet (rl17_kept _ _ _ _ _ _ _ _ _ _ _ _ _) (by show a'.tmps.getD 17 undef = _; rw [inv.old 17 (notDst_spec (by kernel_rfl))]; rfl)
        · obtain rfl := Option.some.inj hi
          have hgu : a'.tmps.getD 138 undef = _ := pre_of hpre 48 138 (by kernel_rfl) (by kernel_rfl)
          have h0 : a'.tmps.getD 139 undef = _ := pre_of hpre 49 139 (by kernel_rfl) (by kernel_rfl)
          exact sb_value _ rfl (wanted_of 48 138 true rfl (by kernel_rfl) hgu) (eqlN_run 35 139 0 rfl h0) (Below.refl _ _) hB' (by decide) (by decide) (by decide) hS rlR_quiet (rl17_kept _ _ _ _ _ _ _ _ _ _ _ _ _) rfl
        · obtain rfl := Option.some.inj hi
          have h0 : a'.tmps.getD 138 undef = _ := pre_of hpre 48 138 (by kernel_rfl) (by kernel_rfl)
          have h1 : a'.tmps.getD 140 undef = _ := pre_of hpre 50 140 (by kernel_rfl) (by kernel_rfl)
          exact sb_value _ rfl rfl (pick_run 138 140 rfl h0 h1) (Below.refl _ _) hB' (by decide) (by decide) (by decide) hS rlR_quiet (rl17_kept _ _ _ _ _ _ _ _ _ _ _ _ _) rfl
        · obtain rfl := Option.some.inj hi
          have h0 := pre_of hpre 51 141 (by kernel_rfl) (by kernel_rfl)
          exact sb_value _ rfl rfl rfl (Below.refl _ _) hB' (by decide) (by decide) (by decide) hS rlR_quiet (rl17_kept _ _ _ _ _ _ _ _ _ _ _ _ _) h0
        · obtain rfl := Option.some.inj hi
          have hgu : a'.tmps.getD 142 undef = _ := pre_of hpre 52 142 (by kernel_rfl) (by kernel_rfl)
          exact sb_value _ rfl (wanted_of 52 142 true rfl (by kernel_rfl) hgu) rfl (Below.refl _ _) hB' (by decide) (by decide) (by decide) hS rlR_quiet (rl17_kept _ _ _ _ _ _ _ _ _ _ _ _ _) (by show a'.tmps.getD 16 undef = _; rw [inv.old 16 (notDst_spec (by kernel_rfl))]; rfl)
        · obtain rfl := Option.some.inj hi
          have hgu : a'.tmps.getD 142 undef = _ := pre_of hpre 52 142 (by kernel_rfl) (by kernel_rfl)
          have h0 := pre_of hpre 53 143 (by kernel_rfl) (by kernel_rfl)
          exact sb_value _ rfl (wanted_of 52 142 true rfl (by kernel_rfl) hgu) (conv_run 143 _ rfl (by rw [show a'.tmps.getD 143 undef = _ from h0]; exact (HS.out w' ho).x)) (Below.refl _ _) hB' (by decide) (by decide) (by decide) hS rlR_quiet (rl17_kept _ _ _ _ _ _ _ _ _ _ _ _ _) rfl
        · obtain rfl := Option.some.inj hi
          have hgu : a'.tmps.getD 142 undef = _ := pre_of hpre 52 142 (by kernel_rfl) (by kernel_rfl)
          exact sb_value _ rfl (wanted_of 52 142 true rfl (by kernel_rfl) hgu) rfl (Below.refl _ _) hB' (by decide) (by decide) (by decide) hS rlR_quiet (rl17_kept _ _ _ _ _ _ _ _ _ _ _ _ _) (by show a'.tmps.getD 2 undef = _; rw [inv.old 2 (notDst_spec (by kernel_rfl))]; rfl)
        · obtain rfl := Option.some.inj hi
          have hgu : a'.tmps.getD 142 undef = _ := pre_of hpre 52 142 (by kernel_rfl) (by kernel_rfl)
          have h0 := pre_of hpre 55 145 (by kernel_rfl) (by kernel_rfl)
          exact sb_value _ rfl (wanted_of 52 142 true rfl (by kernel_rfl) hgu) (conv_run 145 _ rfl (by rw [show a'.tmps.getD 145 undef = _ from h0]; exact (HS.out w' ho).t)) (Below.refl _ _) hB' (by decide) (by decide) (by decide) hS rlR_quiet (rl17_kept _ _ _ _ _ _ _ _ _ _ _ _ _) rfl
        · obtain rfl := Option.some.inj hi
          have hgu : a'.tmps.getD 142 undef = _ := pre_of hpre 52 142 (by kernel_rfl) (by kernel_rfl)
          have h0 : a'.tmps.getD 144 undef = _ := pre_of hpre 54 144 (by kernel_rfl) (by kernel_rfl)
          have h1 : a'.tmps.getD 146 undef = _ := pre_of hpre 56 146 (by kernel_rfl) (by kernel_rfl)
          exact sb_value _ rfl (wanted_of 52 142 true rfl (by kernel_rfl) hgu) (eqlS_run 144 146 _ rfl h0 h1) (Below.refl _ _) hB' (by decide) (by decide) (by decide) hS rlR_quiet (rl17_kept _ _ _ _ _ _ _ _ _ _ _ _ _) rfl
        · obtain rfl := Option.some.inj hi
          have h0 : a'.tmps.getD 142 undef = _ := pre_of hpre 52 142 (by kernel_rfl) (by kernel_rfl)
          have h1 : a'.tmps.getD 147 undef = _ := pre_of hpre 57 147 (by kernel_rfl) (by kernel_rfl)
          exact sb_value _ rfl rfl (pick_run 142 147 rfl h0 h1) (Below.refl _ _) hB' (by decide) (by decide) (by decide) hS rlR_quiet (rl17_kept _ _ _ _ _ _ _ _ _ _ _ _ _) rfl
        · obtain rfl := Option.some.inj hi
          have h0 := pre_of hpre 58 148 (by kernel_rfl) (by kernel_rfl)
          exact sb_value _ rfl rfl rfl (Below.refl _ _) hB' (by decide) (by decide) (by decide) hS rlR_quiet (rl17_kept _ _ _ _ _ _ _ _ _ _ _ _ _) h0
        · obtain rfl := Option.some.inj hi
          have hgu : a'.tmps.getD 149 undef = _ := pre_of hpre 59 149 (by kernel_rfl) (by kernel_rfl)
          exact sb_value _ rfl (wanted_of 59 149 true rfl (by kernel_rfl) hgu) rfl (Below.refl _ _) hB' (by decide) (by decide) (by decide) hS rlR_quiet (rl17_kept _ _ _ _ _ _ _ _ _ _ _ _ _) (by show a'.tmps.getD 19 undef = _; rw [inv.old 19 (notDst_spec (by kernel_rfl))]; rfl)
        · obtain rfl := Option.some.inj hi
          have hgu : a'.tmps.getD 149 undef = _ := pre_of hpre 59 149 (by kernel_rfl) (by kernel_rfl)
          have h0 : a'.tmps.getD 150 undef = _ := pre_of hpre 60 150 (by kernel_rfl) (by kernel_rfl)
          exact sb_value _ rfl (wanted_of 59 149 true rfl (by kernel_rfl) hgu) (eqlN_run 35 150 11 rfl h0) (Below.refl _ _) hB' (by decide) (by decide) (by decide) hS rlR_quiet (rl17_kept _ _ _ _ _ _ _ _ _ _ _ _ _) rfl
        · obtain rfl := Option.some.inj hi
          have h0 : a'.tmps.getD 149 undef = _ := pre_of hpre 59 149 (by kernel_rfl) (by kernel_rfl)
          have h1 : a'.tmps.getD 151 undef = _ := pre_of hpre 61 151 (by kernel_rfl) (by kernel_rfl)
          exact sb_value _ rfl rfl (pick_run 149 151 rfl h0 h1) (Below.refl _ _) hB' (by decide) (by decide) (by decide) hS rlR_quiet (rl17_kept _ _ _ _ _ _ _ _ _ _ _ _ _) rfl
        · obtain rfl := Option.some.inj hi
          have h0 := pre_of hpre 62 152 (by kernel_rfl) (by kernel_rfl)
          exact sb_value _ rfl rfl rfl (Below.refl _ _) hB' (by decide) (by decide) (by decide) hS rlR_quiet (rl17_kept _ _ _ _ _ _ _ _ _ _ _ _ _) h0
      · intro a' w7 f inv hS hall hd
        have hv1 := hd 63 10 (by kernel_rfl)
        have ho : Below w6.heap.size w6.drew w7 := inv.grow
        have hdf : a'.defers = [] := inv.defers
        have hsz : a'.tmps.size = 153 := inv.size
        have e := frame153_17 hsz (fun t ht => inv.old t (dstsIn_spec (ts := [10, 90, 91, 92, 93, 94, 95, 96, 97, 98, 99, 100, 101, 102, 103, 104, 105, 106, 107, 108, 109, 110, 111, 112, 113, 114, 115, 116, 117, 118, 119, 120, 121, 122, 123, 124, 125, 126, 127, 128, 129, 130, 131, 132, 133, 134, 135, 136, 137, 138, 139, 140, 141, 142, 143, 144, 145, 146, 147, 148, 149, 150, 151, 152]) (by kernel_rfl) t ht))
        clear inv hd hsz hall hS
        obtain ⟨tmps, defers⟩ := a'
        obtain rfl : defers = [] := hdf
        replace e : tmps = _ := e
        replace hv1 : (tmps.getD 10 undef) = .bool true := hv1
        generalize tmps.getD 10 undef = x10 at *
        generalize tmps.getD 90 undef = x90 at *
        generalize tmps.getD 91 undef = x91 at *
        generalize tmps.getD 92 undef = x92 at *
        generalize tmps.getD 93 undef = x93 at *
        generalize tmps.getD 94 undef = x94 at *
        generalize tmps.getD 95 undef = x95 at *
        generalize tmps.getD 96 undef = x96 at *
        generalize tmps.getD 97 undef = x97 at *
        generalize tmps.getD 98 undef = x98 at *
        generalize tmps.getD 99 undef = x99 at *
        generalize tmps.getD 100 undef = x100 at *
        generalize tmps.getD 101 undef = x101 at *
        generalize tmps.getD 102 undef = x102 at *
        generalize tmps.getD 103 undef = x103 at *
        generalize tmps.getD 104 undef = x104 at *
        generalize tmps.getD 105 undef = x105 at *
        generalize tmps.getD 106 undef = x106 at *
        generalize tmps.getD 107 undef = x107 at *
        generalize tmps.getD 108 undef = x108 at *
        generalize tmps.getD 109 undef = x109 at *
        generalize tmps.getD 110 undef = x110 at *
        generalize tmps.getD 111 undef = x111 at *
        generalize tmps.getD 112 undef = x112 at *
        generalize tmps.getD 113 undef = x113 at *
        generalize tmps.getD 114 undef = x114 at *
        generalize tmps.getD 115 undef = x115 at *
        generalize tmps.getD 116 undef = x116 at *
        generalize tmps.getD 117 undef = x117 at *
        generalize tmps.getD 118 undef = x118 at *
        generalize tmps.getD 119 undef = x119 at *
        generalize tmps.getD 120 undef = x120 at *
        generalize tmps.getD 121 undef = x121 at *
        generalize tmps.getD 122 undef = x122 at *
        generalize tmps.getD 123 undef = x123 at *
        generalize tmps.getD 124 undef = x124 at *
        generalize tmps.getD 125 undef = x125 at *
        generalize tmps.getD 126 undef = x126 at *
        generalize tmps.getD 127 undef = x127 at *
        generalize tmps.getD 128 undef = x128 at *
        generalize tmps.getD 129 undef = x129 at *
        generalize tmps.getD 130 undef = x130 at *
        generalize tmps.getD 131 undef = x131 at *
        generalize tmps.getD 132 undef = x132 at *
        generalize tmps.getD 133 undef = x133 at *
        generalize tmps.getD 134 undef = x134 at *
        generalize tmps.getD 135 undef = x135 at *
        generalize tmps.getD 136 undef = x136 at *
        generalize tmps.getD 137 undef = x137 at *
        generalize tmps.getD 138 undef = x138 at *
        generalize tmps.getD 139 undef = x139 at *
        generalize tmps.getD 140 undef = x140 at *
        generalize tmps.getD 141 undef = x141 at *
        generalize tmps.getD 142 undef = x142 at *
        generalize tmps.getD 143 undef = x143 at *
        generalize tmps.getD 144 undef = x144 at *
        generalize tmps.getD 145 undef = x145 at *
        generalize tmps.getD 146 undef = x146 at *
        generalize tmps.getD 147 undef = x147 at *
        generalize tmps.getD 148 undef = x148 at *
        generalize tmps.getD 149 undef = x149 at *
        generalize tmps.getD 150 undef = x150 at *
        generalize tmps.getD 151 undef = x151 at *
        generalize tmps.getD 152 undef = x152 at *
        simp only [Array.getD_eq_getD_getElem?] at e
        subst e
        subst hv1
        have HB7 : Hid (Below w.heap.size w w7) := HW0.out.trans ((HB6.out.trans (((below_drewN 1 w6 _).trans ho).mono HB6.out.size)).mono HW0.out.size)
        clear ho
        go_wp2_with fail
        go_ret
        exact ⟨rfl, HB7.out⟩
end Go.Proofs.YtbblokikhocdfaaDoor.S7
