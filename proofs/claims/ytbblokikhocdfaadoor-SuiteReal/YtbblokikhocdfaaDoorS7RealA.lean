/- The document's answer: fill and eight. -/
import Derived.Test.YtbblokikhocdfaaDoorA5Fill
import Derived.Test.YtbblokikhocdfaaDoorC3Ref
import Derived.Test.YtbblokikhocdfaaDoorP4Ref
import Derived.Test.YtbblokikhocdfaaDoorS2Mac
import Derived.Laws.Strings
import Derived.Test.YtbblokikhocdfaaDoorS2RefAll
import Derived.Test.YtbblokikhocdfaaDoorInv
import Derived.Test.YtbblokikhocdfaaDoorS7TwoV
import Derived.Test.YtbblokikhocdfaaDoorS7Two
namespace Go.Proofs.YtbblokikhocdfaaDoor.A5
open Go.RowKit P4
theorem own_empty {w : World} {base : Nat} (hb : base ≤ w.heap.size) : (w.alloc (.cells #[] 5)).ownsRow base 5 1 (.slice (some ⟨w.heap.size, 0, none⟩) 0 0) 0 (ints .u8 []) := own_lit [] hb (by decide)
set_option maxHeartbeats 1000000 in
theorem rfill_any (l : List Nat) (v : Value) (w : World) (hv : Src w v l) (hn : l.length ≤ 40000) :
    Calls Tryd.prog 68 #[v] w fun e w' => ∃ v', e = .returned v' ∧ w'.ownsRow w.heap.size 5 1 v' (l.length + Ae.lack l.length) (ints .u8 (Ae.fill l)) ∧ Below w.heap.size w w' := by
  have HV : Hid (Src w v l) := hv
  obtain ⟨p, c, rfl⟩ := hv.slice
  have HF : Hid (Ae.fill l = l ++ List.replicate (Ae.lack l.length) 0) := rfl
  obtain ⟨F, hF⟩ : ∃ F, Ae.fill l = F := ⟨_, rfl⟩
  rw [hF] at HF ⊢
  obtain ⟨n, hnl⟩ : ∃ n, l.length = n := ⟨_, rfl⟩
  have HNL : Hid (l.length = n) := hnl
  rw [hnl] at HV hn HF ⊢
  have HLK : Hid (Ae.lack n < 16) := Ae.lack_le n
  clear hv hF hnl
  go_enter Tryd.func68, Tryd.ntmps68
  go_wp2_with (first | with_reducible (refine stop_builtin .append ?_))
  refine Stop.go ?_
  refine law_append_src w.heap.size (.slice (some ⟨w.heap.size, 0, none⟩) 0 0) 0 [] (.slice p n c) l rfl rfl (own_empty (Nat.le_refl _)) (HV.out.below ((Below.refl _ _).alloc (Nat.le_refl _) _)) (by rw [HNL.out]; omega) (by simp) ?_
  intro v1 w1 hown1 hb1
  rw [HNL.out, List.nil_append, Nat.zero_add] at hown1
  have HO0 : Hid (w1.ownsRow w.heap.size 5 1 v1 n (ints .u8 l)) := hown1
  have HB0 : Hid (Below w.heap.size w w1) := ((Below.refl _ _).alloc (Nat.le_refl _) _).trans hb1
  clear hown1 hb1
  go_wp2_with fail
  go_loopw [3] (fun sl wr => ∃ k : Nat, k ≤ Ae.lack n ∧ Hid (wr.ownsRow w.heap.size 5 1 sl (n + k) (ints .u8 (l ++ List.replicate k 0))) ∧ Hid (Below w.heap.size w wr)) (fun sl _ => match sl with | .slice _ m _ => n + Ae.lack n - m | _ => 0)
  case atStart =>
    have h0 : w1.ownsRow w.heap.size 5 1 v1 (n + 0) (ints .u8 (l ++ List.replicate 0 0)) := by simpa using HO0.out
    exact ⟨0, Nat.zero_le _, h0, HB0.out⟩
  case round =>
    obtain ⟨k, hk, HO, HW⟩ := hrel
    obtain ⟨q, cq, rfl⟩ := own_slice HO.out
    have HB2 : Hid (w.heap.size ≤ wr.heap.size) := HW.out.size
    by_cases h16 : (n + k) % 16 = 0
    · have HKE : Hid (k = Ae.lack n) := lack_done h16 hk
      have g1 : ((n + k : Nat) : Int) % 16 = 0 := by omega
      have g2 : ¬ (0 : Int) < ((n + k : Nat) : Int) % 16 := by omega
      go_wp2_with fail
      go_ret
      obtain rfl := HKE.out
      exact ⟨_, rfl, by rw [HF.out]; exact HO.out, HW.out⟩
    · have g1 : (0 : Int) < ((n + k : Nat) : Int) % 16 := by omega
      have HK1 : Hid (k + 1 ≤ Ae.lack n) := lack_step h16 hk
      have HKL := HLK.out
      go_wp2_with (first | with_reducible (refine stop_builtin .append ?_))
      refine Stop.go ?_
      have HO2 : Hid ((wr.alloc (Obj.cells #[.int .u8 ((0 : Nat) : Int)] 5)).ownsRow w.heap.size 5 1 (.slice q (n + k) cq) (n + k) (ints .u8 (l ++ List.replicate k 0))) := ownsRow_alloc HO.out _
      have HW2 : Hid (Below w.heap.size w (wr.alloc (Obj.cells #[.int .u8 ((0 : Nat) : Int)] 5))) := HW.out.alloc HB2.out _
      refine law_append_src w.heap.size _ (n + k) (l ++ List.replicate k 0) (.slice (some ⟨wr.heap.size, 0, none⟩) 1 1) [0] rfl rfl HO2.out (one_src wr 0 (by decide)) (by simp; omega) (by have := HB2.out; simp; omega) ?_
      intro v' w' hown' hb'
      have HO3 : Hid (w'.ownsRow w.heap.size 5 1 v' (n + (k + 1)) (ints .u8 (l ++ List.replicate (k + 1) 0))) := by
        rw [rep_snoc]
        exact hown'
      have HW3 : Hid (Below w.heap.size w w') := HW2.out.trans hb'
      obtain ⟨q', c', rfl⟩ := own_slice hown'
      clear hown' hb' HO HW HO2 HW2
      go_wp2_with fail
      go_roundw
      case rel => exact ⟨k + 1, HK1.out, HO3.out, HW3.out⟩
      case measure => have := HK1.out; simp; omega
set_option maxHeartbeats 1000000 in
theorem reight_any (m : Nat) (w : World) (hm : m < 4611686018427387904) :
    Calls Tryd.prog 69 #[.int .i64 (m : Int)] w fun e w' => ∃ v', e = .returned v' ∧ w'.ownsRow w.heap.size 5 1 v' 8 (ints .u8 (Ae.eight m)) ∧ Below w.heap.size w w' := by
  have HEL : Hid ((Ae.eight m).length = 8) := Ae.eight_length m
  have HEN : Hid (∀ i, i < 8 → Sp.nth (Ae.eight m) i = m / 256 ^ i % 256) := fun i hi => digs_nth 256 8 i m hi
  have HMD : Hid (∀ i, m / 256 ^ i ≤ m) := fun i => Nat.div_le_self _ _
  have HM0 : Hid (m = m / 256 ^ 0) := by show _ = _; simp
  obtain ⟨E, hE⟩ : ∃ E, Ae.eight m = E := ⟨_, rfl⟩
  rw [hE] at HEL HEN ⊢
  clear hE
  go_enter Tryd.func69, Tryd.ntmps69
  go_wp2_with fail
  go_loopw [0, 3, 4] (fun z sl u wr => ∃ i r : Nat, i ≤ 8 ∧ Hid (r = m / 256 ^ i) ∧ z = .int .i64 r ∧ u = .int .i64 i ∧ Hid (wr.ownsRow w.heap.size 5 1 sl i (ints .u8 (E.take i))) ∧ Hid (Below w.heap.size w wr)) (fun _ _ u _ => 8 - (intOf u).toNat)
  case atStart => exact ⟨0, m, by omega, HM0.out, rfl, rfl, own_none _ _ _ _, Below.refl _ _⟩
  case round =>
    obtain ⟨i, r, hi, HRI, rfl, rfl, HO, HW⟩ := hrel
    obtain ⟨q, cq, rfl⟩ := own_slice HO.out
    have HB2 : Hid (w.heap.size ≤ wr.heap.size) := HW.out.size
    by_cases hlt : i < 8
    · have HTS : Hid (E.take (i + 1) = E.take i ++ [Sp.nth E i]) := Po.take_succ_nth (by rw [HEL.out]; exact hlt)
      have HXV : Hid (Sp.nth E i = r % 256) := by show _ = _; rw [HEN.out i hlt, HRI.out]
      have HRS : Hid (r / 256 = m / 256 ^ (i + 1)) := by show _ = _; rw [HRI.out, Nat.pow_succ, ← Nat.div_div_eq_div_mul]
      have g1 : (i : Int) < 8 := by omega
      have i0 : (0 : Int) ≤ (i : Int) := by omega
      have r0 : (0 : Int) ≤ (r : Int) := by omega
      have r1 : (r : Int) < 4611686018427387904 := by have := HMD.out i; rw [← HRI.out] at this; omega
      go_wp2_with (first | with_reducible (refine stop_builtin .append ?_))
      refine Stop.go ?_
      have hxe : (r : Int) % 256 = ((Sp.nth E i : Nat) : Int) := by have := HXV.out; omega
      have HEI : Sp.nth E i < 256 := by rw [HXV.out]; exact Nat.mod_lt _ (by decide)
      rw [hxe]
      clear hxe
      generalize Sp.nth E i = x at *
      have HO2 : Hid ((wr.alloc (Obj.cells #[.int .u8 (x : Int)] 5)).ownsRow w.heap.size 5 1 (.slice q i cq) i (ints .u8 (E.take i))) := ownsRow_alloc HO.out _
      have HW2 : Hid (Below w.heap.size w (wr.alloc (Obj.cells #[.int .u8 (x : Int)] 5))) := HW.out.alloc HB2.out _
      refine law_append_src w.heap.size _ i (E.take i) (.slice (some ⟨wr.heap.size, 0, none⟩) 1 1) [x] rfl rfl HO2.out (one_src wr x HEI) (by simp; omega) (by have := HB2.out; simp; omega) ?_
      intro v' w' hown' hb'
      have HO3 : Hid (w'.ownsRow w.heap.size 5 1 v' (i + 1) (ints .u8 (E.take (i + 1)))) := by
        rw [HTS.out]
        exact hown'
      have HW3 : Hid (Below w.heap.size w w') := HW2.out.trans hb'
      have HRC : Hid (((r / 256 : Nat) : Int) = (r : Int) / 256) := by show _ = _; omega
      clear hown' hb' HO HW HO2 HW2 HTS HXV
      go_wp2_with fail
      go_roundw
      case rel =>
        first
          | exact ⟨i + 1, r / 256, by omega, HRS.out, by rw [HRC.out], by go_num, HO3.out, HW3.out⟩
          | ((repeat apply Exists.intro)
             refine ⟨⟨i + 1, r / 256, by omega, HRS.out, by rw [HRC.out], ?_, HO3.out, HW3.out⟩, rfl⟩
             go_num)
      case measure => simp [intOf]; omega
    · obtain rfl : i = 8 := by omega
      have h1 := HO.out
      rw [List.take_of_length_le (by rw [HEL.out]; exact Nat.le_refl _)] at h1
      have HO1 : Hid (wr.ownsRow w.heap.size 5 1 (.slice q 8 cq) 8 (ints .u8 E)) := h1
      clear h1 HO
      go_wp2_with fail
      go_ret
      exact ⟨_, rfl, HO1.out, HW.out⟩
end Go.Proofs.YtbblokikhocdfaaDoor.A5
/- The document's answer: Tag and Seal. -/
namespace Go.Proofs.YtbblokikhocdfaaDoor.A5
open Go.RowKit P4
set_option maxHeartbeats 1000000 in
theorem rTag_any (key nonce lo ls : List Nat) (bk ok ck bn on cn : Nat) (o s : Value) (w : World) (hk : key.length = 32) (hn : nonce.length = 12) (hK : C3.SliceIs w bk ok key) (hN : C3.SliceIs w bn on nonce) (ho : Src w o lo) (hs : Src w s ls) (hol : lo.length ≤ 200) (hsl : ls.length ≤ 200) :
    Calls Tryd.prog 51 #[.slice (some ⟨bk, ok, none⟩) 32 ck, .slice (some ⟨bn, on, none⟩) 12 cn, o, s] w fun e w' => ∃ v, e = .returned v ∧ w'.ownsRow w.heap.size 5 1 v 16 (ints .u8 (Ae.tagOf key nonce lo ls)) ∧ Below w.heap.size w w' := by
  have HX : Hid (Calls Tryd.prog 67 #[.slice (some ⟨bk, ok, none⟩) 32 ck, .int .i64 0, .slice (some ⟨bn, on, none⟩) 12 cn] w fun e w' => ∃ g cp, e = .returned (.slice (some ⟨g, 0, none⟩) 64 cp) ∧ w.heap.size ≤ g ∧ 64 ≤ cp ∧ w'.rangeAt g 0 (ints .u8 (Ae.once key nonce)) ∧ Below w.heap.size w w') := by
    refine (C3.rblock_any key nonce bk ok ck bn on cn 0 w hk hn hK hN (by decide)).mono ?_
    rintro e w1 ⟨g, cp, rfl, hg, hcp, hr, hb⟩
    exact ⟨g, cp, rfl, hg, hcp, range_take hr 32, hb⟩
  have HOL : Hid ((Ae.once key nonce).length = 32) := Ae.once_length _ _
  have HOB : Hid (∀ y ∈ Ae.once key nonce, y < 256) := Ae.once_lt _ _
  have HO : Hid (Src w o lo) := ho
  have HS : Hid (Src w s ls) := hs
  have HK1 : Hid (Ae.lack lo.length < 16) := Ae.lack_le _
  have HK2 : Hid (Ae.lack ls.length < 16) := Ae.lack_le _
  have HTL : Hid ((Ae.tagged lo ls).length = lo.length + Ae.lack lo.length + (ls.length + Ae.lack ls.length) + 8 + 8) := by
    show _ = _
    rw [Ae.tagged_length]
  have HTE : Hid (Ae.tagged lo ls = ((Ae.fill lo ++ Ae.fill ls) ++ Ae.eight lo.length) ++ Ae.eight ls.length) := rfl
  have HTB : Hid (∀ x ∈ Ae.tagged lo ls, x < 256) := Ae.tagged_lt ho.1 hs.1
  have HFB : Hid (∀ x ∈ Ae.fill ls, x < 256) := Ae.fill_lt hs.1
  have HFL : Hid ((Ae.fill ls).length = ls.length + Ae.lack ls.length) := Ae.fill_length _
  have HT : Hid (Po.tag (Ae.once key nonce) (Ae.tagged lo ls) = Ae.tagOf key nonce lo ls) := rfl
  obtain ⟨T, hT⟩ : ∃ T, Ae.tagOf key nonce lo ls = T := ⟨_, rfl⟩
  rw [hT] at HT ⊢
  obtain ⟨po, co, rfl⟩ := ho.slice
  obtain ⟨ps, cs, rfl⟩ := hs.slice
  obtain ⟨no, hno⟩ : ∃ n, lo.length = n := ⟨_, rfl⟩
  obtain ⟨ns, hns⟩ : ∃ n, ls.length = n := ⟨_, rfl⟩
  rw [hno] at HO HK1 HTL HTE hol ⊢
  rw [hns] at HS HK2 HTL HTE HFL hsl ⊢
  have HNO : Hid (lo.length = no) := hno
  have HNS : Hid (ls.length = ns) := hns
  generalize Ae.tagged lo ls = TG at *
  generalize Ae.once key nonce = O at *
  clear hk hn hK hN ho hs hT hno hns
  have n1 : (no : Int) ≤ 200 := by omega
  have n2 : (ns : Int) ≤ 200 := by omega
  go_enter Tryd.func51, Tryd.ntmps51
  go_wp2_with (first | with_reducible (refine stop_builtin .append ?_))
  refine HX.out.mono ?_
  rintro e w1 ⟨g, cp, rfl, hg, hcp, hr, hb⟩
  have HR1 : Hid (w1.rangeAt g 0 (ints .u8 O)) := hr
  have HB1 : Hid (Below w.heap.size w w1) := hb
  clear hg hr hb HX
  go_wp2_with (first | with_reducible (refine stop_builtin .append ?_))
  refine (rfill_any lo _ w1 (HO.out.below HB1.out) (by rw [HNO.out]; omega)).mono ?_
  rintro e w2 ⟨v2, rfl, hown2, hb2⟩
  rw [HNO.out] at hown2
  have HO2 : Hid (w2.ownsRow w1.heap.size 5 1 v2 (no + Ae.lack no) (ints .u8 (Ae.fill lo))) := hown2
  have HB2 : Hid (Below w1.heap.size w1 w2) := hb2
  clear hown2 hb2
  go_wp2_with (first | with_reducible (refine stop_builtin .append ?_))
  refine (rfill_any ls _ w2 ((HS.out.below HB1.out).below HB2.out) (by rw [HNS.out]; omega)).mono ?_
  rintro e w3 ⟨v3, rfl, hown3, hb3⟩
  rw [HNS.out] at hown3
  have HO3 : Hid (w3.ownsRow w1.heap.size 5 1 v2 (no + Ae.lack no) (ints .u8 (Ae.fill lo))) := own_below HO2.out hb3
  have HS3 : Hid (Src w3 v3 (Ae.fill ls)) := Src.own HFB.out hown3
  have HB3 : Hid (Below w1.heap.size w1 w3) := HB2.out.trans (hb3.mono HB2.out.size)
  clear hown3 hb3 HB2 HO2
  go_wp2_with (first | with_reducible (refine stop_builtin .append ?_))
  refine Stop.go ?_
  refine law_append_src w1.heap.size v2 (no + Ae.lack no) (Ae.fill lo) v3 (Ae.fill ls) rfl rfl HO3.out HS3.out (by have := HK1.out; have := HK2.out; rw [HFL.out]; omega) HB3.out.size ?_
  intro v4 w4 hown4 hb4
  rw [HFL.out] at hown4
  have HO4 : Hid (w4.ownsRow w1.heap.size 5 1 v4 (no + Ae.lack no + (ns + Ae.lack ns)) (ints .u8 (Ae.fill lo ++ Ae.fill ls))) := hown4
  have HB4 : Hid (Below w1.heap.size w1 w4) := HB3.out.trans hb4
  clear hown4 hb4 HB3 HO3 HS3
  go_wp2_with (first | with_reducible (refine stop_builtin .append ?_))
  refine (reight_any no w4 (by omega)).mono ?_
  rintro e w5 ⟨v5, rfl, hown5, hb5⟩
  have HO5 : Hid (w5.ownsRow w1.heap.size 5 1 v4 (no + Ae.lack no + (ns + Ae.lack ns)) (ints .u8 (Ae.fill lo ++ Ae.fill ls))) := own_below HO4.out hb5
  have HS5 : Hid (Src w5 v5 (Ae.eight no)) := Src.own (Ae.eight_lt no) hown5
  have HB5 : Hid (Below w1.heap.size w1 w5) := HB4.out.trans (hb5.mono HB4.out.size)
  clear hown5 hb5 HB4 HO4
  go_wp2_with (first | with_reducible (refine stop_builtin .append ?_))
  refine Stop.go ?_
  refine law_append_src w1.heap.size v4 _ (Ae.fill lo ++ Ae.fill ls) v5 (Ae.eight no) rfl rfl HO5.out HS5.out (by have := HK1.out; have := HK2.out; rw [Ae.eight_length]; omega) HB5.out.size ?_
  intro v6 w6 hown6 hb6
  rw [Ae.eight_length] at hown6
  have HO6 : Hid (w6.ownsRow w1.heap.size 5 1 v6 (no + Ae.lack no + (ns + Ae.lack ns) + 8) (ints .u8 (Ae.fill lo ++ Ae.fill ls ++ Ae.eight no))) := hown6
  have HB6 : Hid (Below w1.heap.size w1 w6) := HB5.out.trans hb6
  clear hown6 hb6 HB5 HO5 HS5
  go_wp2_with (first | with_reducible (refine stop_builtin .append ?_))
  refine (reight_any ns w6 (by omega)).mono ?_
  rintro e w7 ⟨v7, rfl, hown7, hb7⟩
  have HO7 : Hid (w7.ownsRow w1.heap.size 5 1 v6 (no + Ae.lack no + (ns + Ae.lack ns) + 8) (ints .u8 (Ae.fill lo ++ Ae.fill ls ++ Ae.eight no))) := own_below HO6.out hb7
  have HS7 : Hid (Src w7 v7 (Ae.eight ns)) := Src.own (Ae.eight_lt ns) hown7
  have HB7 : Hid (Below w1.heap.size w1 w7) := HB6.out.trans (hb7.mono HB6.out.size)
  clear hown7 hb7 HB6 HO6
  go_wp2_with (first | with_reducible (refine stop_builtin .append ?_))
  refine Stop.go ?_
  refine law_append_src w1.heap.size v6 _ (Ae.fill lo ++ Ae.fill ls ++ Ae.eight no) v7 (Ae.eight ns) rfl rfl HO7.out HS7.out (by have := HK1.out; have := HK2.out; rw [Ae.eight_length]; omega) HB7.out.size ?_
  intro v8 w8 hown8 hb8
  rw [Ae.eight_length, ← HTE.out, ← HTL.out] at hown8
  have HS8 : Hid (Src w8 v8 TG) := Src.own HTB.out hown8
  have HB8 : Hid (Below w1.heap.size w1 w8) := HB7.out.trans hb8
  clear hown8 hb8 HB7 HO7 HS7
  have HR8 : Hid (w8.rangeAt g 0 (ints .u8 O)) := rangeAt_below HB8.out HR1.out
  obtain ⟨p8, c8, rfl⟩ := HS8.out.slice
  obtain ⟨_, hc8, ht8⟩ := HS8.out.text
  have hcp2 : (32 : Int) ≤ (cp : Int) := by omega
  have HT8 : Hid (TG.length ≤ c8) := hc8
  have HT9 : Hid (TextIs w8 p8 TG) := ht8
  have HTN : Hid (TG.length ≤ 600) := by
    show _ ≤ _
    have := HTL.out
    have := HK1.out
    have := HK2.out
    omega
  clear hc8 ht8
  go_wp2_with fail
  refine (rtag_any O TG g 0 cp TG.length c8 p8 w8 HOL.out HOB.out HR8.out (by omega) HT9.out rfl HTN.out HT8.out).mono ?_
  rintro e w9 ⟨v9, rfl, hown9, hb9⟩
  rw [HT.out] at hown9
  have HB9 : Hid (Below w.heap.size w w9) := HB1.out.trans ((HB8.out.trans (hb9.mono HB8.out.size)).mono HB1.out.size)
  have HO9 : Hid (w9.ownsRow w.heap.size 5 1 v9 16 (ints .u8 T)) := own_base hown9 (Nat.le_trans HB1.out.size HB8.out.size)
  clear hown9 hb9
  go_wp2_with fail
  go_ret
  exact ⟨_, rfl, HO9.out, HB9.out⟩
set_option maxHeartbeats 1000000 in
theorem rSeal_any (key nonce lo lt : List Nat) (bk ok ck bn on cn : Nat) (o x : Value) (w : World) (hk : key.length = 32) (hn : nonce.length = 12) (hK : C3.SliceIs w bk ok key) (hN : C3.SliceIs w bn on nonce) (ho : Src w o lo) (hx : Src w x lt) (hol : lo.length ≤ 200) (htl : lt.length ≤ 200) :
    Calls Tryd.prog 27 #[.slice (some ⟨bk, ok, none⟩) 32 ck, .slice (some ⟨bn, on, none⟩) 12 cn, o, x] w fun e w' => ∃ v, e = .returned v ∧ w'.ownsRow w.heap.size 5 1 v (lt.length + 16) (ints .u8 (Ae.box key nonce lo lt)) ∧ Below w.heap.size w w' := by
  obtain ⟨px, cx, rfl⟩ := hx.slice
  obtain ⟨po, co, rfl⟩ := ho.slice
  have HX : Hid (Calls Tryd.prog 50 #[.slice (some ⟨bk, ok, none⟩) 32 ck, .int .i64 1, .slice (some ⟨bn, on, none⟩) 12 cn, .slice px lt.length cx] w fun e w' => ∃ v, e = .returned v ∧ w'.ownsRow w.heap.size 5 1 v lt.length (ints .u8 (C3.Ch.xor key 1 nonce lt)) ∧ Below w.heap.size w w') :=
    C3.rxor_any key nonce lt bk ok ck bn on cn 1 lt.length cx px w hk hn hK hN (by decide) hx.text.2.2 rfl (by omega)
  have HSL : Hid ((C3.Ch.xor key 1 nonce lt).length = lt.length) := C3.Ch.xor_length _ _ _ _
  have HSB : Hid (∀ y ∈ C3.Ch.xor key 1 nonce lt, y < 256) := C3.Ch.xor_lt _ _ _ hx.1
  have HTL : Hid ((Ae.tagOf key nonce lo (C3.Ch.xor key 1 nonce lt)).length = 16) := Ae.tagOf_length _ _ _ _
  have HTB : Hid (∀ y ∈ Ae.tagOf key nonce lo (C3.Ch.xor key 1 nonce lt), y < 256) := Ae.tagOf_lt _ _ _ _
  have hB : Ae.box key nonce lo lt = C3.Ch.xor key 1 nonce lt ++ Ae.tagOf key nonce lo (C3.Ch.xor key 1 nonce lt) := rfl
  have HY : Hid (∀ (w1 : World) (s : Value), Below w.heap.size w w1 → Src w1 s (C3.Ch.xor key 1 nonce lt) → Calls Tryd.prog 51 #[.slice (some ⟨bk, ok, none⟩) 32 ck, .slice (some ⟨bn, on, none⟩) 12 cn, .slice po lo.length co, s] w1 fun e w' => ∃ v, e = .returned v ∧ w'.ownsRow w1.heap.size 5 1 v 16 (ints .u8 (Ae.tagOf key nonce lo (C3.Ch.xor key 1 nonce lt))) ∧ Below w1.heap.size w1 w') := fun w1 s hb hs =>
    rTag_any key nonce lo _ bk ok ck bn on cn _ s w1 hk hn (hK.below hb) (hN.below hb) (ho.below hb) hs hol (by rw [C3.Ch.xor_length]; exact htl)
  rw [hB]
  obtain ⟨no, hno⟩ : ∃ n, lo.length = n := ⟨_, rfl⟩
  obtain ⟨nt, hnt⟩ : ∃ n, lt.length = n := ⟨_, rfl⟩
  rw [hno] at HY ⊢
  rw [hnt] at HX HSL htl ⊢
  clear hk hn hK hN ho hx hno hnt hB hol
  generalize Ae.tagOf key nonce lo (C3.Ch.xor key 1 nonce lt) = T at *
  generalize C3.Ch.xor key 1 nonce lt = S at *
  go_enter Tryd.func27, Tryd.ntmps27
  go_wp2_with (first | with_reducible (refine stop_builtin .append ?_))
  refine HX.out.mono ?_
  rintro e w1 ⟨v1, rfl, hown1, hb1⟩
  have HS1 : Hid (Src w1 v1 S) := Src.own HSB.out hown1
  have HB1 : Hid (Below w.heap.size w w1) := hb1
  clear hown1 hb1 HX
  obtain ⟨p1, c1, rfl⟩ := HS1.out.slice
  go_wp2_with (first | with_reducible (refine stop_builtin .append ?_))
  refine Stop.go ?_
  refine law_append_src w1.heap.size (.slice (some ⟨w1.heap.size, 0, none⟩) 0 0) 0 [] _ S rfl rfl (own_empty (Nat.le_refl _)) (HS1.out.below ((Below.refl _ _).alloc (Nat.le_refl _) _)) (by rw [HSL.out]; omega) (by simp) ?_
  intro v2 w2 hown2 hb2
  rw [HSL.out, List.nil_append, Nat.zero_add] at hown2
  have HO2 : Hid (w2.ownsRow w1.heap.size 5 1 v2 nt (ints .u8 S)) := hown2
  have HB2 : Hid (Below w1.heap.size w1 w2) := ((Below.refl _ _).alloc (Nat.le_refl _) _).trans hb2
  have HS2 : Hid (Src w2 (.slice p1 S.length c1) S) := HS1.out.below HB2.out
  have HW2 : Hid (Below w.heap.size w w2) := HB1.out.trans (HB2.out.mono HB1.out.size)
  clear hown2 hb2 HS1
  go_wp2_with (first | with_reducible (refine stop_builtin .append ?_))
  refine (HY.out w2 _ HW2.out HS2.out).mono ?_
  rintro e w3 ⟨v3, rfl, hown3, hb3⟩
  have HS3 : Hid (Src w3 v3 T) := Src.own HTB.out hown3
  have HO3 : Hid (w3.ownsRow w1.heap.size 5 1 v2 nt (ints .u8 S)) := own_below HO2.out hb3
  have HB3 : Hid (Below w1.heap.size w1 w3) := HB2.out.trans (hb3.mono HB2.out.size)
  clear hown3 hb3 HO2 HB2 HS2 HW2
  go_wp2_with (first | with_reducible (refine stop_builtin .append ?_))
  refine Stop.go ?_
  refine law_append_src w1.heap.size v2 nt S v3 T rfl rfl HO3.out HS3.out (by rw [HTL.out]; omega) HB3.out.size ?_
  intro v4 w4 hown4 hb4
  rw [HTL.out] at hown4
  have HO4 : Hid (w4.ownsRow w.heap.size 5 1 v4 (nt + 16) (ints .u8 (S ++ T))) := own_base hown4 HB1.out.size
  have HB4 : Hid (Below w.heap.size w w4) := HB1.out.trans ((HB3.out.trans hb4).mono HB1.out.size)
  clear hown4 hb4
  go_wp2_with fail
  go_ret
  exact ⟨_, rfl, HO4.out, HB4.out⟩
end Go.Proofs.YtbblokikhocdfaaDoor.A5
/- The document's example, by the kernel's own reckoning; the contract of the statements' anchor. -/
namespace Go.Proofs.YtbblokikhocdfaaDoor.S2
open Go.Proofs.YtbblokikhocdfaaDoor.Sp
open Go.RowKit
theorem code_jefe : Mk.code [74, 101, 102, 101] [119, 104, 97, 116, 32, 100, 111, 32, 121, 97, 32, 119, 97, 110, 116, 32, 102, 111, 114, 32, 110, 111, 116, 104, 105, 110, 103, 63] = [91, 220, 193, 70, 191, 96, 117, 78, 106, 4, 36, 38, 8, 149, 117, 199, 90, 0, 63, 8, 157, 39, 57, 131, 157, 236, 88, 185, 100, 236, 56, 67] := by decide +kernel
theorem jefe_ends : Ending.returned (.bool ((strB [91, 220, 193, 70, 191, 96, 117, 78, 106, 4, 36, 38, 8, 149, 117, 199, 90, 0, 63, 8, 157, 39, 57, 131, 157, 236, 88, 185, 100, 236, 56, 67]).toList == [91, 220, 193, 70, 191, 96, 117, 78, 106, 4, 36, 38, 8, 149, 117, 199, 90, 0, 63, 8, 157, 39, 57, 131, 157, 236, 88, 185, 100, 236, 56, 67])) = Ending.returned (.bool true) := by kernel_rfl
theorem bytesAt_lit {w : World} {g : Nat} {l : List Nat} {n : Nat} {fr : Nat × Nat} (hs : ∀ x ∈ l, x < 256) (hl : l.length = n) (h : w.heap[g]? = some (.cells (arr .u8 l) 5 fr)) : BytesAt w (.slice (some ⟨g, 0, none⟩) n n) l :=
  ⟨hs, .inr ⟨g, 0, n, by rw [hl], by omega, rangeAt_of_row h⟩⟩
end Go.Proofs.YtbblokikhocdfaaDoor.S2
/- mac: Equal. -/
namespace Go.Proofs.YtbblokikhocdfaaDoor.S2
open Go.Proofs.YtbblokikhocdfaaDoor.Sp
open Go.RowKit
theorem or_zero (u z : Nat) : u ||| z = 0 ↔ u = 0 ∧ z = 0 := Nat.or_eq_zero_iff
theorem xor_zero (x y : Nat) : x ^^^ y = 0 ↔ x = y := by
  constructor
  · intro h
    have : x ^^^ y ^^^ y = 0 ^^^ y := by rw [h]
    rwa [Nat.xor_assoc, Nat.xor_self, Nat.xor_zero, Nat.zero_xor] at this
  · rintro rfl
    exact Nat.xor_self x
theorem take_eq_succ {la lb : List Nat} {k : Nat} (ha : k < la.length) (hb : k < lb.length) : la.take (k + 1) = lb.take (k + 1) ↔ la.take k = lb.take k ∧ Sp.nth la k = Sp.nth lb k := by
  rw [List.take_add_one, List.take_add_one, Sp.nth_of ha, Sp.nth_of hb]
  constructor
  · intro h
    have h1 := congrArg List.length h
    have := List.append_inj h (by simp; omega)
    exact ⟨this.1, by simpa using this.2⟩
  · rintro ⟨h1, h2⟩
    rw [h1, h2]
set_option maxHeartbeats 1000000 in
theorem equal_any (la lb : List Nat) (p q : Option Addr) (n c m d : Nat) (w : World) (hA : BytesAt w (.slice p n c) la) (hB : BytesAt w (.slice q m d) lb) (hn : n ≤ 9223372036854775807) (hm : m ≤ 9223372036854775807) :
    Calls Tryd.prog 62 #[.slice p n c, .slice q m d] w fun e w' => e = .returned (.bool (decide (la = lb))) ∧ w' = w := by
  obtain ⟨hal, ha⟩ := bytesAt_src hA
  obtain ⟨hbl, hb⟩ := bytesAt_src hB
  have HAS : Hid (∀ x ∈ la, x < 256) := hA.1
  have HBS : Hid (∀ x ∈ lb, x < 256) := hB.1
  have HA : Hid (la ≠ [] → ∃ b o, p = some ⟨b, o, none⟩ ∧ w.rangeAt b o (ints .u8 la)) := ha
  have HB : Hid (lb ≠ [] → ∃ b o, q = some ⟨b, o, none⟩ ∧ w.rangeAt b o (ints .u8 lb)) := hb
  have HAL : Hid (la.length = n) := hal
  have HBL : Hid (lb.length = m) := hbl
  clear hA hB ha hb hal hbl
  by_cases hnm : n = m
  · subst hnm
    obtain ⟨R, hR⟩ : ∃ R, decide (la = lb) = R := ⟨_, rfl⟩
    rw [hR]
    have HR : Hid (decide (la = lb) = R) := hR
    clear hR
    go_enter Tryd.func62, Tryd.ntmps62
    go_wp2_with fail
    go_loopw [5, 15] (fun u i wr => ∃ k z : Nat, k ≤ n ∧ i = .int .i64 k ∧ u = .int .u8 z ∧ z < 256 ∧ Hid (z = 0 ↔ la.take k = lb.take k) ∧ Hid (wr = w)) (fun _ i _ => n - (intOf i).toNat)
    case atStart => exact ⟨0, 0, by omega, rfl, rfl, by decide, (by show _ ↔ _; simp), rfl⟩
    case round =>
      obtain ⟨k, z, hk, rfl, rfl, hz, HZ, HW⟩ := hrel
      have hw := HW.out
      subst hw
      clear HW
      by_cases hlt : k < n
      · obtain ⟨ba, oa, rfl, hra⟩ := HA.out (by intro e; have := HAL.out; rw [e] at this; simp at this; omega)
        obtain ⟨bb, ob, rfl, hrb⟩ := HB.out (by intro e; have := HBL.out; rw [e] at this; simp at this; omega)
        have e1 := hra k _ (ints_get .u8 la k (by rw [HAL.out]; exact hlt))
        have e2 := hrb k _ (ints_get .u8 lb k (by rw [HBL.out]; exact hlt))
        have x1 : Sp.nth la k < 256 := Sp.nth_lt (by decide) HAS.out _
        have x2 : Sp.nth lb k < 256 := Sp.nth_lt (by decide) HBS.out _
        have HN : Hid ((z ||| (Sp.nth la k ^^^ Sp.nth lb k)) = 0 ↔ la.take (k + 1) = lb.take (k + 1)) := by
          show _ ↔ _
          rw [or_zero, xor_zero, take_eq_succ (by rw [HAL.out]; exact hlt) (by rw [HBL.out]; exact hlt), HZ.out]
        generalize Sp.nth la k = y1 at *
        generalize Sp.nth lb k = y2 at *
        have x3 : y1 ^^^ y2 < 256 := Nat.xor_lt_two_pow (n := 8) x1 x2
        have x4 : z ||| (y1 ^^^ y2) < 256 := Nat.or_lt_two_pow (n := 8) hz x3
        have hx := u8_xor_nat _ _ x1 x2
        have ho := u8_or_nat _ _ hz x3
        have k0 : (0 : Int) ≤ (k : Int) := by omega
        have k1 : (k : Int) < (n : Int) := by omega
        clear hra hrb HZ x1 x2 x3
        go_wp2_with fail
        go_roundw
        case rel => exact ⟨k + 1, z ||| (y1 ^^^ y2), by omega, by go_num, rfl, x4, HN.out, trivial⟩
        case measure => simp [intOf]; omega
      · obtain rfl : k = n := by omega
        have hzz := HZ.out
        rw [List.take_of_length_le (by rw [HAL.out]; exact Nat.le_refl _), List.take_of_length_le (by rw [HBL.out]; exact Nat.le_refl _)] at hzz
        have HF : Hid (((z : Int) == 0) = R) := by
          show _ = _
          rw [← HR.out, show ((z : Int) == 0) = decide ((z : Int) = 0) from rfl]
          apply decide_eq_decide.2
          rw [← hzz]
          omega
        clear hzz HZ
        go_wp2_with fail
        go_ret
        exact ⟨by show Ending.returned (.bool ((z : Int) == 0)) = _; rw [HF.out], rfl⟩
  · have hne : la ≠ lb := fun e => hnm (by rw [← HAL.out, ← HBL.out, e])
    have h1 : ¬ (n : Int) = (m : Int) := by omega
    rw [decide_eq_false hne]
    clear hne
    go_enter Tryd.func62, Tryd.ntmps62
    go_wp2_with fail
    go_ret
    exact ⟨rfl, rfl⟩
end Go.Proofs.YtbblokikhocdfaaDoor.S2
/- The walk of MacEqual. -/
namespace Go.Proofs.YtbblokikhocdfaaDoor.S2
open Go.Proofs.YtbblokikhocdfaaDoor.Sp
open Go.RowKit
def IsV (x v : Value) (_ : World) : Prop := v = x
def StrV (l : List Nat) (v : Value) (_ : World) : Prop := v = .string (strB l)
theorem conv_empty (w : World) (p : Option Addr) (c : Nat) : (convert 32 9 (.slice p 0 c)).run Tryd.prog w = .ok (.string (strB [])) w := by
  rw [run_convert_bytes_string w 32 9 5 _ _ _ Tryd.underlying32 Tryd.underlying5 Tryd.underlying9]
  cases p with
  | none => rfl
  | some a => exact run_bytesToString w a 0 c [] (by rfl)
theorem conv_bytes {w : World} {v : Value} {l : List Nat} (h : BytesAt w v l) : (convert 32 9 v).run Tryd.prog w = .ok (.string (strB l)) w := by
  rcases h.2 with ⟨p, c, rfl, rfl⟩ | ⟨b, o, c, rfl, _, hr⟩
  · exact conv_empty w p c
  · exact run_conv w b o c l hr
theorem conv_run {o : Oper} {a' : Act} {w' : World} {l : List Nat} (t : Tmp) (ho : o.op = .convert 32 9 (.tmp t)) (h : BytesAt w' (a'.tmps.getD t undef) l) :
    (execOp a'.eval o).run Tryd.prog w' = .ok (.value (.string (strB l))) w' := by
  unfold execOp
  simp only [ho, Act.eval, Sem.run_bind, conv_bytes h, Result.andThen_ok, Sem.run_pure]
theorem pick_step {o : Oper} {a' : Act} {w' : World} {t u : Tmp} {r : Operand} (h0 : a'.tmps.getD t undef = .bool true) (h1 : a'.tmps.getD u undef = .bool true) (ho : o.op = .pick (.tmp t) (.tmp u) r) :
    (execOp a'.eval o).run Tryd.prog w' = .ok (.value (.bool true)) w' := by
  unfold execOp
  simp only [ho, Act.eval, h0, h1]
  simp [go_sem]
theorem below_trans' (x y z : World) (h : Below x.heap.size x y) (k : Below y.heap.size y z) : Below x.heap.size x z := h.trans (k.mono h.size)
theorem strB_fold : ∀ (l : List Nat) (r : ByteArray), ((l.map (fun (n : Nat) => (n : Int))).foldl (fun r n => r.push (UInt8.ofNat n.toNat)) r).data = r.data ++ (l.map fun n => UInt8.ofNat n).toArray
  | [], r => by simp
  | x :: l, r => by
    rw [List.map_cons, List.foldl_cons, strB_fold l]
    simp [ByteArray.push]
theorem strB_data (l : List Nat) : (strB l).data = (l.map fun n => UInt8.ofNat n).toArray := by
  unfold strB
  rw [strB_fold]
  simp
theorem map_inj_small : ∀ {la lb : List Nat}, (∀ x ∈ la, x < 256) → (∀ x ∈ lb, x < 256) → la.map (fun n => UInt8.ofNat n) = lb.map (fun n => UInt8.ofNat n) → la = lb
  | [], [], _, _, _ => rfl
  | [], _ :: _, _, _, h => by simp at h
  | _ :: _, [], _, _, h => by simp at h
  | x :: la, y :: lb, ha, hb, h => by
    simp only [List.map_cons, List.cons.injEq] at h
    have h1 : x = y := by
      have := congrArg UInt8.toNat h.1
      have hx := ha x (by simp)
      have hy := hb y (by simp)
      simp at this
      omega
    rw [h1, map_inj_small (fun z hz => ha z (by simp [hz])) (fun z hz => hb z (by simp [hz])) h.2]
theorem strB_inj {la lb : List Nat} (ha : ∀ x ∈ la, x < 256) (hb : ∀ x ∈ lb, x < 256) : strB la = strB lb ↔ la = lb := by
  constructor
  · intro h
    have h1 := congrArg ByteArray.data h
    rw [strB_data, strB_data] at h1
    exact map_inj_small ha hb (by simpa using h1)
  · rintro rfl
    rfl
theorem eqs_run {o : Oper} {a' : Act} {w' : World} {la lb : List Nat} (t u : Tmp) (ho : o.op = .binOp .eql 9 (.tmp t) (.tmp u) 9) (h0 : a'.tmps.getD t undef = .string (strB la)) (h1 : a'.tmps.getD u undef = .string (strB lb)) (ha : ∀ x ∈ la, x < 256) (hb : ∀ x ∈ lb, x < 256) :
    (execOp a'.eval o).run Tryd.prog w' = .ok (.value (.bool (decide (la = lb)))) w' := by
  have e : ((strB la).data.toList == (strB lb).data.toList) = decide (la = lb) := by
    rw [Bool.eq_iff_iff]
    rw [beq_iff_eq, decide_eq_true_iff, ← strB_inj ha hb]
    constructor
    · intro h
      exact ByteArray.ext (Array.ext' h)
    · intro h
      rw [h]
  unfold execOp
  simp only [ho, Act.eval, h0, h1]
  simp [go_sem]
  rw [ByteArray.toList_eq, ByteArray.toList_eq]
  exact e
theorem eqb_run {o : Oper} {a' : Act} {w' : World} {r : Bool} (t u : Tmp) (ho : o.op = .binOp .eql 4 (.tmp t) (.tmp u) 4) (h0 : a'.tmps.getD t undef = .bool r) (h1 : a'.tmps.getD u undef = .bool r) :
    (execOp a'.eval o).run Tryd.prog w' = .ok (.value (.bool true)) w' := by
  unfold execOp
  simp only [ho, Act.eval, h0, h1]
  simp [go_sem]
def equalV (x y : Value) (la lb : List Nat) : Nat → Value → World → Prop
  | 0 => IsV x
  | 1 => IsV y
  | 2 => IsV (.bool (decide (la = lb)))
  | 3 => IsV x
  | 4 => StrV la
  | 5 => IsV y
  | 6 => StrV lb
  | 7 => IsV (.bool (decide (la = lb)))
  | 8 => IsV (.bool true)
  | 9 => IsV (.bool true)
  | 10 => IsV x
  | 11 => IsV x
  | 12 => IsV (.bool true)
  | 13 => IsV (.bool true)
  | 14 => IsV (.bool true)
  | _ => fun _ _ => True
theorem equalV_kept (x y : Value) (la lb : List Nat) : ∀ i v w w', equalV x y la lb i v w → Below w.heap.size w w' → equalV x y la lb i v w'
  | 0, _, _, _, h, _ => h
  | 1, _, _, _, h, _ => h
  | 2, _, _, _, h, _ => h
  | 3, _, _, _, h, _ => h
  | 4, _, _, _, h, _ => h
  | 5, _, _, _, h, _ => h
  | 6, _, _, _, h, _ => h
  | 7, _, _, _, h, _ => h
  | 8, _, _, _, h, _ => h
  | 9, _, _, _, h, _ => h
  | 10, _, _, _, h, _ => h
  | 11, _, _, _, h, _ => h
  | 12, _, _, _, h, _ => h
  | 13, _, _, _, h, _ => h
  | 14, _, _, _, h, _ => h
  | _ + 15, _, _, _, _, _ => trivial
end Go.Proofs.YtbblokikhocdfaaDoor.S2
/- Steps of the statements' regions: codes, sums, strings. -/
namespace Go.Proofs.YtbblokikhocdfaaDoor.S2
open Go.Proofs.YtbblokikhocdfaaDoor.Sp
open Go.RowKit
/-- A slice that reads as these bytes. -/
def BV (l : List Nat) (v : Value) (w : World) : Prop := BytesAt w v l
theorem BV.kept {l : List Nat} {v : Value} {w w' : World} (h : BV l v w) (hb : Below w.heap.size w w') : BV l v w' := bytesAt_below h hb
/-- A slice of these values. -/
def PartsV (vs : List Value) (v : Value) (w : World) : Prop := ∃ g, v = .slice (some ⟨g, 0, none⟩) vs.length vs.length ∧ w.rangeAt g 0 vs
theorem PartsV.kept {vs : List Value} {v : Value} {w w' : World} (h : PartsV vs v w) (hb : Below w.heap.size w w') : PartsV vs v w' := by
  obtain ⟨g, rfl, h1⟩ := h
  exact ⟨g, rfl, rangeAt_below hb h1⟩
theorem bytesAt_slice {w : World} {v : Value} {l : List Nat} (h : BytesAt w v l) : ∃ p c, v = .slice p l.length c := by
  rcases h.2 with ⟨p, c, rfl, rfl⟩ | ⟨b, o, c, rfl, _⟩
  · exact ⟨p, c, rfl⟩
  · exact ⟨_, c, rfl⟩
theorem code_bytes {w : World} {g : Nat} {l : List Nat} (hs : ∀ x ∈ l, x < 256) (hl : l.length = 32) (h : w.heap[g]? = some (.cells (arr .u8 l) 5 (0, 0))) : BytesAt w (.slice (some ⟨g, 0, none⟩) 32 32) l :=
  ⟨hs, .inr ⟨g, 0, 32, by rw [hl], by omega, rangeAt_of_row h⟩⟩
theorem code_step {w' : World} {kv pv : Value} {key : List Nat} {vs : List Value} (ls : List (List Nat)) (hT : Tab w') (hk : BytesAt w' kv key) (hp : PartsV vs pv w') (hel : ∀ (i : Nat) (l : List Nat), ls[i]? = some l → ∃ u, vs[i]? = some u ∧ BytesAt w' u l) (hlen : ls.length = vs.length)
    (hkn : key.length ≤ 100000) (hlm : ls.length ≤ 1000) (hln : ls.flatten.length ≤ 1000000) :
    Calls Tryd.prog 33 #[kv, pv] w' fun e w2 => ∃ v, e = .returned v ∧ Below w'.heap.size w' w2 ∧ BV (Mk.code key ls.flatten) v w2 := by
  obtain ⟨p, c, rfl⟩ := bytesAt_slice hk
  obtain ⟨g, rfl, hr⟩ := hp
  rw [← hlen]
  refine (code_any key ls p key.length c g 0 ls.length vs w' hk hT (by omega) hr hel hlm (by omega)).mono ?_
  rintro e w2 ⟨b, rfl, _, h2, h3⟩
  exact ⟨_, rfl, h3, code_bytes (Mk.code_small _ _) (Mk.code_length _ _) h2⟩
theorem code1_step {w' : World} {kv pv y : Value} {key m : List Nat} (hT : Tab w') (hk : BytesAt w' kv key) (hp : PartsV [y] pv w') (hy : BytesAt w' y m) (hkn : key.length ≤ 100000) (hmn : m.length ≤ 1000000) :
    Calls Tryd.prog 33 #[kv, pv] w' fun e w2 => ∃ v, e = .returned v ∧ Below w'.heap.size w' w2 ∧ BV (Mk.code key m) v w2 := by
  have h := code_step [m] hT hk hp (fun i l hl => by
    match i with
    | 0 => simp at hl; subst hl; exact ⟨_, rfl, hy⟩
    | i + 1 => simp at hl) rfl hkn (by simp) (by simpa using hmn)
  simpa using h
theorem rsum_step {w' : World} {v : Value} {m : List Nat} (h : BytesAt w' v m) (h0 : m ≠ []) (hm : m.length ≤ 1000) :
    Calls Tryd.prog 26 #[v] w' fun e w2 => ∃ v, e = .returned v ∧ Below w'.heap.size w' w2 ∧ BV (Sp.sum m) v w2 := by
  rcases h.2 with ⟨p, c, rfl, rfl⟩ | ⟨b, o, c, rfl, hc, hr⟩
  · exact absurd rfl h0
  · refine (rsum_any m (some ⟨b, o, none⟩) c w' (.inr ⟨⟨b, o, none⟩, c, rfl, fun j u hu => by rw [Addr.add_mid]; exact hr j u hu⟩) h.1 hm).mono ?_
    rintro e w2 ⟨v, rfl, h1, h2⟩
    obtain ⟨g, c, rfl, hg, hgl, hr⟩ := own_cell h1 (by decide)
    refine ⟨_, rfl, h2, Mk.sum_small _, ?_⟩
    obtain ⟨_, ⟨he, h0⟩ | ⟨g', cap, cur, he, _, _, hnc, _⟩⟩ := h1
    · omega
    · cases he
      exact .inr ⟨g, 0, c, by rw [sum_length], by rw [sum_length]; exact hnc, hr⟩
theorem build1_run {o : Oper} {a' : Act} {w' : World} {p : Option Addr} {n c : Nat} (t : Tmp) (ho : o.op = .buildSlice 31 1 #[(0, .tmp t)]) (h0 : a'.tmps.getD t undef = .slice p n c) :
    (execOp a'.eval o).run Tryd.prog w' = .ok (.value (.slice (some ⟨w'.heap.size, 0, none⟩) 1 1)) (w'.alloc (.cells #[.slice p n c] 32)) := by
  have he : a'.eval (.tmp t) = .slice p n c := h0
  unfold execOp
  simp only [ho]
  generalize a'.eval = r at *
  simp [he, go_sem]
theorem build2_run {o : Oper} {a' : Act} {w' : World} {p q : Option Addr} {n c m d : Nat} (t u : Tmp) (ho : o.op = .buildSlice 31 2 #[(0, .tmp t), (1, .tmp u)]) (h0 : a'.tmps.getD t undef = .slice p n c) (h1 : a'.tmps.getD u undef = .slice q m d) :
    (execOp a'.eval o).run Tryd.prog w' = .ok (.value (.slice (some ⟨w'.heap.size, 0, none⟩) 2 2)) (w'.alloc (.cells #[.slice p n c, .slice q m d] 32)) := by
  have he : a'.eval (.tmp t) = .slice p n c := h0
  have hf : a'.eval (.tmp u) = .slice q m d := h1
  unfold execOp
  simp only [ho]
  generalize a'.eval = r at *
  simp [he, hf, go_sem]
theorem eq_run {o : Oper} {a' : Act} {w' : World} {s : ByteArray} (t u : Tmp) (ho : o.op = .binOp .eql 9 (.tmp t) (.tmp u) 9) (h0 : a'.tmps.getD t undef = .string s) (h1 : a'.tmps.getD u undef = .string s) :
    (execOp a'.eval o).run Tryd.prog w' = .ok (.value (.bool true)) w' := by
  unfold execOp
  simp only [ho, Act.eval, h0, h1]
  simp [go_sem]
namespace Mk
theorem fill_short (key : List Nat) : fill (short key) = fill key := by
  unfold fill
  have h : short (short key) = short key := by
    have := short_le key
    unfold short at this ⊢
    rw [if_neg (by omega)]
  rw [h]
theorem code_short (key m : List Nat) : code (short key) m = code key m := by
  unfold code
  rw [fill_short]
theorem code_long {key : List Nat} (h : 64 < key.length) (m : List Nat) : code (Sp.sum key) m = code key m := by
  rw [← code_short key m, show short key = Sp.sum key from by unfold short; rw [if_pos h]]
end Mk
end Go.Proofs.YtbblokikhocdfaaDoor.S2
/- The document's answer of layer 2: pad, Code. -/
namespace Go.Proofs.YtbblokikhocdfaaDoor.S2
open Go.Proofs.YtbblokikhocdfaaDoor.Sp
open Go.RowKit
theorem own_weaken {w : World} {b b' e size : Nat} {v : Value} {n : Nat} {xs : List Value} (h : w.ownsRow b e size v n xs) (hb : b' ≤ b) : w.ownsRow b' e size v n xs := by
  obtain ⟨h1, h2 | ⟨g, cap, cur, h3, hg, rest⟩⟩ := h
  · exact ⟨h1, .inl h2⟩
  · exact ⟨h1, .inr ⟨g, cap, cur, h3, Nat.le_trans hb hg, rest⟩⟩
theorem pad_next (key : List Nat) (x k N : Nat) (hk : k < 64) {S : List Nat} (hS : Mk.short key = S) (hN : S.length = N) : (Mk.mask (Mk.fill key) x).take (k + 1) = (Mk.mask (Mk.fill key) x).take k ++ [if k < N then Sp.nth S k ^^^ x else x] := by
  have hl : (Mk.mask (Mk.fill key) x).length = 64 := by rw [Mk.mask_length, Mk.fill_length]
  rw [List.take_add_one, Sp.nth_of (by rw [hl]; exact hk)]
  congr 1
  have e : Sp.nth (Mk.mask (Mk.fill key) x) k = if k < N then Sp.nth S k ^^^ x else x := by
    have hfl := Mk.fill_length key
    have h1 : Sp.nth (Mk.mask (Mk.fill key) x) k = Sp.nth (Mk.fill key) k ^^^ x := by
      simp [Sp.nth, Mk.mask, hfl, hk]
    rw [h1]
    unfold Mk.fill
    rw [hS, hN]
    by_cases h : k < N
    · rw [if_pos h, Sp.nth_append_left (by rw [hN]; exact h)]
    · rw [if_neg h]
      have h2 := Sp.nth_append_right (l := S) (m := List.replicate (64 - N) 0) (k - N)
      rw [hN, show N + (k - N) = k from by omega] at h2
      rw [h2]
      have h3 : Sp.nth (List.replicate (64 - N) 0) (k - N) = 0 := by
        simp only [Sp.nth, List.getD_eq_getElem?_getD, List.getElem?_replicate]
        split <;> rfl
      rw [h3, Nat.zero_xor]
  rw [e]
  rfl
set_option maxHeartbeats 2000000 in
theorem pad_any (key : List Nat) (p : Option Addr) (n c x : Nat) (w : World) (hK : BytesAt w (.slice p n c) key) (hn : n ≤ 1000) (hx : x < 256) :
    Calls Tryd.prog 45 #[.slice p n c, .int .u8 x] w fun e w' => ∃ v, e = .returned v ∧ w'.ownsRow w.heap.size 5 1 v 64 (ints .u8 (Mk.mask (Mk.fill key) x)) ∧ Below w.heap.size w w' := by
  have HK : Hid (BytesAt w (.slice p n c) key) := hK
  have HKL : Hid (key.length = n) := (bytesAt_src hK).1
  have n0 : (n : Int) ≤ 1000 := by omega
  clear hK
  by_cases hlong : 64 < n
  · have hl' : (64 : Int) < (n : Int) := by omega
    have HSE : Hid (Mk.short key = Sp.sum key) := by
      show _ = _
      unfold Mk.short
      rw [if_pos (by rw [HKL.out]; exact hlong)]
    have HSL : Hid ((Sp.sum key).length = 32) := sum_length key
    have HSS : Hid (∀ y ∈ Sp.sum key, y < 256) := Mk.sum_small key
    have HC := rsum_step HK.out (by intro e; have := HKL.out; rw [e] at this; simp at this; omega) (by rw [HKL.out]; exact hn)
    have HCH : Hid (Calls Tryd.prog 26 #[.slice p n c] w fun e w2 => ∃ v, e = .returned v ∧ Below w.heap.size w w2 ∧ BV (Sp.sum key) v w2) := HC
    clear HC
    obtain ⟨F, hF⟩ : ∃ F, Mk.mask (Mk.fill key) x = F := ⟨_, rfl⟩
    rw [hF]
    have HFN : Hid (∀ k, k < 64 → F.take (k + 1) = F.take k ++ [if k < 32 then Sp.nth (Sp.sum key) k ^^^ x else x]) := fun k hk => by
      rw [← hF]
      exact pad_next key x k 32 hk HSE.out HSL.out
    have HFL : Hid (F.length = 64) := by
      show _ = _
      rw [← hF, Mk.mask_length, Mk.fill_length]
    clear hF HSE
    go_enter Tryd.func45, Tryd.ntmps45
    go_wp2_with fail
    refine HCH.out.mono ?_
    rintro e W1 ⟨v1, rfl, hbw, hv1⟩
    obtain ⟨p1, c1, rfl⟩ := bytesAt_slice hv1
    rw [sum_length] at hv1
    rw [sum_length]
    have HBW : Hid (Below w.heap.size w W1) := hbw
    have HSRC : Hid (Sp.sum key ≠ [] → ∃ b o, p1 = some ⟨b, o, none⟩ ∧ W1.rangeAt b o (ints .u8 (Sp.sum key))) := (bytesAt_src hv1).2
    clear hbw hv1 HCH HK
    go_wp2_with fail
    go_loopw [5, 6] (fun sl i wr => ∃ k : Nat, k ≤ 64 ∧ i = .int .i64 k ∧ Hid (wr.ownsRow W1.heap.size 5 1 sl k (ints .u8 (F.take k))) ∧ Hid (Below W1.heap.size W1 wr)) (fun _ i _ => 64 - (intOf i).toNat)
    case atStart => exact ⟨0, by omega, rfl, own_none _ _ _ _, Below.refl _ _⟩
    case round =>
      obtain ⟨k, hk, rfl, HO, HB⟩ := hrel
      obtain ⟨q, cq, rfl⟩ := own_slice HO.out
      by_cases hlt : k < 64
      · have k1 : (k : Int) < 64 := by omega
        have k0 : (0 : Int) ≤ (k : Int) := by omega
        have HNX := HFN.out k hlt
        have hbs := HB.out.size
        by_cases hin : k < 32
        · have k2 : (k : Int) < (32 : Int) := by omega
          rw [if_pos hin] at HNX
          obtain ⟨b, o, hpe, hr⟩ := HSRC.out (by intro e; have := HSL.out; rw [e] at this; simp at this <;> omega)
          have hc1 := rangeAt_below HB.out hr k _ (ints_get .u8 (Sp.sum key) k (by rw [HSL.out]; exact hin))
          have hy : Sp.nth (Sp.sum key) k < 256 := Sp.nth_lt (by decide) HSS.out _
          have hxx := u8_xor_nat _ _ hx hy
          rw [Nat.xor_comm] at hxx
          have HN1 : Hid (F.take (k + 1) = F.take k ++ [Sp.nth (Sp.sum key) k ^^^ x]) := HNX
          clear HNX hr
          generalize Sp.nth (Sp.sum key) k = y at *
          generalize hZ : y ^^^ x = z at *
          subst hpe
          have hbA : Below wr.heap.size wr (wr.alloc (Obj.cells (arr .u8 [z]) 5)) := (Below.refl _ _).alloc (Nat.le_refl _) _
          have HO2 : Hid ((wr.alloc (Obj.cells (arr .u8 [z]) 5)).ownsRow W1.heap.size 5 1 (.slice q k cq) k (ints .u8 (F.take k))) := own_below HO.out hbA
          have HB2 : Hid (Below W1.heap.size W1 (wr.alloc (Obj.cells (arr .u8 [z]) 5))) := HB.out.trans (hbA.mono hbs)
          have HR2 : Hid (SrcIs (wr.alloc (Obj.cells (arr .u8 [z]) 5)) (.slice (some ⟨wr.heap.size, 0, none⟩) 1 1) [z]) := .inr ⟨⟨wr.heap.size, 0, none⟩, 1, rfl, fun j u hu => by rw [Addr.add_mid]; exact rangeAt_of_row (heap_alloc_new wr _) j u hu⟩
          clear hbA HO HB
          go_wp2_with (first | with_reducible (refine stop_builtin .append ?_))
          refine Stop.go ?_
          rw [show (Obj.cells #[Value.int .u8 ((z : Nat) : Int)] 5 : Obj) = Obj.cells (arr .u8 [z]) 5 from rfl]
          with_reducible refine law_append W1.heap.size (.slice q k cq) k (ints .u8 (F.take k)) (.slice (some ⟨wr.heap.size, 0, none⟩) 1 1) [z] ?asvA ?axvA HO2.out HR2.out (by simp; omega) HB2.out.size ?akA
          case asvA => exact rfl
          case axvA => exact rfl
          intro v6 w6 hown6 hg6
          have HO6 : Hid (w6.ownsRow W1.heap.size 5 1 v6 (k + 1) (ints .u8 (F.take (k + 1)))) := by
            rw [HN1.out, ints_append]
            exact hown6
          have HB6 : Hid (Below W1.heap.size W1 w6) := below_grown' HB2.out hg6 HO2.out HB2.out.size (Nat.le_refl _)
          clear hown6 hg6 HO2 HB2 HR2 HN1
          go_wp2_with fail
          go_roundw
          case rel => exact ⟨k + 1, by omega, by go_num, HO6.out, HB6.out⟩
          case measure => simp [intOf]; omega
        · have k2 : ¬ (k : Int) < (32 : Int) := by omega
          rw [if_neg hin] at HNX
          have HN1 : Hid (F.take (k + 1) = F.take k ++ [x]) := HNX
          clear HNX
          have hbA : Below wr.heap.size wr (wr.alloc (Obj.cells (arr .u8 [x]) 5)) := (Below.refl _ _).alloc (Nat.le_refl _) _
          have HO2 : Hid ((wr.alloc (Obj.cells (arr .u8 [x]) 5)).ownsRow W1.heap.size 5 1 (.slice q k cq) k (ints .u8 (F.take k))) := own_below HO.out hbA
          have HB2 : Hid (Below W1.heap.size W1 (wr.alloc (Obj.cells (arr .u8 [x]) 5))) := HB.out.trans (hbA.mono hbs)
          have HR2 : Hid (SrcIs (wr.alloc (Obj.cells (arr .u8 [x]) 5)) (.slice (some ⟨wr.heap.size, 0, none⟩) 1 1) [x]) := .inr ⟨⟨wr.heap.size, 0, none⟩, 1, rfl, fun j u hu => by rw [Addr.add_mid]; exact rangeAt_of_row (heap_alloc_new wr _) j u hu⟩
          clear hbA HO HB
          go_wp2_with (first | with_reducible (refine stop_builtin .append ?_))
          refine Stop.go ?_
          rw [show (Obj.cells #[Value.int .u8 ((x : Nat) : Int)] 5 : Obj) = Obj.cells (arr .u8 [x]) 5 from rfl]
          with_reducible refine law_append W1.heap.size (.slice q k cq) k (ints .u8 (F.take k)) (.slice (some ⟨wr.heap.size, 0, none⟩) 1 1) [x] ?bsvA ?bxvA HO2.out HR2.out (by simp; omega) HB2.out.size ?bkA
          case bsvA => exact rfl
          case bxvA => exact rfl
          intro v6 w6 hown6 hg6
          have HO6 : Hid (w6.ownsRow W1.heap.size 5 1 v6 (k + 1) (ints .u8 (F.take (k + 1)))) := by
            rw [HN1.out, ints_append]
            exact hown6
          have HB6 : Hid (Below W1.heap.size W1 w6) := below_grown' HB2.out hg6 HO2.out HB2.out.size (Nat.le_refl _)
          clear hown6 hg6 HO2 HB2 HR2 HN1
          go_wp2_with fail
          go_roundw
          case rel => exact ⟨k + 1, by omega, by go_num, HO6.out, HB6.out⟩
          case measure => simp [intOf]; omega
      · obtain rfl : k = 64 := by omega
        have hO := HO.out
        rw [List.take_of_length_le (by rw [HFL.out]; exact Nat.le_refl _)] at hO
        have HF : Hid (wr.ownsRow w.heap.size 5 1 (.slice q 64 cq) 64 (ints .u8 F)) := own_weaken hO HBW.out.size
        have HB9 : Hid (Below w.heap.size w wr) := HBW.out.trans (HB.out.mono HBW.out.size)
        clear hO HO HB
        go_wp2_with fail
        go_ret
        exact ⟨_, rfl, HF.out, HB9.out⟩
  · have hl' : ¬ (64 : Int) < (n : Int) := by omega
    have HSE : Hid (Mk.short key = key) := by
      show _ = _
      unfold Mk.short
      rw [if_neg (by rw [HKL.out]; exact hlong)]
    have HSL : Hid (key.length = n) := HKL.out
    have HSS : Hid (∀ y ∈ key, y < 256) := HK.out.1
    obtain ⟨W1, hW1⟩ : ∃ W1, w = W1 := ⟨_, rfl⟩
    have HBW : Hid (Below w.heap.size w W1) := by
      rw [← hW1]
      exact Below.refl _ _
    have HSRC : Hid (key ≠ [] → ∃ b o, p = some ⟨b, o, none⟩ ∧ W1.rangeAt b o (ints .u8 key)) := by
      rw [← hW1]
      exact (bytesAt_src HK.out).2
    obtain ⟨F, hF⟩ : ∃ F, Mk.mask (Mk.fill key) x = F := ⟨_, rfl⟩
    rw [hF]
    have HFN : Hid (∀ k, k < 64 → F.take (k + 1) = F.take k ++ [if k < n then Sp.nth key k ^^^ x else x]) := fun k hk => by
      rw [← hF]
      exact pad_next key x k n hk HSE.out HSL.out
    have HFL : Hid (F.length = 64) := by
      show _ = _
      rw [← hF, Mk.mask_length, Mk.fill_length]
    clear hF HSE
    rw [hW1]
    rw [hW1] at HBW HK
    subst hW1
    clear HK
    go_enter Tryd.func45, Tryd.ntmps45
    go_wp2_with fail
    go_loopw [5, 6] (fun sl i wr => ∃ k : Nat, k ≤ 64 ∧ i = .int .i64 k ∧ Hid (wr.ownsRow w.heap.size 5 1 sl k (ints .u8 (F.take k))) ∧ Hid (Below w.heap.size w wr)) (fun _ i _ => 64 - (intOf i).toNat)
    case atStart => exact ⟨0, by omega, rfl, own_none _ _ _ _, Below.refl _ _⟩
    case round =>
      obtain ⟨k, hk, rfl, HO, HB⟩ := hrel
      obtain ⟨q, cq, rfl⟩ := own_slice HO.out
      by_cases hlt : k < 64
      · have k1 : (k : Int) < 64 := by omega
        have k0 : (0 : Int) ≤ (k : Int) := by omega
        have HNX := HFN.out k hlt
        have hbs := HB.out.size
        by_cases hin : k < n
        · have k2 : (k : Int) < (n : Int) := by omega
          rw [if_pos hin] at HNX
          obtain ⟨b, o, hpe, hr⟩ := HSRC.out (by intro e; have := HSL.out; rw [e] at this; simp at this <;> omega)
          have hc1 := rangeAt_below HB.out hr k _ (ints_get .u8 key k (by rw [HSL.out]; exact hin))
          have hy : Sp.nth key k < 256 := Sp.nth_lt (by decide) HSS.out _
          have hxx := u8_xor_nat _ _ hx hy
          rw [Nat.xor_comm] at hxx
          have HN1 : Hid (F.take (k + 1) = F.take k ++ [Sp.nth key k ^^^ x]) := HNX
          clear HNX hr
          generalize Sp.nth key k = y at *
          generalize hZ : y ^^^ x = z at *
          subst hpe
          have hbA : Below wr.heap.size wr (wr.alloc (Obj.cells (arr .u8 [z]) 5)) := (Below.refl _ _).alloc (Nat.le_refl _) _
          have HO2 : Hid ((wr.alloc (Obj.cells (arr .u8 [z]) 5)).ownsRow w.heap.size 5 1 (.slice q k cq) k (ints .u8 (F.take k))) := own_below HO.out hbA
          have HB2 : Hid (Below w.heap.size w (wr.alloc (Obj.cells (arr .u8 [z]) 5))) := HB.out.trans (hbA.mono hbs)
          have HR2 : Hid (SrcIs (wr.alloc (Obj.cells (arr .u8 [z]) 5)) (.slice (some ⟨wr.heap.size, 0, none⟩) 1 1) [z]) := .inr ⟨⟨wr.heap.size, 0, none⟩, 1, rfl, fun j u hu => by rw [Addr.add_mid]; exact rangeAt_of_row (heap_alloc_new wr _) j u hu⟩
          clear hbA HO HB
          go_wp2_with (first | with_reducible (refine stop_builtin .append ?_))
          refine Stop.go ?_
          rw [show (Obj.cells #[Value.int .u8 ((z : Nat) : Int)] 5 : Obj) = Obj.cells (arr .u8 [z]) 5 from rfl]
          with_reducible refine law_append w.heap.size (.slice q k cq) k (ints .u8 (F.take k)) (.slice (some ⟨wr.heap.size, 0, none⟩) 1 1) [z] ?asvB ?axvB HO2.out HR2.out (by simp; omega) HB2.out.size ?akB
          case asvB => exact rfl
          case axvB => exact rfl
          intro v6 w6 hown6 hg6
          have HO6 : Hid (w6.ownsRow w.heap.size 5 1 v6 (k + 1) (ints .u8 (F.take (k + 1)))) := by
            rw [HN1.out, ints_append]
            exact hown6
          have HB6 : Hid (Below w.heap.size w w6) := below_grown' HB2.out hg6 HO2.out HB2.out.size (Nat.le_refl _)
          clear hown6 hg6 HO2 HB2 HR2 HN1
          go_wp2_with fail
          go_roundw
          case rel => exact ⟨k + 1, by omega, by go_num, HO6.out, HB6.out⟩
          case measure => simp [intOf]; omega
        · have k2 : ¬ (k : Int) < (n : Int) := by omega
          rw [if_neg hin] at HNX
          have HN1 : Hid (F.take (k + 1) = F.take k ++ [x]) := HNX
          clear HNX
          have hbA : Below wr.heap.size wr (wr.alloc (Obj.cells (arr .u8 [x]) 5)) := (Below.refl _ _).alloc (Nat.le_refl _) _
          have HO2 : Hid ((wr.alloc (Obj.cells (arr .u8 [x]) 5)).ownsRow w.heap.size 5 1 (.slice q k cq) k (ints .u8 (F.take k))) := own_below HO.out hbA
          have HB2 : Hid (Below w.heap.size w (wr.alloc (Obj.cells (arr .u8 [x]) 5))) := HB.out.trans (hbA.mono hbs)
          have HR2 : Hid (SrcIs (wr.alloc (Obj.cells (arr .u8 [x]) 5)) (.slice (some ⟨wr.heap.size, 0, none⟩) 1 1) [x]) := .inr ⟨⟨wr.heap.size, 0, none⟩, 1, rfl, fun j u hu => by rw [Addr.add_mid]; exact rangeAt_of_row (heap_alloc_new wr _) j u hu⟩
          clear hbA HO HB
          go_wp2_with (first | with_reducible (refine stop_builtin .append ?_))
          refine Stop.go ?_
          rw [show (Obj.cells #[Value.int .u8 ((x : Nat) : Int)] 5 : Obj) = Obj.cells (arr .u8 [x]) 5 from rfl]
          with_reducible refine law_append w.heap.size (.slice q k cq) k (ints .u8 (F.take k)) (.slice (some ⟨wr.heap.size, 0, none⟩) 1 1) [x] ?bsvB ?bxvB HO2.out HR2.out (by simp; omega) HB2.out.size ?bkB
          case bsvB => exact rfl
          case bxvB => exact rfl
          intro v6 w6 hown6 hg6
          have HO6 : Hid (w6.ownsRow w.heap.size 5 1 v6 (k + 1) (ints .u8 (F.take (k + 1)))) := by
            rw [HN1.out, ints_append]
            exact hown6
          have HB6 : Hid (Below w.heap.size w w6) := below_grown' HB2.out hg6 HO2.out HB2.out.size (Nat.le_refl _)
          clear hown6 hg6 HO2 HB2 HR2 HN1
          go_wp2_with fail
          go_roundw
          case rel => exact ⟨k + 1, by omega, by go_num, HO6.out, HB6.out⟩
          case measure => simp [intOf]; omega
      · obtain rfl : k = 64 := by omega
        have hO := HO.out
        rw [List.take_of_length_le (by rw [HFL.out]; exact Nat.le_refl _)] at hO
        have HF : Hid (wr.ownsRow w.heap.size 5 1 (.slice q 64 cq) 64 (ints .u8 F)) := own_weaken hO HBW.out.size
        have HB9 : Hid (Below w.heap.size w wr) := HBW.out.trans (HB.out.mono HBW.out.size)
        clear hO HO HB
        go_wp2_with fail
        go_ret
        exact ⟨_, rfl, HF.out, HB9.out⟩
end Go.Proofs.YtbblokikhocdfaaDoor.S2
/- The document's answer of layer 2: Code. -/
namespace Go.Proofs.YtbblokikhocdfaaDoor.S2
open Go.Proofs.YtbblokikhocdfaaDoor.Sp
open Go.RowKit
theorem rsum_own {w w' : World} {base : Nat} {v : Value} {l : List Nat} {n : Nat} (h : w.ownsRow base 5 1 v n (ints .u8 l)) (hl : l.length = n) (h0 : 0 < n) (hs : ∀ x ∈ l, x < 256) (hn : n ≤ 1000) (hb : Below w.heap.size w w') :
    Calls Tryd.prog 26 #[v] w' fun e w2 => ∃ v, e = .returned v ∧ w2.ownsRow w'.heap.size 5 1 v 32 (ints .u8 (Sp.sum l)) ∧ Below w'.heap.size w' w2 := by
  obtain ⟨g, c, rfl, _, _, hr⟩ := own_cell h h0
  subst hl
  exact rsum_any l (some ⟨g, 0, none⟩) c w' (.inr ⟨⟨g, 0, none⟩, c, rfl, fun j u hu => by rw [Addr.add_mid]; exact rangeAt_below hb hr j u hu⟩) hs hn
theorem own_src {w : World} {base : Nat} {v : Value} {l : List Nat} {n : Nat} (h : w.ownsRow base 5 1 v n (ints .u8 l)) (hl : l.length = n) (h0 : 0 < n) : SrcIs w v l := by
  obtain ⟨g, c, rfl, _, _, hr⟩ := own_cell h h0
  exact .inr ⟨⟨g, 0, none⟩, c, by rw [hl], fun j u hu => by rw [Addr.add_mid]; exact hr j u hu⟩
set_option maxHeartbeats 1000000 in
theorem rcode_any (key m : List Nat) (p : Option Addr) (n c : Nat) (mv : Value) (w : World) (hK : BytesAt w (.slice p n c) key) (hn : n ≤ 1000) (hM : SrcIs w mv m) (hms : ∀ x ∈ m, x < 256) (hm : m.length ≤ 900) :
    Calls Tryd.prog 25 #[.slice p n c, mv] w fun e w' => ∃ v, e = .returned v ∧ w'.ownsRow w.heap.size 5 1 v 32 (ints .u8 (Mk.code key m)) ∧ Below w.heap.size w w' := by
  have HP : Hid (∀ w1 x, Below w.heap.size w w1 → x < 256 → Calls Tryd.prog 45 #[.slice p n c, .int .u8 (x : Nat)] w1 fun e w' => ∃ v, e = .returned v ∧ w'.ownsRow w1.heap.size 5 1 v 64 (ints .u8 (Mk.mask (Mk.fill key) x)) ∧ Below w1.heap.size w1 w') := fun w1 x hb hx => pad_any key p n c x w1 (bytesAt_below hK hb) hn hx
  have HM : Hid (SrcIs w mv m) := hM
  have HMS : Hid (∀ x ∈ m, x < 256) := hms
  have HFS : Hid (∀ x ∈ Mk.fill key, x < 256) := Mk.fill_small hK.1
  have HFL : Hid ((Mk.fill key).length = 64) := Mk.fill_length key
  have HCD : Hid (Mk.code key m = Sp.sum (Mk.mask (Mk.fill key) 92 ++ Sp.sum (Mk.mask (Mk.fill key) 54 ++ m))) := rfl
  obtain ⟨CD, hCD⟩ : ∃ CD, Mk.code key m = CD := ⟨_, rfl⟩
  rw [hCD]
  rw [hCD] at HCD
  clear hK hM hms hCD
  generalize Mk.fill key = K at *
  have HL1 : Hid ((Mk.mask K 54).length = 64) := by
    show _ = _
    rw [Mk.mask_length, HFL.out]
  have HL2 : Hid ((Mk.mask K 92).length = 64) := by
    show _ = _
    rw [Mk.mask_length, HFL.out]
  go_enter Tryd.func25, Tryd.ntmps25
  go_wp2_with fail
  refine (HP.out w 54 (Below.refl _ _) (by decide)).mono ?_
  rintro e w1 ⟨v1, rfl, ho1, hb1⟩
  have HO1 : Hid (w1.ownsRow w.heap.size 5 1 v1 64 (ints .u8 (Mk.mask K 54))) := ho1
  have HB1 : Hid (Below w.heap.size w w1) := hb1
  clear ho1 hb1
  go_wp2_with (first | with_reducible (refine stop_builtin .append ?_))
  refine Stop.go ?_
  with_reducible refine law_append w.heap.size v1 64 (ints .u8 (Mk.mask K 54)) mv m ?asv ?axv HO1.out (SrcIs.below HM.out HB1.out) (by omega) HB1.out.size ?ak
  case asv => exact rfl
  case axv => exact rfl
  intro v2 w2 ho2 hg2
  rw [← ints_append] at ho2
  have HO2 : Hid (w2.ownsRow w.heap.size 5 1 v2 (64 + m.length) (ints .u8 (Mk.mask K 54 ++ m))) := ho2
  have HB2 : Hid (Below w.heap.size w w2) := below_grown' HB1.out hg2 HO1.out HB1.out.size (Nat.le_refl _)
  clear ho2 hg2 HO1 HB1
  go_wp2_with fail
  refine (rsum_own HO2.out (by rw [List.length_append, HL1.out]) (by omega) (fun x hx => by rcases List.mem_append.1 hx with h | h; exact Mk.mask_small HFS.out (by decide) x h; exact HMS.out x h) (by omega) (Below.refl _ _)).mono ?_
  rintro e w3 ⟨v3, rfl, ho3, hb3⟩
  have HS3 : Hid (SrcIs w3 v3 (Sp.sum (Mk.mask K 54 ++ m))) := own_src ho3 (sum_length _) (by decide)
  have HB3 : Hid (Below w.heap.size w w3) := HB2.out.trans (hb3.mono HB2.out.size)
  clear ho3 hb3 HO2 HB2
  go_wp2_with fail
  refine (HP.out w3 92 HB3.out (by decide)).mono ?_
  rintro e w4 ⟨v4, rfl, ho4, hb4⟩
  have HO4 : Hid (w4.ownsRow w3.heap.size 5 1 v4 64 (ints .u8 (Mk.mask K 92))) := ho4
  have HS4 : Hid (SrcIs w4 v3 (Sp.sum (Mk.mask K 54 ++ m))) := SrcIs.below HS3.out hb4
  have HB4 : Hid (Below w.heap.size w w4) := HB3.out.trans (hb4.mono HB3.out.size)
  have hs34 := hb4.size
  have hs3 := HB3.out.size
  clear ho4 hb4 HS3
  have HSL : Hid ((Sp.sum (Mk.mask K 54 ++ m)).length = 32) := sum_length _
  generalize hI : Sp.sum (Mk.mask K 54 ++ m) = I at *
  have HI : Hid (∀ x ∈ I, x < 256) := by
    rw [← hI]
    exact Mk.sum_small _
  clear hI
  go_wp2_with (first | with_reducible (refine stop_builtin .append ?_))
  refine Stop.go ?_
  with_reducible refine law_append w3.heap.size v4 64 (ints .u8 (Mk.mask K 92)) v3 I ?bsv ?bxv HO4.out HS4.out (by rw [HSL.out]; decide) hs34 ?bk
  case bsv => exact rfl
  case bxv => exact rfl
  intro v5 w5 ho5 hg5
  rw [← ints_append, HSL.out] at ho5
  have HO5 : Hid (w5.ownsRow w3.heap.size 5 1 v5 (64 + 32) (ints .u8 (Mk.mask K 92 ++ I))) := ho5
  have HB5 : Hid (Below w.heap.size w w5) := below_grown' HB4.out hg5 HO4.out HB4.out.size hs3
  clear ho5 hg5 HO4 HB4 HS4
  go_wp2_with fail
  refine (rsum_own HO5.out (by rw [List.length_append, HL2.out, HSL.out]) (by decide) (fun x hx => by rcases List.mem_append.1 hx with h | h; exact Mk.mask_small HFS.out (by decide) x h; exact HI.out x h) (by decide) (Below.refl _ _)).mono ?_
  rintro e w6 ⟨v6, rfl, ho6, hb6⟩
  rw [← HCD.out] at ho6
  have HO6 : Hid (w6.ownsRow w.heap.size 5 1 v6 32 (ints .u8 CD)) := own_weaken ho6 HB5.out.size
  have HB6 : Hid (Below w.heap.size w w6) := HB5.out.trans (hb6.mono HB5.out.size)
  clear ho6 hb6 HO5 HB5
  go_wp2_with fail
  go_ret
  exact ⟨_, rfl, HO6.out, HB6.out⟩
end Go.Proofs.YtbblokikhocdfaaDoor.S2
/- As wp_region_sa, where each step tells for itself that what lies in slots stays what it is. -/
namespace Go.Proofs.YtbblokikhocdfaaDoor
open Go.RowKit
section
variable {P : Program} {ops : Array Oper} {Q : Exit → Act → World → Prop}
theorem wp_region_sb {id : Nat} {a : Act} {w : World} (V : Nat → Value → World → Prop) (G : World → World → Prop) (S : (Nat → Bool) → Act → World → Prop) (hm : P.follows .mixedOrders = true)
    (hG0 : G w { w with drawn := w.drawn + 1 }) (hGt : ∀ x y z, G x y → G y z → G x z)
    (hok : regionOk ops a.tmps.size = true) (hS0 : S (fun _ => false) a { w with drawn := w.drawn + 1 })
    (hstep : ∀ i o a' w' f, ops[i]? = some o → RInv ops V G a w a' w' → S f a' w' → f i = false → (∀ e ∈ o.after, Region.binds .any e = true → f e.on = true) →
      (∀ e ∈ o.after, Region.binds .any e = true → ∀ d, (ops[e.on]?).bind (·.dst) = some d → V e.on (a'.tmps.getD d undef) w') →
      wpOp P ops Q i (fun a'' w'' => G w' w'' ∧ S (fun j => if j = i then true else f j) a'' w'' ∧ (∀ j d, f j = true → (ops[j]?).bind (·.dst) = some d → V j (a'.tmps.getD d undef) w' → V j (a'.tmps.getD d undef) w'') ∧ ∃ v, a'' = a'.put o.dst v ∧ V i v w'') a' w')
    (hend : ∀ a' w' f, RInv ops V G a w a' w' → S f a' w' → (∀ i, i < ops.size → f i = true) → (∀ i d, (ops[i]?).bind (·.dst) = some d → V i (a'.tmps.getD d undef) w') → Q .normal a' w') : (Code.region id ops true).wp P Q a w := by
  refine wp_region_any hm ?_
  have key : ∀ (fuel : Nat) (listed : Array Bool) (a' : Act) (w' : World), listed.size = ops.size → listed.toList.count false ≤ fuel → RInv ops V G a w a' w' → S (fun j => listed.getD j false) a' w' →
      (∀ i d, listed.getD i false = true → (ops[i]?).bind (·.dst) = some d → V i (a'.tmps.getD d undef) w') → wpAny P .any ops Q fuel listed a' w' := by
    intro fuel
    induction fuel with
    | zero =>
      intro listed a' w' hs hc inv hst hd
      have hnone : ∀ i, i < ops.size → listed.getD i false = true := fun i hi => by
        have h0 : false ∉ listed.toList := List.count_eq_zero.1 (Nat.le_zero.1 hc)
        have hi' : i < listed.size := by omega
        cases hb : listed[i] with
        | true => simp [hi', hb]
        | false => exact absurd (Array.getElem_mem_toList hi') (by rw [hb]; exact h0)
      refine ⟨?_, hend a' w' _ inv hst hnone (fun i d hid => hd i d (hnone i ?_) hid)⟩
      · apply List.eq_nil_iff_forall_not_mem.2
        intro j hj
        obtain ⟨h1, o, ho, _⟩ := mem_ready.1 hj
        have := hnone j (Array.getElem?_eq_some_iff.1 ho).1
        have hj' : j < listed.size := by have := (Array.getElem?_eq_some_iff.1 ho).1; omega
        simp [hj'] at h1 this
        rw [h1] at this
        cases this
      · cases ho : ops[i]? with
        | none => simp [ho] at hid
        | some o => exact (Array.getElem?_eq_some_iff.1 ho).1
    | succ fuel ih =>
      intro listed a' w' hs hc inv hst hd
      refine ⟨fun hnil => ?_, fun i hi => ?_⟩
      · have hall : ∀ n i, i < n → i < ops.size → listed.getD i false = true := by
          intro n
          induction n with
          | zero => intro i hi; omega
          | succ n ihn =>
            intro i hi hlt
            have hil : i < listed.size := by omega
            cases hb : listed[i] with
            | true => simp [hil, hb]
            | false =>
              exfalso
              obtain ⟨o, ho⟩ : ∃ o, ops[i]? = some o := ⟨_, Array.getElem?_eq_getElem hlt⟩
              have : i ∈ Region.ready .any ops listed := mem_ready.2 ⟨by simp [hil, hb], o, ho, fun e he hbd => by
                have h3 := (regionOk_spec hok ho).1 e he hbd
                exact ihn e.on (by omega) (by omega)⟩
              rw [hnil] at this
              cases this
        refine hend a' w' _ inv hst (fun i hi => hall (i + 1) i (by omega) hi) (fun i d hid => hd i d (hall (i + 1) i (by omega) ?_) hid)
        cases ho : ops[i]? with
        | none => simp [ho] at hid
        | some o => exact (Array.getElem?_eq_some_iff.1 ho).1
      · obtain ⟨hun, o, ho, hall⟩ := mem_ready.1 hi
        have hlt : i < ops.size := (Array.getElem?_eq_some_iff.1 ho).1
        have hil : i < listed.size := by omega
        refine wpOp_mono (fun a'' w'' hk => ?_) (hstep i o a' w' _ ho inv hst (by simpa [hil] using hun) (fun e he hb => hall e he hb) (fun e he hb d hed => hd e.on d (hall e he hb) hed))
        obtain ⟨hg, hst', hkeep, v, rfl, hv⟩ := hk
        refine ih _ _ _ (by simpa using hs) ?_ ⟨by rw [size_put]; exact inv.size, by rw [defers_put]; exact inv.defers, hGt _ _ _ inv.grow hg, fun t ht => ?_⟩ ?_ (fun j d hj hjd => ?_)
        · have hf : listed.toList[i]? = some false := by
            simp [hil] at hun ⊢
            exact hun
          rw [Array.toList_setIfInBounds]
          have hcnt := List.count_set (l := listed.toList) (i := i) (a := true) (b := false) (by simpa using hil)
          have hget : listed.toList[i]'(by simpa using hil) = false := (List.getElem?_eq_some_iff.1 hf).2
          rw [hcnt, hget, if_pos (by rfl), if_neg (by decide)]
          omega
        · rw [getD_put _ _ _ _ (fun e => ht i (by rw [ho]; exact e))]
          exact inv.old t ht
        · have hfe : (fun j => (listed.setIfInBounds i true).getD j false) = fun j => if j = i then true else listed.getD j false := by
            funext j
            by_cases hji : j = i
            · subst hji
              simp [hil]
            · rw [getD_set_ne false (Ne.symm hji), if_neg hji]
          rw [hfe]
          exact hst'
        · by_cases hji : j = i
          · subst hji
            have hod : o.dst = some d := by simpa [ho] using hjd
            rw [hod, getD_put_same _ _ _ (by rw [inv.size]; exact ((regionOk_spec hok ho).2 d hod).1)]
            exact hv
          · rw [getD_put _ _ _ _ (fun e => ((regionOk_spec hok ho).2 d e).2 j hji hjd)]
            rw [getD_set_ne false (Ne.symm hji)] at hj
            exact hkeep j d hj hjd (hd j d hj hjd)
  refine key ops.size _ a _ (by simp) ?_ ⟨rfl, rfl, hG0, fun _ _ => rfl⟩ ?_ (fun i d hi _ => by rw [replicate_false] at hi; cases hi)
  · exact Nat.le_trans List.count_le_length (by simp)
  · have hfe : (fun j => (Array.replicate ops.size false).getD j false) = fun _ => false := funext (replicate_false ops.size)
    rw [hfe]
    exact hS0
end
end Go.Proofs.YtbblokikhocdfaaDoor
/- SuiteReal: the steps of its last region. -/
namespace Go.Proofs.YtbblokikhocdfaaDoor.S7
open Go.RowKit
theorem run_app_nothing (w : World) (b : Addr) (q : Option Addr) (c : Nat) : (Builtin.append_ #[32, 32] 32 #[.slice (some b) 0 0, .slice q 0 c]).run Tryd.prog w = .ok (.slice (some b) 0 0) w := by
  obtain ⟨i, hi, hsz, hby, hz⟩ := info5e
  cases q <;> simp [Builtin.append_, run_underlying Tryd.underlying32, sizeOf, typeInfo, hi, Builtin.lenOf, Builtin.firstCells, storeCells, loadCells, loadCellsFrom]
/-- Bytes put behind an empty row without room: a row that is new, or nothing at all. -/
theorem app_zero (w : World) (g : Nat) (sv : Value) (l : List Nat) (hs : Src w sv l) (hl : l.length ≤ 1000) :
    ∃ v w', (Builtin.append_ #[32, 32] 32 #[.slice (some ⟨g, 0, none⟩) 0 0, sv]).run Tryd.prog w = .ok v w' ∧ Below w.heap.size w w' ∧ ((l = [] ∧ v = .slice (some ⟨g, 0, none⟩) 0 0) ∨ (l ≠ [] ∧ OwnV w.heap.size l v w')) := by
  by_cases h0 : l = []
  · obtain ⟨q, c, rfl, _⟩ := hs.slice
    subst h0
    exact ⟨_, _, run_app_nothing w _ q c, Below.refl _ _, .inl ⟨rfl, rfl⟩⟩
  · obtain ⟨i, hi, hsz, hby, hz⟩ := info5e
    obtain ⟨_, ⟨_, rfl⟩ | ⟨_, _, _, rfl⟩ | ⟨b, o, c, rfl, hc, hr⟩⟩ := hs
    · exact absurd rfl h0
    · exact absurd rfl h0
    · obtain ⟨v', w', h1, h2, h3, _⟩ := run_append_own (P := Tryd.prog) (w := w) w.heap.size 32 32 5 i _ 1 1 Tryd.underlying32 hi hz hsz hby rfl (by decide) (.slice none 0 0) 0 [] (own_none _ _ _ _) ⟨b, o, none⟩ l.length c (ints .u8 l) (by rw [ints_length]; omega) (fun j u hu => by rw [Addr.add_mid]; exact hr j u hu) (fun u hu => by obtain ⟨q, _, rfl⟩ := List.mem_map.1 hu; rfl) (by unfold maxLen; omega) (by omega) (Nat.le_refl _)
      have hpos : 0 < l.length := List.length_pos_iff.2 h0
      have hcell : ∀ j u, (ints .u8 l)[j]? = some u → w.cell? ((⟨b, o, none⟩ : Addr).add j) = some u := fun j u hu => by rw [Addr.add_mid]; exact hr j u hu
      have hn := run_append_nil (P := Tryd.prog) w 32 32 5 i _ Tryd.underlying32 hi hz ⟨b, o, none⟩ l.length c (ints .u8 l) (by rw [ints_length, hsz]; omega) hcell hpos (by omega) (by rw [hby]; omega)
      have hg := run_append_grow (P := Tryd.prog) w 32 32 5 i _ Tryd.underlying32 hi hz ⟨g, 0, none⟩ 0 0 [] (by simp) (by simp) ⟨b, o, none⟩ l.length c (ints .u8 l) (by rw [ints_length, hsz]; omega) hcell (by omega) (by omega) (growslice_fits (by omega) (by rw [hby]; omega))
      have e : (Builtin.append_ #[32, 32] 32 #[.slice (some ⟨g, 0, none⟩) 0 0, .slice (some ⟨b, o, none⟩) l.length c]).run Tryd.prog w = (Builtin.append_ #[32, 32] 32 #[.slice none 0 0, .slice (some ⟨b, o, none⟩) l.length c]).run Tryd.prog w := by
        rw [hg, hn]
        simp
      refine ⟨v', w', e.trans h1, below_append (own_none _ _ 5 1) h3 (Nat.le_refl _), .inr ⟨h0, ?_⟩⟩
      simpa [OwnV] using h2
section
variable {P : Program} {ops : Array Oper} {Q : Exit → Act → World → Prop} {V : Nat → Value → World → Prop} {cs : List Nat} {R : Nat → Value → Value → World → Prop} {f : Nat → Bool} {B t1 t2 : Nat}
theorem sb_value {i : Nat} {o : Oper} {a' : Act} {w' w'' : World} (v : Value) (hi : ops[i]? = some o) (hw : Region.wanted o (yielded ops a'.tmps) = true)
    (hr : (execOp a'.eval o).run P w' = .ok (.value v) w'') (hb : Below w'.heap.size w' w'') (hB : B ≤ w'.heap.size) (h1 : o.dst ≠ some t1) (h2 : o.dst ≠ some t2) (hn : i ∉ cs) (hS : SeqA cs R t1 t2 f a' w')
    (hR : ∀ k x y w w', Below w.heap.size w w' → R k x y w → R k x y w') (hK : ∀ j v w w', V j v w → Below w.heap.size w w' → V j v w') (hv : V i v w'') :
    wpOp P ops Q i (fun a'' w2 => Below B w' w2 ∧ SeqA cs R t1 t2 (fun j => if j = i then true else f j) a'' w2 ∧ (∀ j d, f j = true → (ops[j]?).bind (·.dst) = some d → V j (a'.tmps.getD d undef) w' → V j (a'.tmps.getD d undef) w2) ∧ ∃ v, a'' = a'.put o.dst v ∧ V i v w2) a' w' := by
  refine wpOp_value v hi hw hr ⟨hb.mono hB, ?_, fun j d _ _ h => hK j _ _ _ h hb, v, rfl, hv⟩
  unfold SeqA
  rw [getD_put _ _ _ _ h1, getD_put _ _ _ _ h2]
  exact SeqS.quiet hS hn (fun k => hR k _ _ w' w'' hb)
/-- A step of the chain behind which nothing is said of the slots. -/
theorem sb_event {i k : Nat} {o : Oper} {a' : Act} {w' w'' : World} (v : Value) (hi : ops[i]? = some o) (hw : Region.wanted o (yielded ops a'.tmps) = true)
    (hr : (execOp a'.eval o).run P w' = .ok (.value v) w'') (hb : Below B w' w'') (hk : cs[k]? = some i) (hnd : cs.Nodup) (hf : f i = false) (hp : ∀ c, k ≠ 0 → cs[k - 1]? = some c → f c = true) (hS : SeqA cs R t1 t2 f a' w')
    (hR' : ∀ x y u, R (k + 1) x y u) (hK : (∀ j c, cs[j]? = some c → (f c = true ↔ j < k)) → R k (a'.tmps.getD t1 undef) (a'.tmps.getD t2 undef) w' → ∀ j d, f j = true → (ops[j]?).bind (·.dst) = some d → V j (a'.tmps.getD d undef) w' → V j (a'.tmps.getD d undef) w'') (hv : V i v w'') :
    wpOp P ops Q i (fun a'' w2 => Below B w' w2 ∧ SeqA cs R t1 t2 (fun j => if j = i then true else f j) a'' w2 ∧ (∀ j d, f j = true → (ops[j]?).bind (·.dst) = some d → V j (a'.tmps.getD d undef) w' → V j (a'.tmps.getD d undef) w2) ∧ ∃ v, a'' = a'.put o.dst v ∧ V i v w2) a' w' := by
  obtain ⟨g1, g2⟩ := SeqS.at hS hk hf hp
  exact wpOp_value v hi hw hr ⟨hb, SeqS.next hk hnd g2 (hR' _ _ _), hK g2 g1, v, rfl, hv⟩
theorem sb_event2 {i k : Nat} {o : Oper} {a' : Act} {w' w'' : World} (v : Value) (hi : ops[i]? = some o) (hw : Region.wanted o (yielded ops a'.tmps) = true)
    (hr : (execOp a'.eval o).run P w' = .ok (.value v) w'') (hb : Below w'.heap.size w' w'') (hB : B ≤ w'.heap.size) (hk : cs[k]? = some i) (hnd : cs.Nodup) (hf : f i = false) (hp : ∀ c, k ≠ 0 → cs[k - 1]? = some c → f c = true) (hS : SeqA cs R t1 t2 f a' w')
    (hd : o.dst = some t2) (ht : t2 < a'.tmps.size) (hne : t2 ≠ t1) (hR' : R (k + 1) (a'.tmps.getD t1 undef) v w'') (hK : ∀ j v w w', V j v w → Below w.heap.size w w' → V j v w') (hv : V i v w'') :
    wpOp P ops Q i (fun a'' w2 => Below B w' w2 ∧ SeqA cs R t1 t2 (fun j => if j = i then true else f j) a'' w2 ∧ (∀ j d, f j = true → (ops[j]?).bind (·.dst) = some d → V j (a'.tmps.getD d undef) w' → V j (a'.tmps.getD d undef) w2) ∧ ∃ v, a'' = a'.put o.dst v ∧ V i v w2) a' w' := by
  obtain ⟨_, g2⟩ := SeqS.at hS hk hf hp
  refine wpOp_value v hi hw hr ⟨hb.mono hB, SeqS.next hk hnd g2 ?_, fun j d _ _ h => hK j _ _ _ h hb, v, rfl, hv⟩
  rw [hd, getD_put_same _ _ _ ht, getD_put _ _ _ _ (fun e => hne (Option.some.inj e))]
  exact hR'
theorem sb_call {i k : Nat} {o : Oper} {a' : Act} {w' : World} (fn : FuncId) (args : Array Value) (hi : ops[i]? = some o) (hw : Region.wanted o (yielded ops a'.tmps) = true)
    (hr : (execOp a'.eval o).run P w' = .ok (.enter fn args) w') (hB : B ≤ w'.heap.size) (hk : cs[k]? = some i) (hnd : cs.Nodup) (hf : f i = false) (hp : ∀ c, k ≠ 0 → cs[k - 1]? = some c → f c = true) (hS : SeqA cs R t1 t2 f a' w')
    (hR' : ∀ x y u, R (k + 1) x y u) (hK : ∀ j v w w', V j v w → Below w.heap.size w w' → V j v w')
    (h : Calls P fn args w' fun e w2 => ∃ v, e = .returned v ∧ Below w'.heap.size w' w2 ∧ V i v w2) :
    wpOp P ops Q i (fun a'' w2 => Below B w' w2 ∧ SeqA cs R t1 t2 (fun j => if j = i then true else f j) a'' w2 ∧ (∀ j d, f j = true → (ops[j]?).bind (·.dst) = some d → V j (a'.tmps.getD d undef) w' → V j (a'.tmps.getD d undef) w2) ∧ ∃ v, a'' = a'.put o.dst v ∧ V i v w2) a' w' := by
  obtain ⟨_, h2⟩ := SeqS.at hS hk hf hp
  exact wpOp_call fn args hi hw hr (h.mono fun _ _ ⟨v, he, hb, hv⟩ => ⟨v, he, hb.mono hB, SeqS.next hk hnd h2 (hR' _ _ _), fun j d _ _ h => hK j _ _ _ h hb, v, rfl, hv⟩)
end
section
variable {o : Oper} {a' : Act} {w' w'' : World}
/-- Two parts that are laid for a call. -/
def PartT2 (x y : Value) (v : Value) (w : World) : Prop := ∃ g, v = .slice (some ⟨g, 0, none⟩) 2 2 ∧ w.heap[g]? = some (.cells #[x, y] 32 (0, 0))
/-- A row of bytes without room. -/
def NoneV (v : Value) (_ : World) : Prop := ∃ g, v = .slice (some ⟨g, 0, none⟩) 0 0
theorem part2_run (s t : Tmp) (x y : Value) (ho : o.op = .buildSlice 31 2 #[(0, .tmp s), (1, .tmp t)]) (hx : ∃ p n c, x = .slice p n c) (hy : ∃ p n c, y = .slice p n c) (h0 : a'.tmps.getD s undef = x) (h1 : a'.tmps.getD t undef = y) :
    (execOp a'.eval o).run Tryd.prog w' = .ok (.value (.slice (some ⟨w'.heap.size, 0, none⟩) 2 2)) (w'.alloc (.cells #[x, y] 32)) := by
  obtain ⟨p, n, c, rfl⟩ := hx
  obtain ⟨p', n', c', rfl⟩ := hy
  have he : a'.eval (.tmp s) = .slice p n c := h0
  have he' : a'.eval (.tmp t) = .slice p' n' c' := h1
  unfold execOp
  simp only [ho]
  generalize a'.eval = r at *
  simp [he, he', go_sem]
theorem none_run (ho : o.op = .buildSlice 32 0 #[]) :
    (execOp a'.eval o).run Tryd.prog w' = .ok (.value (.slice (some ⟨w'.heap.size, 0, none⟩) 0 0)) (w'.alloc (.cells #[] 5)) := by
  unfold execOp
  simp only [ho]
  generalize a'.eval = r at *
  simp [go_sem]
theorem app_run (s t : Tmp) (x y v : Value) (ho : o.op = .call { callee := .builtin .append, args := #[.tmp s, .tmp t], argTypes := #[32, 32] }) (hty : o.type = 32) (h0 : a'.tmps.getD s undef = x) (h1 : a'.tmps.getD t undef = y)
    (h : (Builtin.append_ #[32, 32] 32 #[x, y]).run Tryd.prog w' = .ok v w'') : (execOp a'.eval o).run Tryd.prog w' = .ok (.value v) w'' := by
  have he : a'.eval (.tmp s) = x := h0
  have he' : a'.eval (.tmp t) = y := h1
  unfold execOp
  simp only [ho, hty, resolve, invoke, builtin, Sem.run_bind, Sem.run_pure, Result.andThen_ok, List.map_toArray, List.map_cons, List.map_nil, he, he', h]
theorem eqlNN_run (s t : Tmp) (z : Int) (ho : o.op = .binOp .eql 3 (.tmp s) (.tmp t) 3) (h0 : a'.tmps.getD s undef = .int .i64 z) (h1 : a'.tmps.getD t undef = .int .i64 z) :
    (execOp a'.eval o).run Tryd.prog w' = .ok (.value (.bool true)) w' := by
  have he : a'.eval (.tmp s) = .int .i64 z := h0
  have hc : a'.eval (.tmp t) = .int .i64 z := h1
  unfold execOp
  simp only [ho]
  rw [he, hc]
  simp [go_sem]
theorem cut_run (b : Nat) (ho : o.op = .slice 47 (.tmp 8) none none none) (h0 : a'.tmps.getD 8 undef = .pointer (some ⟨b, 0, none⟩)) :
    (execOp a'.eval o).run Tryd.prog w' = .ok (.value (.slice (some ⟨b, 0, none⟩) 12 12)) w' := by
  have he : a'.eval (.tmp 8) = .pointer (some ⟨b, 0, none⟩) := h0
  have hu := under47
  unfold execOp
  simp only [ho]
  generalize a'.eval = r at *
  simp [he, go_sem, hu]
theorem PartT2.below {x y v : Value} {w w' : World} (h : PartT2 x y v w) (hb : Below w.heap.size w w') : PartT2 x y v w' := by
  obtain ⟨g, rfl, h⟩ := h
  exact ⟨g, rfl, (hb.block g (Array.getElem?_eq_some_iff.1 h).1).trans h⟩
theorem PartT2.parts {x y v : Value} {lx ly : List Nat} {w : World} (h : PartT2 x y v w) (hx : Src w x lx) (hy : Src w y ly) : S2.PartsAt w v [lx, ly] := by
  obtain ⟨g, rfl, h⟩ := h
  refine .inr ⟨g, 0, 2, [x, y], rfl, by simp, fun j u hu => ?_, fun i l hl => ?_⟩
  · match j with
    | 0 => simp at hu; subst hu; simp [World.cell?, h]
    | 1 => simp at hu; subst hu; simp [World.cell?, h]
    | j + 2 => simp at hu
  · match i with
    | 0 => simp at hl; subst hl; exact ⟨x, rfl, hx.bytesAt⟩
    | 1 => simp at hl; subst hl; exact ⟨y, rfl, hy.bytesAt⟩
    | i + 2 => simp at hl
end
/-- Between the two appends: the row that the second one may write into, and that it is not the sum's. -/
def rlR (B : Nat) (lt : List Nat) (k : Nat) (x y : Value) (u : World) : Prop := k = 4 → (lt = [] ∧ NoneV y u) ∨ (OwnV B lt y u ∧ ∀ g, y.ownBlock = some g → x.ownBlock ≠ some g)
theorem rlR_quiet {B : Nat} {lt : List Nat} (k : Nat) (x y : Value) (w w' : World) (hb : Below w.heap.size w w') (h : rlR B lt k x y w) : rlR B lt k x y w' := fun hk => by
  rcases h hk with h1 | ⟨h1, h2⟩
  · exact .inl h1
  · exact .inr ⟨h1.rows (Kp.of_below hb (Nat.zero_le _)), h2⟩
/-- The second append: what it leaves behind, and what stays. -/
theorem app_second {w : World} {B : Nat} {lt lo : List Nat} {x y sv : Value} (h : rlR B lt 4 x y w) (hs : Src w sv lo) (hlt : ∀ b ∈ lt, b < 256) (hl : lt.length + lo.length ≤ 1000) (hB : B ≤ w.heap.size) :
    ∃ v w', (Builtin.append_ #[32, 32] 32 #[y, sv]).run Tryd.prog w = .ok v w' ∧ Below B w w' ∧ Src w' v (lt ++ lo) ∧ (∀ l, OwnV 0 l x w → OwnV 0 l x w') ∧ (∀ (g : Nat) (cs : Array Value), w.heap[g]? = some (Obj.cells cs 32 (0, 0)) → w'.heap[g]? = some (Obj.cells cs 32 (0, 0))) := by
  rcases h rfl with ⟨rfl, g, rfl⟩ | ⟨hown, hoff⟩
  · obtain ⟨v, w', hr, hb, h1⟩ := app_zero w g sv lo hs (by omega)
    refine ⟨v, w', hr, hb.mono hB, ?_, fun l hx => hx.rows (Kp.of_below hb (Nat.zero_le _)), fun k cs hk => (hb.block k (Array.getElem?_eq_some_iff.1 hk).1).trans hk⟩
    rcases h1 with ⟨rfl, rfl⟩ | ⟨_, h1⟩
    · exact ⟨fun x hx => by simp at hx, .inr (.inl ⟨_, _, rfl, rfl⟩)⟩
    · exact h1.src hs.small
  · obtain ⟨i, hi, hsz, hby, hz⟩ := info5e
    have hsm : ∀ b ∈ lt ++ lo, b < 256 := fun b hb => (List.mem_append.1 hb).elim (hlt b) (hs.small b)
    have fin : ∀ v w', w'.ownsRow B 5 1 v (lt.length + lo.length) (ints .u8 lt ++ ints .u8 lo) → w.grownBy w' y.ownBlock → Below B w w' ∧ Src w' v (lt ++ lo) ∧ (∀ l, OwnV 0 l x w → OwnV 0 l x w') ∧ (∀ (g : Nat) (cs : Array Value), w.heap[g]? = some (Obj.cells cs 32 (0, 0)) → w'.heap[g]? = some (Obj.cells cs 32 (0, 0))) := fun v w' h1 h2 => by
      rw [← ints_append] at h1
      refine ⟨below_append hown h2 hB, Src.own hsm h1, fun l hx => ?_, fun k cs hk => ?_⟩
      · refine own_only (bs := y.ownBlock.toList) hx (Only.of_grown h2 (fun b hb => by rw [hb]; simp)) (fun b hb e => ?_)
        cases hy : y.ownBlock with
        | none => rw [hy] at e; simp at e
        | some g =>
          rw [hy] at e
          obtain rfl : b = g := by simpa using e
          exact hoff b hy hb
      · have ho : Only y.ownBlock.toList w w' := Only.of_grown h2 (fun b hb => by rw [hb]; simp)
        refine (ho.block k (Array.getElem?_eq_some_iff.1 hk).1 (fun e => ?_)).trans hk
        obtain ⟨_, ⟨rfl, _⟩ | ⟨g, c, cur, rfl, _, hg, _⟩⟩ := hown
        · simp [Value.ownBlock] at e
        · obtain rfl : k = g := by simpa [Value.ownBlock] using e
          rw [hg] at hk
          cases hk
    have hown' : w.ownsRow B 5 1 y lt.length (ints .u8 lt) := hown
    have key : ∀ ad c, sv = .slice (some ad) lo.length c → (∀ j u, (ints .u8 lo)[j]? = some u → w.cell? (ad.add j) = some u) → ∃ v w', (Builtin.append_ #[32, 32] 32 #[y, sv]).run Tryd.prog w = .ok v w' ∧ Below B w w' ∧ Src w' v (lt ++ lo) ∧ (∀ l, OwnV 0 l x w → OwnV 0 l x w') ∧ (∀ (g : Nat) (cs : Array Value), w.heap[g]? = some (Obj.cells cs 32 (0, 0)) → w'.heap[g]? = some (Obj.cells cs 32 (0, 0))) := fun ad c e hc => by
      subst e
      obtain ⟨v', w', h1, h2, h3, _⟩ := run_append_own (P := Tryd.prog) (w := w) B 32 32 5 i _ 1 1 Tryd.underlying32 hi hz hsz hby rfl (by decide) y lt.length (ints .u8 lt) hown' ad lo.length c (ints .u8 lo) (by rw [ints_length]; omega) hc (fun u hu => by obtain ⟨q, _, rfl⟩ := List.mem_map.1 hu; rfl) (by unfold maxLen; omega) (by omega) hB
      exact ⟨v', w', h1, fin v' w' h2 h3⟩
    obtain ⟨_, ⟨rfl, rfl⟩ | ⟨ad, c, rfl, rfl⟩ | ⟨b, o, c, rfl, _, hr⟩⟩ := hs
    · exact ⟨y, w, run_append_owned_none w B 32 32 5 i 1 Tryd.underlying32 hi y lt.length (ints .u8 lt) hown', fin y w (by simpa [ints] using hown') (grownBy_refl _ _)⟩
    · exact key ad c rfl (fun j u hu => by simp [ints] at hu)
    · exact key ⟨b, o, none⟩ c rfl (fun j u hu => by rw [Addr.add_mid]; exact hr j u hu)
end Go.Proofs.YtbblokikhocdfaaDoor.S7
/- SuiteReal: the calls of its last region. -/
namespace Go.Proofs.YtbblokikhocdfaaDoor.S7
open Go.RowKit
theorem Src.srcIs {w : World} {v : Value} {l : List Nat} (h : Src w v l) : S2.SrcIs w v l := by
  obtain ⟨_, ⟨rfl, rfl⟩ | ⟨ad, c, rfl, rfl⟩ | ⟨b, o, c, rfl, hc, hr⟩⟩ := h
  · exact .inl ⟨rfl, rfl⟩
  · exact .inr ⟨ad, c, rfl, fun j u hu => by simp [ints] at hu⟩
  · exact .inr ⟨⟨b, o, none⟩, c, rfl, fun j u hu => by rw [Addr.add_mid]; exact hr j u hu⟩
theorem be_small {t : Nat} (h : t < 6) : Su.be 8 t = [0, 0, 0, 0, 0, 0, 0, t] := by
  have : ∀ t : Fin 6, Su.be 8 t.val = [0, 0, 0, 0, 0, 0, 0, t.val] := by decide
  exact this ⟨t, h⟩
theorem rcode_src {key m : List Nat} {kv mv : Value} {w : World} (hK : Src w kv key) (hM : Src w mv m) (hk : key.length ≤ 1000) (hm : m.length ≤ 900) :
    Calls Tryd.prog 25 #[kv, mv] w fun e w' => ∃ v, e = .returned v ∧ Below w.heap.size w w' ∧ OwnV 0 (S2.Mk.code key m) v w' := by
  obtain ⟨q, c, rfl, _⟩ := hK.slice
  refine (S2.rcode_any key m q key.length c mv w hK.bytesAt hk hM.srcIs hM.small hm).mono ?_
  rintro e w' ⟨v, rfl, h1, h2⟩
  refine ⟨v, rfl, h2, ?_⟩
  unfold OwnV
  rw [S2.Mk.code_length]
  exact own_older h1 (Nat.zero_le _)
theorem rsum_src {m : List Nat} {mv : Value} {w : World} (hM : Src w mv m) (hm : m.length ≤ 900) :
    Calls Tryd.prog 26 #[mv] w fun e w' => ∃ v, e = .returned v ∧ Below w.heap.size w w' ∧ OwnV 0 (S2.Sp.sum m) v w' := by
  obtain ⟨q, c, rfl, _⟩ := hM.slice
  refine (S2.rsum_any m q c w hM.srcIs hM.small (by omega)).mono ?_
  rintro e w' ⟨v, rfl, h1, h2⟩
  refine ⟨v, rfl, h2, ?_⟩
  unfold OwnV
  rw [S2.sum_length]
  exact own_older h1 (Nat.zero_le _)
theorem rseal_src {key nonce lo lt : List Nat} {kv nv ov tv : Value} {w : World} (hK : Src w kv key) (hN : Src w nv nonce) (hO : Src w ov lo) (hX : Src w tv lt) (hk : key.length = 32) (hn : nonce.length = 12) (hol : lo.length ≤ 200) (htl : lt.length ≤ 200) :
    Calls Tryd.prog 27 #[kv, nv, ov, tv] w fun e w' => ∃ v, e = .returned v ∧ Below w.heap.size w w' ∧ OwnV 0 (A5.Ae.box key nonce lo lt) v w' := by
  obtain ⟨bk, ok, ck, rfl, hck, hK'⟩ := hK.full hk (by omega)
  obtain ⟨bn, on, cn, rfl, hcn, hN'⟩ := hN.full hn (by omega)
  refine (A5.rSeal_any key nonce lo lt bk ok ck bn on cn ov tv w hk hn hK' hN' hO hX hol htl).mono ?_
  rintro e w' ⟨v, rfl, h1, h2⟩
  refine ⟨v, rfl, h2, ?_⟩
  unfold OwnV
  rw [A5.Ae.box_length]
  exact own_older h1 (Nat.zero_le _)
theorem count_src {p n : Nat} {sv : Value} {w : World} (h : RlIs w p sv n) : Calls Tryd.prog 23 #[.pointer (some ⟨p, 0, none⟩)] w fun e w' => ∃ v, e = .returned v ∧ Below w.heap.size w w' ∧ IsV (.int .i64 (n : Int)) v w' := by
  refine (count_any p n sv _ w h).mono ?_
  rintro e w' ⟨rfl, rfl⟩
  exact ⟨_, rfl, Below.refl _ _, rfl⟩
theorem sum2_src {lx ly : List Nat} {x y v : Value} {p n : Nat} {sv : Value} {w : World} (h : RlIs w p sv n) (hp : PartT2 x y v w) (hx : Src w x lx) (hy : Src w y ly) (hT : S2.Tab w) (hl : lx.length + ly.length ≤ 1000) :
    Calls Tryd.prog 13 #[.pointer (some ⟨p, 0, none⟩), v] w fun e w' => ∃ u, e = .returned u ∧ Below w.heap.size w w' ∧ OwnV 0 (S2.Sp.sum (lx ++ ly)) u w' := by
  refine (Sum_real [lx, ly] v p n sv w h (hp.parts hx hy) hT (by simp; omega)).mono ?_
  rintro e w' ⟨u, rfl, h1, h2⟩
  rw [show [lx, ly].flatten = lx ++ ly by simp] at h1
  refine ⟨u, rfl, h2, ?_⟩
  unfold OwnV
  rw [S2.sum_length]
  exact own_older h1 (Nat.zero_le _)
theorem code_src {k l : List Nat} {kv x v : Value} {p n : Nat} {sv : Value} {w : World} (h : RlIs w p sv n) (hp : PartT x v w) (hk : Src w kv k) (hx : Src w x l) (hT : S2.Tab w) (hkl : k.length ≤ 1000) (hl : l.length ≤ 1000) :
    Calls Tryd.prog 15 #[.pointer (some ⟨p, 0, none⟩), kv, v] w fun e w' => ∃ u, e = .returned u ∧ Below w.heap.size w w' ∧ OwnV 0 (S2.Mk.code k l) u w' := by
  obtain ⟨g, rfl, hc⟩ := hp.cell
  refine (Code_real k l kv x g p n sv w h hk hc hx hT (by omega) (by omega)).mono ?_
  rintro e w' ⟨u, rfl, h1, h2⟩
  refine ⟨u, rfl, h2, ?_⟩
  unfold OwnV
  rw [S2.Mk.code_length]
  exact own_older h1 (Nat.zero_le _)
end Go.Proofs.YtbblokikhocdfaaDoor.S7
/- SuiteReal: the table of its last region. -/
namespace Go.Proofs.YtbblokikhocdfaaDoor.S7
open Go.RowKit
def SrcV (l : List Nat) (v : Value) (w : World) : Prop := Src w v l
structure RlS (p j : Nat) (sv tv ov kv nv bv xv : Value) (lt lo kl nonce bx : List Nat) (u : World) : Prop where
  rl : RlIs u p sv j
  tab : S2.Tab u
  t : Src u tv lt
  o : Src u ov lo
  k : Src u kv kl
  n : Src u nv nonce
  b : Src u bv bx
  x : Src u xv lt
structure RlK (lt lo kl nonce sm cd bx : List Nat) : Prop where
  len2 : lt.length + lo.length ≤ 1000
  len3 : (lt ++ lo).length ≤ 900
  lenk : kl.length ≤ 1000
  lent : lt.length ≤ 1000
  lent9 : lt.length ≤ 900
  k32 : kl.length = 32
  n12 : nonce.length = 12
  leno : lo.length ≤ 200
  lent2 : lt.length ≤ 200
  ssm : ∀ y ∈ sm, y < 256
  scd : ∀ y ∈ cd, y < 256
  sbx : ∀ y ∈ bx, y < 256
  slt : ∀ y ∈ lt, y < 256
def rl17 (p j : Nat) (tv ov kv nv bv xv : Value) (lt lo sm cd bx : List Nat) : Nat → Value → World → Prop
  | 0 => IsV (.pointer (some ⟨p, 0, none⟩))
  | 1 => IsV (.int .i64 (j : Int))
  | 2 => IsV (.int .i64 (j : Int))
  | 3 => IsV (.bool true)
  | 4 => IsV (.bool true)
  | 5 => IsV (.pointer (some ⟨p, 0, none⟩))
  | 6 => IsV tv
  | 7 => IsV ov
  | 8 => PartT2 tv ov
  | 9 => OwnV 0 sm
  | 10 => StrV sm
  | 11 => NoneV
  | 12 => IsV tv
  | 13 => AnyV
  | 14 => IsV ov
  | 15 => SrcV (lt ++ lo)
  | 16 => OwnV 0 sm
  | 17 => StrV sm
  | 18 => IsV (.bool true)
  | 19 => IsV (.bool true)
  | 20 => IsV (.bool true)
  | 21 => IsV (.pointer (some ⟨p, 0, none⟩))
  | 22 => IsV kv
  | 23 => IsV tv
  | 24 => PartT tv
  | 25 => OwnV 0 cd
  | 26 => StrV cd
  | 27 => IsV kv
  | 28 => IsV tv
  | 29 => OwnV 0 cd
  | 30 => StrV cd
  | 31 => IsV (.bool true)
  | 32 => IsV (.bool true)
  | 33 => IsV (.bool true)
  | 34 => IsV (.int .i64 0)
  | 35 => IsV (.bool true)
  | 36 => IsV (.bool true)
  | 37 => IsV (.bool true)
  | 38 => IsV bv
  | 39 => StrV bx
  | 40 => IsV kv
  | 41 => IsV nv
  | 42 => IsV ov
  | 43 => IsV tv
  | 44 => OwnV 0 bx
  | 45 => StrV bx
  | 46 => IsV (.bool true)
  | 47 => IsV (.bool true)
  | 48 => IsV (.bool true)
  | 49 => IsV (.int .i64 0)
  | 50 => IsV (.bool true)
  | 51 => IsV (.bool true)
  | 52 => IsV (.bool true)
  | 53 => IsV xv
  | 54 => StrV lt
  | 55 => IsV tv
  | 56 => StrV lt
  | 57 => IsV (.bool true)
  | 58 => IsV (.bool true)
  | 59 => IsV (.bool true)
  | 60 => IsV (.int .i64 11)
  | 61 => IsV (.bool true)
  | 62 => IsV (.bool true)
  | 63 => IsV (.bool true)
  | _ => fun _ _ => True
theorem rl17_kept (p j : Nat) (tv ov kv nv bv xv : Value) (lt lo sm cd bx : List Nat) : ∀ i v w w', rl17 p j tv ov kv nv bv xv lt lo sm cd bx i v w → Below w.heap.size w w' → rl17 p j tv ov kv nv bv xv lt lo sm cd bx i v w'
  | 0, _, _, _, h, _ => h
  | 1, _, _, _, h, _ => h
  | 2, _, _, _, h, _ => h
  | 3, _, _, _, h, _ => h
  | 4, _, _, _, h, _ => h
  | 5, _, _, _, h, _ => h
  | 6, _, _, _, h, _ => h
  | 7, _, _, _, h, _ => h
  | 8, _, _, _, h, hb => PartT2.below h hb
  | 9, _, _, _, h, hb => OwnV.rows h (Kp.of_below hb (Nat.zero_le _))
  | 10, _, _, _, h, _ => h
  | 11, _, _, _, h, _ => h
  | 12, _, _, _, h, _ => h
  | 13, _, _, _, h, _ => h
  | 14, _, _, _, h, _ => h
  | 15, _, _, _, h, hb => Src.below h hb
  | 16, _, _, _, h, hb => OwnV.rows h (Kp.of_below hb (Nat.zero_le _))
  | 17, _, _, _, h, _ => h
  | 18, _, _, _, h, _ => h
  | 19, _, _, _, h, _ => h
  | 20, _, _, _, h, _ => h
  | 21, _, _, _, h, _ => h
  | 22, _, _, _, h, _ => h
  | 23, _, _, _, h, _ => h
  | 24, _, _, _, h, hb => PartT.rows h (Kp.of_below hb (Nat.zero_le _))
  | 25, _, _, _, h, hb => OwnV.rows h (Kp.of_below hb (Nat.zero_le _))
  | 26, _, _, _, h, _ => h
  | 27, _, _, _, h, _ => h
  | 28, _, _, _, h, _ => h
  | 29, _, _, _, h, hb => OwnV.rows h (Kp.of_below hb (Nat.zero_le _))
  | 30, _, _, _, h, _ => h
  | 31, _, _, _, h, _ => h
  | 32, _, _, _, h, _ => h
  | 33, _, _, _, h, _ => h
  | 34, _, _, _, h, _ => h
  | 35, _, _, _, h, _ => h
  | 36, _, _, _, h, _ => h
  | 37, _, _, _, h, _ => h
  | 38, _, _, _, h, _ => h
  | 39, _, _, _, h, _ => h
  | 40, _, _, _, h, _ => h
  | 41, _, _, _, h, _ => h
  | 42, _, _, _, h, _ => h
  | 43, _, _, _, h, _ => h
  | 44, _, _, _, h, hb => OwnV.rows h (Kp.of_below hb (Nat.zero_le _))
  | 45, _, _, _, h, _ => h
  | 46, _, _, _, h, _ => h
  | 47, _, _, _, h, _ => h
  | 48, _, _, _, h, _ => h
  | 49, _, _, _, h, _ => h
  | 50, _, _, _, h, _ => h
  | 51, _, _, _, h, _ => h
  | 52, _, _, _, h, _ => h
  | 53, _, _, _, h, _ => h
  | 54, _, _, _, h, _ => h
  | 55, _, _, _, h, _ => h
  | 56, _, _, _, h, _ => h
  | 57, _, _, _, h, _ => h
  | 58, _, _, _, h, _ => h
  | 59, _, _, _, h, _ => h
  | 60, _, _, _, h, _ => h
  | 61, _, _, _, h, _ => h
  | 62, _, _, _, h, _ => h
  | 63, _, _, _, h, _ => h
  | _ + 64, _, _, _, _, _ => trivial
theorem rl17_free (p j : Nat) (tv ov kv nv bv xv : Value) (lt lo sm cd bx : List Nat) (v : Value) (w w' : World) : ∀ i, i ∉ [8, 9, 15, 16, 24, 25, 29, 44] → rl17 p j tv ov kv nv bv xv lt lo sm cd bx i v w → rl17 p j tv ov kv nv bv xv lt lo sm cd bx i v w'
  | 0, _, h => h
  | 1, _, h => h
  | 2, _, h => h
  | 3, _, h => h
  | 4, _, h => h
  | 5, _, h => h
  | 6, _, h => h
  | 7, _, h => h
  | 8, h, _ => absurd (by decide) h
  | 9, h, _ => absurd (by decide) h
  | 10, _, h => h
  | 11, _, h => h
  | 12, _, h => h
  | 13, _, h => h
  | 14, _, h => h
  | 15, h, _ => absurd (by decide) h
  | 16, h, _ => absurd (by decide) h
  | 17, _, h => h
  | 18, _, h => h
  | 19, _, h => h
  | 20, _, h => h
  | 21, _, h => h
  | 22, _, h => h
  | 23, _, h => h
  | 24, h, _ => absurd (by decide) h
  | 25, h, _ => absurd (by decide) h
  | 26, _, h => h
  | 27, _, h => h
  | 28, _, h => h
  | 29, h, _ => absurd (by decide) h
  | 30, _, h => h
  | 31, _, h => h
  | 32, _, h => h
  | 33, _, h => h
  | 34, _, h => h
  | 35, _, h => h
  | 36, _, h => h
  | 37, _, h => h
  | 38, _, h => h
  | 39, _, h => h
  | 40, _, h => h
  | 41, _, h => h
  | 42, _, h => h
  | 43, _, h => h
  | 44, h, _ => absurd (by decide) h
  | 45, _, h => h
  | 46, _, h => h
  | 47, _, h => h
  | 48, _, h => h
  | 49, _, h => h
  | 50, _, h => h
  | 51, _, h => h
  | 52, _, h => h
  | 53, _, h => h
  | 54, _, h => h
  | 55, _, h => h
  | 56, _, h => h
  | 57, _, h => h
  | 58, _, h => h
  | 59, _, h => h
  | 60, _, h => h
  | 61, _, h => h
  | 62, _, h => h
  | 63, _, h => h
  | _ + 64, _, _ => trivial
theorem frame153_17 {A F : Array Value} (hs : A.size = 153) (h : ∀ t, [10, 90, 91, 92, 93, 94, 95, 96, 97, 98, 99, 100, 101, 102, 103, 104, 105, 106, 107, 108, 109, 110, 111, 112, 113, 114, 115, 116, 117, 118, 119, 120, 121, 122, 123, 124, 125, 126, 127, 128, 129, 130, 131, 132, 133, 134, 135, 136, 137, 138, 139, 140, 141, 142, 143, 144, 145, 146, 147, 148, 149, 150, 151, 152].contains t = false → A.getD t undef = F.getD t undef) : A = #[F.getD 0 undef, F.getD 1 undef, F.getD 2 undef, F.getD 3 undef, F.getD 4 undef, F.getD 5 undef, F.getD 6 undef, F.getD 7 undef, F.getD 8 undef, F.getD 9 undef, A.getD 10 undef, F.getD 11 undef, F.getD 12 undef, F.getD 13 undef, F.getD 14 undef, F.getD 15 undef, F.getD 16 undef, F.getD 17 undef, F.getD 18 undef, F.getD 19 undef, F.getD 20 undef, F.getD 21 undef, F.getD 22 undef, F.getD 23 undef, F.getD 24 undef, F.getD 25 undef, F.getD 26 undef, F.getD 27 undef, F.getD 28 undef, F.getD 29 undef, F.getD 30 undef, F.getD 31 undef, F.getD 32 undef, F.getD 33 undef, F.getD 34 undef, F.getD 35 undef, F.getD 36 undef, F.getD 37 undef, F.getD 38 undef, F.getD 39 undef, F.getD 40 undef, F.getD 41 undef, F.getD 42 undef, F.getD 43 undef, F.getD 44 undef, F.getD 45 undef, F.getD 46 undef, F.getD 47 undef, F.getD 48 undef, F.getD 49 undef, F.getD 50 undef, F.getD 51 undef, F.getD 52 undef, F.getD 53 undef, F.getD 54 undef, F.getD 55 undef, F.getD 56 undef, F.getD 57 undef, F.getD 58 undef, F.getD 59 undef, F.getD 60 undef, F.getD 61 undef, F.getD 62 undef, F.getD 63 undef, F.getD 64 undef, F.getD 65 undef, F.getD 66 undef, F.getD 67 undef, F.getD 68 undef, F.getD 69 undef, F.getD 70 undef, F.getD 71 undef, F.getD 72 undef, F.getD 73 undef, F.getD 74 undef, F.getD 75 undef, F.getD 76 undef, F.getD 77 undef, F.getD 78 undef, F.getD 79 undef, F.getD 80 undef, F.getD 81 undef, F.getD 82 undef, F.getD 83 undef, F.getD 84 undef, F.getD 85 undef, F.getD 86 undef, F.getD 87 undef, F.getD 88 undef, F.getD 89 undef, A.getD 90 undef, A.getD 91 undef, A.getD 92 undef, A.getD 93 undef, A.getD 94 undef, A.getD 95 undef, A.getD 96 undef, A.getD 97 undef, A.getD 98 undef, A.getD 99 undef, A.getD 100 undef, A.getD 101 undef, A.getD 102 undef, A.getD 103 undef, A.getD 104 undef, A.getD 105 undef, A.getD 106 undef, A.getD 107 undef, A.getD 108 undef, A.getD 109 undef, A.getD 110 undef, A.getD 111 undef, A.getD 112 undef, A.getD 113 undef, A.getD 114 undef, A.getD 115 undef, A.getD 116 undef, A.getD 117 undef, A.getD 118 undef, A.getD 119 undef, A.getD 120 undef, A.getD 121 undef, A.getD 122 undef, A.getD 123 undef, A.getD 124 undef, A.getD 125 undef, A.getD 126 undef, A.getD 127 undef, A.getD 128 undef, A.getD 129 undef, A.getD 130 undef, A.getD 131 undef, A.getD 132 undef, A.getD 133 undef, A.getD 134 undef, A.getD 135 undef, A.getD 136 undef, A.getD 137 undef, A.getD 138 undef, A.getD 139 undef, A.getD 140 undef, A.getD 141 undef, A.getD 142 undef, A.getD 143 undef, A.getD 144 undef, A.getD 145 undef, A.getD 146 undef, A.getD 147 undef, A.getD 148 undef, A.getD 149 undef, A.getD 150 undef, A.getD 151 undef, A.getD 152 undef] := by
  rw [← h 0 (by decide), ← h 1 (by decide), ← h 2 (by decide), ← h 3 (by decide), ← h 4 (by decide), ← h 5 (by decide), ← h 6 (by decide), ← h 7 (by decide), ← h 8 (by decide), ← h 9 (by decide), ← h 11 (by decide), ← h 12 (by decide), ← h 13 (by decide), ← h 14 (by decide), ← h 15 (by decide), ← h 16 (by decide), ← h 17 (by decide), ← h 18 (by decide), ← h 19 (by decide), ← h 20 (by decide), ← h 21 (by decide), ← h 22 (by decide), ← h 23 (by decide), ← h 24 (by decide), ← h 25 (by decide), ← h 26 (by decide), ← h 27 (by decide), ← h 28 (by decide), ← h 29 (by decide), ← h 30 (by decide), ← h 31 (by decide), ← h 32 (by decide), ← h 33 (by decide), ← h 34 (by decide), ← h 35 (by decide), ← h 36 (by decide), ← h 37 (by decide), ← h 38 (by decide), ← h 39 (by decide), ← h 40 (by decide), ← h 41 (by decide), ← h 42 (by decide), ← h 43 (by decide), ← h 44 (by decide), ← h 45 (by decide), ← h 46 (by decide), ← h 47 (by decide), ← h 48 (by decide), ← h 49 (by decide), ← h 50 (by decide), ← h 51 (by decide), ← h 52 (by decide), ← h 53 (by decide), ← h 54 (by decide), ← h 55 (by decide), ← h 56 (by decide), ← h 57 (by decide), ← h 58 (by decide), ← h 59 (by decide), ← h 60 (by decide), ← h 61 (by decide), ← h 62 (by decide), ← h 63 (by decide), ← h 64 (by decide), ← h 65 (by decide), ← h 66 (by decide), ← h 67 (by decide), ← h 68 (by decide), ← h 69 (by decide), ← h 70 (by decide), ← h 71 (by decide), ← h 72 (by decide), ← h 73 (by decide), ← h 74 (by decide), ← h 75 (by decide), ← h 76 (by decide), ← h 77 (by decide), ← h 78 (by decide), ← h 79 (by decide), ← h 80 (by decide), ← h 81 (by decide), ← h 82 (by decide), ← h 83 (by decide), ← h 84 (by decide), ← h 85 (by decide), ← h 86 (by decide), ← h 87 (by decide), ← h 88 (by decide), ← h 89 (by decide)]
  refine Array.ext (by simp [hs]) (fun i h1 h2 => ?_)
  have e : A[i] = A.getD i undef := by simp [h1]
  rw [e]
  rw [hs] at h1
  clear e h hs
  match i, h1 with
  | 0, _ => rfl
  | 1, _ => rfl
  | 2, _ => rfl
  | 3, _ => rfl
  | 4, _ => rfl
  | 5, _ => rfl
  | 6, _ => rfl
  | 7, _ => rfl
  | 8, _ => rfl
  | 9, _ => rfl
  | 10, _ => rfl
  | 11, _ => rfl
  | 12, _ => rfl
  | 13, _ => rfl
  | 14, _ => rfl
  | 15, _ => rfl
  | 16, _ => rfl
  | 17, _ => rfl
  | 18, _ => rfl
  | 19, _ => rfl
  | 20, _ => rfl
  | 21, _ => rfl
  | 22, _ => rfl
  | 23, _ => rfl
  | 24, _ => rfl
  | 25, _ => rfl
  | 26, _ => rfl
  | 27, _ => rfl
  | 28, _ => rfl
  | 29, _ => rfl
  | 30, _ => rfl
  | 31, _ => rfl
  | 32, _ => rfl
  | 33, _ => rfl
  | 34, _ => rfl
  | 35, _ => rfl
  | 36, _ => rfl
  | 37, _ => rfl
  | 38, _ => rfl
  | 39, _ => rfl
  | 40, _ => rfl
  | 41, _ => rfl
  | 42, _ => rfl
  | 43, _ => rfl
  | 44, _ => rfl
  | 45, _ => rfl
  | 46, _ => rfl
  | 47, _ => rfl
  | 48, _ => rfl
  | 49, _ => rfl
  | 50, _ => rfl
  | 51, _ => rfl
  | 52, _ => rfl
  | 53, _ => rfl
  | 54, _ => rfl
  | 55, _ => rfl
  | 56, _ => rfl
  | 57, _ => rfl
  | 58, _ => rfl
  | 59, _ => rfl
  | 60, _ => rfl
  | 61, _ => rfl
  | 62, _ => rfl
  | 63, _ => rfl
  | 64, _ => rfl
  | 65, _ => rfl
  | 66, _ => rfl
  | 67, _ => rfl
  | 68, _ => rfl
  | 69, _ => rfl
  | 70, _ => rfl
  | 71, _ => rfl
  | 72, _ => rfl
  | 73, _ => rfl
  | 74, _ => rfl
  | 75, _ => rfl
  | 76, _ => rfl
  | 77, _ => rfl
  | 78, _ => rfl
  | 79, _ => rfl
  | 80, _ => rfl
  | 81, _ => rfl
  | 82, _ => rfl
  | 83, _ => rfl
  | 84, _ => rfl
  | 85, _ => rfl
  | 86, _ => rfl
  | 87, _ => rfl
  | 88, _ => rfl
  | 89, _ => rfl
  | 90, _ => rfl
  | 91, _ => rfl
  | 92, _ => rfl
  | 93, _ => rfl
  | 94, _ => rfl
  | 95, _ => rfl
  | 96, _ => rfl
  | 97, _ => rfl
  | 98, _ => rfl
  | 99, _ => rfl
  | 100, _ => rfl
  | 101, _ => rfl
  | 102, _ => rfl
  | 103, _ => rfl
  | 104, _ => rfl
  | 105, _ => rfl
  | 106, _ => rfl
  | 107, _ => rfl
  | 108, _ => rfl
  | 109, _ => rfl
  | 110, _ => rfl
  | 111, _ => rfl
  | 112, _ => rfl
  | 113, _ => rfl
  | 114, _ => rfl
  | 115, _ => rfl
  | 116, _ => rfl
  | 117, _ => rfl
  | 118, _ => rfl
  | 119, _ => rfl
  | 120, _ => rfl
  | 121, _ => rfl
  | 122, _ => rfl
  | 123, _ => rfl
  | 124, _ => rfl
  | 125, _ => rfl
  | 126, _ => rfl
  | 127, _ => rfl
  | 128, _ => rfl
  | 129, _ => rfl
  | 130, _ => rfl
  | 131, _ => rfl
  | 132, _ => rfl
  | 133, _ => rfl
  | 134, _ => rfl
  | 135, _ => rfl
  | 136, _ => rfl
  | 137, _ => rfl
  | 138, _ => rfl
  | 139, _ => rfl
  | 140, _ => rfl
  | 141, _ => rfl
  | 142, _ => rfl
  | 143, _ => rfl
  | 144, _ => rfl
  | 145, _ => rfl
  | 146, _ => rfl
  | 147, _ => rfl
  | 148, _ => rfl
  | 149, _ => rfl
  | 150, _ => rfl
  | 151, _ => rfl
  | 152, _ => rfl
  | _ + 153, h => exact absurd h (by omega)
end Go.Proofs.YtbblokikhocdfaaDoor.S7
/- SuiteReal, its early ways out. -/
namespace Go.Proofs.YtbblokikhocdfaaDoor.S7
open Go.RowKit
set_option maxHeartbeats 1000000 in
set_option maxRecDepth 10000 in
theorem real_early (a t o : Option Addr) (n ca r ct k co : Nat) (z : Int) (nonce : List Nat) (w : World) (h : 100 < n ∨ z < 1 ∨ 4 < z ∨ 100 < r ∨ 100 < k) :
    Calls Tryd.prog 4 #[.slice a n ca, .int .i64 z, .slice t r ct, .agg (arr .u8 nonce), .slice o k co] w fun e w' => e = .returned (.bool true) ∧ Below w.heap.size w w' := by
  by_cases h1 : 100 < n
  · have g1 : (100 : Int) < (n : Int) := by omega
    clear h
    go_enter Tryd.func4, Tryd.ntmps4
    go_wp2_with fail
    refine (anchor_any _).mono ?_
    rintro e w1 ⟨rfl, hb1⟩
    have HB1 : Hid (Below w.heap.size w w1) := ((Below.refl _ _).alloc (Nat.le_refl _) _).trans (hb1.mono (by simp))
    clear hb1
    go_wp2_with fail
    go_ret
    exact ⟨rfl, HB1.out⟩
  · have g1 : ¬ (100 : Int) < (n : Int) := by omega
    by_cases h2 : z < 1
    · clear h
      go_enter Tryd.func4, Tryd.ntmps4
      go_wp2_with fail
      refine (anchor_any _).mono ?_
      rintro e w1 ⟨rfl, hb1⟩
      have HB1 : Hid (Below w.heap.size w w1) := ((Below.refl _ _).alloc (Nat.le_refl _) _).trans (hb1.mono (by simp))
      clear hb1
      go_wp2_with fail
      go_ret
      exact ⟨rfl, HB1.out⟩
    · by_cases h3 : 4 < z
      · clear h
        go_enter Tryd.func4, Tryd.ntmps4
        go_wp2_with fail
        refine (anchor_any _).mono ?_
        rintro e w1 ⟨rfl, hb1⟩
        have HB1 : Hid (Below w.heap.size w w1) := ((Below.refl _ _).alloc (Nat.le_refl _) _).trans (hb1.mono (by simp))
        clear hb1
        go_wp2_with fail
        go_ret
        exact ⟨rfl, HB1.out⟩
      · by_cases h4 : 100 < r
        · have g4 : (100 : Int) < (r : Int) := by omega
          clear h
          go_enter Tryd.func4, Tryd.ntmps4
          go_wp2_with fail
          refine (anchor_any _).mono ?_
          rintro e w1 ⟨rfl, hb1⟩
          have HB1 : Hid (Below w.heap.size w w1) := ((Below.refl _ _).alloc (Nat.le_refl _) _).trans (hb1.mono (by simp))
          clear hb1
          go_wp2_with fail
          go_ret
          exact ⟨rfl, HB1.out⟩
        · have g4 : ¬ (100 : Int) < (r : Int) := by omega
          have g5 : (100 : Int) < (k : Int) := by omega
          clear h
          go_enter Tryd.func4, Tryd.ntmps4
          go_wp2_with fail
          refine (anchor_any _).mono ?_
          rintro e w1 ⟨rfl, hb1⟩
          have HB1 : Hid (Below w.heap.size w w1) := ((Below.refl _ _).alloc (Nat.le_refl _) _).trans (hb1.mono (by simp))
          clear hb1
          go_wp2_with fail
          go_ret
          exact ⟨rfl, HB1.out⟩
end Go.Proofs.YtbblokikhocdfaaDoor.S7
