/- SuiteHides, walked. -/
import Derived.Test.YtbblokikhocdfaaDoorS7Two
namespace Go.Proofs.YtbblokikhocdfaaDoor.S7
open Go.RowKit
set_option maxHeartbeats 2000000 in
theorem hides_any (la lb lo nonce : List Nat) (a b o : Option Addr) (n ca cb k co j : Nat) (w : World) (hA : Src w (.slice a n ca) la) (hB : Src w (.slice b n cb) lb) (hO : Src w (.slice o k co) lo) (hal : la.length = n) (hbl : lb.length = n)
    (hnl : nonce.length = 12) (hns : ∀ y ∈ nonce, y < 256) (hn : n ≤ 100) (hk : k ≤ 100) (h1 : 1 ≤ j) (h20 : j ≤ 20) :
    Calls Tryd.prog 6 #[.slice a n ca, .slice b n cb, .int .i64 (j : Int), .agg (arr .u8 nonce), .slice o k co] w fun e w' => e = .returned (.bool true) ∧ Below w.heap.size w w' := by
  have hW0 : Below w.heap.size w (w.alloc (.cells (arr .u8 nonce) 47)) := (Below.refl _ _).alloc (Nat.le_refl _) _
  have HA0 : Hid (Old (w.alloc (.cells (arr .u8 nonce) 47)).heap.size (w.alloc (.cells (arr .u8 nonce) 47)) (.slice a n ca) la) := Old.of (hA.below hW0)
  have HB0 : Hid (Old (w.alloc (.cells (arr .u8 nonce) 47)).heap.size (w.alloc (.cells (arr .u8 nonce) 47)) (.slice b n cb) lb) := Old.of (hB.below hW0)
  have HO0 : Hid (Old (w.alloc (.cells (arr .u8 nonce) 47)).heap.size (w.alloc (.cells (arr .u8 nonce) 47)) (.slice o k co) lo) := Old.of (hO.below hW0)
  have HN0 : Hid (Old (w.alloc (.cells (arr .u8 nonce) 47)).heap.size (w.alloc (.cells (arr .u8 nonce) 47)) (.slice (some ⟨w.heap.size, 0, none⟩) 12 12) nonce) := Old.of (arr_src 47 hns hnl)
  have HW0 : Hid (Below w.heap.size w (w.alloc (.cells (arr .u8 nonce) 47))) := hW0
  have HAL : Hid (la.length = n) := hal
  have HBL : Hid (lb.length = n) := hbl
  have HNL : Hid (nonce.length = 12) := hnl
  have n' : ¬ (100 : Int) < (n : Int) := by omega
  have k' : ¬ (100 : Int) < (k : Int) := by omega
  have j1 : ¬ (j : Int) < 1 := by omega
  have j2 : ¬ (20 : Int) < (j : Int) := by omega
  have HJ : Hid (1 ≤ j ∧ j ≤ 20 ∧ n ≤ 100) := ⟨h1, h20, hn⟩
  clear hA hB hO hal hbl hns hnl hW0 hn hk h1 h20
  go_enter Tryd.func6, Tryd.ntmps6
  go_wp2_with fail
  generalize hW : w.alloc (.cells (arr .u8 nonce) 47) = W at *
  have HZ : Hid (w.heap.size < W.heap.size) := by show _ < _; rw [← hW]; simp
  clear hW
  refine (anchor_any W).mono ?_
  rintro e w1 ⟨rfl, hb1⟩
  have HB1 : Hid (Below W.heap.size W w1) := hb1
  clear hb1
  go_wp2_with fail
  refine (Signs_new w1).mono ?_
  rintro e w2 ⟨p, q, m, x, rfl, hs2, hb2, hp2⟩
  have HS2 : Hid (SuIs w2 p q m x []) := hs2
  have HP : Hid (W.heap.size ≤ p ∧ W.heap.size ≤ q ∧ W.heap.size ≤ m ∧ W.heap.size ≤ x) := by have := HB1.out.size; show _ ∧ _; omega
  have HB2 : Hid (Below W.heap.size W w2) := HB1.out.trans (hb2.mono HB1.out.size)
  clear hs2 hb2 hp2 HB1
  go_wp2_with fail
  refine (Signs_new w2).mono ?_
  rintro e w3 ⟨p', q', m', x', rfl, hs3, hb3, hp3⟩
  have HT3 : Hid (SuIs w3 p' q' m' x' []) := hs3
  have HS3 : Hid (SuIs w3 p q m x []) := HS2.out.below hb3
  have HC : Hid ((p < w2.heap.size ∧ q < w2.heap.size ∧ m < w2.heap.size ∧ x < w2.heap.size) ∧ (w2.heap.size ≤ p' ∧ w2.heap.size ≤ q' ∧ w2.heap.size ≤ m' ∧ w2.heap.size ≤ x')) := ⟨HS2.out.lt, hp3⟩
  have HQ : Hid ((p < w3.heap.size ∧ x < w3.heap.size) ∧ (p' < w3.heap.size ∧ x' < w3.heap.size)) := ⟨⟨HS3.out.lt.1, HS3.out.lt.2.2.2⟩, HT3.out.lt.1, HT3.out.lt.2.2.2⟩
  have HW2 : Hid (W.heap.size ≤ w2.heap.size) := HB2.out.size
  have HB3 : Hid (Below W.heap.size W w3) := HB2.out.trans (hb3.mono HB2.out.size)
  clear hs3 hb3 hp3 HB2 HS2
  generalize w2.heap.size = C at *
  go_wp2_with fail
  go_loopw [13, 14, 51] (fun kv lv i wr => ∃ t : Nat, t ≤ j ∧ i = .int .i64 t ∧ Hid (SuIs wr p q m x (keysL t)) ∧ Hid (SuIs wr p' q' m' x' (keysL t)) ∧ Hid (Below W.heap.size W wr) ∧ Hid (w3.heap.size ≤ wr.heap.size) ∧ Hid (1 ≤ t → wr.ownsRow w3.heap.size 5 1 kv 32 (ints .u8 (Su.sign 75 t)) ∧ wr.ownsRow w3.heap.size 5 1 lv 32 (ints .u8 (Su.sign 75 t)))) (fun _ _ i _ => j - (intOf i).toNat)
  case atStart => exact ⟨0, by omega, rfl, HS3.out, HT3.out, HB3.out, Nat.le_refl _, fun h => by omega⟩
  case round =>
    clear HS3 HT3 HB3
    obtain ⟨t, ht, rfl, HS, HT, HB, HR, HK⟩ := hrel
    by_cases hlt : t < j
    · have t1 : (t : Int) < (j : Int) := by omega
      have t0 : (0 : Int) ≤ (t : Int) := by omega
      go_wp2_with fail
      refine (Key_signs p q m x (keysL t) wr HS.out (by have := HJ.out; rw [keysL_length]; omega)).mono ?_
      rintro e w4 ⟨kv, rfl, ho4, hs4, hn4⟩
      rw [keysL_length] at ho4
      rw [keysL_succ] at hs4
      have HS4 : Hid (SuIs w4 p q m x (keysL (t + 1))) := hs4
      have HT4 : Hid (SuIs w4 p' q' m' x' (keysL t)) := HT.out.above hn4 (all_one HC.out.1.1) HC.out.2
      have HB4 : Hid (Below W.heap.size W w4) := HB.out.trans (hn4.below HB.out.size (all_one HP.out.1))
      have HR4 : Hid (w3.heap.size ≤ w4.heap.size) := Nat.le_trans HR.out hn4.size
      have HK4 : Hid (w4.ownsRow w3.heap.size 5 1 kv 32 (ints .u8 (Su.sign 75 (t + 1)))) := own_older ho4 HR.out
      clear ho4 hs4 hn4 HS HT HB HR HK
      go_wp2_with fail
      refine (Key_signs p' q' m' x' (keysL t) w4 HT4.out (by have := HJ.out; rw [keysL_length]; omega)).mono ?_
      rintro e w5 ⟨lv, rfl, ho5, hs5, hn5⟩
      rw [keysL_length] at ho5
      rw [keysL_succ] at hs5
      have HT5 : Hid (SuIs w5 p' q' m' x' (keysL (t + 1))) := hs5
      have HS5 : Hid (SuIs w5 p q m x (keysL (t + 1))) := HS4.out.under hn5 (all_one HC.out.2.1) HC.out.1
      have HB5 : Hid (Below W.heap.size W w5) := HB4.out.trans (hn5.below HB4.out.size (all_one (Nat.le_trans HW2.out HC.out.2.1)))
      have HR5 : Hid (w3.heap.size ≤ w5.heap.size) := Nat.le_trans HR4.out hn5.size
      have HK5 : Hid (w5.ownsRow w3.heap.size 5 1 kv 32 (ints .u8 (Su.sign 75 (t + 1)))) := own_stays HK4.out hn5 (all_one HQ.out.2.1)
      have HL5 : Hid (w5.ownsRow w3.heap.size 5 1 lv 32 (ints .u8 (Su.sign 75 (t + 1)))) := own_older ho5 HR4.out
      clear ho5 hs5 hn5 HS4 HT4 HB4 HR4 HK4
      go_wp2_with fail
      go_roundw
      case rel =>
        first
          | exact ⟨t + 1, by omega, by go_num, HS5.out, HT5.out, HB5.out, HR5.out, fun _ => ⟨HK5.out, HL5.out⟩⟩
          | ((repeat apply Exists.intro)
             refine ⟨⟨t + 1, by omega, ?_, HS5.out, HT5.out, HB5.out, HR5.out, fun _ => ⟨HK5.out, HL5.out⟩⟩, rfl⟩
             go_num)
      case measure => simp [intOf]; omega
    · obtain rfl : t = j := by omega
      obtain ⟨hK, hL⟩ := HK.out (by have := HJ.out; omega)
      have HKK : Hid (wr.ownsRow w3.heap.size 5 1 u13 32 (ints .u8 (Su.sign 75 t))) := hK
      have HLL : Hid (wr.ownsRow w3.heap.size 5 1 u14 32 (ints .u8 (Su.sign 75 t))) := hL
      have HKEEP : Hid (∀ w1 w2, Below W.heap.size W w1 → Only [p, x] w1 w2 → Below W.heap.size W w2) := fun w1 w2 h1 h2 => h1.trans (h2.below h1.size (all_two HP.out.1 HP.out.2.2.2))
      have HKEEP' : Hid (∀ w1 w2, Below W.heap.size W w1 → Only [p', x'] w1 w2 → Below W.heap.size W w2) := fun w1 w2 h1 h2 => h1.trans (h2.below h1.size (all_two (Nat.le_trans HW2.out HC.out.2.1) (Nat.le_trans HW2.out HC.out.2.2.2.2)))
      have HSL : Hid ((Su.sign 75 t).length = 32) := Su.sign_length 75 t
      have HKL : Hid ((keysL t).length < 1000000) := by have := HJ.out; show _ < _; rw [keysL_length]; omega
      have HNN : Hid (n ≤ 100 ∧ t ≤ 20) := ⟨HJ.out.2.2, HJ.out.2.1⟩
      clear hK hL HK
      go_wp2_with fail
      refine (Seal_ok (Su.sign 75 t) nonce lo la u13 _ _ _ p q m x (keysL t) wr HS.out (fun w1 h1 => key_src (own_stays HKK.out h1 (all_two HQ.out.1.1 HQ.out.1.2))) (fun w1 h1 => (HN0.out.keep (HKEEP.out wr w1 HB.out h1)).1) (fun w1 h1 => (HO0.out.keep (HKEEP.out wr w1 HB.out h1)).1) (fun w1 h1 => (HA0.out.keep (HKEEP.out wr w1 HB.out h1)).1) HSL.out HNL.out (by have := HNN.out; rw [HAL.out]; omega) HKL.out).mono ?_
      rintro e w4 ⟨v4, rfl, ho4, hs4, hn4⟩
      rw [keysL_length, HAL.out] at ho4
      have HS4 : Hid (SuIs w4 p q m x (keysL t ++ [(66, Su.sign 75 t, nonce, lo, la)])) := hs4
      have HT4 : Hid (SuIs w4 p' q' m' x' (keysL t)) := HT.out.above hn4 (all_two HC.out.1.1 HC.out.1.2.2.2) HC.out.2
      have HB4 : Hid (Below W.heap.size W w4) := HKEEP.out wr w4 HB.out hn4
      have HK4 : Hid (w4.ownsRow w3.heap.size 5 1 u13 32 (ints .u8 (Su.sign 75 t))) := own_stays HKK.out hn4 (all_two HQ.out.1.1 HQ.out.1.2)
      have HL4 : Hid (w4.ownsRow w3.heap.size 5 1 u14 32 (ints .u8 (Su.sign 75 t))) := own_stays HLL.out hn4 (all_two HQ.out.1.1 HQ.out.1.2)
      have HX4 : Hid (w4.ownsRow w3.heap.size 5 1 v4 (n + 16) (ints .u8 (Su.box (t + 1) n))) := own_older ho4 HR.out
      have HR4 : Hid (w3.heap.size ≤ w4.heap.size) := Nat.le_trans HR.out hn4.size
      clear ho4 hs4 hn4 HS HT HB HR HKK HLL
      go_wp2_with fail
      refine (Seal_ok (Su.sign 75 t) nonce lo lb u14 _ _ _ p' q' m' x' (keysL t) w4 HT4.out (fun w1 h1 => key_src (own_stays HL4.out h1 (all_two HQ.out.2.1 HQ.out.2.2))) (fun w1 h1 => (HN0.out.keep (HKEEP'.out w4 w1 HB4.out h1)).1) (fun w1 h1 => (HO0.out.keep (HKEEP'.out w4 w1 HB4.out h1)).1) (fun w1 h1 => (HB0.out.keep (HKEEP'.out w4 w1 HB4.out h1)).1) HSL.out HNL.out (by have := HNN.out; rw [HBL.out]; omega) HKL.out).mono ?_
      rintro e w5 ⟨v5, rfl, ho5, hs5, hn5⟩
      rw [keysL_length, HBL.out] at ho5
      have HT5 : Hid (SuIs w5 p' q' m' x' (keysL t ++ [(66, Su.sign 75 t, nonce, lo, lb)])) := hs5
      have HS5 : Hid (SuIs w5 p q m x (keysL t ++ [(66, Su.sign 75 t, nonce, lo, la)])) := HS4.out.under hn5 (all_two HC.out.2.1 HC.out.2.2.2.2) HC.out.1
      have HB5 : Hid (Below W.heap.size W w5) := HKEEP'.out w4 w5 HB4.out hn5
      have HK5 : Hid (Src w5 u13 (Su.sign 75 t)) := key_src (own_stays HK4.out hn5 (all_two HQ.out.2.1 HQ.out.2.2))
      have HL5 : Hid (Src w5 u14 (Su.sign 75 t)) := key_src (own_stays HL4.out hn5 (all_two HQ.out.2.1 HQ.out.2.2))
      have HX5 : Hid (Src w5 v4 (Su.box (t + 1) n)) := Src.own (Su.box_lt _ _) (own_stays HX4.out hn5 (all_two HQ.out.2.1 HQ.out.2.2))
      have HY5 : Hid (Src w5 v5 (Su.box (t + 1) n)) := Src.own (Su.box_lt _ _) ho5
      have HBX : Hid ((Su.box (t + 1) n).length ≤ 60000) := by have := HNN.out; show _ ≤ _; rw [Su.box_length]; omega
      clear ho5 hs5 hn5 HS4 HT4 HB4 HK4 HL4 HX4 HR4 HKEEP HKEEP'
      have HLEN : Hid (∀ l : List Nat, (keysL t ++ [(66, Su.sign 75 t, nonce, lo, l)]).length < 1000000) := fun l => by have := HNN.out; rw [List.length_append, keysL_length]; simp; omega
      have HSH : Hid (∀ l : List Nat, l.length ≤ 100 → ∀ u ∈ keysL t ++ [(66, Su.sign 75 t, nonce, lo, l)], u.2.2.2.2.length ≤ 50000) := fun l hl u hu => by
        rcases List.mem_append.1 hu with h | h
        · exact keysL_short t u h
        · rw [List.mem_singleton.1 h]; show l.length ≤ 50000; omega
      have HOP : Hid (∀ l : List Nat, l.length = n → Su.opens (Su.sign 75 t) nonce lo (Su.box (t + 1) n) 0 (keysL t ++ [(66, Su.sign 75 t, nonce, lo, l)]) = some l) := fun l hl => by
        have := opens_own (Su.sign 75 t) nonce lo l (keysL t) (keysL_no t)
        rwa [keysL_length, hl] at this
      go_wp2_with fail
      refine (Open_any (Su.sign 75 t) nonce lo (Su.box (t + 1) n) u13 _ _ v4 p q m x _ w5 HS5.out HK5.out (HN0.out.keep HB5.out).1 (HO0.out.keep HB5.out).1 HX5.out HSL.out HNL.out HBX.out (HLEN.out la) (HSH.out la (by have := HNN.out; rw [HAL.out]; omega))).mono ?_
      rintro e w6 ⟨hs6, hb6⟩
      rw [HOP.out la HAL.out] at hs6
      obtain ⟨v6, rfl, hv6, _⟩ := hs6
      have HV6 : Hid (Src w6 v6 la) := hv6
      have HT6 : Hid (SuIs w6 p' q' m' x' (keysL t ++ [(66, Su.sign 75 t, nonce, lo, lb)])) := HT5.out.below hb6
      have HB6 : Hid (Below W.heap.size W w6) := HB5.out.trans (hb6.mono HB5.out.size)
      have HL6 : Hid (Src w6 u14 (Su.sign 75 t)) := HL5.out.below hb6
      have HX6 : Hid (Src w6 v4 (Su.box (t + 1) n)) := HX5.out.below hb6
      have HY6 : Hid (Src w6 v5 (Su.box (t + 1) n)) := HY5.out.below hb6
      clear hv6 hb6 HS5 HT5 HB5 HK5 HL5 HX5 HY5
      go_wp2_with fail
      refine (Open_any (Su.sign 75 t) nonce lo (Su.box (t + 1) n) u14 _ _ v5 p' q' m' x' _ w6 HT6.out HL6.out (HN0.out.keep HB6.out).1 (HO0.out.keep HB6.out).1 HY6.out HSL.out HNL.out HBX.out (HLEN.out lb) (HSH.out lb (by have := HNN.out; rw [HBL.out]; omega))).mono ?_
      rintro e w7 ⟨hs7, hb7⟩
      rw [HOP.out lb HBL.out] at hs7
      obtain ⟨v7, rfl, hv7, _⟩ := hs7
      have HB7 : Hid (Below W.heap.size W w7) := HB6.out.trans (hb7.mono HB6.out.size)
      have HBF : Hid (Below w.heap.size w w7) := HW0.out.trans (HB7.out.mono HW0.out.size)
      have hc4 := conv_src (HX6.out.below hb7)
      have hc5 := conv_src (HY6.out.below hb7)
      have hc6 := conv_src (HV6.out.below hb7)
      have hc7 := conv_src hv7
      have hca := conv_src (HA0.out.keep HB7.out).1
      have hcb := conv_src (HB0.out.keep HB7.out).1
      obtain ⟨q4, c4, rfl, _⟩ := HX6.out.slice
      obtain ⟨q5, c5, rfl, _⟩ := HY6.out.slice
      obtain ⟨q6, c6, rfl, _⟩ := HV6.out.slice
      obtain ⟨q7, c7, rfl, _⟩ := hv7.slice
      clear hv7 hb7 HT6 HB6 HL6 HX6 HY6 HV6 HB7
      generalize (Su.box (t + 1) n).length = bl at *
      generalize la.length = al at *
      generalize lb.length = bbl at *
      go_wp2_with fail
      go_ret
      exact ⟨rfl, HBF.out⟩
end Go.Proofs.YtbblokikhocdfaaDoor.S7
