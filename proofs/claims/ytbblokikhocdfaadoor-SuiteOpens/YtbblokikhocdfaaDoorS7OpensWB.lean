/- SuiteOpens, walked, the case 2 and the case 3. -/
import Derived.Test.YtbblokikhocdfaaDoorS7OpensE
namespace Go.Proofs.YtbblokikhocdfaaDoor.S7
open Go.RowKit
set_option maxHeartbeats 2000000 in
theorem opens_w2 (lt lo nonce : List Nat) (a o : Option Addr) (n ca k co q y : Nat) (w : World) (hA : Src w (.slice a n ca) lt) (hO : Src w (.slice o k co) lo) (hal : lt.length = n) (hol : lo.length = k)
    (hnl : nonce.length = 12) (hns : ∀ y ∈ nonce, y < 256) (hn : n ≤ 100) (hk : k ≤ 100) (hq : q ≤ 9223372036854775807) (y0 : 0 < y) (y1 : y < 256) :
    Calls Tryd.prog 7 #[.slice a n ca, .agg (arr .u8 nonce), .slice o k co, .int .i64 2, .int .i64 (q : Int), .int .u8 (y : Int)] w fun e w' => e = .returned (.bool true) ∧ Below w.heap.size w w' := by
  have hW0 : Below w.heap.size w (w.alloc (.cells (arr .u8 nonce) 47)) := (Below.refl _ _).alloc (Nat.le_refl _) _
  have HA0 : Hid (Old (w.alloc (.cells (arr .u8 nonce) 47)).heap.size (w.alloc (.cells (arr .u8 nonce) 47)) (.slice a n ca) lt) := Old.of (hA.below hW0)
  have HO0 : Hid (Old (w.alloc (.cells (arr .u8 nonce) 47)).heap.size (w.alloc (.cells (arr .u8 nonce) 47)) (.slice o k co) lo) := Old.of (hO.below hW0)
  have HN0 : Hid (Old (w.alloc (.cells (arr .u8 nonce) 47)).heap.size (w.alloc (.cells (arr .u8 nonce) 47)) (.slice (some ⟨w.heap.size, 0, none⟩) 12 12) nonce) := Old.of (arr_src 47 hns hnl)
  have HW0 : Hid (Below w.heap.size w (w.alloc (.cells (arr .u8 nonce) 47))) := hW0
  have HAL : Hid (lt.length = n) := hal
  have HOL : Hid (lo.length = k) := hol
  have HNL : Hid (nonce.length = 12) := hnl
  have HNS : Hid (∀ y ∈ nonce, y < 256) := hns
  have HLS : Hid (∀ y ∈ lo, y < 256) := hO.small
  have HY : Hid (0 < y ∧ y < 256 ∧ n ≤ 100 ∧ k ≤ 100 ∧ q ≤ 9223372036854775807) := ⟨y0, y1, hn, hk, hq⟩
  have n' : ¬ (100 : Int) < (n : Int) := by omega
  have k' : ¬ (100 : Int) < (k : Int) := by omega
  have q0 : ¬ (q : Int) < 0 := by omega
  have yz : ((y : Int) == 0) = false := by rw [beq_eq_false_iff_ne]; omega
  clear hA hO hal hol hns hnl hW0 hn hk y0 y1 hq
  go_enter Tryd.func7, Tryd.ntmps7
  go_wp2_with fail
  generalize hW : w.alloc (.cells (arr .u8 nonce) 47) = W at *
  have HZ : Hid (w.heap.size < W.heap.size) := by show _ < _; rw [← hW]; simp
  clear hW
  refine (anchor_any W).mono ?_
  rintro e w1 ⟨rfl, hb1⟩
  have HB1 : Hid (Below W.heap.size W w1) := hb1
  clear hb1
  go_wp2_with fail
  refine (Signs_new w1).mono ?_
  rintro e w2 ⟨p, pq, m, x, rfl, hs2, hb2, hp2⟩
  have HS2 : Hid (SuIs w2 p pq m x []) := hs2
  have HP : Hid (W.heap.size ≤ p ∧ W.heap.size ≤ pq ∧ W.heap.size ≤ m ∧ W.heap.size ≤ x) := by have := HB1.out.size; show _ ∧ _; omega
  have HB2 : Hid (Below W.heap.size W w2) := HB1.out.trans (hb2.mono HB1.out.size)
  have HQ : Hid (p < w2.heap.size ∧ pq < w2.heap.size ∧ m < w2.heap.size ∧ x < w2.heap.size) := HS2.out.lt
  clear hs2 hb2 hp2 HB1
  go_wp2_with fail
  refine (Key_signs p pq m x [] w2 HS2.out (by decide)).mono ?_
  rintro e w3 ⟨kv, rfl, ho3, hs3, hn3⟩
  have HS3 : Hid (SuIs w3 p pq m x [(75, [], [], [], [])]) := hs3
  have HB3 : Hid (Below W.heap.size W w3) := HB2.out.trans (hn3.below HB2.out.size (all_one HP.out.1))
  have HR3 : Hid (w2.heap.size ≤ w3.heap.size) := hn3.size
  have HK3 : Hid (w3.ownsRow w2.heap.size 5 1 kv 32 (ints .u8 (Su.sign 75 1))) := ho3
  clear ho3 hs3 hn3 HS2 HB2
  have HKEEP : Hid (∀ w1 w2, Below W.heap.size W w1 → Only [p, x] w1 w2 → Below W.heap.size W w2) := fun w1 w2 h1 h2 => h1.trans (h2.below h1.size (all_two HP.out.1 HP.out.2.2.2))
  have HSL : Hid ((Su.sign 75 1).length = 32) := Su.sign_length 75 1
  have HSS : Hid (∀ y ∈ Su.sign 75 1, y < 256) := Su.sign_lt (by decide) 1
  go_wp2_with fail
  refine (Seal_ok (Su.sign 75 1) nonce lo lt kv _ _ _ p pq m x [(75, [], [], [], [])] w3 HS3.out (fun w1 h1 => key_src (own_stays HK3.out h1 (all_two HQ.out.1 HQ.out.2.2.2))) (fun w1 h1 => (HN0.out.keep (HKEEP.out w3 w1 HB3.out h1)).1) (fun w1 h1 => (HO0.out.keep (HKEEP.out w3 w1 HB3.out h1)).1) (fun w1 h1 => (HA0.out.keep (HKEEP.out w3 w1 HB3.out h1)).1) HSL.out HNL.out (by have := HY.out; rw [HAL.out]; omega) (by decide)).mono ?_
  rintro e w4 ⟨bv, rfl, ho4, hs4, hn4⟩
  rw [HAL.out] at ho4
  have HS4 : Hid (SuIs w4 p pq m x [(75, [], [], [], []), (66, Su.sign 75 1, nonce, lo, lt)]) := hs4
  have HB4 : Hid (Below W.heap.size W w4) := HKEEP.out w3 w4 HB3.out hn4
  have HK4 : Hid (w4.ownsRow w2.heap.size 5 1 kv 32 (ints .u8 (Su.sign 75 1))) := own_stays HK3.out hn4 (all_two HQ.out.1 HQ.out.2.2.2)
  have HKB : Hid (Off kv [w3.heap.size] ∨ True) := .inr trivial
  have HX4 : Hid (w4.ownsRow w3.heap.size 5 1 bv (n + 16) (ints .u8 (Su.box 2 n))) := ho4
  have HR4 : Hid (w2.heap.size ≤ w4.heap.size) := Nat.le_trans HR3.out hn4.size
  have HKA : Hid (∀ b, kv.ownBlock = some b → b < w3.heap.size) := fun b hb => ((HK3.out).lt b hb).2
  clear ho4 hs4 hn4 HS3 HB3 HK3 HKEEP HKB
  obtain ⟨gk, ck, rfl, hgk, _, hck, _⟩ := own_cell HK4.out (by decide)
  obtain ⟨gb, cb, rfl, hgb, _, hcb, _⟩ := own_cell HX4.out (by omega)
  have HGK : Hid (w2.heap.size ≤ gk ∧ gk < w3.heap.size ∧ w3.heap.size ≤ gb) := ⟨hgk, HKA.out gk rfl, hgb⟩
  clear hgk hck hgb hcb HKA
  go_wp2_with (first | with_reducible (refine stop_builtin .append ?_))
  refine Stop.go ?_
  have hb5 : Below w4.heap.size w4 (w4.alloc (.cells #[] 5)) := (Below.refl _ _).alloc (Nat.le_refl _) _
  refine law_append_src w4.heap.size _ 0 [] _ nonce rfl rfl (own_empty w4) ((HN0.out.keep (HB4.out.trans (hb5.mono HB4.out.size))).1) (by rw [HNL.out]; decide) (by simp) ?_
  intro nv w5 ho5 hg5
  have hbn : Below w4.heap.size w4 w5 := hb5.trans (below_append (own_empty w4) hg5 (by simp))
  rw [HNL.out, List.nil_append] at ho5
  have HN5 : Hid (w5.ownsRow w4.heap.size 5 1 nv 12 (ints .u8 nonce)) := ho5
  have HS5 : Hid (SuIs w5 p pq m x [(75, [], [], [], []), (66, Su.sign 75 1, nonce, lo, lt)]) := HS4.out.below hbn
  have HB5 : Hid (Below W.heap.size W w5) := HB4.out.trans (hbn.mono HB4.out.size)
  have HK5 : Hid (w5.ownsRow w2.heap.size 5 1 (.slice (some ⟨gk, 0, none⟩) 32 ck) 32 (ints .u8 (Su.sign 75 1))) := own_stays HK4.out (Only.of_below hbn []) (by simp)
  have HX5 : Hid (w5.ownsRow w3.heap.size 5 1 (.slice (some ⟨gb, 0, none⟩) (n + 16) cb) (n + 16) (ints .u8 (Su.box 2 n))) := own_stays HX4.out (Only.of_below hbn []) (by simp)
  have HR5 : Hid (w4.heap.size ≤ w5.heap.size) := hbn.size
  have HXL : Hid (gb < w4.heap.size) := own_lt HX4.out
  clear ho5 hg5 hb5 hbn HS4 HB4 HK4 HX4
  obtain ⟨gn, cn, rfl, hgn, hgn5, hcn, _⟩ := own_cell HN5.out (by decide)
  have HGN : Hid (w4.heap.size ≤ gn ∧ gn < w5.heap.size) := ⟨hgn, hgn5⟩
  clear hgn hgn5 hcn
  go_wp2_with (first | with_reducible (refine stop_builtin .append ?_))
  refine Stop.go ?_
  have hb6 : Below w5.heap.size w5 (w5.alloc (.cells #[] 5)) := (Below.refl _ _).alloc (Nat.le_refl _) _
  refine law_append_src w5.heap.size _ 0 [] _ lo rfl rfl (own_empty w5) ((HO0.out.keep (HB5.out.trans (hb6.mono HB5.out.size))).1) (by have := HY.out; rw [HOL.out]; omega) (by simp) ?_
  intro ov w6 ho6 hg6
  have hbn : Below w5.heap.size w5 w6 := hb6.trans (below_append (own_empty w5) hg6 (by simp))
  rw [HOL.out, List.nil_append, Nat.zero_add] at ho6
  have HO6 : Hid (w6.ownsRow w5.heap.size 5 1 ov k (ints .u8 lo)) := ho6
  have HN6 : Hid (w6.ownsRow w4.heap.size 5 1 (.slice (some ⟨gn, 0, none⟩) 12 cn) 12 (ints .u8 nonce)) := own_stays HN5.out (Only.of_below hbn []) (by simp)
  have HS6 : Hid (SuIs w6 p pq m x [(75, [], [], [], []), (66, Su.sign 75 1, nonce, lo, lt)]) := HS5.out.below hbn
  have HB6 : Hid (Below W.heap.size W w6) := HB5.out.trans (hbn.mono HB5.out.size)
  have HK6 : Hid (w6.ownsRow w2.heap.size 5 1 (.slice (some ⟨gk, 0, none⟩) 32 ck) 32 (ints .u8 (Su.sign 75 1))) := own_stays HK5.out (Only.of_below hbn []) (by simp)
  have HX6 : Hid (w6.ownsRow w3.heap.size 5 1 (.slice (some ⟨gb, 0, none⟩) (n + 16) cb) (n + 16) (ints .u8 (Su.box 2 n))) := own_stays HX5.out (Only.of_below hbn []) (by simp)
  have HBL : Hid ((Su.box 2 n).length = n + 16) := Su.box_length 2 n
  have HBS : Hid (∀ y ∈ Su.box 2 n, y < 256) := Su.box_lt 2 n
  have HLEN : Hid (∀ u ∈ [((75, [], [], [], []) : Su.Thing), (66, Su.sign 75 1, nonce, lo, lt)], u.2.2.2.2.length ≤ 50000) := fun u hu => by
    simp only [List.mem_cons, List.not_mem_nil, or_false] at hu
    rcases hu with rfl | rfl
    · decide
    · show lt.length ≤ 50000
      have := HY.out
      rw [HAL.out]
      omega
  have HZ5 : Hid (w4.heap.size ≤ w5.heap.size ∧ w5.heap.size ≤ w6.heap.size) := ⟨HR5.out, hbn.size⟩
  clear ho6 hg6 hb6 hbn HS5 HB5 HK5 HX5 HN5
  obtain ⟨qo, cc, rfl⟩ := own_slice HO6.out
  obtain ⟨i, hi⟩ : ∃ i, q % 12 = i := ⟨_, rfl⟩
  have i1 : i < 12 := by rw [← hi]; exact Nat.mod_lt _ (by decide)
  have ei : (q : Int) % 12 = (i : Int) := by omega
  have i0 : (0 : Int) ≤ (i : Int) := by omega
  have i2 : (i : Int) < 12 := by omega
  clear hi
  have hc : w6.cell? ⟨gn, i, none⟩ = some (.int .u8 (Sp.nth (nonce) i : Nat)) := own_at HN6.out i i1
  have hf : w6.frozen? ⟨gn, i, none⟩ = false := own_may HN6.out i
  have x1 : Sp.nth (nonce) i < 256 := Sp.nth_lt (by decide) (HNS.out) i
  have HNE : Hid ((nonce).set i (Sp.nth (nonce) i ^^^ y) ≠ nonce) := set_ne (by rw [HNL.out]; exact i1) (xor_ne HY.out.1)
  have HSM : Hid (∀ z ∈ (nonce).set i (Sp.nth (nonce) i ^^^ y), z < 256) := set_lt HNS.out (Nat.xor_lt_two_pow (n := 8) x1 HY.out.2.1)
  have HTL : Hid (((nonce).set i (Sp.nth (nonce) i ^^^ y)).length = 12) := by show _ = _; rw [List.length_set, HNL.out]
  have hxr := xor_u8 x1 HY.out.2.1
  have HOW : Hid ((w6.setCell ⟨gn, i, none⟩ (.int .u8 ((Sp.nth (nonce) i ^^^ y : Nat) : Int))).ownsRow w4.heap.size 5 1 (.slice (some ⟨gn, 0, none⟩) (12) cn) (12) (ints .u8 ((nonce).set i (Sp.nth (nonce) i ^^^ y)))) := own_set HN6.out
  have HON : Hid (Only [gn] w6 (w6.setCell ⟨gn, i, none⟩ (.int .u8 ((Sp.nth (nonce) i ^^^ y : Nat) : Int)))) := Only.setCell _ _ _ (by simp)
  generalize (nonce).set i (Sp.nth (nonce) i ^^^ y) = T at *
  generalize Sp.nth (nonce) i = xi at *
  go_wp2_with fail
  have hset : ∃ u, u = w6.setCell ⟨gn, i, none⟩ (.int .u8 ((xi ^^^ y : Nat) : Int)) := ⟨_, rfl⟩
  generalize w6.setCell ⟨gn, i, none⟩ (.int .u8 ((xi ^^^ y : Nat) : Int)) = w7 at *
  clear hset hc hf x1 hxr
  have HS7 : Hid (SuIs w7 p pq m x [(75, [], [], [], []), (66, Su.sign 75 1, nonce, lo, lt)]) := HS6.out.only HON.out ⟨fun e => by have := List.mem_singleton.1 e; have := HQ.out; have := HGK.out; have := HGN.out; have := HR3.out; have := HR4.out; have := HXL.out; have := HP.out; have := HZ5.out; omega, fun e => by have := List.mem_singleton.1 e; have := HQ.out; have := HGK.out; have := HGN.out; have := HR3.out; have := HR4.out; have := HXL.out; have := HP.out; have := HZ5.out; omega, fun e => by have := List.mem_singleton.1 e; have := HQ.out; have := HGK.out; have := HGN.out; have := HR3.out; have := HR4.out; have := HXL.out; have := HP.out; have := HZ5.out; omega, fun e => by have := List.mem_singleton.1 e; have := HQ.out; have := HGK.out; have := HGN.out; have := HR3.out; have := HR4.out; have := HXL.out; have := HP.out; have := HZ5.out; omega⟩
  have HB7 : Hid (Below W.heap.size W w7) := HB6.out.trans (HON.out.below HB6.out.size (all_one (by have := HQ.out; have := HGK.out; have := HGN.out; have := HR3.out; have := HR4.out; have := HXL.out; have := HP.out; have := HZ5.out; omega)))
  have HK7 : Hid (Src w7 (.slice (some ⟨gk, 0, none⟩) 32 ck) (Su.sign 75 1)) := Src.own HSS.out (own_only HK6.out HON.out (Off.at (ad := ⟨gk, 0, none⟩) (fun e => by have h0 : gk = gn := List.mem_singleton.1 e; have := HQ.out; have := HGK.out; have := HGN.out; have := HR3.out; have := HR4.out; have := HXL.out; have := HP.out; have := HZ5.out; omega)))
  have HO7 : Hid (Src w7 (.slice qo k cc) lo) := Src.own HLS.out (own_stays HO6.out HON.out (all_one HGN.out.2))
  have HX7 : Hid (Src w7 (.slice (some ⟨gb, 0, none⟩) (n + 16) cb) (Su.box 2 n)) := Src.own HBS.out (own_only HX6.out HON.out (Off.at (ad := ⟨gb, 0, none⟩) (fun e => by have h0 : gb = gn := List.mem_singleton.1 e; have := HQ.out; have := HGK.out; have := HGN.out; have := HR3.out; have := HR4.out; have := HXL.out; have := HP.out; have := HZ5.out; omega)))
  refine (Open_any (Su.sign 75 1) T lo (Su.box 2 n) _ _ _ _ p pq m x _ w7 HS7.out HK7.out (Src.own HSM.out HOW.out) HO7.out HX7.out HSL.out HTL.out (by have := HY.out; rw [HBL.out]; omega) (by simp) HLEN.out).mono ?_
  rintro e w8 ⟨hs8, hb8⟩
  rw [opens_pair, if_neg (fun e => HNE.out e.2.2.1.symm)] at hs8
  have he8 : e = .returned (.tuple #[.slice none 0 0, .int .i64 20]) := hs8
  subst he8
  have HBF : Hid (Below w.heap.size w w8) := HW0.out.trans ((HB7.out.trans (hb8.mono HB7.out.size)).mono HW0.out.size)
  clear hs8 hb8
  go_wp2_with fail
  go_ret
  exact ⟨rfl, HBF.out⟩
set_option maxHeartbeats 2000000 in
theorem opens_w3 (lt lo nonce : List Nat) (a o : Option Addr) (n ca k co q y : Nat) (w : World) (hA : Src w (.slice a n ca) lt) (hO : Src w (.slice o k co) lo) (hal : lt.length = n) (hol : lo.length = k)
    (hnl : nonce.length = 12) (hns : ∀ y ∈ nonce, y < 256) (hn : n ≤ 100) (hk : k ≤ 100) (hq : q ≤ 9223372036854775807) (y0 : 0 < y) (y1 : y < 256) :
    Calls Tryd.prog 7 #[.slice a n ca, .agg (arr .u8 nonce), .slice o k co, .int .i64 3, .int .i64 (q : Int), .int .u8 (y : Int)] w fun e w' => e = .returned (.bool true) ∧ Below w.heap.size w w' := by
  have hW0 : Below w.heap.size w (w.alloc (.cells (arr .u8 nonce) 47)) := (Below.refl _ _).alloc (Nat.le_refl _) _
  have HA0 : Hid (Old (w.alloc (.cells (arr .u8 nonce) 47)).heap.size (w.alloc (.cells (arr .u8 nonce) 47)) (.slice a n ca) lt) := Old.of (hA.below hW0)
  have HO0 : Hid (Old (w.alloc (.cells (arr .u8 nonce) 47)).heap.size (w.alloc (.cells (arr .u8 nonce) 47)) (.slice o k co) lo) := Old.of (hO.below hW0)
  have HN0 : Hid (Old (w.alloc (.cells (arr .u8 nonce) 47)).heap.size (w.alloc (.cells (arr .u8 nonce) 47)) (.slice (some ⟨w.heap.size, 0, none⟩) 12 12) nonce) := Old.of (arr_src 47 hns hnl)
  have HW0 : Hid (Below w.heap.size w (w.alloc (.cells (arr .u8 nonce) 47))) := hW0
  have HAL : Hid (lt.length = n) := hal
  have HOL : Hid (lo.length = k) := hol
  have HNL : Hid (nonce.length = 12) := hnl
  have HNS : Hid (∀ y ∈ nonce, y < 256) := hns
  have HLS : Hid (∀ y ∈ lo, y < 256) := hO.small
  have HY : Hid (0 < y ∧ y < 256 ∧ n ≤ 100 ∧ k ≤ 100 ∧ q ≤ 9223372036854775807) := ⟨y0, y1, hn, hk, hq⟩
  have n' : ¬ (100 : Int) < (n : Int) := by omega
  have k' : ¬ (100 : Int) < (k : Int) := by omega
  have q0 : ¬ (q : Int) < 0 := by omega
  have yz : ((y : Int) == 0) = false := by rw [beq_eq_false_iff_ne]; omega
  clear hA hO hal hol hns hnl hW0 hn hk y0 y1 hq
  go_enter Tryd.func7, Tryd.ntmps7
  go_wp2_with fail
  generalize hW : w.alloc (.cells (arr .u8 nonce) 47) = W at *
  have HZ : Hid (w.heap.size < W.heap.size) := by show _ < _; rw [← hW]; simp
  clear hW
  refine (anchor_any W).mono ?_
  rintro e w1 ⟨rfl, hb1⟩
  have HB1 : Hid (Below W.heap.size W w1) := hb1
  clear hb1
  go_wp2_with fail
  refine (Signs_new w1).mono ?_
  rintro e w2 ⟨p, pq, m, x, rfl, hs2, hb2, hp2⟩
  have HS2 : Hid (SuIs w2 p pq m x []) := hs2
  have HP : Hid (W.heap.size ≤ p ∧ W.heap.size ≤ pq ∧ W.heap.size ≤ m ∧ W.heap.size ≤ x) := by have := HB1.out.size; show _ ∧ _; omega
  have HB2 : Hid (Below W.heap.size W w2) := HB1.out.trans (hb2.mono HB1.out.size)
  have HQ : Hid (p < w2.heap.size ∧ pq < w2.heap.size ∧ m < w2.heap.size ∧ x < w2.heap.size) := HS2.out.lt
  clear hs2 hb2 hp2 HB1
  go_wp2_with fail
  refine (Key_signs p pq m x [] w2 HS2.out (by decide)).mono ?_
  rintro e w3 ⟨kv, rfl, ho3, hs3, hn3⟩
  have HS3 : Hid (SuIs w3 p pq m x [(75, [], [], [], [])]) := hs3
  have HB3 : Hid (Below W.heap.size W w3) := HB2.out.trans (hn3.below HB2.out.size (all_one HP.out.1))
  have HR3 : Hid (w2.heap.size ≤ w3.heap.size) := hn3.size
  have HK3 : Hid (w3.ownsRow w2.heap.size 5 1 kv 32 (ints .u8 (Su.sign 75 1))) := ho3
  clear ho3 hs3 hn3 HS2 HB2
  have HKEEP : Hid (∀ w1 w2, Below W.heap.size W w1 → Only [p, x] w1 w2 → Below W.heap.size W w2) := fun w1 w2 h1 h2 => h1.trans (h2.below h1.size (all_two HP.out.1 HP.out.2.2.2))
  have HSL : Hid ((Su.sign 75 1).length = 32) := Su.sign_length 75 1
  have HSS : Hid (∀ y ∈ Su.sign 75 1, y < 256) := Su.sign_lt (by decide) 1
  go_wp2_with fail
  refine (Seal_ok (Su.sign 75 1) nonce lo lt kv _ _ _ p pq m x [(75, [], [], [], [])] w3 HS3.out (fun w1 h1 => key_src (own_stays HK3.out h1 (all_two HQ.out.1 HQ.out.2.2.2))) (fun w1 h1 => (HN0.out.keep (HKEEP.out w3 w1 HB3.out h1)).1) (fun w1 h1 => (HO0.out.keep (HKEEP.out w3 w1 HB3.out h1)).1) (fun w1 h1 => (HA0.out.keep (HKEEP.out w3 w1 HB3.out h1)).1) HSL.out HNL.out (by have := HY.out; rw [HAL.out]; omega) (by decide)).mono ?_
  rintro e w4 ⟨bv, rfl, ho4, hs4, hn4⟩
  rw [HAL.out] at ho4
  have HS4 : Hid (SuIs w4 p pq m x [(75, [], [], [], []), (66, Su.sign 75 1, nonce, lo, lt)]) := hs4
  have HB4 : Hid (Below W.heap.size W w4) := HKEEP.out w3 w4 HB3.out hn4
  have HK4 : Hid (w4.ownsRow w2.heap.size 5 1 kv 32 (ints .u8 (Su.sign 75 1))) := own_stays HK3.out hn4 (all_two HQ.out.1 HQ.out.2.2.2)
  have HKB : Hid (Off kv [w3.heap.size] ∨ True) := .inr trivial
  have HX4 : Hid (w4.ownsRow w3.heap.size 5 1 bv (n + 16) (ints .u8 (Su.box 2 n))) := ho4
  have HR4 : Hid (w2.heap.size ≤ w4.heap.size) := Nat.le_trans HR3.out hn4.size
  have HKA : Hid (∀ b, kv.ownBlock = some b → b < w3.heap.size) := fun b hb => ((HK3.out).lt b hb).2
  clear ho4 hs4 hn4 HS3 HB3 HK3 HKEEP HKB
  obtain ⟨gk, ck, rfl, hgk, _, hck, _⟩ := own_cell HK4.out (by decide)
  obtain ⟨gb, cb, rfl, hgb, _, hcb, _⟩ := own_cell HX4.out (by omega)
  have HGK : Hid (w2.heap.size ≤ gk ∧ gk < w3.heap.size ∧ w3.heap.size ≤ gb) := ⟨hgk, HKA.out gk rfl, hgb⟩
  clear hgk hck hgb hcb HKA
  go_wp2_with (first | with_reducible (refine stop_builtin .append ?_))
  refine Stop.go ?_
  have hb5 : Below w4.heap.size w4 (w4.alloc (.cells #[] 5)) := (Below.refl _ _).alloc (Nat.le_refl _) _
  refine law_append_src w4.heap.size _ 0 [] _ nonce rfl rfl (own_empty w4) ((HN0.out.keep (HB4.out.trans (hb5.mono HB4.out.size))).1) (by rw [HNL.out]; decide) (by simp) ?_
  intro nv w5 ho5 hg5
  have hbn : Below w4.heap.size w4 w5 := hb5.trans (below_append (own_empty w4) hg5 (by simp))
  rw [HNL.out, List.nil_append] at ho5
  have HN5 : Hid (w5.ownsRow w4.heap.size 5 1 nv 12 (ints .u8 nonce)) := ho5
  have HS5 : Hid (SuIs w5 p pq m x [(75, [], [], [], []), (66, Su.sign 75 1, nonce, lo, lt)]) := HS4.out.below hbn
  have HB5 : Hid (Below W.heap.size W w5) := HB4.out.trans (hbn.mono HB4.out.size)
  have HK5 : Hid (w5.ownsRow w2.heap.size 5 1 (.slice (some ⟨gk, 0, none⟩) 32 ck) 32 (ints .u8 (Su.sign 75 1))) := own_stays HK4.out (Only.of_below hbn []) (by simp)
  have HX5 : Hid (w5.ownsRow w3.heap.size 5 1 (.slice (some ⟨gb, 0, none⟩) (n + 16) cb) (n + 16) (ints .u8 (Su.box 2 n))) := own_stays HX4.out (Only.of_below hbn []) (by simp)
  have HR5 : Hid (w4.heap.size ≤ w5.heap.size) := hbn.size
  have HXL : Hid (gb < w4.heap.size) := own_lt HX4.out
  clear ho5 hg5 hb5 hbn HS4 HB4 HK4 HX4
  obtain ⟨gn, cn, rfl, hgn, hgn5, hcn, _⟩ := own_cell HN5.out (by decide)
  have HGN : Hid (w4.heap.size ≤ gn ∧ gn < w5.heap.size) := ⟨hgn, hgn5⟩
  clear hgn hgn5 hcn
  go_wp2_with (first | with_reducible (refine stop_builtin .append ?_))
  refine Stop.go ?_
  have hb6 : Below w5.heap.size w5 (w5.alloc (.cells #[] 5)) := (Below.refl _ _).alloc (Nat.le_refl _) _
  refine law_append_src w5.heap.size _ 0 [] _ lo rfl rfl (own_empty w5) ((HO0.out.keep (HB5.out.trans (hb6.mono HB5.out.size))).1) (by have := HY.out; rw [HOL.out]; omega) (by simp) ?_
  intro ov w6 ho6 hg6
  have hbn : Below w5.heap.size w5 w6 := hb6.trans (below_append (own_empty w5) hg6 (by simp))
  rw [HOL.out, List.nil_append, Nat.zero_add] at ho6
  have HO6 : Hid (w6.ownsRow w5.heap.size 5 1 ov k (ints .u8 lo)) := ho6
  have HN6 : Hid (w6.ownsRow w4.heap.size 5 1 (.slice (some ⟨gn, 0, none⟩) 12 cn) 12 (ints .u8 nonce)) := own_stays HN5.out (Only.of_below hbn []) (by simp)
  have HS6 : Hid (SuIs w6 p pq m x [(75, [], [], [], []), (66, Su.sign 75 1, nonce, lo, lt)]) := HS5.out.below hbn
  have HB6 : Hid (Below W.heap.size W w6) := HB5.out.trans (hbn.mono HB5.out.size)
  have HK6 : Hid (w6.ownsRow w2.heap.size 5 1 (.slice (some ⟨gk, 0, none⟩) 32 ck) 32 (ints .u8 (Su.sign 75 1))) := own_stays HK5.out (Only.of_below hbn []) (by simp)
  have HX6 : Hid (w6.ownsRow w3.heap.size 5 1 (.slice (some ⟨gb, 0, none⟩) (n + 16) cb) (n + 16) (ints .u8 (Su.box 2 n))) := own_stays HX5.out (Only.of_below hbn []) (by simp)
  have HBL : Hid ((Su.box 2 n).length = n + 16) := Su.box_length 2 n
  have HBS : Hid (∀ y ∈ Su.box 2 n, y < 256) := Su.box_lt 2 n
  have HLEN : Hid (∀ u ∈ [((75, [], [], [], []) : Su.Thing), (66, Su.sign 75 1, nonce, lo, lt)], u.2.2.2.2.length ≤ 50000) := fun u hu => by
    simp only [List.mem_cons, List.not_mem_nil, or_false] at hu
    rcases hu with rfl | rfl
    · decide
    · show lt.length ≤ 50000
      have := HY.out
      rw [HAL.out]
      omega
  have HZ5 : Hid (w4.heap.size ≤ w5.heap.size ∧ w5.heap.size ≤ w6.heap.size) := ⟨HR5.out, hbn.size⟩
  clear ho6 hg6 hb6 hbn HS5 HB5 HK5 HX5 HN5
  obtain ⟨qo, cc, rfl⟩ := own_slice HO6.out
  go_wp2_with (first | with_reducible (refine stop_builtin .append ?_))
  refine Stop.go ?_
  have hb7 : Below w6.heap.size w6 (w6.alloc (.cells #[.int .u8 (y : Int)] 5)) := (Below.refl _ _).alloc (Nat.le_refl _) _
  have ho7 : (w6.alloc (.cells #[.int .u8 (y : Int)] 5)).ownsRow w5.heap.size 5 1 (.slice qo k cc) k (ints .u8 lo) := ownsRow_alloc HO6.out _
  refine law_append_src w5.heap.size _ k lo (.slice (some ⟨w6.heap.size, 0, none⟩) 1 1) [y] rfl rfl ho7 (one_src w6 y HY.out.2.1) (by have := HY.out; simp; omega) (by have := HZ5.out; simp; omega) ?_
  intro ov w7 ho8 hg8
  have hbn : Below w5.heap.size w6 w7 := (hb7.mono HZ5.out.2).trans (below_append ho7 hg8 (by have := HZ5.out; simp; omega))
  have HO7 : Hid (w7.ownsRow w5.heap.size 5 1 ov (k + 1) (ints .u8 (lo ++ [y]))) := ho8
  have hk6 : ∀ b, b < w5.heap.size → w7.heap[b]? = w6.heap[b]? := hbn.block
  have HS7 : Hid (SuIs w7 p pq m x [(75, [], [], [], []), (66, Su.sign 75 1, nonce, lo, lt)]) := HS6.out.kept (fun b hb => hk6 b (by have := HQ.out; have := HR4.out; have := HZ5.out; omega))
  have HB7 : Hid (Below W.heap.size W w7) := HB6.out.trans (hbn.mono (by have := HP.out; have := HQ.out; have := HR4.out; have := HZ5.out; omega))
  have HO8 : Hid (Only [] w6 w7 ∨ True) := .inr trivial
  have hkeep : ∀ (base g c n : Nat) (l : List Nat), g < w5.heap.size → w6.ownsRow base 5 1 (.slice (some ⟨g, 0, none⟩) n c) n (ints .u8 l) → w7.ownsRow base 5 1 (.slice (some ⟨g, 0, none⟩) n c) n (ints .u8 l) := fun base g c n l hg h => by
    obtain ⟨h1, h2 | ⟨g', cap, cur, e, h3, hh, h4⟩⟩ := h
    · exact ⟨h1, .inl h2⟩
    · cases e
      exact ⟨h1, .inr ⟨g, c, cur, rfl, h3, (hk6 g hg).trans hh, h4⟩⟩
  have HK7 : Hid (Src w7 (.slice (some ⟨gk, 0, none⟩) 32 ck) (Su.sign 75 1)) := Src.own HSS.out (hkeep _ gk ck 32 _ (by have := HQ.out; have := HGK.out; have := HGN.out; have := HR3.out; have := HR4.out; have := HXL.out; have := HP.out; have := HZ5.out; omega) HK6.out)
  have HN7 : Hid (Src w7 (.slice (some ⟨gn, 0, none⟩) 12 cn) nonce) := Src.own HNS.out (hkeep _ gn cn 12 _ HGN.out.2 HN6.out)
  have HX7 : Hid (Src w7 (.slice (some ⟨gb, 0, none⟩) (n + 16) cb) (Su.box 2 n)) := Src.own HBS.out (hkeep _ gb cb (n + 16) _ (by have := HQ.out; have := HGK.out; have := HGN.out; have := HR3.out; have := HR4.out; have := HXL.out; have := HP.out; have := HZ5.out; omega) HX6.out)
  have HOS : Hid (∀ z ∈ lo ++ [y], z < 256) := fun z hz => by
    rcases List.mem_append.1 hz with h | h
    · exact HLS.out z h
    · rw [List.mem_singleton.1 h]; exact HY.out.2.1
  obtain ⟨qv, cv, rfl⟩ := own_slice ho8
  clear ho8 hg8 hbn hk6 hb7 ho7 hkeep HO8
  go_wp2_with fail
  refine (Open_any (Su.sign 75 1) nonce (lo ++ [y]) (Su.box 2 n) _ _ _ _ p pq m x _ w7 HS7.out HK7.out HN7.out (Src.own HOS.out HO7.out) HX7.out HSL.out HNL.out (by have := HY.out; rw [HBL.out]; omega) (by simp) HLEN.out).mono ?_
  rintro e w8 ⟨hs8, hb8⟩
  rw [opens_pair, if_neg (fun e => by have h1 := congrArg List.length e.2.2.2; simp at h1)] at hs8
  have he8 : e = .returned (.tuple #[.slice none 0 0, .int .i64 20]) := hs8
  subst he8
  have HBF : Hid (Below w.heap.size w w8) := HW0.out.trans ((HB7.out.trans (hb8.mono HB7.out.size)).mono HW0.out.size)
  clear hs8 hb8
  go_wp2_with fail
  go_ret
  exact ⟨rfl, HBF.out⟩
end Go.Proofs.YtbblokikhocdfaaDoor.S7
