/- The walk of AeadTags. -/
import Derived.Test.YtnceiccciaihoaaA5Keys
namespace Go.Proofs.Ytnceiccciaihoaa.A5
open Go.RowKit P4
/-- A byte of a row of one's own is set. -/
theorem own_set {w : World} {base g n c i y : Nat} {l : List Nat} (h : w.ownsRow base 5 1 (.slice (some ⟨g, 0, none⟩) n c) n (ints .u8 l)) (_ : i < n) : (w.setCell ⟨g, i, none⟩ (.int .u8 (y : Nat))).ownsRow base 5 1 (.slice (some ⟨g, 0, none⟩) n c) n (ints .u8 (l.set i y)) := by
  obtain ⟨h1, ⟨e, _⟩ | ⟨g', cap, cur, e, hb, hh, hn, hm, hs, ht⟩⟩ := h
  · cases e
  · cases e
    have hset := heap_setCell_same w g i cur 5 (.int .u8 (y : Nat)) hh
    refine ⟨by simpa [ints] using h1, .inr ⟨g, c, cur.setIfInBounds i (.int .u8 (y : Nat)), rfl, hb, hset, hn, hm, by simpa using hs, ?_⟩⟩
    rw [Array.toList_setIfInBounds, List.take_set, ht]
    simp [ints]
theorem own_may {w : World} {base g n c : Nat} {xs : List Value} (h : w.ownsRow base 5 1 (.slice (some ⟨g, 0, none⟩) n c) n xs) (i : Nat) : w.frozen? ⟨g, i, none⟩ = false := by
  obtain ⟨_, ⟨e, _⟩ | ⟨g', cap, cur, e, _, hh, _⟩⟩ := h
  · cases e
  · cases e
    exact frozen_of_row _ _ _ _ _ hh
theorem turn_bit {x s : Nat} (hx : x < 256) (hs : s < 8) : bits BinOp.xor .u8 (x : Int) (2 ^ s % 256) = ((x ^^^ 2 ^ s : Nat) : Int) := by
  have p : 2 ^ s < 256 := Nat.pow_lt_pow_right (n := 8) (by decide) hs
  have e : (2 : Int) ^ s % 256 = ((2 ^ s : Nat) : Int) := by
    have e1 : ((2 ^ s : Nat) : Int) = (2 : Int) ^ s := by rw [Int.natCast_pow]; rfl
    rw [← e1]
    generalize 2 ^ s = y at *
    omega
  rw [e]
  exact u8_xor_nat _ _ hx p
set_option maxHeartbeats 1000000 in
theorem tags_early (key nonce : List Nat) (po pt : Option Addr) (n co m ct : Nat) (z : Int) (w : World) (h : 100 < n ∨ 200 < m ∨ z < 0) :
    Calls Try.prog 5 #[.agg (arr .u8 key), .agg (arr .u8 nonce), .slice po n co, .slice pt m ct, .int .i64 z] w fun e w' => e = .returned (.bool true) ∧ Below w.heap.size w w' := by
  have HH : Hid (100 < n ∨ 200 < m ∨ z < 0) := h
  clear h
  go_enter Try.func5, Try.ntmps5
  go_wp2_with fail
  refine (anchor_any _).mono ?_
  rintro e w1 ⟨rfl, hb1⟩
  have HB1 : Hid (Below w.heap.size w w1) := (C3.knW_below w key nonce).trans (hb1.mono (C3.knW_below w key nonce).size)
  clear hb1
  go_wp2_with fail
  all_goals first | (exfalso; have := HH.out; omega) | (go_ret; exact ⟨rfl, HB1.out⟩)
set_option maxHeartbeats 4000000 in
theorem tags_any (key nonce lo lt : List Nat) (po pt : Option Addr) (n co m ct z : Nat) (w : World) (hk : key.length = 32) (hn : nonce.length = 12) (hks : ∀ x ∈ key, x < 256) (hns : ∀ x ∈ nonce, x < 256) (hO : Src w (.slice po n co) lo) (hT : Src w (.slice pt m ct) lt)
    (h1 : n ≤ 100) (h2 : m ≤ 200) (hz : z < 9223372036854775808) :
    Calls Try.prog 5 #[.agg (arr .u8 key), .agg (arr .u8 nonce), .slice po n co, .slice pt m ct, .int .i64 (z : Int)] w fun e w' => e = .returned (.bool true) ∧ Below w.heap.size w w' := by
  have HX : Hid (SealAll (C3.knW w key nonce) w.heap.size key nonce) := sealAll_of hk hn hks hns
  have HZ : Hid (OpenAll (C3.knW w key nonce) w.heap.size key nonce) := openAll_of hk hn hks hns
  have HO : Hid (Src w (.slice po n co) lo) := hO
  have HT : Hid (Src w (.slice pt m ct) lt) := hT
  have HOL : Hid (lo.length = n) := hO.text.1
  have HTL : Hid (lt.length = m) := hT.text.1
  have HBA : Hid (Below w.heap.size w (C3.knW w key nonce)) := C3.knW_below w key nonce
  clear hO hT hks hns hk hn
  have c1 : (n : Int) ≤ 100 := by omega
  have c2 : (m : Int) ≤ 200 := by omega
  have c3 : (0 : Int) ≤ (z : Int) := by omega
  have c4 : (z : Int) ≤ 9223372036854775807 := by omega
  clear h1 h2 hz
  go_enter Try.func5, Try.ntmps5
  go_wp2_with fail
  rw [show (w.alloc (Obj.cells (arr .u8 key) 31)).alloc (Obj.cells (arr .u8 nonce) 32) = C3.knW w key nonce from rfl]
  refine (anchor_any _).mono ?_
  rintro e w1 ⟨rfl, hb1⟩
  have HB1 : Hid (Below (C3.knW w key nonce).heap.size (C3.knW w key nonce) w1) := hb1
  have HO1 : Hid (Src w1 (.slice po n co) lo) := HO.out.below (HBA.out.trans (hb1.mono HBA.out.size))
  have HT1 : Hid (Src w1 (.slice pt m ct) lt) := HT.out.below (HBA.out.trans (hb1.mono HBA.out.size))
  have HOA : Hid (∀ u, Below w.heap.size w u → Src u (.slice po n co) lo) := fun u hu => HO.out.below hu
  clear hb1 HO HT
  go_wp2_with fail
  go_region_with ((go_at_call 10; refine (HX.out _ _ _ lo lt m (below_drewN HB1.out 1) (HO1.out.drewN 1) (HT1.out.drewN 1) HTL.out (by rw [HOL.out]; omega) (by omega)).mono ?_; rintro e w3 ⟨v, rfl, ho, hb⟩; obtain ⟨g, c, rfl, hgb, _, hgc, hr⟩ := own_cell ho (by omega)))
  have hb' : Below w1.heap.size w1 w3 := (below_drewN (Below.refl _ _) 1).trans hb
  have HOW : Hid (w3.ownsRow w1.heap.size 5 1 (.slice (some ⟨g, 0, none⟩) (m + 16) c) (m + 16) (ints .u8 (Ae.box key nonce lo lt))) := ho
  have HB3 : Hid (Below (C3.knW w key nonce).heap.size (C3.knW w key nonce) w3) := HB1.out.trans (hb'.mono HB1.out.size)
  have HO3 : Hid (Src w3 (.slice po n co) lo) := HO1.out.below hb'
  have HBL : Hid ((Ae.box key nonce lo lt).length = m + 16) := by show _ = _; rw [Ae.box_length, HTL.out]
  have HBB : Hid (∀ x ∈ Ae.box key nonce lo lt, x < 256) := Ae.box_lt HT1.out.1
  have HG1 : Hid (w1.heap.size ≤ g) := hgb
  clear hb hb' ho hr hgb HO1 HT1
  obtain ⟨j, hj⟩ : ∃ j, z / 8 % 16 = j := ⟨_, rfl⟩
  obtain ⟨s, hs⟩ : ∃ s, z % 8 = s := ⟨_, rfl⟩
  obtain ⟨q, hq⟩ : ∃ q, z % 16 = q := ⟨_, rfl⟩
  have j1 : (z : Int) / 8 % 16 = (j : Int) := by omega
  have s1 : (z : Int) % 8 = (s : Int) := by omega
  have q1 : (z : Int) % 16 = (q : Int) := by omega
  have j2 : j < 16 := by omega
  have s2 : s < 8 := by omega
  have q2 : q < 16 := by omega
  clear hj hs hq
  have j3 : (0 : Int) ≤ (j : Int) := by omega
  have s3 : (0 : Int) ≤ (s : Int) := by omega
  have s4 : (s : Int) < 8 := by omega
  have j4 : (m : Int) + (j : Int) < (m : Int) + 16 := by omega
  have j5 : (0 : Int) ≤ (m : Int) + (j : Int) := by omega
  have hcell : w3.cell? ⟨g, m + j, none⟩ = some (.int .u8 (Sp.nth (Ae.box key nonce lo lt) (m + j) : Nat)) := by
    obtain ⟨g', c', e, _, _, _, hr⟩ := own_cell HOW.out (by omega)
    cases e
    have := range_cell hr (m + j) (by rw [HBL.out]; omega)
    rwa [Nat.zero_add] at this
  have hfr := own_may HOW.out (m + j)
  have x1 : Sp.nth (Ae.box key nonce lo lt) (m + j) < 256 := Sp.nth_lt (by decide) HBB.out _
  obtain ⟨x, hx⟩ : ∃ x, Sp.nth (Ae.box key nonce lo lt) (m + j) = x := ⟨_, rfl⟩
  have HXE : Hid (Sp.nth (Ae.box key nonce lo lt) (m + j) = x) := hx
  rw [hx] at hcell x1
  clear hx
  go_wp2_with fail
  go_region
  rw [turn_bit x1 s2]
  have hd : ∀ u : World, Below u.heap.size u u.drew := fun u => ⟨rfl, rfl, rfl, Nat.le_refl _, fun _ _ => rfl⟩
  have HOS : Hid (Src (w3.setCell ⟨g, m + j, none⟩ (.int .u8 ((x ^^^ 2 ^ s : Nat) : Int))).drew (.slice (some ⟨g, 0, none⟩) (m + 16) c) ((Ae.box key nonce lo lt).set (m + j) (x ^^^ 2 ^ s))) :=
    (Src.own (fun y hy => by
      rcases List.mem_or_eq_of_mem_set hy with h | h
      · exact HBB.out y h
      · rw [h]; exact Nat.xor_lt_two_pow (n := 8) x1 (Nat.pow_lt_pow_right (n := 8) (by decide) s2)) (own_set HOW.out (by omega))).below (hd _)
  have HSN : Hid (Ae.opens key nonce lo ((Ae.box key nonce lo lt).set (m + j) (x ^^^ 2 ^ s)) = none) := by
    show _ = _
    rw [← HTL.out]
    refine Ae.opens_spoilt j2 ?_
    have e1 : Sp.nth (Ae.tagOf key nonce lo (C3.Ch.xor key 1 nonce lt)) j = x := by
      have := HXE.out
      rw [Ae.box, ← HTL.out, ← C3.Ch.xor_length key 1 nonce lt, Sp.nth_append_right] at this
      exact this
    rw [e1]
    exact Ae.turned_ne (Nat.two_pow_pos s)
  have HB4 : Hid (Below (C3.knW w key nonce).heap.size (C3.knW w key nonce) (w3.setCell ⟨g, m + j, none⟩ (.int .u8 ((x ^^^ 2 ^ s : Nat) : Int))).drew) := (HB3.out.setCell (Nat.le_trans HB1.out.size HG1.out) _).drew
  have HO4 : Hid (Src (w3.setCell ⟨g, m + j, none⟩ (.int .u8 ((x ^^^ 2 ^ s : Nat) : Int))).drew (.slice po n co) lo) := (HOA.out _ (HBA.out.trans (HB4.out.mono HBA.out.size)))
  have HLL : Hid (((Ae.box key nonce lo lt).set (m + j) (x ^^^ 2 ^ s)).length = m + 16) := by show _ = _; rw [List.length_set, HBL.out]
  generalize (w3.setCell ⟨g, m + j, none⟩ (.int .u8 ((x ^^^ 2 ^ s : Nat) : Int))).drew = w4 at *
  generalize (Ae.box key nonce lo lt).set (m + j) (x ^^^ 2 ^ s) = B at *
  clear HOW HB3 HO3 HBL HBB HG1 HXE hcell hfr x1 HX hd
  go_wp2_with fail
  go_region_with ((go_at_call 12; refine (HZ.out _ _ _ lo B (below_drewN HB4.out 1) (HO4.out.drewN 1) (HOS.out.drewN 1) (by rw [HOL.out]; omega) (by rw [HLL.out]; omega)).mono ?_; rintro e w5 ⟨h5, hb⟩; rw [HSN.out] at h5; obtain rfl : e = _ := h5))
  have hb' : Below w4.heap.size w4 w5 := (below_drewN (Below.refl _ _) 1).trans hb
  have HB5 : Hid (Below (C3.knW w key nonce).heap.size (C3.knW w key nonce) w5) := HB4.out.trans (hb'.mono HB4.out.size)
  have HO5 : Hid (Src w5 (.slice po n co) lo) := HO4.out.below hb'
  have HS5 : Hid (Src w5 (.slice (some ⟨g, 0, none⟩) q c) (B.take q)) := by
    obtain ⟨_, hc5, hs5, ht5⟩ := (HOS.out.below hb').text
    obtain ⟨b, o, e, hr⟩ := ht5 (by intro e; have := HLL.out; rw [e] at this; simp at this)
    cases e
    exact Src.row (fun y hy => hs5 y (List.mem_of_mem_take hy)) (by rw [List.length_take]; omega) (range_take hr q) (by rw [List.length_take, HLL.out]; omega)
  have HSH : Hid (Ae.opens key nonce lo (B.take q) = none) := Ae.opens_short (by rw [List.length_take]; omega)
  have HQL : Hid ((B.take q).length ≤ 40000) := by show _ ≤ _; rw [List.length_take]; omega
  clear hb hb' HOS HSN HB4 HO4 HLL
  generalize B.take q = C at *
  have q3 : (0 : Int) ≤ (q : Int) := by omega
  have q4 : (q : Int) ≤ (c : Int) := by omega
  have q5 : (z : Int).tmod 16 = (q : Int) := by rw [Int.tmod_eq_emod_of_nonneg (by omega)]; exact q1
  have q6 : (0 : Int) ≤ (z : Int).tmod 16 := by omega
  have q7 : (z : Int).tmod 16 ≤ (c : Int) := by omega
  go_wp2_with fail
  go_region_with ((go_at_call 12; refine (HZ.out _ _ _ lo C (below_drewN HB5.out 1) (HO5.out.drewN 1) (HS5.out.drewN 1) (by rw [HOL.out]; omega) HQL.out).mono ?_; rintro e w6 ⟨h6, hb⟩; rw [HSH.out] at h6; obtain rfl : e = _ := h6))
  all_goals
    have hb' : Below w5.heap.size w5 w6 := (below_drewN (Below.refl _ _) 1).trans hb
    have HBF : Hid (Below w.heap.size w w6) := HBA.out.trans ((HB5.out.trans (hb'.mono HB5.out.size)).mono HBA.out.size)
    clear hb hb' HB5 HO5 HS5 HSH HQL HZ
    go_wp2_with fail
    go_ret
    exact ⟨rfl, HBF.out⟩
end Go.Proofs.Ytnceiccciaihoaa.A5
