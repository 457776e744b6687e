/- The walk of ChachaCuts. -/
import Derived.Test.YtnbdadhdpplldacStrB
namespace Go.Proofs.Ytnbdadhdpplldac
open Go.RowKit
set_option maxHeartbeats 1000000 in
theorem cuts_early (key nonce : List Nat) (z q : Int) (pt : Option Addr) (n ct : Nat) (w : World) (hq1 : -9223372036854775808 ≤ q) (hq2 : q ≤ 9223372036854775807) (h : 400 < n ∨ z < 0 ∨ 4294967295 < z ∨ q < 0 ∨ 6 < q ∨ (n : Int) < 64 * q) :
    Calls Try.prog 5 #[.agg (arr .u8 key), .int .i64 z, .agg (arr .u8 nonce), .slice pt n ct, .int .i64 q] w fun e w' => e = .returned (.bool true) ∧ Below w.heap.size w w' := by
  have HH : Hid (400 < n ∨ z < 0 ∨ 4294967295 < z ∨ q < 0 ∨ 6 < q ∨ (n : Int) < 64 * q) := h
  clear h
  go_enter Try.func5, Try.ntmps5
  go_wp2_with fail
  refine (anchor_any _).mono ?_
  rintro e w1 ⟨rfl, hb1⟩
  have HB1 : Hid (Below w.heap.size w w1) := (knW_below w key nonce).trans (hb1.mono (knW_below w key nonce).size)
  clear hb1
  go_wp2_with fail
  all_goals first | (exfalso; have := HH.out; omega) | (go_ret; exact ⟨rfl, HB1.out⟩)
theorem TextIs.drop {w : World} {p : Option Addr} {l : List Nat} (h : TextIs w p l) (n : Nat) (b o : Nat) (hp : l ≠ [] → p = some ⟨b, o, none⟩) : TextIs w (some ⟨b, o + n, none⟩) (l.drop n) :=
  ⟨fun x hx => h.1 x (List.mem_of_mem_drop hx), fun h0 => by
    have h1 : l ≠ [] := by intro e; rw [e] at h0; simp at h0
    obtain ⟨b', o', e, hr⟩ := h.2 h1
    rw [hp h1] at e
    obtain ⟨rfl, rfl⟩ : b = b' ∧ o = o' := by cases e; exact ⟨rfl, rfl⟩
    refine ⟨b, o + n, rfl, fun j v hv => ?_⟩
    have := hr (n + j) v (by rw [← hv]; simp [ints, List.getElem?_drop])
    rw [Nat.add_assoc]
    exact this⟩
set_option maxHeartbeats 1000000 in
theorem cuts_any (key nonce text : List Nat) (c q : Nat) (b o : Nat) (n ct : Nat) (w : World) (hk : key.length = 32) (hn : nonce.length = 12) (hks : ∀ x ∈ key, x < 256) (hns : ∀ x ∈ nonce, x < 256) (hT : TextIs w (some ⟨b, o, none⟩) text) (htl : text.length = n)
    (hn4 : n ≤ 400) (hc : c < 4294967296) (hq6 : q ≤ 6) (hq : 64 * q ≤ n) (hct : n ≤ ct) (hne : ¬ ct = 64 * q) :
    Calls Try.prog 5 #[.agg (arr .u8 key), .int .i64 c, .agg (arr .u8 nonce), .slice (some ⟨b, o, none⟩) n ct, .int .i64 q] w fun e w' => e = .returned (.bool true) ∧ Below w.heap.size w w' := by
  have HX : Hid (XorAll (knW w key nonce) w.heap.size key nonce) := xorAll_of hk hn hks hns
  have HT : Hid (TextIs w (some ⟨b, o, none⟩) text) := hT
  have HTL : Hid (text.length = n) := htl
  have HBA : Hid (Below w.heap.size w (knW w key nonce)) := knW_below w key nonce
  clear hT hks hns hk hn htl
  have c1 : (n : Int) ≤ 400 := by omega
  have c2 : (c : Int) ≤ 4294967295 := by omega
  have c3 : 64 * (q : Int) ≤ (n : Int) := by omega
  have c4 : (q : Int) ≤ 6 := by omega
  go_enter Try.func5, Try.ntmps5
  go_wp2_with fail
  rw [show (w.alloc (Obj.cells (arr .u8 key) 32)).alloc (Obj.cells (arr .u8 nonce) 33) = knW w key nonce from rfl]
  refine (anchor_any _).mono ?_
  rintro e w1 ⟨rfl, hb1⟩
  have HB1 : Hid (Below (knW w key nonce).heap.size (knW w key nonce) w1) := hb1
  clear hb1
  go_wp2_with fail
  have HT1 : Hid (TextIs w1 (some ⟨b, o, none⟩) text) := HT.out.below (HBA.out.trans (HB1.out.mono HBA.out.size))
  go_region_with ((go_at_call 12; refine (HX.out _ c n ct (some ⟨b, o, none⟩) text (below_drewN HB1.out 1) hc HT1.out HTL.out (by omega)).mono ?_; rintro e w3 ⟨g, rfl, hg, hr, hb⟩))
  have HR3 : Hid (BRow w3 g (Ch.xor key c nonce text)) := hr
  have hb' : Below w1.heap.size w1 w3 := (below_drewN (Below.refl _ _) 1).trans hb
  have HB3 : Hid (Below (knW w key nonce).heap.size (knW w key nonce) w3) := HB1.out.trans (hb'.mono HB1.out.size)
  have HT3 : Hid (TextIs w3 (some ⟨b, o, none⟩) text) := HT1.out.below hb'
  have HT3' : Hid (TextIs w3 (some ⟨b, o, none⟩) (text.take (64 * q))) := HT3.out.take _
  have HTQ : Hid ((text.take (64 * q)).length = 64 * q) := by
    show _ = _
    rw [List.length_take, HTL.out]
    omega
  clear hr hb hb' hg HT1 HB1 HT
  have q0 : (0 : Int) ≤ 64 * (q : Int) := by omega
  have q1 : 64 * (q : Int) ≤ (ct : Int) := by omega
  have q2 : (64 * (q : Int)).toNat = 64 * q := by omega
  have v1 : IntKind.i64.wrap (64 * (q : Int)) = 64 * (q : Int) := i64_id _ (by omega)
  go_wp2_with fail
  go_region_with ((go_at_call 12; refine (HX.out _ c (64 * q) ct (some ⟨b, o, none⟩) (text.take (64 * q)) (below_drewN HB3.out 1) hc HT3'.out HTQ.out (by omega)).mono ?_; rintro e w4 ⟨g4, rfl, hg, hr, hb⟩))
  have hb' : Below w3.heap.size w3 w4 := (below_drewN (Below.refl _ _) 1).trans hb
  have HR4 : Hid (BRow w4 g (Ch.xor key c nonce text)) := HR3.out.below hb' HR3.out.lt
  have HS4 : Hid (BRow w4 g4 (Ch.xor key c nonce (text.take (64 * q)))) := hr
  have HB4 : Hid (Below (knW w key nonce).heap.size (knW w key nonce) w4) := HB3.out.trans (hb'.mono HB3.out.size)
  have HT4 : Hid (TextIs w4 (some ⟨b, o + 64 * q, none⟩) (text.drop (64 * q))) := (HT3.out.below hb').drop (64 * q) b o (fun _ => rfl)
  have HTD : Hid ((text.drop (64 * q)).length = n - 64 * q) := by
    show _ = _
    rw [List.length_drop, HTL.out]
  clear hr hb hb' hg HR3 HB3 HT3 HT3' HTQ
  go_wp2_with fail
  obtain ⟨d, hde⟩ : ∃ d, (c + q) % 4294967296 = d := ⟨_, rfl⟩
  have hd : d < 4294967296 := by omega
  have v2 : IntKind.i64.wrap ((c : Int) + (q : Int)) = (c : Int) + (q : Int) := i64_id _ (by omega)
  have v3 : ((c : Int) + (q : Int)).tmod 4294967296 = (d : Int) := by rw [Int.tmod_eq_emod_of_nonneg (by omega)]; omega
  have v4 : ((c : Int) + (q : Int)) % 4294967296 = (d : Int) := by omega
  have HDE : Hid ((c + q) % 4294967296 = d) := hde
  clear hde
  go_region_with ((go_at_call 12; refine (HX.out _ d (n - 64 * q) (ct - 64 * q) _ (text.drop (64 * q)) (below_drewN HB4.out 1) hd HT4.out HTD.out (by omega)).mono ?_; rintro e w5 ⟨g5, rfl, hg, hr, hb⟩))
  have hb' : Below w4.heap.size w4 w5 := (below_drewN (Below.refl _ _) 1).trans hb
  have HBF : Hid (Below w.heap.size w w5) := HBA.out.trans ((HB4.out.trans (hb'.mono HB4.out.size)).mono HBA.out.size)
  have hr4 : BRow w5 g (Ch.xor key c nonce text) := HR4.out.below hb' HR4.out.lt
  have hs4 : BRow w5 g4 (Ch.xor key c nonce (text.take (64 * q))) := HS4.out.below hb' HS4.out.lt
  have hcut := Ch.xor_cut key c nonce text q (by rw [HTL.out]; exact hq)
  rw [HDE.out] at hcut
  have l1 : (Ch.xor key c nonce text).length = n := by rw [Ch.xor_length, HTL.out]
  have l2 : (Ch.xor key c nonce (text.take (64 * q))).length = 64 * q := by rw [Ch.xor_length, List.length_take, HTL.out]; omega
  have l3 : (Ch.xor key d nonce (text.drop (64 * q))).length = n - 64 * q := by rw [Ch.xor_length, List.length_drop, HTL.out]
  have hcv1 := conv_of n l1 (rangeAt_of_row hr4)
  have hcv2 := conv_of (64 * q) l2 (rangeAt_of_row hs4)
  have hcv3 := conv_of (n - 64 * q) l3 (rangeAt_of_row hr)
  rw [hcut] at hcv1
  clear hr hb hb' hg hr4 hs4 hcut l1 HR4 HS4 HB4 HT4 HTD HX HTL HDE HBA
  generalize Ch.xor key c nonce (text.take (64 * q)) = X at *
  generalize Ch.xor key d nonce (text.drop (64 * q)) = Y at *
  have hsz : ¬ 9223372036854775807 < (strB X).size + (strB Y).size := by
    rw [strB_size, strB_size, l2, l3]
    omega
  rw [strB_append] at hcv1
  clear l2 l3
  go_wp2_with fail
  go_ret
  exact ⟨rfl, HBF.out⟩
set_option maxHeartbeats 1000000 in
theorem cuts_full (key nonce text : List Nat) (c q : Nat) (pt : Option Addr) (w : World) (hk : key.length = 32) (hn : nonce.length = 12) (hks : ∀ x ∈ key, x < 256) (hns : ∀ x ∈ nonce, x < 256) (hT : TextIs w pt text) (htl : text.length = (64 * q))
    (hn4 : (64 * q) ≤ 400) (hc : c < 4294967296) :
    Calls Try.prog 5 #[.agg (arr .u8 key), .int .i64 c, .agg (arr .u8 nonce), .slice pt (64 * q) (64 * q), .int .i64 q] w fun e w' => e = .returned (.bool true) ∧ Below w.heap.size w w' := by
  have HX : Hid (XorAll (knW w key nonce) w.heap.size key nonce) := xorAll_of hk hn hks hns
  have HT : Hid (TextIs w pt text) := hT
  have HTL : Hid (text.length = (64 * q)) := htl
  have HBA : Hid (Below w.heap.size w (knW w key nonce)) := knW_below w key nonce
  clear hT hks hns hk hn htl
  have c1 : 64 * (q : Int) ≤ 400 := by omega
  have c2 : (c : Int) ≤ 4294967295 := by omega
  have c4 : (q : Int) ≤ 6 := by omega
  go_enter Try.func5, Try.ntmps5
  go_wp2_with fail
  rw [show (w.alloc (Obj.cells (arr .u8 key) 32)).alloc (Obj.cells (arr .u8 nonce) 33) = knW w key nonce from rfl]
  refine (anchor_any _).mono ?_
  rintro e w1 ⟨rfl, hb1⟩
  have HB1 : Hid (Below (knW w key nonce).heap.size (knW w key nonce) w1) := hb1
  clear hb1
  go_wp2_with fail
  have HT1 : Hid (TextIs w1 pt text) := HT.out.below (HBA.out.trans (HB1.out.mono HBA.out.size))
  go_region_with ((go_at_call 12; refine (HX.out _ c (64 * q) (64 * q) pt text (below_drewN HB1.out 1) hc HT1.out HTL.out (by omega)).mono ?_; rintro e w3 ⟨g, rfl, hg, hr, hb⟩))
  have HR3 : Hid (BRow w3 g (Ch.xor key c nonce text)) := hr
  have hb' : Below w1.heap.size w1 w3 := (below_drewN (Below.refl _ _) 1).trans hb
  have HB3 : Hid (Below (knW w key nonce).heap.size (knW w key nonce) w3) := HB1.out.trans (hb'.mono HB1.out.size)
  have HT3 : Hid (TextIs w3 pt text) := HT1.out.below hb'
  have HT3' : Hid (TextIs w3 pt (text.take (64 * q))) := HT3.out.take _
  have HTQ : Hid ((text.take (64 * q)).length = 64 * q) := by
    show _ = _
    rw [List.length_take, HTL.out]
    omega
  clear hr hb hb' hg HT1 HB1 HT
  have q0 : (0 : Int) ≤ 64 * (q : Int) := by omega
  have q2 : (64 * (q : Int)).toNat = 64 * q := by omega
  have v1 : IntKind.i64.wrap (64 * (q : Int)) = 64 * (q : Int) := i64_id _ (by omega)
  go_wp2_with fail
  go_region_with ((go_at_call 12; refine (HX.out _ c (64 * q) (64 * q) pt (text.take (64 * q)) (below_drewN HB3.out 1) hc HT3'.out HTQ.out (by omega)).mono ?_; rintro e w4 ⟨g4, rfl, hg, hr, hb⟩))
  have hb' : Below w3.heap.size w3 w4 := (below_drewN (Below.refl _ _) 1).trans hb
  have HR4 : Hid (BRow w4 g (Ch.xor key c nonce text)) := HR3.out.below hb' HR3.out.lt
  have HS4 : Hid (BRow w4 g4 (Ch.xor key c nonce (text.take (64 * q)))) := hr
  have HB4 : Hid (Below (knW w key nonce).heap.size (knW w key nonce) w4) := HB3.out.trans (hb'.mono HB3.out.size)
  have HT4 : Hid (TextIs w4 pt ([] : List Nat)) := ⟨fun x hx => by simp at hx, fun h => absurd rfl h⟩
  clear hr hb hb' hg HR3 HB3 HT3 HT3' HTQ
  go_wp2_with fail
  obtain ⟨d, hde⟩ : ∃ d, (c + q) % 4294967296 = d := ⟨_, rfl⟩
  have hd : d < 4294967296 := by omega
  have v2 : IntKind.i64.wrap ((c : Int) + (q : Int)) = (c : Int) + (q : Int) := i64_id _ (by omega)
  have v3 : ((c : Int) + (q : Int)).tmod 4294967296 = (d : Int) := by rw [Int.tmod_eq_emod_of_nonneg (by omega)]; omega
  have v4 : ((c : Int) + (q : Int)) % 4294967296 = (d : Int) := by omega
  have HDE : Hid ((c + q) % 4294967296 = d) := hde
  clear hde
  go_region_with ((go_at_call 12; refine (HX.out _ d 0 0 _ [] (below_drewN HB4.out 1) hd HT4.out rfl (by omega)).mono ?_; rintro e w5 ⟨g5, rfl, hg, hr, hb⟩))
  have hb' : Below w4.heap.size w4 w5 := (below_drewN (Below.refl _ _) 1).trans hb
  have HBF : Hid (Below w.heap.size w w5) := HBA.out.trans ((HB4.out.trans (hb'.mono HB4.out.size)).mono HBA.out.size)
  have hr4 : BRow w5 g (Ch.xor key c nonce text) := HR4.out.below hb' HR4.out.lt
  have hs4 : BRow w5 g4 (Ch.xor key c nonce (text.take (64 * q))) := HS4.out.below hb' HS4.out.lt
  have hcut := Ch.xor_cut key c nonce text q (by rw [HTL.out]; omega)
  rw [HDE.out] at hcut
  have l1 : (Ch.xor key c nonce text).length = (64 * q) := by rw [Ch.xor_length, HTL.out]
  have l2 : (Ch.xor key c nonce (text.take (64 * q))).length = 64 * q := by rw [Ch.xor_length, List.length_take, HTL.out]; omega
  rw [show text.drop (64 * q) = [] from List.drop_eq_nil_of_le (by rw [HTL.out]; omega)] at hcut
  have l3 : (Ch.xor key d nonce []).length = 0 := rfl
  have hcv1 := conv_of (64 * q) l1 (rangeAt_of_row hr4)
  have hcv2 := conv_of (64 * q) l2 (rangeAt_of_row hs4)
  have hcv3 := conv_of 0 l3 (rangeAt_of_row hr)
  rw [hcut] at hcv1
  clear hr hb hb' hg hr4 hs4 hcut l1 HR4 HS4 HB4 HT4 HX HTL HDE HBA
  generalize Ch.xor key c nonce (text.take (64 * q)) = X at *
  generalize Ch.xor key d nonce [] = Y at *
  have hsz : ¬ 9223372036854775807 < (strB X).size + (strB Y).size := by
    rw [strB_size, strB_size, l2, l3]
    omega
  rw [strB_append] at hcv1
  clear l2 l3
  go_wp2_with fail
  go_ret
  exact ⟨rfl, HBF.out⟩
end Go.Proofs.Ytnbdadhdpplldac
