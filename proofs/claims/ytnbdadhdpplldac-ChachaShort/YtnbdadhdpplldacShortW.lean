/- The walk of ChachaShort. -/
import Derived.Test.YtnbdadhdpplldacKeys
namespace Go.Proofs.Ytnbdadhdpplldac
open Go.RowKit
set_option maxHeartbeats 1000000 in
theorem short_early (key nonce : List Nat) (z q : Int) (pt : Option Addr) (n ct : Nat) (w : World) (h : 400 < n ∨ z < 0 ∨ 4294967295 < z ∨ q < 0 ∨ (n : Int) < q) :
    Calls Try.prog 7 #[.agg (arr .u8 key), .int .i64 z, .agg (arr .u8 nonce), .slice pt n ct, .int .i64 q] w fun e w' => e = .returned (.bool true) ∧ Below w.heap.size w w' := by
  have HH : Hid (400 < n ∨ z < 0 ∨ 4294967295 < z ∨ q < 0 ∨ (n : Int) < q) := h
  clear h
  go_enter Try.func7, Try.ntmps7
  go_wp2_with fail
  refine (anchor_any _).mono ?_
  rintro e w1 ⟨rfl, hb1⟩
  have HB1 : Hid (Below w.heap.size w w1) := (knW_below w key nonce).trans (hb1.mono (knW_below w key nonce).size)
  clear hb1
  go_wp2_with fail
  all_goals first | (exfalso; have := HH.out; omega) | (go_ret; exact ⟨rfl, HB1.out⟩)
set_option maxHeartbeats 1000000 in
theorem short_any (key nonce text : List Nat) (c q : Nat) (pt : Option Addr) (n ct : Nat) (w : World) (hk : key.length = 32) (hn : nonce.length = 12) (hks : ∀ x ∈ key, x < 256) (hns : ∀ x ∈ nonce, x < 256) (hT : TextIs w pt text) (htl : text.length = n)
    (hn4 : n ≤ 400) (hc : c < 4294967296) (hq : q ≤ n) (hct : n ≤ ct) :
    Calls Try.prog 7 #[.agg (arr .u8 key), .int .i64 c, .agg (arr .u8 nonce), .slice pt n ct, .int .i64 q] w fun e w' => e = .returned (.bool true) ∧ Below w.heap.size w w' := by
  have HX : Hid (XorAll (knW w key nonce) w.heap.size key nonce) := xorAll_of hk hn hks hns
  have HT : Hid (TextIs w pt text) := hT
  have HTL : Hid (text.length = n) := htl
  have HBA : Hid (Below w.heap.size w (knW w key nonce)) := knW_below w key nonce
  clear hT hks hns hk hn htl
  have c1 : (n : Int) ≤ 400 := by omega
  have c2 : (c : Int) ≤ 4294967295 := by omega
  have c3 : (q : Int) ≤ (n : Int) := by omega
  go_enter Try.func7, Try.ntmps7
  go_wp2_with fail
  rw [show (w.alloc (Obj.cells (arr .u8 key) 32)).alloc (Obj.cells (arr .u8 nonce) 33) = knW w key nonce from rfl]
  refine (anchor_any _).mono ?_
  rintro e w1 ⟨rfl, hb1⟩
  have HB1 : Hid (Below (knW w key nonce).heap.size (knW w key nonce) w1) := hb1
  clear hb1
  go_wp2_with fail
  have HT1 : Hid (TextIs w1 pt text) := HT.out.below (HBA.out.trans (HB1.out.mono HBA.out.size))
  go_region_with ((go_at_call 12; refine (HX.out _ c n ct pt text (below_drewN HB1.out 1) hc HT1.out HTL.out (by omega)).mono ?_; rintro e w3 ⟨g, rfl, hg, hr, hb⟩))
  have HR3 : Hid (BRow w3 g (Ch.xor key c nonce text)) := hr
  have hb' : Below w1.heap.size w1 w3 := (below_drewN (Below.refl _ _) 1).trans hb
  have HB3 : Hid (Below (knW w key nonce).heap.size (knW w key nonce) w3) := HB1.out.trans (hb'.mono HB1.out.size)
  have HT3 : Hid (TextIs w3 pt (text.take q)) := (HT1.out.below hb').take q
  have HTQ : Hid ((text.take q).length = q) := by
    show _ = _
    rw [List.length_take, HTL.out]
    omega
  clear hr hb hb' hg HT1 HB1 HT
  have q0 : (0 : Int) ≤ (q : Int) := by omega
  have q1 : (q : Int) ≤ (ct : Int) := by omega
  have q2 : q ≤ ct := by omega
  go_wp2_with fail
  go_region_with ((go_at_call 12; refine (HX.out _ c q ct pt (text.take q) (below_drewN HB3.out 1) hc HT3.out HTQ.out (by omega)).mono ?_; rintro e w4 ⟨g4, rfl, hg, hr, hb⟩))
  have hb' : Below w3.heap.size w3 w4 := (below_drewN (Below.refl _ _) 1).trans hb
  have HBF : Hid (Below w.heap.size w w4) := HBA.out.trans ((HB3.out.trans (hb'.mono HB3.out.size)).mono HBA.out.size)
  have hY : Ch.xor key c nonce (text.take q) = (Ch.xor key c nonce text).take q := Ch.xor_take key c nonce text q (by rw [HTL.out]; exact hq)
  have hr3 : BRow w4 g (Ch.xor key c nonce text) := HR3.out.below hb' HR3.out.lt
  have hXL : (Ch.xor key c nonce text).length = n := by rw [Ch.xor_length, HTL.out]
  rw [hY] at hr
  have hYL : ((Ch.xor key c nonce text).take q).length = q := by rw [List.length_take, hXL]; omega
  have hcv1 : ∀ m, (convert 22 9 (.slice (some ⟨g4, 0, none⟩) q q)).run Try.prog (w4.drewN m) = .ok (.string (strB ((Ch.xor key c nonce text).take q))) (w4.drewN m) := fun m => conv_of q hYL (rangeAt_of_row (w := w4.drewN m) hr)
  have hcv2 : ∀ m, (convert 22 9 (.slice (some ⟨g, 0, none⟩) q n)).run Try.prog (w4.drewN m) = .ok (.string (strB ((Ch.xor key c nonce text).take q))) (w4.drewN m) := fun m => conv_of n hYL (rangeAt_take (rangeAt_of_row (w := w4.drewN m) hr3) q)
  clear hr hb hb' hg hr3 hYL hXL hY HR3 HB3 HT3 HTQ HX HTL
  generalize (Ch.xor key c nonce text).take q = Y at *
  have q4 : (q : Int) ≤ (n : Int) := by omega
  go_wp2_with fail
  go_quiet (fail)
  go_wp2_with fail
  go_ret
  exact ⟨rfl, below_drewN HBF.out nq⟩
end Go.Proofs.Ytnbdadhdpplldac
