/- The walk of ChachaMixes. -/
import Derived.Test.YtnbdadhdpplldacKeys
namespace Go.Proofs.Ytnbdadhdpplldac
open Go.RowKit
set_option maxHeartbeats 1000000 in
theorem mixes_early (key nonce : List Nat) (z : Int) (pa pb : Option Addr) (n ca m cb : Nat) (w : World) (h : 300 < n ∨ n ≠ m ∨ z < 0 ∨ 4294967295 < z) :
    Calls Try.prog 8 #[.agg (arr .u8 key), .int .i64 z, .agg (arr .u8 nonce), .slice pa n ca, .slice pb m cb] w fun e w' => e = .returned (.bool true) ∧ Below w.heap.size w w' := by
  have HH : Hid (300 < n ∨ n ≠ m ∨ z < 0 ∨ 4294967295 < z) := h
  clear h
  go_enter Try.func8, Try.ntmps8
  go_wp2_with fail
  refine (anchor_any _).mono ?_
  rintro e w1 ⟨rfl, hb1⟩
  have HB1 : Hid (Below w.heap.size w w1) := (knW_below w key nonce).trans (hb1.mono (knW_below w key nonce).size)
  clear hb1
  go_wp2_with fail
  all_goals first | (exfalso; have := HH.out; omega) | (go_ret; exact ⟨rfl, HB1.out⟩)
set_option maxHeartbeats 1000000 in
theorem mixes_any (key nonce ta tb : List Nat) (c : Nat) (pa pb : Option Addr) (n ca cb : Nat) (w : World) (hk : key.length = 32) (hn : nonce.length = 12) (hks : ∀ x ∈ key, x < 256) (hns : ∀ x ∈ nonce, x < 256) (hA : TextIs w pa ta) (hal : ta.length = n) (hB : TextIs w pb tb) (hbl : tb.length = n)
    (hn3 : n ≤ 300) (hc : c < 4294967296) :
    Calls Try.prog 8 #[.agg (arr .u8 key), .int .i64 c, .agg (arr .u8 nonce), .slice pa n ca, .slice pb n cb] w fun e w' => e = .returned (.bool true) ∧ Below w.heap.size w w' := by
  have HX : Hid (XorAll (knW w key nonce) w.heap.size key nonce) := xorAll_of hk hn hks hns
  have HA : Hid (TextIs w pa ta) := hA
  have HAL : Hid (ta.length = n) := hal
  have HB : Hid (TextIs w pb tb) := hB
  have HBL : Hid (tb.length = n) := hbl
  have HBA : Hid (Below w.heap.size w (knW w key nonce)) := knW_below w key nonce
  clear hA hB hks hns hk hn hal hbl
  have c1 : (n : Int) ≤ 300 := by omega
  have c2 : (c : Int) ≤ 4294967295 := by omega
  go_enter Try.func8, Try.ntmps8
  go_wp2_with fail
  rw [show (w.alloc (Obj.cells (arr .u8 key) 32)).alloc (Obj.cells (arr .u8 nonce) 33) = knW w key nonce from rfl]
  refine (anchor_any _).mono ?_
  rintro e w1 ⟨rfl, hb1⟩
  have HB1 : Hid (Below (knW w key nonce).heap.size (knW w key nonce) w1) := hb1
  clear hb1
  go_wp2_with fail
  have HA1 : Hid (TextIs w1 pa ta) := HA.out.below (HBA.out.trans (HB1.out.mono HBA.out.size))
  have HC1 : Hid (TextIs w1 pb tb) := HB.out.below (HBA.out.trans (HB1.out.mono HBA.out.size))
  go_region_with ((go_at_call 12; refine (HX.out _ c n ca pa ta (below_drewN HB1.out 1) hc HA1.out HAL.out (by omega)).mono ?_; rintro e w3 ⟨g, rfl, hg, hr, hb⟩))
  have hb' : Below w1.heap.size w1 w3 := (below_drewN (Below.refl _ _) 1).trans hb
  have HR3 : Hid (BRow w3 g (Ch.xor key c nonce ta)) := hr
  have HB3 : Hid (Below (knW w key nonce).heap.size (knW w key nonce) w3) := HB1.out.trans (hb'.mono HB1.out.size)
  have HA3 : Hid (TextIs w3 pa ta) := HA1.out.below hb'
  have HC3 : Hid (TextIs w3 pb tb) := HC1.out.below hb'
  clear hr hb hb' hg HA1 HC1 HB1 HA HB
  go_wp2_with fail
  go_region_with ((go_at_call 12; refine (HX.out _ c n cb pb tb (below_drewN HB3.out 1) hc HC3.out HBL.out (by omega)).mono ?_; rintro e w4 ⟨g4, rfl, hg, hr, hb⟩))
  have hb' : Below w3.heap.size w3 w4 := (below_drewN (Below.refl _ _) 1).trans hb
  have HBF : Hid (Below w.heap.size w w4) := HBA.out.trans ((HB3.out.trans (hb'.mono HB3.out.size)).mono HBA.out.size)
  have HR4 : Hid (BRow w4 g (Ch.xor key c nonce ta)) := HR3.out.below hb' HR3.out.lt
  have HS4 : Hid (BRow w4 g4 (Ch.xor key c nonce tb)) := hr
  have HA4 : Hid (TextIs w4 pa ta) := HA3.out.below hb'
  have HC4 : Hid (TextIs w4 pb tb) := HC3.out.below hb'
  clear hr hb hb' hg HR3 HB3 HA3 HC3 HX HBA
  go_wp2_with fail
  go_loopw [60] (fun i wr => ∃ k m : Nat, k ≤ n ∧ i = .int .i64 k ∧ Hid (wr = w4.drewN m)) (fun i _ => n - (intOf i).toNat)
  case atStart => exact ⟨0, 0, by omega, rfl, rfl⟩
  case round =>
    obtain ⟨k, m, hk, rfl, HW⟩ := hrel
    have hwr := HW.out
    subst hwr
    clear HW
    by_cases hlt : k < n
    · obtain ⟨ba, oa, rfl, hra⟩ := HA4.out.2 (by intro e; have := HAL.out; rw [e] at this; simp at this; omega)
      obtain ⟨bb, ob, rfl, hrb⟩ := HC4.out.2 (by intro e; have := HBL.out; rw [e] at this; simp at this; omega)
      have e1 : w4.cell? ⟨ba, oa + k, none⟩ = some (.int .u8 (Sp.nth ta k : Nat)) := range_cell hra k (by rw [HAL.out]; exact hlt)
      have e2 : w4.cell? ⟨bb, ob + k, none⟩ = some (.int .u8 (Sp.nth tb k : Nat)) := range_cell hrb k (by rw [HBL.out]; exact hlt)
      have e3 : w4.cell? ⟨g, k, none⟩ = some (.int .u8 (Sp.nth ta k ^^^ Ch.byteAt key c nonce k : Nat)) := by
        have := HR4.out.cell k (by rw [Ch.xor_length, HAL.out]; exact hlt)
        rw [Ch.xor_nth _ _ _ _ (by rw [HAL.out]; exact hlt)] at this
        exact this
      have e4 : w4.cell? ⟨g4, k, none⟩ = some (.int .u8 (Sp.nth tb k ^^^ Ch.byteAt key c nonce k : Nat)) := by
        have := HS4.out.cell k (by rw [Ch.xor_length, HBL.out]; exact hlt)
        rw [Ch.xor_nth _ _ _ _ (by rw [HBL.out]; exact hlt)] at this
        exact this
      have x1 : Sp.nth ta k < 256 := Sp.nth_lt (by decide) HA4.out.1 _
      have x2 : Sp.nth tb k < 256 := Sp.nth_lt (by decide) HC4.out.1 _
      have x3 : Ch.byteAt key c nonce k < 256 := Ch.byteAt_lt _ _ _ _
      generalize Sp.nth ta k = A at *
      generalize Sp.nth tb k = B at *
      generalize Ch.byteAt key c nonce k = S at *
      have y1 : A ^^^ S < 256 := Nat.xor_lt_two_pow (n := 8) x1 x3
      have y2 : B ^^^ S < 256 := Nat.xor_lt_two_pow (n := 8) x2 x3
      have hx1 := u8_xor_nat _ _ x1 x2
      have hx2 := u8_xor_nat _ _ y1 y2
      have hx3 : (A ^^^ S) ^^^ (B ^^^ S) = A ^^^ B := by
        rw [Nat.xor_comm B S, Nat.xor_assoc, ← Nat.xor_assoc S S B, Nat.xor_self, Nat.zero_xor]
      rw [hx3] at hx2
      clear hra hrb y1 y2 hx3
      generalize A ^^^ S = U at *
      generalize B ^^^ S = V at *
      have k0 : (0 : Int) ≤ (k : Int) := by omega
      have k1 : (k : Int) < (n : Int) := by omega
      go_wp2_with fail
      go_quiet (fail)
      go_wp2_with fail
      go_roundw
      case rel => exact ⟨k + 1, _, by omega, by go_num, rfl⟩
      case measure => simp [intOf]; omega
    · obtain rfl : k = n := by omega
      go_wp2_with fail
      go_ret
      exact ⟨rfl, below_drewN HBF.out m⟩
end Go.Proofs.Ytnbdadhdpplldac
