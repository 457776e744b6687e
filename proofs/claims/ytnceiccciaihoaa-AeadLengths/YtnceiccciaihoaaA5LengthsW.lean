/- The walk of AeadLengths. -/
import Derived.Test.YtnceiccciaihoaaA5Keys
namespace Go.Proofs.Ytnceiccciaihoaa.A5
open Go.RowKit P4
set_option maxHeartbeats 1000000 in
theorem lengths_early (key nonce : List Nat) (pa pb : Option Addr) (n ca m cb : Nat) (w : World) (h : 200 < n ∨ 200 < m) :
    Calls Try.prog 6 #[.agg (arr .u8 key), .agg (arr .u8 nonce), .slice pa n ca, .slice pb m cb] w fun e w' => e = .returned (.bool true) ∧ Below w.heap.size w w' := by
  have HH : Hid (200 < n ∨ 200 < m) := h
  clear h
  go_enter Try.func6, Try.ntmps6
  go_wp2_with fail
  refine (anchor_any _).mono ?_
  rintro e w1 ⟨rfl, hb1⟩
  have HB1 : Hid (Below w.heap.size w w1) := (C3.knW_below w key nonce).trans (hb1.mono (C3.knW_below w key nonce).size)
  clear hb1
  go_wp2_with fail
  all_goals first | (exfalso; have := HH.out; omega) | (go_ret; exact ⟨rfl, HB1.out⟩)
set_option maxHeartbeats 1000000 in
theorem lengths_any (key nonce la lb : List Nat) (pa pb : Option Addr) (n ca m cb : Nat) (w : World) (hk : key.length = 32) (hn : nonce.length = 12) (hks : ∀ x ∈ key, x < 256) (hns : ∀ x ∈ nonce, x < 256) (hA : Src w (.slice pa n ca) la) (hB : Src w (.slice pb m cb) lb)
    (hal : n ≤ 200) (hbl : m ≤ 200) :
    Calls Try.prog 6 #[.agg (arr .u8 key), .agg (arr .u8 nonce), .slice pa n ca, .slice pb m cb] w fun e w' => e = .returned (.bool true) ∧ Below w.heap.size w w' := by
  have HX : Hid (SealAll (C3.knW w key nonce) w.heap.size key nonce) := sealAll_of hk hn hks hns
  have HA : Hid (Src w (.slice pa n ca) la) := hA
  have HB : Hid (Src w (.slice pb m cb) lb) := hB
  have HAL : Hid (la.length = n) := hA.text.1
  have HBL : Hid (lb.length = m) := hB.text.1
  have HAC : Hid (n ≤ ca) := hA.text.2.1
  have HBC : Hid (m ≤ cb) := hB.text.2.1
  have HBA : Hid (Below w.heap.size w (C3.knW w key nonce)) := C3.knW_below w key nonce
  clear hA hB hks hns hk hn
  have c1 : (n : Int) ≤ 200 := by omega
  have c2 : (m : Int) ≤ 200 := by omega
  go_enter Try.func6, Try.ntmps6
  go_wp2_with fail
  rw [show (w.alloc (Obj.cells (arr .u8 key) 31)).alloc (Obj.cells (arr .u8 nonce) 32) = C3.knW w key nonce from rfl]
  refine (anchor_any _).mono ?_
  rintro e w1 ⟨rfl, hb1⟩
  have HB1 : Hid (Below (C3.knW w key nonce).heap.size (C3.knW w key nonce) w1) := hb1
  have HA1 : Hid (Src w1 (.slice pa n ca) la) := HA.out.below (HBA.out.trans (hb1.mono HBA.out.size))
  have HC1 : Hid (Src w1 (.slice pb m cb) lb) := HB.out.below (HBA.out.trans (hb1.mono HBA.out.size))
  clear hb1 HA HB
  go_wp2_with fail
  go_region_with ((go_at_call 10; refine (HX.out _ _ _ [] la n (below_drewN HB1.out 1) (Src.nil _) (HA1.out.drewN 1) HAL.out (by decide) (by omega)).mono ?_; rintro e w3 ⟨v, rfl, ho, hb⟩; obtain ⟨g, c, rfl, _, _, hgc, hr⟩ := own_cell ho (by omega)))
  have hb' : Below w1.heap.size w1 w3 := (below_drewN (Below.refl _ _) 1).trans hb
  have HR3 : Hid (w3.rangeAt g 0 (ints .u8 (Ae.box key nonce [] la))) := hr
  have HB3 : Hid (Below (C3.knW w key nonce).heap.size (C3.knW w key nonce) w3) := HB1.out.trans (hb'.mono HB1.out.size)
  have HA3 : Hid (Src w3 (.slice pa n ca) la) := HA1.out.below hb'
  have HC3 : Hid (Src w3 (.slice pb m cb) lb) := HC1.out.below hb'
  clear hr hb hb' ho HB1 HA1 HC1
  go_wp2_with fail
  go_region_with ((go_at_call 10; refine (HX.out _ _ _ [] lb m (below_drewN HB3.out 1) (Src.nil _) (HC3.out.drewN 1) HBL.out (by decide) (by omega)).mono ?_; rintro e w4 ⟨v, rfl, ho, hb⟩; obtain ⟨g4, c4, rfl, _, _, hgc4, hr⟩ := own_cell ho (by omega)))
  have hb' : Below w3.heap.size w3 w4 := (below_drewN (Below.refl _ _) 1).trans hb
  have HR4 : Hid (w4.rangeAt g4 0 (ints .u8 (Ae.box key nonce [] lb))) := hr
  have HR5 : Hid (w4.rangeAt g 0 (ints .u8 (Ae.box key nonce [] la))) := rangeAt_below hb' HR3.out
  have HBF : Hid (Below w.heap.size w w4) := HBA.out.trans ((HB3.out.trans (hb'.mono HB3.out.size)).mono HBA.out.size)
  have HA4 : Hid (Src w4 (.slice pa n ca) la) := HA3.out.below hb'
  have HC4 : Hid (Src w4 (.slice pb m cb) lb) := HC3.out.below hb'
  have HXX : Hid (∀ i, i < n → i < m → Sp.nth (Ae.box key nonce [] la) i ^^^ Sp.nth (Ae.box key nonce [] lb) i = Sp.nth la i ^^^ Sp.nth lb i) := fun i h1 h2 => Ae.box_apart key nonce [] [] la lb i (by rw [HAL.out]; exact h1) (by rw [HBL.out]; exact h2)
  have HXL : Hid ((Ae.box key nonce [] la).length = n + 16) := by show _ = _; rw [Ae.box_length, HAL.out]
  have HYL : Hid ((Ae.box key nonce [] lb).length = m + 16) := by show _ = _; rw [Ae.box_length, HBL.out]
  have HXB : Hid (∀ x ∈ Ae.box key nonce [] la, x < 256) := Ae.box_lt HA4.out.1
  have HYB : Hid (∀ x ∈ Ae.box key nonce [] lb, x < 256) := Ae.box_lt HC4.out.1
  clear hr hb hb' ho HB3 HR3 HA3 HC3 HX
  generalize Ae.box key nonce [] la = X at *
  generalize Ae.box key nonce [] lb = Y at *
  -- the loop
  go_wp2_with fail
  · have HN : Hid (m ≤ n ∧ m ≤ m) := ⟨by omega, by omega⟩
    go_loopw [65] (fun i wr => ∃ k q : Nat, k ≤ m ∧ i = .int .i64 k ∧ Hid (wr = w4.drewN q)) (fun i _ => m - (intOf i).toNat)
    case atStart => exact ⟨0, 0, by omega, rfl, rfl⟩
    case round =>
      obtain ⟨k, q, hk, rfl, HW⟩ := hrel
      have hwr := HW.out
      subst hwr
      clear HW
      by_cases hlt : k < m
      · have hkn : k < n := Nat.lt_of_lt_of_le hlt HN.out.1
        have hkm : k < m := Nat.lt_of_lt_of_le hlt HN.out.2
        obtain ⟨_, _, _, hTa⟩ := HA4.out.text
        obtain ⟨_, _, _, hTb⟩ := HC4.out.text
        obtain ⟨ba, oa, rfl, hra⟩ := hTa (by intro e; have := HAL.out; rw [e] at this; simp at this; omega)
        obtain ⟨bb, ob, rfl, hrb⟩ := hTb (by intro e; have := HBL.out; rw [e] at this; simp at this; omega)
        have e1 : w4.cell? ⟨ba, oa + k, none⟩ = some (.int .u8 (Sp.nth la k : Nat)) := range_cell hra k (by rw [HAL.out]; exact hkn)
        have e2 : w4.cell? ⟨bb, ob + k, none⟩ = some (.int .u8 (Sp.nth lb k : Nat)) := range_cell hrb k (by rw [HBL.out]; exact hkm)
        have e3 : w4.cell? ⟨g, k, none⟩ = some (.int .u8 (Sp.nth X k : Nat)) := by have := range_cell HR5.out k (by rw [HXL.out]; omega); rwa [Nat.zero_add] at this
        have e4 : w4.cell? ⟨g4, k, none⟩ = some (.int .u8 (Sp.nth Y k : Nat)) := by have := range_cell HR4.out k (by rw [HYL.out]; omega); rwa [Nat.zero_add] at this
        have x1 : Sp.nth la k < 256 := Sp.nth_lt (by decide) HA4.out.1 _
        have x2 : Sp.nth lb k < 256 := Sp.nth_lt (by decide) HC4.out.1 _
        have x3 : Sp.nth X k < 256 := Sp.nth_lt (by decide) HXB.out _
        have x4 : Sp.nth Y k < 256 := Sp.nth_lt (by decide) HYB.out _
        have hx3 := HXX.out k hkn hkm
        generalize Sp.nth la k = A at *
        generalize Sp.nth lb k = B at *
        generalize Sp.nth X k = U at *
        generalize Sp.nth Y k = V at *
        have hx1 := u8_xor_nat _ _ x1 x2
        have hx2 := u8_xor_nat _ _ x3 x4
        rw [hx3] at hx2
        clear hra hrb hx3
        have k0 : (0 : Int) ≤ (k : Int) := by omega
        have k1 : (k : Int) < (n : Int) := by omega
        have k2 : (k : Int) < (m : Int) := by omega
        have k3 : (k : Int) < (n : Int) + 16 := by omega
        have k4 : (k : Int) < (m : Int) + 16 := by omega
        go_wp2_with fail
        go_quiet (fail)
        go_wp2_with fail
        go_roundw
        case rel => exact ⟨k + 1, _, by omega, by go_num, rfl⟩
        case measure => simp [intOf]; omega
      · obtain rfl : k = m := by omega
        go_wp2_with fail
        go_ret
        exact ⟨rfl, below_drewN HBF.out q⟩
  · have HN : Hid (n ≤ n ∧ n ≤ m) := ⟨by omega, by omega⟩
    go_loopw [65] (fun i wr => ∃ k q : Nat, k ≤ n ∧ i = .int .i64 k ∧ Hid (wr = w4.drewN q)) (fun i _ => n - (intOf i).toNat)
    case atStart => exact ⟨0, 0, by omega, rfl, rfl⟩
    case round =>
      obtain ⟨k, q, hk, rfl, HW⟩ := hrel
      have hwr := HW.out
      subst hwr
      clear HW
      by_cases hlt : k < n
      · have hkn : k < n := Nat.lt_of_lt_of_le hlt HN.out.1
        have hkm : k < m := Nat.lt_of_lt_of_le hlt HN.out.2
        obtain ⟨_, _, _, hTa⟩ := HA4.out.text
        obtain ⟨_, _, _, hTb⟩ := HC4.out.text
        obtain ⟨ba, oa, rfl, hra⟩ := hTa (by intro e; have := HAL.out; rw [e] at this; simp at this; omega)
        obtain ⟨bb, ob, rfl, hrb⟩ := hTb (by intro e; have := HBL.out; rw [e] at this; simp at this; omega)
        have e1 : w4.cell? ⟨ba, oa + k, none⟩ = some (.int .u8 (Sp.nth la k : Nat)) := range_cell hra k (by rw [HAL.out]; exact hkn)
        have e2 : w4.cell? ⟨bb, ob + k, none⟩ = some (.int .u8 (Sp.nth lb k : Nat)) := range_cell hrb k (by rw [HBL.out]; exact hkm)
        have e3 : w4.cell? ⟨g, k, none⟩ = some (.int .u8 (Sp.nth X k : Nat)) := by have := range_cell HR5.out k (by rw [HXL.out]; omega); rwa [Nat.zero_add] at this
        have e4 : w4.cell? ⟨g4, k, none⟩ = some (.int .u8 (Sp.nth Y k : Nat)) := by have := range_cell HR4.out k (by rw [HYL.out]; omega); rwa [Nat.zero_add] at this
        have x1 : Sp.nth la k < 256 := Sp.nth_lt (by decide) HA4.out.1 _
        have x2 : Sp.nth lb k < 256 := Sp.nth_lt (by decide) HC4.out.1 _
        have x3 : Sp.nth X k < 256 := Sp.nth_lt (by decide) HXB.out _
        have x4 : Sp.nth Y k < 256 := Sp.nth_lt (by decide) HYB.out _
        have hx3 := HXX.out k hkn hkm
        generalize Sp.nth la k = A at *
        generalize Sp.nth lb k = B at *
        generalize Sp.nth X k = U at *
        generalize Sp.nth Y k = V at *
        have hx1 := u8_xor_nat _ _ x1 x2
        have hx2 := u8_xor_nat _ _ x3 x4
        rw [hx3] at hx2
        clear hra hrb hx3
        have k0 : (0 : Int) ≤ (k : Int) := by omega
        have k1 : (k : Int) < (n : Int) := by omega
        have k2 : (k : Int) < (m : Int) := by omega
        have k3 : (k : Int) < (n : Int) + 16 := by omega
        have k4 : (k : Int) < (m : Int) + 16 := by omega
        go_wp2_with fail
        go_quiet (fail)
        go_wp2_with fail
        go_roundw
        case rel => exact ⟨k + 1, _, by omega, by go_num, rfl⟩
        case measure => simp [intOf]; omega
      · obtain rfl : k = n := by omega
        go_wp2_with fail
        go_ret
        exact ⟨rfl, below_drewN HBF.out q⟩
end Go.Proofs.Ytnceiccciaihoaa.A5
