/- The walk of MacCodes. -/
import Derived.Test.YtnbdadhdpplldabDoorRCode
namespace Go.Proofs.YtnbdadhdpplldabDoor
open Go.RowKit
theorem code2_step {w' : World} {kv pv y z : Value} {key l m : List Nat} (hT : Tab w') (hk : BytesAt w' kv key) (hp : PartsV [y, z] pv w') (hy : BytesAt w' y l) (hz : BytesAt w' z m) (hkn : key.length ≤ 100000) (hmn : (l ++ m).length ≤ 1000000) :
    Calls Tryd.prog 11 #[kv, pv] w' fun e w2 => ∃ v, e = .returned v ∧ Below w'.heap.size w' w2 ∧ BV (Mk.code key (l ++ m)) v w2 := by
  have h := code_step [l, m] hT hk hp (fun i x hl => by
    match i with
    | 0 => simp at hl; subst hl; exact ⟨_, rfl, hy⟩
    | 1 => simp at hl; subst hl; exact ⟨_, rfl, hz⟩
    | i + 2 => simp at hl) rfl hkn (by simp) (by simpa using hmn)
  simpa using h
set_option maxHeartbeats 400000 in
theorem extract_any (key m : List Nat) (p q : Option Addr) (n c k d : Nat) (w : World) (hT : Tab w) (hK : BytesAt w (.slice p n c) key) (hM : BytesAt w (.slice q k d) m) (hkn : key.length ≤ 100000) (hmn : m.length ≤ 1000000) :
    Calls Tryd.prog 12 #[.slice p n c, .slice q k d] w fun e w2 => ∃ v, e = .returned v ∧ Below w.heap.size w w2 ∧ BV (Mk.code key m) v w2 := by
  have HC : Hid (Calls Tryd.prog 11 #[.slice p n c, .slice (some ⟨w.heap.size, 0, none⟩) 1 1] (w.alloc (.cells #[.slice q k d] 22)) fun e w2 => ∃ v, e = .returned v ∧ Below (w.alloc (.cells #[.slice q k d] 22)).heap.size (w.alloc (.cells #[.slice q k d] 22)) w2 ∧ BV (Mk.code key m) v w2) := by
    have hbA : Below w.heap.size w (w.alloc (.cells #[.slice q k d] 22)) := (Below.refl _ _).alloc (Nat.le_refl _) _
    exact code1_step (tab_below hT hbA) (bytesAt_below hK hbA) ⟨w.heap.size, rfl, rangeAt_of_row (heap_alloc_new w _)⟩ (bytesAt_below hM hbA) hkn hmn
  clear hT hK hM
  go_enter Tryd.func12, Tryd.ntmps12
  go_wp2_with fail
  refine HC.out.mono ?_
  rintro e w2 ⟨v, rfl, hb, hv⟩
  have HB : Hid (Below w.heap.size w w2) := ((Below.refl _ _).alloc (Nat.le_refl _) _).trans (hb.mono (by simp))
  have HV : Hid (BV (Mk.code key m) v w2) := hv
  clear hb hv HC
  go_wp2_with fail
  go_ret
  exact ⟨_, rfl, HB.out, HV.out⟩
theorem extract_step {w' : World} {kv mv : Value} {key m : List Nat} (hT : Tab w') (hk : BytesAt w' kv key) (hm : BytesAt w' mv m) (hkn : key.length ≤ 100000) (hmn : m.length ≤ 1000000) :
    Calls Tryd.prog 12 #[kv, mv] w' fun e w2 => ∃ v, e = .returned v ∧ Below w'.heap.size w' w2 ∧ BV (Mk.code key m) v w2 := by
  obtain ⟨p, c, rfl⟩ := bytesAt_slice hk
  obtain ⟨q, d, rfl⟩ := bytesAt_slice hm
  exact extract_any key m p q _ c _ d w' hT hk hm hkn hmn
theorem conv_own {w : World} {base : Nat} {v : Value} {l : List Nat} {n : Nat} (h : w.ownsRow base 5 1 v n (ints .u8 l)) (hl : l.length = n) (h0 : 0 < n) : (convert 22 9 v).run Tryd.prog w = .ok (.string (strB l)) w := by
  obtain ⟨g, c, rfl, _, _, hr⟩ := own_cell h h0
  subst hl
  exact run_conv w g 0 c l hr
set_option maxHeartbeats 400000 in
theorem codes_early (p q r : Option Addr) (n c m d k f : Nat) (w : World) (hT : Tab w) (h : 200 < n ∨ 150 < m ∨ 150 < k) :
    Calls Tryd.prog 3 #[.slice p n c, .slice q m d, .slice r k f] w fun e w' => e = .returned (.bool true) ∧ Below w.heap.size w w' := by
  have HT : Hid (Tab w) := hT
  have HH : Hid (200 < n ∨ 150 < m ∨ 150 < k) := h
  clear hT h
  go_enter Tryd.func3, Tryd.ntmps3
  go_wp2_with fail
  refine (anchor_any w HT.out).mono ?_
  rintro e w1 ⟨rfl, hb1⟩
  have HB1 : Hid (Below w.heap.size w w1) := hb1
  clear hb1
  go_wp2_with fail
  all_goals first | (exfalso; have := HH.out; omega) | (go_ret; exact ⟨rfl, HB1.out⟩)
set_option maxHeartbeats 2000000 in
theorem codes_any (key la lb : List Nat) (p q r : Option Addr) (n c m d k f : Nat) (w : World) (hT : Tab w) (hK : BytesAt w (.slice p n c) key) (hA : BytesAt w (.slice q m d) la) (hB : BytesAt w (.slice r k f) lb) (hSA : SrcIs w (.slice q m d) la) (hSB : SrcIs w (.slice r k f) lb) (hn : n ≤ 200) (hm : m ≤ 150) (hk : k ≤ 150) :
    Calls Tryd.prog 3 #[.slice p n c, .slice q m d, .slice r k f] w fun e w' => e = .returned (.bool true) ∧ Below w.heap.size w w' := by
  have HT : Hid (Tab w) := hT
  have HK : Hid (BytesAt w (.slice p n c) key) := hK
  have HA : Hid (BytesAt w (.slice q m d) la) := hA
  have HB : Hid (BytesAt w (.slice r k f) lb) := hB
  have HSA : Hid (SrcIs w (.slice q m d) la) := hSA
  have HSB : Hid (SrcIs w (.slice r k f) lb) := hSB
  have HKL : Hid (key.length = n) := (bytesAt_src hK).1
  have HAL : Hid (la.length = m) := (bytesAt_src hA).1
  have HBL : Hid (lb.length = k) := (bytesAt_src hB).1
  clear hT hK hA hB hSA hSB
  have n1 : ¬ (200 : Int) < (n : Int) := by omega
  have n2 : ¬ (150 : Int) < (m : Int) := by omega
  have n3 : ¬ (150 : Int) < (k : Int) := by omega
  go_enter Tryd.func3, Tryd.ntmps3
  go_wp2_with fail
  refine (anchor_any w HT.out).mono ?_
  rintro e w1 ⟨rfl, hb1⟩
  have HB1 : Hid (Below w.heap.size w w1) := hb1
  have hs1 := hb1.size
  clear hb1
  have hbA : Below w1.heap.size w1 (w1.alloc (Obj.cells (arr .u8 []) 5)) := (Below.refl _ _).alloc (Nat.le_refl _) _
  have HO2 : Hid ((w1.alloc (Obj.cells (arr .u8 []) 5)).ownsRow w1.heap.size 5 1 (.slice (some ⟨w1.heap.size, 0, none⟩) 0 0) 0 (ints .u8 [])) :=
    ⟨by simp [ints], .inr ⟨w1.heap.size, 0, arr .u8 [], rfl, Nat.le_refl _, heap_alloc_new w1 _, Nat.le_refl _, by decide, rfl, rfl⟩⟩
  have HB2 : Hid (Below w.heap.size w (w1.alloc (Obj.cells (arr .u8 []) 5))) := HB1.out.trans (hbA.mono hs1)
  have hsz2 : w1.heap.size ≤ (w1.alloc (Obj.cells (arr .u8 []) 5)).heap.size := by simp
  clear hbA
  go_wp2_with (first | with_reducible (refine stop_builtin .append ?_))
  refine Stop.go ?_
  rw [show (Obj.cells #[] 5 : Obj) = Obj.cells (arr .u8 []) 5 from rfl]
  with_reducible refine law_append w1.heap.size (.slice (some ⟨w1.heap.size, 0, none⟩) 0 0) 0 (ints .u8 []) (.slice q m d) la ?asv ?axv HO2.out (SrcIs.below HSA.out HB2.out) (by rw [HAL.out]; omega) hsz2 ?ak
  case asv => exact rfl
  case axv => exact rfl
  intro v3 w3 ho3 hg3
  rw [← ints_append, List.nil_append, Nat.zero_add, HAL.out] at ho3
  have HO3 : Hid (w3.ownsRow w1.heap.size 5 1 v3 m (ints .u8 la)) := ho3
  have HB3 : Hid (Below w.heap.size w w3) := below_grown' HB2.out hg3 HO2.out HB2.out.size hs1
  have hs3 : w1.heap.size ≤ w3.heap.size := Nat.le_trans hsz2 hg3.size
  clear ho3 hg3 HO2 HB2 hsz2
  go_wp2_with (first | with_reducible (refine stop_builtin .append ?_))
  refine Stop.go ?_
  with_reducible refine law_append w1.heap.size v3 m (ints .u8 la) (.slice r k f) lb ?bsv ?bxv HO3.out (SrcIs.below HSB.out HB3.out) (by rw [HBL.out]; omega) hs3 ?bk
  case bsv => exact rfl
  case bxv => exact rfl
  intro v4 w4 ho4 hg4
  rw [← ints_append, HBL.out] at ho4
  have HO4 : Hid (w4.ownsRow w1.heap.size 5 1 v4 (m + k) (ints .u8 (la ++ lb))) := ho4
  have HB4 : Hid (Below w.heap.size w w4) := below_grown' HB3.out hg4 HO3.out HB3.out.size hs1
  clear ho4 hg4 HO3 HB3
  obtain ⟨q4, c4, rfl⟩ := own_slice HO4.out
  have HLL : Hid ((la ++ lb).length = m + k) := by
    show _ = _
    rw [List.length_append, HAL.out, HBL.out]
  have HLS : Hid (∀ x ∈ la ++ lb, x < 256) := fun x hx => by rcases List.mem_append.1 hx with h | h; exact HA.out.1 x h; exact HB.out.1 x h
  have HVL4 : Hid (BytesAt w4 (.slice q4 (m + k) c4) (la ++ lb)) := by
    have := bytesAt_own (l := la ++ lb) HLS.out (by rw [HLL.out]; exact HO4.out)
    exact this
  have HSL4 : Hid (SrcIs w4 (.slice q4 (m + k) c4) (la ++ lb)) := by
    by_cases h0 : 0 < m + k
    · exact own_src HO4.out HLL.out h0
    · have hl0 : la ++ lb = [] := List.eq_nil_of_length_eq_zero (by rw [HLL.out]; omega)
      rcases HO4.out.2 with ⟨he, h1⟩ | ⟨g, cap, cur, he, _⟩
      · rw [he]
        exact .inl ⟨rfl, hl0⟩
      · exact .inr ⟨⟨g, 0, none⟩, cap, by rw [he, HLL.out], fun j u hu => by rw [hl0] at hu; simp [ints] at hu⟩
  clear HO4
  go_wp2_with fail
  refine (rcode_any key (la ++ lb) p n c (.slice q4 (m + k) c4) w4 (bytesAt_below HK.out HB4.out) (by omega) HSL4.out HLS.out (by rw [HLL.out]; omega)).mono ?_
  rintro e w5 ⟨v5, rfl, ho5, hb5⟩
  have hcv := conv_own ho5 (Mk.code_length _ _) (by decide)
  have HB5 : Hid (Below w.heap.size w w5) := HB4.out.trans (hb5.mono HB4.out.size)
  have HVL5 : Hid (BytesAt w5 (.slice q4 (m + k) c4) (la ++ lb)) := bytesAt_below HVL4.out hb5
  clear ho5 hb5 HVL4 HSL4 HB4
  go_wp2_with fail
  have HVX := bytesAt_below HK.out HB5.out
  have HVA := bytesAt_below HA.out HB5.out
  have HVB := bytesAt_below HB.out HB5.out
  have HVL := HVL5.out
  have hT1 := tab_below HT.out HB5.out
  have hkn : key.length ≤ 100000 := by rw [HKL.out]; omega
  have hln : (la ++ lb).length ≤ 1000000 := by rw [HLL.out]; omega
  clear hcv
  have HVX5 : Hid (BytesAt w5 (.slice p n c) key) := HVX
  have HT5 : Hid (Tab w5) := hT1
  have hbA : Below w5.heap.size w5 (w5.alloc (Obj.cells #[.slice q m d, .slice r k f] 22)) := (Below.refl _ _).alloc (Nat.le_refl _) _
  refine (code2_step (l := la) (m := lb) (tab_below hT1 hbA) (bytesAt_below HVX hbA) ⟨w5.heap.size, rfl, rangeAt_of_row (heap_alloc_new w5 _)⟩ (bytesAt_below HVA hbA) (bytesAt_below HVB hbA) hkn hln).mono ?_
  rintro e w6 ⟨v6, rfl, hb6, hv6⟩
  have hcv6 := conv_bytes hv6
  have hb56 : Below w5.heap.size w5 w6 := hbA.trans (hb6.mono hbA.size)
  have HVX6 : Hid (BytesAt w6 (.slice p n c) key) := bytesAt_below HVX5.out hb56
  have HVL6 : Hid (BytesAt w6 (.slice q4 (m + k) c4) (la ++ lb)) := bytesAt_below HVL hb56
  have HT6 : Hid (Tab w6) := tab_below HT5.out hb56
  have HB6 : Hid (Below w.heap.size w w6) := HB5.out.trans (hb56.mono HB5.out.size)
  obtain ⟨p6, c6, rfl⟩ := bytesAt_slice hv6
  rw [Mk.code_length] at hcv6
  rw [Mk.code_length]
  clear hbA hb6 hv6 hb56 HVX HVA HVB HVL hT1 HVX5 HT5 HB5 HVL5
  have HCL : Hid ((Mk.code key (la ++ lb)).length = 32) := Mk.code_length _ _
  generalize hC : Mk.code key (la ++ lb) = C at *
  have HC : Hid (Mk.code key (la ++ lb) = C) := hC
  clear hC
  go_wp2_with fail
  have hbA : Below w6.heap.size w6 (w6.alloc (Obj.cells #[.slice q4 (m + k) c4] 22)) := (Below.refl _ _).alloc (Nat.le_refl _) _
  refine (code1_step (m := la ++ lb) (tab_below HT6.out hbA) (bytesAt_below HVX6.out hbA) ⟨w6.heap.size, rfl, rangeAt_of_row (heap_alloc_new w6 _)⟩ (bytesAt_below HVL6.out hbA) hkn hln).mono ?_
  rintro e w7 ⟨v7, rfl, hb7, hv7⟩
  rw [HC.out] at hv7
  have hcv7 := conv_bytes hv7
  have hb67 : Below w6.heap.size w6 w7 := hbA.trans (hb7.mono hbA.size)
  have HVX7 : Hid (BytesAt w7 (.slice p n c) key) := bytesAt_below HVX6.out hb67
  have HVL7 : Hid (BytesAt w7 (.slice q4 (m + k) c4) (la ++ lb)) := bytesAt_below HVL6.out hb67
  have HT7 : Hid (Tab w7) := tab_below HT6.out hb67
  have HB7 : Hid (Below w.heap.size w w7) := HB6.out.trans (hb67.mono HB6.out.size)
  obtain ⟨p7, c7, rfl⟩ := bytesAt_slice hv7
  rw [HCL.out] at hcv7
  rw [HCL.out]
  clear hbA hb7 hv7 hb67 HVX6 HT6 HB6 HVL6 hcv6
  go_wp2_with fail
  refine (extract_step HT7.out HVX7.out HVL7.out hkn hln).mono ?_
  rintro e w8 ⟨v8, rfl, hb8, hv8⟩
  rw [HC.out] at hv8
  have hcv8 := conv_bytes hv8
  have HB8 : Hid (Below w.heap.size w w8) := HB7.out.trans (hb8.mono HB7.out.size)
  obtain ⟨p8, c8, rfl⟩ := bytesAt_slice hv8
  rw [HCL.out] at hcv8
  rw [HCL.out]
  clear hb8 hv8 HVX7 HT7 HB7 HVL7 hcv7
  go_wp2_with fail
  go_ret
  exact ⟨rfl, HB8.out⟩
end Go.Proofs.YtnbdadhdpplldabDoor
