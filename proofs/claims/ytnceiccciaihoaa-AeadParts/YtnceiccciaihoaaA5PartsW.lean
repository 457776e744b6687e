/- The walk of AeadParts. -/
import Derived.Test.YtnceiccciaihoaaA5Mine
import Derived.Test.YtnceiccciaihoaaA5Steps
namespace Go.Proofs.Ytnceiccciaihoaa.A5
open Go.RowKit P4
theorem conv_srcP {w : World} {v : Value} {l : List Nat} (h : Src w v l) : (convert 22 9 v).run Try.prog w = .ok (.string (strB l)) w := by
  obtain ⟨_, ⟨rfl, rfl⟩ | ⟨ad, c, rfl, rfl⟩ | ⟨b, o, c, rfl, _, hr⟩⟩ := h
  · exact conv_empty w _ _
  · exact conv_empty w _ _
  · exact run_conv w b o c l hr
theorem strB_append (a b : List Nat) : strB (a ++ b) = strB a ++ strB b := by
  apply ByteArray.ext
  rw [strB_data, ByteArray.data_append, strB_data, strB_data]
  simp
theorem strB_size (l : List Nat) : (strB l).size = l.length := by
  show (strB l).data.size = _
  rw [strB_data]
  simp
theorem src_full {w : World} {p : Option Addr} {n c : Nat} {l : List Nat} (h : Src w (.slice p n c) l) : Full w (.slice p n n) l := by
  obtain ⟨hs, ⟨e, rfl⟩ | ⟨ad, c', e, rfl⟩ | ⟨b, o, c', e, hc, hr⟩⟩ := h
  · cases e; exact ⟨Src.nil _, _, rfl⟩
  · cases e; exact ⟨⟨hs, .inr (.inl ⟨_, _, rfl, rfl⟩)⟩, _, rfl⟩
  · cases e; exact ⟨Src.row hs (Nat.le_refl _) hr rfl, _, rfl⟩
set_option maxHeartbeats 1000000 in
theorem parts_early (key nonce : List Nat) (po pt : Option Addr) (n co m ct : Nat) (w : World) (h : 100 < n ∨ 200 < m) :
    Calls Try.prog 7 #[.agg (arr .u8 key), .agg (arr .u8 nonce), .slice po n co, .slice pt m ct] w fun e w' => e = .returned (.bool true) ∧ Below w.heap.size w w' := by
  have HH : Hid (100 < n ∨ 200 < m) := h
  clear h
  go_enter Try.func7, Try.ntmps7
  go_wp2_with fail
  refine (anchor_any _).mono ?_
  rintro e w1 ⟨rfl, hb1⟩
  have HB1 : Hid (Below w.heap.size w w1) := (C3.knW_below w key nonce).trans (hb1.mono (C3.knW_below w key nonce).size)
  clear hb1
  go_wp2_with fail
  all_goals first | (exfalso; have := HH.out; omega) | (go_ret; exact ⟨rfl, HB1.out⟩)
set_option maxHeartbeats 4000000 in
theorem parts_any (key nonce lo lt : List Nat) (po pt : Option Addr) (n co m ct : Nat) (w : World) (hk : key.length = 32) (hn : nonce.length = 12) (hks : ∀ x ∈ key, x < 256) (hns : ∀ x ∈ nonce, x < 256) (hO : Src w (.slice po n co) lo) (hT : Src w (.slice pt m ct) lt)
    (h1 : n ≤ 100) (h2 : m ≤ 200) :
    Calls Try.prog 7 #[.agg (arr .u8 key), .agg (arr .u8 nonce), .slice po n co, .slice pt m ct] w fun e w' => e = .returned (.bool true) ∧ Below w.heap.size w w' := by
  have HX : Hid (SealAll (C3.knW w key nonce) w.heap.size key nonce) := sealAll_of hk hn hks hns
  have HY : Hid (C3.XorAll (C3.knW w key nonce) w.heap.size key nonce) := C3.xorAll_of hk hn hks hns
  have HZ : Hid (C3.BlockAll (C3.knW w key nonce) w.heap.size key nonce) := C3.blockAll_of hk hn hks hns
  have HO : Hid (Src w (.slice po n co) lo) := hO
  have HT : Hid (Src w (.slice pt m ct) lt) := hT
  have HOL : Hid (lo.length = n) := hO.text.1
  have HTL : Hid (lt.length = m) := hT.text.1
  have hnc : n ≤ co := hO.text.2.1
  have HBA : Hid (Below w.heap.size w (C3.knW w key nonce)) := C3.knW_below w key nonce
  clear hO hT hks hns hk hn
  have c1 : (n : Int) ≤ 100 := by omega
  have c2 : (m : Int) ≤ 200 := by omega
  have c3 : (n : Int) ≤ (co : Int) := by omega
  go_enter Try.func7, Try.ntmps7
  go_wp2_with fail
  rw [show (w.alloc (Obj.cells (arr .u8 key) 31)).alloc (Obj.cells (arr .u8 nonce) 32) = C3.knW w key nonce from rfl]
  refine (anchor_any _).mono ?_
  rintro e w1 ⟨rfl, hb1⟩
  have HB1 : Hid (Below (C3.knW w key nonce).heap.size (C3.knW w key nonce) w1) := hb1
  have HO1 : Hid (Src w1 (.slice po n co) lo) := HO.out.below (HBA.out.trans (hb1.mono HBA.out.size))
  have HT1 : Hid (Src w1 (.slice pt m ct) lt) := HT.out.below (HBA.out.trans (hb1.mono HBA.out.size))
  clear hb1 HO HT
  go_wp2_with fail
  go_region_with ((go_at_call 10; refine (HX.out _ _ _ lo lt m (below_drewN HB1.out 1) (HO1.out.drewN 1) (HT1.out.drewN 1) HTL.out (by rw [HOL.out]; omega) (by omega)).mono ?_; rintro e w2 ⟨v2, rfl, ho, hb⟩))
  have hb' : Below w1.heap.size w1 w2 := (below_drewN (Below.refl _ _) 1).trans hb
  have HV2 : Hid (Src w2 v2 (Ae.box key nonce lo lt)) := Src.own (Ae.box_lt HT1.out.1) ho
  have HB2 : Hid (Below (C3.knW w key nonce).heap.size (C3.knW w key nonce) w2) := HB1.out.trans (hb'.mono HB1.out.size)
  have HO2 : Hid (Src w2 (.slice po n co) lo) := HO1.out.below hb'
  have HT2 : Hid (Src w2 (.slice pt m ct) lt) := HT1.out.below hb'
  clear hb hb' ho HO1 HT1 HB1 HX
  go_wp2_with fail
  go_region_with ((go_at_call 14; refine (HY.out _ 1 m ct pt lt (below_drewN HB2.out 1) (by decide) ((HT2.out.drewN 1).text.2.2) HTL.out (by omega)).mono ?_; rintro e w3 ⟨g, rfl, hg, hr, hb⟩))
  have hb' : Below w2.heap.size w2 w3 := (below_drewN (Below.refl _ _) 1).trans hb
  have HSL : Hid ((C3.Ch.xor key 1 nonce lt).length = m) := by show _ = _; rw [C3.Ch.xor_length, HTL.out]
  have HSB : Hid (∀ x ∈ C3.Ch.xor key 1 nonce lt, x < 256) := C3.Ch.xor_lt _ _ _ HT2.out.1
  have HS3 : Hid (Src w3 (.slice (some ⟨g, 0, none⟩) m m) (C3.Ch.xor key 1 nonce lt)) := Src.row HSB.out (Nat.le_of_eq HSL.out) (bRow_range hr) HSL.out
  have HV3 : Hid (Src w3 v2 (Ae.box key nonce lo lt)) := HV2.out.below hb'
  have HB3 : Hid (Below (C3.knW w key nonce).heap.size (C3.knW w key nonce) w3) := HB2.out.trans (hb'.mono HB2.out.size)
  have HO3 : Hid (Src w3 (.slice po n co) lo) := HO2.out.below hb'
  clear hb hb' hr hg HO2 HT2 HB2 HV2 HY
  go_wp2_with fail
  go_region_with ((go_at_call 15; refine (HZ.out _ 0 (below_drewN HB3.out 1) (by decide)).mono ?_; rintro e w4 ⟨g4, rfl, hg, hr, hb⟩))
  have hb' : Below w3.heap.size w3 w4 := (below_drewN (Below.refl _ _) 1).trans hb
  have HK4 : Hid (w4.rangeAt g4 0 (ints .u8 (Ae.once key nonce))) := range_take (arAt_range hr) 32
  have HS4 : Hid (Src w4 (.slice (some ⟨g, 0, none⟩) m m) (C3.Ch.xor key 1 nonce lt)) := HS3.out.below hb'
  have HV4 : Hid (Src w4 v2 (Ae.box key nonce lo lt)) := HV3.out.below hb'
  have HB4 : Hid (Below (C3.knW w key nonce).heap.size (C3.knW w key nonce) w4) := HB3.out.trans (hb'.mono HB3.out.size)
  have HO4 : Hid (Src w4 (.slice po n co) lo) := HO3.out.below hb'
  clear hb hb' hr hg HO3 HS3 HB3 HV3 HZ
  go_wp2_with (first | with_reducible (refine stop_builtin .append ?_))
  refine Stop.go ?_
  have HL1 : Hid (((Ae.lack n : Nat) : Int) = (16 - (n : Int) % 16) % 16) := by show _ = _; unfold Ae.lack; omega
  have HL2 : Hid (((Ae.lack m : Nat) : Int) = (16 - (m : Int) % 16) % 16) := by show _ = _; unfold Ae.lack; omega
  have HK1 : Hid (Ae.lack n < 16) := Ae.lack_le n
  have HK2 : Hid (Ae.lack m < 16) := Ae.lack_le m
  refine law_noughts_mine w4.heap.size (.slice po n n) lo (Ae.lack n) rfl (by rw [HL1.out]; rfl) (.inr (src_full HO4.out)) (by have := HK1.out; rw [HOL.out]; omega) (Nat.le_refl _) ?_
  intro v5 w5 hm5 hb5
  have HM5 : Hid (Mine w4.heap.size w5 v5 (lo ++ List.replicate (Ae.lack n) 0)) := hm5
  have HW5 : Hid (Below w4.heap.size w4 w5) := hb5
  clear hm5 hb5
  go_wp2_with (first | with_reducible (refine stop_builtin .append ?_))
  refine Stop.go ?_
  refine law_append_mine w4.heap.size v5 _ (.slice (some ⟨g, 0, none⟩) m m) (C3.Ch.xor key 1 nonce lt) rfl rfl HM5.out (HS4.out.below HW5.out) (by have := HK1.out; rw [List.length_append, List.length_replicate, HOL.out, HSL.out]; omega) HW5.out.size ?_
  intro v6 w6 hm6 hb6
  have HM6 : Hid (Mine w4.heap.size w6 v6 (lo ++ List.replicate (Ae.lack n) 0 ++ C3.Ch.xor key 1 nonce lt)) := hm6
  have HW6 : Hid (Below w4.heap.size w4 w6) := HW5.out.trans hb6
  clear hm6 hb6 HM5 HW5
  go_wp2_with (first | with_reducible (refine stop_builtin .append ?_))
  refine Stop.go ?_
  refine law_noughts_mine w4.heap.size v6 _ (Ae.lack m) rfl (by rw [HL2.out]; rfl) HM6.out (by have := HK1.out; have := HK2.out; rw [List.length_append, List.length_append, List.length_replicate, HOL.out, HSL.out]; omega) HW6.out.size ?_
  intro v7 w7 hm7 hb7
  have HM7 : Hid (Mine w4.heap.size w7 v7 (lo ++ List.replicate (Ae.lack n) 0 ++ C3.Ch.xor key 1 nonce lt ++ List.replicate (Ae.lack m) 0)) := hm7
  have HW7 : Hid (Below w4.heap.size w4 w7) := HW6.out.trans hb7
  clear hm7 hb7 HM6 HW6
  have n5 : (n : Int) % 256 = (n : Int) := by omega
  have m5 : (m : Int) % 256 = (m : Int) := by omega
  go_wp2_with (first | with_reducible (refine stop_builtin .append ?_))
  refine Stop.go ?_
  have ha7 : Below w7.heap.size w7 (w7.alloc (Obj.cells #[Value.int IntKind.u8 (n : Int), Value.int IntKind.u8 0, Value.int IntKind.u8 0, Value.int IntKind.u8 0, Value.int IntKind.u8 0, Value.int IntKind.u8 0, Value.int IntKind.u8 0, Value.int IntKind.u8 0, Value.int IntKind.u8 (m : Int), Value.int IntKind.u8 0, Value.int IntKind.u8 0, Value.int IntKind.u8 0, Value.int IntKind.u8 0, Value.int IntKind.u8 0, Value.int IntKind.u8 0, Value.int IntKind.u8 0] 5)) := (Below.refl _ _).alloc (Nat.le_refl _) _
  refine law_append_mine w4.heap.size v7 _ (.slice (some ⟨w7.heap.size, 0, none⟩) 16 16) [n, 0, 0, 0, 0, 0, 0, 0, m, 0, 0, 0, 0, 0, 0, 0] rfl rfl (HM7.out.below ha7) (lit_src (n := 16) (heap_alloc_new w7 _) (by intro x hx; simp at hx; omega) rfl) (by have := HK1.out; have := HK2.out; simp only [List.length_append, List.length_replicate, HOL.out, HSL.out, List.length_cons, List.length_nil]; omega) (Nat.le_trans HW7.out.size ha7.size) ?_
  intro v8 w8 hm8 hb8
  have HTE : Hid (lo ++ List.replicate (Ae.lack n) 0 ++ C3.Ch.xor key 1 nonce lt ++ List.replicate (Ae.lack m) 0 ++ [n, 0, 0, 0, 0, 0, 0, 0, m, 0, 0, 0, 0, 0, 0, 0] = Ae.tagged lo (C3.Ch.xor key 1 nonce lt)) := by
    show _ = _
    rw [Ae.tagged, Ae.fill, Ae.fill, HOL.out, HSL.out, Ae.eight_small (by omega), Ae.eight_small (by omega)]
    simp
  rw [HTE.out] at hm8
  have HTB : Hid (∀ x ∈ Ae.tagged lo (C3.Ch.xor key 1 nonce lt), x < 256) := Ae.tagged_lt HO4.out.1 HSB.out
  have HTN : Hid ((Ae.tagged lo (C3.Ch.xor key 1 nonce lt)).length ≤ 1000) := by
    show _ ≤ _
    have := HK1.out
    have := HK2.out
    rw [Ae.tagged_length, HOL.out, HSL.out]
    omega
  have HW8 : Hid (Below w4.heap.size w4 w8) := HW7.out.trans ((ha7.mono HW7.out.size).trans hb8)
  have HM8 : Hid (Src w8 v8 (Ae.tagged lo (C3.Ch.xor key 1 nonce lt))) := hm8.src HTB.out
  have HBX : Hid (Ae.box key nonce lo lt = C3.Ch.xor key 1 nonce lt ++ Po.tag (Ae.once key nonce) (Ae.tagged lo (C3.Ch.xor key 1 nonce lt))) := rfl
  have HGL : Hid ((Po.tag (Ae.once key nonce) (Ae.tagged lo (C3.Ch.xor key 1 nonce lt))).length = 16) := Po.tag_length _ _
  have HGB : Hid (∀ x ∈ Po.tag (Ae.once key nonce) (Ae.tagged lo (C3.Ch.xor key 1 nonce lt)), x < 256) := Po.tag_lt _ _
  have HNL : Hid ((Ae.once key nonce).length = 32) := Ae.once_length _ _
  have HNB : Hid (∀ x ∈ Ae.once key nonce, x < 256) := Ae.once_lt _ _
  clear hm8 hb8 ha7 HM7 HW7 HTE
  generalize Ae.tagged lo (C3.Ch.xor key 1 nonce lt) = TG at *
  generalize Ae.once key nonce = O at *
  generalize C3.Ch.xor key 1 nonce lt = S at *
  obtain ⟨T, hTT⟩ : ∃ T, Po.tag O TG = T := ⟨_, rfl⟩
  have HTT : Hid (Po.tag O TG = T) := hTT
  rw [hTT] at HBX HGL HGB
  clear hTT
  have HV8 : Hid (Src w8 v2 (S ++ T)) := by rw [← HBX.out]; exact HV4.out.below HW8.out
  have HS8 : Hid (Src w8 (.slice (some ⟨g, 0, none⟩) m m) S) := HS4.out.below HW8.out
  have HK8 : Hid (w8.rangeAt g4 0 (ints .u8 O)) := rangeAt_below HW8.out HK4.out
  have HB8 : Hid (Below w.heap.size w w8) := HBA.out.trans ((HB4.out.trans (HW8.out.mono HB4.out.size)).mono HBA.out.size)
  clear HV4 HS4 HK4 HB4 HO4 HBX HW8
  obtain ⟨p8, c8, rfl⟩ := HM8.out.slice
  go_wp2_with fail
  obtain ⟨_, hc8, ht8⟩ := HM8.out.text
  refine (tag_ok O TG g4 0 64 TG.length c8 p8 w8 HNL.out HNB.out HK8.out (by decide) ht8 rfl (by have := HTN.out; omega) hc8).mono ?_
  rintro e w9 ⟨v9, rfl, ho9, hb9⟩
  rw [HTT.out] at ho9
  have HB9 : Hid (Below w.heap.size w w9) := HB8.out.trans (hb9.mono HB8.out.size)
  have hv1 := conv_srcP (HV8.out.below hb9)
  have hv2 := conv_srcP (HS8.out.below hb9)
  have hv3 := conv_srcP (Src.own HGB.out ho9)
  rw [strB_append] at hv1
  have hse : ((strB S ++ strB T).toList == (strB S ++ strB T).toList) = true := by simp
  have hsz : ¬ 9223372036854775807 < (strB S).size + (strB T).size := by rw [strB_size, strB_size, HSL.out, HGL.out]; omega
  clear hc8 ht8 ho9 hb9
  go_wp2_with fail
  go_ret
  exact ⟨rfl, HB9.out⟩
end Go.Proofs.Ytnceiccciaihoaa.A5
