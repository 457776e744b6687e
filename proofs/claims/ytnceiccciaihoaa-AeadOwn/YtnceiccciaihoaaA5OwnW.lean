/- The walk of AeadOwn. -/
import Derived.Test.YtnceiccciaihoaaA5TagsW
namespace Go.Proofs.Ytnceiccciaihoaa.A5
open Go.RowKit P4
theorem conv_srcO {w : World} {v : Value} {l : List Nat} (h : Src w v l) : (convert 22 9 v).run Try.prog w = .ok (.string (strB l)) w := by
  obtain ⟨_, ⟨rfl, rfl⟩ | ⟨ad, c, rfl, rfl⟩ | ⟨b, o, c, rfl, _, hr⟩⟩ := h
  · exact conv_empty w _ _
  · exact conv_empty w _ _
  · exact run_conv w b o c l hr
def roomOf (n : Nat) : Array Value := arr .u8 (List.replicate n 0)
theorem make_room (c : Nat) (z : Int) (hz : z = (c : Int)) (hc : c ≤ 100000) (w : World) :
    (Instr.makeSlice 22 (.int .i64 0) (.int .i64 z)).run Try.prog w = .ok (.slice (some ⟨w.heap.size, 0, none⟩) 0 c) (w.alloc (.cells (roomOf c) 5)) := by
  subst hz
  exact make_bytes 0 c .i64 (Nat.zero_le _) (by omega) w
theorem own_room {w : World} {base c : Nat} (hb : base ≤ w.heap.size) (hc : c ≤ 100000) : (w.alloc (.cells (roomOf c) 5)).ownsRow base 5 1 (.slice (some ⟨w.heap.size, 0, none⟩) 0 c) 0 (ints .u8 []) := by
  refine ⟨rfl, .inr ⟨w.heap.size, c, roomOf c, rfl, hb, heap_alloc_new w _, Nat.zero_le _, by unfold maxLen; omega, by rw [roomOf, arr_size]; simp, by simp [ints]⟩⟩
set_option maxHeartbeats 1000000 in
theorem own_early (key nonce : List Nat) (pt : Option Addr) (m ct : Nat) (w : World) (h : 200 < m) :
    Calls Try.prog 8 #[.agg (arr .u8 key), .agg (arr .u8 nonce), .slice pt m ct] w fun e w' => e = .returned (.bool true) ∧ Below w.heap.size w w' := by
  have g1 : (200 : Int) < (m : Int) := by omega
  clear h
  go_enter Try.func8, Try.ntmps8
  go_wp2_with fail
  refine (anchor_any _).mono ?_
  rintro e w1 ⟨rfl, hb1⟩
  have HB1 : Hid (Below w.heap.size w w1) := (C3.knW_below w key nonce).trans (hb1.mono (C3.knW_below w key nonce).size)
  clear hb1
  go_wp2_with fail
  go_ret
  exact ⟨rfl, HB1.out⟩
set_option maxHeartbeats 4000000 in
theorem own_any (key nonce lt : List Nat) (pt : Option Addr) (m ct : Nat) (w : World) (hk : key.length = 32) (hn : nonce.length = 12) (hks : ∀ x ∈ key, x < 256) (hns : ∀ x ∈ nonce, x < 256) (hT : Src w (.slice pt m ct) lt)
    (h2 : m ≤ 200) :
    Calls Try.prog 8 #[.agg (arr .u8 key), .agg (arr .u8 nonce), .slice pt m ct] w fun e w' => e = .returned (.bool true) ∧ Below w.heap.size w w' := by
  have HX : Hid (SealAll (C3.knW w key nonce) w.heap.size key nonce) := sealAll_of hk hn hks hns
  have HZ : Hid (OpenAll (C3.knW w key nonce) w.heap.size key nonce) := openAll_of hk hn hks hns
  have HT : Hid (Src w (.slice pt m ct) lt) := hT
  have HTL : Hid (lt.length = m) := hT.text.1
  have HTS : Hid (∀ x ∈ lt, x < 256) := hT.1
  have HBA : Hid (Below w.heap.size w (C3.knW w key nonce)) := C3.knW_below w key nonce
  clear hT hks hns hk hn
  have c2 : (m : Int) ≤ 200 := by omega
  clear h2
  have hm1 := fun u => make_room (m + 64) ((m : Int) + 64) (by omega) (by omega) u
  go_enter Try.func8, Try.ntmps8
  go_wp2_with fail
  rw [show (w.alloc (Obj.cells (arr .u8 key) 31)).alloc (Obj.cells (arr .u8 nonce) 32) = C3.knW w key nonce from rfl]
  refine (anchor_any _).mono ?_
  rintro e w1 ⟨rfl, hb1⟩
  have HB1 : Hid (Below (C3.knW w key nonce).heap.size (C3.knW w key nonce) w1) := hb1
  have HT1 : Hid (Src w1 (.slice pt m ct) lt) := HT.out.below (HBA.out.trans (hb1.mono HBA.out.size))
  clear hb1 HT
  go_wp2_with (first | with_reducible (refine stop_builtin .append ?_))
  refine Stop.go ?_
  clear hm1
  have ha2 : Below w1.heap.size w1 (w1.alloc (Obj.cells (roomOf (m + 64)) 5)) := (Below.refl _ _).alloc (Nat.le_refl _) _
  refine law_append_src w1.heap.size _ 0 [] (.slice pt m ct) lt rfl rfl (own_room (Nat.le_refl _) (by omega)) (HT1.out.below ha2) (by rw [HTL.out]; omega) ha2.size ?_
  intro v2 w2 hown2 hb2
  rw [HTL.out, List.nil_append, Nat.zero_add] at hown2
  have hb12 : Below w1.heap.size w1 w2 := ha2.trans hb2
  have HX2 : Hid (Src w2 v2 lt) := Src.own HTS.out hown2
  have HT2 : Hid (Src w2 (.slice pt m ct) lt) := HT1.out.below hb12
  have HB2 : Hid (Below (C3.knW w key nonce).heap.size (C3.knW w key nonce) w2) := HB1.out.trans (hb12.mono HB1.out.size)
  clear hown2 hb2 ha2 hb12 HT1 HB1
  go_wp2_with fail
  go_region_with ((go_at_call 10; refine (HX.out _ _ _ [] lt m (below_drewN HB2.out 1) (Src.nil _) (HX2.out.drewN 1) HTL.out (by decide) (by omega)).mono ?_; rintro e w3 ⟨v, rfl, ho, hb⟩; obtain ⟨g, c, rfl, hgb, _, hgc, hr⟩ := own_cell ho (by omega)))
  have hb' : Below w2.heap.size w2 w3 := (below_drewN (Below.refl _ _) 1).trans hb
  have HBB : Hid (∀ x ∈ Ae.box key nonce [] lt, x < 256) := Ae.box_lt HTS.out
  have HBL : Hid ((Ae.box key nonce [] lt).length = m + 16) := by show _ = _; rw [Ae.box_length, HTL.out]
  have HOP : Hid (Ae.opens key nonce [] (Ae.box key nonce [] lt) = some lt) := Ae.opens_box _ _ _ _
  have HS3 : Hid (Src w3 (.slice (some ⟨g, 0, none⟩) (m + 16) c) (Ae.box key nonce [] lt)) := Src.own HBB.out ho
  have HX3 : Hid (Src w3 v2 lt) := HX2.out.below hb'
  have HT3 : Hid (Src w3 (.slice pt m ct) lt) := HT2.out.below hb'
  have HB3 : Hid (Below (C3.knW w key nonce).heap.size (C3.knW w key nonce) w3) := HB2.out.trans (hb'.mono HB2.out.size)
  clear hb hb' ho hr hgb HX2 HT2 HB2 HX
  generalize Ae.box key nonce [] lt = B at *
  have hm2 := fun u => make_room (m + 80) ((m : Int) + 16 + 64) (by omega) (by omega) u
  have hm3 := fun u => make_room (m + 80) ((m : Int) + 80) (by omega) (by omega) u
  go_wp2_with (first | with_reducible (refine stop_builtin .append ?_))
  refine Stop.go ?_
  clear hm2 hm3
  have ha4 : Below w3.heap.size w3 (w3.alloc (Obj.cells (roomOf (m + 80)) 5)) := (Below.refl _ _).alloc (Nat.le_refl _) _
  refine law_append_src w3.heap.size _ 0 [] (.slice (some ⟨g, 0, none⟩) (m + 16) c) B rfl rfl (own_room (Nat.le_refl _) (by omega)) (HS3.out.below ha4) (by rw [HBL.out]; omega) ha4.size ?_
  intro v4 w4 hown4 hb4
  rw [HBL.out, List.nil_append, Nat.zero_add] at hown4
  have hb34 : Below w3.heap.size w3 w4 := ha4.trans hb4
  have HC4 : Hid (Src w4 v4 B) := Src.own HBB.out hown4
  have HS4 : Hid (Src w4 (.slice (some ⟨g, 0, none⟩) (m + 16) c) B) := HS3.out.below hb34
  have HX4 : Hid (Src w4 v2 lt) := HX3.out.below hb34
  have HT4 : Hid (Src w4 (.slice pt m ct) lt) := HT3.out.below hb34
  have HB4 : Hid (Below (C3.knW w key nonce).heap.size (C3.knW w key nonce) w4) := HB3.out.trans (hb34.mono HB3.out.size)
  clear hown4 hb4 ha4 hb34 HS3 HX3 HT3 HB3
  go_wp2_with fail
  go_region_with ((go_at_call 12; refine (HZ.out _ _ _ [] B (below_drewN HB4.out 1) (Src.nil _) (HC4.out.drewN 1) (by decide) (by rw [HBL.out]; omega)).mono ?_; rintro e w5 ⟨h5, hb⟩; rw [HOP.out] at h5; obtain ⟨v5, rfl, ho5⟩ := h5; rw [HTL.out] at ho5; obtain ⟨q5, c5, rfl⟩ := own_slice ho5))
  have HW5 : Hid (Below w4.heap.size w4 w5) := (below_drewN (Below.refl _ _) 1).trans hb
  have HO5 : Hid (w5.ownsRow w4.heap.size 5 1 (.slice q5 m c5) m (ints .u8 lt)) := ho5
  clear hb ho5
  go_wp2_with fail
  go_loopw [49] (fun i wr => ∃ (k : Nat) (L : List Nat), k ≤ m ∧ i = .int .i64 k ∧ Hid (L.length = m ∧ (∀ x ∈ L, x < 256) ∧ wr.ownsRow w4.heap.size 5 1 (.slice q5 m c5) m (ints .u8 L)) ∧ Hid (Below w4.heap.size w4 wr)) (fun i _ => m - (intOf i).toNat)
  case atStart => exact ⟨0, lt, by omega, rfl, ⟨HTL.out, HTS.out, HO5.out⟩, HW5.out⟩
  case round =>
    obtain ⟨k, L, hk, rfl, HL, HW⟩ := hrel
    by_cases hlt : k < m
    · obtain ⟨g', c', e, hge, _, _, hr⟩ := own_cell HL.out.2.2 (by omega)
      cases e
      have hcell : wr.cell? ⟨g', k, none⟩ = some (.int .u8 (Sp.nth L k : Nat)) := by
        have := range_cell hr k (by rw [HL.out.1]; exact hlt)
        rwa [Nat.zero_add] at this
      have hfr := own_may HL.out.2.2 k
      have x1 : Sp.nth L k < 256 := Sp.nth_lt (by decide) HL.out.2.1 _
      generalize Sp.nth L k = x at *
      have hxr : bits BinOp.xor .u8 (x : Int) 255 = ((x ^^^ 255 : Nat) : Int) := u8_xor_nat x 255 x1 (by decide)
      have x2 : x ^^^ 255 < 256 := Nat.xor_lt_two_pow (n := 8) x1 (by decide)
      generalize x ^^^ 255 = y at *
      have HLN : Hid ((L.set k y).length = m ∧ (∀ z ∈ L.set k y, z < 256) ∧ (wr.setCell ⟨g', k, none⟩ (.int .u8 (y : Nat))).ownsRow w4.heap.size 5 1 (.slice (some ⟨g', 0, none⟩) m c5) m (ints .u8 (L.set k y))) :=
        ⟨by rw [List.length_set]; exact HL.out.1, fun z hz => by
          rcases List.mem_or_eq_of_mem_set hz with h | h
          · exact HL.out.2.1 z h
          · rw [h]; exact x2, own_set HL.out.2.2 hlt⟩
      have HWN : Hid (Below w4.heap.size w4 (wr.setCell ⟨g', k, none⟩ (.int .u8 (y : Nat)))) := HW.out.setCell hge _
      clear hr
      have k0 : (0 : Int) ≤ (k : Int) := by omega
      have k1 : (k : Int) < (m : Int) := by omega
      go_wp2_with fail
      go_roundw
      case rel => exact ⟨k + 1, L.set k y, by omega, by go_num, HLN.out, HWN.out⟩
      case measure => simp [intOf]; omega
    · obtain rfl : k = m := by omega
      have HC6 : Hid (Src wr v4 B) := HC4.out.below HW.out
      have HS6 : Hid (Src wr (.slice (some ⟨g, 0, none⟩) (k + 16) c) B) := HS4.out.below HW.out
      have HX6 : Hid (Src wr v2 lt) := HX4.out.below HW.out
      have HT6 : Hid (Src wr (.slice pt k ct) lt) := HT4.out.below HW.out
      have HB6 : Hid (Below (C3.knW w key nonce).heap.size (C3.knW w key nonce) wr) := HB4.out.trans (HW.out.mono HB4.out.size)
      clear HC4 HS4 HX4 HT4 HB4 HL HW HO5 HW5
      go_wp2_with fail
      go_region_with ((go_at_call 12; refine (HZ.out _ _ _ [] B (below_drewN HB6.out 1) (Src.nil _) (HC6.out.drewN 1) (by decide) (by rw [HBL.out]; omega)).mono ?_; rintro e w7 ⟨h7, hb⟩; rw [HOP.out] at h7; obtain ⟨v7, rfl, ho7⟩ := h7; rw [HTL.out] at ho7))
      have hb' : Below wr.heap.size wr w7 := (below_drewN (Below.refl _ _) 1).trans hb
      have HBF : Hid (Below w.heap.size w w7) := HBA.out.trans ((HB6.out.trans (hb'.mono HB6.out.size)).mono HBA.out.size)
      have hc1 := conv_srcO (HC6.out.below hb')
      have hc2 := conv_srcO (HS6.out.below hb')
      have hc3 := conv_srcO (HX6.out.below hb')
      have hc4 := conv_srcO (HT6.out.below hb')
      have hc5 := conv_srcO (Src.own HTS.out ho7)
      have hs1 := strB_eq lt
      have hs2 := strB_eq B
      clear hb hb' ho7 HC6 HS6 HX6 HT6 HB6 HZ
      go_wp2_with fail
      go_ret
      exact ⟨rfl, HBF.out⟩
end Go.Proofs.Ytnceiccciaihoaa.A5
