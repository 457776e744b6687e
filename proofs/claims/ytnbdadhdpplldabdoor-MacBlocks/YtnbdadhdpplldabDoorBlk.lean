/- The walk of MacBlocks. -/
import Derived.Test.YtnbdadhdpplldabDoorBlkM
namespace Go.Proofs.YtnbdadhdpplldabDoor
open Go.RowKit
set_option maxHeartbeats 400000 in
theorem blocks_early (p q : Option Addr) (n c m d : Nat) (z : Int) (w : World) (hT : Tab w) (h : 100 < n ∨ 100 < m ∨ z < 0 ∨ 130 < z) :
    Calls Tryd.prog 8 #[.slice p n c, .slice q m d, .int .i64 z] w fun e w' => e = .returned (.bool true) ∧ Below w.heap.size w w' := by
  have HT : Hid (Tab w) := hT
  have HH : Hid (100 < n ∨ 100 < m ∨ z < 0 ∨ 130 < z) := h
  clear hT h
  go_enter Tryd.func8, Tryd.ntmps8
  go_wp2_with fail
  refine (anchor_any w HT.out).mono ?_
  rintro e w1 ⟨rfl, hb1⟩
  have HB1 : Hid (Below w.heap.size w w1) := hb1
  clear hb1
  go_wp2_with fail
  all_goals first | (exfalso; have := HH.out; omega) | (go_ret; exact ⟨rfl, HB1.out⟩)
set_option maxHeartbeats 2000000 in
theorem blocks_any (key info : List Nat) (p q : Option Addr) (n c m d N : Nat) (w : World) (hT : Tab w) (hK : BytesAt w (.slice p n c) key) (hI : BytesAt w (.slice q m d) info) (hn : n ≤ 100) (hm : m ≤ 100) (hN : N ≤ 130) :
    Calls Tryd.prog 8 #[.slice p n c, .slice q m d, .int .i64 (N : Nat)] w fun e w' => e = .returned (.bool true) ∧ Below w.heap.size w w' := by
  have HT : Hid (Tab w) := hT
  have HK : Hid (BytesAt w (.slice p n c) key) := hK
  have HI : Hid (BytesAt w (.slice q m d) info) := hI
  have HKL : Hid (key.length = n) := (bytesAt_src hK).1
  have HIL : Hid (info.length = m) := (bytesAt_src hI).1
  clear hT hK hI
  have n1 : ¬ (100 : Int) < (n : Int) := by omega
  have n2 : ¬ (100 : Int) < (m : Int) := by omega
  have n3 : ¬ ((N : Nat) : Int) < 0 := by omega
  have n4 : ¬ (130 : Int) < ((N : Nat) : Int) := by omega
  go_enter Tryd.func8, Tryd.ntmps8
  go_wp2_with fail
  refine (anchor_any w HT.out).mono ?_
  rintro e w1 ⟨rfl, hb1⟩
  have HB1 : Hid (Below w.heap.size w w1) := hb1
  have hs1 := hb1.size
  clear hb1
  go_wp2_with fail
  refine (expand_any key info p q n c m d N w1 (tab_below HT.out HB1.out) (bytesAt_below HK.out HB1.out) (bytesAt_below HI.out HB1.out) (by omega) (by omega) (by omega)).mono ?_
  rintro e w2 ⟨v2, rfl, ho2, hb2⟩
  have HO2 : Hid (w2.ownsRow w1.heap.size 5 1 v2 N (ints .u8 (Mk.spread key info N))) := ho2
  have HB2 : Hid (Below w.heap.size w w2) := HB1.out.trans (hb2.mono hs1)
  clear ho2 hb2
  have hs2 := HB2.out.size
  have HBT : Hid (BytesAt w2 v2 (Mk.spread key info N)) := bytesAt_own (Mk.spread_small _ _ _) (by rw [Mk.spread_length]; exact HO2.out)
  obtain ⟨qo, co, rfl⟩ := own_slice HO2.out
  go_wp2_with fail
  obtain ⟨K, hKd⟩ : ∃ K, K = (N + 31) / 32 := ⟨_, rfl⟩
  go_loopw [9, 10] (fun bv i wr => ∃ k : Nat, k ≤ K ∧ i = .int .i64 (k : Nat) ∧ Hid (BytesAt wr bv (Mk.bl key info k)) ∧ Hid (Below w2.heap.size w2 wr)) (fun _ i _ => K - (intOf i).toNat)
  case atStart => exact ⟨0, by omega, rfl, bytesAt_none _ _ _, Below.refl _ _⟩
  case round =>
    obtain ⟨k, hk, rfl, HBl, HBr⟩ := hrel
    have HB : Hid (Below w.heap.size w wr) := HB2.out.trans (HBr.out.mono hs2)
    by_cases hlt : 32 * k < N
    · have hkK : k < K := by omega
      obtain ⟨pb, cb, rfl⟩ := bytesAt_slice HBl.out
      have j1 : ((32 * k : Nat) : Int) < ((N : Nat) : Int) := by omega
      have j2 : k + 1 ≤ 255 := by omega
      go_wp2_with fail
      have hkl : Hid (key.length ≤ 100000) := by show _ ≤ _; rw [HKL.out]; omega
      have hil : Hid ((Mk.bl key info k ++ (info ++ [k + 1])).length ≤ 1000000) := by
        have h1 := Mk.bl_le key info k
        have h2 := HIL.out
        show _ ≤ _
        simp only [List.length_append, List.length_cons, List.length_nil]
        omega
      have hbA : Below wr.heap.size wr (wr.alloc (Obj.cells #[.int .u8 ((k : Int) + 1)] 5)) := (Below.refl _ _).alloc (Nat.le_refl _) _
      have hszA : (wr.alloc (Obj.cells #[.int .u8 ((k : Int) + 1)] 5)).heap.size = wr.heap.size + 1 := by simp
      have h3A : BytesAt (wr.alloc (Obj.cells #[.int .u8 ((k : Int) + 1)] 5)) (.slice (some ⟨wr.heap.size, 0, none⟩) 1 1) [k + 1] :=
        ⟨by simp; omega, .inr ⟨wr.heap.size, 0, 1, rfl, Nat.le_refl _, rangeAt_of_row (heap_alloc_new wr _)⟩⟩
      generalize wr.alloc (Obj.cells #[.int .u8 ((k : Int) + 1)] 5) = A1 at *
      have hbB : Below A1.heap.size A1 (A1.alloc (Obj.cells #[.slice pb (Mk.bl key info k).length cb, .slice q m d, .slice (some ⟨wr.heap.size, 0, none⟩) 1 1] 22)) := (Below.refl _ _).alloc (Nat.le_refl _) _
      have hrB := heap_alloc_new A1 (Obj.cells #[.slice pb (Mk.bl key info k).length cb, .slice q m d, .slice (some ⟨wr.heap.size, 0, none⟩) 1 1] 22)
      rw [hszA] at hrB
      have hszB : (A1.alloc (Obj.cells #[.slice pb (Mk.bl key info k).length cb, .slice q m d, .slice (some ⟨wr.heap.size, 0, none⟩) 1 1] 22)).heap.size = A1.heap.size + 1 := by simp
      generalize A1.alloc (Obj.cells #[.slice pb (Mk.bl key info k).length cb, .slice q m d, .slice (some ⟨wr.heap.size, 0, none⟩) 1 1] 22) = A2 at *
      have hb2 : Below wr.heap.size wr A2 := hbA.trans (hbB.mono (by omega))
      have hbw : Below w.heap.size w A2 := HB.out.trans (hb2.mono HB.out.size)
      refine (code3_row (l1 := Mk.bl key info k) (l2 := info) (l3 := [k + 1]) (g3 := wr.heap.size) (tab_below HT.out hbw) (bytesAt_below HK.out hbw) (rangeAt_of_row hrB) (bytesAt_below HBl.out hb2) (bytesAt_below HI.out hbw) (bytesAt_below h3A hbB) hkl.out hil.out).mono ?_
      rintro e w5 ⟨b, rfl, hbge, hrow, hb5⟩
      have hb25 : Below wr.heap.size wr w5 := hb2.trans (hb5.mono (by omega))
      have HR5 : Hid (w5.heap[b]? = some (.cells (arr .u8 (Mk.bl key info (k + 1))) 5 (0, 0))) := hrow
      have HB5 : Hid (Below w.heap.size w w5) := HB.out.trans (hb25.mono HB.out.size)
      have HB25 : Hid (Below w2.heap.size w2 w5) := HBr.out.trans (hb25.mono HBr.out.size)
      clear hbA hszA h3A hbB hrB hszB hb2 hbw hbge hrow hb5 hb25 HBl hkl hil
      go_wp2_with fail
      obtain ⟨g, c9, hqe, hc9, _, _, hr9⟩ := own_cell2 HO2.out (by omega)
      cases hqe
      have HOS : Hid (BytesAt w5 (.slice (some ⟨g, 32 * k, none⟩) (min (32 * k + 32) N - 32 * k) (co - 32 * k)) ((Mk.bl key info (k + 1)).take (min 32 (N - 32 * k)))) := by
        have h := bytes_cut (c := co) (m := 32 * k) (t := min 32 (N - 32 * k)) (Mk.spread_small key info N) hr9 (by rw [Mk.spread_length]; omega) (by omega)
        rw [Mk.spread_cut key info k N _ hlt rfl] at h
        rw [show min (32 * k + 32) N - 32 * k = min 32 (N - 32 * k) by omega]
        exact bytesAt_below h HB25.out
      have HLS : Hid (BytesAt w5 (.slice (some ⟨b, 0, none⟩) (min 32 (N - 32 * k)) 32) ((Mk.bl key info (k + 1)).take (min 32 (N - 32 * k)))) :=
        bytes_cut (c := 32) (m := 0) (t := min 32 (N - 32 * k)) (Mk.bl_small key info (k + 1)) (rangeAt_of_row HR5.out) (by have h := Mk.bl_length key info k; show _ ≤ (Mk.bl key info (k + 1)).length; omega) (by omega)
      clear hr9
      refine wp_region_inv (blkV g co b k N ((Mk.bl key info (k + 1)).take (min 32 (N - 32 * k)))) (fun u u' => Below u.heap.size u u') (by kernel_rfl) ((Below.refl _ _).drew) below_trans' (blkV_kept _ _ _ _ _ _) (by kernel_rfl) ?_ ?_
      · intro i o a' w' hi inv hpre
        have hb : Below w5.heap.size w5 w' := inv.grow
        have hlt : i < 19 := (Array.getElem?_eq_some_iff.1 hi).1
        obtain rfl|rfl|rfl|rfl|rfl|rfl|rfl|rfl|rfl|rfl|rfl|rfl|rfl|rfl|rfl|rfl|rfl|rfl|rfl : i = 0 ∨ i = 1 ∨ i = 2 ∨ i = 3 ∨ i = 4 ∨ i = 5 ∨ i = 6 ∨ i = 7 ∨ i = 8 ∨ i = 9 ∨ i = 10 ∨ i = 11 ∨ i = 12 ∨ i = 13 ∨ i = 14 ∨ i = 15 ∨ i = 16 ∨ i = 17 ∨ i = 18 := by omega
        · obtain rfl := Option.some.inj hi
          exact st_value _ rfl rfl rfl (Below.refl _ _) (by show a'.tmps.getD 7 undef = _; rw [inv.old 7 (notDst_spec (by kernel_rfl))]; rfl)
        · obtain rfl := Option.some.inj hi
          exact st_value _ rfl rfl rfl (Below.refl _ _) (by show a'.tmps.getD 10 undef = _; rw [inv.old 10 (notDst_spec (by kernel_rfl))]; rfl)
        · obtain rfl := Option.some.inj hi
          have h0 : a'.tmps.getD 60 undef = _ := pre_of hpre 1 60 (by kernel_rfl) (by kernel_rfl)
          exact st_value _ rfl rfl (mul_run 60 rfl h0 (by omega)) (Below.refl _ _) rfl
        · obtain rfl := Option.some.inj hi
          exact st_value _ rfl rfl rfl (Below.refl _ _) (by show a'.tmps.getD 10 undef = _; rw [inv.old 10 (notDst_spec (by kernel_rfl))]; rfl)
        · obtain rfl := Option.some.inj hi
          have h0 : a'.tmps.getD 62 undef = _ := pre_of hpre 3 62 (by kernel_rfl) (by kernel_rfl)
          exact st_value _ rfl rfl (mul_run 62 rfl h0 (by omega)) (Below.refl _ _) rfl
        · obtain rfl := Option.some.inj hi
          have h0 : a'.tmps.getD 63 undef = _ := pre_of hpre 4 63 (by kernel_rfl) (by kernel_rfl)
          exact st_value _ rfl rfl (add_run 63 rfl h0 (by omega)) (Below.refl _ _) rfl
        · obtain rfl := Option.some.inj hi
          exact st_value _ rfl rfl rfl (Below.refl _ _) (by show a'.tmps.getD 2 undef = _; rw [inv.old 2 (notDst_spec (by kernel_rfl))]; rfl)
        · obtain rfl := Option.some.inj hi
          have h0 : a'.tmps.getD 64 undef = _ := pre_of hpre 5 64 (by kernel_rfl) (by kernel_rfl)
          have h1 : a'.tmps.getD 65 undef = _ := pre_of hpre 6 65 (by kernel_rfl) (by kernel_rfl)
          exact st_value _ rfl rfl (min_run 64 65 rfl h0 h1) (Below.refl _ _) rfl
        · obtain rfl := Option.some.inj hi
          have h0 : a'.tmps.getD 59 undef = _ := pre_of hpre 0 59 (by kernel_rfl) (by kernel_rfl)
          have h1 : a'.tmps.getD 61 undef = _ := pre_of hpre 2 61 (by kernel_rfl) (by kernel_rfl)
          have h2 : a'.tmps.getD 66 undef = _ := pre_of hpre 7 66 (by kernel_rfl) (by kernel_rfl)
          exact st_value _ rfl rfl (slice_run 59 61 66 rfl h0 h1 h2 (by omega) (by omega)) (Below.refl _ _) (bytesAt_below HOS.out hb)
        · obtain rfl := Option.some.inj hi
          have h0 := pre_of hpre 8 67 (by kernel_rfl) (by kernel_rfl)
          exact st_value _ rfl rfl (conv_run 67 rfl h0) (Below.refl _ _) rfl
        · obtain rfl := Option.some.inj hi
          exact st_value _ rfl rfl rfl (Below.refl _ _) (by show a'.tmps.getD 9 undef = _; rw [inv.old 9 (notDst_spec (by kernel_rfl))]; rfl)
        · obtain rfl := Option.some.inj hi
          exact st_value _ rfl rfl rfl (Below.refl _ _) (by show a'.tmps.getD 2 undef = _; rw [inv.old 2 (notDst_spec (by kernel_rfl))]; rfl)
        · obtain rfl := Option.some.inj hi
          exact st_value _ rfl rfl rfl (Below.refl _ _) (by show a'.tmps.getD 10 undef = _; rw [inv.old 10 (notDst_spec (by kernel_rfl))]; rfl)
        · obtain rfl := Option.some.inj hi
          have h0 : a'.tmps.getD 71 undef = _ := pre_of hpre 12 71 (by kernel_rfl) (by kernel_rfl)
          exact st_value _ rfl rfl (mul_run 71 rfl h0 (by omega)) (Below.refl _ _) rfl
        · obtain rfl := Option.some.inj hi
          have h0 : a'.tmps.getD 70 undef = _ := pre_of hpre 11 70 (by kernel_rfl) (by kernel_rfl)
          have h1 : a'.tmps.getD 72 undef = _ := pre_of hpre 13 72 (by kernel_rfl) (by kernel_rfl)
          exact st_value _ rfl rfl (sub_run 70 72 rfl h0 h1 (by omega) (by omega)) (Below.refl _ _) rfl
        · obtain rfl := Option.some.inj hi
          have h0 : a'.tmps.getD 73 undef = _ := pre_of hpre 14 73 (by kernel_rfl) (by kernel_rfl)
          exact st_value _ rfl rfl (min_run' 73 rfl h0) (Below.refl _ _) rfl
        · obtain rfl := Option.some.inj hi
          have h0 : a'.tmps.getD 69 undef = _ := pre_of hpre 10 69 (by kernel_rfl) (by kernel_rfl)
          have h2 : a'.tmps.getD 74 undef = _ := pre_of hpre 15 74 (by kernel_rfl) (by kernel_rfl)
          exact st_value _ rfl rfl (slice_run' 69 74 rfl h0 h2 (by omega)) (Below.refl _ _) (bytesAt_below HLS.out hb)
        · obtain rfl := Option.some.inj hi
          have h0 := pre_of hpre 16 75 (by kernel_rfl) (by kernel_rfl)
          exact st_value _ rfl rfl (conv_run 75 rfl h0) (Below.refl _ _) rfl
        · obtain rfl := Option.some.inj hi
          have h0 : a'.tmps.getD 68 undef = _ := pre_of hpre 9 68 (by kernel_rfl) (by kernel_rfl)
          have h1 : a'.tmps.getD 76 undef = _ := pre_of hpre 17 76 (by kernel_rfl) (by kernel_rfl)
          exact st_value (.bool false) rfl rfl (neq_run 68 76 rfl h0 h1) (Below.refl _ _) rfl
      · intro a' w' inv hd
        have h77 : a'.tmps.getD 77 undef = .bool false := hd 18 77 (by kernel_rfl)
        have hb : Below w5.heap.size w5 w' := inv.grow
        have hdf : a'.defers = [] := inv.defers
        have hsz : a'.tmps.size = 78 := inv.size
        have e := frame78 hsz (fun t ht => inv.old t (dst_from (lo := 59) (by kernel_rfl) t ht))
        rw [h77] at e
        clear inv hd h77 hsz
        obtain ⟨tmps, defers⟩ := a'
        obtain rfl : defers = [] := hdf
        replace e : tmps = _ := e
        generalize tmps.getD 59 undef = x59 at e
        generalize tmps.getD 60 undef = x60 at e
        generalize tmps.getD 61 undef = x61 at e
        generalize tmps.getD 62 undef = x62 at e
        generalize tmps.getD 63 undef = x63 at e
        generalize tmps.getD 64 undef = x64 at e
        generalize tmps.getD 65 undef = x65 at e
        generalize tmps.getD 66 undef = x66 at e
        generalize tmps.getD 67 undef = x67 at e
        generalize tmps.getD 68 undef = x68 at e
        generalize tmps.getD 69 undef = x69 at e
        generalize tmps.getD 70 undef = x70 at e
        generalize tmps.getD 71 undef = x71 at e
        generalize tmps.getD 72 undef = x72 at e
        generalize tmps.getD 73 undef = x73 at e
        generalize tmps.getD 74 undef = x74 at e
        generalize tmps.getD 75 undef = x75 at e
        generalize tmps.getD 76 undef = x76 at e
        simp only [Array.getD_eq_getD_getElem?, List.getElem?_toArray, List.getElem?_cons_succ, List.getElem?_cons_zero, Option.getD_some] at e
        subst e
        have HR6 : Hid (BytesAt w' (.slice (some ⟨b, 0, none⟩) 32 32) (Mk.bl key info (k + 1))) := bytesAt_below (code_bytes (Mk.bl_small _ _ _) (Mk.bl_length _ _ _) HR5.out) hb
        have HB6 : Hid (Below w2.heap.size w2 w') := HB25.out.trans (hb.mono HB25.out.size)
        clear HR5 HB25 HB5 HOS HLS hb HBr
        go_wp2_with fail
        go_roundw
        case rel => exact ⟨k + 1, by omega, by go_num, HR6, HB6⟩
        case measure => simp [intOf]; omega
    · obtain rfl : k = K := by omega
      have j1 : ¬ (32 * (k : Int)) < ((N : Nat) : Int) := by omega
      clear HBl
      go_wp2_with fail
      go_ret
      exact ⟨rfl, HB.out⟩
end Go.Proofs.YtnbdadhdpplldabDoor
