/- The walk of MacSpreads. -/
import Derived.Test.YtnbdadhdpplldabDoorSprL
namespace Go.Proofs.YtnbdadhdpplldabDoor
open Go.RowKit
set_option maxHeartbeats 400000 in
theorem spreads_early (p q : Option Addr) (n c m d : Nat) (z f : Int) (w : World) (hT : Tab w) (h : 100 < n ∨ 100 < m ∨ (200 < z ∧ z ≤ 8160)) :
    Calls Tryd.prog 5 #[.slice p n c, .slice q m d, .int .i64 z, .int .i64 f] w fun e w' => e = .returned (.bool true) ∧ Below w.heap.size w w' := by
  have HT : Hid (Tab w) := hT
  have HH : Hid (100 < n ∨ 100 < m ∨ (200 < z ∧ z ≤ 8160)) := h
  clear hT h
  go_enter Tryd.func5, Tryd.ntmps5
  go_wp2_with fail
  refine (anchor_any w HT.out).mono ?_
  rintro e w1 ⟨rfl, hb1⟩
  have HB1 : Hid (Below w.heap.size w w1) := hb1
  clear hb1
  go_wp2_with fail
  all_goals first | (exfalso; have := HH.out; omega) | (go_ret; exact ⟨rfl, HB1.out⟩)
set_option maxHeartbeats 2000000 in
theorem spreads_any (key info : List Nat) (p q : Option Addr) (n c m d N : Nat) (f : Int) (w : World) (hT : Tab w) (hK : BytesAt w (.slice p n c) key) (hI : BytesAt w (.slice q m d) info) (hSI : SrcIs w (.slice q m d) info) (hn : n ≤ 100) (hm : m ≤ 100) (hN : N ≤ 200) :
    Calls Tryd.prog 5 #[.slice p n c, .slice q m d, .int .i64 (N : Nat), .int .i64 f] w fun e w' => e = .returned (.bool true) ∧ Below w.heap.size w w' := by
  have HT : Hid (Tab w) := hT
  have HK : Hid (BytesAt w (.slice p n c) key) := hK
  have HI : Hid (BytesAt w (.slice q m d) info) := hI
  have HKL : Hid (key.length = n) := (bytesAt_src hK).1
  have HIL : Hid (info.length = m) := (bytesAt_src hI).1
  have HSI : Hid (SrcIs w (.slice q m d) info) := hSI
  clear hT hK hI hSI
  have n1 : ¬ (100 : Int) < (n : Int) := by omega
  have n2 : ¬ (100 : Int) < (m : Int) := by omega
  have n3 : ¬ ((N : Nat) : Int) < 0 := by omega
  have n4 : ¬ (200 : Int) < ((N : Nat) : Int) := by omega
  have n5 : ¬ (8160 : Int) < ((N : Nat) : Int) := by omega
  go_enter Tryd.func5, Tryd.ntmps5
  go_wp2_with fail
  refine (anchor_any w HT.out).mono ?_
  rintro e w1 ⟨rfl, hb1⟩
  have HB1 : Hid (Below w.heap.size w w1) := hb1
  have hs1 := hb1.size
  clear hb1
  go_wp2_with fail
  refine (expand_any key info p q n c m d N w1 (tab_below HT.out HB1.out) (bytesAt_below HK.out HB1.out) (bytesAt_below HI.out HB1.out) (by omega) (by omega) (by omega)).mono ?_
  rintro e w2 ⟨v2, rfl, ho2, hb2⟩
  have HO2 : Hid (w2.ownsRow w1.heap.size 5 1 v2 N (ints .u8 (Mk.spread key info N))) := ho2
  have HB2 : Hid (Below w.heap.size w w2) := HB1.out.trans (hb2.mono hs1)
  clear ho2 hb2
  obtain ⟨qo, co, rfl⟩ := own_slice HO2.out
  go_wp2_with fail
  have HVO : Hid (BytesAt w2 (.slice qo N co) (Mk.spread key info N)) := bytesAt_own (Mk.spread_small _ _ _) (by rw [Mk.spread_length]; exact HO2.out)
  refine wp_region_inv (sprV (.slice qo N co) (.slice p n c) (.slice q m d) (.int .i64 (N : Nat)) (Mk.spread key info N)) (fun u u' => Below u.heap.size u u') (by kernel_rfl) ((Below.refl _ _).drew) below_trans' (sprV_kept _ _ _ _ _) (by kernel_rfl) ?_ ?_
  · intro i o a' w' hi inv hpre
    have hb : Below w2.heap.size w2 w' := inv.grow
    have hlt : i < 12 := (Array.getElem?_eq_some_iff.1 hi).1
    obtain rfl|rfl|rfl|rfl|rfl|rfl|rfl|rfl|rfl|rfl|rfl|rfl : i = 0 ∨ i = 1 ∨ i = 2 ∨ i = 3 ∨ i = 4 ∨ i = 5 ∨ i = 6 ∨ i = 7 ∨ i = 8 ∨ i = 9 ∨ i = 10 ∨ i = 11 := by omega
    · obtain rfl := Option.some.inj hi
      exact st_value _ rfl rfl rfl (Below.refl _ _) (by show a'.tmps.getD 10 undef = _; rw [inv.old 10 (notDst_spec (by kernel_rfl))]; rfl)
    · obtain rfl := Option.some.inj hi
      have h0 : a'.tmps.getD 51 undef = _ := pre_of hpre 0 51 (by kernel_rfl) (by kernel_rfl)
      exact st_value _ rfl rfl (neqe_run 51 rfl h0) (Below.refl _ _) rfl
    · obtain rfl := Option.some.inj hi
      have h0 : a'.tmps.getD 52 undef = _ := pre_of hpre 1 52 (by kernel_rfl) (by kernel_rfl)
      exact st_value _ rfl rfl rfl (Below.refl _ _) h0
    · obtain rfl := Option.some.inj hi
      have hgu : a'.tmps.getD 53 undef = _ := pre_of hpre 2 53 (by kernel_rfl) (by kernel_rfl)
      exact st_value _ rfl (wanted_else 2 53 rfl (by kernel_rfl) hgu) rfl (Below.refl _ _) (by show a'.tmps.getD 9 undef = _; rw [inv.old 9 (notDst_spec (by kernel_rfl))]; rfl)
    · obtain rfl := Option.some.inj hi
      have hgu : a'.tmps.getD 53 undef = _ := pre_of hpre 2 53 (by kernel_rfl) (by kernel_rfl)
      have h0 : a'.tmps.getD 54 undef = _ := pre_of hpre 3 54 (by kernel_rfl) (by kernel_rfl)
      exact st_value _ rfl (wanted_else 2 53 rfl (by kernel_rfl) hgu) (conv_run 54 rfl (by rw [h0]; exact bytesAt_below HVO.out hb)) (Below.refl _ _) rfl
    · obtain rfl := Option.some.inj hi
      have hgu : a'.tmps.getD 53 undef = _ := pre_of hpre 2 53 (by kernel_rfl) (by kernel_rfl)
      exact st_value _ rfl (wanted_else 2 53 rfl (by kernel_rfl) hgu) rfl (Below.refl _ _) (by show a'.tmps.getD 0 undef = _; rw [inv.old 0 (notDst_spec (by kernel_rfl))]; rfl)
    · obtain rfl := Option.some.inj hi
      have hgu : a'.tmps.getD 53 undef = _ := pre_of hpre 2 53 (by kernel_rfl) (by kernel_rfl)
      exact st_value _ rfl (wanted_else 2 53 rfl (by kernel_rfl) hgu) rfl (Below.refl _ _) (by show a'.tmps.getD 1 undef = _; rw [inv.old 1 (notDst_spec (by kernel_rfl))]; rfl)
    · obtain rfl := Option.some.inj hi
      have hgu : a'.tmps.getD 53 undef = _ := pre_of hpre 2 53 (by kernel_rfl) (by kernel_rfl)
      exact st_value _ rfl (wanted_else 2 53 rfl (by kernel_rfl) hgu) rfl (Below.refl _ _) (by show a'.tmps.getD 2 undef = _; rw [inv.old 2 (notDst_spec (by kernel_rfl))]; rfl)
    · obtain rfl := Option.some.inj hi
      have hgu : a'.tmps.getD 53 undef = _ := pre_of hpre 2 53 (by kernel_rfl) (by kernel_rfl)
      have h0 : a'.tmps.getD 56 undef = _ := pre_of hpre 5 56 (by kernel_rfl) (by kernel_rfl)
      have h1 : a'.tmps.getD 57 undef = _ := pre_of hpre 6 57 (by kernel_rfl) (by kernel_rfl)
      have h2 : a'.tmps.getD 58 undef = _ := pre_of hpre 7 58 (by kernel_rfl) (by kernel_rfl)
      refine st_call 14 #[a'.tmps.getD 56 undef, a'.tmps.getD 57 undef, a'.tmps.getD 58 undef] rfl (wanted_else 2 53 rfl (by kernel_rfl) hgu) (by kernel_rfl) ?_
      rw [h0, h1, h2]
      exact rexp_any key info p q n c m d N w' (bytesAt_below (bytesAt_below HK.out HB2.out) hb) (bytesAt_below (bytesAt_below HI.out HB2.out) hb) (SrcIs.below (SrcIs.below HSI.out HB2.out) hb) (by omega) (by omega) (by omega)
    · obtain rfl := Option.some.inj hi
      have hgu : a'.tmps.getD 53 undef = _ := pre_of hpre 2 53 (by kernel_rfl) (by kernel_rfl)
      have h0 := pre_of hpre 8 59 (by kernel_rfl) (by kernel_rfl)
      exact st_value _ rfl (wanted_else 2 53 rfl (by kernel_rfl) hgu) (conv_run 59 rfl h0) (Below.refl _ _) rfl
    · obtain rfl := Option.some.inj hi
      have hgu : a'.tmps.getD 53 undef = _ := pre_of hpre 2 53 (by kernel_rfl) (by kernel_rfl)
      have h0 : a'.tmps.getD 55 undef = _ := pre_of hpre 4 55 (by kernel_rfl) (by kernel_rfl)
      have h1 : a'.tmps.getD 60 undef = _ := pre_of hpre 9 60 (by kernel_rfl) (by kernel_rfl)
      exact st_value _ rfl (wanted_else 2 53 rfl (by kernel_rfl) hgu) (neq_run 55 60 rfl h0 h1) (Below.refl _ _) rfl
    · obtain rfl := Option.some.inj hi
      have h0 : a'.tmps.getD 53 undef = _ := pre_of hpre 2 53 (by kernel_rfl) (by kernel_rfl)
      have h1 : a'.tmps.getD 61 undef = _ := pre_of hpre 10 61 (by kernel_rfl) (by kernel_rfl)
      exact st_value _ rfl rfl (pick_else h0 h1 rfl) (Below.refl _ _) rfl
  · intro a' w3 inv hd
    have h62 : a'.tmps.getD 62 undef = .bool false := hd 11 62 (by kernel_rfl)
    have hb : Below w2.heap.size w2 w3 := inv.grow
    have hdf : a'.defers = [] := inv.defers
    have hsz : a'.tmps.size = 88 := inv.size
    have e := frame88 hsz (fun t ht => inv.old t (dst_in (lo := 51) (up := 62) (by kernel_rfl) t ht))
    rw [h62] at e
    clear inv hd h62 hsz
    obtain ⟨tmps, defers⟩ := a'
    obtain rfl : defers = [] := hdf
    replace e : tmps = _ := e
    generalize tmps.getD 51 undef = x51 at e
    generalize tmps.getD 52 undef = x52 at e
    generalize tmps.getD 53 undef = x53 at e
    generalize tmps.getD 54 undef = x54 at e
    generalize tmps.getD 55 undef = x55 at e
    generalize tmps.getD 56 undef = x56 at e
    generalize tmps.getD 57 undef = x57 at e
    generalize tmps.getD 58 undef = x58 at e
    generalize tmps.getD 59 undef = x59 at e
    generalize tmps.getD 60 undef = x60 at e
    generalize tmps.getD 61 undef = x61 at e
    simp only [Array.getD_eq_getD_getElem?, List.getElem?_toArray, List.getElem?_cons_succ, List.getElem?_cons_zero, Option.getD_some] at e
    subst e
    have HO3 : Hid (w3.ownsRow w1.heap.size 5 1 (.slice qo N co) N (ints .u8 (Mk.spread key info N))) := own_below HO2.out hb
    have HB3 : Hid (Below w.heap.size w w3) := HB2.out.trans (hb.mono HB2.out.size)
    clear hb HO2 HB2 HVO
    by_cases hf : f < 0 ∨ (N : Int) < f
    · have HF : Hid (f < 0 ∨ (N : Int) < f) := hf
      clear hf
      go_wp2_with fail
      all_goals first | (exfalso; have := HF.out; omega) | (go_ret; exact ⟨rfl, HB3.out⟩)
    · obtain ⟨M, rfl⟩ : ∃ M : Nat, f = (M : Nat) := ⟨f.toNat, by omega⟩
      have hM : M ≤ N := by omega
      have m1 : ¬ ((M : Nat) : Int) < 0 := by omega
      have m2 : ¬ ((N : Nat) : Int) < ((M : Nat) : Int) := by omega
      clear hf
      go_wp2_with fail
      refine (expand_any key info p q n c m d M w3 (tab_below HT.out HB3.out) (bytesAt_below HK.out HB3.out) (bytesAt_below HI.out HB3.out) (by omega) (by omega) (by omega)).mono ?_
      rintro e w4 ⟨v4, rfl, ho4, hb4⟩
      have HVB : Hid (BytesAt w4 v4 (Mk.spread key info M)) := bytesAt_own (Mk.spread_small _ _ _) (by rw [Mk.spread_length]; exact ho4)
      have HO4 : Hid (w4.ownsRow w1.heap.size 5 1 (.slice qo N co) N (ints .u8 (Mk.spread key info N))) := own_below HO3.out hb4
      have HB4 : Hid (Below w.heap.size w w4) := HB3.out.trans (hb4.mono HB3.out.size)
      have HSS : Hid (∀ x ∈ Mk.spread key info N, x < 256) := Mk.spread_small _ _ _
      have HSL : Hid ((Mk.spread key info N).length = N) := Mk.spread_length _ _ _
      have HTK : Hid ((Mk.spread key info N).take M = Mk.spread key info M) := Mk.spread_take key info N M hM
      clear ho4 hb4 HO3 HB3
      obtain ⟨qb, cb, rfl⟩ := bytesAt_slice HVB.out
      go_wp2_with fail
      refine wp_region_inv (fewV (.slice qo N co) (.slice qb (Mk.spread key info M).length cb) (.int .i64 (M : Nat)) (Mk.spread key info M)) (fun u u' => Below u.heap.size u u') (by kernel_rfl) ((Below.refl _ _).drew) below_trans' (fewV_kept _ _ _ _) (by kernel_rfl) ?_ ?_
      · intro i o a' w' hi inv hpre
        have hb : Below w4.heap.size w4 w' := inv.grow
        have hlt : i < 12 := (Array.getElem?_eq_some_iff.1 hi).1
        obtain rfl|rfl|rfl|rfl|rfl|rfl|rfl|rfl|rfl|rfl|rfl|rfl : i = 0 ∨ i = 1 ∨ i = 2 ∨ i = 3 ∨ i = 4 ∨ i = 5 ∨ i = 6 ∨ i = 7 ∨ i = 8 ∨ i = 9 ∨ i = 10 ∨ i = 11 := by omega
        · obtain rfl := Option.some.inj hi
          exact st_value _ rfl rfl rfl (Below.refl _ _) (by show a'.tmps.getD 12 undef = _; rw [inv.old 12 (notDst_spec (by kernel_rfl))]; rfl)
        · obtain rfl := Option.some.inj hi
          have h0 : a'.tmps.getD 77 undef = _ := pre_of hpre 0 77 (by kernel_rfl) (by kernel_rfl)
          exact st_value _ rfl rfl (eqe_run 77 rfl h0) (Below.refl _ _) rfl
        · obtain rfl := Option.some.inj hi
          have h0 : a'.tmps.getD 78 undef = _ := pre_of hpre 1 78 (by kernel_rfl) (by kernel_rfl)
          exact st_value _ rfl rfl rfl (Below.refl _ _) h0
        · obtain rfl := Option.some.inj hi
          have hgu : a'.tmps.getD 79 undef = _ := pre_of hpre 2 79 (by kernel_rfl) (by kernel_rfl)
          exact st_value _ rfl (wanted_of 2 79 rfl (by kernel_rfl) hgu) rfl (Below.refl _ _) (by show a'.tmps.getD 11 undef = _; rw [inv.old 11 (notDst_spec (by kernel_rfl))]; rfl)
        · obtain rfl := Option.some.inj hi
          have hgu : a'.tmps.getD 79 undef = _ := pre_of hpre 2 79 (by kernel_rfl) (by kernel_rfl)
          have h0 : a'.tmps.getD 80 undef = _ := pre_of hpre 3 80 (by kernel_rfl) (by kernel_rfl)
          exact st_value _ rfl (wanted_of 2 79 rfl (by kernel_rfl) hgu) (conv_run 80 rfl (by rw [h0]; exact bytesAt_below HVB.out hb)) (Below.refl _ _) rfl
        · obtain rfl := Option.some.inj hi
          have hgu : a'.tmps.getD 79 undef = _ := pre_of hpre 2 79 (by kernel_rfl) (by kernel_rfl)
          exact st_value _ rfl (wanted_of 2 79 rfl (by kernel_rfl) hgu) rfl (Below.refl _ _) (by show a'.tmps.getD 9 undef = _; rw [inv.old 9 (notDst_spec (by kernel_rfl))]; rfl)
        · obtain rfl := Option.some.inj hi
          have hgu : a'.tmps.getD 79 undef = _ := pre_of hpre 2 79 (by kernel_rfl) (by kernel_rfl)
          exact st_value _ rfl (wanted_of 2 79 rfl (by kernel_rfl) hgu) rfl (Below.refl _ _) (by show a'.tmps.getD 3 undef = _; rw [inv.old 3 (notDst_spec (by kernel_rfl))]; rfl)
        · obtain rfl := Option.some.inj hi
          have hgu : a'.tmps.getD 79 undef = _ := pre_of hpre 2 79 (by kernel_rfl) (by kernel_rfl)
          have h0 : a'.tmps.getD 82 undef = _ := pre_of hpre 5 82 (by kernel_rfl) (by kernel_rfl)
          have h1 : a'.tmps.getD 83 undef = _ := pre_of hpre 6 83 (by kernel_rfl) (by kernel_rfl)
          obtain ⟨v', hr, hv⟩ := own_cut_run (a' := a') 82 83 HO4.out HSS.out HSL.out (id hb) h0 h1 hM
          exact st_value v' rfl (wanted_of 2 79 rfl (by kernel_rfl) hgu) (hr _ rfl) (Below.refl _ _) (by show BytesAt _ _ _; rw [← HTK.out]; exact hv)
        · obtain rfl := Option.some.inj hi
          have hgu : a'.tmps.getD 79 undef = _ := pre_of hpre 2 79 (by kernel_rfl) (by kernel_rfl)
          have h0 := pre_of hpre 7 84 (by kernel_rfl) (by kernel_rfl)
          exact st_value _ rfl (wanted_of 2 79 rfl (by kernel_rfl) hgu) (conv_run 84 rfl h0) (Below.refl _ _) rfl
        · obtain rfl := Option.some.inj hi
          have hgu : a'.tmps.getD 79 undef = _ := pre_of hpre 2 79 (by kernel_rfl) (by kernel_rfl)
          have h0 : a'.tmps.getD 81 undef = _ := pre_of hpre 4 81 (by kernel_rfl) (by kernel_rfl)
          have h1 : a'.tmps.getD 85 undef = _ := pre_of hpre 8 85 (by kernel_rfl) (by kernel_rfl)
          exact st_value _ rfl (wanted_of 2 79 rfl (by kernel_rfl) hgu) (eq_run 81 85 rfl h0 h1) (Below.refl _ _) rfl
        · obtain rfl := Option.some.inj hi
          have h0 : a'.tmps.getD 79 undef = _ := pre_of hpre 2 79 (by kernel_rfl) (by kernel_rfl)
          have h1 : a'.tmps.getD 86 undef = _ := pre_of hpre 9 86 (by kernel_rfl) (by kernel_rfl)
          exact st_value _ rfl rfl (pick_step h0 h1 rfl) (Below.refl _ _) rfl
        · obtain rfl := Option.some.inj hi
          have h0 : a'.tmps.getD 87 undef = _ := pre_of hpre 10 87 (by kernel_rfl) (by kernel_rfl)
          exact st_value _ rfl rfl rfl (Below.refl _ _) h0
      · intro a' w' inv hd
        have h0 : a'.tmps.getD 8 undef = _ := hd 11 8 (by kernel_rfl)
        have hb : Below w4.heap.size w4 w' := inv.grow
        have hb7 : Below w.heap.size w w' := HB4.out.trans (hb.mono HB4.out.size)
        have hdf : a'.defers = [] := inv.defers
        clear inv hd hb
        go_wp2
        exact ⟨hdf, _, results_tmp rfl _ _ _, by rw [h0], hb7⟩
end Go.Proofs.YtnbdadhdpplldabDoor
