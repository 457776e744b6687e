/- ShaBytes at the empty slice, and where it answers at once. -/
import Derived.Test.YtnbdadhdpplldaaDoorBytes
namespace Go.Proofs.YtnbdadhdpplldaaDoor
open Go.RowKit
theorem bytesAt_none (w : World) (p : Option Addr) (c : Nat) : BytesAt w (.slice p 0 c) [] := ⟨(fun _ h => by cases h), .inl ⟨p, c, rfl, rfl⟩⟩
set_option maxHeartbeats 400000 in
theorem shaBytes_early (p : Option Addr) (n c : Nat) (at_ : Int) (w : World) (hT : Tab w) (hn : n ≤ 9223372036854775807) (h : 200 < n ∨ at_ < 0) :
    Calls Tryd.prog 7 #[.slice p n c, .int .i64 at_] w fun e w' => e = .returned (.bool true) ∧ Below w.heap.size w w' := by
  have HT : Hid (Tab w) := hT
  clear hT
  by_cases h1 : 200 < n
  · have n200 : (200 : Int) < (n : Int) := by omega
    go_enter Tryd.func7, Tryd.ntmps7
    go_wp2_with fail
    refine (anchor_any w HT.out).mono ?_
    rintro e w1 ⟨rfl, hb1⟩
    have HB1 : Hid _ := hb1
    clear hb1
    go_wp2_with fail
    go_ret
    exact ⟨rfl, HB1.out⟩
  · have n200 : ¬ (200 : Int) < (n : Int) := by omega
    have hat : at_ < 0 := by omega
    clear h
    go_enter Tryd.func7, Tryd.ntmps7
    go_wp2_with fail
    refine (anchor_any w HT.out).mono ?_
    rintro e w1 ⟨rfl, hb1⟩
    have HB1 : Hid _ := hb1
    clear hb1
    go_wp2_with fail
    go_ret
    exact ⟨rfl, HB1.out⟩
set_option maxHeartbeats 1000000 in
theorem shaBytes_empty (p : Option Addr) (at_ : Int) (w : World) (hT : Tab w) (h2 : 0 ≤ at_) (h3 : at_ ≤ 9223372036854775807) :
    Calls Tryd.prog 7 #[.slice p 0 0, .int .i64 at_] w fun e w' => e = .returned (.bool true) ∧ Below w.heap.size w w' := by
  have HT : Hid (Tab w) := hT
  clear hT
  have nat0 : ¬ at_ < 0 := by omega
  have hmod : at_ % 1 = 0 := by omega
  go_enter Tryd.func7, Tryd.ntmps7
  go_wp2_with fail
  refine (anchor_any w HT.out).mono ?_
  rintro e w1 ⟨rfl, hb1⟩
  have hsz1 := hb1.size
  have HB1 : Hid _ := hb1
  clear hb1
  go_wp2_with (go_at_call 12; refine (new_any _).mono ?_; rintro e w' ⟨rfl, rfl⟩)
  go_loopw [22, 7] (fun i _ wr => i = .int .i64 0 ∧ Hid (HashAt wr w1.heap.size []) ∧ Hid (HashAt wr (w1.heap.size + 1) []) ∧ Hid (Below w.heap.size w wr)) (fun _ _ _ => 0)
  case atStart =>
    refine ⟨rfl, ?_, ?_, ?_⟩
    · exact hashAt_below (hashAt_new w1) (Below.heap_alloc _ _ _ (by simp))
    · have := hashAt_new (w1.alloc (.cells hash0 47))
      show HashAt _ _ _
      simpa using this
    · exact ((HB1.out.alloc hsz1 _).alloc (by simp; omega) _)
  case round =>
    obtain ⟨rfl, HA, HC, HB⟩ := hrel
    go_wp2_with fail
    refine (write_any (w1.heap.size + 1) [] [] _ _ HC.out (bytesAt_none _ _ _) (fun h => absurd rfl h) (tab_below HT.out HB.out) (by omega) (by simp)).mono ?_
    rintro e w3 ⟨rfl, hC3, hg3⟩
    have hA3 := hashAt_grown HA.out hg3 (by omega)
    have hb3 : Below w.heap.size w w3 := below_grown HB.out hg3 HB.out.size (by omega)
    have HA3 : Hid _ := hA3
    have HC3 : Hid _ := hC3
    have HB3 : Hid _ := hb3
    clear hA3 hC3 hb3 hg3
    go_wp2_with fail
    refine (write_any (w1.heap.size + 1) [] [] _ _ HC3.out (bytesAt_none _ _ _) (fun h => absurd rfl h) (tab_below HT.out HB3.out) (by omega) (by simp)).mono ?_
    rintro e w4 ⟨rfl, hC4, hg4⟩
    have hA4 := hashAt_grown HA3.out hg4 (by omega)
    have hb4 : Below w.heap.size w w4 := below_grown HB3.out hg4 HB3.out.size (by omega)
    have HA4 : Hid (HashAt w4 w1.heap.size []) := hA4
    have HC4 : Hid (HashAt w4 (w1.heap.size + 1) []) := hC4
    have HB4 : Hid _ := hb4
    clear hA4 hC4 hb4 hg4
    go_wp2_with fail
    have hT4 := tab_below HT.out HB4.out
    have hX : BytesAt w4 (.slice p 0 0) [] := bytesAt_none _ _ _
    have hlt5 : ([] : List Nat).length < 576460752303423488 := by decide
    refine wp_region_inv (twoV w1.heap.size (w1.heap.size + 1) [] [] (.slice p 0 0) (.slice p 0 0)) (fun u u' => Below u.heap.size u u') (by kernel_rfl) ((Below.refl _ _).drew) below_trans' (twoV_kept _ _ _ _ _ _) (by kernel_rfl) ?_ ?_
    · intro i o a' w' hi inv hpre
      have hb : Below w4.heap.size w4 w' := inv.grow
      have hlt : i < 19 := (Array.getElem?_eq_some_iff.1 hi).1
      obtain rfl|rfl|rfl|rfl|rfl|rfl|rfl|rfl|rfl|rfl|rfl|rfl|rfl|rfl|rfl|rfl|rfl|rfl|rfl : i = 0 ∨ i = 1 ∨ i = 2 ∨ i = 3 ∨ i = 4 ∨ i = 5 ∨ i = 6 ∨ i = 7 ∨ i = 8 ∨ i = 9 ∨ i = 10 ∨ i = 11 ∨ i = 12 ∨ i = 13 ∨ i = 14 ∨ i = 15 ∨ i = 16 ∨ i = 17 ∨ i = 18 := by omega
      · obtain rfl := Option.some.inj hi
        exact st_value _ rfl rfl rfl (Below.refl _ _) (by show a'.tmps.getD 5 undef = _; rw [inv.old 5 (notDst_spec (by kernel_rfl))]; rfl)
      · obtain rfl := Option.some.inj hi
        have h0 : a'.tmps.getD 48 undef = _ := pre_of hpre 0 48 (by kernel_rfl) (by kernel_rfl)
        refine st_call 14 #[a'.tmps.getD 48 undef] rfl rfl (by kernel_rfl) ?_
        rw [h0]
        exact hsum_step HA4.out hT4 hlt5 hb
      · obtain rfl := Option.some.inj hi
        have h0 := pre_of hpre 1 49 (by kernel_rfl) (by kernel_rfl)
        exact st_value _ rfl rfl (conv_run 49 rfl h0) (Below.refl _ _) rfl
      · obtain rfl := Option.some.inj hi
        exact st_value _ rfl rfl rfl (Below.refl _ _) (by show a'.tmps.getD 0 undef = _; rw [inv.old 0 (notDst_spec (by kernel_rfl))]; rfl)
      · obtain rfl := Option.some.inj hi
        have h0 : a'.tmps.getD 51 undef = _ := pre_of hpre 3 51 (by kernel_rfl) (by kernel_rfl)
        refine st_value (.slice (some ⟨w'.heap.size, 0, none⟩) 1 1) rfl rfl (build_one 51 rfl h0) ((Below.refl _ _).alloc (Nat.le_refl _) _) ?_
        exact ⟨_, rfl, by rw [cell_of_row _ _ _ _ _ _ (heap_alloc_new w' _)]; rfl⟩
      · obtain rfl := Option.some.inj hi
        have h0 := pre_of hpre 4 52 (by kernel_rfl) (by kernel_rfl)
        refine st_call 10 #[a'.tmps.getD 52 undef] rfl rfl (by kernel_rfl) ?_
        exact sum1_step hX hT4 hlt5 hb h0
      · obtain rfl := Option.some.inj hi
        have h0 := pre_of hpre 5 53 (by kernel_rfl) (by kernel_rfl)
        exact st_value _ rfl rfl (conv_run 53 rfl h0) (Below.refl _ _) rfl
      · obtain rfl := Option.some.inj hi
        have h0 : a'.tmps.getD 50 undef = _ := pre_of hpre 2 50 (by kernel_rfl) (by kernel_rfl)
        have h1 : a'.tmps.getD 54 undef = _ := pre_of hpre 6 54 (by kernel_rfl) (by kernel_rfl)
        exact st_value (.bool true) rfl rfl (eq_run 50 54 rfl h0 h1) (Below.refl _ _) rfl
      · obtain rfl := Option.some.inj hi
        have h0 : a'.tmps.getD 55 undef = _ := pre_of hpre 7 55 (by kernel_rfl) (by kernel_rfl)
        exact st_value _ rfl rfl rfl (Below.refl _ _) h0
      · obtain rfl := Option.some.inj hi
        have h8 : a'.tmps.getD 56 undef = _ := pre_of hpre 8 56 (by kernel_rfl) (by kernel_rfl)
        exact st_value _ rfl (wanted_of 8 56 rfl (by kernel_rfl) h8) rfl (Below.refl _ _) (by show a'.tmps.getD 6 undef = _; rw [inv.old 6 (notDst_spec (by kernel_rfl))]; rfl)
      · obtain rfl := Option.some.inj hi
        have h8 : a'.tmps.getD 56 undef = _ := pre_of hpre 8 56 (by kernel_rfl) (by kernel_rfl)
        have h0 : a'.tmps.getD 57 undef = _ := pre_of hpre 9 57 (by kernel_rfl) (by kernel_rfl)
        refine st_call 14 #[a'.tmps.getD 57 undef] rfl (wanted_of 8 56 rfl (by kernel_rfl) h8) (by kernel_rfl) ?_
        rw [h0]
        exact hsum_step HC4.out hT4 hlt5 hb
      · obtain rfl := Option.some.inj hi
        have h8 : a'.tmps.getD 56 undef = _ := pre_of hpre 8 56 (by kernel_rfl) (by kernel_rfl)
        have h0 := pre_of hpre 10 58 (by kernel_rfl) (by kernel_rfl)
        exact st_value _ rfl (wanted_of 8 56 rfl (by kernel_rfl) h8) (conv_run 58 rfl h0) (Below.refl _ _) rfl
      · obtain rfl := Option.some.inj hi
        have h8 : a'.tmps.getD 56 undef = _ := pre_of hpre 8 56 (by kernel_rfl) (by kernel_rfl)
        exact st_value _ rfl (wanted_of 8 56 rfl (by kernel_rfl) h8) rfl (Below.refl _ _) (by show a'.tmps.getD 0 undef = _; rw [inv.old 0 (notDst_spec (by kernel_rfl))]; rfl)
      · obtain rfl := Option.some.inj hi
        have h8 : a'.tmps.getD 56 undef = _ := pre_of hpre 8 56 (by kernel_rfl) (by kernel_rfl)
        have h0 : a'.tmps.getD 60 undef = _ := pre_of hpre 12 60 (by kernel_rfl) (by kernel_rfl)
        refine st_value (.slice (some ⟨w'.heap.size, 0, none⟩) 1 1) rfl (wanted_of 8 56 rfl (by kernel_rfl) h8) (build_one 60 rfl h0) ((Below.refl _ _).alloc (Nat.le_refl _) _) ?_
        exact ⟨_, rfl, by rw [cell_of_row _ _ _ _ _ _ (heap_alloc_new w' _)]; rfl⟩
      · obtain rfl := Option.some.inj hi
        have h8 : a'.tmps.getD 56 undef = _ := pre_of hpre 8 56 (by kernel_rfl) (by kernel_rfl)
        have h0 := pre_of hpre 13 61 (by kernel_rfl) (by kernel_rfl)
        refine st_call 10 #[a'.tmps.getD 61 undef] rfl (wanted_of 8 56 rfl (by kernel_rfl) h8) (by kernel_rfl) ?_
        exact sum1_step hX hT4 hlt5 hb h0
      · obtain rfl := Option.some.inj hi
        have h8 : a'.tmps.getD 56 undef = _ := pre_of hpre 8 56 (by kernel_rfl) (by kernel_rfl)
        have h0 := pre_of hpre 14 62 (by kernel_rfl) (by kernel_rfl)
        exact st_value _ rfl (wanted_of 8 56 rfl (by kernel_rfl) h8) (conv_run 62 rfl h0) (Below.refl _ _) rfl
      · obtain rfl := Option.some.inj hi
        have h8 : a'.tmps.getD 56 undef = _ := pre_of hpre 8 56 (by kernel_rfl) (by kernel_rfl)
        have h0 : a'.tmps.getD 59 undef = _ := pre_of hpre 11 59 (by kernel_rfl) (by kernel_rfl)
        have h1 : a'.tmps.getD 63 undef = _ := pre_of hpre 15 63 (by kernel_rfl) (by kernel_rfl)
        exact st_value (.bool true) rfl (wanted_of 8 56 rfl (by kernel_rfl) h8) (eq_run 59 63 rfl h0 h1) (Below.refl _ _) rfl
      · obtain rfl := Option.some.inj hi
        have h0 : a'.tmps.getD 56 undef = _ := pre_of hpre 8 56 (by kernel_rfl) (by kernel_rfl)
        have h1 : a'.tmps.getD 64 undef = _ := pre_of hpre 16 64 (by kernel_rfl) (by kernel_rfl)
        exact st_value (.bool true) rfl rfl (pick_step h0 h1 rfl) (Below.refl _ _) rfl
      · obtain rfl := Option.some.inj hi
        have h0 : a'.tmps.getD 65 undef = _ := pre_of hpre 17 65 (by kernel_rfl) (by kernel_rfl)
        exact st_value _ rfl rfl rfl (Below.refl _ _) h0
    · intro a' w' inv hd
      have h0 : a'.tmps.getD 4 undef = _ := hd 18 4 (by kernel_rfl)
      have hb : Below w4.heap.size w4 w' := inv.grow
      have hb5 : Below w.heap.size w w' := HB4.out.trans (hb.mono HB4.out.size)
      have hdf : a'.defers = [] := inv.defers
      clear inv hd hb
      go_wp2
      exact ⟨hdf, _, results_tmp rfl _ _ _, by rw [h0], hb5⟩
end Go.Proofs.YtnbdadhdpplldaaDoor
