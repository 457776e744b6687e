/- The walk of MacLong. -/
import Derived.Test.YtnbdadhdpplldabDoorSteps
namespace Go.Proofs.YtnbdadhdpplldabDoor
open Go.RowKit
set_option maxHeartbeats 400000 in
theorem long_early (p q : Option Addr) (n c m d : Nat) (w : World) (hT : Tab w) (h : n ≤ 64 ∨ 300 < n ∨ 200 < m) :
    Calls Tryd.prog 7 #[.slice p n c, .slice q m d] w fun e w' => e = .returned (.bool true) ∧ Below w.heap.size w w' := by
  have HT : Hid (Tab w) := hT
  have HH : Hid (n ≤ 64 ∨ 300 < n ∨ 200 < m) := h
  clear hT h
  go_enter Tryd.func7, Tryd.ntmps7
  go_wp2_with fail
  refine (anchor_any w HT.out).mono ?_
  rintro e w1 ⟨rfl, hb1⟩
  have HB1 : Hid (Below w.heap.size w w1) := hb1
  clear hb1
  go_wp2_with fail
  all_goals first | (exfalso; have := HH.out; omega) | (go_ret; exact ⟨rfl, HB1.out⟩)
def longV (x : Value) (y : Value) (key : List Nat) (m : List Nat) : Nat → Value → World → Prop
  | 0 => IsV x
  | 1 => IsV y
  | 2 => PartsV [y]
  | 3 => BV (Mk.code key m)
  | 4 => StrV (Mk.code key m)
  | 5 => IsV x
  | 6 => BV (Sp.sum key)
  | 7 => IsV y
  | 8 => PartsV [y]
  | 9 => BV (Mk.code key m)
  | 10 => StrV (Mk.code key m)
  | 11 => IsV (.bool true)
  | 12 => IsV (.bool true)
  | _ => fun _ _ => True
theorem longV_kept (x : Value) (y : Value) (key : List Nat) (m : List Nat) : ∀ i v w w', longV x y key m i v w → Below w.heap.size w w' → longV x y key m i v w'
  | 0, _, _, _, h, _ => h
  | 1, _, _, _, h, _ => h
  | 2, _, _, _, h, hb => PartsV.kept h hb
  | 3, _, _, _, h, hb => BV.kept h hb
  | 4, _, _, _, h, _ => h
  | 5, _, _, _, h, _ => h
  | 6, _, _, _, h, hb => BV.kept h hb
  | 7, _, _, _, h, _ => h
  | 8, _, _, _, h, hb => PartsV.kept h hb
  | 9, _, _, _, h, hb => BV.kept h hb
  | 10, _, _, _, h, _ => h
  | 11, _, _, _, h, _ => h
  | 12, _, _, _, h, _ => h
  | _ + 13, _, _, _, _, _ => trivial
set_option maxHeartbeats 1000000 in
theorem long_any (key m : List Nat) (p q : Option Addr) (n c k d : Nat) (w : World) (hT : Tab w) (hK : BytesAt w (.slice p n c) key) (hM : BytesAt w (.slice q k d) m) (hn : 64 < n) (hn3 : n ≤ 300) (hm2 : k ≤ 200) :
    Calls Tryd.prog 7 #[.slice p n c, .slice q k d] w fun e w' => e = .returned (.bool true) ∧ Below w.heap.size w w' := by
  have HT : Hid (Tab w) := hT
  have HK : Hid (BytesAt w (.slice p n c) key) := hK
  have HM : Hid (BytesAt w (.slice q k d) m) := hM
  have hkl : key.length = n := (bytesAt_src hK).1
  have hml : m.length = k := (bytesAt_src hM).1
  have HKL : Hid (key.length = n) := hkl
  have HML : Hid (m.length = k) := hml
  clear hT hK hM hkl hml
  have n1 : ¬ (n : Int) ≤ 64 := by omega
  have n2 : ¬ (300 : Int) < (n : Int) := by omega
  have n3 : ¬ (200 : Int) < (k : Int) := by omega
  go_enter Tryd.func7, Tryd.ntmps7
  go_wp2_with fail
  refine (anchor_any w HT.out).mono ?_
  rintro e w1 ⟨rfl, hb1⟩
  have HB1 : Hid (Below w.heap.size w w1) := hb1
  clear hb1
  go_wp2_with fail
  have HVX := bytesAt_below HK.out HB1.out
  have HVY := bytesAt_below HM.out HB1.out
  have hT1 := tab_below HT.out HB1.out
  have hkn : key.length ≤ 100000 := by rw [HKL.out]; omega
  have hmn : m.length ≤ 1000000 := by rw [HML.out]; omega
  have hk1 : key.length ≤ 1000 := by rw [HKL.out]; omega
  have hk64 : 64 < key.length := by rw [HKL.out]; exact hn
  have hk0 : key ≠ [] := by intro e; rw [e] at hk64; simp at hk64
  refine wp_region_inv (longV (.slice p n c) (.slice q k d) key m) (fun u u' => Below u.heap.size u u') (by kernel_rfl) ((Below.refl _ _).drew) below_trans' (longV_kept _ _ _ _) (by kernel_rfl) ?_ ?_
  · intro i o a' w' hi inv hpre
    have hb : Below w1.heap.size w1 w' := inv.grow
    have hlt : i < 13 := (Array.getElem?_eq_some_iff.1 hi).1
    obtain rfl|rfl|rfl|rfl|rfl|rfl|rfl|rfl|rfl|rfl|rfl|rfl|rfl : i = 0 ∨ i = 1 ∨ i = 2 ∨ i = 3 ∨ i = 4 ∨ i = 5 ∨ i = 6 ∨ i = 7 ∨ i = 8 ∨ i = 9 ∨ i = 10 ∨ i = 11 ∨ i = 12 := by omega
    · obtain rfl := Option.some.inj hi
      exact st_value _ rfl rfl rfl (Below.refl _ _) (by show a'.tmps.getD 0 undef = _; rw [inv.old 0 (notDst_spec (by kernel_rfl))]; rfl)
    · obtain rfl := Option.some.inj hi
      exact st_value _ rfl rfl rfl (Below.refl _ _) (by show a'.tmps.getD 1 undef = _; rw [inv.old 1 (notDst_spec (by kernel_rfl))]; rfl)
    · obtain rfl := Option.some.inj hi
      have h0 : a'.tmps.getD 21 undef = _ := pre_of hpre 1 21 (by kernel_rfl) (by kernel_rfl)
      refine st_value (.slice (some ⟨w'.heap.size, 0, none⟩) 1 1) rfl rfl (build1_run 21 rfl h0) ((Below.refl _ _).alloc (Nat.le_refl _) _) ?_
      exact ⟨_, rfl, rangeAt_of_row (heap_alloc_new w' _)⟩
    · obtain rfl := Option.some.inj hi
      have h0 := pre_of hpre 0 20 (by kernel_rfl) (by kernel_rfl)
      have h1 := pre_of hpre 2 22 (by kernel_rfl) (by kernel_rfl)
      refine st_call 11 #[a'.tmps.getD 20 undef, a'.tmps.getD 22 undef] rfl rfl (by kernel_rfl) ?_
      exact code1_step (tab_below hT1 hb) (by rw [h0]; exact bytesAt_below HVX hb) h1 (bytesAt_below HVY hb) hkn hmn
    · obtain rfl := Option.some.inj hi
      have h0 := pre_of hpre 3 23 (by kernel_rfl) (by kernel_rfl)
      exact st_value _ rfl rfl (conv_run 23 rfl h0) (Below.refl _ _) rfl
    · obtain rfl := Option.some.inj hi
      exact st_value _ rfl rfl rfl (Below.refl _ _) (by show a'.tmps.getD 0 undef = _; rw [inv.old 0 (notDst_spec (by kernel_rfl))]; rfl)
    · obtain rfl := Option.some.inj hi
      have h0 := pre_of hpre 5 25 (by kernel_rfl) (by kernel_rfl)
      refine st_call 16 #[a'.tmps.getD 25 undef] rfl rfl (by kernel_rfl) ?_
      exact rsum_step (by rw [h0]; exact bytesAt_below HVX hb) hk0 hk1
    · obtain rfl := Option.some.inj hi
      exact st_value _ rfl rfl rfl (Below.refl _ _) (by show a'.tmps.getD 1 undef = _; rw [inv.old 1 (notDst_spec (by kernel_rfl))]; rfl)
    · obtain rfl := Option.some.inj hi
      have h0 : a'.tmps.getD 27 undef = _ := pre_of hpre 7 27 (by kernel_rfl) (by kernel_rfl)
      refine st_value (.slice (some ⟨w'.heap.size, 0, none⟩) 1 1) rfl rfl (build1_run 27 rfl h0) ((Below.refl _ _).alloc (Nat.le_refl _) _) ?_
      exact ⟨_, rfl, rangeAt_of_row (heap_alloc_new w' _)⟩
    · obtain rfl := Option.some.inj hi
      have h0 := pre_of hpre 6 26 (by kernel_rfl) (by kernel_rfl)
      have h1 := pre_of hpre 8 28 (by kernel_rfl) (by kernel_rfl)
      refine st_call 11 #[a'.tmps.getD 26 undef, a'.tmps.getD 28 undef] rfl rfl (by kernel_rfl) ?_
      exact (by have h := code1_step (tab_below hT1 hb) h0 h1 (bytesAt_below HVY hb) (by rw [sum_length]; decide) hmn; rw [Mk.code_long hk64 m] at h; exact h)
    · obtain rfl := Option.some.inj hi
      have h0 := pre_of hpre 9 29 (by kernel_rfl) (by kernel_rfl)
      exact st_value _ rfl rfl (conv_run 29 rfl h0) (Below.refl _ _) rfl
    · obtain rfl := Option.some.inj hi
      have h0 : a'.tmps.getD 24 undef = _ := pre_of hpre 4 24 (by kernel_rfl) (by kernel_rfl)
      have h1 : a'.tmps.getD 30 undef = _ := pre_of hpre 10 30 (by kernel_rfl) (by kernel_rfl)
      exact st_value (.bool true) rfl rfl (eq_run 24 30 rfl h0 h1) (Below.refl _ _) rfl
    · obtain rfl := Option.some.inj hi
      have h0 : a'.tmps.getD 31 undef = _ := pre_of hpre 11 31 (by kernel_rfl) (by kernel_rfl)
      exact st_value _ rfl rfl rfl (Below.refl _ _) h0
  · intro a' w' inv hd
    have h0 : a'.tmps.getD 4 undef = _ := hd 12 4 (by kernel_rfl)
    have hb : Below w1.heap.size w1 w' := inv.grow
    have hb7 : Below w.heap.size w w' := HB1.out.trans (hb.mono HB1.out.size)
    have hdf : a'.defers = [] := inv.defers
    clear inv hd hb
    go_wp2
    exact ⟨hdf, _, results_tmp rfl _ _ _, by rw [h0], hb7⟩
end Go.Proofs.YtnbdadhdpplldabDoor
