/- The walk of ChachaBlocks. -/
import Derived.Test.YtnbdadhdpplldacInv2
namespace Go.Proofs.Ytnbdadhdpplldac
open Go.RowKit
set_option maxHeartbeats 400000 in
theorem blocks_size1 (p q : Option Addr) (n c m d : Nat) (z : Int) (w : World) (h : n ≠ 32) :
    Calls Try.prog 3 #[.slice p n c, .int .i64 z, .slice q m d] w fun e w' => e = .returned (.bool true) ∧ Below w.heap.size w w' := by
  have HX : Hid (∀ w, Calls Try.prog 10 #[.slice p n c, .int .i64 z, .slice q m d] w fun e' w' => e' = .returned (.tuple #[.slice none 0 0, .int .i64 11]) ∧ w' = w) := fun w => Block_bad p q n c m d z 11 w (.inl ⟨.inl h, rfl⟩)
  have h1 : ¬ (n : Int) = 32 := by omega
  go_enter Try.func3, Try.ntmps3
  go_wp2_with fail
  refine (anchor_any w).mono ?_
  rintro e w1 ⟨rfl, hb1⟩
  have HB1 : Hid (Below w.heap.size w w1) := hb1
  clear hb1
  go_wp2_with fail
  refine (HX.out w1).mono ?_
  rintro e w2 ⟨rfl, rfl⟩
  go_wp2_with fail
  go_ret
  exact ⟨rfl, HB1.out⟩
set_option maxHeartbeats 400000 in
theorem blocks_size2 (p q : Option Addr) (c m d : Nat) (z : Int) (w : World) (h : m ≠ 12) :
    Calls Try.prog 3 #[.slice p 32 c, .int .i64 z, .slice q m d] w fun e w' => e = .returned (.bool true) ∧ Below w.heap.size w w' := by
  have HX : Hid (∀ w, Calls Try.prog 10 #[.slice p 32 c, .int .i64 z, .slice q m d] w fun e' w' => e' = .returned (.tuple #[.slice none 0 0, .int .i64 11]) ∧ w' = w) := fun w => Block_bad p q 32 c m d z 11 w (.inl ⟨.inr h, rfl⟩)
  have h1 : ¬ (m : Int) = 12 := by omega
  go_enter Try.func3, Try.ntmps3
  go_wp2_with fail
  refine (anchor_any w).mono ?_
  rintro e w1 ⟨rfl, hb1⟩
  have HB1 : Hid (Below w.heap.size w w1) := hb1
  clear hb1
  go_wp2_with fail
  refine (HX.out w1).mono ?_
  rintro e w2 ⟨rfl, rfl⟩
  go_wp2_with fail
  go_ret
  exact ⟨rfl, HB1.out⟩
set_option maxHeartbeats 400000 in
theorem blocks_range1 (p q : Option Addr) (c d : Nat) (z : Int) (w : World) (h : z < 0) :
    Calls Try.prog 3 #[.slice p 32 c, .int .i64 z, .slice q 12 d] w fun e w' => e = .returned (.bool true) ∧ Below w.heap.size w w' := by
  have HX : Hid (∀ w, Calls Try.prog 10 #[.slice p 32 c, .int .i64 z, .slice q 12 d] w fun e' w' => e' = .returned (.tuple #[.slice none 0 0, .int .i64 12]) ∧ w' = w) := fun w => Block_bad p q 32 c 12 d z 12 w (.inr ⟨rfl, rfl, .inl h, rfl⟩)
  go_enter Try.func3, Try.ntmps3
  go_wp2_with fail
  refine (anchor_any w).mono ?_
  rintro e w1 ⟨rfl, hb1⟩
  have HB1 : Hid (Below w.heap.size w w1) := hb1
  clear hb1
  go_wp2_with fail
  refine (HX.out w1).mono ?_
  rintro e w2 ⟨rfl, rfl⟩
  go_wp2_with fail
  go_ret
  exact ⟨rfl, HB1.out⟩
set_option maxHeartbeats 400000 in
theorem blocks_range2 (p q : Option Addr) (c d : Nat) (z : Int) (w : World) (h : 4294967295 < z) :
    Calls Try.prog 3 #[.slice p 32 c, .int .i64 z, .slice q 12 d] w fun e w' => e = .returned (.bool true) ∧ Below w.heap.size w w' := by
  have HX : Hid (∀ w, Calls Try.prog 10 #[.slice p 32 c, .int .i64 z, .slice q 12 d] w fun e' w' => e' = .returned (.tuple #[.slice none 0 0, .int .i64 12]) ∧ w' = w) := fun w => Block_bad p q 32 c 12 d z 12 w (.inr ⟨rfl, rfl, .inr h, rfl⟩)
  have h0 : ¬ z < 0 := by omega
  go_enter Try.func3, Try.ntmps3
  go_wp2_with fail
  refine (anchor_any w).mono ?_
  rintro e w1 ⟨rfl, hb1⟩
  have HB1 : Hid (Below w.heap.size w w1) := hb1
  clear hb1
  go_wp2_with fail
  refine (HX.out w1).mono ?_
  rintro e w2 ⟨rfl, rfl⟩
  go_wp2_with fail
  go_ret
  exact ⟨rfl, HB1.out⟩
def blocksV (x0 : Value) (x1 : Value) (x2 : Value) (b : Value) (B : List Nat) : Nat → Value → World → Prop
  | 0 => IsV (.int .i64 0)
  | 1 => IsV (.bool true)
  | 2 => IsV (.bool true)
  | 3 => IsV b
  | 4 => StrV B
  | 5 => IsV x0
  | 6 => IsV x1
  | 7 => IsV x2
  | 8 => RowV B
  | 9 => StrV B
  | 10 => IsV (.bool true)
  | 11 => IsV (.bool true)
  | 12 => IsV (.bool true)
  | _ => fun _ _ => True
theorem blocksV_kept (x0 : Value) (x1 : Value) (x2 : Value) (b : Value) (B : List Nat) : ∀ i v w w', blocksV x0 x1 x2 b B i v w → Below w.heap.size w w' → blocksV x0 x1 x2 b B i v w'
  | 0, _, _, _, h, _ => h
  | 1, _, _, _, h, _ => h
  | 2, _, _, _, h, _ => h
  | 3, _, _, _, h, _ => h
  | 4, _, _, _, h, _ => h
  | 5, _, _, _, h, _ => h
  | 6, _, _, _, h, _ => h
  | 7, _, _, _, h, _ => h
  | 8, _, _, _, h, hb => RowV.kept h hb
  | 9, _, _, _, h, _ => h
  | 10, _, _, _, h, _ => h
  | 11, _, _, _, h, _ => h
  | 12, _, _, _, h, _ => h
  | _ + 13, _, _, _, _, _ => trivial
set_option maxHeartbeats 1000000 in
theorem blocks_any (key nonce : List Nat) (bk ok ck bn on cn c : Nat) (w : World) (hk : key.length = 32) (hn : nonce.length = 12) (hK : SliceIs w bk ok key) (hN : SliceIs w bn on nonce) (hc : c < 4294967296) (hck : 32 ≤ ck) (hcn : 12 ≤ cn) :
    Calls Try.prog 3 #[.slice (some ⟨bk, ok, none⟩) 32 ck, .int .i64 c, .slice (some ⟨bn, on, none⟩) 12 cn] w fun e w' => e = .returned (.bool true) ∧ Below w.heap.size w w' := by
  have HX : Hid (∀ w1, Below w.heap.size w w1 → Calls Try.prog 10 #[.slice (some ⟨bk, ok, none⟩) 32 ck, .int .i64 c, .slice (some ⟨bn, on, none⟩) 12 cn] w1 fun e w' => ∃ g, e = .returned (.tuple #[.slice (some ⟨g, 0, none⟩) 64 64, .int .i64 0]) ∧ w1.heap.size ≤ g ∧ ArAt w' g (Ch.blockOf key c nonce) ∧ Below w1.heap.size w1 w') := fun w1 hb => Block_ok key nonce bk ok ck bn on cn c w1 hk hn (hK.below hb) (hN.below hb) hc hck hcn
  have HY : Hid (∀ w1, Below w.heap.size w w1 → Calls Try.prog 11 #[.slice (some ⟨bk, ok, none⟩) 32 ck, .int .i64 c, .slice (some ⟨bn, on, none⟩) 12 cn] w1 fun e w' => ∃ g cp, e = .returned (.slice (some ⟨g, 0, none⟩) 64 cp) ∧ w1.heap.size ≤ g ∧ 64 ≤ cp ∧ w'.rangeAt g 0 (ints .u8 (Ch.blockOf key c nonce)) ∧ Below w1.heap.size w1 w') := fun w1 hb => rblock_any key nonce bk ok ck bn on cn c w1 hk hn (hK.below hb) (hN.below hb) hc
  have HL : Hid ((Ch.blockOf key c nonce).length = 64) := Ch.block_length _
  generalize Ch.blockOf key c nonce = B at *
  clear hk hn hK hN
  have c0 : ¬ (c : Int) < 0 := by omega
  have c1 : ¬ 4294967295 < (c : Int) := by omega
  go_enter Try.func3, Try.ntmps3
  go_wp2_with fail
  refine (anchor_any w).mono ?_
  rintro e w1 ⟨rfl, hb1⟩
  have HB1 : Hid (Below w.heap.size w w1) := hb1
  clear hb1
  go_wp2_with fail
  refine (HX.out w1 HB1.out).mono ?_
  rintro e w2 ⟨g, rfl, hg, hA, hb2⟩
  have HB2 : Hid (Below w.heap.size w w2) := HB1.out.trans (hb2.mono HB1.out.size)
  have HA : Hid (ArAt w2 g B) := hA
  clear hg hA hb2 HB1 HX
  have HYS : Hid (∀ w', Below w2.heap.size w2 w' → Calls Try.prog 11 #[.slice (some ⟨bk, ok, none⟩) 32 ck, .int .i64 c, .slice (some ⟨bn, on, none⟩) 12 cn] w' fun e w3 => ∃ v, e = .returned v ∧ Below w'.heap.size w' w3 ∧ RowV B v w3) := fun w' hb => by
    refine (HY.out w' (HB2.out.trans (hb.mono HB2.out.size))).mono ?_
    rintro e w3 ⟨g3, cp, rfl, _, _, hr, hb3⟩
    exact ⟨_, rfl, hb3, .inl ⟨g3, 0, cp, by rw [HL.out], hr⟩⟩
  go_wp2_with fail
  have HV : RowV B (.slice (some ⟨g, 0, none⟩) 64 64) w2 := .inl ⟨g, 0, 64, by rw [HL.out], rangeAt_of_row HA.out⟩
  refine wp_region_inv (blocksV (.slice (some ⟨bk, ok, none⟩) 32 ck) (.int .i64 c) (.slice (some ⟨bn, on, none⟩) 12 cn) (.slice (some ⟨g, 0, none⟩) 64 64) B) (fun u u' => Below u.heap.size u u') (by kernel_rfl) ((Below.refl _ _).drew) below_trans' (blocksV_kept _ _ _ _ _) (by kernel_rfl) ?_ ?_
  · intro i o a' w' hi inv hpre
    have hb : Below w2.heap.size w2 w' := inv.grow
    have hlt : i < 13 := (Array.getElem?_eq_some_iff.1 hi).1
    obtain rfl|rfl|rfl|rfl|rfl|rfl|rfl|rfl|rfl|rfl|rfl|rfl|rfl : i = 0 ∨ i = 1 ∨ i = 2 ∨ i = 3 ∨ i = 4 ∨ i = 5 ∨ i = 6 ∨ i = 7 ∨ i = 8 ∨ i = 9 ∨ i = 10 ∨ i = 11 ∨ i = 12 := by omega
    · obtain rfl := Option.some.inj hi
      exact st_value _ rfl rfl rfl (Below.refl _ _) (by show a'.tmps.getD 8 undef = _; rw [inv.old 8 (notDst_spec (by kernel_rfl))]; rfl)
    · obtain rfl := Option.some.inj hi
      have h0 : a'.tmps.getD 46 undef = _ := pre_of hpre 0 46 (by kernel_rfl) (by kernel_rfl)
      exact st_value (.bool true) rfl rfl (eqe_run 46 rfl h0) (Below.refl _ _) rfl
    · obtain rfl := Option.some.inj hi
      have h0 : a'.tmps.getD 47 undef = _ := pre_of hpre 1 47 (by kernel_rfl) (by kernel_rfl)
      exact st_value _ rfl rfl rfl (Below.refl _ _) h0
    · obtain rfl := Option.some.inj hi
      have hgu : a'.tmps.getD 48 undef = _ := pre_of hpre 2 48 (by kernel_rfl) (by kernel_rfl)
      exact st_value _ rfl (wanted_of 2 48 rfl (by kernel_rfl) hgu) rfl (Below.refl _ _) (by show a'.tmps.getD 7 undef = _; rw [inv.old 7 (notDst_spec (by kernel_rfl))]; rfl)
    · obtain rfl := Option.some.inj hi
      have hgu : a'.tmps.getD 48 undef = _ := pre_of hpre 2 48 (by kernel_rfl) (by kernel_rfl)
      have h0 : a'.tmps.getD 49 undef = _ := pre_of hpre 3 49 (by kernel_rfl) (by kernel_rfl)
      have hv : RowV B (a'.tmps.getD 49 undef) w' := by rw [h0]; exact (HV).kept hb
      exact st_value _ rfl (wanted_of 2 48 rfl (by kernel_rfl) hgu) (conv_run 49 rfl hv) (Below.refl _ _) rfl
    · obtain rfl := Option.some.inj hi
      have hgu : a'.tmps.getD 48 undef = _ := pre_of hpre 2 48 (by kernel_rfl) (by kernel_rfl)
      exact st_value _ rfl (wanted_of 2 48 rfl (by kernel_rfl) hgu) rfl (Below.refl _ _) (by show a'.tmps.getD 0 undef = _; rw [inv.old 0 (notDst_spec (by kernel_rfl))]; rfl)
    · obtain rfl := Option.some.inj hi
      have hgu : a'.tmps.getD 48 undef = _ := pre_of hpre 2 48 (by kernel_rfl) (by kernel_rfl)
      exact st_value _ rfl (wanted_of 2 48 rfl (by kernel_rfl) hgu) rfl (Below.refl _ _) (by show a'.tmps.getD 1 undef = _; rw [inv.old 1 (notDst_spec (by kernel_rfl))]; rfl)
    · obtain rfl := Option.some.inj hi
      have hgu : a'.tmps.getD 48 undef = _ := pre_of hpre 2 48 (by kernel_rfl) (by kernel_rfl)
      exact st_value _ rfl (wanted_of 2 48 rfl (by kernel_rfl) hgu) rfl (Below.refl _ _) (by show a'.tmps.getD 2 undef = _; rw [inv.old 2 (notDst_spec (by kernel_rfl))]; rfl)
    · obtain rfl := Option.some.inj hi
      have hgu : a'.tmps.getD 48 undef = _ := pre_of hpre 2 48 (by kernel_rfl) (by kernel_rfl)
      have h0 : a'.tmps.getD 51 undef = _ := pre_of hpre 5 51 (by kernel_rfl) (by kernel_rfl)
      have h1 : a'.tmps.getD 52 undef = _ := pre_of hpre 6 52 (by kernel_rfl) (by kernel_rfl)
      have h2 : a'.tmps.getD 53 undef = _ := pre_of hpre 7 53 (by kernel_rfl) (by kernel_rfl)
      refine st_call 11 #[a'.tmps.getD 51 undef, a'.tmps.getD 52 undef, a'.tmps.getD 53 undef] rfl (wanted_of 2 48 rfl (by kernel_rfl) hgu) (by kernel_rfl) ?_
      rw [h0, h1, h2]
      exact HYS.out _ hb
    · obtain rfl := Option.some.inj hi
      have hgu : a'.tmps.getD 48 undef = _ := pre_of hpre 2 48 (by kernel_rfl) (by kernel_rfl)
      have h0 := pre_of hpre 8 54 (by kernel_rfl) (by kernel_rfl)
      exact st_value _ rfl (wanted_of 2 48 rfl (by kernel_rfl) hgu) (conv_run 54 rfl h0) (Below.refl _ _) rfl
    · obtain rfl := Option.some.inj hi
      have hgu : a'.tmps.getD 48 undef = _ := pre_of hpre 2 48 (by kernel_rfl) (by kernel_rfl)
      have h0 : a'.tmps.getD 50 undef = _ := pre_of hpre 4 50 (by kernel_rfl) (by kernel_rfl)
      have h1 : a'.tmps.getD 55 undef = _ := pre_of hpre 9 55 (by kernel_rfl) (by kernel_rfl)
      exact st_value (.bool true) rfl (wanted_of 2 48 rfl (by kernel_rfl) hgu) (eq_run 50 55 rfl h0 h1) (Below.refl _ _) rfl
    · obtain rfl := Option.some.inj hi
      have h0 : a'.tmps.getD 48 undef = _ := pre_of hpre 2 48 (by kernel_rfl) (by kernel_rfl)
      have h1 : a'.tmps.getD 56 undef = _ := pre_of hpre 10 56 (by kernel_rfl) (by kernel_rfl)
      exact st_value (.bool true) rfl rfl (pick_step h0 h1 rfl) (Below.refl _ _) rfl
    · obtain rfl := Option.some.inj hi
      have h0 : a'.tmps.getD 57 undef = _ := pre_of hpre 11 57 (by kernel_rfl) (by kernel_rfl)
      exact st_value _ rfl rfl rfl (Below.refl _ _) h0
  · intro a' w' inv hd
    have h0 : a'.tmps.getD 6 undef = _ := hd 12 6 (by kernel_rfl)
    have hb : Below w2.heap.size w2 w' := inv.grow
    have hb7 : Below w.heap.size w w' := HB2.out.trans (hb.mono HB2.out.size)
    have hdf : a'.defers = [] := inv.defers
    clear inv hd hb
    go_wp2
    exact ⟨hdf, _, results_tmp rfl _ _ _, by rw [h0], hb7⟩
end Go.Proofs.Ytnbdadhdpplldac
