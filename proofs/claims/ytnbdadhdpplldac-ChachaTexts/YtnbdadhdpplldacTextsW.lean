/- The walk of ChachaTexts. -/
import Derived.Test.YtnbdadhdpplldacRefX
namespace Go.Proofs.Ytnbdadhdpplldac
open Go.RowKit
set_option maxHeartbeats 400000 in
theorem texts_early (p q r : Option Addr) (n c m d l f : Nat) (z : Int) (w : World) (h : 400 < l) :
    Calls Try.prog 4 #[.slice p n c, .int .i64 z, .slice q m d, .slice r l f] w fun e w' => e = .returned (.bool true) ∧ Below w.heap.size w w' := by
  have h1 : (400 : Int) < (l : Int) := by omega
  go_enter Try.func4, Try.ntmps4
  go_wp2_with fail
  refine (anchor_any w).mono ?_
  rintro e w1 ⟨rfl, hb1⟩
  have HB1 : Hid (Below w.heap.size w w1) := hb1
  clear hb1
  go_wp2_with fail
  go_ret
  exact ⟨rfl, HB1.out⟩
set_option maxHeartbeats 400000 in
theorem texts_size1 (p q r : Option Addr) (n c m d : Nat) (z : Int) (l f : Nat) (w : World) (h : n ≠ 32) (hl : l ≤ 400) :
    Calls Try.prog 4 #[.slice p n c, .int .i64 z, .slice q m d, .slice r l f] w fun e w' => e = .returned (.bool true) ∧ Below w.heap.size w w' := by
  have HX : Hid (∀ w, Calls Try.prog 12 #[.slice p n c, .int .i64 z, .slice q m d, .slice r l f] w fun e' w' => e' = .returned (.tuple #[.slice none 0 0, .int .i64 11]) ∧ w' = w) := fun w => XOR_bad p q r n c m d l f z 11 w (.inl ⟨.inl h, rfl⟩)
  have hl' : ¬ (400 : Int) < (l : Int) := by omega
  have h1 : ¬ (n : Int) = 32 := by omega
  go_enter Try.func4, Try.ntmps4
  go_wp2_with fail
  refine (anchor_any w).mono ?_
  rintro e w1 ⟨rfl, hb1⟩
  have HB1 : Hid (Below w.heap.size w w1) := hb1
  clear hb1
  go_wp2_with fail
  refine (HX.out w1).mono ?_
  rintro e w2 ⟨rfl, rfl⟩
  go_wp2_with fail
  go_ret
  exact ⟨rfl, HB1.out⟩
set_option maxHeartbeats 400000 in
theorem texts_size2 (p q r : Option Addr) (c m d : Nat) (z : Int) (l f : Nat) (w : World) (h : m ≠ 12) (hl : l ≤ 400) :
    Calls Try.prog 4 #[.slice p 32 c, .int .i64 z, .slice q m d, .slice r l f] w fun e w' => e = .returned (.bool true) ∧ Below w.heap.size w w' := by
  have HX : Hid (∀ w, Calls Try.prog 12 #[.slice p 32 c, .int .i64 z, .slice q m d, .slice r l f] w fun e' w' => e' = .returned (.tuple #[.slice none 0 0, .int .i64 11]) ∧ w' = w) := fun w => XOR_bad p q r 32 c m d l f z 11 w (.inl ⟨.inr h, rfl⟩)
  have hl' : ¬ (400 : Int) < (l : Int) := by omega
  have h1 : ¬ (m : Int) = 12 := by omega
  go_enter Try.func4, Try.ntmps4
  go_wp2_with fail
  refine (anchor_any w).mono ?_
  rintro e w1 ⟨rfl, hb1⟩
  have HB1 : Hid (Below w.heap.size w w1) := hb1
  clear hb1
  go_wp2_with fail
  refine (HX.out w1).mono ?_
  rintro e w2 ⟨rfl, rfl⟩
  go_wp2_with fail
  go_ret
  exact ⟨rfl, HB1.out⟩
set_option maxHeartbeats 400000 in
theorem texts_range1 (p q r : Option Addr) (c d : Nat) (z : Int) (l f : Nat) (w : World) (h : z < 0) (hl : l ≤ 400) :
    Calls Try.prog 4 #[.slice p 32 c, .int .i64 z, .slice q 12 d, .slice r l f] w fun e w' => e = .returned (.bool true) ∧ Below w.heap.size w w' := by
  have HX : Hid (∀ w, Calls Try.prog 12 #[.slice p 32 c, .int .i64 z, .slice q 12 d, .slice r l f] w fun e' w' => e' = .returned (.tuple #[.slice none 0 0, .int .i64 12]) ∧ w' = w) := fun w => XOR_bad p q r 32 c 12 d l f z 12 w (.inr ⟨rfl, rfl, .inl h, rfl⟩)
  have hl' : ¬ (400 : Int) < (l : Int) := by omega
  go_enter Try.func4, Try.ntmps4
  go_wp2_with fail
  refine (anchor_any w).mono ?_
  rintro e w1 ⟨rfl, hb1⟩
  have HB1 : Hid (Below w.heap.size w w1) := hb1
  clear hb1
  go_wp2_with fail
  refine (HX.out w1).mono ?_
  rintro e w2 ⟨rfl, rfl⟩
  go_wp2_with fail
  go_ret
  exact ⟨rfl, HB1.out⟩
set_option maxHeartbeats 400000 in
theorem texts_range2 (p q r : Option Addr) (c d : Nat) (z : Int) (l f : Nat) (w : World) (h : 4294967295 < z) (hl : l ≤ 400) :
    Calls Try.prog 4 #[.slice p 32 c, .int .i64 z, .slice q 12 d, .slice r l f] w fun e w' => e = .returned (.bool true) ∧ Below w.heap.size w w' := by
  have HX : Hid (∀ w, Calls Try.prog 12 #[.slice p 32 c, .int .i64 z, .slice q 12 d, .slice r l f] w fun e' w' => e' = .returned (.tuple #[.slice none 0 0, .int .i64 12]) ∧ w' = w) := fun w => XOR_bad p q r 32 c 12 d l f z 12 w (.inr ⟨rfl, rfl, .inr h, rfl⟩)
  have hl' : ¬ (400 : Int) < (l : Int) := by omega
  have h0 : ¬ z < 0 := by omega
  go_enter Try.func4, Try.ntmps4
  go_wp2_with fail
  refine (anchor_any w).mono ?_
  rintro e w1 ⟨rfl, hb1⟩
  have HB1 : Hid (Below w.heap.size w w1) := hb1
  clear hb1
  go_wp2_with fail
  refine (HX.out w1).mono ?_
  rintro e w2 ⟨rfl, rfl⟩
  go_wp2_with fail
  go_ret
  exact ⟨rfl, HB1.out⟩
def textsV (x0 : Value) (x1 : Value) (x2 : Value) (x3 : Value) (x : Value) (y : Value) (X : List Nat) (T : List Nat) : Nat → Value → World → Prop
  | 0 => IsV (.int .i64 0)
  | 1 => IsV (.bool true)
  | 2 => IsV (.bool true)
  | 3 => IsV (.int .i64 0)
  | 4 => IsV (.bool true)
  | 5 => IsV (.bool true)
  | 6 => IsV (.bool true)
  | 7 => IsV x
  | 8 => StrV X
  | 9 => IsV x0
  | 10 => IsV x1
  | 11 => IsV x2
  | 12 => IsV x3
  | 13 => RowV X
  | 14 => StrV X
  | 15 => IsV (.bool true)
  | 16 => IsV (.bool true)
  | 17 => IsV (.bool true)
  | 18 => IsV y
  | 19 => StrV T
  | 20 => IsV x3
  | 21 => StrV T
  | 22 => IsV (.bool true)
  | 23 => IsV (.bool true)
  | 24 => IsV (.bool true)
  | _ => fun _ _ => True
theorem textsV_kept (x0 : Value) (x1 : Value) (x2 : Value) (x3 : Value) (x : Value) (y : Value) (X : List Nat) (T : List Nat) : ∀ i v w w', textsV x0 x1 x2 x3 x y X T i v w → Below w.heap.size w w' → textsV x0 x1 x2 x3 x y X T i v w'
  | 0, _, _, _, h, _ => h
  | 1, _, _, _, h, _ => h
  | 2, _, _, _, h, _ => h
  | 3, _, _, _, h, _ => h
  | 4, _, _, _, h, _ => h
  | 5, _, _, _, h, _ => h
  | 6, _, _, _, h, _ => h
  | 7, _, _, _, h, _ => h
  | 8, _, _, _, h, _ => h
  | 9, _, _, _, h, _ => h
  | 10, _, _, _, h, _ => h
  | 11, _, _, _, h, _ => h
  | 12, _, _, _, h, _ => h
  | 13, _, _, _, h, hb => RowV.kept h hb
  | 14, _, _, _, h, _ => h
  | 15, _, _, _, h, _ => h
  | 16, _, _, _, h, _ => h
  | 17, _, _, _, h, _ => h
  | 18, _, _, _, h, _ => h
  | 19, _, _, _, h, _ => h
  | 20, _, _, _, h, _ => h
  | 21, _, _, _, h, _ => h
  | 22, _, _, _, h, _ => h
  | 23, _, _, _, h, _ => h
  | 24, _, _, _, h, _ => h
  | _ + 25, _, _, _, _, _ => trivial
set_option maxHeartbeats 1000000 in
theorem texts_any (key nonce T : List Nat) (bk ok ck bn on cn c n ct : Nat) (pt : Option Addr) (w : World) (hk : key.length = 32) (hn : nonce.length = 12) (hK : SliceIs w bk ok key) (hN : SliceIs w bn on nonce) (hc : c < 4294967296) (hck : 32 ≤ ck) (hcn : 12 ≤ cn)
    (hT : TextIs w pt T) (htl : T.length = n) (hn4 : n ≤ 400) :
    Calls Try.prog 4 #[.slice (some ⟨bk, ok, none⟩) 32 ck, .int .i64 c, .slice (some ⟨bn, on, none⟩) 12 cn, .slice pt n ct] w fun e w' => e = .returned (.bool true) ∧ Below w.heap.size w w' := by
  have HX : Hid (∀ (w1 : World) (p : Option Addr) (l : List Nat) (f : Nat), Below w.heap.size w w1 → TextIs w1 p l → l.length = n → Calls Try.prog 12 #[.slice (some ⟨bk, ok, none⟩) 32 ck, .int .i64 c, .slice (some ⟨bn, on, none⟩) 12 cn, .slice p n f] w1 fun e w' => ∃ g, e = .returned (.tuple #[.slice (some ⟨g, 0, none⟩) n n, .int .i64 0]) ∧ w1.heap.size ≤ g ∧ BRow w' g (Ch.xor key c nonce l) ∧ Below w1.heap.size w1 w') :=
    fun w1 p l f hb hT' hl => XOR_ok key nonce l bk ok ck bn on cn c n f p w1 hk hn (hK.below hb) (hN.below hb) hc hck hcn hT' hl (by omega)
  have HY : Hid (∀ w1, Below w.heap.size w w1 → Calls Try.prog 13 #[.slice (some ⟨bk, ok, none⟩) 32 ck, .int .i64 c, .slice (some ⟨bn, on, none⟩) 12 cn, .slice pt n ct] w1 fun e w' => ∃ v, e = .returned v ∧ w'.ownsRow w1.heap.size 5 1 v n (ints .u8 (Ch.xor key c nonce T)) ∧ Below w1.heap.size w1 w') :=
    fun w1 hb => rxor_any key nonce T bk ok ck bn on cn c n ct pt w1 hk hn (hK.below hb) (hN.below hb) hc (hT.below hb) htl (by omega)
  have HT : Hid (TextIs w pt T) := hT
  have HTL : Hid (T.length = n) := htl
  clear hk hn hK hN hT htl
  have c0 : ¬ (c : Int) < 0 := by omega
  have c1 : ¬ 4294967295 < (c : Int) := by omega
  have c2 : ¬ (400 : Int) < (n : Int) := by omega
  go_enter Try.func4, Try.ntmps4
  go_wp2_with fail
  refine (anchor_any w).mono ?_
  rintro e w1 ⟨rfl, hb1⟩
  have HB1 : Hid (Below w.heap.size w w1) := hb1
  clear hb1
  go_wp2_with fail
  refine (HX.out w1 pt T ct HB1.out (HT.out.below HB1.out) HTL.out).mono ?_
  rintro e w2 ⟨g, rfl, hg, hA, hb2⟩
  have HB2 : Hid (Below w.heap.size w w2) := HB1.out.trans (hb2.mono HB1.out.size)
  have HA : Hid (BRow w2 g (Ch.xor key c nonce T)) := hA
  clear hg hA hb2 HB1
  go_wp2_with fail
  refine (HX.out w2 _ (Ch.xor key c nonce T) n HB2.out (HA.out.text (Ch.xor_lt key c nonce HT.out.1)) (by rw [Ch.xor_length, HTL.out])).mono ?_
  rintro e w3 ⟨g3, rfl, hg, hA3, hb3⟩
  rw [Ch.xor_xor] at hA3
  have HB3 : Hid (Below w.heap.size w w3) := HB2.out.trans (hb3.mono HB2.out.size)
  have HVX : RowV (Ch.xor key c nonce T) (.slice (some ⟨g, 0, none⟩) n n) w3 := BRow.rowV (HA.out.below hb3 HA.out.lt) (by rw [Ch.xor_length, HTL.out])
  have HVY : RowV T (.slice (some ⟨g3, 0, none⟩) n n) w3 := BRow.rowV hA3 HTL.out
  have HVT : RowV T (.slice pt n ct) w3 := (HT.out.below HB3.out).rowV HTL.out
  have HXL : Hid ((Ch.xor key c nonce T).length = n) := by
    show _ = _
    rw [Ch.xor_length, HTL.out]
  have HYS : Hid (∀ w', Below w3.heap.size w3 w' → Calls Try.prog 13 #[.slice (some ⟨bk, ok, none⟩) 32 ck, .int .i64 c, .slice (some ⟨bn, on, none⟩) 12 cn, .slice pt n ct] w' fun e w4 => ∃ v, e = .returned v ∧ Below w'.heap.size w' w4 ∧ RowV (Ch.xor key c nonce T) v w4) := fun w' hb => by
    refine (HY.out w' (HB3.out.trans (hb.mono HB3.out.size))).mono ?_
    rintro e w4 ⟨v, rfl, ho, hb4⟩
    refine ⟨v, rfl, hb4, ?_⟩
    by_cases h0 : 0 < n
    · obtain ⟨g4, c4, rfl, _, _, _, hr⟩ := own_cell ho h0
      exact .inl ⟨g4, 0, c4, by rw [HXL.out], hr⟩
    · obtain ⟨q4, c4, rfl⟩ := own_slice ho
      obtain rfl : n = 0 := by omega
      exact .inr ⟨q4, c4, rfl, List.eq_nil_of_length_eq_zero HXL.out⟩
  generalize Ch.xor key c nonce T = X at *
  have HX1 : Hid (RowV X (.slice (some ⟨g, 0, none⟩) n n) w3) := HVX
  have HY1 : Hid (RowV T (.slice (some ⟨g3, 0, none⟩) n n) w3) := HVY
  have HT1 : Hid (RowV T (.slice pt n ct) w3) := HVT
  clear hg hA3 hb3 HX HY HA HB2 HT HVX HVY HVT
  go_wp2_with fail
  have HVX := HX1.out
  have HVY := HY1.out
  have HVT := HT1.out
  refine wp_region_inv (textsV (.slice (some ⟨bk, ok, none⟩) 32 ck) (.int .i64 c) (.slice (some ⟨bn, on, none⟩) 12 cn) (.slice pt n ct) (.slice (some ⟨g, 0, none⟩) n n) (.slice (some ⟨g3, 0, none⟩) n n) X T) (fun u u' => Below u.heap.size u u') (by kernel_rfl) ((Below.refl _ _).drew) below_trans' (textsV_kept _ _ _ _ _ _ _ _) (by kernel_rfl) ?_ ?_
  · intro i o a' w' hi inv hpre
    have hb : Below w3.heap.size w3 w' := inv.grow
    have hlt : i < 25 := (Array.getElem?_eq_some_iff.1 hi).1
    obtain rfl|rfl|rfl|rfl|rfl|rfl|rfl|rfl|rfl|rfl|rfl|rfl|rfl|rfl|rfl|rfl|rfl|rfl|rfl|rfl|rfl|rfl|rfl|rfl|rfl : i = 0 ∨ i = 1 ∨ i = 2 ∨ i = 3 ∨ i = 4 ∨ i = 5 ∨ i = 6 ∨ i = 7 ∨ i = 8 ∨ i = 9 ∨ i = 10 ∨ i = 11 ∨ i = 12 ∨ i = 13 ∨ i = 14 ∨ i = 15 ∨ i = 16 ∨ i = 17 ∨ i = 18 ∨ i = 19 ∨ i = 20 ∨ i = 21 ∨ i = 22 ∨ i = 23 ∨ i = 24 := by omega
    · obtain rfl := Option.some.inj hi
      exact st_value _ rfl rfl rfl (Below.refl _ _) (by show a'.tmps.getD 10 undef = _; rw [inv.old 10 (notDst_spec (by kernel_rfl))]; rfl)
    · obtain rfl := Option.some.inj hi
      have h0 : a'.tmps.getD 57 undef = _ := pre_of hpre 0 57 (by kernel_rfl) (by kernel_rfl)
      exact st_value (.bool true) rfl rfl (eqe_run 57 rfl h0) (Below.refl _ _) rfl
    · obtain rfl := Option.some.inj hi
      have h0 : a'.tmps.getD 58 undef = _ := pre_of hpre 1 58 (by kernel_rfl) (by kernel_rfl)
      exact st_value _ rfl rfl rfl (Below.refl _ _) h0
    · obtain rfl := Option.some.inj hi
      have hgu : a'.tmps.getD 59 undef = _ := pre_of hpre 2 59 (by kernel_rfl) (by kernel_rfl)
      exact st_value _ rfl (wanted_of 2 59 rfl (by kernel_rfl) hgu) rfl (Below.refl _ _) (by show a'.tmps.getD 12 undef = _; rw [inv.old 12 (notDst_spec (by kernel_rfl))]; rfl)
    · obtain rfl := Option.some.inj hi
      have hgu : a'.tmps.getD 59 undef = _ := pre_of hpre 2 59 (by kernel_rfl) (by kernel_rfl)
      have h0 : a'.tmps.getD 60 undef = _ := pre_of hpre 3 60 (by kernel_rfl) (by kernel_rfl)
      exact st_value (.bool true) rfl (wanted_of 2 59 rfl (by kernel_rfl) hgu) (eqe_run 60 rfl h0) (Below.refl _ _) rfl
    · obtain rfl := Option.some.inj hi
      have h0 : a'.tmps.getD 59 undef = _ := pre_of hpre 2 59 (by kernel_rfl) (by kernel_rfl)
      have h1 : a'.tmps.getD 61 undef = _ := pre_of hpre 4 61 (by kernel_rfl) (by kernel_rfl)
      exact st_value (.bool true) rfl rfl (pick_step h0 h1 rfl) (Below.refl _ _) rfl
    · obtain rfl := Option.some.inj hi
      have h0 : a'.tmps.getD 62 undef = _ := pre_of hpre 5 62 (by kernel_rfl) (by kernel_rfl)
      exact st_value _ rfl rfl rfl (Below.refl _ _) h0
    · obtain rfl := Option.some.inj hi
      have hgu : a'.tmps.getD 63 undef = _ := pre_of hpre 6 63 (by kernel_rfl) (by kernel_rfl)
      exact st_value _ rfl (wanted_of 6 63 rfl (by kernel_rfl) hgu) rfl (Below.refl _ _) (by show a'.tmps.getD 9 undef = _; rw [inv.old 9 (notDst_spec (by kernel_rfl))]; rfl)
    · obtain rfl := Option.some.inj hi
      have hgu : a'.tmps.getD 63 undef = _ := pre_of hpre 6 63 (by kernel_rfl) (by kernel_rfl)
      have h0 : a'.tmps.getD 64 undef = _ := pre_of hpre 7 64 (by kernel_rfl) (by kernel_rfl)
      have hv : RowV X (a'.tmps.getD 64 undef) w' := by rw [h0]; exact (HVX).kept hb
      exact st_value _ rfl (wanted_of 6 63 rfl (by kernel_rfl) hgu) (conv_run 64 rfl hv) (Below.refl _ _) rfl
    · obtain rfl := Option.some.inj hi
      have hgu : a'.tmps.getD 63 undef = _ := pre_of hpre 6 63 (by kernel_rfl) (by kernel_rfl)
      exact st_value _ rfl (wanted_of 6 63 rfl (by kernel_rfl) hgu) rfl (Below.refl _ _) (by show a'.tmps.getD 0 undef = _; rw [inv.old 0 (notDst_spec (by kernel_rfl))]; rfl)
    · obtain rfl := Option.some.inj hi
      have hgu : a'.tmps.getD 63 undef = _ := pre_of hpre 6 63 (by kernel_rfl) (by kernel_rfl)
      exact st_value _ rfl (wanted_of 6 63 rfl (by kernel_rfl) hgu) rfl (Below.refl _ _) (by show a'.tmps.getD 1 undef = _; rw [inv.old 1 (notDst_spec (by kernel_rfl))]; rfl)
    · obtain rfl := Option.some.inj hi
      have hgu : a'.tmps.getD 63 undef = _ := pre_of hpre 6 63 (by kernel_rfl) (by kernel_rfl)
      exact st_value _ rfl (wanted_of 6 63 rfl (by kernel_rfl) hgu) rfl (Below.refl _ _) (by show a'.tmps.getD 2 undef = _; rw [inv.old 2 (notDst_spec (by kernel_rfl))]; rfl)
    · obtain rfl := Option.some.inj hi
      have hgu : a'.tmps.getD 63 undef = _ := pre_of hpre 6 63 (by kernel_rfl) (by kernel_rfl)
      exact st_value _ rfl (wanted_of 6 63 rfl (by kernel_rfl) hgu) rfl (Below.refl _ _) (by show a'.tmps.getD 3 undef = _; rw [inv.old 3 (notDst_spec (by kernel_rfl))]; rfl)
    · obtain rfl := Option.some.inj hi
      have hgu : a'.tmps.getD 63 undef = _ := pre_of hpre 6 63 (by kernel_rfl) (by kernel_rfl)
      have h0 : a'.tmps.getD 66 undef = _ := pre_of hpre 9 66 (by kernel_rfl) (by kernel_rfl)
      have h1 : a'.tmps.getD 67 undef = _ := pre_of hpre 10 67 (by kernel_rfl) (by kernel_rfl)
      have h2 : a'.tmps.getD 68 undef = _ := pre_of hpre 11 68 (by kernel_rfl) (by kernel_rfl)
      have h3 : a'.tmps.getD 69 undef = _ := pre_of hpre 12 69 (by kernel_rfl) (by kernel_rfl)
      refine st_call 13 #[a'.tmps.getD 66 undef, a'.tmps.getD 67 undef, a'.tmps.getD 68 undef, a'.tmps.getD 69 undef] rfl (wanted_of 6 63 rfl (by kernel_rfl) hgu) (by kernel_rfl) ?_
      rw [h0, h1, h2, h3]
      exact HYS.out _ hb
    · obtain rfl := Option.some.inj hi
      have hgu : a'.tmps.getD 63 undef = _ := pre_of hpre 6 63 (by kernel_rfl) (by kernel_rfl)
      have h0 := pre_of hpre 13 70 (by kernel_rfl) (by kernel_rfl)
      exact st_value _ rfl (wanted_of 6 63 rfl (by kernel_rfl) hgu) (conv_run 70 rfl h0) (Below.refl _ _) rfl
    · obtain rfl := Option.some.inj hi
      have hgu : a'.tmps.getD 63 undef = _ := pre_of hpre 6 63 (by kernel_rfl) (by kernel_rfl)
      have h0 : a'.tmps.getD 65 undef = _ := pre_of hpre 8 65 (by kernel_rfl) (by kernel_rfl)
      have h1 : a'.tmps.getD 71 undef = _ := pre_of hpre 14 71 (by kernel_rfl) (by kernel_rfl)
      exact st_value (.bool true) rfl (wanted_of 6 63 rfl (by kernel_rfl) hgu) (eq_run 65 71 rfl h0 h1) (Below.refl _ _) rfl
    · obtain rfl := Option.some.inj hi
      have h0 : a'.tmps.getD 63 undef = _ := pre_of hpre 6 63 (by kernel_rfl) (by kernel_rfl)
      have h1 : a'.tmps.getD 72 undef = _ := pre_of hpre 15 72 (by kernel_rfl) (by kernel_rfl)
      exact st_value (.bool true) rfl rfl (pick_step h0 h1 rfl) (Below.refl _ _) rfl
    · obtain rfl := Option.some.inj hi
      have h0 : a'.tmps.getD 73 undef = _ := pre_of hpre 16 73 (by kernel_rfl) (by kernel_rfl)
      exact st_value _ rfl rfl rfl (Below.refl _ _) h0
    · obtain rfl := Option.some.inj hi
      have hgu : a'.tmps.getD 74 undef = _ := pre_of hpre 17 74 (by kernel_rfl) (by kernel_rfl)
      exact st_value _ rfl (wanted_of 17 74 rfl (by kernel_rfl) hgu) rfl (Below.refl _ _) (by show a'.tmps.getD 11 undef = _; rw [inv.old 11 (notDst_spec (by kernel_rfl))]; rfl)
    · obtain rfl := Option.some.inj hi
      have hgu : a'.tmps.getD 74 undef = _ := pre_of hpre 17 74 (by kernel_rfl) (by kernel_rfl)
      have h0 : a'.tmps.getD 75 undef = _ := pre_of hpre 18 75 (by kernel_rfl) (by kernel_rfl)
      have hv : RowV T (a'.tmps.getD 75 undef) w' := by rw [h0]; exact (HVY).kept hb
      exact st_value _ rfl (wanted_of 17 74 rfl (by kernel_rfl) hgu) (conv_run 75 rfl hv) (Below.refl _ _) rfl
    · obtain rfl := Option.some.inj hi
      have hgu : a'.tmps.getD 74 undef = _ := pre_of hpre 17 74 (by kernel_rfl) (by kernel_rfl)
      exact st_value _ rfl (wanted_of 17 74 rfl (by kernel_rfl) hgu) rfl (Below.refl _ _) (by show a'.tmps.getD 3 undef = _; rw [inv.old 3 (notDst_spec (by kernel_rfl))]; rfl)
    · obtain rfl := Option.some.inj hi
      have hgu : a'.tmps.getD 74 undef = _ := pre_of hpre 17 74 (by kernel_rfl) (by kernel_rfl)
      have h0 : a'.tmps.getD 77 undef = _ := pre_of hpre 20 77 (by kernel_rfl) (by kernel_rfl)
      have hv : RowV T (a'.tmps.getD 77 undef) w' := by rw [h0]; exact (HVT).kept hb
      exact st_value _ rfl (wanted_of 17 74 rfl (by kernel_rfl) hgu) (conv_run 77 rfl hv) (Below.refl _ _) rfl
    · obtain rfl := Option.some.inj hi
      have hgu : a'.tmps.getD 74 undef = _ := pre_of hpre 17 74 (by kernel_rfl) (by kernel_rfl)
      have h0 : a'.tmps.getD 76 undef = _ := pre_of hpre 19 76 (by kernel_rfl) (by kernel_rfl)
      have h1 : a'.tmps.getD 78 undef = _ := pre_of hpre 21 78 (by kernel_rfl) (by kernel_rfl)
      exact st_value (.bool true) rfl (wanted_of 17 74 rfl (by kernel_rfl) hgu) (eq_run 76 78 rfl h0 h1) (Below.refl _ _) rfl
    · obtain rfl := Option.some.inj hi
      have h0 : a'.tmps.getD 74 undef = _ := pre_of hpre 17 74 (by kernel_rfl) (by kernel_rfl)
      have h1 : a'.tmps.getD 79 undef = _ := pre_of hpre 22 79 (by kernel_rfl) (by kernel_rfl)
      exact st_value (.bool true) rfl rfl (pick_step h0 h1 rfl) (Below.refl _ _) rfl
    · obtain rfl := Option.some.inj hi
      have h0 : a'.tmps.getD 80 undef = _ := pre_of hpre 23 80 (by kernel_rfl) (by kernel_rfl)
      exact st_value _ rfl rfl rfl (Below.refl _ _) h0
  · intro a' w' inv hd
    have h0 : a'.tmps.getD 8 undef = _ := hd 24 8 (by kernel_rfl)
    have hb : Below w3.heap.size w3 w' := inv.grow
    have hb7 : Below w.heap.size w w' := HB3.out.trans (hb.mono HB3.out.size)
    have hdf : a'.defers = [] := inv.defers
    clear inv hd hb
    go_wp2
    exact ⟨hdf, _, results_tmp rfl _ _ _, by rw [h0], hb7⟩
end Go.Proofs.Ytnbdadhdpplldac
