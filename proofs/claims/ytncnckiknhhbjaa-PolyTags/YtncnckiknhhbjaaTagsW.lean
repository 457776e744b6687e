/- The walk of PolyTags. -/
import Derived.Test.YtncnckiknhhbjaaRTag
import Derived.Test.YtncnckiknhhbjaaAnchor
namespace Go.Proofs.Ytncnckiknhhbjaa
open Go.RowKit
def tagsV (kv xv tv : Value) (T : List Nat) : Nat → Value → World → Prop
  | 0 => IsV (.int .i64 0)
  | 1 => IsV (.bool true)
  | 2 => IsV (.bool true)
  | 3 => IsV tv
  | 4 => StrV T
  | 5 => IsV kv
  | 6 => IsV xv
  | 7 => RowV T
  | 8 => StrV T
  | 9 => IsV (.bool true)
  | 10 => IsV (.bool true)
  | 11 => IsV (.bool true)
  | _ => fun _ _ => True
theorem tagsV_kept (kv xv tv : Value) (T : List Nat) : ∀ i v w w', tagsV kv xv tv T i v w → Below w.heap.size w w' → tagsV kv xv tv T i v w'
  | 0, _, _, _, h, _ => h
  | 1, _, _, _, h, _ => h
  | 2, _, _, _, h, _ => h
  | 3, _, _, _, h, _ => h
  | 4, _, _, _, h, _ => h
  | 5, _, _, _, h, _ => h
  | 6, _, _, _, h, _ => h
  | 7, _, _, _, h, hb => RowV.kept h hb
  | 8, _, _, _, h, _ => h
  | 9, _, _, _, h, _ => h
  | 10, _, _, _, h, _ => h
  | 11, _, _, _, h, _ => h
  | _ + 12, _, _, _, _, _ => trivial
theorem rtag_call {key text : List Nat} {bk ok ck n ct : Nat} {pt : Option Addr} {w : World} (hk : key.length = 32) (hkb : ∀ x ∈ key, x < 256) (hkr : w.rangeAt bk ok (ints .u8 key)) (hck : 32 ≤ ck) (hT : TextIs w pt text) (htl : text.length = n) (hnl : n ≤ 600) (hct : n ≤ ct) :
    Calls Try.prog 11 #[.slice (some ⟨bk, ok, none⟩) 32 ck, .slice pt n ct] w fun e w' => ∃ v, e = .returned v ∧ Below w.heap.size w w' ∧ RowV (Po.tag key text) v w' := by
  refine (rtag_any key text bk ok ck n ct pt w hk hkb hkr hck hT htl hnl hct).mono ?_
  rintro e w' ⟨v, rfl, ho, hb⟩
  obtain ⟨g, c, rfl, _, _, _, hr⟩ := own_cell ho (by decide)
  exact ⟨_, rfl, hb, .inl ⟨g, 0, c, by rw [Po.tag_length], hr⟩⟩
set_option maxHeartbeats 1000000 in
theorem tags_early (pk pt : Option Addr) (nk ck n ct : Nat) (w : World) (h : 300 < n ∨ 100 < nk) :
    Calls Try.prog 3 #[.slice pk nk ck, .slice pt n ct] w fun e w' => e = .returned (.bool true) ∧ Below w.heap.size w w' := by
  have HH : Hid (300 < n ∨ 100 < nk) := h
  clear h
  go_enter Try.func3, Try.ntmps3
  go_wp2_with fail
  refine (anchor_any w).mono ?_
  rintro e w1 ⟨rfl, hb1⟩
  have HB1 : Hid (Below w.heap.size w w1) := hb1
  clear hb1
  go_wp2_with fail
  all_goals first | (exfalso; have := HH.out; omega) | (go_ret; exact ⟨rfl, HB1.out⟩)
set_option maxHeartbeats 1000000 in
theorem tags_bad (pk pt : Option Addr) (nk ck n ct : Nat) (w : World) (hn : n ≤ 300) (hk : nk ≤ 100) (h32 : nk ≠ 32) :
    Calls Try.prog 3 #[.slice pk nk ck, .slice pt n ct] w fun e w' => e = .returned (.bool true) ∧ Below w.heap.size w w' := by
  have h1 : ¬ (300 : Int) < (n : Int) := by omega
  have h2 : ¬ (100 : Int) < (nk : Int) := by omega
  have h3 : ¬ (nk : Int) = 32 := by omega
  go_enter Try.func3, Try.ntmps3
  go_wp2_with fail
  refine (anchor_any w).mono ?_
  rintro e w1 ⟨rfl, hb1⟩
  have HB1 : Hid (Below w.heap.size w w1) := hb1
  clear hb1
  go_wp2_with fail
  refine (tag_bad nk pk pt ck n ct w1 h32).mono ?_
  rintro e w2 ⟨rfl, rfl⟩
  go_wp2_with fail
  go_ret
  exact ⟨rfl, HB1.out⟩
set_option maxHeartbeats 1000000 in
theorem tags_any (key text : List Nat) (bk ok ck n ct : Nat) (pt : Option Addr) (w : World) (hk : key.length = 32) (hkb : ∀ x ∈ key, x < 256) (hkr : w.rangeAt bk ok (ints .u8 key)) (hck : 32 ≤ ck) (hT : TextIs w pt text) (htl : text.length = n) (hnl : n ≤ 300) (hct : n ≤ ct) :
    Calls Try.prog 3 #[.slice (some ⟨bk, ok, none⟩) 32 ck, .slice pt n ct] w fun e w' => e = .returned (.bool true) ∧ Below w.heap.size w w' := by
  have HX : Hid (∀ w1, Below w.heap.size w w1 → Calls Try.prog 10 #[.slice (some ⟨bk, ok, none⟩) 32 ck, .slice pt n ct] w1 fun e w' => ∃ v, e = .returned (.tuple #[v, .int .i64 0]) ∧ w'.ownsRow w1.heap.size 5 1 v 16 (ints .u8 (Po.tag key text)) ∧ Below w1.heap.size w1 w') := fun w1 hb => tag_ok key text bk ok ck n ct pt w1 hk hkb (rangeAt_below hb hkr) hck (hT.below hb) htl (by omega) hct
  have HY : Hid (∀ w1, Below w.heap.size w w1 → Calls Try.prog 11 #[.slice (some ⟨bk, ok, none⟩) 32 ck, .slice pt n ct] w1 fun e w' => ∃ v, e = .returned v ∧ Below w1.heap.size w1 w' ∧ RowV (Po.tag key text) v w') := fun w1 hb => rtag_call hk hkb (rangeAt_below hb hkr) hck (hT.below hb) htl (by omega) hct
  have HTL : Hid ((Po.tag key text).length = 16) := Po.tag_length _ _
  generalize Po.tag key text = T at *
  have h1 : ¬ (300 : Int) < (n : Int) := by omega
  clear hk hkb hkr hT htl
  go_enter Try.func3, Try.ntmps3
  go_wp2_with fail
  refine (anchor_any w).mono ?_
  rintro e w1 ⟨rfl, hb1⟩
  have HB1 : Hid (Below w.heap.size w w1) := hb1
  clear hb1
  go_wp2_with fail
  refine (HX.out w1 HB1.out).mono ?_
  rintro e w2 ⟨v2, rfl, ho2, hb2⟩
  obtain ⟨g, c, rfl, _, _, _, hr⟩ := own_cell ho2 (by decide)
  have HBW : Hid (Below w.heap.size w w2) := HB1.out.trans (hb2.mono HB1.out.size)
  have HV : Hid (RowV T (.slice (some ⟨g, 0, none⟩) 16 c) w2) := .inl ⟨g, 0, c, by rw [HTL.out], hr⟩
  have HYS : Hid (∀ w', Below w2.heap.size w2 w' → Calls Try.prog 11 #[.slice (some ⟨bk, ok, none⟩) 32 ck, .slice pt n ct] w' fun e w3 => ∃ v, e = .returned v ∧ Below w'.heap.size w' w3 ∧ RowV T v w3) := fun w' hb => HY.out w' (HBW.out.trans (hb.mono HBW.out.size))
  clear ho2 hb2 hr HB1 HX HY
  go_wp2_with fail
  refine wp_region_inv (tagsV (.slice (some ⟨bk, ok, none⟩) 32 ck) (.slice pt n ct) (.slice (some ⟨g, 0, none⟩) 16 c) T) (fun u u' => Below u.heap.size u u') (by kernel_rfl) ((Below.refl _ _).drew) below_trans' (tagsV_kept _ _ _ _) (by kernel_rfl) ?_ ?_
  · intro i o a' w' hi inv hpre
    have hb : Below w2.heap.size w2 w' := inv.grow
    have hlt : i < 12 := (Array.getElem?_eq_some_iff.1 hi).1
    obtain rfl|rfl|rfl|rfl|rfl|rfl|rfl|rfl|rfl|rfl|rfl|rfl : i = 0 ∨ i = 1 ∨ i = 2 ∨ i = 3 ∨ i = 4 ∨ i = 5 ∨ i = 6 ∨ i = 7 ∨ i = 8 ∨ i = 9 ∨ i = 10 ∨ i = 11 := by omega
    · obtain rfl := Option.some.inj hi
      exact st_value _ rfl rfl rfl (Below.refl _ _) (by show a'.tmps.getD 6 undef = _; rw [inv.old 6 (notDst_spec (by kernel_rfl))]; rfl)
    · obtain rfl := Option.some.inj hi
      have h0 : a'.tmps.getD 33 undef = _ := pre_of hpre 0 33 (by kernel_rfl) (by kernel_rfl)
      exact st_value (.bool true) rfl rfl (eqe_run 33 rfl h0) (Below.refl _ _) rfl
    · obtain rfl := Option.some.inj hi
      have h0 : a'.tmps.getD 34 undef = _ := pre_of hpre 1 34 (by kernel_rfl) (by kernel_rfl)
      exact st_value _ rfl rfl rfl (Below.refl _ _) h0
    · obtain rfl := Option.some.inj hi
      have hgu : a'.tmps.getD 35 undef = _ := pre_of hpre 2 35 (by kernel_rfl) (by kernel_rfl)
      exact st_value _ rfl (wanted_of 2 35 rfl (by kernel_rfl) hgu) rfl (Below.refl _ _) (by show a'.tmps.getD 5 undef = _; rw [inv.old 5 (notDst_spec (by kernel_rfl))]; rfl)
    · obtain rfl := Option.some.inj hi
      have hgu : a'.tmps.getD 35 undef = _ := pre_of hpre 2 35 (by kernel_rfl) (by kernel_rfl)
      have h0 : a'.tmps.getD 36 undef = _ := pre_of hpre 3 36 (by kernel_rfl) (by kernel_rfl)
      have hv : RowV T (a'.tmps.getD 36 undef) w' := by rw [h0]; exact HV.out.kept hb
      exact st_value _ rfl (wanted_of 2 35 rfl (by kernel_rfl) hgu) (conv_run 36 rfl hv) (Below.refl _ _) rfl
    · obtain rfl := Option.some.inj hi
      have hgu : a'.tmps.getD 35 undef = _ := pre_of hpre 2 35 (by kernel_rfl) (by kernel_rfl)
      exact st_value _ rfl (wanted_of 2 35 rfl (by kernel_rfl) hgu) rfl (Below.refl _ _) (by show a'.tmps.getD 0 undef = _; rw [inv.old 0 (notDst_spec (by kernel_rfl))]; rfl)
    · obtain rfl := Option.some.inj hi
      have hgu : a'.tmps.getD 35 undef = _ := pre_of hpre 2 35 (by kernel_rfl) (by kernel_rfl)
      exact st_value _ rfl (wanted_of 2 35 rfl (by kernel_rfl) hgu) rfl (Below.refl _ _) (by show a'.tmps.getD 1 undef = _; rw [inv.old 1 (notDst_spec (by kernel_rfl))]; rfl)
    · obtain rfl := Option.some.inj hi
      have hgu : a'.tmps.getD 35 undef = _ := pre_of hpre 2 35 (by kernel_rfl) (by kernel_rfl)
      have h0 : a'.tmps.getD 38 undef = _ := pre_of hpre 5 38 (by kernel_rfl) (by kernel_rfl)
      have h1 : a'.tmps.getD 39 undef = _ := pre_of hpre 6 39 (by kernel_rfl) (by kernel_rfl)
      refine st_call 11 #[a'.tmps.getD 38 undef, a'.tmps.getD 39 undef] rfl (wanted_of 2 35 rfl (by kernel_rfl) hgu) (by kernel_rfl) ?_
      rw [h0, h1]
      exact HYS.out _ hb
    · obtain rfl := Option.some.inj hi
      have hgu : a'.tmps.getD 35 undef = _ := pre_of hpre 2 35 (by kernel_rfl) (by kernel_rfl)
      have h0 := pre_of hpre 7 40 (by kernel_rfl) (by kernel_rfl)
      exact st_value _ rfl (wanted_of 2 35 rfl (by kernel_rfl) hgu) (conv_run 40 rfl h0) (Below.refl _ _) rfl
    · obtain rfl := Option.some.inj hi
      have hgu : a'.tmps.getD 35 undef = _ := pre_of hpre 2 35 (by kernel_rfl) (by kernel_rfl)
      have h0 : a'.tmps.getD 37 undef = _ := pre_of hpre 4 37 (by kernel_rfl) (by kernel_rfl)
      have h1 : a'.tmps.getD 41 undef = _ := pre_of hpre 8 41 (by kernel_rfl) (by kernel_rfl)
      exact st_value (.bool true) rfl (wanted_of 2 35 rfl (by kernel_rfl) hgu) (eq_run 37 41 rfl h0 h1) (Below.refl _ _) rfl
    · obtain rfl := Option.some.inj hi
      have h0 : a'.tmps.getD 35 undef = _ := pre_of hpre 2 35 (by kernel_rfl) (by kernel_rfl)
      have h1 : a'.tmps.getD 42 undef = _ := pre_of hpre 9 42 (by kernel_rfl) (by kernel_rfl)
      exact st_value (.bool true) rfl rfl (pick_step h0 h1 rfl) (Below.refl _ _) rfl
    · obtain rfl := Option.some.inj hi
      have h0 : a'.tmps.getD 43 undef = _ := pre_of hpre 10 43 (by kernel_rfl) (by kernel_rfl)
      exact st_value _ rfl rfl rfl (Below.refl _ _) h0
  · intro a' w' inv hd
    have h0 : a'.tmps.getD 4 undef = _ := hd 11 4 (by kernel_rfl)
    have hb : Below w2.heap.size w2 w' := inv.grow
    have hb7 : Below w.heap.size w w' := HBW.out.trans (hb.mono HBW.out.size)
    have hdf : a'.defers = [] := inv.defers
    clear inv hd hb
    go_wp2
    exact ⟨hdf, _, results_tmp rfl _ _ _, by rw [h0], hb7⟩
end Go.Proofs.Ytncnckiknhhbjaa
