/- The walk of ShaSums. -/
import Derived.Test.YtnbdadhdpplldaaDoorRefSum
import Derived.Test.YtnbdadhdpplldaaDoorInv2
namespace Go.Proofs.YtnbdadhdpplldaaDoor
open Go.RowKit
/-- What the document's sum leaves behind. -/
def RsV (l : List Nat) (v : Value) (w : World) : Prop := ∃ g c, v = .slice (some ⟨g, 0, none⟩) 32 c ∧ w.rangeAt g 0 (ints .u8 (Sp.sum l))
theorem RsV.kept {l : List Nat} {v : Value} {w w' : World} (h : RsV l v w) (hb : Below w.heap.size w w') : RsV l v w' := by
  obtain ⟨g, c, rfl, h1⟩ := h
  exact ⟨g, c, rfl, rangeAt_below hb h1⟩
theorem rsum_step {w w' : World} {p : Option Addr} {cp : Nat} {m : List Nat} (hx : SrcIs w (.slice p m.length cp) m) (hs : ∀ x ∈ m, x < 256) (hm : m.length ≤ 1000) (hb : Below w.heap.size w w') :
    Calls Tryd.prog 11 #[.slice p m.length cp] w' fun e w2 => ∃ v, e = .returned v ∧ Below w'.heap.size w' w2 ∧ RsV m v w2 := by
  refine (rsum_any m p cp w' (SrcIs.below hx hb) hs hm).mono ?_
  rintro e w2 ⟨v, rfl, h1, h2⟩
  obtain ⟨g, c, rfl, _, _, hr⟩ := own_cell h1 (by decide)
  exact ⟨_, rfl, h2, g, c, rfl, hr⟩
theorem rconv_run {o : Oper} {a' : Act} {w' : World} {m : List Nat} (t : Tmp) (ho : o.op = .convert 22 9 (.tmp t)) (h : RsV m (a'.tmps.getD t undef) w') :
    (execOp a'.eval o).run Tryd.prog w' = .ok (.value (.string (strB (Sp.sum m)))) w' := by
  obtain ⟨g, c, hv, hr⟩ := h
  have hc := run_conv w' g 0 c (Sp.sum m) hr
  rw [sum_length] at hc
  unfold execOp
  simp only [ho, Act.eval, hv, Sem.run_bind, hc, Result.andThen_ok, Sem.run_pure]
def sumsV (x : Value) (l : List Nat) : Nat → Value → World → Prop
  | 0 => IsV x
  | 1 => PartV x
  | 2 => SumV l
  | 3 => StrV l
  | 4 => IsV x
  | 5 => RsV l
  | 6 => StrV l
  | 7 => IsV (.bool true)
  | 8 => IsV (.bool true)
  | _ => fun _ _ => True
theorem sumsV_kept (x : Value) (l : List Nat) : ∀ i v w w', sumsV x l i v w → Below w.heap.size w w' → sumsV x l i v w'
  | 0, _, _, _, h, _ => h
  | 1, _, _, _, h, hb => PartV.kept h hb
  | 2, _, _, _, h, hb => SumV.kept h hb
  | 3, _, _, _, h, _ => h
  | 4, _, _, _, h, _ => h
  | 5, _, _, _, h, hb => RsV.kept h hb
  | 6, _, _, _, h, _ => h
  | 7, _, _, _, h, _ => h
  | 8, _, _, _, h, _ => h
  | _ + 9, _, _, _, _, _ => trivial
set_option maxHeartbeats 1000000 in
theorem shaSums_any (p : Option Addr) (c : Nat) (l : List Nat) (w : World) (hA : SrcIs w (.slice p l.length c) l) (hB : BytesAt w (.slice p l.length c) l) (h1 : l.length ≤ 400) (hT : Tab w) :
    Calls Tryd.prog 3 #[.slice p l.length c] w fun e w' => e = .returned (.bool true) ∧ Below w.heap.size w w' := by
  have HT : Hid (Tab w) := hT
  have HA : Hid (SrcIs w (.slice p l.length c) l) := hA
  have HBB : Hid (BytesAt w (.slice p l.length c) l) := hB
  clear hT hA hB
  have n1 : ¬ (400 : Int) < (l.length : Int) := by omega
  go_enter Tryd.func3, Tryd.ntmps3
  go_wp2_with fail
  refine (anchor_any w HT.out).mono ?_
  rintro e w1 ⟨rfl, hb1⟩
  have HB1 : Hid (Below w.heap.size w w1) := hb1
  clear hb1
  go_wp2_with fail
  have hT1 := tab_below HT.out HB1.out
  have HX : Hid (BytesAt w1 (.slice p l.length c) l) := bytesAt_below HBB.out HB1.out
  have HSRC : Hid (SrcIs w1 (.slice p l.length c) l) := SrcIs.below HA.out HB1.out
  have HSM : Hid (∀ x ∈ l, x < 256) := HBB.out.1
  have hl : l.length < 576460752303423488 := by omega
  have hm : l.length ≤ 1000 := by omega
  refine wp_region_inv (sumsV (.slice p l.length c) l) (fun u u' => Below u.heap.size u u') (by kernel_rfl) ((Below.refl _ _).drew) below_trans' (sumsV_kept _ _) (by kernel_rfl) ?_ ?_
  · intro i o a' w' hi inv hpre
    have hb : Below w1.heap.size w1 w' := inv.grow
    have hlt : i < 9 := (Array.getElem?_eq_some_iff.1 hi).1
    obtain rfl|rfl|rfl|rfl|rfl|rfl|rfl|rfl|rfl : i = 0 ∨ i = 1 ∨ i = 2 ∨ i = 3 ∨ i = 4 ∨ i = 5 ∨ i = 6 ∨ i = 7 ∨ i = 8 := by omega
    · obtain rfl := Option.some.inj hi
      exact st_value _ rfl rfl rfl (Below.refl _ _) (by show a'.tmps.getD 0 undef = _; rw [inv.old 0 (notDst_spec (by kernel_rfl))]; rfl)
    · obtain rfl := Option.some.inj hi
      have h0 : a'.tmps.getD 8 undef = _ := pre_of hpre 0 8 (by kernel_rfl) (by kernel_rfl)
      refine st_value (.slice (some ⟨w'.heap.size, 0, none⟩) 1 1) rfl rfl (build_one 8 rfl h0) ((Below.refl _ _).alloc (Nat.le_refl _) _) ?_
      exact ⟨_, rfl, by rw [cell_of_row _ _ _ _ _ _ (heap_alloc_new w' _)]; rfl⟩
    · obtain rfl := Option.some.inj hi
      have h0 := pre_of hpre 1 9 (by kernel_rfl) (by kernel_rfl)
      refine st_call 10 #[a'.tmps.getD 9 undef] rfl rfl (by kernel_rfl) ?_
      exact sum1_step HX.out hT1 hl hb h0
    · obtain rfl := Option.some.inj hi
      have h0 := pre_of hpre 2 10 (by kernel_rfl) (by kernel_rfl)
      exact st_value _ rfl rfl (conv_run 10 rfl h0) (Below.refl _ _) rfl
    · obtain rfl := Option.some.inj hi
      exact st_value _ rfl rfl rfl (Below.refl _ _) (by show a'.tmps.getD 0 undef = _; rw [inv.old 0 (notDst_spec (by kernel_rfl))]; rfl)
    · obtain rfl := Option.some.inj hi
      have h0 : a'.tmps.getD 12 undef = _ := pre_of hpre 4 12 (by kernel_rfl) (by kernel_rfl)
      refine st_call 11 #[a'.tmps.getD 12 undef] rfl rfl (by kernel_rfl) ?_
      rw [h0]
      exact rsum_step HSRC.out HSM.out hm hb
    · obtain rfl := Option.some.inj hi
      have h0 := pre_of hpre 5 13 (by kernel_rfl) (by kernel_rfl)
      exact st_value _ rfl rfl (rconv_run 13 rfl h0) (Below.refl _ _) rfl
    · obtain rfl := Option.some.inj hi
      have h0 : a'.tmps.getD 11 undef = _ := pre_of hpre 3 11 (by kernel_rfl) (by kernel_rfl)
      have h1 : a'.tmps.getD 14 undef = _ := pre_of hpre 6 14 (by kernel_rfl) (by kernel_rfl)
      exact st_value (.bool true) rfl rfl (eq_run 11 14 rfl h0 h1) (Below.refl _ _) rfl
    · obtain rfl := Option.some.inj hi
      have h0 : a'.tmps.getD 15 undef = _ := pre_of hpre 7 15 (by kernel_rfl) (by kernel_rfl)
      exact st_value _ rfl rfl rfl (Below.refl _ _) h0
  · intro a' w' inv hd
    have h0 : a'.tmps.getD 2 undef = _ := hd 8 2 (by kernel_rfl)
    have hb : Below w1.heap.size w1 w' := inv.grow
    have hb7 : Below w.heap.size w w' := HB1.out.trans (hb.mono HB1.out.size)
    have hdf : a'.defers = [] := inv.defers
    clear inv hd hb
    go_wp2
    exact ⟨hdf, _, results_tmp rfl _ _ _, by rw [h0], hb7⟩
set_option maxHeartbeats 400000 in
theorem shaSums_early (p : Option Addr) (n c : Nat) (w : World) (hT : Tab w) (h : 400 < n) (_hn : n ≤ 9223372036854775807) :
    Calls Tryd.prog 3 #[.slice p n c] w fun e w' => e = .returned (.bool true) ∧ Below w.heap.size w w' := by
  have HT : Hid (Tab w) := hT
  clear hT
  have n200 : (400 : Int) < (n : Int) := by omega
  go_enter Tryd.func3, Tryd.ntmps3
  go_wp2_with fail
  refine (anchor_any w HT.out).mono ?_
  rintro e w1 ⟨rfl, hb1⟩
  have HB1 : Hid (Below w.heap.size w w1) := hb1
  clear hb1
  go_wp2_with fail
  go_ret
  exact ⟨rfl, HB1.out⟩
end Go.Proofs.YtnbdadhdpplldaaDoor
