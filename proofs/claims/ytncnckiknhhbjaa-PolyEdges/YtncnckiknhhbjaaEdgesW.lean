/- The walk of PolyEdges. -/
import Derived.Test.YtncnckiknhhbjaaTagsW
namespace Go.Proofs.Ytncnckiknhhbjaa
open Go.RowKit
/-- A row of bytes in a block of its own. -/
def BRow (w : World) (g : Nat) (l : List Nat) : Prop := w.heap[g]? = some (.cells (arr .u8 l) 5 (0, 0))
section
variable {w : World} {g : Nat} {l : List Nat}
theorem BRow.cell (h : BRow w g l) (i : Nat) (hi : i < l.length) : w.cell? ⟨g, i, none⟩ = some (.int .u8 (Sp.nth l i : Nat)) := by
  rw [cell_of_row _ _ _ _ _ _ h]; exact arr_get _ _ _ hi
theorem BRow.may (h : BRow w g l) (i : Nat) : w.frozen? ⟨g, i, none⟩ = false := frozen_of_row _ _ _ _ _ h
theorem BRow.set (h : BRow w g l) (i x : Nat) : BRow (w.setCell ⟨g, i, none⟩ (.int .u8 (x : Nat))) g (l.set i x) := by
  have := heap_setCell_same w g i (arr .u8 l) 5 (.int .u8 (x : Nat)) h
  unfold BRow
  rw [this]
  congr 2
  apply Array.ext'
  simp [arr, ints]
theorem BRow.lt (h : BRow w g l) : g < w.heap.size := (Array.getElem?_eq_some_iff.1 h).1
theorem BRow.grown {w' : World} {g' : Nat} (h : BRow w g l) (hg : w.grownBy w' (some g')) (hne : g ≠ g') : BRow w' g l := by
  have := hg.block g h.lt (by simpa using hne)
  exact this.trans h
theorem BRow.below {w' : World} {K : Nat} (h : BRow w g l) (hb : Below K w w') (hg : g < K) : BRow w' g l := (hb.block g hg).trans h
end
def z32 : Array Value := arr .u8 (List.replicate 32 0)
def keyTo (r s : Nat) (i : Nat) : List Nat := List.replicate i r ++ List.replicate (16 - i) 0 ++ (List.replicate i s ++ List.replicate (16 - i) 0)
theorem keyTo_length (r s i : Nat) (h : i ≤ 16) : (keyTo r s i).length = 32 := by simp [keyTo]; omega
theorem rep_set (x y i n : Nat) (h : i < n) : (List.replicate i x ++ List.replicate (n - i) y).set i x = List.replicate (i + 1) x ++ List.replicate (n - (i + 1)) y := by
  rw [show n - i = (n - (i + 1)) + 1 from by omega, List.replicate_succ, List.set_append_right _ _ (by simp)]
  simp [List.replicate_succ']
theorem keyTo_succ (r s i : Nat) (h : i < 16) : ((keyTo r s i).set i r).set (16 + i) s = keyTo r s (i + 1) := by
  unfold keyTo
  rw [List.set_append_left _ _ (by simp; omega), rep_set r 0 i 16 h, List.set_append_right _ _ (by simp; omega)]
  have e : 16 + i - (List.replicate (i + 1) r ++ List.replicate (16 - (i + 1)) 0).length = i := by simp; omega
  rw [e, rep_set s 0 i 16 h]
theorem keyTo_lt {r s : Nat} (hr : r < 256) (hs : s < 256) (i : Nat) : ∀ x ∈ keyTo r s i, x < 256 := fun x hx => by
  unfold keyTo at hx
  simp only [List.mem_append, List.mem_replicate] at hx
  omega
set_option maxHeartbeats 1000000 in
theorem edges_early (z : Int) (c r s : Nat) (w : World) (h : z < 0 ∨ 100 < z) :
    Calls Try.prog 4 #[.int .i64 z, .int .u8 c, .int .u8 r, .int .u8 s] w fun e w' => e = .returned (.bool true) ∧ Below w.heap.size w w' := by
  have HH : Hid (z < 0 ∨ 100 < z) := h
  clear h
  go_enter Try.func4, Try.ntmps4
  go_wp2_with fail
  refine (anchor_any w).mono ?_
  rintro e w1 ⟨rfl, hb1⟩
  have HB1 : Hid (Below w.heap.size w w1) := hb1
  clear hb1
  go_wp2_with fail
  all_goals first | (exfalso; have := HH.out; omega) | (go_ret; exact ⟨rfl, HB1.out⟩)
set_option maxHeartbeats 1000000 in
theorem edges_any (n c r s : Nat) (w : World) (hn : n ≤ 100) (hc : c < 256) (hr : r < 256) (hs : s < 256) :
    Calls Try.prog 4 #[.int .i64 n, .int .u8 c, .int .u8 r, .int .u8 s] w fun e w' => e = .returned (.bool true) ∧ Below w.heap.size w w' := by
  have h1 : ¬ (n : Int) < 0 := by omega
  have h2 : ¬ (100 : Int) < (n : Int) := by omega
  have hmk : ∀ w, (Instr.makeSlice 22 (.int .i64 32) (.int .i64 32)).run Try.prog w = .ok (.slice (some ⟨w.heap.size, 0, none⟩) 32 32) (w.alloc (.cells z32 5)) := fun w => make_bytes 32 32 .i64 (by decide) (by decide) w
  have hmn : ∀ w, (Instr.makeSlice 22 (.int .i64 (n : Int)) (.int .i64 (n : Int))).run Try.prog w = .ok (.slice (some ⟨w.heap.size, 0, none⟩) n n) (w.alloc (.cells (arr .u8 (List.replicate n 0)) 5)) := fun w => make_bytes n n .i64 (by omega) (by omega) w
  go_enter Try.func4, Try.ntmps4
  go_wp2_with fail
  refine (anchor_any w).mono ?_
  rintro e w1 ⟨rfl, hb1⟩
  have HB1 : Hid (Below w.heap.size w w1) := hb1
  clear hb1
  go_wp2_with fail
  go_region
  · have HK : Hid (BRow (((w1.alloc (Obj.cells z32 5)).alloc (Obj.cells (arr .u8 (List.replicate n 0)) 5)).drew) (w1.heap.size) (keyTo r s 0)) := by
      refine (show _ = _ from ?_)
      show ((w1.heap.push _).push _)[_]? = _
      rw [Array.getElem?_push_lt (by simp), Array.getElem_push_eq]
      rfl
    have HX : Hid (BRow (((w1.alloc (Obj.cells z32 5)).alloc (Obj.cells (arr .u8 (List.replicate n 0)) 5)).drew) (w1.heap.size + 1) (List.replicate n 0)) := by
      refine (show _ = _ from ?_)
      show ((w1.heap.push _).push _)[_]? = _
      rw [Array.getElem?_push, if_pos (by simp)]
    have HBW : Hid (Below w.heap.size w (((w1.alloc (Obj.cells z32 5)).alloc (Obj.cells (arr .u8 (List.replicate n 0)) 5)).drew)) := by
      have hb : Below w1.heap.size w1 (((w1.alloc (Obj.cells z32 5)).alloc (Obj.cells (arr .u8 (List.replicate n 0)) 5)).drew) := (((Below.refl _ _).alloc (Nat.le_refl _) _).alloc (by simp) _).drew
      exact HB1.out.trans (hb.mono HB1.out.size)
    have hsz := HB1.out.size
    have hgk : w.heap.size ≤ w1.heap.size := by omega
    have hgt : w.heap.size ≤ w1.heap.size + 1 := by omega
    have hne : w1.heap.size ≠ w1.heap.size + 1 := by omega
    clear hmk hmn hsz HB1
    generalize ((w1.alloc (Obj.cells z32 5)).alloc (Obj.cells (arr .u8 (List.replicate n 0)) 5)).drew = W2 at *
    generalize w1.heap.size + 1 = gt at *
    generalize w1.heap.size = gk at *
    go_wp2_with fail
    go_loopw [26] (fun u wr => ∃ i : Nat, i ≤ 16 ∧ u = .int .i64 i ∧ Hid (BRow wr gk (keyTo r s i)) ∧ Hid (W2.grownBy wr (some gk))) (fun u _ => 16 - (intOf u).toNat)
    case atStart => exact ⟨0, by omega, rfl, HK.out, grownBy_refl _ _⟩
    case round =>
      clear HK
      obtain ⟨i, hi, rfl, HK, HG⟩ := hrel
      by_cases hlt : i < 16
      · have hl := keyTo_length r s i hi
        have c1 := HK.out.cell i (by omega)
        have f1 := HK.out.may i
        have hk1 := HK.out.set i r
        have c2 := hk1.cell (16 + i) (by simp; omega)
        have f2 := hk1.may (16 + i)
        have HK2 : Hid (BRow ((wr.setCell ⟨gk, i, none⟩ (.int .u8 (r : Nat))).setCell ⟨gk, 16 + i, none⟩ (.int .u8 (s : Nat))) gk (keyTo r s (i + 1))) := by
          rw [← keyTo_succ r s i hlt]
          exact hk1.set (16 + i) s
        have HG2 : Hid (W2.grownBy ((wr.setCell ⟨gk, i, none⟩ (.int .u8 (r : Nat))).setCell ⟨gk, 16 + i, none⟩ (.int .u8 (s : Nat))) (some gk)) := grownBy_set (grownBy_set HG.out _ _) _ _
        clear hk1 hl HK HG
        generalize Sp.nth (keyTo r s i) i = o1 at *
        generalize Sp.nth ((keyTo r s i).set i r) (16 + i) = o2 at *
        have i0 : (0 : Int) ≤ (i : Int) := by omega
        have i1 : (i : Int) < 16 := by omega
        have i2 : (i : Int) < 32 := by omega
        have i3 : (16 : Int) + (i : Int) < 32 := by omega
        have i4 : ((16 : Int) + (i : Int)).toNat = 16 + i := by omega
        go_wp2_with fail
        go_roundw
        case rel => exact ⟨i + 1, by omega, by go_num, HK2.out, HG2.out⟩
        case measure => simp [intOf]; omega
      · obtain rfl : i = 16 := by omega
        have HT2 : Hid (BRow wr gt (List.replicate 0 c ++ List.replicate (n - 0) 0)) := HX.out.grown HG.out (Ne.symm hne)
        have HB2 : Hid (Below w.heap.size w wr) := below_grown HBW.out HG.out hgk
        clear HG HX HBW
        generalize hw4 : wr = w4 at *
        clear hw4
        go_wp2_with fail
        go_loopw [41] (fun u wr => ∃ i : Nat, i ≤ n ∧ u = .int .i64 i ∧ Hid (BRow wr gt (List.replicate i c ++ List.replicate (n - i) 0)) ∧ Hid (w4.grownBy wr (some gt))) (fun u _ => n - (intOf u).toNat)
        case atStart => exact ⟨0, by omega, rfl, HT2.out, grownBy_refl _ _⟩
        case round =>
          clear HT2
          obtain ⟨i, hi, rfl, HX, HG⟩ := hrel
          by_cases hlt : i < n
          · have c1 := HX.out.cell i (by simp; omega)
            have f1 := HX.out.may i
            have HX2 : Hid (BRow (wr.setCell ⟨gt, i, none⟩ (.int .u8 (c : Nat))) gt (List.replicate (i + 1) c ++ List.replicate (n - (i + 1)) 0)) := by
              rw [← rep_set c 0 i n hlt]
              exact HX.out.set i c
            have HG2 : Hid (w4.grownBy (wr.setCell ⟨gt, i, none⟩ (.int .u8 (c : Nat))) (some gt)) := grownBy_set HG.out _ _
            clear HX HG
            generalize Sp.nth (List.replicate i c ++ List.replicate (n - i) 0) i = o1 at *
            have i0 : (0 : Int) ≤ (i : Int) := by omega
            have i1 : (i : Int) < (n : Int) := by omega
            go_wp2_with fail
            go_roundw
            case rel => exact ⟨i + 1, by omega, by go_num, HX2.out, HG2.out⟩
            case measure => simp [intOf]; omega
          · obtain rfl : i = n := by omega
            have hx := HX.out
            rw [Nat.sub_self, List.replicate_zero, List.append_nil] at hx
            have hK3 : BRow wr gk (keyTo r s 16) := HK.out.grown HG.out hne
            have HB3 : Hid (Below w.heap.size w wr) := below_grown HB2.out HG.out hgt
            have hT3 : TextIs wr (some ⟨gt, 0, none⟩) (List.replicate i c) := ⟨fun x hx => by rw [List.eq_of_mem_replicate hx]; exact hc, fun _ => ⟨gt, 0, rfl, rangeAt_of_row hx⟩⟩
            have HXX : Hid (Calls Try.prog 10 #[.slice (some ⟨gk, 0, none⟩) 32 32, .slice (some ⟨gt, 0, none⟩) i i] wr fun e w' => ∃ v, e = .returned (.tuple #[v, .int .i64 0]) ∧ w'.ownsRow wr.heap.size 5 1 v 16 (ints .u8 (Po.tag (keyTo r s 16) (List.replicate i c))) ∧ Below wr.heap.size wr w') := tag_ok (keyTo r s 16) (List.replicate i c) gk 0 32 i i (some ⟨gt, 0, none⟩) wr (keyTo_length r s 16 (by decide)) (keyTo_lt hr hs 16) (rangeAt_of_row hK3) (by decide) hT3 (by simp) (by omega) (Nat.le_refl _)
            have HY : Hid (∀ w1, Below wr.heap.size wr w1 → Calls Try.prog 11 #[.slice (some ⟨gk, 0, none⟩) 32 32, .slice (some ⟨gt, 0, none⟩) i i] w1 fun e w' => ∃ v, e = .returned v ∧ Below w1.heap.size w1 w' ∧ RowV (Po.tag (keyTo r s 16) (List.replicate i c)) v w') := fun w1 hb => rtag_call (keyTo_length r s 16 (by decide)) (keyTo_lt hr hs 16) (rangeAt_below hb (rangeAt_of_row hK3)) (by decide) (hT3.below hb) (by simp) (by omega) (Nat.le_refl _)
            have HTL : Hid ((Po.tag (keyTo r s 16) (List.replicate i c)).length = 16) := Po.tag_length _ _
            clear hx hK3 hT3 HX HG HK HB2
            generalize Po.tag (keyTo r s 16) (List.replicate i c) = T at *
            go_wp2_with fail
            refine HXX.out.mono ?_
            rintro e w5 ⟨v5, rfl, ho5, hb5⟩
            obtain ⟨g, c5, rfl, _, _, _, hr5⟩ := own_cell ho5 (by decide)
            have HBW : Hid (Below w.heap.size w w5) := HB3.out.trans (hb5.mono HB3.out.size)
            have HV : Hid (RowV T (.slice (some ⟨g, 0, none⟩) 16 c5) w5) := .inl ⟨g, 0, c5, by rw [HTL.out], hr5⟩
            have HYS : Hid (∀ w', Below w5.heap.size w5 w' → Calls Try.prog 11 #[.slice (some ⟨gk, 0, none⟩) 32 32, .slice (some ⟨gt, 0, none⟩) i i] w' fun e w3 => ∃ v, e = .returned v ∧ Below w'.heap.size w' w3 ∧ RowV T v w3) := fun w' hb => HY.out w' (hb5.trans (hb.mono hb5.size))
            clear ho5 hb5 hr5 HB3 HXX HY
            go_wp2_with fail
            refine wp_region_inv (tagsV (.slice (some ⟨gk, 0, none⟩) 32 32) (.slice (some ⟨gt, 0, none⟩) i i) (.slice (some ⟨g, 0, none⟩) 16 c5) T) (fun u u' => Below u.heap.size u u') (by kernel_rfl) ((Below.refl _ _).drew) below_trans' (tagsV_kept _ _ _ _) (by kernel_rfl) ?_ ?_
            · intro i o a' w' hi inv hpre
              have hb : Below w5.heap.size w5 w' := inv.grow
              have hlt : i < 12 := (Array.getElem?_eq_some_iff.1 hi).1
              obtain rfl|rfl|rfl|rfl|rfl|rfl|rfl|rfl|rfl|rfl|rfl|rfl : i = 0 ∨ i = 1 ∨ i = 2 ∨ i = 3 ∨ i = 4 ∨ i = 5 ∨ i = 6 ∨ i = 7 ∨ i = 8 ∨ i = 9 ∨ i = 10 ∨ i = 11 := by omega
              · obtain rfl := Option.some.inj hi
                exact st_value _ rfl rfl rfl (Below.refl _ _) (by show a'.tmps.getD 14 undef = _; rw [inv.old 14 (notDst_spec (by kernel_rfl))]; rfl)
              · obtain rfl := Option.some.inj hi
                have h0 : a'.tmps.getD 55 undef = _ := pre_of hpre 0 55 (by kernel_rfl) (by kernel_rfl)
                exact st_value (.bool true) rfl rfl (eqe_run 55 rfl h0) (Below.refl _ _) rfl
              · obtain rfl := Option.some.inj hi
                have h0 : a'.tmps.getD 56 undef = _ := pre_of hpre 1 56 (by kernel_rfl) (by kernel_rfl)
                exact st_value _ rfl rfl rfl (Below.refl _ _) h0
              · obtain rfl := Option.some.inj hi
                have hgu : a'.tmps.getD 57 undef = _ := pre_of hpre 2 57 (by kernel_rfl) (by kernel_rfl)
                exact st_value _ rfl (wanted_of 2 57 rfl (by kernel_rfl) hgu) rfl (Below.refl _ _) (by show a'.tmps.getD 13 undef = _; rw [inv.old 13 (notDst_spec (by kernel_rfl))]; rfl)
              · obtain rfl := Option.some.inj hi
                have hgu : a'.tmps.getD 57 undef = _ := pre_of hpre 2 57 (by kernel_rfl) (by kernel_rfl)
                have h0 : a'.tmps.getD 58 undef = _ := pre_of hpre 3 58 (by kernel_rfl) (by kernel_rfl)
                have hv : RowV T (a'.tmps.getD 58 undef) w' := by rw [h0]; exact HV.out.kept hb
                exact st_value _ rfl (wanted_of 2 57 rfl (by kernel_rfl) hgu) (conv_run 58 rfl hv) (Below.refl _ _) rfl
              · obtain rfl := Option.some.inj hi
                have hgu : a'.tmps.getD 57 undef = _ := pre_of hpre 2 57 (by kernel_rfl) (by kernel_rfl)
                exact st_value _ rfl (wanted_of 2 57 rfl (by kernel_rfl) hgu) rfl (Below.refl _ _) (by show a'.tmps.getD 9 undef = _; rw [inv.old 9 (notDst_spec (by kernel_rfl))]; rfl)
              · obtain rfl := Option.some.inj hi
                have hgu : a'.tmps.getD 57 undef = _ := pre_of hpre 2 57 (by kernel_rfl) (by kernel_rfl)
                exact st_value _ rfl (wanted_of 2 57 rfl (by kernel_rfl) hgu) rfl (Below.refl _ _) (by show a'.tmps.getD 10 undef = _; rw [inv.old 10 (notDst_spec (by kernel_rfl))]; rfl)
              · obtain rfl := Option.some.inj hi
                have hgu : a'.tmps.getD 57 undef = _ := pre_of hpre 2 57 (by kernel_rfl) (by kernel_rfl)
                have h0 : a'.tmps.getD 60 undef = _ := pre_of hpre 5 60 (by kernel_rfl) (by kernel_rfl)
                have h1 : a'.tmps.getD 61 undef = _ := pre_of hpre 6 61 (by kernel_rfl) (by kernel_rfl)
                refine st_call 11 #[a'.tmps.getD 60 undef, a'.tmps.getD 61 undef] rfl (wanted_of 2 57 rfl (by kernel_rfl) hgu) (by kernel_rfl) ?_
                rw [h0, h1]
                exact HYS.out _ hb
              · obtain rfl := Option.some.inj hi
                have hgu : a'.tmps.getD 57 undef = _ := pre_of hpre 2 57 (by kernel_rfl) (by kernel_rfl)
                have h0 := pre_of hpre 7 62 (by kernel_rfl) (by kernel_rfl)
                exact st_value _ rfl (wanted_of 2 57 rfl (by kernel_rfl) hgu) (conv_run 62 rfl h0) (Below.refl _ _) rfl
              · obtain rfl := Option.some.inj hi
                have hgu : a'.tmps.getD 57 undef = _ := pre_of hpre 2 57 (by kernel_rfl) (by kernel_rfl)
                have h0 : a'.tmps.getD 59 undef = _ := pre_of hpre 4 59 (by kernel_rfl) (by kernel_rfl)
                have h1 : a'.tmps.getD 63 undef = _ := pre_of hpre 8 63 (by kernel_rfl) (by kernel_rfl)
                exact st_value (.bool true) rfl (wanted_of 2 57 rfl (by kernel_rfl) hgu) (eq_run 59 63 rfl h0 h1) (Below.refl _ _) rfl
              · obtain rfl := Option.some.inj hi
                have h0 : a'.tmps.getD 57 undef = _ := pre_of hpre 2 57 (by kernel_rfl) (by kernel_rfl)
                have h1 : a'.tmps.getD 64 undef = _ := pre_of hpre 9 64 (by kernel_rfl) (by kernel_rfl)
                exact st_value (.bool true) rfl rfl (pick_step h0 h1 rfl) (Below.refl _ _) rfl
              · obtain rfl := Option.some.inj hi
                have h0 : a'.tmps.getD 65 undef = _ := pre_of hpre 10 65 (by kernel_rfl) (by kernel_rfl)
                exact st_value _ rfl rfl rfl (Below.refl _ _) h0
            · intro a' w' inv hd
              have h0 : a'.tmps.getD 8 undef = _ := hd 11 8 (by kernel_rfl)
              have hb : Below w5.heap.size w5 w' := inv.grow
              have hb7 : Below w.heap.size w w' := HBW.out.trans (hb.mono HBW.out.size)
              have hdf : a'.defers = [] := inv.defers
              clear inv hd hb
              go_wp2
              exact ⟨hdf, _, results_tmp rfl _ _ _, by rw [h0], hb7⟩
  · have HK : Hid (BRow (((w1.alloc (Obj.cells (arr .u8 (List.replicate n 0)) 5)).alloc (Obj.cells z32 5)).drew) (w1.heap.size + 1) (keyTo r s 0)) := by
      refine (show _ = _ from ?_)
      show ((w1.heap.push _).push _)[_]? = _
      rw [Array.getElem?_push, if_pos (by simp)]
      rfl
    have HX : Hid (BRow (((w1.alloc (Obj.cells (arr .u8 (List.replicate n 0)) 5)).alloc (Obj.cells z32 5)).drew) (w1.heap.size) (List.replicate n 0)) := by
      refine (show _ = _ from ?_)
      show ((w1.heap.push _).push _)[_]? = _
      rw [Array.getElem?_push_lt (by simp), Array.getElem_push_eq]
    have HBW : Hid (Below w.heap.size w (((w1.alloc (Obj.cells (arr .u8 (List.replicate n 0)) 5)).alloc (Obj.cells z32 5)).drew)) := by
      have hb : Below w1.heap.size w1 (((w1.alloc (Obj.cells (arr .u8 (List.replicate n 0)) 5)).alloc (Obj.cells z32 5)).drew) := (((Below.refl _ _).alloc (Nat.le_refl _) _).alloc (by simp) _).drew
      exact HB1.out.trans (hb.mono HB1.out.size)
    have hsz := HB1.out.size
    have hgk : w.heap.size ≤ w1.heap.size + 1 := by omega
    have hgt : w.heap.size ≤ w1.heap.size := by omega
    have hne : w1.heap.size + 1 ≠ w1.heap.size := by omega
    clear hmk hmn hsz HB1
    generalize ((w1.alloc (Obj.cells (arr .u8 (List.replicate n 0)) 5)).alloc (Obj.cells z32 5)).drew = W2 at *
    generalize w1.heap.size + 1 = gk at *
    generalize w1.heap.size = gt at *
    go_wp2_with fail
    go_loopw [26] (fun u wr => ∃ i : Nat, i ≤ 16 ∧ u = .int .i64 i ∧ Hid (BRow wr gk (keyTo r s i)) ∧ Hid (W2.grownBy wr (some gk))) (fun u _ => 16 - (intOf u).toNat)
    case atStart => exact ⟨0, by omega, rfl, HK.out, grownBy_refl _ _⟩
    case round =>
      clear HK
      obtain ⟨i, hi, rfl, HK, HG⟩ := hrel
      by_cases hlt : i < 16
      · have hl := keyTo_length r s i hi
        have c1 := HK.out.cell i (by omega)
        have f1 := HK.out.may i
        have hk1 := HK.out.set i r
        have c2 := hk1.cell (16 + i) (by simp; omega)
        have f2 := hk1.may (16 + i)
        have HK2 : Hid (BRow ((wr.setCell ⟨gk, i, none⟩ (.int .u8 (r : Nat))).setCell ⟨gk, 16 + i, none⟩ (.int .u8 (s : Nat))) gk (keyTo r s (i + 1))) := by
          rw [← keyTo_succ r s i hlt]
          exact hk1.set (16 + i) s
        have HG2 : Hid (W2.grownBy ((wr.setCell ⟨gk, i, none⟩ (.int .u8 (r : Nat))).setCell ⟨gk, 16 + i, none⟩ (.int .u8 (s : Nat))) (some gk)) := grownBy_set (grownBy_set HG.out _ _) _ _
        clear hk1 hl HK HG
        generalize Sp.nth (keyTo r s i) i = o1 at *
        generalize Sp.nth ((keyTo r s i).set i r) (16 + i) = o2 at *
        have i0 : (0 : Int) ≤ (i : Int) := by omega
        have i1 : (i : Int) < 16 := by omega
        have i2 : (i : Int) < 32 := by omega
        have i3 : (16 : Int) + (i : Int) < 32 := by omega
        have i4 : ((16 : Int) + (i : Int)).toNat = 16 + i := by omega
        go_wp2_with fail
        go_roundw
        case rel => exact ⟨i + 1, by omega, by go_num, HK2.out, HG2.out⟩
        case measure => simp [intOf]; omega
      · obtain rfl : i = 16 := by omega
        have HT2 : Hid (BRow wr gt (List.replicate 0 c ++ List.replicate (n - 0) 0)) := HX.out.grown HG.out (Ne.symm hne)
        have HB2 : Hid (Below w.heap.size w wr) := below_grown HBW.out HG.out hgk
        clear HG HX HBW
        generalize hw4 : wr = w4 at *
        clear hw4
        go_wp2_with fail
        go_loopw [41] (fun u wr => ∃ i : Nat, i ≤ n ∧ u = .int .i64 i ∧ Hid (BRow wr gt (List.replicate i c ++ List.replicate (n - i) 0)) ∧ Hid (w4.grownBy wr (some gt))) (fun u _ => n - (intOf u).toNat)
        case atStart => exact ⟨0, by omega, rfl, HT2.out, grownBy_refl _ _⟩
        case round =>
          clear HT2
          obtain ⟨i, hi, rfl, HX, HG⟩ := hrel
          by_cases hlt : i < n
          · have c1 := HX.out.cell i (by simp; omega)
            have f1 := HX.out.may i
            have HX2 : Hid (BRow (wr.setCell ⟨gt, i, none⟩ (.int .u8 (c : Nat))) gt (List.replicate (i + 1) c ++ List.replicate (n - (i + 1)) 0)) := by
              rw [← rep_set c 0 i n hlt]
              exact HX.out.set i c
            have HG2 : Hid (w4.grownBy (wr.setCell ⟨gt, i, none⟩ (.int .u8 (c : Nat))) (some gt)) := grownBy_set HG.out _ _
            clear HX HG
            generalize Sp.nth (List.replicate i c ++ List.replicate (n - i) 0) i = o1 at *
            have i0 : (0 : Int) ≤ (i : Int) := by omega
            have i1 : (i : Int) < (n : Int) := by omega
            go_wp2_with fail
            go_roundw
            case rel => exact ⟨i + 1, by omega, by go_num, HX2.out, HG2.out⟩
            case measure => simp [intOf]; omega
          · obtain rfl : i = n := by omega
            have hx := HX.out
            rw [Nat.sub_self, List.replicate_zero, List.append_nil] at hx
            have hK3 : BRow wr gk (keyTo r s 16) := HK.out.grown HG.out hne
            have HB3 : Hid (Below w.heap.size w wr) := below_grown HB2.out HG.out hgt
            have hT3 : TextIs wr (some ⟨gt, 0, none⟩) (List.replicate i c) := ⟨fun x hx => by rw [List.eq_of_mem_replicate hx]; exact hc, fun _ => ⟨gt, 0, rfl, rangeAt_of_row hx⟩⟩
            have HXX : Hid (Calls Try.prog 10 #[.slice (some ⟨gk, 0, none⟩) 32 32, .slice (some ⟨gt, 0, none⟩) i i] wr fun e w' => ∃ v, e = .returned (.tuple #[v, .int .i64 0]) ∧ w'.ownsRow wr.heap.size 5 1 v 16 (ints .u8 (Po.tag (keyTo r s 16) (List.replicate i c))) ∧ Below wr.heap.size wr w') := tag_ok (keyTo r s 16) (List.replicate i c) gk 0 32 i i (some ⟨gt, 0, none⟩) wr (keyTo_length r s 16 (by decide)) (keyTo_lt hr hs 16) (rangeAt_of_row hK3) (by decide) hT3 (by simp) (by omega) (Nat.le_refl _)
            have HY : Hid (∀ w1, Below wr.heap.size wr w1 → Calls Try.prog 11 #[.slice (some ⟨gk, 0, none⟩) 32 32, .slice (some ⟨gt, 0, none⟩) i i] w1 fun e w' => ∃ v, e = .returned v ∧ Below w1.heap.size w1 w' ∧ RowV (Po.tag (keyTo r s 16) (List.replicate i c)) v w') := fun w1 hb => rtag_call (keyTo_length r s 16 (by decide)) (keyTo_lt hr hs 16) (rangeAt_below hb (rangeAt_of_row hK3)) (by decide) (hT3.below hb) (by simp) (by omega) (Nat.le_refl _)
            have HTL : Hid ((Po.tag (keyTo r s 16) (List.replicate i c)).length = 16) := Po.tag_length _ _
            clear hx hK3 hT3 HX HG HK HB2
            generalize Po.tag (keyTo r s 16) (List.replicate i c) = T at *
            go_wp2_with fail
            refine HXX.out.mono ?_
            rintro e w5 ⟨v5, rfl, ho5, hb5⟩
            obtain ⟨g, c5, rfl, _, _, _, hr5⟩ := own_cell ho5 (by decide)
            have HBW : Hid (Below w.heap.size w w5) := HB3.out.trans (hb5.mono HB3.out.size)
            have HV : Hid (RowV T (.slice (some ⟨g, 0, none⟩) 16 c5) w5) := .inl ⟨g, 0, c5, by rw [HTL.out], hr5⟩
            have HYS : Hid (∀ w', Below w5.heap.size w5 w' → Calls Try.prog 11 #[.slice (some ⟨gk, 0, none⟩) 32 32, .slice (some ⟨gt, 0, none⟩) i i] w' fun e w3 => ∃ v, e = .returned v ∧ Below w'.heap.size w' w3 ∧ RowV T v w3) := fun w' hb => HY.out w' (hb5.trans (hb.mono hb5.size))
            clear ho5 hb5 hr5 HB3 HXX HY
            go_wp2_with fail
            refine wp_region_inv (tagsV (.slice (some ⟨gk, 0, none⟩) 32 32) (.slice (some ⟨gt, 0, none⟩) i i) (.slice (some ⟨g, 0, none⟩) 16 c5) T) (fun u u' => Below u.heap.size u u') (by kernel_rfl) ((Below.refl _ _).drew) below_trans' (tagsV_kept _ _ _ _) (by kernel_rfl) ?_ ?_
            · intro i o a' w' hi inv hpre
              have hb : Below w5.heap.size w5 w' := inv.grow
              have hlt : i < 12 := (Array.getElem?_eq_some_iff.1 hi).1
              obtain rfl|rfl|rfl|rfl|rfl|rfl|rfl|rfl|rfl|rfl|rfl|rfl : i = 0 ∨ i = 1 ∨ i = 2 ∨ i = 3 ∨ i = 4 ∨ i = 5 ∨ i = 6 ∨ i = 7 ∨ i = 8 ∨ i = 9 ∨ i = 10 ∨ i = 11 := by omega
              · obtain rfl := Option.some.inj hi
                exact st_value _ rfl rfl rfl (Below.refl _ _) (by show a'.tmps.getD 14 undef = _; rw [inv.old 14 (notDst_spec (by kernel_rfl))]; rfl)
              · obtain rfl := Option.some.inj hi
                have h0 : a'.tmps.getD 55 undef = _ := pre_of hpre 0 55 (by kernel_rfl) (by kernel_rfl)
                exact st_value (.bool true) rfl rfl (eqe_run 55 rfl h0) (Below.refl _ _) rfl
              · obtain rfl := Option.some.inj hi
                have h0 : a'.tmps.getD 56 undef = _ := pre_of hpre 1 56 (by kernel_rfl) (by kernel_rfl)
                exact st_value _ rfl rfl rfl (Below.refl _ _) h0
              · obtain rfl := Option.some.inj hi
                have hgu : a'.tmps.getD 57 undef = _ := pre_of hpre 2 57 (by kernel_rfl) (by kernel_rfl)
                exact st_value _ rfl (wanted_of 2 57 rfl (by kernel_rfl) hgu) rfl (Below.refl _ _) (by show a'.tmps.getD 13 undef = _; rw [inv.old 13 (notDst_spec (by kernel_rfl))]; rfl)
              · obtain rfl := Option.some.inj hi
                have hgu : a'.tmps.getD 57 undef = _ := pre_of hpre 2 57 (by kernel_rfl) (by kernel_rfl)
                have h0 : a'.tmps.getD 58 undef = _ := pre_of hpre 3 58 (by kernel_rfl) (by kernel_rfl)
                have hv : RowV T (a'.tmps.getD 58 undef) w' := by rw [h0]; exact HV.out.kept hb
                exact st_value _ rfl (wanted_of 2 57 rfl (by kernel_rfl) hgu) (conv_run 58 rfl hv) (Below.refl _ _) rfl
              · obtain rfl := Option.some.inj hi
                have hgu : a'.tmps.getD 57 undef = _ := pre_of hpre 2 57 (by kernel_rfl) (by kernel_rfl)
                exact st_value _ rfl (wanted_of 2 57 rfl (by kernel_rfl) hgu) rfl (Below.refl _ _) (by show a'.tmps.getD 9 undef = _; rw [inv.old 9 (notDst_spec (by kernel_rfl))]; rfl)
              · obtain rfl := Option.some.inj hi
                have hgu : a'.tmps.getD 57 undef = _ := pre_of hpre 2 57 (by kernel_rfl) (by kernel_rfl)
                exact st_value _ rfl (wanted_of 2 57 rfl (by kernel_rfl) hgu) rfl (Below.refl _ _) (by show a'.tmps.getD 10 undef = _; rw [inv.old 10 (notDst_spec (by kernel_rfl))]; rfl)
              · obtain rfl := Option.some.inj hi
                have hgu : a'.tmps.getD 57 undef = _ := pre_of hpre 2 57 (by kernel_rfl) (by kernel_rfl)
                have h0 : a'.tmps.getD 60 undef = _ := pre_of hpre 5 60 (by kernel_rfl) (by kernel_rfl)
                have h1 : a'.tmps.getD 61 undef = _ := pre_of hpre 6 61 (by kernel_rfl) (by kernel_rfl)
                refine st_call 11 #[a'.tmps.getD 60 undef, a'.tmps.getD 61 undef] rfl (wanted_of 2 57 rfl (by kernel_rfl) hgu) (by kernel_rfl) ?_
                rw [h0, h1]
                exact HYS.out _ hb
              · obtain rfl := Option.some.inj hi
                have hgu : a'.tmps.getD 57 undef = _ := pre_of hpre 2 57 (by kernel_rfl) (by kernel_rfl)
                have h0 := pre_of hpre 7 62 (by kernel_rfl) (by kernel_rfl)
                exact st_value _ rfl (wanted_of 2 57 rfl (by kernel_rfl) hgu) (conv_run 62 rfl h0) (Below.refl _ _) rfl
              · obtain rfl := Option.some.inj hi
                have hgu : a'.tmps.getD 57 undef = _ := pre_of hpre 2 57 (by kernel_rfl) (by kernel_rfl)
                have h0 : a'.tmps.getD 59 undef = _ := pre_of hpre 4 59 (by kernel_rfl) (by kernel_rfl)
                have h1 : a'.tmps.getD 63 undef = _ := pre_of hpre 8 63 (by kernel_rfl) (by kernel_rfl)
                exact st_value (.bool true) rfl (wanted_of 2 57 rfl (by kernel_rfl) hgu) (eq_run 59 63 rfl h0 h1) (Below.refl _ _) rfl
              · obtain rfl := Option.some.inj hi
                have h0 : a'.tmps.getD 57 undef = _ := pre_of hpre 2 57 (by kernel_rfl) (by kernel_rfl)
                have h1 : a'.tmps.getD 64 undef = _ := pre_of hpre 9 64 (by kernel_rfl) (by kernel_rfl)
                exact st_value (.bool true) rfl rfl (pick_step h0 h1 rfl) (Below.refl _ _) rfl
              · obtain rfl := Option.some.inj hi
                have h0 : a'.tmps.getD 65 undef = _ := pre_of hpre 10 65 (by kernel_rfl) (by kernel_rfl)
                exact st_value _ rfl rfl rfl (Below.refl _ _) h0
            · intro a' w' inv hd
              have h0 : a'.tmps.getD 8 undef = _ := hd 11 8 (by kernel_rfl)
              have hb : Below w5.heap.size w5 w' := inv.grow
              have hb7 : Below w.heap.size w w' := HBW.out.trans (hb.mono HBW.out.size)
              have hdf : a'.defers = [] := inv.defers
              clear inv hd hb
              go_wp2
              exact ⟨hdf, _, results_tmp rfl _ _ _, by rw [h0], hb7⟩
end Go.Proofs.Ytncnckiknhhbjaa
