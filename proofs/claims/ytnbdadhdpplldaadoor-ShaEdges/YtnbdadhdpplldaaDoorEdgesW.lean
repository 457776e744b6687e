/- The walk of ShaEdges. -/
import Derived.Test.YtnbdadhdpplldaaDoorSumsW
namespace Go.Proofs.YtnbdadhdpplldaaDoor
open Go.RowKit
theorem len_run {o : Oper} {a' : Act} {w' : World} {m : List Nat} (t : Tmp) (ho : o.op = .call { callee := .builtin .len, args := #[.tmp t], argTypes := #[22] }) (h : SumV m (a'.tmps.getD t undef) w') :
    (execOp a'.eval o).run Tryd.prog w' = .ok (.value (.int .i64 32)) w' := by
  obtain ⟨b, hv, _⟩ := h
  have he : a'.eval (.tmp t) = .slice (some ⟨b, 0, none⟩) 32 32 := hv
  unfold execOp
  simp only [ho]
  generalize a'.eval = r at *
  simp [he, go_sem]
theorem eqn_run {o : Oper} {a' : Act} {w' : World} (t : Tmp) (ho : o.op = .binOp .eql 3 (.tmp t) (.const (.int .i64 32)) 3) (h : a'.tmps.getD t undef = .int .i64 32) :
    (execOp a'.eval o).run Tryd.prog w' = .ok (.value (.bool true)) w' := by
  unfold execOp
  simp only [ho, Act.eval, h]
  simp [go_sem]
/-- A row of bytes in a block of its own. -/
def BRow (w : World) (g : Nat) (l : List Nat) : Prop := w.heap[g]? = some (.cells (arr .u8 l) 5 (0, 0))
theorem BRow.set {w : World} {g : Nat} {l : List Nat} (h : BRow w g l) (i x : Nat) : BRow (w.setCell ⟨g, i, none⟩ (.int .u8 (x : Nat))) g (l.set i x) := by
  have := heap_setCell_same w g i (arr .u8 l) 5 (.int .u8 (x : Nat)) h
  unfold BRow
  rw [this]
  congr 2
  apply Array.ext'
  simp [arr, ints]
theorem fill_set (n k c : Nat) (h : k < n) : (List.replicate k c ++ List.replicate (n - k) 0).set k c = List.replicate (k + 1) c ++ List.replicate (n - (k + 1)) 0 := by
  rw [show n - k = (n - (k + 1)) + 1 from by omega, List.replicate_succ, List.set_append_right _ _ (by simp)]
  simp [List.replicate_succ']
def edgeV (x : Value) (l : List Nat) : Nat → Value → World → Prop
  | 0 => IsV x
  | 1 => PartV x
  | 2 => SumV l
  | 3 => StrV l
  | 4 => IsV x
  | 5 => RsV l
  | 6 => StrV l
  | 7 => IsV (.bool true)
  | 8 => IsV (.bool true)
  | 9 => IsV x
  | 10 => PartV x
  | 11 => SumV l
  | 12 => IsV (.int .i64 32)
  | 13 => IsV (.bool true)
  | 14 => IsV (.bool true)
  | 15 => IsV (.bool true)
  | _ => fun _ _ => True
theorem edgeV_kept (x : Value) (l : List Nat) : ∀ i v w w', edgeV x l i v w → Below w.heap.size w w' → edgeV x l i v w'
  | 0, _, _, _, h, _ => h
  | 1, _, _, _, h, hb => PartV.kept h hb
  | 2, _, _, _, h, hb => SumV.kept h hb
  | 3, _, _, _, h, _ => h
  | 4, _, _, _, h, _ => h
  | 5, _, _, _, h, hb => RsV.kept h hb
  | 6, _, _, _, h, _ => h
  | 7, _, _, _, h, _ => h
  | 8, _, _, _, h, _ => h
  | 9, _, _, _, h, _ => h
  | 10, _, _, _, h, hb => PartV.kept h hb
  | 11, _, _, _, h, hb => SumV.kept h hb
  | 12, _, _, _, h, _ => h
  | 13, _, _, _, h, _ => h
  | 14, _, _, _, h, _ => h
  | 15, _, _, _, h, _ => h
  | _ + 16, _, _, _, _, _ => trivial
set_option maxHeartbeats 1000000 in
theorem shaEdges_any (n c : Nat) (w : World) (hn : n ≤ 200) (hc : c < 256) (hT : Tab w) :
    Calls Tryd.prog 5 #[.int .i64 n, .int .u8 c] w fun e w' => e = .returned (.bool true) ∧ Below w.heap.size w w' := by
  have HT : Hid (Tab w) := hT
  clear hT
  have n0 : (0 : Int) ≤ (n : Int) := by omega
  have n1 : ¬ (200 : Int) < (n : Int) := by omega
  have n2 : ¬ (n : Int) < 0 := by omega
  have n3 : decide ((n : Int) < 0) = false := by simp
  have hmk := fun w => make_bytes n n .i64 (Nat.le_refl _) (by omega) w
  go_enter Tryd.func5, Tryd.ntmps5
  go_wp2_with fail
  refine (anchor_any w HT.out).mono ?_
  rintro e w1 ⟨rfl, hb1⟩
  have HB1 : Hid (Below w.heap.size w w1) := hb1
  have hs1 := hb1.size
  clear hb1
  go_wp2_with fail
  go_loopw [19] (fun i wr => ∃ k : Nat, k ≤ n ∧ i = .int .i64 k ∧ Hid (BRow wr w1.heap.size (List.replicate k c ++ List.replicate (n - k) 0)) ∧ Hid (Below w.heap.size w wr)) (fun i _ => n - (intOf i).toNat)
  case atStart => exact ⟨0, by omega, rfl, heap_alloc_new w1 _, HB1.out.alloc hs1 _⟩
  case round =>
    clear HB1
    obtain ⟨k, hk, rfl, HR, HB⟩ := hrel
    by_cases hlt : k < n
    · have k0 : (0 : Int) ≤ (k : Int) := by omega
      have k1 : (k : Int) < (n : Int) := by omega
      have hcell : wr.cell? ⟨w1.heap.size, k, none⟩ = some (.int .u8 (Sp.nth (List.replicate k c ++ List.replicate (n - k) 0) k : Nat)) := by
        rw [cell_of_row _ _ _ _ _ _ HR.out]
        exact arr_get _ _ _ (by simp; omega)
      have hfr : wr.frozen? ⟨w1.heap.size, k, none⟩ = false := frozen_of_row _ _ _ _ _ HR.out
      have HRN : Hid (BRow (wr.setCell ⟨w1.heap.size, k, none⟩ (.int .u8 (c : Nat))) w1.heap.size (List.replicate (k + 1) c ++ List.replicate (n - (k + 1)) 0)) := by
        rw [← fill_set n k c hlt]
        exact HR.out.set k c
      have HBN : Hid (Below w.heap.size w (wr.setCell ⟨w1.heap.size, k, none⟩ (.int .u8 (c : Nat)))) := HB.out.setCell (by exact hs1) _
      generalize Sp.nth (List.replicate k c ++ List.replicate (n - k) 0) k = z at *
      clear hmk
      go_wp2_with fail
      go_roundw
      case rel => exact ⟨k + 1, by omega, by go_num, HRN.out, HBN.out⟩
      case measure => simp [intOf]; omega
    · obtain rfl : k = n := by omega
      have hR := HR.out
      rw [Nat.sub_self, List.replicate_zero, List.append_nil] at hR
      obtain ⟨l, hl⟩ : ∃ l, List.replicate k c = l := ⟨_, rfl⟩
      have hll : l.length = k := by rw [← hl]; simp
      have hls : ∀ x ∈ l, x < 256 := by
        rw [← hl]
        intro x hx
        have := (List.mem_replicate.1 hx).2
        omega
      rw [hl] at hR
      have HX : Hid (BytesAt wr (.slice (some ⟨w1.heap.size, 0, none⟩) k k) l) := by
        have := bytesAt_row (c := k) hls (by omega) hR
        rw [hll] at this
        exact this
      have HRS : Hid (∀ w', Below wr.heap.size wr w' → Calls Tryd.prog 11 #[.slice (some ⟨w1.heap.size, 0, none⟩) k k] w' fun e w2 => ∃ v, e = .returned v ∧ Below w'.heap.size w' w2 ∧ RsV l v w2) := fun w' hb => by
        have hsr : SrcIs wr (.slice (some ⟨w1.heap.size, 0, none⟩) l.length k) l := .inr ⟨⟨w1.heap.size, 0, none⟩, k, rfl, fun j u hu => by rw [Addr.add_mid]; exact rangeAt_of_row hR j u hu⟩
        have := rsum_step hsr hls (by omega) hb
        rw [hll] at this
        exact this
      have hT1 := tab_below HT.out HB.out
      have HT1 : Hid (Tab wr) := hT1
      have HLL : Hid (l.length = k) := hll
      clear hmk hR hl hll hls hT1 HR
      go_wp2_with fail
      have hT1 := HT1.out
      have hl : l.length < 576460752303423488 := by rw [HLL.out]; omega
      refine wp_region_inv (edgeV (.slice (some ⟨w1.heap.size, 0, none⟩) k k) l) (fun u u' => Below u.heap.size u u') (by kernel_rfl) ((Below.refl _ _).drew) below_trans' (edgeV_kept _ _) (by kernel_rfl) ?_ ?_
      · intro i o a' w' hi inv hpre
        have hb : Below wr.heap.size wr w' := inv.grow
        have hlt : i < 16 := (Array.getElem?_eq_some_iff.1 hi).1
        obtain rfl|rfl|rfl|rfl|rfl|rfl|rfl|rfl|rfl|rfl|rfl|rfl|rfl|rfl|rfl|rfl : i = 0 ∨ i = 1 ∨ i = 2 ∨ i = 3 ∨ i = 4 ∨ i = 5 ∨ i = 6 ∨ i = 7 ∨ i = 8 ∨ i = 9 ∨ i = 10 ∨ i = 11 ∨ i = 12 ∨ i = 13 ∨ i = 14 ∨ i = 15 := by omega
        · obtain rfl := Option.some.inj hi
          exact st_value _ rfl rfl rfl (Below.refl _ _) (by show a'.tmps.getD 5 undef = _; rw [inv.old 5 (notDst_spec (by kernel_rfl))]; rfl)
        · obtain rfl := Option.some.inj hi
          have h0 : a'.tmps.getD 27 undef = _ := pre_of hpre 0 27 (by kernel_rfl) (by kernel_rfl)
          refine st_value (.slice (some ⟨w'.heap.size, 0, none⟩) 1 1) rfl rfl (build_one 27 rfl h0) ((Below.refl _ _).alloc (Nat.le_refl _) _) ?_
          exact ⟨_, rfl, by rw [cell_of_row _ _ _ _ _ _ (heap_alloc_new w' _)]; rfl⟩
        · obtain rfl := Option.some.inj hi
          have h0 := pre_of hpre 1 28 (by kernel_rfl) (by kernel_rfl)
          refine st_call 10 #[a'.tmps.getD 28 undef] rfl rfl (by kernel_rfl) ?_
          exact sum1_step HX.out hT1 hl hb h0
        · obtain rfl := Option.some.inj hi
          have h0 := pre_of hpre 2 29 (by kernel_rfl) (by kernel_rfl)
          exact st_value _ rfl rfl (conv_run 29 rfl h0) (Below.refl _ _) rfl
        · obtain rfl := Option.some.inj hi
          exact st_value _ rfl rfl rfl (Below.refl _ _) (by show a'.tmps.getD 5 undef = _; rw [inv.old 5 (notDst_spec (by kernel_rfl))]; rfl)
        · obtain rfl := Option.some.inj hi
          have h0 : a'.tmps.getD 31 undef = _ := pre_of hpre 4 31 (by kernel_rfl) (by kernel_rfl)
          refine st_call 11 #[a'.tmps.getD 31 undef] rfl rfl (by kernel_rfl) ?_
          rw [h0]
          exact HRS.out _ hb
        · obtain rfl := Option.some.inj hi
          have h0 := pre_of hpre 5 32 (by kernel_rfl) (by kernel_rfl)
          exact st_value _ rfl rfl (rconv_run 32 rfl h0) (Below.refl _ _) rfl
        · obtain rfl := Option.some.inj hi
          have h0 : a'.tmps.getD 30 undef = _ := pre_of hpre 3 30 (by kernel_rfl) (by kernel_rfl)
          have h1 : a'.tmps.getD 33 undef = _ := pre_of hpre 6 33 (by kernel_rfl) (by kernel_rfl)
          exact st_value (.bool true) rfl rfl (eq_run 30 33 rfl h0 h1) (Below.refl _ _) rfl
        · obtain rfl := Option.some.inj hi
          have h0 : a'.tmps.getD 34 undef = _ := pre_of hpre 7 34 (by kernel_rfl) (by kernel_rfl)
          exact st_value _ rfl rfl rfl (Below.refl _ _) h0
        · obtain rfl := Option.some.inj hi
          have hgu : a'.tmps.getD 35 undef = _ := pre_of hpre 8 35 (by kernel_rfl) (by kernel_rfl)
          exact st_value _ rfl (wanted_of 8 35 rfl (by kernel_rfl) hgu) rfl (Below.refl _ _) (by show a'.tmps.getD 5 undef = _; rw [inv.old 5 (notDst_spec (by kernel_rfl))]; rfl)
        · obtain rfl := Option.some.inj hi
          have hgu : a'.tmps.getD 35 undef = _ := pre_of hpre 8 35 (by kernel_rfl) (by kernel_rfl)
          have h0 : a'.tmps.getD 36 undef = _ := pre_of hpre 9 36 (by kernel_rfl) (by kernel_rfl)
          refine st_value (.slice (some ⟨w'.heap.size, 0, none⟩) 1 1) rfl (wanted_of 8 35 rfl (by kernel_rfl) hgu) (build_one 36 rfl h0) ((Below.refl _ _).alloc (Nat.le_refl _) _) ?_
          exact ⟨_, rfl, by rw [cell_of_row _ _ _ _ _ _ (heap_alloc_new w' _)]; rfl⟩
        · obtain rfl := Option.some.inj hi
          have hgu : a'.tmps.getD 35 undef = _ := pre_of hpre 8 35 (by kernel_rfl) (by kernel_rfl)
          have h0 := pre_of hpre 10 37 (by kernel_rfl) (by kernel_rfl)
          refine st_call 10 #[a'.tmps.getD 37 undef] rfl (wanted_of 8 35 rfl (by kernel_rfl) hgu) (by kernel_rfl) ?_
          exact sum1_step HX.out hT1 hl hb h0
        · obtain rfl := Option.some.inj hi
          have hgu : a'.tmps.getD 35 undef = _ := pre_of hpre 8 35 (by kernel_rfl) (by kernel_rfl)
          have h0 := pre_of hpre 11 38 (by kernel_rfl) (by kernel_rfl)
          exact st_value (.int .i64 32) rfl (wanted_of 8 35 rfl (by kernel_rfl) hgu) (len_run 38 rfl h0) (Below.refl _ _) rfl
        · obtain rfl := Option.some.inj hi
          have hgu : a'.tmps.getD 35 undef = _ := pre_of hpre 8 35 (by kernel_rfl) (by kernel_rfl)
          have h0 : a'.tmps.getD 39 undef = _ := pre_of hpre 12 39 (by kernel_rfl) (by kernel_rfl)
          exact st_value (.bool true) rfl (wanted_of 8 35 rfl (by kernel_rfl) hgu) (eqn_run 39 rfl h0) (Below.refl _ _) rfl
        · obtain rfl := Option.some.inj hi
          have h0 : a'.tmps.getD 35 undef = _ := pre_of hpre 8 35 (by kernel_rfl) (by kernel_rfl)
          have h1 : a'.tmps.getD 40 undef = _ := pre_of hpre 13 40 (by kernel_rfl) (by kernel_rfl)
          exact st_value (.bool true) rfl rfl (pick_step h0 h1 rfl) (Below.refl _ _) rfl
        · obtain rfl := Option.some.inj hi
          have h0 : a'.tmps.getD 41 undef = _ := pre_of hpre 14 41 (by kernel_rfl) (by kernel_rfl)
          exact st_value _ rfl rfl rfl (Below.refl _ _) h0
      · intro a' w' inv hd
        have h0 : a'.tmps.getD 4 undef = _ := hd 15 4 (by kernel_rfl)
        have hb : Below wr.heap.size wr w' := inv.grow
        have hb7 : Below w.heap.size w w' := HB.out.trans (hb.mono HB.out.size)
        have hdf : a'.defers = [] := inv.defers
        clear inv hd hb
        go_wp2
        exact ⟨hdf, _, results_tmp rfl _ _ _, by rw [h0], hb7⟩
set_option maxHeartbeats 400000 in
theorem shaEdges_early (z : Int) (v : Value) (w : World) (hT : Tab w) (h : z < 0 ∨ 200 < z) (_h1 : -9223372036854775808 ≤ z) (_h2 : z ≤ 9223372036854775807) :
    Calls Tryd.prog 5 #[.int .i64 z, v] w fun e w' => e = .returned (.bool true) ∧ Below w.heap.size w w' := by
  have HT : Hid (Tab w) := hT
  clear hT
  by_cases h1 : z < 0
  · go_enter Tryd.func5, Tryd.ntmps5
    go_wp2_with fail
    refine (anchor_any w HT.out).mono ?_
    rintro e w1 ⟨rfl, hb1⟩
    have HB1 : Hid (Below w.heap.size w w1) := hb1
    clear hb1
    go_wp2_with fail
    go_ret
    exact ⟨rfl, HB1.out⟩
  · have h2 : 200 < z := by omega
    have h3 : decide (z < 0) = false := by simp; omega
    clear h
    go_enter Tryd.func5, Tryd.ntmps5
    go_wp2_with fail
    refine (anchor_any w HT.out).mono ?_
    rintro e w1 ⟨rfl, hb1⟩
    have HB1 : Hid (Below w.heap.size w w1) := hb1
    clear hb1
    go_wp2_with fail
    go_ret
    exact ⟨rfl, HB1.out⟩
end Go.Proofs.YtnbdadhdpplldaaDoor
