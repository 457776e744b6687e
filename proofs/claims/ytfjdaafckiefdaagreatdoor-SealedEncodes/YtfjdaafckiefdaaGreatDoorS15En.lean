/- The statement on records that are encoded. -/
import Derived.Test.YtfjdaafckiefdaaGreatDoorS15RF
import Derived.Test.YtfjdaafckiefdaaGreatDoorS15Anc
import Derived.Test.YtfjdaafckiefdaaGreatDoorS15DecA
import Derived.Test.YtfjdaafckiefdaaGreatDoorMgW
import Derived.Test.YtfjdaafckiefdaaGreatDoorS15Am
namespace Go.Proofs.YtfjdaafckiefdaaGreatDoor.S15
open Go.RowKit C8 E9
open S7 (Fr Kx By Sw TU Shr)
def SrcW (l : List Nat) (v : Value) (w : World) : Prop := Src w v l
/-- Where nothing that stood is turned. -/
theorem kx_below {B : Nat} {u u' : World} (h : Kx (([] : List (Option TypeId)) ++ ([] : List (Option TypeId))) B u u') : Below u.heap.size u u' :=
  ⟨h.low.os, h.low.tape, h.low.output, h.low.size, fun k hk => by
    have e : u.heap[k]? = some u.heap[k] := Array.getElem?_eq_getElem hk
    rw [e]
    exact h.row k _ e (by simp)⟩
theorem decode_own (sv : Value) (l : List Nat) (r : Rec) (w : World) (hs : Src w sv l) (hl : l.length ≤ 900000) (hd : rdec false l = some r) : Calls Tryz.prog 13 #[sv] w fun e w' => ∃ q c, e = .returned (.tuple #[.agg (RecV r q c), .int .i64 0]) ∧ Below w.heap.size w w' ∧ Fa w.heap.size w' (.slice q r.box.length c) r.box := by
  refine (Decode_any sv l w hs hl).mono ?_
  rintro e w' ⟨k1, k2⟩
  rw [hd] at k2
  obtain ⟨q, c, rfl, k3⟩ := k2
  exact ⟨q, c, rfl, k1, k3⟩
theorem eqS_run {o : Oper} {a' : Act} {w' : World} (s t : Tmp) (x y : ByteArray) (ho : o.op = .binOp .eql 9 (.tmp s) (.tmp t) 9) (h0 : a'.tmps.getD s undef = .string x) (h1 : a'.tmps.getD t undef = .string y) : (execOp a'.eval o).run Tryz.prog w' = .ok (.value (.bool (x.toList == y.toList))) w' := by
  have he : a'.eval (.tmp s) = .string x := h0
  have hc : a'.eval (.tmp t) = .string y := h1
  unfold execOp
  simp only [ho]
  rw [he, hc]
  simp [go_sem]
theorem rrec_cells3 {w : World} {b : Nat} {a1 a2 a3 a4 : Int} {v : Value} (h : w.heap[b]? = some (.cells #[.int .i64 a1, .int .i64 a2, .int .i64 a3, .int .i64 a4, v] 26 (0, 0))) :
    w.cell? ⟨b, 0, none⟩ = some (.int .i64 a1) ∧ w.cell? ⟨b, 1, none⟩ = some (.int .i64 a2) ∧ w.cell? ⟨b, 2, none⟩ = some (.int .i64 a3) ∧ w.cell? ⟨b, 3, none⟩ = some (.int .i64 a4) ∧ w.cell? ⟨b, 4, none⟩ = some v ∧ ∀ i, w.frozen? ⟨b, i, none⟩ = false := by
  refine ⟨?_, ?_, ?_, ?_, ?_, fun i => frozen_of_row _ _ _ _ _ h⟩ <;> (rw [cell_of_row _ _ _ _ _ _ h]; rfl)
def en7 (r1 r2 r3 r4 : Int) (rq : Option Addr) (rl rc : Nat) : Nat → Value → World → Prop
  | 0 => IsV (.agg #[.int .i64 r1, .int .i64 r2, .int .i64 r3, .int .i64 r4, .slice rq rl rc])
  | 1 => IsV (.bool true)
  | 2 => IsV (.agg #[.int .i64 r1, .int .i64 r2, .int .i64 r3, .int .i64 r4, .slice rq rl rc])
  | 3 => IsV (.bool true)
  | 4 => IsV (.bool false)
  | _ => fun _ _ => True
theorem en7_kept (r1 r2 r3 r4 : Int) (rq : Option Addr) (rl rc : Nat) {e1 : Nat} : ∀ i v w w', en7 r1 r2 r3 r4 rq rl rc i v w → Kx (([] : List (Option TypeId)) ++ ([] : List (Option TypeId))) e1 w w' → en7 r1 r2 r3 r4 rq rl rc i v w'
  | 0, _, _, _, h, _ => h
  | 1, _, _, _, h, _ => h
  | 2, _, _, _, h, _ => h
  | 3, _, _, _, h, _ => h
  | 4, _, _, _, h, _ => h
  | _ + 5, _, _, _, _, _ => trivial
def en7f (r1 r2 r3 r4 : Int) (rq : Option Addr) (rl rc : Nat) : Nat → Value → World → Prop
  | 0 => IsV (.agg #[.int .i64 r1, .int .i64 r2, .int .i64 r3, .int .i64 r4, .slice rq rl rc])
  | 1 => IsV (.bool false)
  | 2 => IsV (.agg #[.int .i64 r1, .int .i64 r2, .int .i64 r3, .int .i64 r4, .slice rq rl rc])
  | 3 => IsV (.bool false)
  | 4 => IsV (.bool false)
  | _ => fun _ _ => True
theorem en7f_kept (r1 r2 r3 r4 : Int) (rq : Option Addr) (rl rc : Nat) {e1 : Nat} : ∀ i v w w', en7f r1 r2 r3 r4 rq rl rc i v w → Kx (([] : List (Option TypeId)) ++ ([] : List (Option TypeId))) e1 w w' → en7f r1 r2 r3 r4 rq rl rc i v w'
  | 0, _, _, _, h, _ => h
  | 1, _, _, _, h, _ => h
  | 2, _, _, _, h, _ => h
  | 3, _, _, _, h, _ => h
  | 4, _, _, _, h, _ => h
  | _ + 5, _, _, _, _, _ => trivial
def en12 (r1 r2 r3 r4 : Int) (rq vq bq : Option Addr) (rl rc vc bn bc : Nat) (l : List Nat) : Nat → Value → World → Prop
  | 0 => IsV (.int .i64 0)
  | 1 => IsV (.bool true)
  | 2 => IsV (.bool true)
  | 3 => IsV (.slice bq bn bc)
  | 4 => IsV (.string (strB l))
  | 5 => IsV (.agg #[.int .i64 r1, .int .i64 r2, .int .i64 r3, .int .i64 r4, .slice rq rl rc])
  | 6 => SrcW l
  | 7 => IsV (.string (strB l))
  | 8 => IsV (.bool true)
  | 9 => IsV (.bool true)
  | 10 => IsV (.bool true)
  | 11 => IsV (.int .i64 0)
  | 12 => IsV (.bool true)
  | 13 => IsV (.bool true)
  | 14 => IsV (.bool true)
  | 15 => IsV (.agg #[.int .i64 r1, .int .i64 r2, .int .i64 r3, .int .i64 r4, .slice vq rl vc])
  | 16 => IsV (.agg #[.int .i64 r1, .int .i64 r2, .int .i64 r3, .int .i64 r4, .slice rq rl rc])
  | 17 => IsV (.bool true)
  | 18 => IsV (.bool true)
  | 19 => IsV (.bool true)
  | _ => fun _ _ => True
theorem en12_kept (r1 r2 r3 r4 : Int) (rq vq bq : Option Addr) (rl rc vc bn bc : Nat) (l : List Nat) {e1 : Nat} : ∀ i v w w', en12 r1 r2 r3 r4 rq vq bq rl rc vc bn bc l i v w → Kx (([] : List (Option TypeId)) ++ ([] : List (Option TypeId))) e1 w w' → en12 r1 r2 r3 r4 rq vq bq rl rc vc bn bc l i v w'
  | 0, _, _, _, h, _ => h
  | 1, _, _, _, h, _ => h
  | 2, _, _, _, h, _ => h
  | 3, _, _, _, h, _ => h
  | 4, _, _, _, h, _ => h
  | 5, _, _, _, h, _ => h
  | 6, _, _, _, h, ho => h.below (kx_below ho)
  | 7, _, _, _, h, _ => h
  | 8, _, _, _, h, _ => h
  | 9, _, _, _, h, _ => h
  | 10, _, _, _, h, _ => h
  | 11, _, _, _, h, _ => h
  | 12, _, _, _, h, _ => h
  | 13, _, _, _, h, _ => h
  | 14, _, _, _, h, _ => h
  | 15, _, _, _, h, _ => h
  | 16, _, _, _, h, _ => h
  | 17, _, _, _, h, _ => h
  | 18, _, _, _, h, _ => h
  | 19, _, _, _, h, _ => h
  | _ + 20, _, _, _, _, _ => trivial
set_option maxHeartbeats 8000000 in
set_option maxRecDepth 20000 in
theorem encodes_main (r : Rec) (r1 r2 r3 r4 : Int) (rq : Option Addr) (rl rc : Nat) (W : World) (hr : ∀ q c, RecV r q c = #[.int .i64 r1, .int .i64 r2, .int .i64 r3, .int .i64 r4, .slice q rl c]) (hl : r.box.length = rl) (hs : Src W (.slice rq r.box.length rc) r.box) :
    Calls Tryz.prog 3 #[.agg #[.int .i64 r1, .int .i64 r2, .int .i64 r3, .int .i64 r4, .slice rq rl rc]] W fun e w' => e = .returned (.bool true) ∧ Below W.heap.size W w' := by
  have HS : Hid (∀ w, Below W.heap.size W w → Src w (.slice rq r.box.length rc) r.box) := fun w h => hs.below h
  have HR := hid hr
  have HLN := hid hl
  have HSM0 := hid hs.small
  clear hr hl hs
  go_enter Tryz.func3, Tryz.ntmps3
  go_wp2_with fail
  have hb0 := S7.below_alloc' W (.cells #[.int .i64 r1, .int .i64 r2, .int .i64 r3, .int .i64 r4, .slice rq rl rc] 24)
  have hw0 := heap_alloc_new W (.cells #[.int .i64 r1, .int .i64 r2, .int .i64 r3, .int .i64 r4, .slice rq rl rc] 24)
  refine (anchor_any _).mono ?_
  rintro e w1 ⟨rfl, h1⟩
  have HX1 : Hid (w1.heap[W.heap.size]? = some (.cells #[.int .i64 r1, .int .i64 r2, .int .i64 r3, .int .i64 r4, .slice rq rl rc] 24 (0, 0))) := (h1.block _ (Array.getElem?_eq_some_iff.1 hw0).1).trans hw0
  have HB1 : Hid (Below W.heap.size W w1) := hb0.trans (h1.mono hb0.size)
  clear h1 hb0 hw0
  obtain ⟨e1, HE1⟩ : ∃ e1, Hid (e1 = W.heap.size) := ⟨_, rfl⟩
  rw [← HE1.out] at HX1 HB1 ⊢
  obtain ⟨c0, c1, c2, c3, c4, cf⟩ := rec_cells HX1.out
  by_cases hn : 2500 < (rl : Int)
  · clear HS HSM0
    go_wp2_with fail
    go_ret
    exact ⟨rfl, by rw [← HE1.out]; exact HB1.out⟩
  obtain ⟨rr, HRR⟩ : ∃ rr, Hid (rright r = rr) := ⟨_, rfl⟩
  have hb3 := S7.below_alloc' w1 (.cells #[.int .i64 r1, .int .i64 r2, .int .i64 r3, .int .i64 r4, .slice rq rl rc] 26)
  have hw3 := heap_alloc_new w1 (.cells #[.int .i64 r1, .int .i64 r2, .int .i64 r3, .int .i64 r4, .slice rq rl rc] 26)
  have hx3 : (w1.alloc (.cells #[.int .i64 r1, .int .i64 r2, .int .i64 r3, .int .i64 r4, .slice rq rl rc] 26)).heap[e1]? = some (.cells #[.int .i64 r1, .int .i64 r2, .int .i64 r3, .int .i64 r4, .slice rq rl rc] 24 (0, 0)) := (hb3.block _ (Array.getElem?_eq_some_iff.1 HX1.out).1).trans HX1.out
  have HENC : Hid (Calls Tryz.prog 10 #[.agg #[.int .i64 r1, .int .i64 r2, .int .i64 r3, .int .i64 r4, .slice rq rl rc]] (w1.alloc (.cells #[.int .i64 r1, .int .i64 r2, .int .i64 r3, .int .i64 r4, .slice rq rl rc] 26)) fun e w' => Below w1.heap.size w1 w' ∧ w'.heap[w1.heap.size]? = some (.cells #[.int .i64 r1, .int .i64 r2, .int .i64 r3, .int .i64 r4, .slice rq rl rc] 26 (0, 0)) ∧ w'.heap[e1]? = some (.cells #[.int .i64 r1, .int .i64 r2, .int .i64 r3, .int .i64 r4, .slice rq rl rc] 24 (0, 0)) ∧ ((rr = true ∧ ∃ q c, e = .returned (.tuple #[.slice q (rbytes r).length c, .int .i64 0]) ∧ Src w' (.slice q (rbytes r).length c) (rbytes r)) ∨ (rr = false ∧ e = .returned (.tuple #[.slice none 0 0, .int .i64 10])))) := by
    have h := Encode_any r rq rc (w1.alloc (.cells #[.int .i64 r1, .int .i64 r2, .int .i64 r3, .int .i64 r4, .slice rq rl rc] 26)) (HS.out _ (by rw [← HE1.out]; exact HB1.out.trans (hb3.mono (by rw [HE1.out]; rw [HE1.out] at HB1; exact HB1.out.size))))
    rw [HR.out] at h
    refine h.mono ?_
    rintro e w' ⟨k1, k2⟩
    refine ⟨hb3.trans (k1.mono hb3.size), (k1.block _ (Array.getElem?_eq_some_iff.1 hw3).1).trans hw3, (k1.block _ (Array.getElem?_eq_some_iff.1 hx3).1).trans hx3, ?_⟩
    rcases k2 with ⟨k3, v, rfl, k4⟩ | ⟨k3, rfl⟩
    · obtain ⟨q, c, rfl⟩ := own_slice k4
      exact .inl ⟨by rw [← HRR.out, k3], q, c, rfl, Src.own (rbytes_small HSM0.out) k4⟩
    · exact .inr ⟨by rw [← HRR.out, k3], rfl⟩
  obtain ⟨d0, d1, d2, d3, d4, df⟩ := rec_cells hx3
  clear hb3 hw3 hx3
  go_wp2_with fail
  refine HENC.out.mono ?_
  rintro e w4 ⟨k1, k2, k3, k4⟩
  have HB4 : Hid (Below e1 W w4) := HB1.out.trans (k1.mono (by rw [HE1.out]; rw [HE1.out] at HB1; exact HB1.out.size))
  have HX3 := hid k2
  clear HX1
  have HX1 := hid k3
  clear k1 k2 k3 HENC c0 c1 c2 c3 c4 cf d0 d1 d2 d3 d4 df HB1
  generalize w1.heap.size = e3 at *
  have HLO : Hid (e1 ≤ w4.heap.size) := Nat.le_of_lt (Array.getElem?_eq_some_iff.1 HX1.out).1
  have HR1 : Hid (∀ w, Calls Tryz.prog 11 #[.agg #[.int .i64 r1, .int .i64 r2, .int .i64 r3, .int .i64 r4, .slice rq rl rc]] w fun e w' => e = .returned (.bool rr) ∧ Below w.heap.size w w') := fun w => by
    have := rright_any r rq rc w
    rw [HR.out, HRR.out] at this
    exact this
  have HR2 : Hid (∀ w, Calls Tryz.prog 12 #[.agg #[.int .i64 r1, .int .i64 r2, .int .i64 r3, .int .i64 r4, .slice rq rl rc]] w fun e w' => e = .returned (.bool rr) ∧ Below w.heap.size w w') := fun w => by
    have := rRight_any r rq rc w
    rw [HR.out, HRR.out] at this
    exact this
  rcases k4 with ⟨rfl, bq, bc, rfl, hb⟩ | ⟨rfl, rfl⟩
  · have HBB := hid hb
    clear hb
    obtain ⟨bn, HBN⟩ : ∃ bn, Hid ((rbytes r).length = bn) := ⟨_, rfl⟩
    rw [HBN.out] at HBB ⊢
    have HBL : Hid (bn ≤ 3000) := by
      have h1 := rbytes_length r
      have h2 := HLN.out
      have h3 := HBN.out
      show _ ≤ _
      omega
    go_upto_region 7 with fail
    have K : Amk [] (fun _ _ => True) e1 ([] : List (Option TypeId)) ([] : List (Option TypeId)) [] w4 := ⟨HLO.out, all0, all0, all0, all0, fun _ _ _ _ _ => trivial⟩
    have hd0 := S7.below_drewN 1 w4 w4.heap.size
    refine wp_region_sa (en7 r1 r2 r3 r4 rq rl rc) (fun u u' => Kx (([] : List (Option TypeId)) ++ ([] : List (Option TypeId))) e1 u u') (Am [] [] (fun _ _ => True) w4 []) (by kernel_rfl) (Kx.of_below hd0 K.low) (fun _ _ _ h k => h.trans k) (en7_kept r1 r2 r3 r4 rq rl rc) (by kernel_rfl) (Am.start (S7.Only.of_below hd0 _) (trivial)) ?_ ?_
    · intro i o a' w' f hi inv hS hfi hfw hpre
      have hlt : i < 5 := (Array.getElem?_eq_some_iff.1 hi).1
      obtain rfl|rfl|rfl|rfl|rfl : i = 0 ∨ i = 1 ∨ i = 2 ∨ i = 3 ∨ i = 4 := by omega
      · obtain rfl := Option.some.inj hi
        have h0 : a'.tmps.getD 1 undef = (.pointer (some ⟨e1, 0, none⟩)) := by rw [inv.old 1 (notDst_spec (by kernel_rfl))]; rfl
        exact am_value K _ rfl rfl (load_run 24 1 e1 (0) _ rfl h0 (ld24r ⟨row_old hS.old (by simp) HX1.out, rfl⟩)) (by decide) all0 all0 hS rfl
      · obtain rfl := Option.some.inj hi
        have h0 : a'.tmps.getD 20 undef = (.agg #[.int .i64 r1, .int .i64 r2, .int .i64 r3, .int .i64 r4, .slice rq rl rc]) := pre_of hpre 0 20 (by kernel_rfl) (by kernel_rfl)
        refine am_quiet K 11 #[a'.tmps.getD 20 undef] rfl rfl (by kernel_rfl) (by decide) all0 all0 hS ?_
        rw [h0]
        exact (HR1.out w').mono (by rintro x u ⟨rfl, k1⟩; exact ⟨_, rfl, k1, rfl⟩)
      · obtain rfl := Option.some.inj hi
        have h0 : a'.tmps.getD 3 undef = (.pointer (some ⟨e3, 0, none⟩)) := by rw [inv.old 3 (notDst_spec (by kernel_rfl))]; rfl
        exact am_value K _ rfl rfl (load_run 26 3 e3 (0) _ rfl h0 (ld26r ⟨row_old hS.old (by simp) HX3.out, rfl⟩)) (by decide) all0 all0 hS rfl
      · obtain rfl := Option.some.inj hi
        have h0 : a'.tmps.getD 22 undef = (.agg #[.int .i64 r1, .int .i64 r2, .int .i64 r3, .int .i64 r4, .slice rq rl rc]) := pre_of hpre 2 22 (by kernel_rfl) (by kernel_rfl)
        refine am_quiet K 12 #[a'.tmps.getD 22 undef] rfl rfl (by kernel_rfl) (by decide) all0 all0 hS ?_
        rw [h0]
        exact (HR2.out w').mono (by rintro x u ⟨rfl, k1⟩; exact ⟨_, rfl, k1, rfl⟩)
      · obtain rfl := Option.some.inj hi
        have h0 : a'.tmps.getD 21 undef = (.bool true) := pre_of hpre 1 21 (by kernel_rfl) (by kernel_rfl)
        have h1 : a'.tmps.getD 23 undef = (.bool true) := pre_of hpre 3 23 (by kernel_rfl) (by kernel_rfl)
        exact am_value K _ rfl rfl (neqB_run 21 23 _ _ rfl h0 h1) (by decide) all0 all0 hS (by show Value.bool _ = _; simp)
    intro a' w5 f inv hS hall hd
    have hk4 := hd 4 24 (by kernel_rfl)
    have hold : S7.Only [] w4 w5 := hS.old
    have hgrow : Kx (([] : List (Option TypeId)) ++ ([] : List (Option TypeId))) e1 w4 w5 := inv.grow
    have hdf : a'.defers = [] := inv.defers
    have e := frame_of [20, 21, 22, 23, 24] inv.size (fun t ht => inv.old t (dstsIn_spec (ts := [20, 21, 22, 23, 24]) (by kernel_rfl) t ht))
    clear inv hd hall hS K hd0
    obtain ⟨tmps, defers⟩ := a'
    obtain rfl : defers = [] := hdf
    replace e : tmps = List.foldl (fun G t => G.setIfInBounds t (tmps.getD t undef)) _ [20, 21, 22, 23, 24] := e
    simp only [List.foldl_cons, List.foldl_nil] at e
    replace hk4 : tmps.getD 24 undef = (.bool false) := hk4
    generalize tmps.getD 20 undef = x20 at *
    generalize tmps.getD 21 undef = x21 at *
    generalize tmps.getD 22 undef = x22 at *
    generalize tmps.getD 23 undef = x23 at *
    generalize tmps.getD 24 undef = x24 at *
    simp only [List.setIfInBounds_toArray, List.set_cons_succ, List.set_cons_zero] at e
    subst e
    subst hk4
    have HB5 : Hid (Below w4.heap.size w4 w5) := kx_below hgrow
    have HX1b : Hid (w5.heap[e1]? = some (.cells #[.int .i64 r1, .int .i64 r2, .int .i64 r3, .int .i64 r4, .slice rq rl rc] 24 (0, 0))) := row_old hold (by simp) HX1.out
    have HX3b : Hid (w5.heap[e3]? = some (.cells #[.int .i64 r1, .int .i64 r2, .int .i64 r3, .int .i64 r4, .slice rq rl rc] 26 (0, 0))) := row_old hold (by simp) HX3.out
    clear hold hgrow HX1 HX3
    obtain ⟨c0, c1, c2, c3, c4, cf⟩ := rrec_cells3 HX3b.out
    go_wp2_with fail
    refine (HR2.out _).mono ?_
    rintro e w6 ⟨rfl, h6⟩
    have HB6 : Hid (Below w4.heap.size w4 w6) := HB5.out.trans (h6.mono HB5.out.size)
    have HX3c : Hid (w6.heap[e3]? = some (.cells #[.int .i64 r1, .int .i64 r2, .int .i64 r3, .int .i64 r4, .slice rq rl rc] 26 (0, 0))) := (h6.block _ (Array.getElem?_eq_some_iff.1 HX3b.out).1).trans HX3b.out
    clear h6 c0 c1 c2 c3 c4 cf HX3b HX1b HB5
    have HDE : Hid (Calls Tryz.prog 13 #[.slice bq bn bc] w6 fun e w' => ∃ vq vc, e = .returned (.tuple #[.agg #[.int .i64 r1, .int .i64 r2, .int .i64 r3, .int .i64 r4, .slice vq rl vc], .int .i64 0]) ∧ Below w6.heap.size w6 w' ∧ Src w' (.slice vq rl vc) r.box) := by
      refine (decode_own _ (rbytes r) r w6 (HBB.out.below HB6.out) (by have := HBL.out; have := HBN.out; omega) (rdec_own false HRR.out)).mono ?_
      rintro e w' ⟨vq, vc, rfl, k1, k3⟩
      rw [HR.out]
      exact ⟨vq, vc, rfl, k1, by rw [← HLN.out]; exact k3.src⟩
    go_wp2_with fail
    refine HDE.out.mono ?_
    rintro e w6b ⟨vq, vc, rfl, h6, h7⟩
    go_upto_region 12 with fail
    have hb7 := S7.below_alloc' w6b (.cells #[.int .i64 r1, .int .i64 r2, .int .i64 r3, .int .i64 r4, .slice vq rl vc] 24)
    have HX6 : Hid ((w6b.alloc (.cells #[.int .i64 r1, .int .i64 r2, .int .i64 r3, .int .i64 r4, .slice vq rl vc] 24)).heap[w6b.heap.size]? = some (.cells #[.int .i64 r1, .int .i64 r2, .int .i64 r3, .int .i64 r4, .slice vq rl vc] 24 (0, 0))) := heap_alloc_new w6b _
    have HBX : Hid (Below w4.heap.size w4 (w6b.alloc (.cells #[.int .i64 r1, .int .i64 r2, .int .i64 r3, .int .i64 r4, .slice vq rl vc] 24))) := (HB6.out.trans (h6.mono HB6.out.size)).trans (hb7.mono (Nat.le_trans HB6.out.size h6.size))
    have HX3 : Hid ((w6b.alloc (.cells #[.int .i64 r1, .int .i64 r2, .int .i64 r3, .int .i64 r4, .slice vq rl vc] 24)).heap[e3]? = some (.cells #[.int .i64 r1, .int .i64 r2, .int .i64 r3, .int .i64 r4, .slice rq rl rc] 26 (0, 0))) := (hb7.block _ (Nat.lt_of_lt_of_le (Array.getElem?_eq_some_iff.1 HX3c.out).1 h6.size)).trans ((h6.block _ (Array.getElem?_eq_some_iff.1 HX3c.out).1).trans HX3c.out)
    have HVS : Hid (Src (w6b.alloc (.cells #[.int .i64 r1, .int .i64 r2, .int .i64 r3, .int .i64 r4, .slice vq rl vc] 24)) (.slice vq rl vc) r.box) := h7.below hb7
    clear hb7 h6 h7 HDE HX3c HB6
    generalize w6b.heap.size = e6 at *
    generalize w6b.alloc (.cells #[.int .i64 r1, .int .i64 r2, .int .i64 r3, .int .i64 r4, .slice vq rl vc] 24) = w7 at *
    have HLO7 : Hid (e1 ≤ w7.heap.size) := Nat.le_trans HLO.out HBX.out.size
    have HBW7 : Hid (Below W.heap.size W w7) := by
      show Below _ _ _
      rw [← HE1.out]
      exact HB4.out.trans (HBX.out.mono HLO.out)
    obtain ⟨l, HL⟩ : ∃ l, Hid (rbytes r = l) := ⟨_, rfl⟩
    have HSB : Hid (∀ w, Below w7.heap.size w7 w → Src w (.slice bq bn bc) l) := fun w h => by
      rw [← HL.out]
      exact (HBB.out.below HBX.out).below h
    have HBY : Hid (∀ w, Below w7.heap.size w7 w → Calls Tryz.prog 14 #[.agg #[.int .i64 r1, .int .i64 r2, .int .i64 r3, .int .i64 r4, .slice rq rl rc]] w fun e w' => ∃ v, e = .returned v ∧ Src w' v l ∧ Below w.heap.size w w') := fun w h => by
      have h1 := rBytesR_any r rq rc w HRR.out (HS.out w (HBW7.out.trans (h.mono HBW7.out.size)))
      rw [HR.out, HL.out] at h1
      refine h1.mono ?_
      rintro e w' ⟨v, rfl, k1, k2⟩
      exact ⟨v, rfl, Src.own (by rw [← HL.out]; exact rbytes_small HSM0.out) k1, k2⟩
    have HSM : Hid (∀ w, Below w7.heap.size w7 w → Calls Tryz.prog 15 #[.agg #[.int .i64 r1, .int .i64 r2, .int .i64 r3, .int .i64 r4, .slice vq rl vc], .agg #[.int .i64 r1, .int .i64 r2, .int .i64 r3, .int .i64 r4, .slice rq rl rc]] w fun e w' => e = .returned (.bool true) ∧ Below w.heap.size w w') := fun w h => by
      have h1 := rsame_any w r r vq rq vc rc (by rw [HLN.out]; exact HVS.out.below h) (HS.out w (HBW7.out.trans (h.mono HBW7.out.size)))
      rw [HR.out, HR.out, (rsame_iff r r).2 rfl] at h1
      exact h1
    clear HS HSM0 HBB HVS HBX HBL HR HR1 HR2
    have K : Amk [] (fun _ _ => True) e1 ([] : List (Option TypeId)) ([] : List (Option TypeId)) [] w7 := ⟨HLO7.out, all0, all0, all0, all0, fun _ _ _ _ _ => trivial⟩
    have hd0 := S7.below_drewN 1 w7 w7.heap.size
    refine wp_region_sa (en12 r1 r2 r3 r4 rq vq bq rl rc vc bn bc l) (fun u u' => Kx (([] : List (Option TypeId)) ++ ([] : List (Option TypeId))) e1 u u') (Am [] [] (fun _ _ => True) w7 []) (by kernel_rfl) (Kx.of_below hd0 K.low) (fun _ _ _ h k => h.trans k) (en12_kept r1 r2 r3 r4 rq vq bq rl rc vc bn bc l) (by kernel_rfl) (Am.start (S7.Only.of_below hd0 _) (trivial)) ?_ ?_
    · intro i o a' w' f hi inv hS hfi hfw hpre
      have hlt : i < 20 := (Array.getElem?_eq_some_iff.1 hi).1
      obtain rfl|rfl|rfl|rfl|rfl|rfl|rfl|rfl|rfl|rfl|rfl|rfl|rfl|rfl|rfl|rfl|rfl|rfl|rfl|rfl : i = 0 ∨ i = 1 ∨ i = 2 ∨ i = 3 ∨ i = 4 ∨ i = 5 ∨ i = 6 ∨ i = 7 ∨ i = 8 ∨ i = 9 ∨ i = 10 ∨ i = 11 ∨ i = 12 ∨ i = 13 ∨ i = 14 ∨ i = 15 ∨ i = 16 ∨ i = 17 ∨ i = 18 ∨ i = 19 := by omega
      · obtain rfl := Option.some.inj hi
        have h0 : a'.tmps.getD 5 undef = (.int .i64 0) := by rw [inv.old 5 (notDst_spec (by kernel_rfl))]; rfl
        exact am_value K _ rfl rfl (rfl) (by decide) all0 all0 hS h0
      · obtain rfl := Option.some.inj hi
        have h0 : a'.tmps.getD 40 undef = (.int .i64 0) := pre_of hpre 0 40 (by kernel_rfl) (by kernel_rfl)
        exact am_value K _ rfl rfl (eqlE_run 27 40 _ _ _ rfl (by decide) h0 rfl) (by decide) all0 all0 hS rfl
      · obtain rfl := Option.some.inj hi
        have h0 := pre_of hpre 1 41 (by kernel_rfl) (by kernel_rfl)
        exact am_value K _ rfl rfl (rfl) (by decide) all0 all0 hS h0
      · obtain rfl := Option.some.inj hi
        have hgu : a'.tmps.getD 42 undef = _ := pre_of hpre 2 42 (by kernel_rfl) (by kernel_rfl)
        have h0 : a'.tmps.getD 4 undef = (.slice bq bn bc) := by rw [inv.old 4 (notDst_spec (by kernel_rfl))]; rfl
        exact am_value K _ rfl (wanted_of 2 42 true rfl (by kernel_rfl) hgu) (rfl) (by decide) all0 all0 hS h0
      · obtain rfl := Option.some.inj hi
        have hgu : a'.tmps.getD 42 undef = _ := pre_of hpre 2 42 (by kernel_rfl) (by kernel_rfl)
        have h0 : a'.tmps.getD 43 undef = (.slice bq bn bc) := pre_of hpre 3 43 (by kernel_rfl) (by kernel_rfl)
        exact am_value K _ rfl (wanted_of 2 42 true rfl (by kernel_rfl) hgu) (conv_run 43 rfl (by rw [h0]; exact HSB.out w' (kx_below inv.grow))) (by decide) all0 all0 hS rfl
      · obtain rfl := Option.some.inj hi
        have hgu : a'.tmps.getD 42 undef = _ := pre_of hpre 2 42 (by kernel_rfl) (by kernel_rfl)
        have h0 : a'.tmps.getD 3 undef = (.pointer (some ⟨e3, 0, none⟩)) := by rw [inv.old 3 (notDst_spec (by kernel_rfl))]; rfl
        exact am_value K _ rfl (wanted_of 2 42 true rfl (by kernel_rfl) hgu) (load_run 26 3 e3 (0) _ rfl h0 (ld26r ⟨row_old hS.old (by simp) HX3.out, rfl⟩)) (by decide) all0 all0 hS rfl
      · obtain rfl := Option.some.inj hi
        have hgu : a'.tmps.getD 42 undef = _ := pre_of hpre 2 42 (by kernel_rfl) (by kernel_rfl)
        have h0 : a'.tmps.getD 45 undef = (.agg #[.int .i64 r1, .int .i64 r2, .int .i64 r3, .int .i64 r4, .slice rq rl rc]) := pre_of hpre 5 45 (by kernel_rfl) (by kernel_rfl)
        refine am_quiet K 14 #[a'.tmps.getD 45 undef] rfl (wanted_of 2 42 true rfl (by kernel_rfl) hgu) (by kernel_rfl) (by decide) all0 all0 hS ?_
        rw [h0]
        exact (HBY.out w' (kx_below inv.grow)).mono (by rintro x u ⟨v, rfl, k1, k2⟩; exact ⟨_, rfl, k2, k1⟩)
      · obtain rfl := Option.some.inj hi
        have hgu : a'.tmps.getD 42 undef = _ := pre_of hpre 2 42 (by kernel_rfl) (by kernel_rfl)
        have h0 := pre_of hpre 6 46 (by kernel_rfl) (by kernel_rfl)
        exact am_value K _ rfl (wanted_of 2 42 true rfl (by kernel_rfl) hgu) (conv_run 46 rfl h0) (by decide) all0 all0 hS rfl
      · obtain rfl := Option.some.inj hi
        have hgu : a'.tmps.getD 42 undef = _ := pre_of hpre 2 42 (by kernel_rfl) (by kernel_rfl)
        have h0 : a'.tmps.getD 44 undef = (.string (strB l)) := pre_of hpre 4 44 (by kernel_rfl) (by kernel_rfl)
        have h1 : a'.tmps.getD 47 undef = (.string (strB l)) := pre_of hpre 7 47 (by kernel_rfl) (by kernel_rfl)
        exact am_value K _ rfl (wanted_of 2 42 true rfl (by kernel_rfl) hgu) (eqS_run 44 47 _ _ rfl h0 h1) (by decide) all0 all0 hS (by show Value.bool _ = _; simp)
      · obtain rfl := Option.some.inj hi
        have h0 : a'.tmps.getD 42 undef = (.bool true) := pre_of hpre 2 42 (by kernel_rfl) (by kernel_rfl)
        have h1 : a'.tmps.getD 48 undef = (.bool true) := pre_of hpre 8 48 (by kernel_rfl) (by kernel_rfl)
        exact am_value K _ rfl rfl (pick_run 42 true _ _ _ _ rfl h0 h1 rfl) (by decide) all0 all0 hS rfl
      · obtain rfl := Option.some.inj hi
        have h0 := pre_of hpre 9 49 (by kernel_rfl) (by kernel_rfl)
        exact am_value K _ rfl rfl (rfl) (by decide) all0 all0 hS h0
      · obtain rfl := Option.some.inj hi
        have hgu : a'.tmps.getD 50 undef = _ := pre_of hpre 10 50 (by kernel_rfl) (by kernel_rfl)
        have h0 : a'.tmps.getD 7 undef = (.int .i64 0) := by rw [inv.old 7 (notDst_spec (by kernel_rfl))]; rfl
        exact am_value K _ rfl (wanted_of 10 50 true rfl (by kernel_rfl) hgu) (rfl) (by decide) all0 all0 hS h0
      · obtain rfl := Option.some.inj hi
        have hgu : a'.tmps.getD 50 undef = _ := pre_of hpre 10 50 (by kernel_rfl) (by kernel_rfl)
        have h0 : a'.tmps.getD 51 undef = (.int .i64 0) := pre_of hpre 11 51 (by kernel_rfl) (by kernel_rfl)
        exact am_value K _ rfl (wanted_of 10 50 true rfl (by kernel_rfl) hgu) (eqlE_run 27 51 _ _ _ rfl (by decide) h0 rfl) (by decide) all0 all0 hS rfl
      · obtain rfl := Option.some.inj hi
        have h0 : a'.tmps.getD 50 undef = (.bool true) := pre_of hpre 10 50 (by kernel_rfl) (by kernel_rfl)
        have h1 : a'.tmps.getD 52 undef = (.bool true) := pre_of hpre 12 52 (by kernel_rfl) (by kernel_rfl)
        exact am_value K _ rfl rfl (pick_run 50 true _ _ _ _ rfl h0 h1 rfl) (by decide) all0 all0 hS rfl
      · obtain rfl := Option.some.inj hi
        have h0 := pre_of hpre 13 53 (by kernel_rfl) (by kernel_rfl)
        exact am_value K _ rfl rfl (rfl) (by decide) all0 all0 hS h0
      · obtain rfl := Option.some.inj hi
        have hgu : a'.tmps.getD 54 undef = _ := pre_of hpre 14 54 (by kernel_rfl) (by kernel_rfl)
        have h0 : a'.tmps.getD 6 undef = (.pointer (some ⟨e6, 0, none⟩)) := by rw [inv.old 6 (notDst_spec (by kernel_rfl))]; rfl
        exact am_value K _ rfl (wanted_of 14 54 true rfl (by kernel_rfl) hgu) (load_run 24 6 e6 (0) _ rfl h0 (ld24r ⟨row_old hS.old (by simp) HX6.out, rfl⟩)) (by decide) all0 all0 hS rfl
      · obtain rfl := Option.some.inj hi
        have hgu : a'.tmps.getD 54 undef = _ := pre_of hpre 14 54 (by kernel_rfl) (by kernel_rfl)
        have h0 : a'.tmps.getD 3 undef = (.pointer (some ⟨e3, 0, none⟩)) := by rw [inv.old 3 (notDst_spec (by kernel_rfl))]; rfl
        exact am_value K _ rfl (wanted_of 14 54 true rfl (by kernel_rfl) hgu) (load_run 26 3 e3 (0) _ rfl h0 (ld26r ⟨row_old hS.old (by simp) HX3.out, rfl⟩)) (by decide) all0 all0 hS rfl
      · obtain rfl := Option.some.inj hi
        have hgu : a'.tmps.getD 54 undef = _ := pre_of hpre 14 54 (by kernel_rfl) (by kernel_rfl)
        have h0 : a'.tmps.getD 55 undef = (.agg #[.int .i64 r1, .int .i64 r2, .int .i64 r3, .int .i64 r4, .slice vq rl vc]) := pre_of hpre 15 55 (by kernel_rfl) (by kernel_rfl)
        have h1 : a'.tmps.getD 56 undef = (.agg #[.int .i64 r1, .int .i64 r2, .int .i64 r3, .int .i64 r4, .slice rq rl rc]) := pre_of hpre 16 56 (by kernel_rfl) (by kernel_rfl)
        refine am_quiet K 15 #[a'.tmps.getD 55 undef, a'.tmps.getD 56 undef] rfl (wanted_of 14 54 true rfl (by kernel_rfl) hgu) (by kernel_rfl) (by decide) all0 all0 hS ?_
        rw [h0, h1]
        exact (HSM.out w' (kx_below inv.grow)).mono (by rintro x u ⟨rfl, k1⟩; exact ⟨_, rfl, k1, rfl⟩)
      · obtain rfl := Option.some.inj hi
        have h0 : a'.tmps.getD 54 undef = (.bool true) := pre_of hpre 14 54 (by kernel_rfl) (by kernel_rfl)
        have h1 : a'.tmps.getD 57 undef = (.bool true) := pre_of hpre 17 57 (by kernel_rfl) (by kernel_rfl)
        exact am_value K _ rfl rfl (pick_run 54 true _ _ _ _ rfl h0 h1 rfl) (by decide) all0 all0 hS rfl
      · obtain rfl := Option.some.inj hi
        have h0 := pre_of hpre 18 58 (by kernel_rfl) (by kernel_rfl)
        exact am_value K _ rfl rfl (rfl) (by decide) all0 all0 hS h0
    intro a' w8 f inv hS hall hd
    have hk19 := hd 19 2 (by kernel_rfl)
    have hold : S7.Only [] w7 w8 := hS.old
    have hgrow : Kx (([] : List (Option TypeId)) ++ ([] : List (Option TypeId))) e1 w7 w8 := inv.grow
    have hdf : a'.defers = [] := inv.defers
    have e := frame_of [2, 40, 41, 42, 43, 44, 45, 46, 47, 48, 49, 50, 51, 52, 53, 54, 55, 56, 57, 58] inv.size (fun t ht => inv.old t (dstsIn_spec (ts := [2, 40, 41, 42, 43, 44, 45, 46, 47, 48, 49, 50, 51, 52, 53, 54, 55, 56, 57, 58]) (by kernel_rfl) t ht))
    clear inv hd hall hS K hd0
    obtain ⟨tmps, defers⟩ := a'
    obtain rfl : defers = [] := hdf
    replace e : tmps = List.foldl (fun G t => G.setIfInBounds t (tmps.getD t undef)) _ [2, 40, 41, 42, 43, 44, 45, 46, 47, 48, 49, 50, 51, 52, 53, 54, 55, 56, 57, 58] := e
    simp only [List.foldl_cons, List.foldl_nil] at e
    replace hk19 : tmps.getD 2 undef = (.bool true) := hk19
    generalize tmps.getD 2 undef = x2 at *
    generalize tmps.getD 40 undef = x40 at *
    generalize tmps.getD 41 undef = x41 at *
    generalize tmps.getD 42 undef = x42 at *
    generalize tmps.getD 43 undef = x43 at *
    generalize tmps.getD 44 undef = x44 at *
    generalize tmps.getD 45 undef = x45 at *
    generalize tmps.getD 46 undef = x46 at *
    generalize tmps.getD 47 undef = x47 at *
    generalize tmps.getD 48 undef = x48 at *
    generalize tmps.getD 49 undef = x49 at *
    generalize tmps.getD 50 undef = x50 at *
    generalize tmps.getD 51 undef = x51 at *
    generalize tmps.getD 52 undef = x52 at *
    generalize tmps.getD 53 undef = x53 at *
    generalize tmps.getD 54 undef = x54 at *
    generalize tmps.getD 55 undef = x55 at *
    generalize tmps.getD 56 undef = x56 at *
    generalize tmps.getD 57 undef = x57 at *
    generalize tmps.getD 58 undef = x58 at *
    simp only [List.setIfInBounds_toArray, List.set_cons_succ, List.set_cons_zero] at e
    subst e
    subst hk19
    have HZ : Hid (Below W.heap.size W w8) := HBW7.out.trans ((kx_below hgrow).mono HBW7.out.size)
    clear hold hgrow HSB HBY HSM
    go_wp2_with fail
    go_ret
    rw [HE1.out]
    exact ⟨rfl, HZ.out⟩
  · go_upto_region 7 with fail
    have K : Amk [] (fun _ _ => True) e1 ([] : List (Option TypeId)) ([] : List (Option TypeId)) [] w4 := ⟨HLO.out, all0, all0, all0, all0, fun _ _ _ _ _ => trivial⟩
    have hd0 := S7.below_drewN 1 w4 w4.heap.size
    refine wp_region_sa (en7f r1 r2 r3 r4 rq rl rc) (fun u u' => Kx (([] : List (Option TypeId)) ++ ([] : List (Option TypeId))) e1 u u') (Am [] [] (fun _ _ => True) w4 []) (by kernel_rfl) (Kx.of_below hd0 K.low) (fun _ _ _ h k => h.trans k) (en7f_kept r1 r2 r3 r4 rq rl rc) (by kernel_rfl) (Am.start (S7.Only.of_below hd0 _) (trivial)) ?_ ?_
    · intro i o a' w' f hi inv hS hfi hfw hpre
      have hlt : i < 5 := (Array.getElem?_eq_some_iff.1 hi).1
      obtain rfl|rfl|rfl|rfl|rfl : i = 0 ∨ i = 1 ∨ i = 2 ∨ i = 3 ∨ i = 4 := by omega
      · obtain rfl := Option.some.inj hi
        have h0 : a'.tmps.getD 1 undef = (.pointer (some ⟨e1, 0, none⟩)) := by rw [inv.old 1 (notDst_spec (by kernel_rfl))]; rfl
        exact am_value K _ rfl rfl (load_run 24 1 e1 (0) _ rfl h0 (ld24r ⟨row_old hS.old (by simp) HX1.out, rfl⟩)) (by decide) all0 all0 hS rfl
      · obtain rfl := Option.some.inj hi
        have h0 : a'.tmps.getD 20 undef = (.agg #[.int .i64 r1, .int .i64 r2, .int .i64 r3, .int .i64 r4, .slice rq rl rc]) := pre_of hpre 0 20 (by kernel_rfl) (by kernel_rfl)
        refine am_quiet K 11 #[a'.tmps.getD 20 undef] rfl rfl (by kernel_rfl) (by decide) all0 all0 hS ?_
        rw [h0]
        exact (HR1.out w').mono (by rintro x u ⟨rfl, k1⟩; exact ⟨_, rfl, k1, rfl⟩)
      · obtain rfl := Option.some.inj hi
        have h0 : a'.tmps.getD 3 undef = (.pointer (some ⟨e3, 0, none⟩)) := by rw [inv.old 3 (notDst_spec (by kernel_rfl))]; rfl
        exact am_value K _ rfl rfl (load_run 26 3 e3 (0) _ rfl h0 (ld26r ⟨row_old hS.old (by simp) HX3.out, rfl⟩)) (by decide) all0 all0 hS rfl
      · obtain rfl := Option.some.inj hi
        have h0 : a'.tmps.getD 22 undef = (.agg #[.int .i64 r1, .int .i64 r2, .int .i64 r3, .int .i64 r4, .slice rq rl rc]) := pre_of hpre 2 22 (by kernel_rfl) (by kernel_rfl)
        refine am_quiet K 12 #[a'.tmps.getD 22 undef] rfl rfl (by kernel_rfl) (by decide) all0 all0 hS ?_
        rw [h0]
        exact (HR2.out w').mono (by rintro x u ⟨rfl, k1⟩; exact ⟨_, rfl, k1, rfl⟩)
      · obtain rfl := Option.some.inj hi
        have h0 : a'.tmps.getD 21 undef = (.bool false) := pre_of hpre 1 21 (by kernel_rfl) (by kernel_rfl)
        have h1 : a'.tmps.getD 23 undef = (.bool false) := pre_of hpre 3 23 (by kernel_rfl) (by kernel_rfl)
        exact am_value K _ rfl rfl (neqB_run 21 23 _ _ rfl h0 h1) (by decide) all0 all0 hS (by show Value.bool _ = _; simp)
    intro a' w5 f inv hS hall hd
    have hk4 := hd 4 24 (by kernel_rfl)
    have hold : S7.Only [] w4 w5 := hS.old
    have hgrow : Kx (([] : List (Option TypeId)) ++ ([] : List (Option TypeId))) e1 w4 w5 := inv.grow
    have hdf : a'.defers = [] := inv.defers
    have e := frame_of [20, 21, 22, 23, 24] inv.size (fun t ht => inv.old t (dstsIn_spec (ts := [20, 21, 22, 23, 24]) (by kernel_rfl) t ht))
    clear inv hd hall hS K hd0
    obtain ⟨tmps, defers⟩ := a'
    obtain rfl : defers = [] := hdf
    replace e : tmps = List.foldl (fun G t => G.setIfInBounds t (tmps.getD t undef)) _ [20, 21, 22, 23, 24] := e
    simp only [List.foldl_cons, List.foldl_nil] at e
    replace hk4 : tmps.getD 24 undef = (.bool false) := hk4
    generalize tmps.getD 20 undef = x20 at *
    generalize tmps.getD 21 undef = x21 at *
    generalize tmps.getD 22 undef = x22 at *
    generalize tmps.getD 23 undef = x23 at *
    generalize tmps.getD 24 undef = x24 at *
    simp only [List.setIfInBounds_toArray, List.set_cons_succ, List.set_cons_zero] at e
    subst e
    subst hk4
    have HB5 : Hid (Below W.heap.size W w5) := by
      show Below _ _ _
      rw [← HE1.out]
      exact HB4.out.trans ((kx_below hgrow).mono HLO.out)
    have HX3b : Hid (w5.heap[e3]? = some (.cells #[.int .i64 r1, .int .i64 r2, .int .i64 r3, .int .i64 r4, .slice rq rl rc] 26 (0, 0))) := row_old hold (by simp) HX3.out
    clear hold hgrow HX1 HX3
    obtain ⟨c0, c1, c2, c3, c4, cf⟩ := rrec_cells3 HX3b.out
    go_wp2_with fail
    refine (HR2.out _).mono ?_
    rintro e w6 ⟨rfl, h6⟩
    have HB6 : Hid (Below W.heap.size W w6) := HB5.out.trans (h6.mono HB5.out.size)
    clear h6 c0 c1 c2 c3 c4 cf
    go_wp2_with fail
    go_ret
    rw [HE1.out]
    exact ⟨rfl, HB6.out⟩
theorem encodes_law (r : Rec) (v : Value) (W : World) (h : RecIs W v r) :
    Calls Tryz.prog 3 #[v] W fun e w' => e = .returned (.bool true) ∧ Below W.heap.size W w' := by
  obtain ⟨q, c, rfl, h1, -⟩ := h
  exact encodes_main r r.coll r.epoch r.writer r.count q r.box.length c W (fun _ _ => rfl) rfl h1
end Go.Proofs.YtfjdaafckiefdaaGreatDoor.S15
