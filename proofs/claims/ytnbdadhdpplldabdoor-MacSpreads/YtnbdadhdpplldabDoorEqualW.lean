/- The walk of MacEqual. -/
import Derived.Test.YtnbdadhdpplldabDoorEqual
import Derived.Laws.Strings
namespace Go.Proofs.YtnbdadhdpplldabDoor
open Go.RowKit
def IsV (x v : Value) (_ : World) : Prop := v = x
def StrV (l : List Nat) (v : Value) (_ : World) : Prop := v = .string (strB l)
theorem conv_empty (w : World) (p : Option Addr) (c : Nat) : (convert 22 9 (.slice p 0 c)).run Tryd.prog w = .ok (.string (strB [])) w := by
  rw [run_convert_bytes_string w 22 9 5 _ _ _ Tryd.underlying22 Tryd.underlying5 Tryd.underlying9]
  cases p with
  | none => rfl
  | some a => exact run_bytesToString w a 0 c [] (by rfl)
theorem conv_bytes {w : World} {v : Value} {l : List Nat} (h : BytesAt w v l) : (convert 22 9 v).run Tryd.prog w = .ok (.string (strB l)) w := by
  rcases h.2 with ⟨p, c, rfl, rfl⟩ | ⟨b, o, c, rfl, _, hr⟩
  · exact conv_empty w p c
  · exact run_conv w b o c l hr
theorem conv_run {o : Oper} {a' : Act} {w' : World} {l : List Nat} (t : Tmp) (ho : o.op = .convert 22 9 (.tmp t)) (h : BytesAt w' (a'.tmps.getD t undef) l) :
    (execOp a'.eval o).run Tryd.prog w' = .ok (.value (.string (strB l))) w' := by
  unfold execOp
  simp only [ho, Act.eval, Sem.run_bind, conv_bytes h, Result.andThen_ok, Sem.run_pure]
theorem pick_step {o : Oper} {a' : Act} {w' : World} {t u : Tmp} {r : Operand} (h0 : a'.tmps.getD t undef = .bool true) (h1 : a'.tmps.getD u undef = .bool true) (ho : o.op = .pick (.tmp t) (.tmp u) r) :
    (execOp a'.eval o).run Tryd.prog w' = .ok (.value (.bool true)) w' := by
  unfold execOp
  simp only [ho, Act.eval, h0, h1]
  simp [go_sem]
theorem below_trans' (x y z : World) (h : Below x.heap.size x y) (k : Below y.heap.size y z) : Below x.heap.size x z := h.trans (k.mono h.size)
theorem strB_fold : ∀ (l : List Nat) (r : ByteArray), ((l.map (fun (n : Nat) => (n : Int))).foldl (fun r n => r.push (UInt8.ofNat n.toNat)) r).data = r.data ++ (l.map fun n => UInt8.ofNat n).toArray
  | [], r => by simp
  | x :: l, r => by
    rw [List.map_cons, List.foldl_cons, strB_fold l]
    simp [ByteArray.push]
theorem strB_data (l : List Nat) : (strB l).data = (l.map fun n => UInt8.ofNat n).toArray := by
  unfold strB
  rw [strB_fold]
  simp
theorem map_inj_small : ∀ {la lb : List Nat}, (∀ x ∈ la, x < 256) → (∀ x ∈ lb, x < 256) → la.map (fun n => UInt8.ofNat n) = lb.map (fun n => UInt8.ofNat n) → la = lb
  | [], [], _, _, _ => rfl
  | [], _ :: _, _, _, h => by simp at h
  | _ :: _, [], _, _, h => by simp at h
  | x :: la, y :: lb, ha, hb, h => by
    simp only [List.map_cons, List.cons.injEq] at h
    have h1 : x = y := by
      have := congrArg UInt8.toNat h.1
      have hx := ha x (by simp)
      have hy := hb y (by simp)
      simp at this
      omega
    rw [h1, map_inj_small (fun z hz => ha z (by simp [hz])) (fun z hz => hb z (by simp [hz])) h.2]
theorem strB_inj {la lb : List Nat} (ha : ∀ x ∈ la, x < 256) (hb : ∀ x ∈ lb, x < 256) : strB la = strB lb ↔ la = lb := by
  constructor
  · intro h
    have h1 := congrArg ByteArray.data h
    rw [strB_data, strB_data] at h1
    exact map_inj_small ha hb (by simpa using h1)
  · rintro rfl
    rfl
theorem eqs_run {o : Oper} {a' : Act} {w' : World} {la lb : List Nat} (t u : Tmp) (ho : o.op = .binOp .eql 9 (.tmp t) (.tmp u) 9) (h0 : a'.tmps.getD t undef = .string (strB la)) (h1 : a'.tmps.getD u undef = .string (strB lb)) (ha : ∀ x ∈ la, x < 256) (hb : ∀ x ∈ lb, x < 256) :
    (execOp a'.eval o).run Tryd.prog w' = .ok (.value (.bool (decide (la = lb)))) w' := by
  have e : ((strB la).data.toList == (strB lb).data.toList) = decide (la = lb) := by
    rw [Bool.eq_iff_iff]
    rw [beq_iff_eq, decide_eq_true_iff, ← strB_inj ha hb]
    constructor
    · intro h
      exact ByteArray.ext (Array.ext' h)
    · intro h
      rw [h]
  unfold execOp
  simp only [ho, Act.eval, h0, h1]
  simp [go_sem]
  rw [ByteArray.toList_eq, ByteArray.toList_eq]
  exact e
theorem eqb_run {o : Oper} {a' : Act} {w' : World} {r : Bool} (t u : Tmp) (ho : o.op = .binOp .eql 4 (.tmp t) (.tmp u) 4) (h0 : a'.tmps.getD t undef = .bool r) (h1 : a'.tmps.getD u undef = .bool r) :
    (execOp a'.eval o).run Tryd.prog w' = .ok (.value (.bool true)) w' := by
  unfold execOp
  simp only [ho, Act.eval, h0, h1]
  simp [go_sem]
def equalV (x y : Value) (la lb : List Nat) : Nat → Value → World → Prop
  | 0 => IsV x
  | 1 => IsV y
  | 2 => IsV (.bool (decide (la = lb)))
  | 3 => IsV x
  | 4 => StrV la
  | 5 => IsV y
  | 6 => StrV lb
  | 7 => IsV (.bool (decide (la = lb)))
  | 8 => IsV (.bool true)
  | 9 => IsV (.bool true)
  | 10 => IsV x
  | 11 => IsV x
  | 12 => IsV (.bool true)
  | 13 => IsV (.bool true)
  | 14 => IsV (.bool true)
  | _ => fun _ _ => True
theorem equalV_kept (x y : Value) (la lb : List Nat) : ∀ i v w w', equalV x y la lb i v w → Below w.heap.size w w' → equalV x y la lb i v w'
  | 0, _, _, _, h, _ => h
  | 1, _, _, _, h, _ => h
  | 2, _, _, _, h, _ => h
  | 3, _, _, _, h, _ => h
  | 4, _, _, _, h, _ => h
  | 5, _, _, _, h, _ => h
  | 6, _, _, _, h, _ => h
  | 7, _, _, _, h, _ => h
  | 8, _, _, _, h, _ => h
  | 9, _, _, _, h, _ => h
  | 10, _, _, _, h, _ => h
  | 11, _, _, _, h, _ => h
  | 12, _, _, _, h, _ => h
  | 13, _, _, _, h, _ => h
  | 14, _, _, _, h, _ => h
  | _ + 15, _, _, _, _, _ => trivial
set_option maxHeartbeats 1000000 in
theorem macEqual_any (la lb : List Nat) (p q : Option Addr) (n c m d : Nat) (w : World) (hT : Tab w) (hA : BytesAt w (.slice p n c) la) (hB : BytesAt w (.slice q m d) lb) (hn : n ≤ 9223372036854775807) (hm : m ≤ 9223372036854775807) :
    Calls Tryd.prog 6 #[.slice p n c, .slice q m d] w fun e w' => e = .returned (.bool true) ∧ Below w.heap.size w w' := by
  have HT : Hid (Tab w) := hT
  have HA : Hid (BytesAt w (.slice p n c) la) := hA
  have HB : Hid (BytesAt w (.slice q m d) lb) := hB
  clear hT hA hB
  go_enter Tryd.func6, Tryd.ntmps6
  go_wp2_with fail
  refine (anchor_any w HT.out).mono ?_
  rintro e w1 ⟨rfl, hb1⟩
  have HB1 : Hid (Below w.heap.size w w1) := hb1
  clear hb1
  go_wp2_with fail
  have HVA := bytesAt_below HA.out HB1.out
  have HVB := bytesAt_below HB.out HB1.out
  refine wp_region_inv (equalV (.slice p n c) (.slice q m d) la lb) (fun u u' => Below u.heap.size u u') (by kernel_rfl) ((Below.refl _ _).drew) below_trans' (equalV_kept _ _ _ _) (by kernel_rfl) ?_ ?_
  · intro i o a' w' hi inv hpre
    have hb : Below w1.heap.size w1 w' := inv.grow
    have hlt : i < 15 := (Array.getElem?_eq_some_iff.1 hi).1
    obtain rfl|rfl|rfl|rfl|rfl|rfl|rfl|rfl|rfl|rfl|rfl|rfl|rfl|rfl|rfl : i = 0 ∨ i = 1 ∨ i = 2 ∨ i = 3 ∨ i = 4 ∨ i = 5 ∨ i = 6 ∨ i = 7 ∨ i = 8 ∨ i = 9 ∨ i = 10 ∨ i = 11 ∨ i = 12 ∨ i = 13 ∨ i = 14 := by omega
    · obtain rfl := Option.some.inj hi
      exact st_value _ rfl rfl rfl (Below.refl _ _) (by show a'.tmps.getD 0 undef = _; rw [inv.old 0 (notDst_spec (by kernel_rfl))]; rfl)
    · obtain rfl := Option.some.inj hi
      exact st_value _ rfl rfl rfl (Below.refl _ _) (by show a'.tmps.getD 1 undef = _; rw [inv.old 1 (notDst_spec (by kernel_rfl))]; rfl)
    · obtain rfl := Option.some.inj hi
      have h0 : a'.tmps.getD 7 undef = _ := pre_of hpre 0 7 (by kernel_rfl) (by kernel_rfl)
      have h1 : a'.tmps.getD 8 undef = _ := pre_of hpre 1 8 (by kernel_rfl) (by kernel_rfl)
      refine st_call 15 #[a'.tmps.getD 7 undef, a'.tmps.getD 8 undef] rfl rfl (by kernel_rfl) ?_
      rw [h0, h1]
      refine (equal_any la lb p q n c m d w' (bytesAt_below HVA hb) (bytesAt_below HVB hb) hn hm).mono ?_
      rintro e w3 ⟨rfl, rfl⟩
      exact ⟨_, rfl, Below.refl _ _, rfl⟩
    · obtain rfl := Option.some.inj hi
      exact st_value _ rfl rfl rfl (Below.refl _ _) (by show a'.tmps.getD 0 undef = _; rw [inv.old 0 (notDst_spec (by kernel_rfl))]; rfl)
    · obtain rfl := Option.some.inj hi
      have h0 : a'.tmps.getD 10 undef = _ := pre_of hpre 3 10 (by kernel_rfl) (by kernel_rfl)
      have hv : BytesAt w' (a'.tmps.getD 10 undef) la := by rw [h0]; exact bytesAt_below HVA hb
      exact st_value _ rfl rfl (conv_run 10 rfl hv) (Below.refl _ _) rfl
    · obtain rfl := Option.some.inj hi
      exact st_value _ rfl rfl rfl (Below.refl _ _) (by show a'.tmps.getD 1 undef = _; rw [inv.old 1 (notDst_spec (by kernel_rfl))]; rfl)
    · obtain rfl := Option.some.inj hi
      have h0 : a'.tmps.getD 12 undef = _ := pre_of hpre 5 12 (by kernel_rfl) (by kernel_rfl)
      have hv : BytesAt w' (a'.tmps.getD 12 undef) lb := by rw [h0]; exact bytesAt_below HVB hb
      exact st_value _ rfl rfl (conv_run 12 rfl hv) (Below.refl _ _) rfl
    · obtain rfl := Option.some.inj hi
      have h0 : a'.tmps.getD 11 undef = _ := pre_of hpre 4 11 (by kernel_rfl) (by kernel_rfl)
      have h1 : a'.tmps.getD 13 undef = _ := pre_of hpre 6 13 (by kernel_rfl) (by kernel_rfl)
      exact st_value _ rfl rfl (eqs_run 11 13 rfl h0 h1 HVA.1 HVB.1) (Below.refl _ _) rfl
    · obtain rfl := Option.some.inj hi
      have h0 : a'.tmps.getD 9 undef = _ := pre_of hpre 2 9 (by kernel_rfl) (by kernel_rfl)
      have h1 : a'.tmps.getD 14 undef = _ := pre_of hpre 7 14 (by kernel_rfl) (by kernel_rfl)
      exact st_value (.bool true) rfl rfl (eqb_run 9 14 rfl h0 h1) (Below.refl _ _) rfl
    · obtain rfl := Option.some.inj hi
      have h0 : a'.tmps.getD 15 undef = _ := pre_of hpre 8 15 (by kernel_rfl) (by kernel_rfl)
      exact st_value _ rfl rfl rfl (Below.refl _ _) h0
    · obtain rfl := Option.some.inj hi
      have hgu : a'.tmps.getD 16 undef = _ := pre_of hpre 9 16 (by kernel_rfl) (by kernel_rfl)
      exact st_value _ rfl (wanted_of 9 16 rfl (by kernel_rfl) hgu) rfl (Below.refl _ _) (by show a'.tmps.getD 0 undef = _; rw [inv.old 0 (notDst_spec (by kernel_rfl))]; rfl)
    · obtain rfl := Option.some.inj hi
      have hgu : a'.tmps.getD 16 undef = _ := pre_of hpre 9 16 (by kernel_rfl) (by kernel_rfl)
      exact st_value _ rfl (wanted_of 9 16 rfl (by kernel_rfl) hgu) rfl (Below.refl _ _) (by show a'.tmps.getD 0 undef = _; rw [inv.old 0 (notDst_spec (by kernel_rfl))]; rfl)
    · obtain rfl := Option.some.inj hi
      have hgu : a'.tmps.getD 16 undef = _ := pre_of hpre 9 16 (by kernel_rfl) (by kernel_rfl)
      have h0 : a'.tmps.getD 17 undef = _ := pre_of hpre 10 17 (by kernel_rfl) (by kernel_rfl)
      have h1 : a'.tmps.getD 18 undef = _ := pre_of hpre 11 18 (by kernel_rfl) (by kernel_rfl)
      refine st_call 15 #[a'.tmps.getD 17 undef, a'.tmps.getD 18 undef] rfl (wanted_of 9 16 rfl (by kernel_rfl) hgu) (by kernel_rfl) ?_
      rw [h0, h1]
      refine (equal_any la la p p n c n c w' (bytesAt_below HVA hb) (bytesAt_below HVA hb) hn hn).mono ?_
      rintro e w3 ⟨rfl, rfl⟩
      exact ⟨_, rfl, Below.refl _ _, by rw [decide_eq_true rfl]; rfl⟩
    · obtain rfl := Option.some.inj hi
      have h0 : a'.tmps.getD 16 undef = _ := pre_of hpre 9 16 (by kernel_rfl) (by kernel_rfl)
      have h1 : a'.tmps.getD 19 undef = _ := pre_of hpre 12 19 (by kernel_rfl) (by kernel_rfl)
      exact st_value (.bool true) rfl rfl (pick_step h0 h1 rfl) (Below.refl _ _) rfl
    · obtain rfl := Option.some.inj hi
      have h0 : a'.tmps.getD 20 undef = _ := pre_of hpre 13 20 (by kernel_rfl) (by kernel_rfl)
      exact st_value _ rfl rfl rfl (Below.refl _ _) h0
  · intro a' w' inv hd
    have h0 : a'.tmps.getD 4 undef = _ := hd 14 4 (by kernel_rfl)
    have hb : Below w1.heap.size w1 w' := inv.grow
    have hb7 : Below w.heap.size w w' := HB1.out.trans (hb.mono HB1.out.size)
    have hdf : a'.defers = [] := inv.defers
    clear inv hd hb
    go_wp2
    exact ⟨hdf, _, results_tmp rfl _ _ _, by rw [h0], hb7⟩
end Go.Proofs.YtnbdadhdpplldabDoor
