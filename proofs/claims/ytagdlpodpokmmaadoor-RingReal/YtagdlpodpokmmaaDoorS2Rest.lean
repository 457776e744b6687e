/- The document's code: contracts. -/
import Derived.Test.YtagdlpodpokmmaaDoorS2Mac
import Derived.Laws.Strings
import Derived.Test.YtagdlpodpokmmaaDoorS2RefAll
import Derived.Test.YtagdlpodpokmmaaDoorInv
namespace Go.Proofs.YtagdlpodpokmmaaDoor.S2
open Go.Proofs.YtagdlpodpokmmaaDoor.Sp
open Go.RowKit
theorem code_jefe : Mk.code [74, 101, 102, 101] [119, 104, 97, 116, 32, 100, 111, 32, 121, 97, 32, 119, 97, 110, 116, 32, 102, 111, 114, 32, 110, 111, 116, 104, 105, 110, 103, 63] = [91, 220, 193, 70, 191, 96, 117, 78, 106, 4, 36, 38, 8, 149, 117, 199, 90, 0, 63, 8, 157, 39, 57, 131, 157, 236, 88, 185, 100, 236, 56, 67] := by decide +kernel
theorem jefe_ends : Ending.returned (.bool ((strB [91, 220, 193, 70, 191, 96, 117, 78, 106, 4, 36, 38, 8, 149, 117, 199, 90, 0, 63, 8, 157, 39, 57, 131, 157, 236, 88, 185, 100, 236, 56, 67]).toList == [91, 220, 193, 70, 191, 96, 117, 78, 106, 4, 36, 38, 8, 149, 117, 199, 90, 0, 63, 8, 157, 39, 57, 131, 157, 236, 88, 185, 100, 236, 56, 67])) = Ending.returned (.bool true) := by kernel_rfl
theorem bytesAt_lit {w : World} {g : Nat} {l : List Nat} {n : Nat} {fr : Nat × Nat} (hs : ∀ x ∈ l, x < 256) (hl : l.length = n) (h : w.heap[g]? = some (.cells (arr .u8 l) 5 fr)) : BytesAt w (.slice (some ⟨g, 0, none⟩) n n) l :=
  ⟨hs, .inr ⟨g, 0, n, by rw [hl], by omega, rangeAt_of_row h⟩⟩
end Go.Proofs.YtagdlpodpokmmaaDoor.S2
/- mac: Equal. -/
namespace Go.Proofs.YtagdlpodpokmmaaDoor.S2
open Go.Proofs.YtagdlpodpokmmaaDoor.Sp
open Go.RowKit
theorem or_zero (u z : Nat) : u ||| z = 0 ↔ u = 0 ∧ z = 0 := Nat.or_eq_zero_iff
theorem xor_zero (x y : Nat) : x ^^^ y = 0 ↔ x = y := by
  constructor
  · intro h
    have : x ^^^ y ^^^ y = 0 ^^^ y := by rw [h]
    rwa [Nat.xor_assoc, Nat.xor_self, Nat.xor_zero, Nat.zero_xor] at this
  · rintro rfl
    exact Nat.xor_self x
theorem take_eq_succ {la lb : List Nat} {k : Nat} (ha : k < la.length) (hb : k < lb.length) : la.take (k + 1) = lb.take (k + 1) ↔ la.take k = lb.take k ∧ Sp.nth la k = Sp.nth lb k := by
  rw [List.take_add_one, List.take_add_one, Sp.nth_of ha, Sp.nth_of hb]
  constructor
  · intro h
    have h1 := congrArg List.length h
    have := List.append_inj h (by simp; omega)
    exact ⟨this.1, by simpa using this.2⟩
  · rintro ⟨h1, h2⟩
    rw [h1, h2]
set_option maxHeartbeats 1000000 in
theorem equal_any (la lb : List Nat) (p q : Option Addr) (n c m d : Nat) (w : World) (hA : BytesAt w (.slice p n c) la) (hB : BytesAt w (.slice q m d) lb) (hn : n ≤ 9223372036854775807) (hm : m ≤ 9223372036854775807) :
    Calls Tryd.prog 60 #[.slice p n c, .slice q m d] w fun e w' => e = .returned (.bool (decide (la = lb))) ∧ w' = w := by
  obtain ⟨hal, ha⟩ := bytesAt_src hA
  obtain ⟨hbl, hb⟩ := bytesAt_src hB
  have HAS : Hid (∀ x ∈ la, x < 256) := hA.1
  have HBS : Hid (∀ x ∈ lb, x < 256) := hB.1
  have HA : Hid (la ≠ [] → ∃ b o, p = some ⟨b, o, none⟩ ∧ w.rangeAt b o (ints .u8 la)) := ha
  have HB : Hid (lb ≠ [] → ∃ b o, q = some ⟨b, o, none⟩ ∧ w.rangeAt b o (ints .u8 lb)) := hb
  have HAL : Hid (la.length = n) := hal
  have HBL : Hid (lb.length = m) := hbl
  clear hA hB ha hb hal hbl
  by_cases hnm : n = m
  · subst hnm
    obtain ⟨R, hR⟩ : ∃ R, decide (la = lb) = R := ⟨_, rfl⟩
    rw [hR]
    have HR : Hid (decide (la = lb) = R) := hR
    clear hR
    go_enter Tryd.func60, Tryd.ntmps60
    go_wp2_with fail
    go_loopw [5, 15] (fun u i wr => ∃ k z : Nat, k ≤ n ∧ i = .int .i64 k ∧ u = .int .u8 z ∧ z < 256 ∧ Hid (z = 0 ↔ la.take k = lb.take k) ∧ Hid (wr = w)) (fun _ i _ => n - (intOf i).toNat)
    case atStart => exact ⟨0, 0, by omega, rfl, rfl, by decide, (by show _ ↔ _; simp), rfl⟩
    case round =>
      obtain ⟨k, z, hk, rfl, rfl, hz, HZ, HW⟩ := hrel
      have hw := HW.out
      subst hw
      clear HW
      by_cases hlt : k < n
      · obtain ⟨ba, oa, rfl, hra⟩ := HA.out (by intro e; have := HAL.out; rw [e] at this; simp at this; omega)
        obtain ⟨bb, ob, rfl, hrb⟩ := HB.out (by intro e; have := HBL.out; rw [e] at this; simp at this; omega)
        have e1 := hra k _ (ints_get .u8 la k (by rw [HAL.out]; exact hlt))
        have e2 := hrb k _ (ints_get .u8 lb k (by rw [HBL.out]; exact hlt))
        have x1 : Sp.nth la k < 256 := Sp.nth_lt (by decide) HAS.out _
        have x2 : Sp.nth lb k < 256 := Sp.nth_lt (by decide) HBS.out _
        have HN : Hid ((z ||| (Sp.nth la k ^^^ Sp.nth lb k)) = 0 ↔ la.take (k + 1) = lb.take (k + 1)) := by
          show _ ↔ _
          rw [or_zero, xor_zero, take_eq_succ (by rw [HAL.out]; exact hlt) (by rw [HBL.out]; exact hlt), HZ.out]
        generalize Sp.nth la k = y1 at *
        generalize Sp.nth lb k = y2 at *
        have x3 : y1 ^^^ y2 < 256 := Nat.xor_lt_two_pow (n := 8) x1 x2
        have x4 : z ||| (y1 ^^^ y2) < 256 := Nat.or_lt_two_pow (n := 8) hz x3
        have hx := u8_xor_nat _ _ x1 x2
        have ho := u8_or_nat _ _ hz x3
        have k0 : (0 : Int) ≤ (k : Int) := by omega
        have k1 : (k : Int) < (n : Int) := by omega
        clear hra hrb HZ x1 x2 x3
        go_wp2_with fail
        go_roundw
        case rel => exact ⟨k + 1, z ||| (y1 ^^^ y2), by omega, by go_num, rfl, x4, HN.out, trivial⟩
        case measure => simp [intOf]; omega
      · obtain rfl : k = n := by omega
        have hzz := HZ.out
        rw [List.take_of_length_le (by rw [HAL.out]; exact Nat.le_refl _), List.take_of_length_le (by rw [HBL.out]; exact Nat.le_refl _)] at hzz
        have HF : Hid (((z : Int) == 0) = R) := by
          show _ = _
          rw [← HR.out, show ((z : Int) == 0) = decide ((z : Int) = 0) from rfl]
          apply decide_eq_decide.2
          rw [← hzz]
          omega
        clear hzz HZ
        go_wp2_with fail
        go_ret
        exact ⟨by show Ending.returned (.bool ((z : Int) == 0)) = _; rw [HF.out], rfl⟩
  · have hne : la ≠ lb := fun e => hnm (by rw [← HAL.out, ← HBL.out, e])
    have h1 : ¬ (n : Int) = (m : Int) := by omega
    rw [decide_eq_false hne]
    clear hne
    go_enter Tryd.func60, Tryd.ntmps60
    go_wp2_with fail
    go_ret
    exact ⟨rfl, rfl⟩
end Go.Proofs.YtagdlpodpokmmaaDoor.S2
/- The walk of MacEqual. -/
namespace Go.Proofs.YtagdlpodpokmmaaDoor.S2
open Go.Proofs.YtagdlpodpokmmaaDoor.Sp
open Go.RowKit
def IsV (x v : Value) (_ : World) : Prop := v = x
def StrV (l : List Nat) (v : Value) (_ : World) : Prop := v = .string (strB l)
theorem conv_empty (w : World) (p : Option Addr) (c : Nat) : (convert 22 9 (.slice p 0 c)).run Tryd.prog w = .ok (.string (strB [])) w := by
  rw [run_convert_bytes_string w 22 9 5 _ _ _ Tryd.underlying22 Tryd.underlying5 Tryd.underlying9]
  cases p with
  | none => rfl
  | some a => exact run_bytesToString w a 0 c [] (by rfl)
theorem conv_bytes {w : World} {v : Value} {l : List Nat} (h : BytesAt w v l) : (convert 22 9 v).run Tryd.prog w = .ok (.string (strB l)) w := by
  rcases h.2 with ⟨p, c, rfl, rfl⟩ | ⟨b, o, c, rfl, _, hr⟩
  · exact conv_empty w p c
  · exact run_conv w b o c l hr
theorem conv_run {o : Oper} {a' : Act} {w' : World} {l : List Nat} (t : Tmp) (ho : o.op = .convert 22 9 (.tmp t)) (h : BytesAt w' (a'.tmps.getD t undef) l) :
    (execOp a'.eval o).run Tryd.prog w' = .ok (.value (.string (strB l))) w' := by
  unfold execOp
  simp only [ho, Act.eval, Sem.run_bind, conv_bytes h, Result.andThen_ok, Sem.run_pure]
theorem pick_step {o : Oper} {a' : Act} {w' : World} {t u : Tmp} {r : Operand} (h0 : a'.tmps.getD t undef = .bool true) (h1 : a'.tmps.getD u undef = .bool true) (ho : o.op = .pick (.tmp t) (.tmp u) r) :
    (execOp a'.eval o).run Tryd.prog w' = .ok (.value (.bool true)) w' := by
  unfold execOp
  simp only [ho, Act.eval, h0, h1]
  simp [go_sem]
theorem below_trans' (x y z : World) (h : Below x.heap.size x y) (k : Below y.heap.size y z) : Below x.heap.size x z := h.trans (k.mono h.size)
theorem strB_fold : ∀ (l : List Nat) (r : ByteArray), ((l.map (fun (n : Nat) => (n : Int))).foldl (fun r n => r.push (UInt8.ofNat n.toNat)) r).data = r.data ++ (l.map fun n => UInt8.ofNat n).toArray
  | [], r => by simp
  | x :: l, r => by
    rw [List.map_cons, List.foldl_cons, strB_fold l]
    simp [ByteArray.push]
theorem strB_data (l : List Nat) : (strB l).data = (l.map fun n => UInt8.ofNat n).toArray := by
  unfold strB
  rw [strB_fold]
  simp
theorem map_inj_small : ∀ {la lb : List Nat}, (∀ x ∈ la, x < 256) → (∀ x ∈ lb, x < 256) → la.map (fun n => UInt8.ofNat n) = lb.map (fun n => UInt8.ofNat n) → la = lb
  | [], [], _, _, _ => rfl
  | [], _ :: _, _, _, h => by simp at h
  | _ :: _, [], _, _, h => by simp at h
  | x :: la, y :: lb, ha, hb, h => by
    simp only [List.map_cons, List.cons.injEq] at h
    have h1 : x = y := by
      have := congrArg UInt8.toNat h.1
      have hx := ha x (by simp)
      have hy := hb y (by simp)
      simp at this
      omega
    rw [h1, map_inj_small (fun z hz => ha z (by simp [hz])) (fun z hz => hb z (by simp [hz])) h.2]
theorem strB_inj {la lb : List Nat} (ha : ∀ x ∈ la, x < 256) (hb : ∀ x ∈ lb, x < 256) : strB la = strB lb ↔ la = lb := by
  constructor
  · intro h
    have h1 := congrArg ByteArray.data h
    rw [strB_data, strB_data] at h1
    exact map_inj_small ha hb (by simpa using h1)
  · rintro rfl
    rfl
theorem eqs_run {o : Oper} {a' : Act} {w' : World} {la lb : List Nat} (t u : Tmp) (ho : o.op = .binOp .eql 9 (.tmp t) (.tmp u) 9) (h0 : a'.tmps.getD t undef = .string (strB la)) (h1 : a'.tmps.getD u undef = .string (strB lb)) (ha : ∀ x ∈ la, x < 256) (hb : ∀ x ∈ lb, x < 256) :
    (execOp a'.eval o).run Tryd.prog w' = .ok (.value (.bool (decide (la = lb)))) w' := by
  have e : ((strB la).data.toList == (strB lb).data.toList) = decide (la = lb) := by
    rw [Bool.eq_iff_iff]
    rw [beq_iff_eq, decide_eq_true_iff, ← strB_inj ha hb]
    constructor
    · intro h
      exact ByteArray.ext (Array.ext' h)
    · intro h
      rw [h]
  unfold execOp
  simp only [ho, Act.eval, h0, h1]
  simp [go_sem]
  rw [ByteArray.toList_eq, ByteArray.toList_eq]
  exact e
theorem eqb_run {o : Oper} {a' : Act} {w' : World} {r : Bool} (t u : Tmp) (ho : o.op = .binOp .eql 4 (.tmp t) (.tmp u) 4) (h0 : a'.tmps.getD t undef = .bool r) (h1 : a'.tmps.getD u undef = .bool r) :
    (execOp a'.eval o).run Tryd.prog w' = .ok (.value (.bool true)) w' := by
  unfold execOp
  simp only [ho, Act.eval, h0, h1]
  simp [go_sem]
def equalV (x y : Value) (la lb : List Nat) : Nat → Value → World → Prop
  | 0 => IsV x
  | 1 => IsV y
  | 2 => IsV (.bool (decide (la = lb)))
  | 3 => IsV x
  | 4 => StrV la
  | 5 => IsV y
  | 6 => StrV lb
  | 7 => IsV (.bool (decide (la = lb)))
  | 8 => IsV (.bool true)
  | 9 => IsV (.bool true)
  | 10 => IsV x
  | 11 => IsV x
  | 12 => IsV (.bool true)
  | 13 => IsV (.bool true)
  | 14 => IsV (.bool true)
  | _ => fun _ _ => True
theorem equalV_kept (x y : Value) (la lb : List Nat) : ∀ i v w w', equalV x y la lb i v w → Below w.heap.size w w' → equalV x y la lb i v w'
  | 0, _, _, _, h, _ => h
  | 1, _, _, _, h, _ => h
  | 2, _, _, _, h, _ => h
  | 3, _, _, _, h, _ => h
  | 4, _, _, _, h, _ => h
  | 5, _, _, _, h, _ => h
  | 6, _, _, _, h, _ => h
  | 7, _, _, _, h, _ => h
  | 8, _, _, _, h, _ => h
  | 9, _, _, _, h, _ => h
  | 10, _, _, _, h, _ => h
  | 11, _, _, _, h, _ => h
  | 12, _, _, _, h, _ => h
  | 13, _, _, _, h, _ => h
  | 14, _, _, _, h, _ => h
  | _ + 15, _, _, _, _, _ => trivial
end Go.Proofs.YtagdlpodpokmmaaDoor.S2
/- Steps of the statements' regions: codes, sums, strings. -/
namespace Go.Proofs.YtagdlpodpokmmaaDoor.S2
open Go.Proofs.YtagdlpodpokmmaaDoor.Sp
open Go.RowKit
/-- A slice that reads as these bytes. -/
def BV (l : List Nat) (v : Value) (w : World) : Prop := BytesAt w v l
theorem BV.kept {l : List Nat} {v : Value} {w w' : World} (h : BV l v w) (hb : Below w.heap.size w w') : BV l v w' := bytesAt_below h hb
/-- A slice of these values. -/
def PartsV (vs : List Value) (v : Value) (w : World) : Prop := ∃ g, v = .slice (some ⟨g, 0, none⟩) vs.length vs.length ∧ w.rangeAt g 0 vs
theorem PartsV.kept {vs : List Value} {v : Value} {w w' : World} (h : PartsV vs v w) (hb : Below w.heap.size w w') : PartsV vs v w' := by
  obtain ⟨g, rfl, h1⟩ := h
  exact ⟨g, rfl, rangeAt_below hb h1⟩
theorem bytesAt_slice {w : World} {v : Value} {l : List Nat} (h : BytesAt w v l) : ∃ p c, v = .slice p l.length c := by
  rcases h.2 with ⟨p, c, rfl, rfl⟩ | ⟨b, o, c, rfl, _⟩
  · exact ⟨p, c, rfl⟩
  · exact ⟨_, c, rfl⟩
theorem code_bytes {w : World} {g : Nat} {l : List Nat} (hs : ∀ x ∈ l, x < 256) (hl : l.length = 32) (h : w.heap[g]? = some (.cells (arr .u8 l) 5 (0, 0))) : BytesAt w (.slice (some ⟨g, 0, none⟩) 32 32) l :=
  ⟨hs, .inr ⟨g, 0, 32, by rw [hl], by omega, rangeAt_of_row h⟩⟩
theorem code_step {w' : World} {kv pv : Value} {key : List Nat} {vs : List Value} (ls : List (List Nat)) (hT : Tab w') (hk : BytesAt w' kv key) (hp : PartsV vs pv w') (hel : ∀ (i : Nat) (l : List Nat), ls[i]? = some l → ∃ u, vs[i]? = some u ∧ BytesAt w' u l) (hlen : ls.length = vs.length)
    (hkn : key.length ≤ 100000) (hlm : ls.length ≤ 1000) (hln : ls.flatten.length ≤ 1000000) :
    Calls Tryd.prog 34 #[kv, pv] w' fun e w2 => ∃ v, e = .returned v ∧ Below w'.heap.size w' w2 ∧ BV (Mk.code key ls.flatten) v w2 := by
  obtain ⟨p, c, rfl⟩ := bytesAt_slice hk
  obtain ⟨g, rfl, hr⟩ := hp
  rw [← hlen]
  refine (code_any key ls p key.length c g 0 ls.length vs w' hk hT (by omega) hr hel hlm (by omega)).mono ?_
  rintro e w2 ⟨b, rfl, _, h2, h3⟩
  exact ⟨_, rfl, h3, code_bytes (Mk.code_small _ _) (Mk.code_length _ _) h2⟩
theorem code1_step {w' : World} {kv pv y : Value} {key m : List Nat} (hT : Tab w') (hk : BytesAt w' kv key) (hp : PartsV [y] pv w') (hy : BytesAt w' y m) (hkn : key.length ≤ 100000) (hmn : m.length ≤ 1000000) :
    Calls Tryd.prog 34 #[kv, pv] w' fun e w2 => ∃ v, e = .returned v ∧ Below w'.heap.size w' w2 ∧ BV (Mk.code key m) v w2 := by
  have h := code_step [m] hT hk hp (fun i l hl => by
    match i with
    | 0 => simp at hl; subst hl; exact ⟨_, rfl, hy⟩
    | i + 1 => simp at hl) rfl hkn (by simp) (by simpa using hmn)
  simpa using h
theorem rsum_step {w' : World} {v : Value} {m : List Nat} (h : BytesAt w' v m) (h0 : m ≠ []) (hm : m.length ≤ 1000) :
    Calls Tryd.prog 30 #[v] w' fun e w2 => ∃ v, e = .returned v ∧ Below w'.heap.size w' w2 ∧ BV (Sp.sum m) v w2 := by
  rcases h.2 with ⟨p, c, rfl, rfl⟩ | ⟨b, o, c, rfl, hc, hr⟩
  · exact absurd rfl h0
  · refine (rsum_any m (some ⟨b, o, none⟩) c w' (.inr ⟨⟨b, o, none⟩, c, rfl, fun j u hu => by rw [Addr.add_mid]; exact hr j u hu⟩) h.1 hm).mono ?_
    rintro e w2 ⟨v, rfl, h1, h2⟩
    obtain ⟨g, c, rfl, hg, hgl, hr⟩ := own_cell h1 (by decide)
    refine ⟨_, rfl, h2, Mk.sum_small _, ?_⟩
    obtain ⟨_, ⟨he, h0⟩ | ⟨g', cap, cur, he, _, _, hnc, _⟩⟩ := h1
    · omega
    · cases he
      exact .inr ⟨g, 0, c, by rw [sum_length], by rw [sum_length]; exact hnc, hr⟩
theorem build1_run {o : Oper} {a' : Act} {w' : World} {p : Option Addr} {n c : Nat} (t : Tmp) (ho : o.op = .buildSlice 87 1 #[(0, .tmp t)]) (h0 : a'.tmps.getD t undef = .slice p n c) :
    (execOp a'.eval o).run Tryd.prog w' = .ok (.value (.slice (some ⟨w'.heap.size, 0, none⟩) 1 1)) (w'.alloc (.cells #[.slice p n c] 22)) := by
  have he : a'.eval (.tmp t) = .slice p n c := h0
  unfold execOp
  simp only [ho]
  generalize a'.eval = r at *
  simp [he, go_sem]
theorem build2_run {o : Oper} {a' : Act} {w' : World} {p q : Option Addr} {n c m d : Nat} (t u : Tmp) (ho : o.op = .buildSlice 87 2 #[(0, .tmp t), (1, .tmp u)]) (h0 : a'.tmps.getD t undef = .slice p n c) (h1 : a'.tmps.getD u undef = .slice q m d) :
    (execOp a'.eval o).run Tryd.prog w' = .ok (.value (.slice (some ⟨w'.heap.size, 0, none⟩) 2 2)) (w'.alloc (.cells #[.slice p n c, .slice q m d] 22)) := by
  have he : a'.eval (.tmp t) = .slice p n c := h0
  have hf : a'.eval (.tmp u) = .slice q m d := h1
  unfold execOp
  simp only [ho]
  generalize a'.eval = r at *
  simp [he, hf, go_sem]
theorem eq_run {o : Oper} {a' : Act} {w' : World} {s : ByteArray} (t u : Tmp) (ho : o.op = .binOp .eql 9 (.tmp t) (.tmp u) 9) (h0 : a'.tmps.getD t undef = .string s) (h1 : a'.tmps.getD u undef = .string s) :
    (execOp a'.eval o).run Tryd.prog w' = .ok (.value (.bool true)) w' := by
  unfold execOp
  simp only [ho, Act.eval, h0, h1]
  simp [go_sem]
namespace Mk
theorem fill_short (key : List Nat) : fill (short key) = fill key := by
  unfold fill
  have h : short (short key) = short key := by
    have := short_le key
    unfold short at this ⊢
    rw [if_neg (by omega)]
  rw [h]
theorem code_short (key m : List Nat) : code (short key) m = code key m := by
  unfold code
  rw [fill_short]
theorem code_long {key : List Nat} (h : 64 < key.length) (m : List Nat) : code (Sp.sum key) m = code key m := by
  rw [← code_short key m, show short key = Sp.sum key from by unfold short; rw [if_pos h]]
end Mk
end Go.Proofs.YtagdlpodpokmmaaDoor.S2
/- The document's answer of layer 2: pad, Code. -/
namespace Go.Proofs.YtagdlpodpokmmaaDoor.S2
open Go.Proofs.YtagdlpodpokmmaaDoor.Sp
open Go.RowKit
theorem own_weaken {w : World} {b b' e size : Nat} {v : Value} {n : Nat} {xs : List Value} (h : w.ownsRow b e size v n xs) (hb : b' ≤ b) : w.ownsRow b' e size v n xs := by
  obtain ⟨h1, h2 | ⟨g, cap, cur, h3, hg, rest⟩⟩ := h
  · exact ⟨h1, .inl h2⟩
  · exact ⟨h1, .inr ⟨g, cap, cur, h3, Nat.le_trans hb hg, rest⟩⟩
theorem pad_next (key : List Nat) (x k N : Nat) (hk : k < 64) {S : List Nat} (hS : Mk.short key = S) (hN : S.length = N) : (Mk.mask (Mk.fill key) x).take (k + 1) = (Mk.mask (Mk.fill key) x).take k ++ [if k < N then Sp.nth S k ^^^ x else x] := by
  have hl : (Mk.mask (Mk.fill key) x).length = 64 := by rw [Mk.mask_length, Mk.fill_length]
  rw [List.take_add_one, Sp.nth_of (by rw [hl]; exact hk)]
  congr 1
  have e : Sp.nth (Mk.mask (Mk.fill key) x) k = if k < N then Sp.nth S k ^^^ x else x := by
    have hfl := Mk.fill_length key
    have h1 : Sp.nth (Mk.mask (Mk.fill key) x) k = Sp.nth (Mk.fill key) k ^^^ x := by
      simp [Sp.nth, Mk.mask, hfl, hk]
    rw [h1]
    unfold Mk.fill
    rw [hS, hN]
    by_cases h : k < N
    · rw [if_pos h, Sp.nth_append_left (by rw [hN]; exact h)]
    · rw [if_neg h]
      have h2 := Sp.nth_append_right (l := S) (m := List.replicate (64 - N) 0) (k - N)
      rw [hN, show N + (k - N) = k from by omega] at h2
      rw [h2]
      have h3 : Sp.nth (List.replicate (64 - N) 0) (k - N) = 0 := by
        simp only [Sp.nth, List.getD_eq_getElem?_getD, List.getElem?_replicate]
        split <;> rfl
      rw [h3, Nat.zero_xor]
  rw [e]
  rfl
set_option maxHeartbeats 2000000 in
theorem pad_any (key : List Nat) (p : Option Addr) (n c x : Nat) (w : World) (hK : BytesAt w (.slice p n c) key) (hn : n ≤ 1000) (hx : x < 256) :
    Calls Tryd.prog 31 #[.slice p n c, .int .u8 x] w fun e w' => ∃ v, e = .returned v ∧ w'.ownsRow w.heap.size 5 1 v 64 (ints .u8 (Mk.mask (Mk.fill key) x)) ∧ Below w.heap.size w w' := by
  have HK : Hid (BytesAt w (.slice p n c) key) := hK
  have HKL : Hid (key.length = n) := (bytesAt_src hK).1
  have n0 : (n : Int) ≤ 1000 := by omega
  clear hK
  by_cases hlong : 64 < n
  · have hl' : (64 : Int) < (n : Int) := by omega
    have HSE : Hid (Mk.short key = Sp.sum key) := by
      show _ = _
      unfold Mk.short
      rw [if_pos (by rw [HKL.out]; exact hlong)]
    have HSL : Hid ((Sp.sum key).length = 32) := sum_length key
    have HSS : Hid (∀ y ∈ Sp.sum key, y < 256) := Mk.sum_small key
    have HC := rsum_step HK.out (by intro e; have := HKL.out; rw [e] at this; simp at this; omega) (by rw [HKL.out]; exact hn)
    have HCH : Hid (Calls Tryd.prog 30 #[.slice p n c] w fun e w2 => ∃ v, e = .returned v ∧ Below w.heap.size w w2 ∧ BV (Sp.sum key) v w2) := HC
    clear HC
    obtain ⟨F, hF⟩ : ∃ F, Mk.mask (Mk.fill key) x = F := ⟨_, rfl⟩
    rw [hF]
    have HFN : Hid (∀ k, k < 64 → F.take (k + 1) = F.take k ++ [if k < 32 then Sp.nth (Sp.sum key) k ^^^ x else x]) := fun k hk => by
      rw [← hF]
      exact pad_next key x k 32 hk HSE.out HSL.out
    have HFL : Hid (F.length = 64) := by
      show _ = _
      rw [← hF, Mk.mask_length, Mk.fill_length]
    clear hF HSE
    go_enter Tryd.func31, Tryd.ntmps31
    go_wp2_with fail
    refine HCH.out.mono ?_
    rintro e W1 ⟨v1, rfl, hbw, hv1⟩
    obtain ⟨p1, c1, rfl⟩ := bytesAt_slice hv1
    rw [sum_length] at hv1
    rw [sum_length]
    have HBW : Hid (Below w.heap.size w W1) := hbw
    have HSRC : Hid (Sp.sum key ≠ [] → ∃ b o, p1 = some ⟨b, o, none⟩ ∧ W1.rangeAt b o (ints .u8 (Sp.sum key))) := (bytesAt_src hv1).2
    clear hbw hv1 HCH HK
    go_wp2_with fail
    go_loopw [5, 6] (fun sl i wr => ∃ k : Nat, k ≤ 64 ∧ i = .int .i64 k ∧ Hid (wr.ownsRow W1.heap.size 5 1 sl k (ints .u8 (F.take k))) ∧ Hid (Below W1.heap.size W1 wr)) (fun _ i _ => 64 - (intOf i).toNat)
    case atStart => exact ⟨0, by omega, rfl, own_none _ _ _ _, Below.refl _ _⟩
    case round =>
      obtain ⟨k, hk, rfl, HO, HB⟩ := hrel
      obtain ⟨q, cq, rfl⟩ := own_slice HO.out
      by_cases hlt : k < 64
      · have k1 : (k : Int) < 64 := by omega
        have k0 : (0 : Int) ≤ (k : Int) := by omega
        have HNX := HFN.out k hlt
        have hbs := HB.out.size
        by_cases hin : k < 32
        · have k2 : (k : Int) < (32 : Int) := by omega
          rw [if_pos hin] at HNX
          obtain ⟨b, o, hpe, hr⟩ := HSRC.out (by intro e; have := HSL.out; rw [e] at this; simp at this <;> omega)
          have hc1 := rangeAt_below HB.out hr k _ (ints_get .u8 (Sp.sum key) k (by rw [HSL.out]; exact hin))
          have hy : Sp.nth (Sp.sum key) k < 256 := Sp.nth_lt (by decide) HSS.out _
          have hxx := u8_xor_nat _ _ hx hy
          rw [Nat.xor_comm] at hxx
          have HN1 : Hid (F.take (k + 1) = F.take k ++ [Sp.nth (Sp.sum key) k ^^^ x]) := HNX
          clear HNX hr
          generalize Sp.nth (Sp.sum key) k = y at *
          generalize hZ : y ^^^ x = z at *
          subst hpe
          have hbA : Below wr.heap.size wr (wr.alloc (Obj.cells (arr .u8 [z]) 5)) := (Below.refl _ _).alloc (Nat.le_refl _) _
          have HO2 : Hid ((wr.alloc (Obj.cells (arr .u8 [z]) 5)).ownsRow W1.heap.size 5 1 (.slice q k cq) k (ints .u8 (F.take k))) := own_below HO.out hbA
          have HB2 : Hid (Below W1.heap.size W1 (wr.alloc (Obj.cells (arr .u8 [z]) 5))) := HB.out.trans (hbA.mono hbs)
          have HR2 : Hid (SrcIs (wr.alloc (Obj.cells (arr .u8 [z]) 5)) (.slice (some ⟨wr.heap.size, 0, none⟩) 1 1) [z]) := .inr ⟨⟨wr.heap.size, 0, none⟩, 1, rfl, fun j u hu => by rw [Addr.add_mid]; exact rangeAt_of_row (heap_alloc_new wr _) j u hu⟩
          clear hbA HO HB
          go_wp2_with (first | with_reducible (refine stop_builtin .append ?_))
          refine Stop.go ?_
          rw [show (Obj.cells #[Value.int .u8 ((z : Nat) : Int)] 5 : Obj) = Obj.cells (arr .u8 [z]) 5 from rfl]
          with_reducible refine law_append W1.heap.size (.slice q k cq) k (ints .u8 (F.take k)) (.slice (some ⟨wr.heap.size, 0, none⟩) 1 1) [z] ?asvA ?axvA HO2.out HR2.out (by simp; omega) HB2.out.size ?akA
          case asvA => exact rfl
          case axvA => exact rfl
          intro v6 w6 hown6 hg6
          have HO6 : Hid (w6.ownsRow W1.heap.size 5 1 v6 (k + 1) (ints .u8 (F.take (k + 1)))) := by
            rw [HN1.out, ints_append]
            exact hown6
          have HB6 : Hid (Below W1.heap.size W1 w6) := below_grown' HB2.out hg6 HO2.out HB2.out.size (Nat.le_refl _)
          clear hown6 hg6 HO2 HB2 HR2 HN1
          go_wp2_with fail
          go_roundw
          case rel => exact ⟨k + 1, by omega, by go_num, HO6.out, HB6.out⟩
          case measure => simp [intOf]; omega
        · have k2 : ¬ (k : Int) < (32 : Int) := by omega
          rw [if_neg hin] at HNX
          have HN1 : Hid (F.take (k + 1) = F.take k ++ [x]) := HNX
          clear HNX
          have hbA : Below wr.heap.size wr (wr.alloc (Obj.cells (arr .u8 [x]) 5)) := (Below.refl _ _).alloc (Nat.le_refl _) _
          have HO2 : Hid ((wr.alloc (Obj.cells (arr .u8 [x]) 5)).ownsRow W1.heap.size 5 1 (.slice q k cq) k (ints .u8 (F.take k))) := own_below HO.out hbA
          have HB2 : Hid (Below W1.heap.size W1 (wr.alloc (Obj.cells (arr .u8 [x]) 5))) := HB.out.trans (hbA.mono hbs)
          have HR2 : Hid (SrcIs (wr.alloc (Obj.cells (arr .u8 [x]) 5)) (.slice (some ⟨wr.heap.size, 0, none⟩) 1 1) [x]) := .inr ⟨⟨wr.heap.size, 0, none⟩, 1, rfl, fun j u hu => by rw [Addr.add_mid]; exact rangeAt_of_row (heap_alloc_new wr _) j u hu⟩
          clear hbA HO HB
          go_wp2_with (first | with_reducible (refine stop_builtin .append ?_))
          refine Stop.go ?_
          rw [show (Obj.cells #[Value.int .u8 ((x : Nat) : Int)] 5 : Obj) = Obj.cells (arr .u8 [x]) 5 from rfl]
          with_reducible refine law_append W1.heap.size (.slice q k cq) k (ints .u8 (F.take k)) (.slice (some ⟨wr.heap.size, 0, none⟩) 1 1) [x] ?bsvA ?bxvA HO2.out HR2.out (by simp; omega) HB2.out.size ?bkA
          case bsvA => exact rfl
          case bxvA => exact rfl
          intro v6 w6 hown6 hg6
          have HO6 : Hid (w6.ownsRow W1.heap.size 5 1 v6 (k + 1) (ints .u8 (F.take (k + 1)))) := by
            rw [HN1.out, ints_append]
            exact hown6
          have HB6 : Hid (Below W1.heap.size W1 w6) := below_grown' HB2.out hg6 HO2.out HB2.out.size (Nat.le_refl _)
          clear hown6 hg6 HO2 HB2 HR2 HN1
          go_wp2_with fail
          go_roundw
          case rel => exact ⟨k + 1, by omega, by go_num, HO6.out, HB6.out⟩
          case measure => simp [intOf]; omega
      · obtain rfl : k = 64 := by omega
        have hO := HO.out
        rw [List.take_of_length_le (by rw [HFL.out]; exact Nat.le_refl _)] at hO
        have HF : Hid (wr.ownsRow w.heap.size 5 1 (.slice q 64 cq) 64 (ints .u8 F)) := own_weaken hO HBW.out.size
        have HB9 : Hid (Below w.heap.size w wr) := HBW.out.trans (HB.out.mono HBW.out.size)
        clear hO HO HB
        go_wp2_with fail
        go_ret
        exact ⟨_, rfl, HF.out, HB9.out⟩
  · have hl' : ¬ (64 : Int) < (n : Int) := by omega
    have HSE : Hid (Mk.short key = key) := by
      show _ = _
      unfold Mk.short
      rw [if_neg (by rw [HKL.out]; exact hlong)]
    have HSL : Hid (key.length = n) := HKL.out
    have HSS : Hid (∀ y ∈ key, y < 256) := HK.out.1
    obtain ⟨W1, hW1⟩ : ∃ W1, w = W1 := ⟨_, rfl⟩
    have HBW : Hid (Below w.heap.size w W1) := by
      rw [← hW1]
      exact Below.refl _ _
    have HSRC : Hid (key ≠ [] → ∃ b o, p = some ⟨b, o, none⟩ ∧ W1.rangeAt b o (ints .u8 key)) := by
      rw [← hW1]
      exact (bytesAt_src HK.out).2
    obtain ⟨F, hF⟩ : ∃ F, Mk.mask (Mk.fill key) x = F := ⟨_, rfl⟩
    rw [hF]
    have HFN : Hid (∀ k, k < 64 → F.take (k + 1) = F.take k ++ [if k < n then Sp.nth key k ^^^ x else x]) := fun k hk => by
      rw [← hF]
      exact pad_next key x k n hk HSE.out HSL.out
    have HFL : Hid (F.length = 64) := by
      show _ = _
      rw [← hF, Mk.mask_length, Mk.fill_length]
    clear hF HSE
    rw [hW1]
    rw [hW1] at HBW HK
    subst hW1
    clear HK
    go_enter Tryd.func31, Tryd.ntmps31
    go_wp2_with fail
    go_loopw [5, 6] (fun sl i wr => ∃ k : Nat, k ≤ 64 ∧ i = .int .i64 k ∧ Hid (wr.ownsRow w.heap.size 5 1 sl k (ints .u8 (F.take k))) ∧ Hid (Below w.heap.size w wr)) (fun _ i _ => 64 - (intOf i).toNat)
    case atStart => exact ⟨0, by omega, rfl, own_none _ _ _ _, Below.refl _ _⟩
    case round =>
      obtain ⟨k, hk, rfl, HO, HB⟩ := hrel
      obtain ⟨q, cq, rfl⟩ := own_slice HO.out
      by_cases hlt : k < 64
      · have k1 : (k : Int) < 64 := by omega
        have k0 : (0 : Int) ≤ (k : Int) := by omega
        have HNX := HFN.out k hlt
        have hbs := HB.out.size
        by_cases hin : k < n
        · have k2 : (k : Int) < (n : Int) := by omega
          rw [if_pos hin] at HNX
          obtain ⟨b, o, hpe, hr⟩ := HSRC.out (by intro e; have := HSL.out; rw [e] at this; simp at this <;> omega)
          have hc1 := rangeAt_below HB.out hr k _ (ints_get .u8 key k (by rw [HSL.out]; exact hin))
          have hy : Sp.nth key k < 256 := Sp.nth_lt (by decide) HSS.out _
          have hxx := u8_xor_nat _ _ hx hy
          rw [Nat.xor_comm] at hxx
          have HN1 : Hid (F.take (k + 1) = F.take k ++ [Sp.nth key k ^^^ x]) := HNX
          clear HNX hr
          generalize Sp.nth key k = y at *
          generalize hZ : y ^^^ x = z at *
          subst hpe
          have hbA : Below wr.heap.size wr (wr.alloc (Obj.cells (arr .u8 [z]) 5)) := (Below.refl _ _).alloc (Nat.le_refl _) _
          have HO2 : Hid ((wr.alloc (Obj.cells (arr .u8 [z]) 5)).ownsRow w.heap.size 5 1 (.slice q k cq) k (ints .u8 (F.take k))) := own_below HO.out hbA
          have HB2 : Hid (Below w.heap.size w (wr.alloc (Obj.cells (arr .u8 [z]) 5))) := HB.out.trans (hbA.mono hbs)
          have HR2 : Hid (SrcIs (wr.alloc (Obj.cells (arr .u8 [z]) 5)) (.slice (some ⟨wr.heap.size, 0, none⟩) 1 1) [z]) := .inr ⟨⟨wr.heap.size, 0, none⟩, 1, rfl, fun j u hu => by rw [Addr.add_mid]; exact rangeAt_of_row (heap_alloc_new wr _) j u hu⟩
          clear hbA HO HB
          go_wp2_with (first | with_reducible (refine stop_builtin .append ?_))
          refine Stop.go ?_
          rw [show (Obj.cells #[Value.int .u8 ((z : Nat) : Int)] 5 : Obj) = Obj.cells (arr .u8 [z]) 5 from rfl]
          with_reducible refine law_append w.heap.size (.slice q k cq) k (ints .u8 (F.take k)) (.slice (some ⟨wr.heap.size, 0, none⟩) 1 1) [z] ?asvB ?axvB HO2.out HR2.out (by simp; omega) HB2.out.size ?akB
          case asvB => exact rfl
          case axvB => exact rfl
          intro v6 w6 hown6 hg6
          have HO6 : Hid (w6.ownsRow w.heap.size 5 1 v6 (k + 1) (ints .u8 (F.take (k + 1)))) := by
            rw [HN1.out, ints_append]
            exact hown6
          have HB6 : Hid (Below w.heap.size w w6) := below_grown' HB2.out hg6 HO2.out HB2.out.size (Nat.le_refl _)
          clear hown6 hg6 HO2 HB2 HR2 HN1
          go_wp2_with fail
          go_roundw
          case rel => exact ⟨k + 1, by omega, by go_num, HO6.out, HB6.out⟩
          case measure => simp [intOf]; omega
        · have k2 : ¬ (k : Int) < (n : Int) := by omega
          rw [if_neg hin] at HNX
          have HN1 : Hid (F.take (k + 1) = F.take k ++ [x]) := HNX
          clear HNX
          have hbA : Below wr.heap.size wr (wr.alloc (Obj.cells (arr .u8 [x]) 5)) := (Below.refl _ _).alloc (Nat.le_refl _) _
          have HO2 : Hid ((wr.alloc (Obj.cells (arr .u8 [x]) 5)).ownsRow w.heap.size 5 1 (.slice q k cq) k (ints .u8 (F.take k))) := own_below HO.out hbA
          have HB2 : Hid (Below w.heap.size w (wr.alloc (Obj.cells (arr .u8 [x]) 5))) := HB.out.trans (hbA.mono hbs)
          have HR2 : Hid (SrcIs (wr.alloc (Obj.cells (arr .u8 [x]) 5)) (.slice (some ⟨wr.heap.size, 0, none⟩) 1 1) [x]) := .inr ⟨⟨wr.heap.size, 0, none⟩, 1, rfl, fun j u hu => by rw [Addr.add_mid]; exact rangeAt_of_row (heap_alloc_new wr _) j u hu⟩
          clear hbA HO HB
          go_wp2_with (first | with_reducible (refine stop_builtin .append ?_))
          refine Stop.go ?_
          rw [show (Obj.cells #[Value.int .u8 ((x : Nat) : Int)] 5 : Obj) = Obj.cells (arr .u8 [x]) 5 from rfl]
          with_reducible refine law_append w.heap.size (.slice q k cq) k (ints .u8 (F.take k)) (.slice (some ⟨wr.heap.size, 0, none⟩) 1 1) [x] ?bsvB ?bxvB HO2.out HR2.out (by simp; omega) HB2.out.size ?bkB
          case bsvB => exact rfl
          case bxvB => exact rfl
          intro v6 w6 hown6 hg6
          have HO6 : Hid (w6.ownsRow w.heap.size 5 1 v6 (k + 1) (ints .u8 (F.take (k + 1)))) := by
            rw [HN1.out, ints_append]
            exact hown6
          have HB6 : Hid (Below w.heap.size w w6) := below_grown' HB2.out hg6 HO2.out HB2.out.size (Nat.le_refl _)
          clear hown6 hg6 HO2 HB2 HR2 HN1
          go_wp2_with fail
          go_roundw
          case rel => exact ⟨k + 1, by omega, by go_num, HO6.out, HB6.out⟩
          case measure => simp [intOf]; omega
      · obtain rfl : k = 64 := by omega
        have hO := HO.out
        rw [List.take_of_length_le (by rw [HFL.out]; exact Nat.le_refl _)] at hO
        have HF : Hid (wr.ownsRow w.heap.size 5 1 (.slice q 64 cq) 64 (ints .u8 F)) := own_weaken hO HBW.out.size
        have HB9 : Hid (Below w.heap.size w wr) := HBW.out.trans (HB.out.mono HBW.out.size)
        clear hO HO HB
        go_wp2_with fail
        go_ret
        exact ⟨_, rfl, HF.out, HB9.out⟩
end Go.Proofs.YtagdlpodpokmmaaDoor.S2
/- The document's answer of layer 2: Code. -/
namespace Go.Proofs.YtagdlpodpokmmaaDoor.S2
open Go.Proofs.YtagdlpodpokmmaaDoor.Sp
open Go.RowKit
theorem rsum_own {w w' : World} {base : Nat} {v : Value} {l : List Nat} {n : Nat} (h : w.ownsRow base 5 1 v n (ints .u8 l)) (hl : l.length = n) (h0 : 0 < n) (hs : ∀ x ∈ l, x < 256) (hn : n ≤ 1000) (hb : Below w.heap.size w w') :
    Calls Tryd.prog 30 #[v] w' fun e w2 => ∃ v, e = .returned v ∧ w2.ownsRow w'.heap.size 5 1 v 32 (ints .u8 (Sp.sum l)) ∧ Below w'.heap.size w' w2 := by
  obtain ⟨g, c, rfl, _, _, hr⟩ := own_cell h h0
  subst hl
  exact rsum_any l (some ⟨g, 0, none⟩) c w' (.inr ⟨⟨g, 0, none⟩, c, rfl, fun j u hu => by rw [Addr.add_mid]; exact rangeAt_below hb hr j u hu⟩) hs hn
theorem own_src {w : World} {base : Nat} {v : Value} {l : List Nat} {n : Nat} (h : w.ownsRow base 5 1 v n (ints .u8 l)) (hl : l.length = n) (h0 : 0 < n) : SrcIs w v l := by
  obtain ⟨g, c, rfl, _, _, hr⟩ := own_cell h h0
  exact .inr ⟨⟨g, 0, none⟩, c, by rw [hl], fun j u hu => by rw [Addr.add_mid]; exact hr j u hu⟩
set_option maxHeartbeats 1000000 in
theorem rcode_any (key m : List Nat) (p : Option Addr) (n c : Nat) (mv : Value) (w : World) (hK : BytesAt w (.slice p n c) key) (hn : n ≤ 1000) (hM : SrcIs w mv m) (hms : ∀ x ∈ m, x < 256) (hm : m.length ≤ 900) :
    Calls Tryd.prog 15 #[.slice p n c, mv] w fun e w' => ∃ v, e = .returned v ∧ w'.ownsRow w.heap.size 5 1 v 32 (ints .u8 (Mk.code key m)) ∧ Below w.heap.size w w' := by
  have HP : Hid (∀ w1 x, Below w.heap.size w w1 → x < 256 → Calls Tryd.prog 31 #[.slice p n c, .int .u8 (x : Nat)] w1 fun e w' => ∃ v, e = .returned v ∧ w'.ownsRow w1.heap.size 5 1 v 64 (ints .u8 (Mk.mask (Mk.fill key) x)) ∧ Below w1.heap.size w1 w') := fun w1 x hb hx => pad_any key p n c x w1 (bytesAt_below hK hb) hn hx
  have HM : Hid (SrcIs w mv m) := hM
  have HMS : Hid (∀ x ∈ m, x < 256) := hms
  have HFS : Hid (∀ x ∈ Mk.fill key, x < 256) := Mk.fill_small hK.1
  have HFL : Hid ((Mk.fill key).length = 64) := Mk.fill_length key
  have HCD : Hid (Mk.code key m = Sp.sum (Mk.mask (Mk.fill key) 92 ++ Sp.sum (Mk.mask (Mk.fill key) 54 ++ m))) := rfl
  obtain ⟨CD, hCD⟩ : ∃ CD, Mk.code key m = CD := ⟨_, rfl⟩
  rw [hCD]
  rw [hCD] at HCD
  clear hK hM hms hCD
  generalize Mk.fill key = K at *
  have HL1 : Hid ((Mk.mask K 54).length = 64) := by
    show _ = _
    rw [Mk.mask_length, HFL.out]
  have HL2 : Hid ((Mk.mask K 92).length = 64) := by
    show _ = _
    rw [Mk.mask_length, HFL.out]
  go_enter Tryd.func15, Tryd.ntmps15
  go_wp2_with fail
  refine (HP.out w 54 (Below.refl _ _) (by decide)).mono ?_
  rintro e w1 ⟨v1, rfl, ho1, hb1⟩
  have HO1 : Hid (w1.ownsRow w.heap.size 5 1 v1 64 (ints .u8 (Mk.mask K 54))) := ho1
  have HB1 : Hid (Below w.heap.size w w1) := hb1
  clear ho1 hb1
  go_wp2_with (first | with_reducible (refine stop_builtin .append ?_))
  refine Stop.go ?_
  with_reducible refine law_append w.heap.size v1 64 (ints .u8 (Mk.mask K 54)) mv m ?asv ?axv HO1.out (SrcIs.below HM.out HB1.out) (by omega) HB1.out.size ?ak
  case asv => exact rfl
  case axv => exact rfl
  intro v2 w2 ho2 hg2
  rw [← ints_append] at ho2
  have HO2 : Hid (w2.ownsRow w.heap.size 5 1 v2 (64 + m.length) (ints .u8 (Mk.mask K 54 ++ m))) := ho2
  have HB2 : Hid (Below w.heap.size w w2) := below_grown' HB1.out hg2 HO1.out HB1.out.size (Nat.le_refl _)
  clear ho2 hg2 HO1 HB1
  go_wp2_with fail
  refine (rsum_own HO2.out (by rw [List.length_append, HL1.out]) (by omega) (fun x hx => by rcases List.mem_append.1 hx with h | h; exact Mk.mask_small HFS.out (by decide) x h; exact HMS.out x h) (by omega) (Below.refl _ _)).mono ?_
  rintro e w3 ⟨v3, rfl, ho3, hb3⟩
  have HS3 : Hid (SrcIs w3 v3 (Sp.sum (Mk.mask K 54 ++ m))) := own_src ho3 (sum_length _) (by decide)
  have HB3 : Hid (Below w.heap.size w w3) := HB2.out.trans (hb3.mono HB2.out.size)
  clear ho3 hb3 HO2 HB2
  go_wp2_with fail
  refine (HP.out w3 92 HB3.out (by decide)).mono ?_
  rintro e w4 ⟨v4, rfl, ho4, hb4⟩
  have HO4 : Hid (w4.ownsRow w3.heap.size 5 1 v4 64 (ints .u8 (Mk.mask K 92))) := ho4
  have HS4 : Hid (SrcIs w4 v3 (Sp.sum (Mk.mask K 54 ++ m))) := SrcIs.below HS3.out hb4
  have HB4 : Hid (Below w.heap.size w w4) := HB3.out.trans (hb4.mono HB3.out.size)
  have hs34 := hb4.size
  have hs3 := HB3.out.size
  clear ho4 hb4 HS3
  have HSL : Hid ((Sp.sum (Mk.mask K 54 ++ m)).length = 32) := sum_length _
  generalize hI : Sp.sum (Mk.mask K 54 ++ m) = I at *
  have HI : Hid (∀ x ∈ I, x < 256) := by
    rw [← hI]
    exact Mk.sum_small _
  clear hI
  go_wp2_with (first | with_reducible (refine stop_builtin .append ?_))
  refine Stop.go ?_
  with_reducible refine law_append w3.heap.size v4 64 (ints .u8 (Mk.mask K 92)) v3 I ?bsv ?bxv HO4.out HS4.out (by rw [HSL.out]; decide) hs34 ?bk
  case bsv => exact rfl
  case bxv => exact rfl
  intro v5 w5 ho5 hg5
  rw [← ints_append, HSL.out] at ho5
  have HO5 : Hid (w5.ownsRow w3.heap.size 5 1 v5 (64 + 32) (ints .u8 (Mk.mask K 92 ++ I))) := ho5
  have HB5 : Hid (Below w.heap.size w w5) := below_grown' HB4.out hg5 HO4.out HB4.out.size hs3
  clear ho5 hg5 HO4 HB4 HS4
  go_wp2_with fail
  refine (rsum_own HO5.out (by rw [List.length_append, HL2.out, HSL.out]) (by decide) (fun x hx => by rcases List.mem_append.1 hx with h | h; exact Mk.mask_small HFS.out (by decide) x h; exact HI.out x h) (by decide) (Below.refl _ _)).mono ?_
  rintro e w6 ⟨v6, rfl, ho6, hb6⟩
  rw [← HCD.out] at ho6
  have HO6 : Hid (w6.ownsRow w.heap.size 5 1 v6 32 (ints .u8 CD)) := own_weaken ho6 HB5.out.size
  have HB6 : Hid (Below w.heap.size w w6) := HB5.out.trans (hb6.mono HB5.out.size)
  clear ho6 hb6 HO5 HB5
  go_wp2_with fail
  go_ret
  exact ⟨_, rfl, HO6.out, HB6.out⟩
end Go.Proofs.YtagdlpodpokmmaaDoor.S2
