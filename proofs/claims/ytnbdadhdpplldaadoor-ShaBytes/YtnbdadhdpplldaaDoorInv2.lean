/- Steps of such a region; what the statements' last regions leave behind. -/
import Derived.Test.YtnbdadhdpplldaaDoorAnchor
import Derived.Test.YtnbdadhdpplldaaDoorInv
namespace Go.Proofs.YtnbdadhdpplldaaDoor
open Go.RowKit
section
variable {P : Program} {ops : Array Oper} {Q : Exit → Act → World → Prop} {V : Nat → Value → World → Prop} {G : World → World → Prop}
theorem st_value {i : Nat} {o : Oper} {a' : Act} {w' w'' : World} (v : Value) (hi : ops[i]? = some o) (hw : Region.wanted o (yielded ops a'.tmps) = true)
    (hr : (execOp a'.eval o).run P w' = .ok (.value v) w'') (hg : G w' w'') (hv : V i v w'') : wpOp P ops Q i (fun a'' w2 => G w' w2 ∧ ∃ v, a'' = a'.put o.dst v ∧ V i v w2) a' w' :=
  wpOp_value v hi hw hr ⟨hg, v, rfl, hv⟩
theorem st_call {i : Nat} {o : Oper} {a' : Act} {w' : World} (f : FuncId) (args : Array Value) (hi : ops[i]? = some o) (hw : Region.wanted o (yielded ops a'.tmps) = true)
    (hr : (execOp a'.eval o).run P w' = .ok (.enter f args) w') (h : Calls P f args w' fun e w2 => ∃ v, e = .returned v ∧ G w' w2 ∧ V i v w2) : wpOp P ops Q i (fun a'' w2 => G w' w2 ∧ ∃ v, a'' = a'.put o.dst v ∧ V i v w2) a' w' :=
  wpOp_call f args hi hw hr (h.mono fun _ _ ⟨v, he, hg, hv⟩ => ⟨v, he, hg, v, rfl, hv⟩)
def notDst (ops : Array Oper) (t : Tmp) : Bool := (List.range ops.size).all fun i => !((ops[i]?).bind (·.dst) == some t)
theorem notDst_spec {t : Tmp} (h : notDst ops t = true) (i : Nat) : (ops[i]?).bind (·.dst) ≠ some t := fun e => by
  have hlt : i < ops.size := by
    cases ho : ops[i]? with
    | none => simp [ho] at e
    | some oj => exact (Array.getElem?_eq_some_iff.1 ho).1
  have := List.all_eq_true.1 h i (List.mem_range.2 hlt)
  simp [e] at this
def waits (o : Oper) (j : Nat) : Bool := o.after.any fun e => Region.binds .any e && e.on == j
theorem pre_of {o : Oper} {a' : Act} {w' : World} (hpre : ∀ e ∈ o.after, Region.binds .any e = true → ∀ d, (ops[e.on]?).bind (·.dst) = some d → V e.on (a'.tmps.getD d undef) w') (j : Nat) (d : Tmp)
    (h : waits o j = true) (hd : (ops[j]?).bind (·.dst) = some d) : V j (a'.tmps.getD d undef) w' := by
  obtain ⟨e, he, hb⟩ := Array.any_eq_true'.1 h
  simp only [Bool.and_eq_true, beq_iff_eq] at hb
  obtain ⟨h1, rfl⟩ := hb
  exact hpre e he h1 d hd
theorem wanted_of {o : Oper} {a' : Act} (j : Nat) (d : Tmp) (hg : o.guard = some (j, true)) (hd : (ops[j]?).bind (·.dst) = some d) (hv : a'.tmps.getD d undef = .bool true) : Region.wanted o (yielded ops a'.tmps) = true := by
  have hsome : a'.tmps[d]? = some (.bool true) := by
    cases h : a'.tmps[d]? with
    | none => simp [h, undef] at hv
    | some x => simpa [h] using hv
  simp [Region.wanted, hg, yielded, hd, hsome]
end
/-- A sum's value. -/
def SumV (l : List Nat) (v : Value) (w : World) : Prop := ∃ b, v = .slice (some ⟨b, 0, none⟩) 32 32 ∧ w.heap[b]? = some (.cells (arr .u8 (Sp.sum l)) 5 (0, 0))
/-- One part. -/
def PartV (sv v : Value) (w : World) : Prop := ∃ b, v = .slice (some ⟨b, 0, none⟩) 1 1 ∧ w.cell? ⟨b, 0, none⟩ = some sv
def StrV (l : List Nat) (v : Value) (_ : World) : Prop := v = .string (strB (Sp.sum l))
def IsV (x v : Value) (_ : World) : Prop := v = x
theorem SumV.kept {l : List Nat} {v : Value} {w w' : World} (h : SumV l v w) (hb : Below w.heap.size w w') : SumV l v w' := by
  obtain ⟨b, rfl, h1⟩ := h
  exact ⟨b, rfl, (hb.block b (Array.getElem?_eq_some_iff.1 h1).1).trans h1⟩
theorem PartV.kept {sv v : Value} {w w' : World} (h : PartV sv v w) (hb : Below w.heap.size w w') : PartV sv v w' := by
  obtain ⟨b, rfl, h1⟩ := h
  exact ⟨b, rfl, (hb.cell (World.block_lt_of_cell? w _ h1)).trans h1⟩
/-- What the nineteen operations of the last test leave behind: two sums of two hashes against the sums of two messages. -/
def twoV (g h : Nat) (l m : List Nat) (x y : Value) : Nat → Value → World → Prop
  | 0 => IsV (.pointer (some ⟨g, 0, none⟩))
  | 1 => SumV l
  | 2 => StrV l
  | 3 => IsV x
  | 4 => PartV x
  | 5 => SumV l
  | 6 => StrV l
  | 7 => IsV (.bool true)
  | 8 => IsV (.bool true)
  | 9 => IsV (.pointer (some ⟨h, 0, none⟩))
  | 10 => SumV m
  | 11 => StrV m
  | 12 => IsV y
  | 13 => PartV y
  | 14 => SumV m
  | 15 => StrV m
  | 16 => IsV (.bool true)
  | 17 => IsV (.bool true)
  | 18 => IsV (.bool true)
  | _ => fun _ _ => True
theorem twoV_kept (g h : Nat) (l m : List Nat) (x y : Value) : ∀ i v w w', twoV g h l m x y i v w → Below w.heap.size w w' → twoV g h l m x y i v w'
  | 0, _, _, _, h, _ => h
  | 1, _, _, _, h, hb => SumV.kept h hb
  | 2, _, _, _, h, _ => h
  | 3, _, _, _, h, _ => h
  | 4, _, _, _, h, hb => PartV.kept h hb
  | 5, _, _, _, h, hb => SumV.kept h hb
  | 6, _, _, _, h, _ => h
  | 7, _, _, _, h, _ => h
  | 8, _, _, _, h, _ => h
  | 9, _, _, _, h, _ => h
  | 10, _, _, _, h, hb => SumV.kept h hb
  | 11, _, _, _, h, _ => h
  | 12, _, _, _, h, _ => h
  | 13, _, _, _, h, hb => PartV.kept h hb
  | 14, _, _, _, h, hb => SumV.kept h hb
  | 15, _, _, _, h, _ => h
  | 16, _, _, _, h, _ => h
  | 17, _, _, _, h, _ => h
  | 18, _, _, _, h, _ => h
  | _ + 19, _, _, _, _, _ => trivial
theorem below_trans' (x y z : World) (h : Below x.heap.size x y) (k : Below y.heap.size y z) : Below x.heap.size x z := h.trans (k.mono h.size)
/-- A hash's Sum, as a step. -/
theorem hsum_step {w w' : World} {g : Nat} {m : List Nat} (hh : HashAt w g m) (hT : Tab w) (hn : m.length < 576460752303423488) (hb : Below w.heap.size w w') :
    Calls Tryd.prog 14 #[.pointer (some ⟨g, 0, none⟩)] w' fun e w2 => ∃ v, e = .returned v ∧ Below w'.heap.size w' w2 ∧ SumV m v w2 := by
  have hg : g < w.heap.size := by obtain ⟨st, blk, _, h2⟩ := hh; exact (Array.getElem?_eq_some_iff.1 h2).1
  refine (hsum_any g m w' (hashAt_below hh (hb.block g hg)) (tab_below hT hb) hn).mono ?_
  rintro e w2 ⟨b, rfl, _, h2, h3⟩
  exact ⟨_, rfl, h3, b, rfl, h2⟩
theorem sum1_step {w w' : World} {x v : Value} {m : List Nat} (hx : BytesAt w x m) (hT : Tab w) (hn : m.length < 576460752303423488) (hb : Below w.heap.size w w') (hp : PartV x v w') :
    Calls Tryd.prog 10 #[v] w' fun e w2 => ∃ v, e = .returned v ∧ Below w'.heap.size w' w2 ∧ SumV m v w2 := by
  obtain ⟨b, rfl, hc⟩ := hp
  refine (sum_any [m] _ w' (partsAt_one (bytesAt_below hx hb) hc) (tab_below hT hb) (by simpa using hn)).mono ?_
  rintro e w2 ⟨b, rfl, _, h2, h3⟩
  refine ⟨_, rfl, h3, b, rfl, ?_⟩
  simpa using h2
theorem conv_step {w : World} {m : List Nat} {v : Value} (h : SumV m v w) : (convert 22 9 v).run Tryd.prog w = .ok (.string (strB (Sp.sum m))) w := by
  obtain ⟨b, rfl, h1⟩ := h
  exact conv_row 32 (sum_length m) h1
theorem conv_run {o : Oper} {a' : Act} {w' : World} {m : List Nat} (t : Tmp) (ho : o.op = .convert 22 9 (.tmp t)) (h : SumV m (a'.tmps.getD t undef) w') :
    (execOp a'.eval o).run Tryd.prog w' = .ok (.value (.string (strB (Sp.sum m)))) w' := by
  unfold execOp
  simp only [ho, Act.eval, Sem.run_bind, conv_step h, Result.andThen_ok, Sem.run_pure]
theorem eq_run {o : Oper} {a' : Act} {w' : World} {s : ByteArray} (t u : Tmp) (ho : o.op = .binOp .eql 9 (.tmp t) (.tmp u) 9) (h0 : a'.tmps.getD t undef = .string s) (h1 : a'.tmps.getD u undef = .string s) :
    (execOp a'.eval o).run Tryd.prog w' = .ok (.value (.bool true)) w' := by
  unfold execOp
  simp only [ho, Act.eval, h0, h1]
  simp [go_sem]
theorem pick_step {o : Oper} {a' : Act} {w' : World} {t u : Tmp} {r : Operand} (h0 : a'.tmps.getD t undef = .bool true) (h1 : a'.tmps.getD u undef = .bool true) (ho : o.op = .pick (.tmp t) (.tmp u) r) :
    (execOp a'.eval o).run Tryd.prog w' = .ok (.value (.bool true)) w' := by
  unfold execOp
  simp only [ho, Act.eval, h0, h1]
  simp [go_sem]
theorem build_one {o : Oper} {a' : Act} {w' : World} {p : Option Addr} {n c : Nat} (t : Tmp) (ho : o.op = .buildSlice 27 1 #[(0, .tmp t)]) (h0 : a'.tmps.getD t undef = .slice p n c) :
    (execOp a'.eval o).run Tryd.prog w' = .ok (.value (.slice (some ⟨w'.heap.size, 0, none⟩) 1 1)) (w'.alloc (.cells #[.slice p n c] 22)) := by
  have he : a'.eval (.tmp t) = .slice p n c := h0
  unfold execOp
  simp only [ho]
  generalize a'.eval = r at *
  simp [he, go_sem]
end Go.Proofs.YtnbdadhdpplldaaDoor
