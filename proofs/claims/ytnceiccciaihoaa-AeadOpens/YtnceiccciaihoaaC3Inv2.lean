/- Steps of such a region; bytes and strings that its operations leave behind. -/
import Derived.Test.YtnceiccciaihoaaC3RefB2
import Derived.Test.YtnceiccciaihoaaInv
namespace Go.Proofs.Ytnceiccciaihoaa.C3
open Go.RowKit
section
variable {P : Program} {ops : Array Oper} {Q : Exit → Act → World → Prop} {V : Nat → Value → World → Prop} {G : World → World → Prop}
theorem st_value {i : Nat} {o : Oper} {a' : Act} {w' w'' : World} (v : Value) (hi : ops[i]? = some o) (hw : Region.wanted o (yielded ops a'.tmps) = true)
    (hr : (execOp a'.eval o).run P w' = .ok (.value v) w'') (hg : G w' w'') (hv : V i v w'') : wpOp P ops Q i (fun a'' w2 => G w' w2 ∧ ∃ v, a'' = a'.put o.dst v ∧ V i v w2) a' w' :=
  wpOp_value v hi hw hr ⟨hg, v, rfl, hv⟩
theorem st_call {i : Nat} {o : Oper} {a' : Act} {w' : World} (f : FuncId) (args : Array Value) (hi : ops[i]? = some o) (hw : Region.wanted o (yielded ops a'.tmps) = true)
    (hr : (execOp a'.eval o).run P w' = .ok (.enter f args) w') (h : Calls P f args w' fun e w2 => ∃ v, e = .returned v ∧ G w' w2 ∧ V i v w2) : wpOp P ops Q i (fun a'' w2 => G w' w2 ∧ ∃ v, a'' = a'.put o.dst v ∧ V i v w2) a' w' :=
  wpOp_call f args hi hw hr (h.mono fun _ _ ⟨v, he, hg, hv⟩ => ⟨v, he, hg, v, rfl, hv⟩)
def notDst (ops : Array Oper) (t : Tmp) : Bool := (List.range ops.size).all fun i => !((ops[i]?).bind (·.dst) == some t)
theorem notDst_spec {t : Tmp} (h : notDst ops t = true) (i : Nat) : (ops[i]?).bind (·.dst) ≠ some t := fun e => by
  have hlt : i < ops.size := by
    cases ho : ops[i]? with
    | none => simp [ho] at e
    | some oj => exact (Array.getElem?_eq_some_iff.1 ho).1
  have := List.all_eq_true.1 h i (List.mem_range.2 hlt)
  simp [e] at this
def waits (o : Oper) (j : Nat) : Bool := o.after.any fun e => Region.binds .any e && e.on == j
theorem pre_of {o : Oper} {a' : Act} {w' : World} (hpre : ∀ e ∈ o.after, Region.binds .any e = true → ∀ d, (ops[e.on]?).bind (·.dst) = some d → V e.on (a'.tmps.getD d undef) w') (j : Nat) (d : Tmp)
    (h : waits o j = true) (hd : (ops[j]?).bind (·.dst) = some d) : V j (a'.tmps.getD d undef) w' := by
  obtain ⟨e, he, hb⟩ := Array.any_eq_true'.1 h
  simp only [Bool.and_eq_true, beq_iff_eq] at hb
  obtain ⟨h1, rfl⟩ := hb
  exact hpre e he h1 d hd
theorem wanted_of {o : Oper} {a' : Act} (j : Nat) (d : Tmp) (hg : o.guard = some (j, true)) (hd : (ops[j]?).bind (·.dst) = some d) (hv : a'.tmps.getD d undef = .bool true) : Region.wanted o (yielded ops a'.tmps) = true := by
  have hsome : a'.tmps[d]? = some (.bool true) := by
    cases h : a'.tmps[d]? with
    | none => simp [h, undef] at hv
    | some x => simpa [h] using hv
  simp [Region.wanted, hg, yielded, hd, hsome]
end

def IsV (x v : Value) (_ : World) : Prop := v = x
def StrV (l : List Nat) (v : Value) (_ : World) : Prop := v = .string (strB l)
/-- A slice that reads as these bytes. -/
def RowV (l : List Nat) (v : Value) (w : World) : Prop := (∃ b o c, v = .slice (some ⟨b, o, none⟩) l.length c ∧ w.rangeAt b o (ints .u8 l)) ∨ ∃ p c, v = .slice p 0 c ∧ l = []
theorem RowV.kept {l : List Nat} {v : Value} {w w' : World} (h : RowV l v w) (hb : Below w.heap.size w w') : RowV l v w' := by
  rcases h with ⟨b, o, c, rfl, h1⟩ | ⟨p, c, rfl, rfl⟩
  · exact .inl ⟨b, o, c, rfl, rangeAt_below hb h1⟩
  · exact .inr ⟨p, c, rfl, rfl⟩
theorem BRow.rowV {w : World} {g : Nat} {l : List Nat} {n : Nat} (h : BRow w g l) (hl : l.length = n) : RowV l (.slice (some ⟨g, 0, none⟩) n n) w := .inl ⟨g, 0, n, by rw [hl], rangeAt_of_row h⟩
theorem TextIs.rowV {w : World} {p : Option Addr} {l : List Nat} {n c : Nat} (h : TextIs w p l) (hl : l.length = n) : RowV l (.slice p n c) w := by
  by_cases h0 : l = []
  · subst h0
    exact .inr ⟨p, c, by rw [← hl]; rfl, rfl⟩
  · obtain ⟨b, o, rfl, hr⟩ := h.2 h0
    exact .inl ⟨b, o, c, by rw [hl], hr⟩
theorem conv_empty (w : World) (p : Option Addr) (c : Nat) : (convert 22 9 (.slice p 0 c)).run Try.prog w = .ok (.string (strB [])) w := by
  rw [run_convert_bytes_string w 22 9 5 _ _ _ Try.underlying22 Try.underlying5 Try.underlying9]
  cases p with
  | none => rfl
  | some a => exact run_bytesToString w a 0 c [] (by rfl)
theorem conv_run {o : Oper} {a' : Act} {w' : World} {l : List Nat} (t : Tmp) (ho : o.op = .convert 22 9 (.tmp t)) (h : RowV l (a'.tmps.getD t undef) w') :
    (execOp a'.eval o).run Try.prog w' = .ok (.value (.string (strB l))) w' := by
  rcases h with ⟨b, of, c, hv, hr⟩ | ⟨p, c, hv, rfl⟩
  · have hc := run_conv w' b of c l hr
    unfold execOp
    simp only [ho, Act.eval, hv, Sem.run_bind, hc, Result.andThen_ok, Sem.run_pure]
  · have hc := conv_empty w' p c
    unfold execOp
    simp only [ho, Act.eval, hv, Sem.run_bind, hc, Result.andThen_ok, Sem.run_pure]
theorem eq_run {o : Oper} {a' : Act} {w' : World} {s : ByteArray} (t u : Tmp) (ho : o.op = .binOp .eql 9 (.tmp t) (.tmp u) 9) (h0 : a'.tmps.getD t undef = .string s) (h1 : a'.tmps.getD u undef = .string s) :
    (execOp a'.eval o).run Try.prog w' = .ok (.value (.bool true)) w' := by
  unfold execOp
  simp only [ho, Act.eval, h0, h1]
  simp [go_sem]
theorem eqe_run {o : Oper} {a' : Act} {w' : World} (t : Tmp) (ho : o.op = .binOp .eql 24 (.tmp t) (.const (.int .i64 0)) 24) (h0 : a'.tmps.getD t undef = .int .i64 0) :
    (execOp a'.eval o).run Try.prog w' = .ok (.value (.bool true)) w' := by
  unfold execOp
  simp only [ho, Act.eval, h0]
  simp [go_sem]
theorem pick_step {o : Oper} {a' : Act} {w' : World} {t u : Tmp} {r : Operand} (h0 : a'.tmps.getD t undef = .bool true) (h1 : a'.tmps.getD u undef = .bool true) (ho : o.op = .pick (.tmp t) (.tmp u) r) :
    (execOp a'.eval o).run Try.prog w' = .ok (.value (.bool true)) w' := by
  unfold execOp
  simp only [ho, Act.eval, h0, h1]
  simp [go_sem]
theorem below_trans' (x y z : World) (h : Below x.heap.size x y) (k : Below y.heap.size y z) : Below x.heap.size x z := h.trans (k.mono h.size)
end Go.Proofs.Ytnceiccciaihoaa.C3
