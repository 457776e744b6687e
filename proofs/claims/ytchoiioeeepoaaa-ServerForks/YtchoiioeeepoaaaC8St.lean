/- Steps of regions that draw their order and hold calls, one after the other. -/
import Derived.Test.YtchoiioeeepoaaaSt
import Derived.Test.YtchoiioeeepoaaaC8Args
namespace Go.Proofs.Ytchoiioeeepoaaa.C8
open Go.RowKit
/-- Of calls that come one after the other, so many have been. -/
def SeqS (cs : List Nat) (R : Nat → World → Prop) (f : Nat → Bool) (w : World) : Prop := ∃ k, k ≤ cs.length ∧ (∀ j c, cs[j]? = some c → (f c = true ↔ j < k)) ∧ R k w
section
variable {cs : List Nat} {R : Nat → World → Prop} {f : Nat → Bool} {w w' : World}
theorem SeqS.start (h : R 0 w) : SeqS cs R (fun _ => false) w := ⟨0, Nat.zero_le _, fun j c _ => by simp, h⟩
theorem SeqS.quiet (h : SeqS cs R f w) {i : Nat} (hi : i ∉ cs) (hR : ∀ k, R k w → R k w') : SeqS cs R (fun j => if j = i then true else f j) w' := by
  obtain ⟨k, h1, h2, h3⟩ := h
  refine ⟨k, h1, fun j c hc => ?_, hR k h3⟩
  have : c ≠ i := fun e => hi (e ▸ List.mem_of_getElem? hc)
  show (if c = i then true else f c) = true ↔ _
  rw [if_neg this]
  exact h2 j c hc
theorem SeqS.at {i k : Nat} (h : SeqS cs R f w) (hk : cs[k]? = some i) (hf : f i = false) (hp : ∀ c, k ≠ 0 → cs[k - 1]? = some c → f c = true) :
    R k w ∧ ∀ j c, cs[j]? = some c → (f c = true ↔ j < k) := by
  obtain ⟨k', h1, h2, h3⟩ := h
  have e1 : ¬ k < k' := fun e => by have := (h2 k i hk).2 e; rw [hf] at this; cases this
  have e2 : k' = k := by
    by_cases h0 : k = 0
    · omega
    · have hlt : k - 1 < cs.length := by have := (List.getElem?_eq_some_iff.1 hk).1; omega
      have := (h2 (k - 1) _ (List.getElem?_eq_getElem hlt)).1 (hp _ h0 (List.getElem?_eq_getElem hlt))
      omega
  subst e2
  exact ⟨h3, h2⟩
theorem SeqS.next {i k : Nat} (hk : cs[k]? = some i) (hnd : cs.Nodup) (h2 : ∀ j c, cs[j]? = some c → (f c = true ↔ j < k)) (hR : R (k + 1) w') : SeqS cs R (fun j => if j = i then true else f j) w' := by
  have hlt := (List.getElem?_eq_some_iff.1 hk).1
  refine ⟨k + 1, hlt, fun j c hc => ?_, hR⟩
  by_cases hji : c = i
  · subst hji
    show (if c = c then true else f c) = true ↔ _
    rw [if_pos rfl]
    have : j = k := by
      have hj := (List.getElem?_eq_some_iff.1 hc).1
      have h3 := (List.getElem?_eq_some_iff.1 hc).2
      have h4 := (List.getElem?_eq_some_iff.1 hk).2
      exact (List.getElem_inj hnd).1 (h3.trans h4.symm)
    subst this
    simp
  · show (if c = i then true else f c) = true ↔ _
    rw [if_neg hji, h2 j c hc]
    have : j ≠ k := fun e => by subst e; rw [hk] at hc; exact hji (Option.some.inj hc).symm
    omega
theorem SeqS.done (h : SeqS cs R f w) (ha : ∀ c ∈ cs, f c = true) : R cs.length w := by
  obtain ⟨k, h1, h2, h3⟩ := h
  have : k = cs.length := by
    by_cases hk : k = cs.length
    · exact hk
    · have hlt : k < cs.length := by omega
      have := (h2 k _ (List.getElem?_eq_getElem hlt)).1 (ha _ (List.getElem_mem hlt))
      omega
  rw [← this]
  exact h3
end
section
variable {P : Program} {ops : Array Oper} {Q : Exit → Act → World → Prop} {V : Nat → Value → World → Prop} {bs cs : List Nat} {R : Nat → World → Prop} {f : Nat → Bool}
theorem sq_value {i : Nat} {o : Oper} {a' : Act} {w' w'' : World} (v : Value) (hi : ops[i]? = some o) (hw : Region.wanted o (yielded ops a'.tmps) = true)
    (hr : (execOp a'.eval o).run P w' = .ok (.value v) w'') (hb : Below w'.heap.size w' w'') (hn : i ∉ cs) (hS : SeqS cs R f w') (hR : ∀ k w w', Below w.heap.size w w' → R k w → R k w') (hv : V i v w'') :
    wpOp P ops Q i (fun a'' w2 => Only bs w' w2 ∧ SeqS cs R (fun j => if j = i then true else f j) w2 ∧ ∃ v, a'' = a'.put o.dst v ∧ V i v w2) a' w' :=
  wpOp_value v hi hw hr ⟨Only.of_below hb _, hS.quiet hn (fun k => hR k w' w'' hb), v, rfl, hv⟩
theorem sq_call {i k : Nat} {o : Oper} {a' : Act} {w' : World} (fn : FuncId) (args : Array Value) (hi : ops[i]? = some o) (hw : Region.wanted o (yielded ops a'.tmps) = true)
    (hr : (execOp a'.eval o).run P w' = .ok (.enter fn args) w') (hk : cs[k]? = some i) (hnd : cs.Nodup) (hf : f i = false) (hp : ∀ c, k ≠ 0 → cs[k - 1]? = some c → f c = true) (hS : SeqS cs R f w')
    (h : R k w' → Calls P fn args w' fun e w2 => ∃ v, e = .returned v ∧ Only bs w' w2 ∧ R (k + 1) w2 ∧ V i v w2) :
    wpOp P ops Q i (fun a'' w2 => Only bs w' w2 ∧ SeqS cs R (fun j => if j = i then true else f j) w2 ∧ ∃ v, a'' = a'.put o.dst v ∧ V i v w2) a' w' := by
  obtain ⟨h1, h2⟩ := hS.at hk hf hp
  exact wpOp_call fn args hi hw hr ((h h1).mono fun _ _ ⟨v, he, hg, hR, hv⟩ => ⟨v, he, hg, SeqS.next hk hnd h2 hR, v, rfl, hv⟩)
def notDst (ops : Array Oper) (t : Tmp) : Bool := (List.range ops.size).all fun i => !((ops[i]?).bind (·.dst) == some t)
theorem notDst_spec {t : Tmp} (h : notDst ops t = true) (i : Nat) : (ops[i]?).bind (·.dst) ≠ some t := fun e => by
  have hlt : i < ops.size := by
    cases ho : ops[i]? with
    | none => simp [ho] at e
    | some oj => exact (Array.getElem?_eq_some_iff.1 ho).1
  have := List.all_eq_true.1 h i (List.mem_range.2 hlt)
  simp [e] at this
/-- No operation writes any slot outside a list. -/
def dstsIn (ops : Array Oper) (ts : List Nat) : Bool := (List.range ops.size).all fun i => match (ops[i]?).bind (·.dst) with
  | none => true
  | some d => ts.contains d
theorem dstsIn_spec {ts : List Nat} (h : dstsIn ops ts = true) (t : Tmp) (ht : ts.contains t = false) (i : Nat) : (ops[i]?).bind (·.dst) ≠ some t := fun e => by
  have hlt : i < ops.size := by
    cases ho : ops[i]? with
    | none => simp [ho] at e
    | some oj => exact (Array.getElem?_eq_some_iff.1 ho).1
  have := List.all_eq_true.1 h i (List.mem_range.2 hlt)
  rw [e] at this
  simp only at this
  rw [ht] at this
  cases this
def waitsFor (o : Oper) (j : Nat) : Bool := o.after.any fun e => Region.binds .any e && e.on == j
theorem pre_of {o : Oper} {a' : Act} {w' : World} (hpre : ∀ e ∈ o.after, Region.binds .any e = true → ∀ d, (ops[e.on]?).bind (·.dst) = some d → V e.on (a'.tmps.getD d undef) w') (j : Nat) (d : Tmp)
    (h : waitsFor o j = true) (hd : (ops[j]?).bind (·.dst) = some d) : V j (a'.tmps.getD d undef) w' := by
  obtain ⟨e, he, hb⟩ := Array.any_eq_true'.1 h
  simp only [Bool.and_eq_true, beq_iff_eq] at hb
  obtain ⟨h1, rfl⟩ := hb
  exact hpre e he h1 d hd
theorem been_of {o : Oper} (hf : ∀ e ∈ o.after, Region.binds .any e = true → f e.on = true) (j : Nat) (h : waitsFor o j = true) : f j = true := by
  obtain ⟨e, he, hb⟩ := Array.any_eq_true'.1 h
  simp only [Bool.and_eq_true, beq_iff_eq] at hb
  obtain ⟨h1, rfl⟩ := hb
  exact hf e he h1
theorem wanted_of {o : Oper} {a' : Act} (j : Nat) (d : Tmp) (b : Bool) (hg : o.guard = some (j, b)) (hd : (ops[j]?).bind (·.dst) = some d) (hv : a'.tmps.getD d undef = .bool b) : Region.wanted o (yielded ops a'.tmps) = true := by
  have hsome : a'.tmps[d]? = some (.bool b) := by
    cases h : a'.tmps[d]? with
    | none => simp [h, undef] at hv
    | some x => simpa [h] using hv
  simp [Region.wanted, hg, yielded, hd, hsome]
end
def IsV (x : Value) (v : Value) (_ : World) : Prop := v = x
theorem only_trans (bs : List Nat) (x y z : World) (h : Only bs x y) (h' : Only bs y z) : Only bs x z := h.trans h'
theorem only_drew (bs : List Nat) (w : World) : Only bs w { w with drawn := w.drawn + 1 } := Only.drewN 1 w bs
/-- Bytes in a slot; they lie in none of these blocks. -/
def SrcV (bs : List Nat) (l : List Nat) (v : Value) (w : World) : Prop := Src w v l ∧ (l ≠ [] → Off v bs)
theorem SrcV.kept {bs l : List Nat} {v : Value} {w w' : World} (h : SrcV bs l v w) (ho : Only bs w w') : SrcV bs l v w' := by
  refine ⟨?_, h.2⟩
  by_cases h0 : l = []
  · subst h0
    exact h.1.empty w'
  · exact h.1.only ho (h.2 h0)
section
variable {P : Program} {ops : Array Oper} {Q : Exit → Act → World → Prop} {V : Nat → Value → World → Prop} {bs cs : List Nat} {R : Nat → World → Prop} {f : Nat → Bool}
/-- An operation whose guard says no. -/
theorem sq_skip {i : Nat} {o : Oper} {a' : Act} {w' : World} (hi : ops[i]? = some o) (hw : Region.wanted o (yielded ops a'.tmps) = false) (hn : i ∉ cs) (hS : SeqS cs R f w') (hv : V i undef w') :
    wpOp P ops Q i (fun a'' w2 => Only bs w' w2 ∧ SeqS cs R (fun j => if j = i then true else f j) w2 ∧ ∃ v, a'' = a'.put o.dst v ∧ V i v w2) a' w' := by
  unfold wpOp
  simp only [hi, hw]
  exact ⟨Only.refl _ _, hS.quiet hn (fun _ h => h), undef, rfl, hv⟩
/-- A call that turns nothing that is counted. -/
theorem sq_quiet {i : Nat} {o : Oper} {a' : Act} {w' : World} (fn : FuncId) (args : Array Value) (hi : ops[i]? = some o) (hw : Region.wanted o (yielded ops a'.tmps) = true)
    (hr : (execOp a'.eval o).run P w' = .ok (.enter fn args) w') (hn : i ∉ cs) (hS : SeqS cs R f w')
    (h : Calls P fn args w' fun e w2 => ∃ v, e = .returned v ∧ Only bs w' w2 ∧ (∀ k, R k w' → R k w2) ∧ V i v w2) :
    wpOp P ops Q i (fun a'' w2 => Only bs w' w2 ∧ SeqS cs R (fun j => if j = i then true else f j) w2 ∧ ∃ v, a'' = a'.put o.dst v ∧ V i v w2) a' w' :=
  wpOp_call fn args hi hw hr (h.mono fun _ _ ⟨v, he, hg, hR, hv⟩ => ⟨v, he, hg, hS.quiet hn hR, v, rfl, hv⟩)
theorem unwanted_of {o : Oper} {a' : Act} (j : Nat) (d : Tmp) (b : Bool) (hg : o.guard = some (j, !b)) (hd : (ops[j]?).bind (·.dst) = some d) (hv : a'.tmps.getD d undef = .bool b) : Region.wanted o (yielded ops a'.tmps) = false := by
  have hsome : a'.tmps[d]? = some (.bool b) := by
    cases h : a'.tmps[d]? with
    | none => simp [h, undef] at hv
    | some x => simpa [h] using hv
  cases b <;> simp [Region.wanted, hg, yielded, hd, hsome]
end
section
variable {o : Oper} {a' : Act} {w' : World}
theorem not_run (t : Tmp) (b : Bool) (ho : o.op = .unOp .not 4 (.tmp t)) (h0 : a'.tmps.getD t undef = .bool b) : (execOp a'.eval o).run Try.prog w' = .ok (.value (.bool (!b))) w' := by
  have he : a'.eval (.tmp t) = .bool b := h0
  unfold execOp
  simp only [ho]
  rw [he]
  simp [go_sem]
theorem pick_run (s : Tmp) (b : Bool) (x y : Operand) (u v : Value) (ho : o.op = .pick (.tmp s) x y) (h0 : a'.tmps.getD s undef = .bool b) (h1 : a'.eval x = u) (h2 : a'.eval y = v) : (execOp a'.eval o).run Try.prog w' = .ok (.value (if b then u else v)) w' := by
  have he : a'.eval (.tmp s) = .bool b := h0
  unfold execOp
  simp only [ho]
  rw [he, h1, h2]
  cases b <;> simp [go_sem]
theorem neqS_run (s t : Tmp) (x y : ByteArray) (ho : o.op = .binOp .neq 9 (.tmp s) (.tmp t) 9) (h0 : a'.tmps.getD s undef = .string x) (h1 : a'.tmps.getD t undef = .string y) : (execOp a'.eval o).run Try.prog w' = .ok (.value (.bool (!(x.toList == y.toList)))) w' := by
  have he : a'.eval (.tmp s) = .string x := h0
  have hc : a'.eval (.tmp t) = .string y := h1
  unfold execOp
  simp only [ho]
  rw [he, hc]
  simp [go_sem]
theorem neqN_run (s t : Tmp) (x y : Int) (ho : o.op = .binOp .neq 3 (.tmp s) (.tmp t) 3) (h0 : a'.tmps.getD s undef = .int .i64 x) (h1 : a'.tmps.getD t undef = .int .i64 y) : (execOp a'.eval o).run Try.prog w' = .ok (.value (.bool (!(x == y)))) w' := by
  have he : a'.eval (.tmp s) = .int .i64 x := h0
  have hc : a'.eval (.tmp t) = .int .i64 y := h1
  unfold execOp
  simp only [ho]
  rw [he, hc]
  simp [go_sem]
  rfl
theorem neqB_run (s t : Tmp) (x y : Bool) (ho : o.op = .binOp .neq 4 (.tmp s) (.tmp t) 4) (h0 : a'.tmps.getD s undef = .bool x) (h1 : a'.tmps.getD t undef = .bool y) : (execOp a'.eval o).run Try.prog w' = .ok (.value (.bool (!(x == y)))) w' := by
  have he : a'.eval (.tmp s) = .bool x := h0
  have hc : a'.eval (.tmp t) = .bool y := h1
  unfold execOp
  simp only [ho]
  rw [he, hc]
  simp [go_sem]
theorem conv_run {l : List Nat} (t : Tmp) (ho : o.op = .convert 32 9 (.tmp t)) (h : Src w' (a'.tmps.getD t undef) l) : (execOp a'.eval o).run Try.prog w' = .ok (.value (.string (strB l))) w' := by
  have hc := conv_src h
  unfold execOp
  simp only [ho, Act.eval, Sem.run_bind, hc, Result.andThen_ok, Sem.run_pure]
theorem fa_run (T : TypeId) (k : Nat) (t : Tmp) (b : Nat) (ho : o.op = .fieldAddr T (.tmp t) k) (h0 : a'.tmps.getD t undef = .pointer (some ⟨b, 0, none⟩)) (hf : ∀ w : World, (Instr.fieldAt T (.pointer (some ⟨b, 0, none⟩)) k).run Try.prog w = .ok (.pointer (some ⟨b, k, none⟩)) w) :
    (execOp a'.eval o).run Try.prog w' = .ok (.value (.pointer (some ⟨b, k, none⟩))) w' := by
  have he : a'.eval (.tmp t) = .pointer (some ⟨b, 0, none⟩) := h0
  unfold execOp
  simp only [ho]
  rw [he]
  simp [hf, Result.andThen]
theorem load_run (T : TypeId) (t : Tmp) (b k : Nat) (v : Value) (ho : o.op = .load T (.tmp t)) (h0 : a'.tmps.getD t undef = .pointer (some ⟨b, k, none⟩)) (hf : (Instr.loadAt T (.pointer (some ⟨b, k, none⟩))).run Try.prog w' = .ok v w') :
    (execOp a'.eval o).run Try.prog w' = .ok (.value v) w' := by
  have he : a'.eval (.tmp t) = .pointer (some ⟨b, k, none⟩) := h0
  unfold execOp
  simp only [ho]
  rw [he]
  simp [hf, Result.andThen]
end
theorem fa40_0 (b : Nat) (w : World) : (Instr.fieldAt 85 (.pointer (some ⟨b, 0, none⟩)) 0).run Try.prog w = .ok (.pointer (some ⟨b, 0, none⟩)) w := by simp [go_sem]
theorem fa40_1 (b : Nat) (w : World) : (Instr.fieldAt 85 (.pointer (some ⟨b, 0, none⟩)) 1).run Try.prog w = .ok (.pointer (some ⟨b, 1, none⟩)) w := by simp [go_sem]
theorem fa40_2 (b : Nat) (w : World) : (Instr.fieldAt 85 (.pointer (some ⟨b, 0, none⟩)) 2).run Try.prog w = .ok (.pointer (some ⟨b, 2, none⟩)) w := by simp [go_sem]
theorem ld4 {b k : Nat} {x : Bool} {w : World} (h : w.cell? ⟨b, k, none⟩ = some (.bool x)) : (Instr.loadAt 4 (.pointer (some ⟨b, k, none⟩))).run Try.prog w = .ok (.bool x) w := by simp [go_sem, h]
theorem ld3 {b k : Nat} {x : Int} {w : World} (h : w.cell? ⟨b, k, none⟩ = some (.int .i64 x)) : (Instr.loadAt 3 (.pointer (some ⟨b, k, none⟩))).run Try.prog w = .ok (.int .i64 x) w := by simp [go_sem, h]
theorem ld22 {b k : Nat} {q : Option Addr} {n c : Nat} {w : World} (h : w.cell? ⟨b, k, none⟩ = some (.slice q n c)) : (Instr.loadAt 32 (.pointer (some ⟨b, k, none⟩))).run Try.prog w = .ok (.slice q n c) w := by simp [go_sem, h]
theorem nil_run {o : Oper} {a' : Act} {w' : World} (t : Tmp) (x : Addr) (ho : o.op = .nilCheck (.tmp t)) (h0 : a'.tmps.getD t undef = .pointer (some x)) : (execOp a'.eval o).run Try.prog w' = .ok (.value (.pointer (some x))) w' := by
  have he : a'.eval (.tmp t) = .pointer (some x) := h0
  unfold execOp
  simp only [ho]
  rw [he]
  simp [go_sem]
end Go.Proofs.Ytchoiioeeepoaaa.C8
