/- RingReal: regions that mark constants. -/
import Derived.Test.YtagdlpodpokmmaaDoorSt
import Derived.Test.YtagdlpodpokmmaaDoorR14Rl
import Derived.Test.YtagdlpodpokmmaaDoorC8RNum
namespace Go.Proofs.YtagdlpodpokmmaaDoor.S7
open Go.RowKit
theorem run_grow {w : World} {base : Nat} {ad : Addr} {l news : List Nat} {ty : TypeId} {a : Addr} {c : Nat} (hbase : base ≤ w.heap.size) (ho : ∀ j u, (ints .u8 l)[j]? = some u → w.cell? (ad.add j) = some u) (hx : ∀ j u, (ints .u8 news)[j]? = some u → w.cell? (a.add j) = some u) (hn : l.length + news.length ≤ 100000) (h0 : 0 < news.length) :
    ∃ v' w', (Builtin.append_ #[22, 22] ty #[.slice (some ad) l.length l.length, .slice (some a) news.length c]).run Tryd.prog w = .ok v' w' ∧ w'.ownsRow base 5 1 v' (l ++ news).length (ints .u8 (l ++ news)) ∧ Below base w w' := by
  obtain ⟨i, hi, hsz, hby, hz⟩ := info5e
  have hr := run_append_grow (P := Tryd.prog) w 22 ty 5 i _ Tryd.underlying22 hi hz ad l.length l.length (ints .u8 l) (by rw [hsz, ints_length]; omega) ho a news.length c (ints .u8 news) (by rw [hsz, ints_length]; omega) hx (by omega) (by omega) (growslice_fits (by omega) (by rw [hby]; omega))
  refine ⟨_, _, hr, ?_, ?_⟩
  · have hge := grownCap_ge w (l.length + news.length) l.length 5
    have hcm : grownCap w (l.length + news.length) l.length 5 ≤ maxLen := grownCap_le_maxLen w _ _ 5 (by unfold maxLen; omega)
    rw [List.length_append]
    refine ⟨by rw [ints_length, List.length_append]; omega, .inr ⟨w.heap.size, _, _, rfl, hbase, heap_alloc_new w.drew _, hge, hcm, ?_, ?_⟩⟩
    · simp only [Array.size_append, List.size_toArray, size_zeroCells, ints_length, Value.cells, List.length_cons, List.length_nil]
      omega
    · simp only [Array.toList_append, List.append_assoc]
      rw [← List.append_assoc, ← ints_append, show (l.length + news.length) * 1 = (ints .u8 (l ++ news)).length from by rw [ints_length, List.length_append]; omega]
      exact List.take_left
  · exact ⟨rfl, rfl, rfl, by simp, fun k hk => Below.heap_alloc w.drew _ k (Nat.lt_of_lt_of_le hk hbase)⟩
end Go.Proofs.YtagdlpodpokmmaaDoor.S7
namespace Go.Proofs.YtagdlpodpokmmaaDoor.S7.Rz
open Go.RowKit
/-- Of calls that come one after the other, so many have been. -/
def SeqS (cs : List Nat) (R : Nat → World → Prop) (f : Nat → Bool) (w : World) : Prop := ∃ k, k ≤ cs.length ∧ (∀ j c, cs[j]? = some c → (f c = true ↔ j < k)) ∧ R k w
section
variable {cs : List Nat} {R : Nat → World → Prop} {f : Nat → Bool} {w w' : World}
theorem SeqS.start (h : R 0 w) : SeqS cs R (fun _ => false) w := ⟨0, Nat.zero_le _, fun j c _ => by simp, h⟩
theorem SeqS.quiet (h : SeqS cs R f w) {i : Nat} (hi : i ∉ cs) (hR : ∀ k, R k w → R k w') : SeqS cs R (fun j => if j = i then true else f j) w' := by
  obtain ⟨k, h1, h2, h3⟩ := h
  refine ⟨k, h1, fun j c hc => ?_, hR k h3⟩
  have : c ≠ i := fun e => hi (e ▸ List.mem_of_getElem? hc)
  show (if c = i then true else f c) = true ↔ _
  rw [if_neg this]
  exact h2 j c hc
theorem SeqS.at {i k : Nat} (h : SeqS cs R f w) (hk : cs[k]? = some i) (hf : f i = false) (hp : ∀ c, k ≠ 0 → cs[k - 1]? = some c → f c = true) :
    R k w ∧ ∀ j c, cs[j]? = some c → (f c = true ↔ j < k) := by
  obtain ⟨k', h1, h2, h3⟩ := h
  have e1 : ¬ k < k' := fun e => by have := (h2 k i hk).2 e; rw [hf] at this; cases this
  have e2 : k' = k := by
    by_cases h0 : k = 0
    · omega
    · have hlt : k - 1 < cs.length := by have := (List.getElem?_eq_some_iff.1 hk).1; omega
      have := (h2 (k - 1) _ (List.getElem?_eq_getElem hlt)).1 (hp _ h0 (List.getElem?_eq_getElem hlt))
      omega
  subst e2
  exact ⟨h3, h2⟩
theorem SeqS.next {i k : Nat} (hk : cs[k]? = some i) (hnd : cs.Nodup) (h2 : ∀ j c, cs[j]? = some c → (f c = true ↔ j < k)) (hR : R (k + 1) w') : SeqS cs R (fun j => if j = i then true else f j) w' := by
  have hlt := (List.getElem?_eq_some_iff.1 hk).1
  refine ⟨k + 1, hlt, fun j c hc => ?_, hR⟩
  by_cases hji : c = i
  · subst hji
    show (if c = c then true else f c) = true ↔ _
    rw [if_pos rfl]
    have : j = k := by
      have hj := (List.getElem?_eq_some_iff.1 hc).1
      have h3 := (List.getElem?_eq_some_iff.1 hc).2
      have h4 := (List.getElem?_eq_some_iff.1 hk).2
      exact (List.getElem_inj hnd).1 (h3.trans h4.symm)
    subst this
    simp
  · show (if c = i then true else f c) = true ↔ _
    rw [if_neg hji, h2 j c hc]
    have : j ≠ k := fun e => by subst e; rw [hk] at hc; exact hji (Option.some.inj hc).symm
    omega
theorem SeqS.done (h : SeqS cs R f w) (ha : ∀ c ∈ cs, f c = true) : R cs.length w := by
  obtain ⟨k, h1, h2, h3⟩ := h
  have : k = cs.length := by
    by_cases hk : k = cs.length
    · exact hk
    · have hlt : k < cs.length := by omega
      have := (h2 k _ (List.getElem?_eq_getElem hlt)).1 (ha _ (List.getElem_mem hlt))
      omega
  rw [← this]
  exact h3
end
section
variable {P : Program} {ops : Array Oper} {Q : Exit → Act → World → Prop} {V : Nat → Value → World → Prop} {bs cs : List Nat} {R : Nat → World → Prop} {f : Nat → Bool}
def notDst (ops : Array Oper) (t : Tmp) : Bool := (List.range ops.size).all fun i => !((ops[i]?).bind (·.dst) == some t)
theorem notDst_spec {t : Tmp} (h : notDst ops t = true) (i : Nat) : (ops[i]?).bind (·.dst) ≠ some t := fun e => by
  have hlt : i < ops.size := by
    cases ho : ops[i]? with
    | none => simp [ho] at e
    | some oj => exact (Array.getElem?_eq_some_iff.1 ho).1
  have := List.all_eq_true.1 h i (List.mem_range.2 hlt)
  simp [e] at this
/-- No operation writes any slot outside a list. -/
def dstsIn (ops : Array Oper) (ts : List Nat) : Bool := (List.range ops.size).all fun i => match (ops[i]?).bind (·.dst) with
  | none => true
  | some d => ts.contains d
theorem dstsIn_spec {ts : List Nat} (h : dstsIn ops ts = true) (t : Tmp) (ht : ts.contains t = false) (i : Nat) : (ops[i]?).bind (·.dst) ≠ some t := fun e => by
  have hlt : i < ops.size := by
    cases ho : ops[i]? with
    | none => simp [ho] at e
    | some oj => exact (Array.getElem?_eq_some_iff.1 ho).1
  have := List.all_eq_true.1 h i (List.mem_range.2 hlt)
  rw [e] at this
  simp only at this
  rw [ht] at this
  cases this
def waitsFor (o : Oper) (j : Nat) : Bool := o.after.any fun e => Region.binds .any e && e.on == j
theorem pre_of {o : Oper} {a' : Act} {w' : World} (hpre : ∀ e ∈ o.after, Region.binds .any e = true → ∀ d, (ops[e.on]?).bind (·.dst) = some d → V e.on (a'.tmps.getD d undef) w') (j : Nat) (d : Tmp)
    (h : waitsFor o j = true) (hd : (ops[j]?).bind (·.dst) = some d) : V j (a'.tmps.getD d undef) w' := by
  obtain ⟨e, he, hb⟩ := Array.any_eq_true'.1 h
  simp only [Bool.and_eq_true, beq_iff_eq] at hb
  obtain ⟨h1, rfl⟩ := hb
  exact hpre e he h1 d hd
theorem been_of {o : Oper} (hf : ∀ e ∈ o.after, Region.binds .any e = true → f e.on = true) (j : Nat) (h : waitsFor o j = true) : f j = true := by
  obtain ⟨e, he, hb⟩ := Array.any_eq_true'.1 h
  simp only [Bool.and_eq_true, beq_iff_eq] at hb
  obtain ⟨h1, rfl⟩ := hb
  exact hf e he h1
theorem wanted_of {o : Oper} {a' : Act} (j : Nat) (d : Tmp) (b : Bool) (hg : o.guard = some (j, b)) (hd : (ops[j]?).bind (·.dst) = some d) (hv : a'.tmps.getD d undef = .bool b) : Region.wanted o (yielded ops a'.tmps) = true := by
  have hsome : a'.tmps[d]? = some (.bool b) := by
    cases h : a'.tmps[d]? with
    | none => simp [h, undef] at hv
    | some x => simpa [h] using hv
  simp [Region.wanted, hg, yielded, hd, hsome]
end
def IsV (x : Value) (v : Value) (_ : World) : Prop := v = x
/-- Nothing that was there is turned but the marks of blocks of bytes that are new. -/
structure Fz (B0 : Nat) (u u' : World) : Prop where
  os : u'.os = u.os
  tape : u'.tape = u.tape
  output : u'.output = u.output
  size : u.heap.size ≤ u'.heap.size
  row : ∀ (k : Nat) (o : Obj), u.heap[k]? = some o → u'.heap[k]? = some o ∨ (B0 ≤ k ∧ ∃ cs fr fr', o = .cells cs 5 fr ∧ u'.heap[k]? = some (.cells cs 5 fr'))
section
variable {B0 : Nat} {u u' u'' : World}
theorem Fz.of_below (h : Below u.heap.size u u') : Fz B0 u u' := ⟨h.os, h.tape, h.output, h.size, fun k _ hk => .inl ((h.block k (Array.getElem?_eq_some_iff.1 hk).1).trans hk)⟩
theorem Fz.trans (h : Fz B0 u u') (k : Fz B0 u' u'') : Fz B0 u u'' := ⟨k.os.trans h.os, k.tape.trans h.tape, k.output.trans h.output, Nat.le_trans h.size k.size, fun i o hi => by
  rcases h.row i o hi with h1 | ⟨hb, cs, fr, fr', rfl, h1⟩
  · exact k.row i o h1
  · rcases k.row i _ h1 with h2 | ⟨_, cs', fr2, fr3, e, h2⟩
    · exact .inr ⟨hb, cs, fr, fr', rfl, h2⟩
    · cases e
      exact .inr ⟨hb, cs, fr, fr3, rfl, h2⟩⟩
theorem Fz.below (h : Fz B0 u u') (hB : u.heap.size ≤ B0) : Below u.heap.size u u' := ⟨h.os, h.tape, h.output, h.size, fun k hk => by
  obtain ⟨o, ho⟩ : ∃ o, u.heap[k]? = some o := ⟨_, Array.getElem?_eq_getElem hk⟩
  rcases h.row k o ho with h1 | ⟨hb, _⟩
  · rw [h1, ho]
  · omega⟩
theorem fz_trans (B0 : Nat) (x y z : World) (h : Fz B0 x y) (h' : Fz B0 y z) : Fz B0 x z := h.trans h'
theorem fz_drew (B0 : Nat) (w : World) : Fz B0 w { w with drawn := w.drawn + 1 } := Fz.of_below (below_drewN 1 w _)
theorem range_fz {b o : Nat} {cs : List Value} (h : u.rangeAt b o cs) (hf : Fz B0 u u') : u'.rangeAt b o cs := fun j v hv => by
  have h1 := h j v hv
  have hlt := World.block_lt_of_cell? u _ h1
  obtain ⟨ob, ho⟩ : ∃ ob, u.heap[b]? = some ob := ⟨_, Array.getElem?_eq_getElem hlt⟩
  rcases hf.row b ob ho with h2 | ⟨_, c, fr, fr', rfl, h2⟩
  · rw [← h1]
    exact World.cell?_of_block (a := ⟨b, o + j, none⟩) (h2.trans ho.symm)
  · rw [cell_of_row _ _ _ _ _ _ ho] at h1
    rw [cell_of_row _ _ _ _ _ _ h2]
    exact h1
theorem src_fz {v : Value} {l : List Nat} (h : Src u v l) (hf : Fz B0 u u') : Src u' v l := by
  obtain ⟨hs, h1 | h1 | ⟨b, o, c, rfl, hc, hr⟩⟩ := h
  · exact ⟨hs, .inl h1⟩
  · exact ⟨hs, .inr (.inl h1)⟩
  · exact ⟨hs, .inr (.inr ⟨b, o, c, rfl, hc, range_fz hr hf⟩)⟩
theorem fz_freeze {g n : Nat} {cs : Array Value} {fr : Nat × Nat} (hB : B0 ≤ g) (h : u.heap[g]? = some (.cells cs 5 fr)) : Fz B0 u (u.freeze ⟨g, n, none⟩ 1) := by
  obtain ⟨e1, e2, e3⟩ := freeze_keeps u ⟨g, n, none⟩ 1
  refine ⟨e1, e2, e3, by rw [size_freeze]; exact Nat.le_refl _, fun k o hk => ?_⟩
  by_cases e : k = g
  · subst e
    obtain ⟨fr', h2⟩ := heap_freeze_same u k n 1 cs 5 fr h
    rw [h] at hk
    cases hk
    exact .inr ⟨hB, cs, fr, fr', rfl, h2⟩
  · exact .inl ((heap_freeze_other u g n 1 k e).trans hk)
end
def SrcV (bs : List Nat) (l : List Nat) (v : Value) (w : World) : Prop := Src w v l ∧ bs = bs
theorem SrcV.kept {B0 : Nat} {bs l : List Nat} {v : Value} {w w' : World} (h : SrcV bs l v w) (ho : Fz B0 w w') : SrcV bs l v w' := ⟨src_fz h.1 ho, rfl⟩
/-- A constant of six bytes, marked or not. -/
def LitV (B0 : Nat) (l : List Nat) (v : Value) (w : World) : Prop := ∃ g fr, v = .slice (some ⟨g, 0, none⟩) 6 6 ∧ B0 ≤ g ∧ w.heap[g]? = some (.cells (arr .u8 l) 5 fr)
theorem LitV.kept {B0 : Nat} {l : List Nat} {v : Value} {w w' : World} (h : LitV B0 l v w) (ho : Fz B0 w w') : LitV B0 l v w' := by
  obtain ⟨g, fr, h1, h2, h3⟩ := h
  rcases ho.row g _ h3 with h4 | ⟨_, cs, fr2, fr', e, h4⟩
  · exact ⟨g, fr, h1, h2, h4⟩
  · cases e
    exact ⟨g, fr', h1, h2, h4⟩
section
variable {P : Program} {ops : Array Oper} {Q : Exit → Act → World → Prop} {V : Nat → Value → World → Prop} {B0 : Nat} {cs : List Nat} {R : Nat → World → Prop} {f : Nat → Bool}
theorem sq_fz {i : Nat} {o : Oper} {a' : Act} {w' w'' : World} (v : Value) (hi : ops[i]? = some o) (hw : Region.wanted o (yielded ops a'.tmps) = true)
    (hr : (execOp a'.eval o).run P w' = .ok (.value v) w'') (hf : Fz B0 w' w'') (hn : i ∉ cs) (hS : SeqS cs (fun _ _ => True) f w') (hv : V i v w'') :
    wpOp P ops Q i (fun a'' w2 => Fz B0 w' w2 ∧ SeqS cs (fun _ _ => True) (fun j => if j = i then true else f j) w2 ∧ ∃ v, a'' = a'.put o.dst v ∧ V i v w2) a' w' :=
  wpOp_value v hi hw hr ⟨hf, hS.quiet hn (fun _ _ => trivial), v, rfl, hv⟩
theorem sq_value {i : Nat} {o : Oper} {a' : Act} {w' w'' : World} (v : Value) (hi : ops[i]? = some o) (hw : Region.wanted o (yielded ops a'.tmps) = true)
    (hr : (execOp a'.eval o).run P w' = .ok (.value v) w'') (hb : Below w'.heap.size w' w'') (hn : i ∉ cs) (hS : SeqS cs R f w') (hR : ∀ k w w', Below w.heap.size w w' → R k w → R k w') (hv : V i v w'') :
    wpOp P ops Q i (fun a'' w2 => Fz B0 w' w2 ∧ SeqS cs R (fun j => if j = i then true else f j) w2 ∧ ∃ v, a'' = a'.put o.dst v ∧ V i v w2) a' w' :=
  wpOp_value v hi hw hr ⟨Fz.of_below hb, hS.quiet hn (fun k => hR k w' w'' hb), v, rfl, hv⟩
theorem sq_quiet {i : Nat} {o : Oper} {a' : Act} {w' : World} (fn : FuncId) (args : Array Value) (hi : ops[i]? = some o) (hw : Region.wanted o (yielded ops a'.tmps) = true)
    (hr : (execOp a'.eval o).run P w' = .ok (.enter fn args) w') (hn : i ∉ cs) (hS : SeqS cs R f w')
    (h : Calls P fn args w' fun e w2 => ∃ v, e = .returned v ∧ Fz B0 w' w2 ∧ (∀ k, R k w' → R k w2) ∧ V i v w2) :
    wpOp P ops Q i (fun a'' w2 => Fz B0 w' w2 ∧ SeqS cs R (fun j => if j = i then true else f j) w2 ∧ ∃ v, a'' = a'.put o.dst v ∧ V i v w2) a' w' :=
  wpOp_call fn args hi hw hr (h.mono fun _ _ ⟨v, he, hg, hR, hv⟩ => ⟨v, he, hg, hS.quiet hn hR, v, rfl, hv⟩)
theorem unwanted_of {o : Oper} {a' : Act} (j : Nat) (d : Tmp) (b : Bool) (hg : o.guard = some (j, !b)) (hd : (ops[j]?).bind (·.dst) = some d) (hv : a'.tmps.getD d undef = .bool b) : Region.wanted o (yielded ops a'.tmps) = false := by
  have hsome : a'.tmps[d]? = some (.bool b) := by
    cases h : a'.tmps[d]? with
    | none => simp [h, undef] at hv
    | some x => simpa [h] using hv
  cases b <;> simp [Region.wanted, hg, yielded, hd, hsome]
end
section
variable {o : Oper} {a' : Act} {w' : World}
theorem not_run (t : Tmp) (b : Bool) (ho : o.op = .unOp .not 4 (.tmp t)) (h0 : a'.tmps.getD t undef = .bool b) : (execOp a'.eval o).run Tryd.prog w' = .ok (.value (.bool (!b))) w' := by
  have he : a'.eval (.tmp t) = .bool b := h0
  unfold execOp
  simp only [ho]
  rw [he]
  simp [go_sem]
theorem pick_run (s : Tmp) (b : Bool) (x y : Operand) (u v : Value) (ho : o.op = .pick (.tmp s) x y) (h0 : a'.tmps.getD s undef = .bool b) (h1 : a'.eval x = u) (h2 : a'.eval y = v) : (execOp a'.eval o).run Tryd.prog w' = .ok (.value (if b then u else v)) w' := by
  have he : a'.eval (.tmp s) = .bool b := h0
  unfold execOp
  simp only [ho]
  rw [he, h1, h2]
  cases b <;> simp [go_sem]
theorem neqS_run (s t : Tmp) (x y : ByteArray) (ho : o.op = .binOp .neq 9 (.tmp s) (.tmp t) 9) (h0 : a'.tmps.getD s undef = .string x) (h1 : a'.tmps.getD t undef = .string y) : (execOp a'.eval o).run Tryd.prog w' = .ok (.value (.bool (!(x.toList == y.toList)))) w' := by
  have he : a'.eval (.tmp s) = .string x := h0
  have hc : a'.eval (.tmp t) = .string y := h1
  unfold execOp
  simp only [ho]
  rw [he, hc]
  simp [go_sem]
theorem neqN_run (s t : Tmp) (x y : Int) (ho : o.op = .binOp .neq 3 (.tmp s) (.tmp t) 3) (h0 : a'.tmps.getD s undef = .int .i64 x) (h1 : a'.tmps.getD t undef = .int .i64 y) : (execOp a'.eval o).run Tryd.prog w' = .ok (.value (.bool (!(x == y)))) w' := by
  have he : a'.eval (.tmp s) = .int .i64 x := h0
  have hc : a'.eval (.tmp t) = .int .i64 y := h1
  unfold execOp
  simp only [ho]
  rw [he, hc]
  simp [go_sem]
  rfl
theorem neqB_run (s t : Tmp) (x y : Bool) (ho : o.op = .binOp .neq 4 (.tmp s) (.tmp t) 4) (h0 : a'.tmps.getD s undef = .bool x) (h1 : a'.tmps.getD t undef = .bool y) : (execOp a'.eval o).run Tryd.prog w' = .ok (.value (.bool (!(x == y)))) w' := by
  have he : a'.eval (.tmp s) = .bool x := h0
  have hc : a'.eval (.tmp t) = .bool y := h1
  unfold execOp
  simp only [ho]
  rw [he, hc]
  simp [go_sem]
theorem conv_run {l : List Nat} (t : Tmp) (ho : o.op = .convert 22 9 (.tmp t)) (h : Src w' (a'.tmps.getD t undef) l) : (execOp a'.eval o).run Tryd.prog w' = .ok (.value (.string (strB l))) w' := by
  have hc := conv_src h
  unfold execOp
  simp only [ho, Act.eval, Sem.run_bind, hc, Result.andThen_ok, Sem.run_pure]
theorem eqlS_run (s t : Tmp) (x y : ByteArray) (ho : o.op = .binOp .eql 9 (.tmp s) (.tmp t) 9) (h0 : a'.tmps.getD s undef = .string x) (h1 : a'.tmps.getD t undef = .string y) : (execOp a'.eval o).run Tryd.prog w' = .ok (.value (.bool (x.toList == y.toList))) w' := by
  have he : a'.eval (.tmp s) = .string x := h0
  have hc : a'.eval (.tmp t) = .string y := h1
  unfold execOp
  simp only [ho]
  rw [he, hc]
  simp [go_sem]
theorem eqlE_run (t : Tmp) (T : TypeId) (x k : Int) (ho : o.op = .binOp .eql T (.tmp t) (.const (.int .i64 k)) T) (h0 : a'.tmps.getD t undef = .int .i64 x) : (execOp a'.eval o).run Tryd.prog w' = .ok (.value (.bool (x == k))) w' := by
  have he : a'.eval (.tmp t) = .int .i64 x := h0
  unfold execOp
  simp only [ho]
  rw [he]
  simp [go_sem]
theorem lenV_run (t : Tmp) (q : Option Addr) (n c : Nat) (ho : o.op = .call { callee := .builtin .len, args := #[.tmp t], argTypes := #[22] }) (h0 : a'.tmps.getD t undef = .slice q n c) : (execOp a'.eval o).run Tryd.prog w' = .ok (.value (.int .i64 (n : Int))) w' := by
  have he : a'.tmps[t]?.getD undef = .slice q n c := by simpa using h0
  unfold execOp
  simp only [ho]
  simp [go_sem, he]
theorem cut_run (t : Tmp) (g : Nat) (ho : o.op = .slice 23 (.tmp t) none none none) (h0 : a'.tmps.getD t undef = .pointer (some ⟨g, 0, none⟩)) : (execOp a'.eval o).run Tryd.prog w' = .ok (.value (.slice (some ⟨g, 0, none⟩) 32 32)) w' := by
  have he : a'.tmps[t]?.getD undef = .pointer (some ⟨g, 0, none⟩) := by simpa using h0
  unfold execOp
  simp only [ho]
  simp [go_sem, he]
theorem lit_run (x0 x1 x2 x3 x4 x5 : Int) (ho : o.op = .buildSlice 22 6 #[(0, .const (.int .u8 x0)), (1, .const (.int .u8 x1)), (2, .const (.int .u8 x2)), (3, .const (.int .u8 x3)), (4, .const (.int .u8 x4)), (5, .const (.int .u8 x5))]) : (execOp a'.eval o).run Tryd.prog w' = .ok (.value (.slice (some ⟨w'.heap.size, 0, none⟩) 6 6)) (w'.alloc (.cells #[.int .u8 x0, .int .u8 x1, .int .u8 x2, .int .u8 x3, .int .u8 x4, .int .u8 x5] 5)) := by
  unfold execOp
  simp only [ho]
  simp [go_sem]
theorem mark_run {l : List Nat} (hl : l.length = 6) (t : Tmp) (g : Nat) (fr : Nat × Nat) (ho : o.op = .convert 22 22 (.tmp t)) (h0 : a'.tmps.getD t undef = .slice (some ⟨g, 0, none⟩) 6 6) (hg : w'.heap[g]? = some (.cells (arr .u8 l) 5 fr)) : (execOp a'.eval o).run Tryd.prog w' = .ok (.value (.slice (some ⟨g, 0, none⟩) 6 6)) (w'.freeze ⟨g, 6, none⟩ 1) := by
  have he : a'.eval (.tmp t) = .slice (some ⟨g, 0, none⟩) 6 6 := h0
  have hsh : w'.shape? g = some (5, 6) := by
    unfold World.shape?
    rw [hg]
    simp [arr_size, hl]
  unfold execOp
  simp only [ho]
  rw [he]
  simp [convert, run_underlying Tryd.underlying22, run_underlying Tryd.underlying5, markStringish, hsh, Result.andThen]
theorem app_run {l m : List Nat} (hl : l.length = 6) (s t : Tmp) (g : Nat) (fr : Nat × Nat) (hls : ∀ x ∈ l, x < 256) (hm : 0 < m.length) (hm2 : m.length ≤ 1000) (ho : o.op = .call { callee := .builtin .append, args := #[.tmp s, .tmp t], argTypes := #[22, 22] }) (h0 : a'.tmps.getD s undef = .slice (some ⟨g, 0, none⟩) 6 6) (hg : w'.heap[g]? = some (.cells (arr .u8 l) 5 fr)) (h1 : Src w' (a'.tmps.getD t undef) m) :
    ∃ v w'', (execOp a'.eval o).run Tryd.prog w' = .ok (.value v) w'' ∧ Below w'.heap.size w' w'' ∧ Src w'' v (l ++ m) := by
  obtain ⟨hs, ⟨_, rfl⟩ | ⟨_, _, _, rfl⟩ | ⟨b, of, c, hv, hc, hr⟩⟩ := h1
  · simp at hm
  · simp at hm
  · have he : a'.eval (.tmp s) = .slice (some ⟨g, 0, none⟩) 6 6 := h0
    have hx : a'.eval (.tmp t) = .slice (some ⟨b, of, none⟩) m.length c := hv
    have hrg : w'.rangeAt g 0 (ints .u8 l) := rangeAt_of_row (t := 5) (fr := fr) hg
    obtain ⟨v, w'', k1, k2, k3⟩ := run_grow (w := w') (base := w'.heap.size) (ad := ⟨g, 0, none⟩) (l := l) (news := m) (ty := o.type) (a := ⟨b, of, none⟩) (c := c) (Nat.le_refl _) (fun j u hu => by rw [Addr.add_mid]; exact hrg j u hu) (fun j u hu => by rw [Addr.add_mid]; exact hr j u hu) (by omega) hm
    rw [hl] at k1
    refine ⟨v, w'', ?_, k3, Src.own (fun x hx => (List.mem_append.1 hx).elim (hls x) (hs x)) k2⟩
    unfold execOp
    simp only [ho, resolve, invoke, builtin, Sem.run_bind, Sem.run_pure, Result.andThen_ok, List.map_toArray, List.map_cons, List.map_nil, he, hx, k1]
end
section
variable {ops : Array Oper} {Q : Exit → Act → World → Prop} {V : Nat → Value → World → Prop} {B0 : Nat} {cs : List Nat} {R : Nat → World → Prop} {f : Nat → Bool}
theorem sq_app {i : Nat} {o : Oper} {a' : Act} {w' : World} {l m : List Nat} (hi : ops[i]? = some o) (hw : Region.wanted o (yielded ops a'.tmps) = true) (hl : l.length = 6) (s t : Tmp) (g : Nat) (fr : Nat × Nat) (hls : ∀ x ∈ l, x < 256) (hm : 0 < m.length) (hm2 : m.length ≤ 1000) (ho : o.op = .call { callee := .builtin .append, args := #[.tmp s, .tmp t], argTypes := #[22, 22] }) (h0 : a'.tmps.getD s undef = .slice (some ⟨g, 0, none⟩) 6 6) (hg : w'.heap[g]? = some (.cells (arr .u8 l) 5 fr)) (h1 : Src w' (a'.tmps.getD t undef) m)
    (hn : i ∉ cs) (hS : SeqS cs R f w') (hR : ∀ k w w', Below w.heap.size w w' → R k w → R k w') (hV : ∀ v w'', Src w'' v (l ++ m) → V i v w'') :
    wpOp Tryd.prog ops Q i (fun a'' w2 => Fz B0 w' w2 ∧ SeqS cs R (fun j => if j = i then true else f j) w2 ∧ ∃ v, a'' = a'.put o.dst v ∧ V i v w2) a' w' := by
  obtain ⟨v, w2, r1, r2, r3⟩ := app_run hl s t g fr hls hm hm2 ho h0 hg h1
  exact sq_value v hi hw r1 r2 hn hS hR (hV v w2 r3)
end
def re11 (B0 n : Nat) (cq : Option Addr) (cc : Nat) (s kl : List Nat) : Nat → Value → World → Prop
  | 0 => IsV (.int .i64 0)
  | 1 => IsV (.bool true)
  | 2 => IsV (.bool true)
  | 3 => IsV (.int .i64 0)
  | 4 => IsV (.bool true)
  | 5 => IsV (.bool true)
  | 6 => IsV (.bool true)
  | 7 => IsV (.int .i64 0)
  | 8 => IsV (.bool true)
  | 9 => IsV (.bool true)
  | 10 => IsV (.bool true)
  | 11 => IsV (.int .i64 0)
  | 12 => IsV (.bool true)
  | 13 => IsV (.bool true)
  | 14 => IsV (.bool true)
  | 15 => IsV (.slice cq 48 cc)
  | 16 => IsV (.int .i64 (48 : Int))
  | 17 => IsV (.bool true)
  | 18 => IsV (.bool true)
  | 19 => IsV (.bool true)
  | 20 => SrcV [] kl
  | 21 => IsV (.string (strB kl))
  | 22 => SrcV [] kl
  | 23 => IsV (.string (strB kl))
  | 24 => IsV (.bool true)
  | 25 => IsV (.bool true)
  | 26 => IsV (.bool true)
  | 27 => SrcV [] (S2.Mk.code s (memB ++ six n))
  | 28 => IsV (.string (strB (S2.Mk.code s (memB ++ six n))))
  | 29 => SrcV [] s
  | 30 => LitV B0 memB
  | 31 => LitV B0 memB
  | 32 => SrcV [] (six n)
  | 33 => SrcV [] (memB ++ six n)
  | 34 => SrcV [] (S2.Mk.code s (memB ++ six n))
  | 35 => IsV (.string (strB (S2.Mk.code s (memB ++ six n))))
  | 36 => IsV (.bool true)
  | 37 => IsV (.bool true)
  | 38 => IsV (.bool true)
  | 39 => SrcV [] (S2.Mk.code s (wriB ++ six n))
  | 40 => IsV (.string (strB (S2.Mk.code s (wriB ++ six n))))
  | 41 => SrcV [] s
  | 42 => LitV B0 wriB
  | 43 => LitV B0 wriB
  | 44 => SrcV [] (six n)
  | 45 => SrcV [] (wriB ++ six n)
  | 46 => SrcV [] (S2.Mk.code s (wriB ++ six n))
  | 47 => IsV (.string (strB (S2.Mk.code s (wriB ++ six n))))
  | 48 => IsV (.bool true)
  | 49 => IsV (.bool true)
  | 50 => IsV (.bool true)
  | _ => fun _ _ => True
theorem re11_kept (B0 n : Nat) (cq : Option Addr) (cc : Nat) (s kl : List Nat) : ∀ i v w w', re11 B0 n cq cc s kl i v w → Fz B0 w w' → re11 B0 n cq cc s kl i v w'
  | 0, _, _, _, h, _ => h
  | 1, _, _, _, h, _ => h
  | 2, _, _, _, h, _ => h
  | 3, _, _, _, h, _ => h
  | 4, _, _, _, h, _ => h
  | 5, _, _, _, h, _ => h
  | 6, _, _, _, h, _ => h
  | 7, _, _, _, h, _ => h
  | 8, _, _, _, h, _ => h
  | 9, _, _, _, h, _ => h
  | 10, _, _, _, h, _ => h
  | 11, _, _, _, h, _ => h
  | 12, _, _, _, h, _ => h
  | 13, _, _, _, h, _ => h
  | 14, _, _, _, h, _ => h
  | 15, _, _, _, h, _ => h
  | 16, _, _, _, h, _ => h
  | 17, _, _, _, h, _ => h
  | 18, _, _, _, h, _ => h
  | 19, _, _, _, h, _ => h
  | 20, _, _, _, h, ho => SrcV.kept h ho
  | 21, _, _, _, h, _ => h
  | 22, _, _, _, h, ho => SrcV.kept h ho
  | 23, _, _, _, h, _ => h
  | 24, _, _, _, h, _ => h
  | 25, _, _, _, h, _ => h
  | 26, _, _, _, h, _ => h
  | 27, _, _, _, h, ho => SrcV.kept h ho
  | 28, _, _, _, h, _ => h
  | 29, _, _, _, h, ho => SrcV.kept h ho
  | 30, _, _, _, h, ho => LitV.kept h ho
  | 31, _, _, _, h, ho => LitV.kept h ho
  | 32, _, _, _, h, ho => SrcV.kept h ho
  | 33, _, _, _, h, ho => SrcV.kept h ho
  | 34, _, _, _, h, ho => SrcV.kept h ho
  | 35, _, _, _, h, _ => h
  | 36, _, _, _, h, _ => h
  | 37, _, _, _, h, _ => h
  | 38, _, _, _, h, _ => h
  | 39, _, _, _, h, ho => SrcV.kept h ho
  | 40, _, _, _, h, _ => h
  | 41, _, _, _, h, ho => SrcV.kept h ho
  | 42, _, _, _, h, ho => LitV.kept h ho
  | 43, _, _, _, h, ho => LitV.kept h ho
  | 44, _, _, _, h, ho => SrcV.kept h ho
  | 45, _, _, _, h, ho => SrcV.kept h ho
  | 46, _, _, _, h, ho => SrcV.kept h ho
  | 47, _, _, _, h, _ => h
  | 48, _, _, _, h, _ => h
  | 49, _, _, _, h, _ => h
  | 50, _, _, _, h, _ => h
  | _ + 51, _, _, _, _, _ => trivial
theorem frame3_11 {A F : Array Value} (hs : A.size = 125) (h : ∀ t, [8, 75, 76, 77, 78, 79, 80, 81, 82, 83, 84, 85, 86, 87, 88, 89, 90, 91, 92, 93, 94, 95, 96, 97, 98, 99, 100, 101, 102, 103, 104, 105, 106, 107, 108, 109, 110, 111, 112, 113, 114, 115, 116, 117, 118, 119, 120, 121, 122, 123, 124].contains t = false → A.getD t undef = F.getD t undef) : A = #[F.getD 0 undef, F.getD 1 undef, F.getD 2 undef, F.getD 3 undef, F.getD 4 undef, F.getD 5 undef, F.getD 6 undef, F.getD 7 undef, A.getD 8 undef, F.getD 9 undef, F.getD 10 undef, F.getD 11 undef, F.getD 12 undef, F.getD 13 undef, F.getD 14 undef, F.getD 15 undef, F.getD 16 undef, F.getD 17 undef, F.getD 18 undef, F.getD 19 undef, F.getD 20 undef, F.getD 21 undef, F.getD 22 undef, F.getD 23 undef, F.getD 24 undef, F.getD 25 undef, F.getD 26 undef, F.getD 27 undef, F.getD 28 undef, F.getD 29 undef, F.getD 30 undef, F.getD 31 undef, F.getD 32 undef, F.getD 33 undef, F.getD 34 undef, F.getD 35 undef, F.getD 36 undef, F.getD 37 undef, F.getD 38 undef, F.getD 39 undef, F.getD 40 undef, F.getD 41 undef, F.getD 42 undef, F.getD 43 undef, F.getD 44 undef, F.getD 45 undef, F.getD 46 undef, F.getD 47 undef, F.getD 48 undef, F.getD 49 undef, F.getD 50 undef, F.getD 51 undef, F.getD 52 undef, F.getD 53 undef, F.getD 54 undef, F.getD 55 undef, F.getD 56 undef, F.getD 57 undef, F.getD 58 undef, F.getD 59 undef, F.getD 60 undef, F.getD 61 undef, F.getD 62 undef, F.getD 63 undef, F.getD 64 undef, F.getD 65 undef, F.getD 66 undef, F.getD 67 undef, F.getD 68 undef, F.getD 69 undef, F.getD 70 undef, F.getD 71 undef, F.getD 72 undef, F.getD 73 undef, F.getD 74 undef, A.getD 75 undef, A.getD 76 undef, A.getD 77 undef, A.getD 78 undef, A.getD 79 undef, A.getD 80 undef, A.getD 81 undef, A.getD 82 undef, A.getD 83 undef, A.getD 84 undef, A.getD 85 undef, A.getD 86 undef, A.getD 87 undef, A.getD 88 undef, A.getD 89 undef, A.getD 90 undef, A.getD 91 undef, A.getD 92 undef, A.getD 93 undef, A.getD 94 undef, A.getD 95 undef, A.getD 96 undef, A.getD 97 undef, A.getD 98 undef, A.getD 99 undef, A.getD 100 undef, A.getD 101 undef, A.getD 102 undef, A.getD 103 undef, A.getD 104 undef, A.getD 105 undef, A.getD 106 undef, A.getD 107 undef, A.getD 108 undef, A.getD 109 undef, A.getD 110 undef, A.getD 111 undef, A.getD 112 undef, A.getD 113 undef, A.getD 114 undef, A.getD 115 undef, A.getD 116 undef, A.getD 117 undef, A.getD 118 undef, A.getD 119 undef, A.getD 120 undef, A.getD 121 undef, A.getD 122 undef, A.getD 123 undef, A.getD 124 undef] := by
  rw [← h 0 (by decide), ← h 1 (by decide), ← h 2 (by decide), ← h 3 (by decide), ← h 4 (by decide), ← h 5 (by decide), ← h 6 (by decide), ← h 7 (by decide), ← h 9 (by decide), ← h 10 (by decide), ← h 11 (by decide), ← h 12 (by decide), ← h 13 (by decide), ← h 14 (by decide), ← h 15 (by decide), ← h 16 (by decide), ← h 17 (by decide), ← h 18 (by decide), ← h 19 (by decide), ← h 20 (by decide), ← h 21 (by decide), ← h 22 (by decide), ← h 23 (by decide), ← h 24 (by decide), ← h 25 (by decide), ← h 26 (by decide), ← h 27 (by decide), ← h 28 (by decide), ← h 29 (by decide), ← h 30 (by decide), ← h 31 (by decide), ← h 32 (by decide), ← h 33 (by decide), ← h 34 (by decide), ← h 35 (by decide), ← h 36 (by decide), ← h 37 (by decide), ← h 38 (by decide), ← h 39 (by decide), ← h 40 (by decide), ← h 41 (by decide), ← h 42 (by decide), ← h 43 (by decide), ← h 44 (by decide), ← h 45 (by decide), ← h 46 (by decide), ← h 47 (by decide), ← h 48 (by decide), ← h 49 (by decide), ← h 50 (by decide), ← h 51 (by decide), ← h 52 (by decide), ← h 53 (by decide), ← h 54 (by decide), ← h 55 (by decide), ← h 56 (by decide), ← h 57 (by decide), ← h 58 (by decide), ← h 59 (by decide), ← h 60 (by decide), ← h 61 (by decide), ← h 62 (by decide), ← h 63 (by decide), ← h 64 (by decide), ← h 65 (by decide), ← h 66 (by decide), ← h 67 (by decide), ← h 68 (by decide), ← h 69 (by decide), ← h 70 (by decide), ← h 71 (by decide), ← h 72 (by decide), ← h 73 (by decide), ← h 74 (by decide)]
  refine Array.ext (by simp [hs]) (fun i h1 h2 => ?_)
  have e : A[i] = A.getD i undef := by simp [h1]
  rw [e]
  rw [hs] at h1
  clear e h hs
  match i, h1 with
  | 0, _ => rfl
  | 1, _ => rfl
  | 2, _ => rfl
  | 3, _ => rfl
  | 4, _ => rfl
  | 5, _ => rfl
  | 6, _ => rfl
  | 7, _ => rfl
  | 8, _ => rfl
  | 9, _ => rfl
  | 10, _ => rfl
  | 11, _ => rfl
  | 12, _ => rfl
  | 13, _ => rfl
  | 14, _ => rfl
  | 15, _ => rfl
  | 16, _ => rfl
  | 17, _ => rfl
  | 18, _ => rfl
  | 19, _ => rfl
  | 20, _ => rfl
  | 21, _ => rfl
  | 22, _ => rfl
  | 23, _ => rfl
  | 24, _ => rfl
  | 25, _ => rfl
  | 26, _ => rfl
  | 27, _ => rfl
  | 28, _ => rfl
  | 29, _ => rfl
  | 30, _ => rfl
  | 31, _ => rfl
  | 32, _ => rfl
  | 33, _ => rfl
  | 34, _ => rfl
  | 35, _ => rfl
  | 36, _ => rfl
  | 37, _ => rfl
  | 38, _ => rfl
  | 39, _ => rfl
  | 40, _ => rfl
  | 41, _ => rfl
  | 42, _ => rfl
  | 43, _ => rfl
  | 44, _ => rfl
  | 45, _ => rfl
  | 46, _ => rfl
  | 47, _ => rfl
  | 48, _ => rfl
  | 49, _ => rfl
  | 50, _ => rfl
  | 51, _ => rfl
  | 52, _ => rfl
  | 53, _ => rfl
  | 54, _ => rfl
  | 55, _ => rfl
  | 56, _ => rfl
  | 57, _ => rfl
  | 58, _ => rfl
  | 59, _ => rfl
  | 60, _ => rfl
  | 61, _ => rfl
  | 62, _ => rfl
  | 63, _ => rfl
  | 64, _ => rfl
  | 65, _ => rfl
  | 66, _ => rfl
  | 67, _ => rfl
  | 68, _ => rfl
  | 69, _ => rfl
  | 70, _ => rfl
  | 71, _ => rfl
  | 72, _ => rfl
  | 73, _ => rfl
  | 74, _ => rfl
  | 75, _ => rfl
  | 76, _ => rfl
  | 77, _ => rfl
  | 78, _ => rfl
  | 79, _ => rfl
  | 80, _ => rfl
  | 81, _ => rfl
  | 82, _ => rfl
  | 83, _ => rfl
  | 84, _ => rfl
  | 85, _ => rfl
  | 86, _ => rfl
  | 87, _ => rfl
  | 88, _ => rfl
  | 89, _ => rfl
  | 90, _ => rfl
  | 91, _ => rfl
  | 92, _ => rfl
  | 93, _ => rfl
  | 94, _ => rfl
  | 95, _ => rfl
  | 96, _ => rfl
  | 97, _ => rfl
  | 98, _ => rfl
  | 99, _ => rfl
  | 100, _ => rfl
  | 101, _ => rfl
  | 102, _ => rfl
  | 103, _ => rfl
  | 104, _ => rfl
  | 105, _ => rfl
  | 106, _ => rfl
  | 107, _ => rfl
  | 108, _ => rfl
  | 109, _ => rfl
  | 110, _ => rfl
  | 111, _ => rfl
  | 112, _ => rfl
  | 113, _ => rfl
  | 114, _ => rfl
  | 115, _ => rfl
  | 116, _ => rfl
  | 117, _ => rfl
  | 118, _ => rfl
  | 119, _ => rfl
  | 120, _ => rfl
  | 121, _ => rfl
  | 122, _ => rfl
  | 123, _ => rfl
  | 124, _ => rfl
  | _ + 125, h => exact absurd h (by omega)
end Go.Proofs.YtagdlpodpokmmaaDoor.S7.Rz
