/- Regions that draw their order and turn one map, by their last operation. -/
import Derived.Test.YtchoiioeeepoaaaV19Fk
import Derived.Test.YtchoiioeeepoaaaV19A
import Derived.Test.YtchoiioeeepoaaaSt2
import Derived.Test.YtchoiioeeepoaaaC8St
namespace Go.Proofs.Ytchoiioeeepoaaa.V19
open Go.RowKit C8 E9 F17
/-- All that stood is as it was. -/
def Bm (u u' : World) : Prop := Below u.heap.size u u'
def Lm (n : Nat) (W0 : World) (bs : List Nat) (R : World → Prop) (f : Nat → Bool) (_ : Act) (w : World) : Prop := Only bs W0 w ∧ (f n = false → Bm W0 w) ∧ (f n = true → R w)
theorem Only.later {u v w : World} {bs cs : List Nat} (h : Only bs w u) (k : Only cs u v) (hc : ∀ x ∈ cs, w.heap.size ≤ x ∨ x ∈ bs) : Only bs w v :=
  ⟨k.os.trans h.os, k.tape.trans h.tape, k.output.trans h.output, Nat.le_trans h.size k.size, fun i hi hn => (k.block i (Nat.lt_of_lt_of_le hi h.size) (fun e => by
    rcases hc i e with h1 | h1
    · omega
    · exact hn h1)).trans (h.block i hi hn)⟩
theorem Only.grow {u v : World} {b : Nat} (h : Only [b] u v) : u.grownBy v (some b) := ⟨h.os, h.tape, h.output, h.size, fun i hi hne => h.block i hi (by simpa using hne)⟩
theorem grown_drew (w : World) : w.grownBy w.drew none := ⟨rfl, rfl, rfl, Nat.le_refl _, fun _ _ _ => rfl⟩
section
variable {ops : Array Oper} {Q : Exit → Act → World → Prop} {V : Nat → Value → World → Prop} {f : Nat → Bool} {i : Nat} {o : Oper} {a' : Act} {w' : World} {n : Nat} {W0 : World} {bs : List Nat} {R : World → Prop}
theorem Lm.step {w2 : World} {a2 : Act} (K : ∀ u u', R u → Bm u u' → R u') (hn : i ≠ n) (hS : Lm n W0 bs R f a' w') (hb : Bm w' w2) : Lm n W0 bs R (fun j => if j = i then true else f j) a2 w2 := by
  refine ⟨hS.1.trans (Only.of_below hb _), fun h => ?_, fun h => ?_⟩
  · simp only [if_neg hn.symm] at h
    have h1 := hS.2.1 h
    exact Below.trans h1 (Below.mono hb (Below.size h1))
  · simp only [if_neg hn.symm] at h
    exact K _ _ (hS.2.2 h) hb
theorem rm_value {P : Program} (K : ∀ u u', R u → Bm u u' → R u') (v : Value) (hi : ops[i]? = some o) (hw : Region.wanted o (yielded ops a'.tmps) = true) (hr : (execOp a'.eval o).run P w' = .ok (.value v) w') (hn : i ≠ n) (hS : Lm n W0 bs R f a' w') (hv : V i v w') :
    wpOp P ops Q i (fun a'' w2 => Rows w' w2 ∧ Lm n W0 bs R (fun j => if j = i then true else f j) a'' w2 ∧ ∃ v, a'' = a'.put o.dst v ∧ V i v w2) a' w' :=
  wpOp_value v hi hw hr ⟨fun _ _ h => h, hS.step K hn (Below.refl _ _), v, rfl, hv⟩
theorem rm_quiet {P : Program} (K : ∀ u u', R u → Bm u u' → R u') (fn : FuncId) (args : Array Value) (hi : ops[i]? = some o) (hw : Region.wanted o (yielded ops a'.tmps) = true) (hr : (execOp a'.eval o).run P w' = .ok (.enter fn args) w') (hn : i ≠ n) (hS : Lm n W0 bs R f a' w')
    (h : Calls P fn args w' fun e w2 => ∃ v, e = .returned v ∧ Below w'.heap.size w' w2 ∧ V i v w2) :
    wpOp P ops Q i (fun a'' w2 => Rows w' w2 ∧ Lm n W0 bs R (fun j => if j = i then true else f j) a'' w2 ∧ ∃ v, a'' = a'.put o.dst v ∧ V i v w2) a' w' :=
  wpOp_call fn args hi hw hr (h.mono fun _ _ ⟨v, he, hb, hv⟩ => ⟨v, he, Rows.below hb, hS.step K hn hb, v, rfl, hv⟩)
theorem rm_last {P : Program} {w2 : World} (hi : ops[i]? = some o) (hw : Region.wanted o (yielded ops a'.tmps) = true) (hr : (execOp a'.eval o).run P w' = .ok .skip w2) (hd : o.dst = none) (hn : i = n) (hS : Lm n W0 bs R f a' w') (hg : Rows w' w2) (ho : Only bs w' w2) (hR : R w2) (hv : V i undef w2) :
    wpOp P ops Q i (fun a'' w2 => Rows w' w2 ∧ Lm n W0 bs R (fun j => if j = i then true else f j) a'' w2 ∧ ∃ v, a'' = a'.put o.dst v ∧ V i v w2) a' w' := by
  refine wpOp_skip hi hw hr ⟨hg, ⟨hS.1.trans ho, fun h => ?_, fun _ => hR⟩, undef, ?_, hv⟩
  · simp [hn] at h
  · rw [hd]
theorem buildPl_run (t : Tmp) (y : Int) (ho : o.op = .build 64 #[(0, .const (.int .i64 1)), (1, .tmp t)]) (h0 : a'.tmps.getD t undef = .int .i64 y) : (execOp a'.eval o).run Try.prog w' = .ok (.value (.agg #[.int .i64 1, .int .i64 y])) w' := by
  have he : a'.eval (.tmp t) = .int .i64 y := h0
  have hf : a'.eval (.const (.int .i64 1)) = .int .i64 1 := rfl
  unfold execOp
  simp only [ho, List.map_toArray, List.map_cons, List.map_nil, he, hf]
  simp [go_sem]
theorem lenM_run (t : Tmp) (q : Option Addr) (n c : Nat) (ho : o.op = .call { callee := .builtin .len, args := #[.tmp t], argTypes := #[31] }) (h : a'.tmps.getD t undef = .slice q n c) : (execOp a'.eval o).run Try.prog w' = .ok (.value (.int .i64 (n : Int))) w' := by
  have he : a'.eval (.tmp t) = .slice q n c := h
  unfold execOp
  simp only [ho]
  generalize a'.eval = r at *
  simp [he, go_sem, resolve, invoke, builtin]
theorem minM_run (s t : Tmp) (x y m : Int) (ho : o.op = .call { callee := .builtin .min, args := #[.tmp s, .tmp t], argTypes := #[3, 3] }) (h0 : a'.tmps.getD s undef = .int .i64 x) (h1 : a'.tmps.getD t undef = .int .i64 y) (hm : min x y = m) : (execOp a'.eval o).run Try.prog w' = .ok (.value (.int .i64 m)) w' := by
  have he : a'.eval (.tmp s) = .int .i64 x := h0
  have hf : a'.eval (.tmp t) = .int .i64 y := h1
  unfold execOp
  simp only [ho]
  generalize a'.eval = r at *
  simp [he, hf, go_sem, resolve, invoke, builtin]
  rw [← hm]
  split <;> omega
theorem sliceM_run (s t : Tmp) (q : Option Addr) (n cp k : Nat) (ho : o.op = .slice 31 (.tmp s) none (some (.tmp t)) none) (h0 : a'.tmps.getD s undef = .slice q n cp) (h1 : a'.tmps.getD t undef = .int .i64 (k : Int)) (hr : (Instr.slice 31 (.slice q n cp) none (some (.int .i64 (k : Int))) none).run Try.prog w' = .ok (.slice q k cp) w') : (execOp a'.eval o).run Try.prog w' = .ok (.value (.slice q k cp)) w' := by
  have he : a'.eval (.tmp s) = .slice q n cp := h0
  have hf : a'.eval (.tmp t) = .int .i64 (k : Int) := h1
  unfold execOp
  simp only [ho, he, hf, Option.map_none, Option.map_some, Sem.run_bind, Instr.sliceAt, run_underlying Try.underlying31, hr, Result.andThen_ok, Sem.run_pure]
theorem upM_run (s t u : Tmp) (mv kv xv : Value) {w2 : World} (ho : o.op = .mapUpdate 58 (.tmp s) (.tmp t) (.tmp u)) (h0 : a'.tmps.getD s undef = mv) (h1 : a'.tmps.getD t undef = kv) (h2 : a'.tmps.getD u undef = xv) (hr : (Instr.mapUpdate 58 mv kv xv).run Try.prog w' = .ok () w2) : (execOp a'.eval o).run Try.prog w' = .ok .skip w2 := by
  have he : a'.eval (.tmp s) = mv := h0
  have hf : a'.eval (.tmp t) = kv := h1
  have hg : a'.eval (.tmp u) = xv := h2
  unfold execOp
  simp only [ho, he, hf, hg, Sem.run_bind, hr, Result.andThen_ok, Sem.run_pure]
end
end Go.Proofs.Ytchoiioeeepoaaa.V19
