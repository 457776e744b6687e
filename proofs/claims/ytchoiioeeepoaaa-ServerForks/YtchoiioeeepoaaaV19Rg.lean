/- Regions that draw their order and turn nothing that stood. -/
import Derived.Test.YtchoiioeeepoaaaV19Fr
import Derived.Test.YtchoiioeeepoaaaSt2
import Derived.Test.YtchoiioeeepoaaaC8St
namespace Go.Proofs.Ytchoiioeeepoaaa.V19
open Go.RowKit C8 E9 F17
section
variable {ops : Array Oper} {Q : Exit → Act → World → Prop} {V : Nat → Value → World → Prop} {f : Nat → Bool} {i : Nat} {o : Oper} {a' : Act} {w' : World}
theorem unwanted_undef (j : Nat) (d : Tmp) (b : Bool) (hg : o.guard = some (j, b)) (hd : (ops[j]?).bind (·.dst) = some d) (hv : a'.tmps.getD d undef = undef) : Region.wanted o (yielded ops a'.tmps) = false := by
  cases h : a'.tmps[d]? with
  | none => simp [Region.wanted, hg, yielded, hd, h]
  | some x =>
    have : x = undef := by simpa [h] using hv
    subst this
    simp [Region.wanted, hg, yielded, hd, h, undef]
/-- All that stood is as it was. -/
def Bq (u u' : World) : Prop := Below u.heap.size u u'
theorem Bq.trans {u v w : World} (h : Bq u v) (k : Bq v w) : Bq u w := Below.trans h (Below.mono k (Below.size h))
def No3 (_ : Nat → Bool) (_ : Act) (_ : World) : Prop := True
theorem rg_value {P : Program} (v : Value) (hi : ops[i]? = some o) (hw : Region.wanted o (yielded ops a'.tmps) = true) (hr : (execOp a'.eval o).run P w' = .ok (.value v) w') (hv : V i v w') :
    wpOp P ops Q i (fun a'' w2 => Bq w' w2 ∧ No3 (fun j => if j = i then true else f j) a'' w2 ∧ ∃ v, a'' = a'.put o.dst v ∧ V i v w2) a' w' :=
  wpOp_value v hi hw hr ⟨Below.refl _ _, trivial, v, rfl, hv⟩
theorem rg_new {P : Program} {w2 : World} (v : Value) (hi : ops[i]? = some o) (hw : Region.wanted o (yielded ops a'.tmps) = true) (hr : (execOp a'.eval o).run P w' = .ok (.value v) w2) (hb : Bq w' w2) (hv : V i v w2) :
    wpOp P ops Q i (fun a'' w2 => Bq w' w2 ∧ No3 (fun j => if j = i then true else f j) a'' w2 ∧ ∃ v, a'' = a'.put o.dst v ∧ V i v w2) a' w' :=
  wpOp_value v hi hw hr ⟨hb, trivial, v, rfl, hv⟩
theorem rg_quiet {P : Program} (fn : FuncId) (args : Array Value) (hi : ops[i]? = some o) (hw : Region.wanted o (yielded ops a'.tmps) = true) (hr : (execOp a'.eval o).run P w' = .ok (.enter fn args) w')
    (h : Calls P fn args w' fun e w2 => ∃ v, e = .returned v ∧ Below w'.heap.size w' w2 ∧ V i v w2) :
    wpOp P ops Q i (fun a'' w2 => Bq w' w2 ∧ No3 (fun j => if j = i then true else f j) a'' w2 ∧ ∃ v, a'' = a'.put o.dst v ∧ V i v w2) a' w' :=
  wpOp_call fn args hi hw hr (h.mono fun _ _ ⟨v, he, hb, hv⟩ => ⟨v, he, hb, trivial, v, rfl, hv⟩)
theorem rg_skip {P : Program} (hi : ops[i]? = some o) (hw : Region.wanted o (yielded ops a'.tmps) = false) (hv : V i undef w') :
    wpOp P ops Q i (fun a'' w2 => Bq w' w2 ∧ No3 (fun j => if j = i then true else f j) a'' w2 ∧ ∃ v, a'' = a'.put o.dst v ∧ V i v w2) a' w' := by
  unfold wpOp
  simp only [hi, hw]
  exact ⟨Below.refl _ _, trivial, undef, rfl, hv⟩
/-- Links in a slot. -/
def LgV (m : Nat) (L : Ls) (v : Value) (w : World) : Prop := ∃ q c, v = .slice q m c ∧ LkRow w q L
theorem LgV.kept {m : Nat} {L : Ls} {v : Value} {w w' : World} (h : LgV m L v w) (ho : Bq w w') : LgV m L v w' := by
  obtain ⟨q, c, e, k⟩ := h
  exact ⟨q, c, e, k.below ho⟩
theorem eqlE_run (T : TypeId) (s : Tmp) (x y : Int) (r : Bool) (ho : o.op = .binOp .eql T (.tmp s) (.const (.int .i64 y)) T) (hT : T = 39 ∨ T = 3) (h0 : a'.tmps.getD s undef = .int .i64 x) (hr : (x == y) = r) : (execOp a'.eval o).run Try.prog w' = .ok (.value (.bool r)) w' := by
  have he : a'.eval (.tmp s) = .int .i64 x := h0
  have hf : a'.eval (.const (.int .i64 y)) = .int .i64 y := rfl
  unfold execOp
  simp only [ho]
  rw [he, hf]
  rcases hT with rfl | rfl <;> simp [go_sem, ← hr]
theorem neqE_run (T : TypeId) (s : Tmp) (x y : Int) (r : Bool) (ho : o.op = .binOp .neq T (.tmp s) (.const (.int .i64 y)) T) (hT : T = 39 ∨ T = 3) (h0 : a'.tmps.getD s undef = .int .i64 x) (hr : (x != y) = r) : (execOp a'.eval o).run Try.prog w' = .ok (.value (.bool r)) w' := by
  have he : a'.eval (.tmp s) = .int .i64 x := h0
  have hf : a'.eval (.const (.int .i64 y)) = .int .i64 y := rfl
  unfold execOp
  simp only [ho]
  rw [he, hf]
  rcases hT with rfl | rfl <;> simp [go_sem, ← hr]
theorem lenV_run (t : Tmp) (q : Option Addr) (n c : Nat) (T : TypeId) (ho : o.op = .call { callee := .builtin .len, args := #[.tmp t], argTypes := #[T] }) (hT : T = 31 ∨ T = 32) (h : a'.tmps.getD t undef = .slice q n c) : (execOp a'.eval o).run Try.prog w' = .ok (.value (.int .i64 (n : Int))) w' := by
  have he : a'.eval (.tmp t) = .slice q n c := h
  unfold execOp
  simp only [ho]
  generalize a'.eval = r at *
  rcases hT with rfl | rfl <;> simp [he, go_sem, resolve, invoke, builtin]
theorem ld31 {b k : Nat} {q : Option Addr} {n c : Nat} {w : World} (h : w.cell? ⟨b, k, none⟩ = some (.slice q n c)) : (Instr.loadAt 31 (.pointer (some ⟨b, k, none⟩))).run Try.prog w = .ok (.slice q n c) w := by simp [go_sem, h]
end
end Go.Proofs.Ytchoiioeeepoaaa.V19
