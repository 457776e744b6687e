/- Regions that draw their order, one operation of which turns a map, with others behind it. -/
import Derived.Test.YtchoiioeeepoaaaV19FkA
import Derived.Test.YtchoiioeeepoaaaV19Rg
import Derived.Test.YtchoiioeeepoaaaV19Ll
namespace Go.Proofs.Ytchoiioeeepoaaa.V19
open Go.RowKit C8 E9 F17
/-- Ahead of operation n all that stood is as it was; behind it R holds; what must have been ahead of what. -/
def Tm (n : Nat) (W0 : World) (R : World → Prop) (ls : List (Nat × Nat)) (f : Nat → Bool) (_ : Act) (w : World) : Prop := (f n = false → Bm W0 w) ∧ (f n = true → R w) ∧ ∀ x ∈ ls, f x.1 = true → f x.2 = true
section
variable {ops : Array Oper} {Q : Exit → Act → World → Prop} {V : Nat → Value → World → Prop} {f : Nat → Bool} {i : Nat} {o : Oper} {a' : Act} {w' : World} {n : Nat} {W0 : World} {R : World → Prop} {ls : List (Nat × Nat)}
theorem Tm.pairs {a : Act} (hS : Tm n W0 R ls f a w') (hp : ∀ x ∈ ls, i = x.1 → f x.2 = true) : ∀ x ∈ ls, (if x.1 = i then true else f x.1) = true → (if x.2 = i then true else f x.2) = true := fun x hx h => by
  by_cases e2 : x.2 = i
  · simp [e2]
  · rw [if_neg e2]
    by_cases e1 : x.1 = i
    · exact hp x hx e1.symm
    · rw [if_neg e1] at h
      exact hS.2.2 x hx h
theorem Tm.step {w2 : World} {a2 : Act} (K : ∀ u u', R u → Bm u u' → R u') (hn : i ≠ n) (hp : ∀ x ∈ ls, i = x.1 → f x.2 = true) (hS : Tm n W0 R ls f a' w') (hb : Bm w' w2) : Tm n W0 R ls (fun j => if j = i then true else f j) a2 w2 := by
  refine ⟨fun h => ?_, fun h => ?_, hS.pairs hp⟩
  · simp only [if_neg hn.symm] at h
    have h1 := hS.1 h
    exact Below.trans h1 (Below.mono hb (Below.size h1))
  · simp only [if_neg hn.symm] at h
    exact K _ _ (hS.2.1 h) hb
theorem rt_value {P : Program} (K : ∀ u u', R u → Bm u u' → R u') (v : Value) (hi : ops[i]? = some o) (hw : Region.wanted o (yielded ops a'.tmps) = true) (hr : (execOp a'.eval o).run P w' = .ok (.value v) w') (hn : i ≠ n) (hp : ∀ x ∈ ls, i = x.1 → f x.2 = true) (hS : Tm n W0 R ls f a' w') (hv : V i v w') :
    wpOp P ops Q i (fun a'' w2 => Rows w' w2 ∧ Tm n W0 R ls (fun j => if j = i then true else f j) a'' w2 ∧ ∃ v, a'' = a'.put o.dst v ∧ V i v w2) a' w' :=
  wpOp_value v hi hw hr ⟨fun _ _ h => h, hS.step K hn hp (Below.refl _ _), v, rfl, hv⟩
theorem rt_skip {P : Program} (K : ∀ u u', R u → Bm u u' → R u') (hi : ops[i]? = some o) (hw : Region.wanted o (yielded ops a'.tmps) = false) (hn : i ≠ n) (hp : ∀ x ∈ ls, i = x.1 → f x.2 = true) (hS : Tm n W0 R ls f a' w') (hv : V i undef w') :
    wpOp P ops Q i (fun a'' w2 => Rows w' w2 ∧ Tm n W0 R ls (fun j => if j = i then true else f j) a'' w2 ∧ ∃ v, a'' = a'.put o.dst v ∧ V i v w2) a' w' := by
  unfold wpOp
  simp only [hi, hw]
  exact ⟨fun _ _ h => h, hS.step K hn hp (Below.refl _ _), undef, rfl, hv⟩
theorem rt_quiet {P : Program} (K : ∀ u u', R u → Bm u u' → R u') (fn : FuncId) (args : Array Value) (hi : ops[i]? = some o) (hw : Region.wanted o (yielded ops a'.tmps) = true) (hr : (execOp a'.eval o).run P w' = .ok (.enter fn args) w') (hn : i ≠ n) (hp : ∀ x ∈ ls, i = x.1 → f x.2 = true) (hS : Tm n W0 R ls f a' w')
    (h : Calls P fn args w' fun e w2 => ∃ v, e = .returned v ∧ Below w'.heap.size w' w2 ∧ V i v w2) :
    wpOp P ops Q i (fun a'' w2 => Rows w' w2 ∧ Tm n W0 R ls (fun j => if j = i then true else f j) a'' w2 ∧ ∃ v, a'' = a'.put o.dst v ∧ V i v w2) a' w' :=
  wpOp_call fn args hi hw hr (h.mono fun _ _ ⟨v, he, hb, hv⟩ => ⟨v, he, Rows.below hb, hS.step K hn hp hb, v, rfl, hv⟩)
theorem rt_turn {P : Program} (fn : FuncId) (args : Array Value) (hi : ops[i]? = some o) (hw : Region.wanted o (yielded ops a'.tmps) = true) (hr : (execOp a'.eval o).run P w' = .ok (.enter fn args) w') (hn : i = n) (hf : f i = false) (hp : ∀ x ∈ ls, i = x.1 → f x.2 = true) (hS : Tm n W0 R ls f a' w')
    (h : Bm W0 w' → Calls P fn args w' fun e w2 => ∃ v, e = .returned v ∧ Rows w' w2 ∧ R w2 ∧ V i v w2) :
    wpOp P ops Q i (fun a'' w2 => Rows w' w2 ∧ Tm n W0 R ls (fun j => if j = i then true else f j) a'' w2 ∧ ∃ v, a'' = a'.put o.dst v ∧ V i v w2) a' w' :=
  wpOp_call fn args hi hw hr ((h (hS.1 (by rw [← hn]; exact hf))).mono fun _ _ ⟨v, he, hg, hR, hv⟩ => ⟨v, he, hg, ⟨fun h => by simp [hn] at h, fun _ => hR, hS.pairs hp⟩, v, rfl, hv⟩)
theorem gtrE_run (s : Tmp) (x y : Int) (ho : o.op = .binOp .gtr 3 (.tmp s) (.const (.int .i64 y)) 3) (h0 : a'.tmps.getD s undef = .int .i64 x) : (execOp a'.eval o).run Try.prog w' = .ok (.value (.bool (decide (y < x)))) w' := by
  have he : a'.eval (.tmp s) = .int .i64 x := h0
  have hf : a'.eval (.const (.int .i64 y)) = .int .i64 y := rfl
  unfold execOp
  simp only [ho]
  rw [he, hf]
  simp [go_sem]
end
section
variable {w W : World} {p b m : Nat} {M : St} {R : List (Option Addr × Ls)}
theorem Sk.fork (h : Sk w W p b m M R) {nn : Int} (hnn : In64 nn) (hm : m ≤ 1152921504606846976) :
    Calls Try.prog 16 #[.pointer (some ⟨p, 0, none⟩), .int .i64 nn] W fun e w' => ∃ er, e = .returned (.int .i64 er) ∧ Hid ((nn < 0 → er = 12 ∧ Sk w w' p b m M R) ∧ (0 ≤ nn → er = 0 ∧ Sk w w' p b (m + m) (forkM nn M) R) ∧ Rows W w') := by
  refine (Fork_any p b m M nn W h.sv.at_ hm hnn h.sv.ok).mono ?_
  rintro e w' (⟨h1, rfl, rfl⟩ | ⟨h1, rfl, h2, h3⟩)
  · exact ⟨12, rfl, fun _ => ⟨rfl, h⟩, fun h2 => by omega, fun _ _ r => r⟩
  · refine ⟨0, rfl, fun h2 => by omega, fun _ => ⟨rfl, ⟨h2, h.sv.bel.trans (h3.below h.sv.bel.size (by simpa using h.sv.ltb)), h.sv.ltb, ok_fork h.sv.ok nn⟩, fun r hr => row_off (h.rows r hr) h3 h.sv.at_.isMap⟩, fun q l r => row_off r h3 h.sv.at_.isMap⟩
end
end Go.Proofs.Ytchoiioeeepoaaa.V19
