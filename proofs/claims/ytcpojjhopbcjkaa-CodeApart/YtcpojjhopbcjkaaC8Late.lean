/- Regions that draw their order, read a slot, and set it last. -/
import Derived.Test.YtcpojjhopbcjkaaSt2
import Derived.Test.YtcpojjhopbcjkaaC8St
namespace Go.Proofs.Ytcpojjhopbcjkaa.C8
open Go.RowKit
/-- Till the operation n has been, the slot t is as it was; ahead of it the operation 0 has been. -/
def LateS (n t : Nat) (x : Value) (f : Nat → Bool) (a : Act) (_ : World) : Prop := (f n = true → f 0 = true) ∧ (f n = false → a.tmps.getD t undef = x)
theorem LateS.start {n t : Nat} {x : Value} {a : Act} {w : World} (h : a.tmps.getD t undef = x) : LateS n t x (fun _ => false) a w := ⟨(fun h => by cases h), fun _ => h⟩
section
variable {P : Program} {ops : Array Oper} {Q : Exit → Act → World → Prop} {V : Nat → Value → World → Prop} {bs : List Nat} {f : Nat → Bool} {n t : Nat} {x : Value} {i : Nat} {o : Oper} {a' : Act} {w' : World}
theorem LateS.here (h : LateS n t x f a' w') (h0 : f 0 = false) : a'.tmps.getD t undef = x := h.2 (by
  cases hf : f n with
  | false => rfl
  | true => have := h.1 hf; rw [h0] at this; cases this)
theorem LateS.step (h : LateS n t x f a' w') (hn : i ≠ n) (d : Option Tmp) (hd : d ≠ some t) (v : Value) (w2 : World) : LateS n t x (fun j => if j = i then true else f j) (a'.put d v) w2 := by
  refine ⟨fun h1 => ?_, fun h1 => ?_⟩
  · have h2 : f n = true := by simpa [Ne.symm hn] using h1
    show (if 0 = i then true else f 0) = true
    split
    · rfl
    · exact h.1 h2
  · have h2 : f n = false := by simpa [Ne.symm hn] using h1
    rw [getD_put _ _ _ _ hd]
    exact h.2 h2
theorem lt_value (v : Value) (hi : ops[i]? = some o) (hw : Region.wanted o (yielded ops a'.tmps) = true) (hr : (execOp a'.eval o).run P w' = .ok (.value v) w') (hS : LateS n t x f a' w') (hn : i ≠ n) (hd : o.dst ≠ some t) (hv : V i v w') :
    wpOp P ops Q i (fun a'' w2 => Only bs w' w2 ∧ LateS n t x (fun j => if j = i then true else f j) a'' w2 ∧ ∃ v, a'' = a'.put o.dst v ∧ V i v w2) a' w' :=
  wpOp_value v hi hw hr ⟨Only.refl _ _, hS.step hn _ hd _ _, v, rfl, hv⟩
theorem lt_skip (hi : ops[i]? = some o) (hw : Region.wanted o (yielded ops a'.tmps) = false) (hS : LateS n t x f a' w') (hn : i ≠ n) (hd : o.dst ≠ some t) (hv : V i undef w') :
    wpOp P ops Q i (fun a'' w2 => Only bs w' w2 ∧ LateS n t x (fun j => if j = i then true else f j) a'' w2 ∧ ∃ v, a'' = a'.put o.dst v ∧ V i v w2) a' w' := by
  unfold wpOp
  simp only [hi, hw]
  exact ⟨Only.refl _ _, hS.step hn _ hd _ _, undef, rfl, hv⟩
theorem lt_last (v : Value) (hi : ops[n]? = some o) (hw : Region.wanted o (yielded ops a'.tmps) = true) (hr : (execOp a'.eval o).run P w' = .ok (.value v) w') (h0 : f 0 = true) (hn : 0 ≠ n) (hv : V n v w') :
    wpOp P ops Q n (fun a'' w2 => Only bs w' w2 ∧ LateS n t x (fun j => if j = n then true else f j) a'' w2 ∧ ∃ v, a'' = a'.put o.dst v ∧ V n v w2) a' w' :=
  wpOp_value v hi hw hr ⟨Only.refl _ _, ⟨fun _ => by show (if 0 = n then true else f 0) = true; rw [if_neg hn]; exact h0, fun h => by simp at h⟩, v, rfl, hv⟩
end
theorem idx22_run {o : Oper} {a' : Act} {w' : World} (t u : Tmp) (b of n c j : Nat) (ho : o.op = .indexAddr 22 (.tmp t) (.tmp u)) (h0 : a'.tmps.getD t undef = .slice (some ⟨b, of, none⟩) n c) (h1 : a'.tmps.getD u undef = .int .i64 (j : Int)) (hj : j < n) :
    (execOp a'.eval o).run Try.prog w' = .ok (.value (.pointer (some ⟨b, of + j * 3, none⟩))) w' := by
  have he : a'.eval (.tmp t) = .slice (some ⟨b, of, none⟩) n c := h0
  have hc : a'.eval (.tmp u) = .int .i64 (j : Int) := h1
  have h2 : (j : Int) < (n : Int) := by omega
  unfold execOp
  simp only [ho]
  rw [he, hc]
  simp [go_sem, h2]
theorem fo_run {o : Oper} {a' : Act} {w' : World} (T : TypeId) (k : Nat) (t : Tmp) (b of : Nat) (ho : o.op = .fieldAddr T (.tmp t) k) (h0 : a'.tmps.getD t undef = .pointer (some ⟨b, of, none⟩)) (hf : ∀ w : World, (Instr.fieldAt T (.pointer (some ⟨b, of, none⟩)) k).run Try.prog w = .ok (.pointer (some ⟨b, of + k, none⟩)) w) :
    (execOp a'.eval o).run Try.prog w' = .ok (.value (.pointer (some ⟨b, of + k, none⟩))) w' := by
  have he : a'.eval (.tmp t) = .pointer (some ⟨b, of, none⟩) := h0
  unfold execOp
  simp only [ho]
  rw [he]
  simp [hf, Result.andThen]
theorem fo30_0 (b o : Nat) (w : World) : (Instr.fieldAt 30 (.pointer (some ⟨b, o, none⟩)) 0).run Try.prog w = .ok (.pointer (some ⟨b, o + 0, none⟩)) w := by simp [go_sem]
theorem fo30_1 (b o : Nat) (w : World) : (Instr.fieldAt 30 (.pointer (some ⟨b, o, none⟩)) 1).run Try.prog w = .ok (.pointer (some ⟨b, o + 1, none⟩)) w := by simp [go_sem]
theorem fo30_2 (b o : Nat) (w : World) : (Instr.fieldAt 30 (.pointer (some ⟨b, o, none⟩)) 2).run Try.prog w = .ok (.pointer (some ⟨b, o + 2, none⟩)) w := by simp [go_sem]
theorem eqlS_run {o : Oper} {a' : Act} {w' : World} (s t : Tmp) (x y : ByteArray) (ho : o.op = .binOp .eql 9 (.tmp s) (.tmp t) 9) (h0 : a'.tmps.getD s undef = .string x) (h1 : a'.tmps.getD t undef = .string y) : (execOp a'.eval o).run Try.prog w' = .ok (.value (.bool (x.toList == y.toList))) w' := by
  have he : a'.eval (.tmp s) = .string x := h0
  have hc : a'.eval (.tmp t) = .string y := h1
  unfold execOp
  simp only [ho]
  rw [he, hc]
  simp [go_sem]
end Go.Proofs.Ytcpojjhopbcjkaa.C8
