/- The tables of the drawn region of PolicyForms. -/
import Derived.Test.YtmlnbbggfjgacaaP10Pf0
namespace Go.Proofs.Ytmlnbbggfjgacaa.P10
open Go.RowKit C8 E9
/-- Till the operation n has been, the slot t is as it was; ahead of it the operation 0 has been. -/
def LateS (n t : Nat) (x : Value) (f : Nat → Bool) (a : Act) (_ : World) : Prop := (f n = true → f 0 = true) ∧ (f n = false → a.tmps.getD t undef = x)
theorem LateS.start {n t : Nat} {x : Value} {a : Act} {w : World} (h : a.tmps.getD t undef = x) : LateS n t x (fun _ => false) a w := ⟨(fun h => by cases h), fun _ => h⟩
section
variable {P : Program} {ops : Array Oper} {Q : Exit → Act → World → Prop} {V : Nat → Value → World → Prop} {bs : List Nat} {f : Nat → Bool} {n t : Nat} {x : Value} {i : Nat} {o : Oper} {a' : Act} {w' : World}
theorem LateS.here (h : LateS n t x f a' w') (h0 : f 0 = false) : a'.tmps.getD t undef = x := h.2 (by
  cases hf : f n with
  | false => rfl
  | true => have := h.1 hf; rw [h0] at this; cases this)
theorem LateS.step (h : LateS n t x f a' w') (hn : i ≠ n) (d : Option Tmp) (hd : d ≠ some t) (v : Value) (w2 : World) : LateS n t x (fun j => if j = i then true else f j) (a'.put d v) w2 := by
  refine ⟨fun h1 => ?_, fun h1 => ?_⟩
  · have h2 : f n = true := by simpa [Ne.symm hn] using h1
    show (if 0 = i then true else f 0) = true
    split
    · rfl
    · exact h.1 h2
  · have h2 : f n = false := by simpa [Ne.symm hn] using h1
    rw [getD_put _ _ _ _ hd]
    exact h.2 h2
theorem lt_value (v : Value) (hi : ops[i]? = some o) (hw : Region.wanted o (yielded ops a'.tmps) = true) (hr : (execOp a'.eval o).run P w' = .ok (.value v) w') (hS : LateS n t x f a' w') (hn : i ≠ n) (hd : o.dst ≠ some t) (hv : V i v w') :
    wpOp P ops Q i (fun a'' w2 => Only bs w' w2 ∧ LateS n t x (fun j => if j = i then true else f j) a'' w2 ∧ ∃ v, a'' = a'.put o.dst v ∧ V i v w2) a' w' :=
  wpOp_value v hi hw hr ⟨Only.refl _ _, hS.step hn _ hd _ _, v, rfl, hv⟩
theorem lt_skip (hi : ops[i]? = some o) (hw : Region.wanted o (yielded ops a'.tmps) = false) (hS : LateS n t x f a' w') (hn : i ≠ n) (hd : o.dst ≠ some t) (hv : V i undef w') :
    wpOp P ops Q i (fun a'' w2 => Only bs w' w2 ∧ LateS n t x (fun j => if j = i then true else f j) a'' w2 ∧ ∃ v, a'' = a'.put o.dst v ∧ V i v w2) a' w' := by
  unfold wpOp
  simp only [hi, hw]
  exact ⟨Only.refl _ _, hS.step hn _ hd _ _, undef, rfl, hv⟩
theorem lt_last (v : Value) (hi : ops[n]? = some o) (hw : Region.wanted o (yielded ops a'.tmps) = true) (hr : (execOp a'.eval o).run P w' = .ok (.value v) w') (h0 : f 0 = true) (hn : 0 ≠ n) (hv : V n v w') :
    wpOp P ops Q n (fun a'' w2 => Only bs w' w2 ∧ LateS n t x (fun j => if j = n then true else f j) a'' w2 ∧ ∃ v, a'' = a'.put o.dst v ∧ V n v w2) a' w' :=
  wpOp_value v hi hw hr ⟨Only.refl _ _, ⟨fun _ => by show (if 0 = n then true else f 0) = true; rw [if_neg hn]; exact h0, fun h => by simp at h⟩, v, rfl, hv⟩
end
theorem geqK_run {o : Oper} {a' : Act} {w' : World} (s : Tmp) (x y : Int) (ho : o.op = .binOp .geq 3 (.tmp s) (.const (.int .i64 y)) 3) (h0 : a'.tmps.getD s undef = .int .i64 x) : (execOp a'.eval o).run Try.prog w' = .ok (.value (.bool (decide (y ≤ x)))) w' := by
  have he : a'.eval (.tmp s) = .int .i64 x := h0
  have hf : a'.eval (.const (.int .i64 y)) = .int .i64 y := rfl
  unfold execOp
  simp only [ho]
  rw [he, hf]
  simp [go_sem]
theorem leqK_run {o : Oper} {a' : Act} {w' : World} (s : Tmp) (x y : Int) (ho : o.op = .binOp .leq 3 (.tmp s) (.const (.int .i64 y)) 3) (h0 : a'.tmps.getD s undef = .int .i64 x) : (execOp a'.eval o).run Try.prog w' = .ok (.value (.bool (decide (x ≤ y)))) w' := by
  have he : a'.eval (.tmp s) = .int .i64 x := h0
  have hf : a'.eval (.const (.int .i64 y)) = .int .i64 y := rfl
  unfold execOp
  simp only [ho]
  rw [he, hf]
  simp [go_sem]
theorem eqlK_run {o : Oper} {a' : Act} {w' : World} (s : Tmp) (x y : Int) (ho : o.op = .binOp .eql 3 (.tmp s) (.const (.int .i64 y)) 3) (h0 : a'.tmps.getD s undef = .int .i64 x) : (execOp a'.eval o).run Try.prog w' = .ok (.value (.bool (x == y))) w' := by
  have he : a'.eval (.tmp s) = .int .i64 x := h0
  have hf : a'.eval (.const (.int .i64 y)) = .int .i64 y := rfl
  unfold execOp
  simp only [ho]
  rw [he, hf]
  simp [go_sem]
theorem gtrN_run {o : Oper} {a' : Act} {w' : World} (s t : Tmp) (x y : Int) (ho : o.op = .binOp .gtr 3 (.tmp s) (.tmp t) 3) (h0 : a'.tmps.getD s undef = .int .i64 x) (h1 : a'.tmps.getD t undef = .int .i64 y) : (execOp a'.eval o).run Try.prog w' = .ok (.value (.bool (decide (y < x)))) w' := by
  have he : a'.eval (.tmp s) = .int .i64 x := h0
  have hf : a'.eval (.tmp t) = .int .i64 y := h1
  unfold execOp
  simp only [ho]
  rw [he, hf]
  simp [go_sem]
theorem idx24_run {o : Oper} {a' : Act} {w' : World} (t u : Tmp) (b of n c j : Nat) (ho : o.op = .indexAddr 24 (.tmp t) (.tmp u)) (h0 : a'.tmps.getD t undef = .slice (some ⟨b, of, none⟩) n c) (h1 : a'.tmps.getD u undef = .int .i64 (j : Int)) (hj : j < n) :
    (execOp a'.eval o).run Try.prog w' = .ok (.value (.pointer (some ⟨b, of + j * 2, none⟩))) w' := by
  have he : a'.eval (.tmp t) = .slice (some ⟨b, of, none⟩) n c := h0
  have hc : a'.eval (.tmp u) = .int .i64 (j : Int) := h1
  have h2 : (j : Int) < (n : Int) := by omega
  unfold execOp
  simp only [ho]
  rw [he, hc]
  simp [go_sem, h2]
theorem fo50_0 (b o : Nat) (w : World) : (Instr.fieldAt 50 (.pointer (some ⟨b, o, none⟩)) 0).run Try.prog w = .ok (.pointer (some ⟨b, o + 0, none⟩)) w := by simp [go_sem]
theorem fa50_0 (b : Nat) (w : World) : (Instr.fieldAt 50 (.pointer (some ⟨b, 0, none⟩)) 0).run Try.prog w = .ok (.pointer (some ⟨b, 0, none⟩)) w := by simp [go_sem]
theorem fa50_1 (b : Nat) (w : World) : (Instr.fieldAt 50 (.pointer (some ⟨b, 0, none⟩)) 1).run Try.prog w = .ok (.pointer (some ⟨b, 1, none⟩)) w := by simp [go_sem]
def pf0  : Nat → Value → World → Prop
  | 0 => IsV (.bool false)
  | 1 => IsV (.bool false)
  | 2 => IsV undef
  | 3 => IsV undef
  | 4 => IsV undef
  | 5 => IsV (.bool false)
  | 6 => IsV (.bool false)
  | 7 => IsV undef
  | 8 => IsV undef
  | 9 => IsV undef
  | 10 => IsV (.bool false)
  | 11 => IsV (.bool false)
  | 12 => IsV undef
  | 13 => IsV undef
  | 14 => IsV undef
  | 15 => IsV (.bool false)
  | 16 => IsV (.bool false)
  | 17 => IsV undef
  | 18 => IsV undef
  | 19 => IsV undef
  | 20 => IsV (.bool false)
  | 21 => IsV (.bool false)
  | 22 => IsV undef
  | 23 => IsV undef
  | 24 => IsV undef
  | 25 => IsV undef
  | 26 => IsV undef
  | 27 => IsV undef
  | 28 => IsV undef
  | 29 => IsV undef
  | 30 => IsV undef
  | 31 => IsV undef
  | 32 => IsV undef
  | 33 => IsV undef
  | 34 => IsV undef
  | 35 => IsV undef
  | 36 => IsV (.bool false)
  | 37 => IsV (.bool false)
  | _ => fun _ _ => True
theorem pf0_kept  : ∀ i v w w', pf0  i v w → Only [] w w' → pf0  i v w'
  | 0, _, _, _, h, _ => h
  | 1, _, _, _, h, _ => h
  | 2, _, _, _, h, _ => h
  | 3, _, _, _, h, _ => h
  | 4, _, _, _, h, _ => h
  | 5, _, _, _, h, _ => h
  | 6, _, _, _, h, _ => h
  | 7, _, _, _, h, _ => h
  | 8, _, _, _, h, _ => h
  | 9, _, _, _, h, _ => h
  | 10, _, _, _, h, _ => h
  | 11, _, _, _, h, _ => h
  | 12, _, _, _, h, _ => h
  | 13, _, _, _, h, _ => h
  | 14, _, _, _, h, _ => h
  | 15, _, _, _, h, _ => h
  | 16, _, _, _, h, _ => h
  | 17, _, _, _, h, _ => h
  | 18, _, _, _, h, _ => h
  | 19, _, _, _, h, _ => h
  | 20, _, _, _, h, _ => h
  | 21, _, _, _, h, _ => h
  | 22, _, _, _, h, _ => h
  | 23, _, _, _, h, _ => h
  | 24, _, _, _, h, _ => h
  | 25, _, _, _, h, _ => h
  | 26, _, _, _, h, _ => h
  | 27, _, _, _, h, _ => h
  | 28, _, _, _, h, _ => h
  | 29, _, _, _, h, _ => h
  | 30, _, _, _, h, _ => h
  | 31, _, _, _, h, _ => h
  | 32, _, _, _, h, _ => h
  | 33, _, _, _, h, _ => h
  | 34, _, _, _, h, _ => h
  | 35, _, _, _, h, _ => h
  | 36, _, _, _, h, _ => h
  | 37, _, _, _, h, _ => h
  | _ + 38, _, _, _, _, _ => trivial
def pf1 (b8 : Nat) (who : Int) : Nat → Value → World → Prop
  | 0 => IsV (.bool true)
  | 1 => IsV (.bool true)
  | 2 => IsV (.pointer (some ⟨b8, 0, none⟩))
  | 3 => IsV (.int .i64 who)
  | 4 => IsV (.bool false)
  | 5 => IsV (.bool false)
  | 6 => IsV (.bool false)
  | 7 => IsV undef
  | 8 => IsV undef
  | 9 => IsV undef
  | 10 => IsV (.bool false)
  | 11 => IsV (.bool false)
  | 12 => IsV undef
  | 13 => IsV undef
  | 14 => IsV undef
  | 15 => IsV (.bool false)
  | 16 => IsV (.bool false)
  | 17 => IsV undef
  | 18 => IsV undef
  | 19 => IsV undef
  | 20 => IsV (.bool false)
  | 21 => IsV (.bool false)
  | 22 => IsV undef
  | 23 => IsV undef
  | 24 => IsV undef
  | 25 => IsV undef
  | 26 => IsV undef
  | 27 => IsV undef
  | 28 => IsV undef
  | 29 => IsV undef
  | 30 => IsV undef
  | 31 => IsV undef
  | 32 => IsV undef
  | 33 => IsV undef
  | 34 => IsV undef
  | 35 => IsV undef
  | 36 => IsV (.bool false)
  | 37 => IsV (.bool false)
  | _ => fun _ _ => True
theorem pf1_kept (b8 : Nat) (who : Int) : ∀ i v w w', pf1 b8 who i v w → Only [] w w' → pf1 b8 who i v w'
  | 0, _, _, _, h, _ => h
  | 1, _, _, _, h, _ => h
  | 2, _, _, _, h, _ => h
  | 3, _, _, _, h, _ => h
  | 4, _, _, _, h, _ => h
  | 5, _, _, _, h, _ => h
  | 6, _, _, _, h, _ => h
  | 7, _, _, _, h, _ => h
  | 8, _, _, _, h, _ => h
  | 9, _, _, _, h, _ => h
  | 10, _, _, _, h, _ => h
  | 11, _, _, _, h, _ => h
  | 12, _, _, _, h, _ => h
  | 13, _, _, _, h, _ => h
  | 14, _, _, _, h, _ => h
  | 15, _, _, _, h, _ => h
  | 16, _, _, _, h, _ => h
  | 17, _, _, _, h, _ => h
  | 18, _, _, _, h, _ => h
  | 19, _, _, _, h, _ => h
  | 20, _, _, _, h, _ => h
  | 21, _, _, _, h, _ => h
  | 22, _, _, _, h, _ => h
  | 23, _, _, _, h, _ => h
  | 24, _, _, _, h, _ => h
  | 25, _, _, _, h, _ => h
  | 26, _, _, _, h, _ => h
  | 27, _, _, _, h, _ => h
  | 28, _, _, _, h, _ => h
  | 29, _, _, _, h, _ => h
  | 30, _, _, _, h, _ => h
  | 31, _, _, _, h, _ => h
  | 32, _, _, _, h, _ => h
  | 33, _, _, _, h, _ => h
  | 34, _, _, _, h, _ => h
  | 35, _, _, _, h, _ => h
  | 36, _, _, _, h, _ => h
  | 37, _, _, _, h, _ => h
  | _ + 38, _, _, _, _, _ => trivial
def pf2 (b8 : Nat) (who : Int) : Nat → Value → World → Prop
  | 0 => IsV (.bool true)
  | 1 => IsV (.bool true)
  | 2 => IsV (.pointer (some ⟨b8, 0, none⟩))
  | 3 => IsV (.int .i64 who)
  | 4 => IsV (.bool true)
  | 5 => IsV (.bool true)
  | 6 => IsV (.bool true)
  | 7 => IsV (.pointer (some ⟨b8, 0, none⟩))
  | 8 => IsV (.int .i64 who)
  | 9 => IsV (.bool false)
  | 10 => IsV (.bool false)
  | 11 => IsV (.bool false)
  | 12 => IsV undef
  | 13 => IsV undef
  | 14 => IsV undef
  | 15 => IsV (.bool false)
  | 16 => IsV (.bool false)
  | 17 => IsV undef
  | 18 => IsV undef
  | 19 => IsV undef
  | 20 => IsV (.bool false)
  | 21 => IsV (.bool false)
  | 22 => IsV undef
  | 23 => IsV undef
  | 24 => IsV undef
  | 25 => IsV undef
  | 26 => IsV undef
  | 27 => IsV undef
  | 28 => IsV undef
  | 29 => IsV undef
  | 30 => IsV undef
  | 31 => IsV undef
  | 32 => IsV undef
  | 33 => IsV undef
  | 34 => IsV undef
  | 35 => IsV undef
  | 36 => IsV (.bool false)
  | 37 => IsV (.bool false)
  | _ => fun _ _ => True
theorem pf2_kept (b8 : Nat) (who : Int) : ∀ i v w w', pf2 b8 who i v w → Only [] w w' → pf2 b8 who i v w'
  | 0, _, _, _, h, _ => h
  | 1, _, _, _, h, _ => h
  | 2, _, _, _, h, _ => h
  | 3, _, _, _, h, _ => h
  | 4, _, _, _, h, _ => h
  | 5, _, _, _, h, _ => h
  | 6, _, _, _, h, _ => h
  | 7, _, _, _, h, _ => h
  | 8, _, _, _, h, _ => h
  | 9, _, _, _, h, _ => h
  | 10, _, _, _, h, _ => h
  | 11, _, _, _, h, _ => h
  | 12, _, _, _, h, _ => h
  | 13, _, _, _, h, _ => h
  | 14, _, _, _, h, _ => h
  | 15, _, _, _, h, _ => h
  | 16, _, _, _, h, _ => h
  | 17, _, _, _, h, _ => h
  | 18, _, _, _, h, _ => h
  | 19, _, _, _, h, _ => h
  | 20, _, _, _, h, _ => h
  | 21, _, _, _, h, _ => h
  | 22, _, _, _, h, _ => h
  | 23, _, _, _, h, _ => h
  | 24, _, _, _, h, _ => h
  | 25, _, _, _, h, _ => h
  | 26, _, _, _, h, _ => h
  | 27, _, _, _, h, _ => h
  | 28, _, _, _, h, _ => h
  | 29, _, _, _, h, _ => h
  | 30, _, _, _, h, _ => h
  | 31, _, _, _, h, _ => h
  | 32, _, _, _, h, _ => h
  | 33, _, _, _, h, _ => h
  | 34, _, _, _, h, _ => h
  | 35, _, _, _, h, _ => h
  | 36, _, _, _, h, _ => h
  | 37, _, _, _, h, _ => h
  | _ + 38, _, _, _, _, _ => trivial
def pf3 (b8 : Nat) (who : Int) (ri : Int) : Nat → Value → World → Prop
  | 0 => IsV (.bool true)
  | 1 => IsV (.bool true)
  | 2 => IsV (.pointer (some ⟨b8, 0, none⟩))
  | 3 => IsV (.int .i64 who)
  | 4 => IsV (.bool true)
  | 5 => IsV (.bool true)
  | 6 => IsV (.bool true)
  | 7 => IsV (.pointer (some ⟨b8, 0, none⟩))
  | 8 => IsV (.int .i64 who)
  | 9 => IsV (.bool true)
  | 10 => IsV (.bool true)
  | 11 => IsV (.bool true)
  | 12 => IsV (.pointer (some ⟨b8, 1, none⟩))
  | 13 => IsV (.int .i64 ri)
  | 14 => IsV (.bool false)
  | 15 => IsV (.bool false)
  | 16 => IsV (.bool false)
  | 17 => IsV undef
  | 18 => IsV undef
  | 19 => IsV undef
  | 20 => IsV (.bool false)
  | 21 => IsV (.bool false)
  | 22 => IsV undef
  | 23 => IsV undef
  | 24 => IsV undef
  | 25 => IsV undef
  | 26 => IsV undef
  | 27 => IsV undef
  | 28 => IsV undef
  | 29 => IsV undef
  | 30 => IsV undef
  | 31 => IsV undef
  | 32 => IsV undef
  | 33 => IsV undef
  | 34 => IsV undef
  | 35 => IsV undef
  | 36 => IsV (.bool false)
  | 37 => IsV (.bool false)
  | _ => fun _ _ => True
theorem pf3_kept (b8 : Nat) (who : Int) (ri : Int) : ∀ i v w w', pf3 b8 who ri i v w → Only [] w w' → pf3 b8 who ri i v w'
  | 0, _, _, _, h, _ => h
  | 1, _, _, _, h, _ => h
  | 2, _, _, _, h, _ => h
  | 3, _, _, _, h, _ => h
  | 4, _, _, _, h, _ => h
  | 5, _, _, _, h, _ => h
  | 6, _, _, _, h, _ => h
  | 7, _, _, _, h, _ => h
  | 8, _, _, _, h, _ => h
  | 9, _, _, _, h, _ => h
  | 10, _, _, _, h, _ => h
  | 11, _, _, _, h, _ => h
  | 12, _, _, _, h, _ => h
  | 13, _, _, _, h, _ => h
  | 14, _, _, _, h, _ => h
  | 15, _, _, _, h, _ => h
  | 16, _, _, _, h, _ => h
  | 17, _, _, _, h, _ => h
  | 18, _, _, _, h, _ => h
  | 19, _, _, _, h, _ => h
  | 20, _, _, _, h, _ => h
  | 21, _, _, _, h, _ => h
  | 22, _, _, _, h, _ => h
  | 23, _, _, _, h, _ => h
  | 24, _, _, _, h, _ => h
  | 25, _, _, _, h, _ => h
  | 26, _, _, _, h, _ => h
  | 27, _, _, _, h, _ => h
  | 28, _, _, _, h, _ => h
  | 29, _, _, _, h, _ => h
  | 30, _, _, _, h, _ => h
  | 31, _, _, _, h, _ => h
  | 32, _, _, _, h, _ => h
  | 33, _, _, _, h, _ => h
  | 34, _, _, _, h, _ => h
  | 35, _, _, _, h, _ => h
  | 36, _, _, _, h, _ => h
  | 37, _, _, _, h, _ => h
  | _ + 38, _, _, _, _, _ => trivial
def pf4 (b8 : Nat) (who : Int) (ri : Int) : Nat → Value → World → Prop
  | 0 => IsV (.bool true)
  | 1 => IsV (.bool true)
  | 2 => IsV (.pointer (some ⟨b8, 0, none⟩))
  | 3 => IsV (.int .i64 who)
  | 4 => IsV (.bool true)
  | 5 => IsV (.bool true)
  | 6 => IsV (.bool true)
  | 7 => IsV (.pointer (some ⟨b8, 0, none⟩))
  | 8 => IsV (.int .i64 who)
  | 9 => IsV (.bool true)
  | 10 => IsV (.bool true)
  | 11 => IsV (.bool true)
  | 12 => IsV (.pointer (some ⟨b8, 1, none⟩))
  | 13 => IsV (.int .i64 ri)
  | 14 => IsV (.bool true)
  | 15 => IsV (.bool true)
  | 16 => IsV (.bool true)
  | 17 => IsV (.pointer (some ⟨b8, 1, none⟩))
  | 18 => IsV (.int .i64 ri)
  | 19 => IsV (.bool false)
  | 20 => IsV (.bool false)
  | 21 => IsV (.bool false)
  | 22 => IsV undef
  | 23 => IsV undef
  | 24 => IsV undef
  | 25 => IsV undef
  | 26 => IsV undef
  | 27 => IsV undef
  | 28 => IsV undef
  | 29 => IsV undef
  | 30 => IsV undef
  | 31 => IsV undef
  | 32 => IsV undef
  | 33 => IsV undef
  | 34 => IsV undef
  | 35 => IsV undef
  | 36 => IsV (.bool false)
  | 37 => IsV (.bool false)
  | _ => fun _ _ => True
theorem pf4_kept (b8 : Nat) (who : Int) (ri : Int) : ∀ i v w w', pf4 b8 who ri i v w → Only [] w w' → pf4 b8 who ri i v w'
  | 0, _, _, _, h, _ => h
  | 1, _, _, _, h, _ => h
  | 2, _, _, _, h, _ => h
  | 3, _, _, _, h, _ => h
  | 4, _, _, _, h, _ => h
  | 5, _, _, _, h, _ => h
  | 6, _, _, _, h, _ => h
  | 7, _, _, _, h, _ => h
  | 8, _, _, _, h, _ => h
  | 9, _, _, _, h, _ => h
  | 10, _, _, _, h, _ => h
  | 11, _, _, _, h, _ => h
  | 12, _, _, _, h, _ => h
  | 13, _, _, _, h, _ => h
  | 14, _, _, _, h, _ => h
  | 15, _, _, _, h, _ => h
  | 16, _, _, _, h, _ => h
  | 17, _, _, _, h, _ => h
  | 18, _, _, _, h, _ => h
  | 19, _, _, _, h, _ => h
  | 20, _, _, _, h, _ => h
  | 21, _, _, _, h, _ => h
  | 22, _, _, _, h, _ => h
  | 23, _, _, _, h, _ => h
  | 24, _, _, _, h, _ => h
  | 25, _, _, _, h, _ => h
  | 26, _, _, _, h, _ => h
  | 27, _, _, _, h, _ => h
  | 28, _, _, _, h, _ => h
  | 29, _, _, _, h, _ => h
  | 30, _, _, _, h, _ => h
  | 31, _, _, _, h, _ => h
  | 32, _, _, _, h, _ => h
  | 33, _, _, _, h, _ => h
  | 34, _, _, _, h, _ => h
  | 35, _, _, _, h, _ => h
  | 36, _, _, _, h, _ => h
  | 37, _, _, _, h, _ => h
  | _ + 38, _, _, _, _, _ => trivial
def pf5 (b8 : Nat) (kk : Int) (who : Int) (ri : Int) : Nat → Value → World → Prop
  | 0 => IsV (.bool true)
  | 1 => IsV (.bool true)
  | 2 => IsV (.pointer (some ⟨b8, 0, none⟩))
  | 3 => IsV (.int .i64 who)
  | 4 => IsV (.bool true)
  | 5 => IsV (.bool true)
  | 6 => IsV (.bool true)
  | 7 => IsV (.pointer (some ⟨b8, 0, none⟩))
  | 8 => IsV (.int .i64 who)
  | 9 => IsV (.bool true)
  | 10 => IsV (.bool true)
  | 11 => IsV (.bool true)
  | 12 => IsV (.pointer (some ⟨b8, 1, none⟩))
  | 13 => IsV (.int .i64 ri)
  | 14 => IsV (.bool true)
  | 15 => IsV (.bool true)
  | 16 => IsV (.bool true)
  | 17 => IsV (.pointer (some ⟨b8, 1, none⟩))
  | 18 => IsV (.int .i64 ri)
  | 19 => IsV (.bool true)
  | 20 => IsV (.bool true)
  | 21 => IsV (.bool true)
  | 22 => IsV (.int .i64 kk)
  | 23 => IsV (.bool true)
  | 24 => IsV (.bool true)
  | 25 => IsV undef
  | 26 => IsV undef
  | 27 => IsV undef
  | 28 => IsV undef
  | 29 => IsV undef
  | 30 => IsV undef
  | 31 => IsV undef
  | 32 => IsV undef
  | 33 => IsV undef
  | 34 => IsV undef
  | 35 => IsV (.bool true)
  | 36 => IsV (.bool true)
  | 37 => IsV (.bool true)
  | _ => fun _ _ => True
theorem pf5_kept (b8 : Nat) (kk : Int) (who : Int) (ri : Int) : ∀ i v w w', pf5 b8 kk who ri i v w → Only [] w w' → pf5 b8 kk who ri i v w'
  | 0, _, _, _, h, _ => h
  | 1, _, _, _, h, _ => h
  | 2, _, _, _, h, _ => h
  | 3, _, _, _, h, _ => h
  | 4, _, _, _, h, _ => h
  | 5, _, _, _, h, _ => h
  | 6, _, _, _, h, _ => h
  | 7, _, _, _, h, _ => h
  | 8, _, _, _, h, _ => h
  | 9, _, _, _, h, _ => h
  | 10, _, _, _, h, _ => h
  | 11, _, _, _, h, _ => h
  | 12, _, _, _, h, _ => h
  | 13, _, _, _, h, _ => h
  | 14, _, _, _, h, _ => h
  | 15, _, _, _, h, _ => h
  | 16, _, _, _, h, _ => h
  | 17, _, _, _, h, _ => h
  | 18, _, _, _, h, _ => h
  | 19, _, _, _, h, _ => h
  | 20, _, _, _, h, _ => h
  | 21, _, _, _, h, _ => h
  | 22, _, _, _, h, _ => h
  | 23, _, _, _, h, _ => h
  | 24, _, _, _, h, _ => h
  | 25, _, _, _, h, _ => h
  | 26, _, _, _, h, _ => h
  | 27, _, _, _, h, _ => h
  | 28, _, _, _, h, _ => h
  | 29, _, _, _, h, _ => h
  | 30, _, _, _, h, _ => h
  | 31, _, _, _, h, _ => h
  | 32, _, _, _, h, _ => h
  | 33, _, _, _, h, _ => h
  | 34, _, _, _, h, _ => h
  | 35, _, _, _, h, _ => h
  | 36, _, _, _, h, _ => h
  | 37, _, _, _, h, _ => h
  | _ + 38, _, _, _, _, _ => trivial
def pf6 (b8 : Nat) (b2 : Nat) (bm : Nat) (om : Nat) (n : Nat) (c : Nat) (km : Nat) (kk : Int) (who : Int) (ri : Int) (pw : Int) (gb : Bool) : Nat → Value → World → Prop
  | 0 => IsV (.bool true)
  | 1 => IsV (.bool true)
  | 2 => IsV (.pointer (some ⟨b8, 0, none⟩))
  | 3 => IsV (.int .i64 who)
  | 4 => IsV (.bool true)
  | 5 => IsV (.bool true)
  | 6 => IsV (.bool true)
  | 7 => IsV (.pointer (some ⟨b8, 0, none⟩))
  | 8 => IsV (.int .i64 who)
  | 9 => IsV (.bool true)
  | 10 => IsV (.bool true)
  | 11 => IsV (.bool true)
  | 12 => IsV (.pointer (some ⟨b8, 1, none⟩))
  | 13 => IsV (.int .i64 ri)
  | 14 => IsV (.bool true)
  | 15 => IsV (.bool true)
  | 16 => IsV (.bool true)
  | 17 => IsV (.pointer (some ⟨b8, 1, none⟩))
  | 18 => IsV (.int .i64 ri)
  | 19 => IsV (.bool true)
  | 20 => IsV (.bool true)
  | 21 => IsV (.bool true)
  | 22 => IsV (.int .i64 kk)
  | 23 => IsV (.bool false)
  | 24 => IsV (.bool false)
  | 25 => IsV (.pointer (some ⟨b8, 0, none⟩))
  | 26 => IsV (.int .i64 who)
  | 27 => IsV (.pointer (some ⟨b2, 2, none⟩))
  | 28 => IsV (.slice (some ⟨bm, om, none⟩) n c)
  | 29 => IsV (.int .i64 kk)
  | 30 => IsV (.int .i64 (km : Int))
  | 31 => IsV (.pointer (some ⟨bm, om + km * 2, none⟩))
  | 32 => IsV (.pointer (some ⟨bm, om + km * 2 + 0, none⟩))
  | 33 => IsV (.int .i64 pw)
  | 34 => IsV (.bool gb)
  | 35 => IsV (.bool gb)
  | 36 => IsV (.bool gb)
  | 37 => IsV (.bool gb)
  | _ => fun _ _ => True
theorem pf6_kept (b8 : Nat) (b2 : Nat) (bm : Nat) (om : Nat) (n : Nat) (c : Nat) (km : Nat) (kk : Int) (who : Int) (ri : Int) (pw : Int) (gb : Bool) : ∀ i v w w', pf6 b8 b2 bm om n c km kk who ri pw gb i v w → Only [] w w' → pf6 b8 b2 bm om n c km kk who ri pw gb i v w'
  | 0, _, _, _, h, _ => h
  | 1, _, _, _, h, _ => h
  | 2, _, _, _, h, _ => h
  | 3, _, _, _, h, _ => h
  | 4, _, _, _, h, _ => h
  | 5, _, _, _, h, _ => h
  | 6, _, _, _, h, _ => h
  | 7, _, _, _, h, _ => h
  | 8, _, _, _, h, _ => h
  | 9, _, _, _, h, _ => h
  | 10, _, _, _, h, _ => h
  | 11, _, _, _, h, _ => h
  | 12, _, _, _, h, _ => h
  | 13, _, _, _, h, _ => h
  | 14, _, _, _, h, _ => h
  | 15, _, _, _, h, _ => h
  | 16, _, _, _, h, _ => h
  | 17, _, _, _, h, _ => h
  | 18, _, _, _, h, _ => h
  | 19, _, _, _, h, _ => h
  | 20, _, _, _, h, _ => h
  | 21, _, _, _, h, _ => h
  | 22, _, _, _, h, _ => h
  | 23, _, _, _, h, _ => h
  | 24, _, _, _, h, _ => h
  | 25, _, _, _, h, _ => h
  | 26, _, _, _, h, _ => h
  | 27, _, _, _, h, _ => h
  | 28, _, _, _, h, _ => h
  | 29, _, _, _, h, _ => h
  | 30, _, _, _, h, _ => h
  | 31, _, _, _, h, _ => h
  | 32, _, _, _, h, _ => h
  | 33, _, _, _, h, _ => h
  | 34, _, _, _, h, _ => h
  | 35, _, _, _, h, _ => h
  | 36, _, _, _, h, _ => h
  | 37, _, _, _, h, _ => h
  | _ + 38, _, _, _, _, _ => trivial
set_option maxHeartbeats 8000000 in
set_option maxRecDepth 20000 in
theorem frame4_10 {A F : Array Value} (hs : A.size = 130) (h : ∀ t, [5, 48, 49, 50, 51, 52, 53, 54, 55, 56, 57, 58, 59, 60, 61, 62, 63, 64, 65, 66, 67, 68, 69, 70, 71, 72, 73, 74, 75, 76, 77, 78, 79, 80, 81, 82, 83, 84].contains t = false → A.getD t undef = F.getD t undef) : A = #[F.getD 0 undef, F.getD 1 undef, F.getD 2 undef, F.getD 3 undef, F.getD 4 undef, A.getD 5 undef, F.getD 6 undef, F.getD 7 undef, F.getD 8 undef, F.getD 9 undef, F.getD 10 undef, F.getD 11 undef, F.getD 12 undef, F.getD 13 undef, F.getD 14 undef, F.getD 15 undef, F.getD 16 undef, F.getD 17 undef, F.getD 18 undef, F.getD 19 undef, F.getD 20 undef, F.getD 21 undef, F.getD 22 undef, F.getD 23 undef, F.getD 24 undef, F.getD 25 undef, F.getD 26 undef, F.getD 27 undef, F.getD 28 undef, F.getD 29 undef, F.getD 30 undef, F.getD 31 undef, F.getD 32 undef, F.getD 33 undef, F.getD 34 undef, F.getD 35 undef, F.getD 36 undef, F.getD 37 undef, F.getD 38 undef, F.getD 39 undef, F.getD 40 undef, F.getD 41 undef, F.getD 42 undef, F.getD 43 undef, F.getD 44 undef, F.getD 45 undef, F.getD 46 undef, F.getD 47 undef, A.getD 48 undef, A.getD 49 undef, A.getD 50 undef, A.getD 51 undef, A.getD 52 undef, A.getD 53 undef, A.getD 54 undef, A.getD 55 undef, A.getD 56 undef, A.getD 57 undef, A.getD 58 undef, A.getD 59 undef, A.getD 60 undef, A.getD 61 undef, A.getD 62 undef, A.getD 63 undef, A.getD 64 undef, A.getD 65 undef, A.getD 66 undef, A.getD 67 undef, A.getD 68 undef, A.getD 69 undef, A.getD 70 undef, A.getD 71 undef, A.getD 72 undef, A.getD 73 undef, A.getD 74 undef, A.getD 75 undef, A.getD 76 undef, A.getD 77 undef, A.getD 78 undef, A.getD 79 undef, A.getD 80 undef, A.getD 81 undef, A.getD 82 undef, A.getD 83 undef, A.getD 84 undef, F.getD 85 undef, F.getD 86 undef, F.getD 87 undef, F.getD 88 undef, F.getD 89 undef, F.getD 90 undef, F.getD 91 undef, F.getD 92 undef, F.getD 93 undef, F.getD 94 undef, F.getD 95 undef, F.getD 96 undef, F.getD 97 undef, F.getD 98 undef, F.getD 99 undef, F.getD 100 undef, F.getD 101 undef, F.getD 102 undef, F.getD 103 undef, F.getD 104 undef, F.getD 105 undef, F.getD 106 undef, F.getD 107 undef, F.getD 108 undef, F.getD 109 undef, F.getD 110 undef, F.getD 111 undef, F.getD 112 undef, F.getD 113 undef, F.getD 114 undef, F.getD 115 undef, F.getD 116 undef, F.getD 117 undef, F.getD 118 undef, F.getD 119 undef, F.getD 120 undef, F.getD 121 undef, F.getD 122 undef, F.getD 123 undef, F.getD 124 undef, F.getD 125 undef, F.getD 126 undef, F.getD 127 undef, F.getD 128 undef, F.getD 129 undef] := by
  rw [← h 0 (by decide), ← h 1 (by decide), ← h 2 (by decide), ← h 3 (by decide), ← h 4 (by decide), ← h 6 (by decide), ← h 7 (by decide), ← h 8 (by decide), ← h 9 (by decide), ← h 10 (by decide), ← h 11 (by decide), ← h 12 (by decide), ← h 13 (by decide), ← h 14 (by decide), ← h 15 (by decide), ← h 16 (by decide), ← h 17 (by decide), ← h 18 (by decide), ← h 19 (by decide), ← h 20 (by decide), ← h 21 (by decide), ← h 22 (by decide), ← h 23 (by decide), ← h 24 (by decide), ← h 25 (by decide), ← h 26 (by decide), ← h 27 (by decide), ← h 28 (by decide), ← h 29 (by decide), ← h 30 (by decide), ← h 31 (by decide), ← h 32 (by decide), ← h 33 (by decide), ← h 34 (by decide), ← h 35 (by decide), ← h 36 (by decide), ← h 37 (by decide), ← h 38 (by decide), ← h 39 (by decide), ← h 40 (by decide), ← h 41 (by decide), ← h 42 (by decide), ← h 43 (by decide), ← h 44 (by decide), ← h 45 (by decide), ← h 46 (by decide), ← h 47 (by decide), ← h 85 (by decide), ← h 86 (by decide), ← h 87 (by decide), ← h 88 (by decide), ← h 89 (by decide), ← h 90 (by decide), ← h 91 (by decide), ← h 92 (by decide), ← h 93 (by decide), ← h 94 (by decide), ← h 95 (by decide), ← h 96 (by decide), ← h 97 (by decide), ← h 98 (by decide), ← h 99 (by decide), ← h 100 (by decide), ← h 101 (by decide), ← h 102 (by decide), ← h 103 (by decide), ← h 104 (by decide), ← h 105 (by decide), ← h 106 (by decide), ← h 107 (by decide), ← h 108 (by decide), ← h 109 (by decide), ← h 110 (by decide), ← h 111 (by decide), ← h 112 (by decide), ← h 113 (by decide), ← h 114 (by decide), ← h 115 (by decide), ← h 116 (by decide), ← h 117 (by decide), ← h 118 (by decide), ← h 119 (by decide), ← h 120 (by decide), ← h 121 (by decide), ← h 122 (by decide), ← h 123 (by decide), ← h 124 (by decide), ← h 125 (by decide), ← h 126 (by decide), ← h 127 (by decide), ← h 128 (by decide), ← h 129 (by decide)]
  refine Array.ext (by simp [hs]) (fun i h1 h2 => ?_)
  have e : A[i] = A.getD i undef := by simp [h1]
  rw [e]
  rw [hs] at h1
  clear e h hs
  match i, h1 with
  | 0, _ => rfl
  | 1, _ => rfl
  | 2, _ => rfl
  | 3, _ => rfl
  | 4, _ => rfl
  | 5, _ => rfl
  | 6, _ => rfl
  | 7, _ => rfl
  | 8, _ => rfl
  | 9, _ => rfl
  | 10, _ => rfl
  | 11, _ => rfl
  | 12, _ => rfl
  | 13, _ => rfl
  | 14, _ => rfl
  | 15, _ => rfl
  | 16, _ => rfl
  | 17, _ => rfl
  | 18, _ => rfl
  | 19, _ => rfl
  | 20, _ => rfl
  | 21, _ => rfl
  | 22, _ => rfl
  | 23, _ => rfl
  | 24, _ => rfl
  | 25, _ => rfl
  | 26, _ => rfl
  | 27, _ => rfl
  | 28, _ => rfl
  | 29, _ => rfl
  | 30, _ => rfl
  | 31, _ => rfl
  | 32, _ => rfl
  | 33, _ => rfl
  | 34, _ => rfl
  | 35, _ => rfl
  | 36, _ => rfl
  | 37, _ => rfl
  | 38, _ => rfl
  | 39, _ => rfl
  | 40, _ => rfl
  | 41, _ => rfl
  | 42, _ => rfl
  | 43, _ => rfl
  | 44, _ => rfl
  | 45, _ => rfl
  | 46, _ => rfl
  | 47, _ => rfl
  | 48, _ => rfl
  | 49, _ => rfl
  | 50, _ => rfl
  | 51, _ => rfl
  | 52, _ => rfl
  | 53, _ => rfl
  | 54, _ => rfl
  | 55, _ => rfl
  | 56, _ => rfl
  | 57, _ => rfl
  | 58, _ => rfl
  | 59, _ => rfl
  | 60, _ => rfl
  | 61, _ => rfl
  | 62, _ => rfl
  | 63, _ => rfl
  | 64, _ => rfl
  | 65, _ => rfl
  | 66, _ => rfl
  | 67, _ => rfl
  | 68, _ => rfl
  | 69, _ => rfl
  | 70, _ => rfl
  | 71, _ => rfl
  | 72, _ => rfl
  | 73, _ => rfl
  | 74, _ => rfl
  | 75, _ => rfl
  | 76, _ => rfl
  | 77, _ => rfl
  | 78, _ => rfl
  | 79, _ => rfl
  | 80, _ => rfl
  | 81, _ => rfl
  | 82, _ => rfl
  | 83, _ => rfl
  | 84, _ => rfl
  | 85, _ => rfl
  | 86, _ => rfl
  | 87, _ => rfl
  | 88, _ => rfl
  | 89, _ => rfl
  | 90, _ => rfl
  | 91, _ => rfl
  | 92, _ => rfl
  | 93, _ => rfl
  | 94, _ => rfl
  | 95, _ => rfl
  | 96, _ => rfl
  | 97, _ => rfl
  | 98, _ => rfl
  | 99, _ => rfl
  | 100, _ => rfl
  | 101, _ => rfl
  | 102, _ => rfl
  | 103, _ => rfl
  | 104, _ => rfl
  | 105, _ => rfl
  | 106, _ => rfl
  | 107, _ => rfl
  | 108, _ => rfl
  | 109, _ => rfl
  | 110, _ => rfl
  | 111, _ => rfl
  | 112, _ => rfl
  | 113, _ => rfl
  | 114, _ => rfl
  | 115, _ => rfl
  | 116, _ => rfl
  | 117, _ => rfl
  | 118, _ => rfl
  | 119, _ => rfl
  | 120, _ => rfl
  | 121, _ => rfl
  | 122, _ => rfl
  | 123, _ => rfl
  | 124, _ => rfl
  | 125, _ => rfl
  | 126, _ => rfl
  | 127, _ => rfl
  | 128, _ => rfl
  | 129, _ => rfl
  | _ + 130, h => exact absurd h (by omega)
end Go.Proofs.Ytmlnbbggfjgacaa.P10
