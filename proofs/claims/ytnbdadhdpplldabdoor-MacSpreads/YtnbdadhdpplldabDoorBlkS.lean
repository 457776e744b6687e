/- Steps of a region that cuts rows of bytes. -/
import Derived.Test.YtnbdadhdpplldabDoorExp
namespace Go.Proofs.YtnbdadhdpplldabDoor
open Go.RowKit
section
variable {o : Oper} {a' : Act} {w' : World}
theorem mul_run {k : Nat} (t : Tmp) (ho : o.op = .binOp .mul 3 (.const (.int .i64 32)) (.tmp t) 3) (h0 : a'.tmps.getD t undef = .int .i64 (k : Nat)) (hk : k ≤ 1000) :
    (execOp a'.eval o).run Tryd.prog w' = .ok (.value (.int .i64 ((32 * k : Nat) : Int))) w' := by
  have he : a'.eval (.tmp t) = .int .i64 (k : Nat) := h0
  have hc : a'.eval (.const (.int .i64 32)) = .int .i64 32 := rfl
  have hwr : IntKind.i64.wrap (32 * ((k : Nat) : Int)) = ((32 * k : Nat) : Int) := by rw [IntWalk.i64_in _ (by omega)]; omega
  unfold execOp
  simp only [ho]
  generalize a'.eval = r at *
  simp [he, hc, go_sem, hwr]
theorem add_run {k : Nat} (t : Tmp) (ho : o.op = .binOp .add 3 (.tmp t) (.const (.int .i64 32)) 3) (h0 : a'.tmps.getD t undef = .int .i64 (k : Nat)) (hk : k ≤ 100000) :
    (execOp a'.eval o).run Tryd.prog w' = .ok (.value (.int .i64 ((k + 32 : Nat) : Int))) w' := by
  have he : a'.eval (.tmp t) = .int .i64 (k : Nat) := h0
  have hc : a'.eval (.const (.int .i64 32)) = .int .i64 32 := rfl
  have hwr : IntKind.i64.wrap (((k : Nat) : Int) + 32) = ((k + 32 : Nat) : Int) := by rw [IntWalk.i64_in _ (by omega)]; omega
  unfold execOp
  simp only [ho]
  generalize a'.eval = r at *
  simp [he, hc, go_sem, hwr]
theorem sub_run {k n : Nat} (t u : Tmp) (ho : o.op = .binOp .sub 3 (.tmp t) (.tmp u) 3) (h0 : a'.tmps.getD t undef = .int .i64 (n : Nat)) (h1 : a'.tmps.getD u undef = .int .i64 (k : Nat)) (hk : k ≤ n) (hn : n ≤ 100000) :
    (execOp a'.eval o).run Tryd.prog w' = .ok (.value (.int .i64 ((n - k : Nat) : Int))) w' := by
  have he : a'.eval (.tmp t) = .int .i64 (n : Nat) := h0
  have hf : a'.eval (.tmp u) = .int .i64 (k : Nat) := h1
  have hwr : IntKind.i64.wrap (((n : Nat) : Int) - ((k : Nat) : Int)) = ((n - k : Nat) : Int) := by rw [IntWalk.i64_in _ (by omega)]; omega
  unfold execOp
  simp only [ho]
  generalize a'.eval = r at *
  simp [he, hf, go_sem, hwr]
theorem min_run {k n : Nat} (t u : Tmp) (ho : o.op = .call { callee := .builtin .min, args := #[.tmp t, .tmp u], argTypes := #[3, 3] }) (h0 : a'.tmps.getD t undef = .int .i64 (k : Nat)) (h1 : a'.tmps.getD u undef = .int .i64 (n : Nat)) :
    (execOp a'.eval o).run Tryd.prog w' = .ok (.value (.int .i64 ((min k n : Nat) : Int))) w' := by
  have he : a'.eval (.tmp t) = .int .i64 (k : Nat) := h0
  have hf : a'.eval (.tmp u) = .int .i64 (n : Nat) := h1
  have hm : (if ((n : Nat) : Int) < ((k : Nat) : Int) then ((n : Nat) : Int) else ((k : Nat) : Int)) = ((min k n : Nat) : Int) := by split <;> omega
  unfold execOp
  simp only [ho, resolve, invoke, builtin, Sem.run_bind, Sem.run_pure, Result.andThen_ok, List.map_toArray, List.map_cons, List.map_nil, he, hf, run_min_int2, hm]
theorem min_run' {n : Nat} (u : Tmp) (ho : o.op = .call { callee := .builtin .min, args := #[.const (.int .i64 32), .tmp u], argTypes := #[3, 3] }) (h1 : a'.tmps.getD u undef = .int .i64 (n : Nat)) :
    (execOp a'.eval o).run Tryd.prog w' = .ok (.value (.int .i64 ((min 32 n : Nat) : Int))) w' := by
  have he : a'.eval (.const (.int .i64 32)) = .int .i64 32 := rfl
  have hf : a'.eval (.tmp u) = .int .i64 (n : Nat) := h1
  have hm : (if ((n : Nat) : Int) < 32 then ((n : Nat) : Int) else 32) = ((min 32 n : Nat) : Int) := by split <;> omega
  unfold execOp
  simp only [ho, resolve, invoke, builtin, Sem.run_bind, Sem.run_pure, Result.andThen_ok, List.map_toArray, List.map_cons, List.map_nil, he, hf, run_min_int2, hm]
theorem elem22 : Tryd.prog.underlying 22 = some (.slice (Tryd.prog.elem 22)) := by kernel_rfl
theorem slice_run {g n c l h : Nat} (t u v : Tmp) (ho : o.op = .slice 22 (.tmp t) (some (.tmp u)) (some (.tmp v)) none) (h0 : a'.tmps.getD t undef = .slice (some ⟨g, 0, none⟩) n c) (h1 : a'.tmps.getD u undef = .int .i64 (l : Nat)) (h2 : a'.tmps.getD v undef = .int .i64 (h : Nat)) (hl : l < h) (hc : h ≤ c) :
    (execOp a'.eval o).run Tryd.prog w' = .ok (.value (.slice (some ⟨g, l, none⟩) (h - l) (c - l))) w' := by
  have e0 : a'.eval (.tmp t) = .slice (some ⟨g, 0, none⟩) n c := h0
  have e1 : a'.eval (.tmp u) = .int .i64 (l : Nat) := h1
  have e2 : a'.eval (.tmp v) = .int .i64 (h : Nat) := h2
  obtain ⟨i, hi, hsz, _, _⟩ := info5e
  have hne : c ≠ l := by omega
  have hel : Tryd.prog.elem 22 = 5 := by kernel_rfl
  have hrun := run_slice_lh (P := Tryd.prog) w' 22 (some ⟨g, 0, none⟩) n c elem22 .i64 .i64 (l : Nat) (h : Nat) (by omega) (by omega) (by omega)
  rw [hel] at hrun
  unfold execOp
  simp only [ho]
  generalize a'.eval = r at *
  simp [e0, e1, e2, run_sliceAt_slice (P := Tryd.prog) (h := elem22), hrun, sizeOf, typeInfo, hi, hsz, sliced, hne, Addr.add_lit]
theorem slice_run' {g n c h : Nat} (t v : Tmp) (ho : o.op = .slice 22 (.tmp t) none (some (.tmp v)) none) (h0 : a'.tmps.getD t undef = .slice (some ⟨g, 0, none⟩) n c) (h2 : a'.tmps.getD v undef = .int .i64 (h : Nat)) (hc : h ≤ c) :
    (execOp a'.eval o).run Tryd.prog w' = .ok (.value (.slice (some ⟨g, 0, none⟩) h c)) w' := by
  have e0 : a'.eval (.tmp t) = .slice (some ⟨g, 0, none⟩) n c := h0
  have e2 : a'.eval (.tmp v) = .int .i64 (h : Nat) := h2
  obtain ⟨i, hi, hsz, _, _⟩ := info5e
  have hel : Tryd.prog.elem 22 = 5 := by kernel_rfl
  have hrun := run_slice_h (P := Tryd.prog) w' 22 (some ⟨g, 0, none⟩) n c elem22 .i64 (h : Nat) (by omega) (by omega)
  rw [hel] at hrun
  unfold execOp
  simp only [ho]
  generalize a'.eval = r at *
  simp [e0, e2, run_sliceAt_slice (P := Tryd.prog) (h := elem22), hrun, sizeOf, typeInfo, hi, hsz, sliced, Addr.add_lit]
theorem neq_run {s : ByteArray} (t u : Tmp) (ho : o.op = .binOp .neq 9 (.tmp t) (.tmp u) 9) (h0 : a'.tmps.getD t undef = .string s) (h1 : a'.tmps.getD u undef = .string s) :
    (execOp a'.eval o).run Tryd.prog w' = .ok (.value (.bool false)) w' := by
  unfold execOp
  simp only [ho, Act.eval, h0, h1]
  simp [go_sem]
end
end Go.Proofs.YtnbdadhdpplldabDoor
