/- Steps of regions that draw their order: strings, lengths, cuts, tests. -/
import Derived.Test.YtnceiccciaihoaaA5Keys
import Derived.Laws.Strings
namespace Go.Proofs.Ytnceiccciaihoaa.A5
open Go.RowKit P4
theorem strB_fold : ∀ (l : List Nat) (r : ByteArray), ((l.map (fun (n : Nat) => (n : Int))).foldl (fun r n => r.push (UInt8.ofNat n.toNat)) r).data = r.data ++ (l.map fun n => UInt8.ofNat n).toArray
  | [], r => by simp
  | x :: l, r => by
    rw [List.map_cons, List.foldl_cons, strB_fold l]
    simp [ByteArray.push]
theorem strB_data (l : List Nat) : (strB l).data = (l.map fun n => UInt8.ofNat n).toArray := by
  unfold strB
  rw [strB_fold]
  simp
theorem map_inj_small : ∀ {la lb : List Nat}, (∀ x ∈ la, x < 256) → (∀ x ∈ lb, x < 256) → la.map (fun n => UInt8.ofNat n) = lb.map (fun n => UInt8.ofNat n) → la = lb
  | [], [], _, _, _ => rfl
  | [], _ :: _, _, _, h => by simp at h
  | _ :: _, [], _, _, h => by simp at h
  | x :: la, y :: lb, ha, hb, h => by
    simp only [List.map_cons, List.cons.injEq] at h
    have h1 : x = y := by
      have := congrArg UInt8.toNat h.1
      have hx := ha x (by simp)
      have hy := hb y (by simp)
      simp at this
      omega
    rw [h1, map_inj_small (fun z hz => ha z (by simp [hz])) (fun z hz => hb z (by simp [hz])) h.2]
theorem strB_inj {la lb : List Nat} (ha : ∀ x ∈ la, x < 256) (hb : ∀ x ∈ lb, x < 256) : strB la = strB lb ↔ la = lb := by
  constructor
  · intro h
    have h1 := congrArg ByteArray.data h
    rw [strB_data, strB_data] at h1
    exact map_inj_small ha hb (by simpa using h1)
  · rintro rfl
    rfl
section
variable {o : Oper} {a' : Act} {w' : World}
theorem neqs_run {la lb : List Nat} (t u : Tmp) (ho : o.op = .binOp .neq 9 (.tmp t) (.tmp u) 9) (h0 : a'.tmps.getD t undef = .string (strB la)) (h1 : a'.tmps.getD u undef = .string (strB lb)) (ha : ∀ x ∈ la, x < 256) (hb : ∀ x ∈ lb, x < 256) :
    (execOp a'.eval o).run Try.prog w' = .ok (.value (.bool (!decide (la = lb)))) w' := by
  have e : ((strB la).data.toList == (strB lb).data.toList) = decide (la = lb) := by
    rw [Bool.eq_iff_iff]
    rw [beq_iff_eq, decide_eq_true_iff, ← strB_inj ha hb]
    constructor
    · intro h
      exact ByteArray.ext (Array.ext' h)
    · intro h
      rw [h]
  unfold execOp
  simp only [ho, Act.eval, h0, h1]
  simp [go_sem]
  rw [ByteArray.toList_eq, ByteArray.toList_eq, ← e]
theorem neq_run {s : ByteArray} (t u : Tmp) (ho : o.op = .binOp .neq 9 (.tmp t) (.tmp u) 9) (h0 : a'.tmps.getD t undef = .string s) (h1 : a'.tmps.getD u undef = .string s) :
    (execOp a'.eval o).run Try.prog w' = .ok (.value (.bool false)) w' := by
  unfold execOp
  simp only [ho, Act.eval, h0, h1]
  simp [go_sem]
theorem neqe_run (t : Tmp) (ho : o.op = .binOp .neq 24 (.tmp t) (.const (.int .i64 0)) 24) (h0 : a'.tmps.getD t undef = .int .i64 0) :
    (execOp a'.eval o).run Try.prog w' = .ok (.value (.bool false)) w' := by
  unfold execOp
  simp only [ho, Act.eval, h0]
  simp [go_sem]
theorem pick_else {t u : Tmp} {r : Operand} (h0 : a'.tmps.getD t undef = .bool false) (h1 : a'.tmps.getD u undef = .bool false) (ho : o.op = .pick (.tmp t) r (.tmp u)) :
    (execOp a'.eval o).run Try.prog w' = .ok (.value (.bool false)) w' := by
  unfold execOp
  simp only [ho, Act.eval, h0, h1]
  simp [go_sem]
theorem wanted_else {ops : Array Oper} (j : Nat) (d : Tmp) (hg : o.guard = some (j, false)) (hd : (ops[j]?).bind (·.dst) = some d) (hv : a'.tmps.getD d undef = .bool false) : Region.wanted o (yielded ops a'.tmps) = true := by
  have hsome : a'.tmps[d]? = some (.bool false) := by
    cases h : a'.tmps[d]? with
    | none => simp [h, undef] at hv
    | some x => simpa [h] using hv
  simp [Region.wanted, hg, yielded, hd, hsome]
theorem len_run {p : Option Addr} {n c : Nat} (t : Tmp) (ho : o.op = .call { callee := .builtin .len, args := #[.tmp t], argTypes := #[22] }) (h0 : a'.tmps.getD t undef = .slice p n c) :
    (execOp a'.eval o).run Try.prog w' = .ok (.value (.int .i64 (n : Int))) w' := by
  have he : a'.eval (.tmp t) = .slice p n c := h0
  unfold execOp
  simp only [ho, resolve, invoke, builtin, Sem.run_bind, Sem.run_pure, Result.andThen_ok, List.map_toArray, List.map_cons, List.map_nil, he]
  simp [go_sem]
theorem sub16_run {k : Nat} (t : Tmp) (ho : o.op = .binOp .sub 3 (.tmp t) (.const (.int .i64 16)) 3) (h0 : a'.tmps.getD t undef = .int .i64 ((k + 16 : Nat) : Int)) (hk : k ≤ 100000) :
    (execOp a'.eval o).run Try.prog w' = .ok (.value (.int .i64 (k : Int))) w' := by
  have he : a'.eval (.tmp t) = .int .i64 ((k + 16 : Nat) : Int) := h0
  have hc : a'.eval (.const (.int .i64 16)) = .int .i64 16 := rfl
  have hwr : IntKind.i64.wrap (k : Int) = (k : Int) := IntWalk.i64_in _ (by omega)
  unfold execOp
  simp only [ho]
  generalize a'.eval = r at *
  simp [he, hc, go_sem, hwr]
theorem elem22 : Try.prog.underlying 22 = some (.slice (Try.prog.elem 22)) := by kernel_rfl
theorem from_run {g of n c l : Nat} (t u : Tmp) (ho : o.op = .slice 22 (.tmp t) (some (.tmp u)) none none) (h0 : a'.tmps.getD t undef = .slice (some ⟨g, of, none⟩) n c) (h1 : a'.tmps.getD u undef = .int .i64 (l : Nat)) (hl : l < n) (hc : n ≤ c) :
    (execOp a'.eval o).run Try.prog w' = .ok (.value (.slice (some ⟨g, of + l, none⟩) (n - l) (c - l))) w' := by
  have e0 : a'.eval (.tmp t) = .slice (some ⟨g, of, none⟩) n c := h0
  have e1 : a'.eval (.tmp u) = .int .i64 (l : Nat) := h1
  obtain ⟨i, hi, hsz, _, _⟩ := info5e
  have hne : c ≠ l := by omega
  have hel : Try.prog.elem 22 = 5 := by kernel_rfl
  have hrun := run_slice_l (P := Try.prog) w' 22 (some ⟨g, of, none⟩) n c elem22 .i64 (l : Nat) (by omega) (by omega)
  rw [hel] at hrun
  unfold execOp
  simp only [ho]
  generalize a'.eval = r at *
  simp [e0, e1, run_sliceAt_slice (P := Try.prog) (h := elem22), hrun, sizeOf, typeInfo, hi, hsz, sliced, hne, Addr.add_lit]
end
theorem dst_in {ops : Array Oper} {lo up : Nat} (h : (ops.toList.all fun o => match o.dst with | some d => decide (lo ≤ d) && decide (up ≥ d) | none => true) = true) (t : Nat) (ht : t < lo ∨ up < t) (i : Nat) : (ops[i]?).bind (·.dst) ≠ some t := fun e => by
  obtain ⟨o, ho, hd⟩ := Option.bind_eq_some_iff.1 e
  have h1 := List.all_eq_true.1 h o (by obtain ⟨hi, rfl⟩ := Array.getElem?_eq_some_iff.1 ho; simp)
  simp only [hd, Bool.and_eq_true, decide_eq_true_eq] at h1
  obtain ⟨h2, h3⟩ := h1
  omega
end Go.Proofs.Ytnceiccciaihoaa.A5
