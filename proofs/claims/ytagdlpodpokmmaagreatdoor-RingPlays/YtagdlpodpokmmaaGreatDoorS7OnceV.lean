/- SuiteOnce: the second loop's region. -/
import Derived.Test.YtagdlpodpokmmaaGreatDoorS7St
namespace Go.Proofs.YtagdlpodpokmmaaGreatDoor.S7
open Go.RowKit
def SrcV (bs : List Nat) (l : List Nat) (v : Value) (w : World) : Prop := Src w v l ∧ Off v bs
theorem SrcV.kept {bs l : List Nat} {v : Value} {w w' : World} (h : SrcV bs l v w) (ho : Only bs w w') : SrcV bs l v w' := ⟨h.1.only ho h.2, h.2⟩
theorem sq_quiet {P : Program} {ops : Array Oper} {Q : Exit → Act → World → Prop} {V : Nat → Value → World → Prop} {bs cs : List Nat} {R : Nat → World → Prop} {f : Nat → Bool} {i : Nat} {o : Oper} {a' : Act} {w' : World} (fn : FuncId) (args : Array Value) (hi : ops[i]? = some o) (hw : Region.wanted o (yielded ops a'.tmps) = true)
    (hr : (execOp a'.eval o).run P w' = .ok (.enter fn args) w') (hn : i ∉ cs) (hS : SeqS cs R f w')
    (h : Calls P fn args w' fun e w2 => ∃ v, e = .returned v ∧ Only bs w' w2 ∧ (∀ k, R k w' → R k w2) ∧ V i v w2) :
    wpOp P ops Q i (fun a'' w2 => Only bs w' w2 ∧ SeqS cs R (fun j => if j = i then true else f j) w2 ∧ ∃ v, a'' = a'.put o.dst v ∧ V i v w2) a' w' :=
  wpOp_call fn args hi hw hr (h.mono fun _ _ ⟨v, he, hg, hR, hv⟩ => ⟨v, he, hg, hS.quiet hn hR, v, rfl, hv⟩)
section
variable {o : Oper} {a' : Act} {w' : World}
theorem pick_run (s : Tmp) (b : Bool) (x y : Operand) (u v : Value) (ho : o.op = .pick (.tmp s) x y) (h0 : a'.tmps.getD s undef = .bool b) (h1 : a'.eval x = u) (h2 : a'.eval y = v) : (execOp a'.eval o).run Tryz.prog w' = .ok (.value (if b then u else v)) w' := by
  have he : a'.eval (.tmp s) = .bool b := h0
  unfold execOp
  simp only [ho]
  rw [he, h1, h2]
  cases b <;> simp [go_sem]
theorem neqS_run (s t : Tmp) (x y : ByteArray) (ho : o.op = .binOp .neq 9 (.tmp s) (.tmp t) 9) (h0 : a'.tmps.getD s undef = .string x) (h1 : a'.tmps.getD t undef = .string y) : (execOp a'.eval o).run Tryz.prog w' = .ok (.value (.bool (!(x.toList == y.toList)))) w' := by
  have he : a'.eval (.tmp s) = .string x := h0
  have hc : a'.eval (.tmp t) = .string y := h1
  unfold execOp
  simp only [ho]
  rw [he, hc]
  simp [go_sem]
theorem load_run (T : TypeId) (t : Tmp) (b k : Nat) (v : Value) (ho : o.op = .load T (.tmp t)) (h0 : a'.tmps.getD t undef = .pointer (some ⟨b, k, none⟩)) (hf : (Instr.loadAt T (.pointer (some ⟨b, k, none⟩))).run Tryz.prog w' = .ok v w') :
    (execOp a'.eval o).run Tryz.prog w' = .ok (.value v) w' := by
  have he : a'.eval (.tmp t) = .pointer (some ⟨b, k, none⟩) := h0
  unfold execOp
  simp only [ho]
  rw [he]
  simp [hf, Result.andThen]
theorem idx31_run (t u : Tmp) (b of n c j : Nat) (ho : o.op = .indexAddr 35 (.tmp t) (.tmp u)) (h0 : a'.tmps.getD t undef = .slice (some ⟨b, of, none⟩) n c) (h1 : a'.tmps.getD u undef = .int .i64 (j : Int)) (hj : j < n) :
    (execOp a'.eval o).run Tryz.prog w' = .ok (.value (.pointer (some ⟨b, of + j, none⟩))) w' := by
  have he : a'.eval (.tmp t) = .slice (some ⟨b, of, none⟩) n c := h0
  have hc : a'.eval (.tmp u) = .int .i64 (j : Int) := h1
  have h2 : (j : Int) < (n : Int) := by omega
  unfold execOp
  simp only [ho]
  rw [he, hc]
  simp [go_sem, h2]
end
theorem ld32 {b k : Nat} {q : Option Addr} {n c : Nat} {w : World} (h : w.cell? ⟨b, k, none⟩ = some (.slice q n c)) : (Instr.loadAt 22 (.pointer (some ⟨b, k, none⟩))).run Tryz.prog w = .ok (.slice q n c) w := by simp [go_sem, h]
end Go.Proofs.YtagdlpodpokmmaaGreatDoor.S7
