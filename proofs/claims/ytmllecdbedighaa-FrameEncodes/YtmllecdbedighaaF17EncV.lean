/- The tables of the regions of FrameEncodes, and their steps. -/
import Derived.Test.YtmllecdbedighaaF17Anc
import Derived.Test.YtmllecdbedighaaF17RSame
import Derived.Test.YtmllecdbedighaaF17RRight
import Derived.Test.YtmllecdbedighaaF17RBytes
import Derived.Test.YtmllecdbedighaaSt
namespace Go.Proofs.Ytmllecdbedighaa.F17
open Go.RowKit C8 E9
theorem srcV_of {w : World} {v : Value} {l : List Nat} (h : Src w v l) : SrcV [] l v w := ⟨h, fun _ b _ => by simp⟩
theorem eqlE_run {o : Oper} {a' : Act} {w' : World} (s : Tmp) (x y : Int) (ho : o.op = .binOp .eql 29 (.tmp s) (.const (.int .i64 y)) 29) (h0 : a'.tmps.getD s undef = .int .i64 x) : (execOp a'.eval o).run Try.prog w' = .ok (.value (.bool (x == y))) w' := by
  have he : a'.eval (.tmp s) = .int .i64 x := h0
  have hf : a'.eval (.const (.int .i64 y)) = .int .i64 y := rfl
  unfold execOp
  simp only [ho]
  rw [he, hf]
  simp [go_sem]
theorem ld25 {b : Nat} {cs : Array Value} {t : TypeId} {fr : Nat × Nat} {w : World} (h : w.heap[b]? = some (.cells cs t fr) ∧ cs.size = 5) : (Instr.loadAt 25 (.pointer (some ⟨b, 0, none⟩))).run Try.prog w = .ok (.agg cs) w := by
  simp only [Instr.loadAt, Instr.sureAddr, Sem.run_bind, Sem.run_pure, Result.andThen_ok, run_loadVar_row (P := Try.prog) w b t 25 cs fr _ h.1 Try.underlying25 rfl (by rw [h.2]; kernel_rfl)]
theorem ld28 {b : Nat} {cs : Array Value} {t : TypeId} {fr : Nat × Nat} {w : World} (h : w.heap[b]? = some (.cells cs t fr) ∧ cs.size = 5) : (Instr.loadAt 28 (.pointer (some ⟨b, 0, none⟩))).run Try.prog w = .ok (.agg cs) w := by
  simp only [Instr.loadAt, Instr.sureAddr, Sem.run_bind, Sem.run_pure, Result.andThen_ok, run_loadVar_row (P := Try.prog) w b t 28 cs fr _ h.1 Try.underlying28 rfl (by rw [h.2]; kernel_rfl)]
theorem eqlS_run {o : Oper} {a' : Act} {w' : World} (s t : Tmp) (x y : ByteArray) (ho : o.op = .binOp .eql 9 (.tmp s) (.tmp t) 9) (h0 : a'.tmps.getD s undef = .string x) (h1 : a'.tmps.getD t undef = .string y) : (execOp a'.eval o).run Try.prog w' = .ok (.value (.bool (x.toList == y.toList))) w' := by
  have he : a'.eval (.tmp s) = .string x := h0
  have hc : a'.eval (.tmp t) = .string y := h1
  unfold execOp
  simp only [ho]
  rw [he, hc]
  simp [go_sem]
def en7 (CA : Array Value) (sm : Bool) : Nat → Value → World → Prop
  | 0 => IsV (.agg CA)
  | 1 => IsV (.bool sm)
  | 2 => IsV (.agg CA)
  | 3 => IsV (.bool sm)
  | 4 => IsV (.bool false)
  | _ => fun _ _ => True
theorem en7_kept (CA : Array Value) (sm : Bool) : ∀ i v w w', en7 CA sm i v w → Only [] w w' → en7 CA sm i v w'
  | 0, _, _, _, h, _ => h
  | 1, _, _, _, h, _ => h
  | 2, _, _, _, h, _ => h
  | 3, _, _, _, h, _ => h
  | 4, _, _, _, h, _ => h
  | _ + 5, _, _, _, _, _ => trivial
def en14 (CA CC : Array Value) (bs : List Nat) : Nat → Value → World → Prop
  | 0 => IsV (.int .i64 0)
  | 1 => IsV (.bool true)
  | 2 => IsV (.bool true)
  | 3 => SrcV [] bs
  | 4 => IsV (.string (strB bs))
  | 5 => IsV (.agg CA)
  | 6 => SrcV [] bs
  | 7 => IsV (.string (strB bs))
  | 8 => IsV (.bool true)
  | 9 => IsV (.bool true)
  | 10 => IsV (.bool true)
  | 11 => IsV (.int .i64 0)
  | 12 => IsV (.bool true)
  | 13 => IsV (.bool true)
  | 14 => IsV (.bool true)
  | 15 => IsV (.agg CC)
  | 16 => IsV (.agg CA)
  | 17 => IsV (.bool true)
  | 18 => IsV (.bool true)
  | 19 => IsV (.bool true)
  | _ => fun _ _ => True
theorem en14_kept (CA CC : Array Value) (bs : List Nat) : ∀ i v w w', en14 CA CC bs i v w → Only [] w w' → en14 CA CC bs i v w'
  | 0, _, _, _, h, _ => h
  | 1, _, _, _, h, _ => h
  | 2, _, _, _, h, _ => h
  | 3, _, _, _, h, ho => SrcV.kept h ho
  | 4, _, _, _, h, _ => h
  | 5, _, _, _, h, _ => h
  | 6, _, _, _, h, ho => SrcV.kept h ho
  | 7, _, _, _, h, _ => h
  | 8, _, _, _, h, _ => h
  | 9, _, _, _, h, _ => h
  | 10, _, _, _, h, _ => h
  | 11, _, _, _, h, _ => h
  | 12, _, _, _, h, _ => h
  | 13, _, _, _, h, _ => h
  | 14, _, _, _, h, _ => h
  | 15, _, _, _, h, _ => h
  | 16, _, _, _, h, _ => h
  | 17, _, _, _, h, _ => h
  | 18, _, _, _, h, _ => h
  | 19, _, _, _, h, _ => h
  | _ + 20, _, _, _, _, _ => trivial
end Go.Proofs.Ytmllecdbedighaa.F17
