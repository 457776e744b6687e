/- The contract of the document's Same. -/
import Derived.Test.YtfjdaafckiefdaaGreatDoorMgE
import Derived.Test.YtfjdaafckiefdaaGreatDoorMgC
namespace Go.Proofs.YtfjdaafckiefdaaGreatDoor.E9
open Go.RowKit C8
section
variable {o : Oper} {a' : Act} {w' : World}
theorem idx28_run (t u : Tmp) (b of n c j : Nat) (ho : o.op = .indexAddr 57 (.tmp t) (.tmp u)) (h0 : a'.tmps.getD t undef = .slice (some ⟨b, of, none⟩) n c) (h1 : a'.tmps.getD u undef = .int .i64 (j : Int)) (hj : j < n) :
    (execOp a'.eval o).run Tryz.prog w' = .ok (.value (.pointer (some ⟨b, of + j * 2, none⟩))) w' := by
  have he : a'.eval (.tmp t) = .slice (some ⟨b, of, none⟩) n c := h0
  have hc : a'.eval (.tmp u) = .int .i64 (j : Int) := h1
  have h2 : (j : Int) < (n : Int) := by omega
  unfold execOp
  simp only [ho]
  rw [he, hc]
  simp [go_sem, h2]
theorem fo_run (T : TypeId) (k : Nat) (t : Tmp) (b of : Nat) (ho : o.op = .fieldAddr T (.tmp t) k) (h0 : a'.tmps.getD t undef = .pointer (some ⟨b, of, none⟩)) (hf : ∀ w : World, (Instr.fieldAt T (.pointer (some ⟨b, of, none⟩)) k).run Tryz.prog w = .ok (.pointer (some ⟨b, of + k, none⟩)) w) :
    (execOp a'.eval o).run Tryz.prog w' = .ok (.value (.pointer (some ⟨b, of + k, none⟩))) w' := by
  have he : a'.eval (.tmp t) = .pointer (some ⟨b, of, none⟩) := h0
  unfold execOp
  simp only [ho]
  rw [he]
  simp [hf, Result.andThen]
end
theorem fa30_8 (b : Nat) (w : World) : (Instr.fieldAt 59 (.pointer (some ⟨b, 0, none⟩)) 8).run Tryz.prog w = .ok (.pointer (some ⟨b, 8, none⟩)) w := by simp [go_sem]
theorem fo47_0 (b of : Nat) (w : World) : (Instr.fieldAt 107 (.pointer (some ⟨b, of, none⟩)) 0).run Tryz.prog w = .ok (.pointer (some ⟨b, of + 0, none⟩)) w := by simp [go_sem]
theorem fo47_1 (b of : Nat) (w : World) : (Instr.fieldAt 107 (.pointer (some ⟨b, of, none⟩)) 1).run Tryz.prog w = .ok (.pointer (some ⟨b, of + 1, none⟩)) w := by simp [go_sem]
theorem ld28 {b k : Nat} {q : Option Addr} {n c : Nat} {w : World} (h : w.cell? ⟨b, k, none⟩ = some (.slice q n c)) : (Instr.loadAt 57 (.pointer (some ⟨b, k, none⟩))).run Tryz.prog w = .ok (.slice q n c) w := by simp [go_sem, h]
end Go.Proofs.YtfjdaafckiefdaaGreatDoor.E9
/- The contracts of the document's who and wraps. -/
namespace Go.Proofs.YtfjdaafckiefdaaGreatDoor.E9
open Go.RowKit C8
set_option maxHeartbeats 1000000 in
theorem who_yes (n : Int) (w : World) (h1 : 1 ≤ n) (h2 : n ≤ 16) : Calls Tryz.prog 79 #[.int .i64 n] w fun e w' => e = .returned (.bool true) ∧ w' = w := by
  go_enter Tryz.func79, Tryz.ntmps79
  go_wp2_with fail
  go_ret
  exact ⟨rfl, rfl⟩
set_option maxHeartbeats 1000000 in
theorem who_no (n : Int) (w : World) (h : n < 1 ∨ 16 < n) : Calls Tryz.prog 79 #[.int .i64 n] w fun e w' => e = .returned (.bool false) ∧ w' = w := by
  by_cases h1 : 1 ≤ n
  · have h2 : ¬ n ≤ 16 := by omega
    clear h
    go_enter Tryz.func79, Tryz.ntmps79
    go_wp2_with fail
    go_ret
    exact ⟨rfl, rfl⟩
  · clear h
    go_enter Tryz.func79, Tryz.ntmps79
    go_wp2_with fail
    go_ret
    exact ⟨rfl, rfl⟩
theorem who_any (n : Int) (w : World) : Calls Tryz.prog 79 #[.int .i64 n] w fun e w' => e = .returned (.bool (decide (1 ≤ n ∧ n ≤ 16))) ∧ w' = w := by
  by_cases h : 1 ≤ n ∧ n ≤ 16
  · rw [decide_eq_true h]; exact who_yes n w h.1 h.2
  · rw [decide_eq_false h]; exact who_no n w (by omega)
section
variable {ops : Array Oper} {o : Oper} {a' : Act} {w' : World}
theorem unwanted_undef (j : Nat) (d : Tmp) (b : Bool) (hg : o.guard = some (j, b)) (hd : (ops[j]?).bind (·.dst) = some d) (hv : a'.tmps.getD d undef = undef) : Region.wanted o (yielded ops a'.tmps) = false := by
  cases h : a'.tmps[d]? with
  | none => simp [Region.wanted, hg, yielded, hd, h]
  | some x =>
    have : x = undef := by simpa [h] using hv
    subst this
    simp [Region.wanted, hg, yielded, hd, h, undef]
theorem neqK_run (s : Tmp) (x y : Int) (ho : o.op = .binOp .neq 3 (.tmp s) (.const (.int .i64 y)) 3) (h0 : a'.tmps.getD s undef = .int .i64 x) : (execOp a'.eval o).run Tryz.prog w' = .ok (.value (.bool (!(x == y)))) w' := by
  have he : a'.eval (.tmp s) = .int .i64 x := h0
  have hf : a'.eval (.const (.int .i64 y)) = .int .i64 y := rfl
  unfold execOp
  simp only [ho]
  rw [he, hf]
  simp [go_sem]
  rfl
theorem gtrK_run (s : Tmp) (x y : Int) (ho : o.op = .binOp .gtr 3 (.tmp s) (.const (.int .i64 y)) 3) (h0 : a'.tmps.getD s undef = .int .i64 x) : (execOp a'.eval o).run Tryz.prog w' = .ok (.value (.bool (decide (y < x)))) w' := by
  have he : a'.eval (.tmp s) = .int .i64 x := h0
  have hf : a'.eval (.const (.int .i64 y)) = .int .i64 y := rfl
  unfold execOp
  simp only [ho]
  rw [he, hf]
  simp [go_sem]
theorem subK_run (s : Tmp) (x y : Int) (ho : o.op = .binOp .sub 3 (.tmp s) (.const (.int .i64 y)) 3) (h0 : a'.tmps.getD s undef = .int .i64 x) : (execOp a'.eval o).run Tryz.prog w' = .ok (.value (.int .i64 (IntKind.i64.wrap (x - y)))) w' := by
  have he : a'.eval (.tmp s) = .int .i64 x := h0
  have hf : a'.eval (.const (.int .i64 y)) = .int .i64 y := rfl
  unfold execOp
  simp only [ho]
  rw [he, hf]
  simp [go_sem]
theorem leqN_run (s t : Tmp) (x y : Int) (ho : o.op = .binOp .leq 3 (.tmp s) (.tmp t) 3) (h0 : a'.tmps.getD s undef = .int .i64 x) (h1 : a'.tmps.getD t undef = .int .i64 y) : (execOp a'.eval o).run Tryz.prog w' = .ok (.value (.bool (decide (x ≤ y)))) w' := by
  have he : a'.eval (.tmp s) = .int .i64 x := h0
  have hf : a'.eval (.tmp t) = .int .i64 y := h1
  unfold execOp
  simp only [ho]
  rw [he, hf]
  simp [go_sem]
theorem len_run {l : List Nat} (t : Tmp) (ho : o.op = .call { callee := .builtin .len, args := #[.tmp t], argTypes := #[22] }) (h : Src w' (a'.tmps.getD t undef) l) : (execOp a'.eval o).run Tryz.prog w' = .ok (.value (.int .i64 (l.length : Int))) w' := by
  obtain ⟨p, c, e, _⟩ := h.slice
  have he : a'.eval (.tmp t) = .slice p l.length c := e
  unfold execOp
  simp only [ho]
  generalize a'.eval = r at *
  simp [he, go_sem, resolve, invoke, builtin]
end
def rwA (ba oa n c j : Nat) (x1 : Int) : Nat → Value → World → Prop
  | 0 => IsV (.slice (some ⟨ba, oa, none⟩) n c)
  | 1 => IsV (.int .i64 (j : Int))
  | 2 => IsV (.pointer (some ⟨ba, oa + j * 2, none⟩))
  | 3 => IsV (.pointer (some ⟨ba, oa + j * 2 + 0, none⟩))
  | 4 => IsV (.int .i64 x1)
  | 5 => IsV (.bool false)
  | 6 => IsV (.bool true)
  | 7 => IsV (.bool true)
  | 8 => IsV undef
  | 9 => IsV undef
  | 10 => IsV undef
  | 11 => IsV undef
  | 12 => IsV undef
  | 13 => IsV undef
  | 14 => IsV undef
  | 15 => IsV (.bool true)
  | 16 => IsV (.bool true)
  | 17 => IsV undef
  | 18 => IsV undef
  | 19 => IsV undef
  | 20 => IsV undef
  | 21 => IsV undef
  | 22 => IsV undef
  | 23 => IsV undef
  | 24 => IsV undef
  | 25 => IsV undef
  | 26 => IsV undef
  | 27 => IsV undef
  | 28 => IsV undef
  | 29 => IsV undef
  | 30 => IsV undef
  | 31 => IsV undef
  | 32 => IsV undef
  | 33 => IsV (.bool true)
  | _ => fun _ _ => True
theorem rwA_kept (ba oa n c j : Nat) (x1 : Int) : ∀ i v w w', rwA ba oa n c j x1 i v w → Only [] w w' → rwA ba oa n c j x1 i v w'
  | 0, _, _, _, h, _ => h
  | 1, _, _, _, h, _ => h
  | 2, _, _, _, h, _ => h
  | 3, _, _, _, h, _ => h
  | 4, _, _, _, h, _ => h
  | 5, _, _, _, h, _ => h
  | 6, _, _, _, h, _ => h
  | 7, _, _, _, h, _ => h
  | 8, _, _, _, h, _ => h
  | 9, _, _, _, h, _ => h
  | 10, _, _, _, h, _ => h
  | 11, _, _, _, h, _ => h
  | 12, _, _, _, h, _ => h
  | 13, _, _, _, h, _ => h
  | 14, _, _, _, h, _ => h
  | 15, _, _, _, h, _ => h
  | 16, _, _, _, h, _ => h
  | 17, _, _, _, h, _ => h
  | 18, _, _, _, h, _ => h
  | 19, _, _, _, h, _ => h
  | 20, _, _, _, h, _ => h
  | 21, _, _, _, h, _ => h
  | 22, _, _, _, h, _ => h
  | 23, _, _, _, h, _ => h
  | 24, _, _, _, h, _ => h
  | 25, _, _, _, h, _ => h
  | 26, _, _, _, h, _ => h
  | 27, _, _, _, h, _ => h
  | 28, _, _, _, h, _ => h
  | 29, _, _, _, h, _ => h
  | 30, _, _, _, h, _ => h
  | 31, _, _, _, h, _ => h
  | 32, _, _, _, h, _ => h
  | 33, _, _, _, h, _ => h
  | _ + 34, _, _, _, _, _ => trivial
def rwB (ba oa n c j : Nat) (x1 : Int) (x2 : List Nat) : Nat → Value → World → Prop
  | 0 => IsV (.slice (some ⟨ba, oa, none⟩) n c)
  | 1 => IsV (.int .i64 (j : Int))
  | 2 => IsV (.pointer (some ⟨ba, oa + j * 2, none⟩))
  | 3 => IsV (.pointer (some ⟨ba, oa + j * 2 + 0, none⟩))
  | 4 => IsV (.int .i64 x1)
  | 5 => IsV (.bool true)
  | 6 => IsV (.bool false)
  | 7 => IsV (.bool false)
  | 8 => IsV (.slice (some ⟨ba, oa, none⟩) n c)
  | 9 => IsV (.int .i64 (j : Int))
  | 10 => IsV (.pointer (some ⟨ba, oa + j * 2, none⟩))
  | 11 => IsV (.pointer (some ⟨ba, oa + j * 2 + 1, none⟩))
  | 12 => SrcV [] x2
  | 13 => IsV (.int .i64 (x2.length : Int))
  | 14 => IsV (.bool true)
  | 15 => IsV (.bool true)
  | 16 => IsV (.bool true)
  | 17 => IsV undef
  | 18 => IsV undef
  | 19 => IsV undef
  | 20 => IsV undef
  | 21 => IsV undef
  | 22 => IsV undef
  | 23 => IsV undef
  | 24 => IsV undef
  | 25 => IsV undef
  | 26 => IsV undef
  | 27 => IsV undef
  | 28 => IsV undef
  | 29 => IsV undef
  | 30 => IsV undef
  | 31 => IsV undef
  | 32 => IsV undef
  | 33 => IsV (.bool true)
  | _ => fun _ _ => True
theorem rwB_kept (ba oa n c j : Nat) (x1 : Int) (x2 : List Nat) : ∀ i v w w', rwB ba oa n c j x1 x2 i v w → Only [] w w' → rwB ba oa n c j x1 x2 i v w'
  | 0, _, _, _, h, _ => h
  | 1, _, _, _, h, _ => h
  | 2, _, _, _, h, _ => h
  | 3, _, _, _, h, _ => h
  | 4, _, _, _, h, _ => h
  | 5, _, _, _, h, _ => h
  | 6, _, _, _, h, _ => h
  | 7, _, _, _, h, _ => h
  | 8, _, _, _, h, _ => h
  | 9, _, _, _, h, _ => h
  | 10, _, _, _, h, _ => h
  | 11, _, _, _, h, _ => h
  | 12, _, _, _, h, ho => SrcV.kept h ho
  | 13, _, _, _, h, _ => h
  | 14, _, _, _, h, _ => h
  | 15, _, _, _, h, _ => h
  | 16, _, _, _, h, _ => h
  | 17, _, _, _, h, _ => h
  | 18, _, _, _, h, _ => h
  | 19, _, _, _, h, _ => h
  | 20, _, _, _, h, _ => h
  | 21, _, _, _, h, _ => h
  | 22, _, _, _, h, _ => h
  | 23, _, _, _, h, _ => h
  | 24, _, _, _, h, _ => h
  | 25, _, _, _, h, _ => h
  | 26, _, _, _, h, _ => h
  | 27, _, _, _, h, _ => h
  | 28, _, _, _, h, _ => h
  | 29, _, _, _, h, _ => h
  | 30, _, _, _, h, _ => h
  | 31, _, _, _, h, _ => h
  | 32, _, _, _, h, _ => h
  | 33, _, _, _, h, _ => h
  | _ + 34, _, _, _, _, _ => trivial
def rwC (ba oa n c j : Nat) (x1 : Int) (x2 : List Nat) : Nat → Value → World → Prop
  | 0 => IsV (.slice (some ⟨ba, oa, none⟩) n c)
  | 1 => IsV (.int .i64 (j : Int))
  | 2 => IsV (.pointer (some ⟨ba, oa + j * 2, none⟩))
  | 3 => IsV (.pointer (some ⟨ba, oa + j * 2 + 0, none⟩))
  | 4 => IsV (.int .i64 x1)
  | 5 => IsV (.bool true)
  | 6 => IsV (.bool false)
  | 7 => IsV (.bool false)
  | 8 => IsV (.slice (some ⟨ba, oa, none⟩) n c)
  | 9 => IsV (.int .i64 (j : Int))
  | 10 => IsV (.pointer (some ⟨ba, oa + j * 2, none⟩))
  | 11 => IsV (.pointer (some ⟨ba, oa + j * 2 + 1, none⟩))
  | 12 => SrcV [] x2
  | 13 => IsV (.int .i64 (x2.length : Int))
  | 14 => IsV (.bool false)
  | 15 => IsV (.bool false)
  | 16 => IsV (.bool false)
  | 17 => IsV (.int .i64 (j : Int))
  | 18 => IsV (.bool false)
  | 19 => IsV (.bool false)
  | 20 => IsV undef
  | 21 => IsV undef
  | 22 => IsV undef
  | 23 => IsV undef
  | 24 => IsV undef
  | 25 => IsV undef
  | 26 => IsV undef
  | 27 => IsV undef
  | 28 => IsV undef
  | 29 => IsV undef
  | 30 => IsV undef
  | 31 => IsV undef
  | 32 => IsV (.bool false)
  | 33 => IsV (.bool false)
  | _ => fun _ _ => True
theorem rwC_kept (ba oa n c j : Nat) (x1 : Int) (x2 : List Nat) : ∀ i v w w', rwC ba oa n c j x1 x2 i v w → Only [] w w' → rwC ba oa n c j x1 x2 i v w'
  | 0, _, _, _, h, _ => h
  | 1, _, _, _, h, _ => h
  | 2, _, _, _, h, _ => h
  | 3, _, _, _, h, _ => h
  | 4, _, _, _, h, _ => h
  | 5, _, _, _, h, _ => h
  | 6, _, _, _, h, _ => h
  | 7, _, _, _, h, _ => h
  | 8, _, _, _, h, _ => h
  | 9, _, _, _, h, _ => h
  | 10, _, _, _, h, _ => h
  | 11, _, _, _, h, _ => h
  | 12, _, _, _, h, ho => SrcV.kept h ho
  | 13, _, _, _, h, _ => h
  | 14, _, _, _, h, _ => h
  | 15, _, _, _, h, _ => h
  | 16, _, _, _, h, _ => h
  | 17, _, _, _, h, _ => h
  | 18, _, _, _, h, _ => h
  | 19, _, _, _, h, _ => h
  | 20, _, _, _, h, _ => h
  | 21, _, _, _, h, _ => h
  | 22, _, _, _, h, _ => h
  | 23, _, _, _, h, _ => h
  | 24, _, _, _, h, _ => h
  | 25, _, _, _, h, _ => h
  | 26, _, _, _, h, _ => h
  | 27, _, _, _, h, _ => h
  | 28, _, _, _, h, _ => h
  | 29, _, _, _, h, _ => h
  | 30, _, _, _, h, _ => h
  | 31, _, _, _, h, _ => h
  | 32, _, _, _, h, _ => h
  | 33, _, _, _, h, _ => h
  | _ + 34, _, _, _, _, _ => trivial
def rwD (ba oa n c j ip : Nat) (x1 pv : Int) (x2 : List Nat) : Nat → Value → World → Prop
  | 0 => IsV (.slice (some ⟨ba, oa, none⟩) n c)
  | 1 => IsV (.int .i64 (j : Int))
  | 2 => IsV (.pointer (some ⟨ba, oa + j * 2, none⟩))
  | 3 => IsV (.pointer (some ⟨ba, oa + j * 2 + 0, none⟩))
  | 4 => IsV (.int .i64 x1)
  | 5 => IsV (.bool true)
  | 6 => IsV (.bool false)
  | 7 => IsV (.bool false)
  | 8 => IsV (.slice (some ⟨ba, oa, none⟩) n c)
  | 9 => IsV (.int .i64 (j : Int))
  | 10 => IsV (.pointer (some ⟨ba, oa + j * 2, none⟩))
  | 11 => IsV (.pointer (some ⟨ba, oa + j * 2 + 1, none⟩))
  | 12 => SrcV [] x2
  | 13 => IsV (.int .i64 (x2.length : Int))
  | 14 => IsV (.bool false)
  | 15 => IsV (.bool false)
  | 16 => IsV (.bool false)
  | 17 => IsV (.int .i64 (j : Int))
  | 18 => IsV (.bool true)
  | 19 => IsV (.bool true)
  | 20 => IsV (.slice (some ⟨ba, oa, none⟩) n c)
  | 21 => IsV (.int .i64 (j : Int))
  | 22 => IsV (.pointer (some ⟨ba, oa + j * 2, none⟩))
  | 23 => IsV (.pointer (some ⟨ba, oa + j * 2 + 0, none⟩))
  | 24 => IsV (.int .i64 x1)
  | 25 => IsV (.slice (some ⟨ba, oa, none⟩) n c)
  | 26 => IsV (.int .i64 (j : Int))
  | 27 => IsV (.int .i64 (ip : Int))
  | 28 => IsV (.pointer (some ⟨ba, oa + ip * 2, none⟩))
  | 29 => IsV (.pointer (some ⟨ba, oa + ip * 2 + 0, none⟩))
  | 30 => IsV (.int .i64 pv)
  | 31 => IsV (.bool true)
  | 32 => IsV (.bool true)
  | 33 => IsV (.bool true)
  | _ => fun _ _ => True
theorem rwD_kept (ba oa n c j ip : Nat) (x1 pv : Int) (x2 : List Nat) : ∀ i v w w', rwD ba oa n c j ip x1 pv x2 i v w → Only [] w w' → rwD ba oa n c j ip x1 pv x2 i v w'
  | 0, _, _, _, h, _ => h
  | 1, _, _, _, h, _ => h
  | 2, _, _, _, h, _ => h
  | 3, _, _, _, h, _ => h
  | 4, _, _, _, h, _ => h
  | 5, _, _, _, h, _ => h
  | 6, _, _, _, h, _ => h
  | 7, _, _, _, h, _ => h
  | 8, _, _, _, h, _ => h
  | 9, _, _, _, h, _ => h
  | 10, _, _, _, h, _ => h
  | 11, _, _, _, h, _ => h
  | 12, _, _, _, h, ho => SrcV.kept h ho
  | 13, _, _, _, h, _ => h
  | 14, _, _, _, h, _ => h
  | 15, _, _, _, h, _ => h
  | 16, _, _, _, h, _ => h
  | 17, _, _, _, h, _ => h
  | 18, _, _, _, h, _ => h
  | 19, _, _, _, h, _ => h
  | 20, _, _, _, h, _ => h
  | 21, _, _, _, h, _ => h
  | 22, _, _, _, h, _ => h
  | 23, _, _, _, h, _ => h
  | 24, _, _, _, h, _ => h
  | 25, _, _, _, h, _ => h
  | 26, _, _, _, h, _ => h
  | 27, _, _, _, h, _ => h
  | 28, _, _, _, h, _ => h
  | 29, _, _, _, h, _ => h
  | 30, _, _, _, h, _ => h
  | 31, _, _, _, h, _ => h
  | 32, _, _, _, h, _ => h
  | 33, _, _, _, h, _ => h
  | _ + 34, _, _, _, _, _ => trivial
def rwE (ba oa n c j ip : Nat) (x1 pv : Int) (x2 : List Nat) : Nat → Value → World → Prop
  | 0 => IsV (.slice (some ⟨ba, oa, none⟩) n c)
  | 1 => IsV (.int .i64 (j : Int))
  | 2 => IsV (.pointer (some ⟨ba, oa + j * 2, none⟩))
  | 3 => IsV (.pointer (some ⟨ba, oa + j * 2 + 0, none⟩))
  | 4 => IsV (.int .i64 x1)
  | 5 => IsV (.bool true)
  | 6 => IsV (.bool false)
  | 7 => IsV (.bool false)
  | 8 => IsV (.slice (some ⟨ba, oa, none⟩) n c)
  | 9 => IsV (.int .i64 (j : Int))
  | 10 => IsV (.pointer (some ⟨ba, oa + j * 2, none⟩))
  | 11 => IsV (.pointer (some ⟨ba, oa + j * 2 + 1, none⟩))
  | 12 => SrcV [] x2
  | 13 => IsV (.int .i64 (x2.length : Int))
  | 14 => IsV (.bool false)
  | 15 => IsV (.bool false)
  | 16 => IsV (.bool false)
  | 17 => IsV (.int .i64 (j : Int))
  | 18 => IsV (.bool true)
  | 19 => IsV (.bool true)
  | 20 => IsV (.slice (some ⟨ba, oa, none⟩) n c)
  | 21 => IsV (.int .i64 (j : Int))
  | 22 => IsV (.pointer (some ⟨ba, oa + j * 2, none⟩))
  | 23 => IsV (.pointer (some ⟨ba, oa + j * 2 + 0, none⟩))
  | 24 => IsV (.int .i64 x1)
  | 25 => IsV (.slice (some ⟨ba, oa, none⟩) n c)
  | 26 => IsV (.int .i64 (j : Int))
  | 27 => IsV (.int .i64 (ip : Int))
  | 28 => IsV (.pointer (some ⟨ba, oa + ip * 2, none⟩))
  | 29 => IsV (.pointer (some ⟨ba, oa + ip * 2 + 0, none⟩))
  | 30 => IsV (.int .i64 pv)
  | 31 => IsV (.bool false)
  | 32 => IsV (.bool false)
  | 33 => IsV (.bool false)
  | _ => fun _ _ => True
theorem rwE_kept (ba oa n c j ip : Nat) (x1 pv : Int) (x2 : List Nat) : ∀ i v w w', rwE ba oa n c j ip x1 pv x2 i v w → Only [] w w' → rwE ba oa n c j ip x1 pv x2 i v w'
  | 0, _, _, _, h, _ => h
  | 1, _, _, _, h, _ => h
  | 2, _, _, _, h, _ => h
  | 3, _, _, _, h, _ => h
  | 4, _, _, _, h, _ => h
  | 5, _, _, _, h, _ => h
  | 6, _, _, _, h, _ => h
  | 7, _, _, _, h, _ => h
  | 8, _, _, _, h, _ => h
  | 9, _, _, _, h, _ => h
  | 10, _, _, _, h, _ => h
  | 11, _, _, _, h, _ => h
  | 12, _, _, _, h, ho => SrcV.kept h ho
  | 13, _, _, _, h, _ => h
  | 14, _, _, _, h, _ => h
  | 15, _, _, _, h, _ => h
  | 16, _, _, _, h, _ => h
  | 17, _, _, _, h, _ => h
  | 18, _, _, _, h, _ => h
  | 19, _, _, _, h, _ => h
  | 20, _, _, _, h, _ => h
  | 21, _, _, _, h, _ => h
  | 22, _, _, _, h, _ => h
  | 23, _, _, _, h, _ => h
  | 24, _, _, _, h, _ => h
  | 25, _, _, _, h, _ => h
  | 26, _, _, _, h, _ => h
  | 27, _, _, _, h, _ => h
  | 28, _, _, _, h, _ => h
  | 29, _, _, _, h, _ => h
  | 30, _, _, _, h, _ => h
  | 31, _, _, _, h, _ => h
  | 32, _, _, _, h, _ => h
  | 33, _, _, _, h, _ => h
  | _ + 34, _, _, _, _, _ => trivial
theorem frame26 {A F : Array Value} (hs : A.size = 47) (h : ∀ t, [10, 11, 12, 13, 14, 15, 16, 17, 18, 19, 20, 21, 22, 23, 24, 25, 26, 27, 28, 29, 30, 31, 32, 33, 34, 35, 36, 37, 38, 39, 40, 41, 42, 43].contains t = false → A.getD t undef = F.getD t undef) : A = #[F.getD 0 undef, F.getD 1 undef, F.getD 2 undef, F.getD 3 undef, F.getD 4 undef, F.getD 5 undef, F.getD 6 undef, F.getD 7 undef, F.getD 8 undef, F.getD 9 undef, A.getD 10 undef, A.getD 11 undef, A.getD 12 undef, A.getD 13 undef, A.getD 14 undef, A.getD 15 undef, A.getD 16 undef, A.getD 17 undef, A.getD 18 undef, A.getD 19 undef, A.getD 20 undef, A.getD 21 undef, A.getD 22 undef, A.getD 23 undef, A.getD 24 undef, A.getD 25 undef, A.getD 26 undef, A.getD 27 undef, A.getD 28 undef, A.getD 29 undef, A.getD 30 undef, A.getD 31 undef, A.getD 32 undef, A.getD 33 undef, A.getD 34 undef, A.getD 35 undef, A.getD 36 undef, A.getD 37 undef, A.getD 38 undef, A.getD 39 undef, A.getD 40 undef, A.getD 41 undef, A.getD 42 undef, A.getD 43 undef, F.getD 44 undef, F.getD 45 undef, F.getD 46 undef] := by
  rw [← h 0 (by decide), ← h 1 (by decide), ← h 2 (by decide), ← h 3 (by decide), ← h 4 (by decide), ← h 5 (by decide), ← h 6 (by decide), ← h 7 (by decide), ← h 8 (by decide), ← h 9 (by decide), ← h 44 (by decide), ← h 45 (by decide), ← h 46 (by decide)]
  refine Array.ext (by simp [hs]) (fun i h1 h2 => ?_)
  have e : A[i] = A.getD i undef := by simp [h1]
  rw [e]
  rw [hs] at h1
  clear e h hs
  match i, h1 with
  | 0, _ => rfl
  | 1, _ => rfl
  | 2, _ => rfl
  | 3, _ => rfl
  | 4, _ => rfl
  | 5, _ => rfl
  | 6, _ => rfl
  | 7, _ => rfl
  | 8, _ => rfl
  | 9, _ => rfl
  | 10, _ => rfl
  | 11, _ => rfl
  | 12, _ => rfl
  | 13, _ => rfl
  | 14, _ => rfl
  | 15, _ => rfl
  | 16, _ => rfl
  | 17, _ => rfl
  | 18, _ => rfl
  | 19, _ => rfl
  | 20, _ => rfl
  | 21, _ => rfl
  | 22, _ => rfl
  | 23, _ => rfl
  | 24, _ => rfl
  | 25, _ => rfl
  | 26, _ => rfl
  | 27, _ => rfl
  | 28, _ => rfl
  | 29, _ => rfl
  | 30, _ => rfl
  | 31, _ => rfl
  | 32, _ => rfl
  | 33, _ => rfl
  | 34, _ => rfl
  | 35, _ => rfl
  | 36, _ => rfl
  | 37, _ => rfl
  | 38, _ => rfl
  | 39, _ => rfl
  | 40, _ => rfl
  | 41, _ => rfl
  | 42, _ => rfl
  | 43, _ => rfl
  | 44, _ => rfl
  | 45, _ => rfl
  | 46, _ => rfl
  | _ + 47, h => exact absurd h (by omega)
end Go.Proofs.YtfjdaafckiefdaaGreatDoor.E9
