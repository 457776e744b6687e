/- Laws for the walk of MacSpreads. -/
import Derived.Test.YtnbdadhdpplldabDoorRExp
namespace Go.Proofs.YtnbdadhdpplldabDoor
open Go.RowKit
namespace Mk
theorem row_prefix (key info : List Nat) (M K' : Nat) (h : M ≤ 32 * K') : ∀ K, K' ≤ K → (row key info K).take M = (row key info K').take M
  | 0, hK => by rw [show K' = 0 by omega]
  | K + 1, hK => by
    by_cases e : K' = K + 1
    · rw [e]
    · rw [row, List.take_append_of_le_length (by rw [row_length]; omega)]
      exact row_prefix key info M K' h K (by omega)
theorem spread_take (key info : List Nat) (N M : Nat) (h : M ≤ N) : (spread key info N).take M = spread key info M := by
  rw [spread, List.take_take, Nat.min_eq_left h, spread]
  exact row_prefix key info M _ (by omega) _ (by omega)
end Mk
section
variable {o : Oper} {a' : Act} {w' : World}
theorem own_cut_run {w2 : World} {base N M : Nat} {v : Value} {l : List Nat} (t u : Tmp) (hown : w2.ownsRow base 5 1 v N (ints .u8 l)) (hs : ∀ x ∈ l, x < 256) (hl : l.length = N) (hb : Below w2.heap.size w2 w')
    (h0 : a'.tmps.getD t undef = v) (h1 : a'.tmps.getD u undef = .int .i64 (M : Nat)) (hM : M ≤ N) : ∃ v', (∀ o : Oper, o.op = .slice 22 (.tmp t) none (some (.tmp u)) none → (execOp a'.eval o).run Tryd.prog w' = .ok (.value v') w') ∧ BytesAt w' v' (l.take M) := by
  by_cases hN : N = 0
  · subst hN
    obtain rfl : M = 0 := by omega
    obtain rfl : l = [] := List.eq_nil_of_length_eq_zero hl
    rcases hown.2 with ⟨rfl, _⟩ | ⟨g, cap, cur, rfl, _⟩
    · have e0 : a'.eval (.tmp t) = .slice none 0 0 := h0
      have e2 : a'.eval (.tmp u) = .int .i64 ((0 : Nat) : Int) := h1
      have hel : Tryd.prog.elem 22 = 5 := by kernel_rfl
      have hrun := run_slice_h (P := Tryd.prog) w' 22 none 0 0 elem22 .i64 ((0 : Nat) : Int) (by omega) (by omega)
      rw [hel] at hrun
      refine ⟨.slice none 0 0, fun o ho => ?_, bytesAt_none _ _ _⟩
      unfold execOp
      simp only [ho]
      generalize a'.eval = r at *
      simp only [e0, e2, Sem.run_bind, Option.map_some, Option.map_none, run_sliceAt_slice (P := Tryd.prog) (h := elem22), hrun, sizeOf, typeInfo]
      rfl
    · exact ⟨_, fun _ ho => slice_run' t u ho h0 h1 (Nat.zero_le _), bytesAt_none _ _ _⟩
  · obtain ⟨g, c, rfl, hc, _, _, hr⟩ := own_cell2 hown (by omega)
    refine ⟨_, fun _ ho => slice_run' t u ho h0 h1 (by omega), ?_⟩
    have h := bytes_cut (c := c) (m := 0) (t := M) hs hr (by omega) (by omega)
    exact bytesAt_below h hb
theorem neqe_run (t : Tmp) (ho : o.op = .binOp .neq 28 (.tmp t) (.const (.int .i64 0)) 28) (h0 : a'.tmps.getD t undef = .int .i64 0) :
    (execOp a'.eval o).run Tryd.prog w' = .ok (.value (.bool false)) w' := by
  unfold execOp
  simp only [ho, Act.eval, h0]
  simp [go_sem]
theorem eqe_run (t : Tmp) (ho : o.op = .binOp .eql 28 (.tmp t) (.const (.int .i64 0)) 28) (h0 : a'.tmps.getD t undef = .int .i64 0) :
    (execOp a'.eval o).run Tryd.prog w' = .ok (.value (.bool true)) w' := by
  unfold execOp
  simp only [ho, Act.eval, h0]
  simp [go_sem]
theorem pick_else {t u : Tmp} {r : Operand} (h0 : a'.tmps.getD t undef = .bool false) (h1 : a'.tmps.getD u undef = .bool false) (ho : o.op = .pick (.tmp t) r (.tmp u)) :
    (execOp a'.eval o).run Tryd.prog w' = .ok (.value (.bool false)) w' := by
  unfold execOp
  simp only [ho, Act.eval, h0, h1]
  simp [go_sem]
theorem wanted_else {ops : Array Oper} (j : Nat) (d : Tmp) (hg : o.guard = some (j, false)) (hd : (ops[j]?).bind (·.dst) = some d) (hv : a'.tmps.getD d undef = .bool false) : Region.wanted o (yielded ops a'.tmps) = true := by
  have hsome : a'.tmps[d]? = some (.bool false) := by
    cases h : a'.tmps[d]? with
    | none => simp [h, undef] at hv
    | some x => simpa [h] using hv
  simp [Region.wanted, hg, yielded, hd, hsome]
end
theorem dst_in {ops : Array Oper} {lo up : Nat} (h : (ops.toList.all fun o => match o.dst with | some d => decide (lo ≤ d) && decide (up ≥ d) | none => true) = true) (t : Nat) (ht : t < lo ∨ up < t) (i : Nat) : (ops[i]?).bind (·.dst) ≠ some t := fun e => by
  obtain ⟨o, ho, hd⟩ := Option.bind_eq_some_iff.1 e
  have h1 := List.all_eq_true.1 h o (by obtain ⟨hi, rfl⟩ := Array.getElem?_eq_some_iff.1 ho; simp)
  simp only [hd, Bool.and_eq_true, decide_eq_true_eq] at h1
  obtain ⟨h2, h3⟩ := h1
  omega
theorem frame88 {A F : Array Value} (hs : A.size = 88) (h : ∀ t, t < 51 ∨ 62 < t → A.getD t undef = F.getD t undef) : A = #[F.getD 0 undef, F.getD 1 undef, F.getD 2 undef, F.getD 3 undef, F.getD 4 undef, F.getD 5 undef, F.getD 6 undef, F.getD 7 undef, F.getD 8 undef, F.getD 9 undef, F.getD 10 undef, F.getD 11 undef, F.getD 12 undef, F.getD 13 undef, F.getD 14 undef, F.getD 15 undef, F.getD 16 undef, F.getD 17 undef, F.getD 18 undef, F.getD 19 undef, F.getD 20 undef, F.getD 21 undef, F.getD 22 undef, F.getD 23 undef, F.getD 24 undef, F.getD 25 undef, F.getD 26 undef, F.getD 27 undef, F.getD 28 undef, F.getD 29 undef, F.getD 30 undef, F.getD 31 undef, F.getD 32 undef, F.getD 33 undef, F.getD 34 undef, F.getD 35 undef, F.getD 36 undef, F.getD 37 undef, F.getD 38 undef, F.getD 39 undef, F.getD 40 undef, F.getD 41 undef, F.getD 42 undef, F.getD 43 undef, F.getD 44 undef, F.getD 45 undef, F.getD 46 undef, F.getD 47 undef, F.getD 48 undef, F.getD 49 undef, F.getD 50 undef, A.getD 51 undef, A.getD 52 undef, A.getD 53 undef, A.getD 54 undef, A.getD 55 undef, A.getD 56 undef, A.getD 57 undef, A.getD 58 undef, A.getD 59 undef, A.getD 60 undef, A.getD 61 undef, A.getD 62 undef, F.getD 63 undef, F.getD 64 undef, F.getD 65 undef, F.getD 66 undef, F.getD 67 undef, F.getD 68 undef, F.getD 69 undef, F.getD 70 undef, F.getD 71 undef, F.getD 72 undef, F.getD 73 undef, F.getD 74 undef, F.getD 75 undef, F.getD 76 undef, F.getD 77 undef, F.getD 78 undef, F.getD 79 undef, F.getD 80 undef, F.getD 81 undef, F.getD 82 undef, F.getD 83 undef, F.getD 84 undef, F.getD 85 undef, F.getD 86 undef, F.getD 87 undef] := by
  rw [← h 0 (by decide), ← h 1 (by decide), ← h 2 (by decide), ← h 3 (by decide), ← h 4 (by decide), ← h 5 (by decide), ← h 6 (by decide), ← h 7 (by decide), ← h 8 (by decide), ← h 9 (by decide), ← h 10 (by decide), ← h 11 (by decide), ← h 12 (by decide), ← h 13 (by decide), ← h 14 (by decide), ← h 15 (by decide), ← h 16 (by decide), ← h 17 (by decide), ← h 18 (by decide), ← h 19 (by decide), ← h 20 (by decide), ← h 21 (by decide), ← h 22 (by decide), ← h 23 (by decide), ← h 24 (by decide), ← h 25 (by decide), ← h 26 (by decide), ← h 27 (by decide), ← h 28 (by decide), ← h 29 (by decide), ← h 30 (by decide), ← h 31 (by decide), ← h 32 (by decide), ← h 33 (by decide), ← h 34 (by decide), ← h 35 (by decide), ← h 36 (by decide), ← h 37 (by decide), ← h 38 (by decide), ← h 39 (by decide), ← h 40 (by decide), ← h 41 (by decide), ← h 42 (by decide), ← h 43 (by decide), ← h 44 (by decide), ← h 45 (by decide), ← h 46 (by decide), ← h 47 (by decide), ← h 48 (by decide), ← h 49 (by decide), ← h 50 (by decide), ← h 63 (by decide), ← h 64 (by decide), ← h 65 (by decide), ← h 66 (by decide), ← h 67 (by decide), ← h 68 (by decide), ← h 69 (by decide), ← h 70 (by decide), ← h 71 (by decide), ← h 72 (by decide), ← h 73 (by decide), ← h 74 (by decide), ← h 75 (by decide), ← h 76 (by decide), ← h 77 (by decide), ← h 78 (by decide), ← h 79 (by decide), ← h 80 (by decide), ← h 81 (by decide), ← h 82 (by decide), ← h 83 (by decide), ← h 84 (by decide), ← h 85 (by decide), ← h 86 (by decide), ← h 87 (by decide)]
  refine Array.ext (by simp [hs]) (fun i h1 h2 => ?_)
  have e : A[i] = A.getD i undef := by simp [h1]
  rw [e]
  rw [hs] at h1
  clear e h hs
  match i, h1 with
  | 0, _ => rfl
  | 1, _ => rfl
  | 2, _ => rfl
  | 3, _ => rfl
  | 4, _ => rfl
  | 5, _ => rfl
  | 6, _ => rfl
  | 7, _ => rfl
  | 8, _ => rfl
  | 9, _ => rfl
  | 10, _ => rfl
  | 11, _ => rfl
  | 12, _ => rfl
  | 13, _ => rfl
  | 14, _ => rfl
  | 15, _ => rfl
  | 16, _ => rfl
  | 17, _ => rfl
  | 18, _ => rfl
  | 19, _ => rfl
  | 20, _ => rfl
  | 21, _ => rfl
  | 22, _ => rfl
  | 23, _ => rfl
  | 24, _ => rfl
  | 25, _ => rfl
  | 26, _ => rfl
  | 27, _ => rfl
  | 28, _ => rfl
  | 29, _ => rfl
  | 30, _ => rfl
  | 31, _ => rfl
  | 32, _ => rfl
  | 33, _ => rfl
  | 34, _ => rfl
  | 35, _ => rfl
  | 36, _ => rfl
  | 37, _ => rfl
  | 38, _ => rfl
  | 39, _ => rfl
  | 40, _ => rfl
  | 41, _ => rfl
  | 42, _ => rfl
  | 43, _ => rfl
  | 44, _ => rfl
  | 45, _ => rfl
  | 46, _ => rfl
  | 47, _ => rfl
  | 48, _ => rfl
  | 49, _ => rfl
  | 50, _ => rfl
  | 51, _ => rfl
  | 52, _ => rfl
  | 53, _ => rfl
  | 54, _ => rfl
  | 55, _ => rfl
  | 56, _ => rfl
  | 57, _ => rfl
  | 58, _ => rfl
  | 59, _ => rfl
  | 60, _ => rfl
  | 61, _ => rfl
  | 62, _ => rfl
  | 63, _ => rfl
  | 64, _ => rfl
  | 65, _ => rfl
  | 66, _ => rfl
  | 67, _ => rfl
  | 68, _ => rfl
  | 69, _ => rfl
  | 70, _ => rfl
  | 71, _ => rfl
  | 72, _ => rfl
  | 73, _ => rfl
  | 74, _ => rfl
  | 75, _ => rfl
  | 76, _ => rfl
  | 77, _ => rfl
  | 78, _ => rfl
  | 79, _ => rfl
  | 80, _ => rfl
  | 81, _ => rfl
  | 82, _ => rfl
  | 83, _ => rfl
  | 84, _ => rfl
  | 85, _ => rfl
  | 86, _ => rfl
  | 87, _ => rfl
  | i + 88, h => omega
def sprV (out x y z : Value) (S : List Nat) : Nat → Value → World → Prop
  | 0 => IsV (.int .i64 0)
  | 1 => IsV (.bool false)
  | 2 => IsV (.bool false)
  | 3 => IsV out
  | 4 => StrV S
  | 5 => IsV x
  | 6 => IsV y
  | 7 => IsV z
  | 8 => BV S
  | 9 => StrV S
  | 10 => IsV (.bool false)
  | 11 => IsV (.bool false)
  | _ => fun _ _ => True
theorem sprV_kept (out x y z : Value) (S : List Nat) : ∀ i v w w', sprV out x y z S i v w → Below w.heap.size w w' → sprV out x y z S i v w'
  | 0, _, _, _, h, _ => h
  | 1, _, _, _, h, _ => h
  | 2, _, _, _, h, _ => h
  | 3, _, _, _, h, _ => h
  | 4, _, _, _, h, _ => h
  | 5, _, _, _, h, _ => h
  | 6, _, _, _, h, _ => h
  | 7, _, _, _, h, _ => h
  | 8, _, _, _, h, hb => BV.kept h hb
  | 9, _, _, _, h, _ => h
  | 10, _, _, _, h, _ => h
  | 11, _, _, _, h, _ => h
  | _ + 12, _, _, _, _, _ => trivial
def fewV (out b f : Value) (S : List Nat) : Nat → Value → World → Prop
  | 0 => IsV (.int .i64 0)
  | 1 => IsV (.bool true)
  | 2 => IsV (.bool true)
  | 3 => IsV b
  | 4 => StrV S
  | 5 => IsV out
  | 6 => IsV f
  | 7 => BV S
  | 8 => StrV S
  | 9 => IsV (.bool true)
  | 10 => IsV (.bool true)
  | 11 => IsV (.bool true)
  | _ => fun _ _ => True
theorem fewV_kept (out b f : Value) (S : List Nat) : ∀ i v w w', fewV out b f S i v w → Below w.heap.size w w' → fewV out b f S i v w'
  | 0, _, _, _, h, _ => h
  | 1, _, _, _, h, _ => h
  | 2, _, _, _, h, _ => h
  | 3, _, _, _, h, _ => h
  | 4, _, _, _, h, _ => h
  | 5, _, _, _, h, _ => h
  | 6, _, _, _, h, _ => h
  | 7, _, _, _, h, hb => BV.kept h hb
  | 8, _, _, _, h, _ => h
  | 9, _, _, _, h, _ => h
  | 10, _, _, _, h, _ => h
  | 11, _, _, _, h, _ => h
  | _ + 12, _, _, _, _, _ => trivial
end Go.Proofs.YtnbdadhdpplldabDoor
