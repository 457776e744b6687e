/- The two regions of Apply that draw their order: what stands between their operations, and their steps. -/
import Derived.Test.YtmlnbbggfjgacaaP10Wout
import Derived.Test.YtmlnbbggfjgacaaP10First
import Derived.Test.YtmlnbbggfjgacaaP10May
import Derived.Test.YtmlnbbggfjgacaaMgB
namespace Go.Proofs.Ytmlnbbggfjgacaa.P10
open Go.RowKit C8 E9
section
variable {o : Oper} {a' : Act} {w' : World}
theorem fa26_0 (b : Nat) (w : World) : (Instr.fieldAt 26 (.pointer (some ⟨b, 0, none⟩)) 0).run Try.prog w = .ok (.pointer (some ⟨b, 0, none⟩)) w := by simp [go_sem]
theorem fa26_2 (b : Nat) (w : World) : (Instr.fieldAt 26 (.pointer (some ⟨b, 0, none⟩)) 2).run Try.prog w = .ok (.pointer (some ⟨b, 2, none⟩)) w := by simp [go_sem]
theorem fa38_5 (b : Nat) (w : World) : (Instr.fieldAt 38 (.pointer (some ⟨b, 0, none⟩)) 5).run Try.prog w = .ok (.pointer (some ⟨b, 5, none⟩)) w := by simp [go_sem]
theorem fa38_6 (b : Nat) (w : World) : (Instr.fieldAt 38 (.pointer (some ⟨b, 0, none⟩)) 6).run Try.prog w = .ok (.pointer (some ⟨b, 6, none⟩)) w := by simp [go_sem]
theorem ld24 {b k : Nat} {q : Option Addr} {n c : Nat} {w : World} (h : w.cell? ⟨b, k, none⟩ = some (.slice q n c)) : (Instr.loadAt 24 (.pointer (some ⟨b, k, none⟩))).run Try.prog w = .ok (.slice q n c) w := by simp [go_sem, h]
theorem al26_run (ho : o.op = .alloc 26) : (execOp a'.eval o).run Try.prog w' = .ok (.value (.pointer (some ⟨w'.heap.size, 0, none⟩))) (w'.alloc (.cells z3 26)) := by
  unfold execOp
  simp only [ho]
  generalize a'.eval = r at *
  simp [go_sem, z3]
theorem bl26_run (s t u : Tmp) (x y : Int) (q : Option Addr) (n c : Nat) (ho : o.op = .build 26 #[(0, .tmp s), (1, .tmp t), (2, .tmp u)]) (h0 : a'.tmps.getD s undef = .int .i64 x) (h1 : a'.tmps.getD t undef = .int .i64 y) (h2 : a'.tmps.getD u undef = .slice q n c) :
    (execOp a'.eval o).run Try.prog w' = .ok (.value (.agg #[.int .i64 x, .int .i64 y, .slice q n c])) w' := by
  have e0 : a'.eval (.tmp s) = .int .i64 x := h0
  have e1 : a'.eval (.tmp t) = .int .i64 y := h1
  have e2 : a'.eval (.tmp u) = .slice q n c := h2
  unfold execOp
  simp only [ho]
  generalize a'.eval = r at *
  simp [e0, e1, e2, go_sem]
theorem bl50_run (s t : Tmp) (x y : Int) (ho : o.op = .build 50 #[(0, .tmp s), (1, .tmp t)]) (h0 : a'.tmps.getD s undef = .int .i64 x) (h1 : a'.tmps.getD t undef = .int .i64 y) :
    (execOp a'.eval o).run Try.prog w' = .ok (.value (.agg #[.int .i64 x, .int .i64 y])) w' := by
  have e0 : a'.eval (.tmp s) = .int .i64 x := h0
  have e1 : a'.eval (.tmp t) = .int .i64 y := h1
  unfold execOp
  simp only [ho]
  generalize a'.eval = r at *
  simp [e0, e1, go_sem]
theorem bs24_run (t : Tmp) (x y : Int) (ho : o.op = .buildSlice 24 1 #[(0, .tmp t)]) (h0 : a'.tmps.getD t undef = .agg #[.int .i64 x, .int .i64 y]) :
    (execOp a'.eval o).run Try.prog w' = .ok (.value (.slice (some ⟨w'.heap.size, 0, none⟩) 1 1)) (w'.alloc (.cells #[.int .i64 x, .int .i64 y] 50)) := by
  have he : a'.eval (.tmp t) = .agg #[.int .i64 x, .int .i64 y] := h0
  unfold execOp
  simp only [ho]
  generalize a'.eval = r at *
  simp [he, go_sem]
theorem st26_run (t u : Tmp) (b : Nat) (x y : Int) (q : Option Addr) (n c : Nat) (ho : o.op = .store 26 (.tmp t) (.tmp u)) (h0 : a'.tmps.getD t undef = .pointer (some ⟨b, 0, none⟩)) (h1 : a'.tmps.getD u undef = .agg #[.int .i64 x, .int .i64 y, .slice q n c]) (hc : w'.heap[b]? = some (.cells z3 26 (0, 0))) :
    (execOp a'.eval o).run Try.prog w' = .ok .skip (((w'.setCell ⟨b, 0, none⟩ (.int .i64 x)).setCell ⟨b, 1, none⟩ (.int .i64 y)).setCell ⟨b, 2, none⟩ (.slice q n c)) := by
  have he : a'.eval (.tmp t) = .pointer (some ⟨b, 0, none⟩) := h0
  have hg : a'.eval (.tmp u) = .agg #[.int .i64 x, .int .i64 y, .slice q n c] := h1
  have c0 : w'.cell? ⟨b, 0, none⟩ = some (.int .i64 0) := by rw [cell_of_row _ _ _ _ _ _ hc]; rfl
  have c1 : w'.cell? ⟨b, 1, none⟩ = some (.int .i64 0) := by rw [cell_of_row _ _ _ _ _ _ hc]; rfl
  have c2 : w'.cell? ⟨b, 2, none⟩ = some (.slice none 0 0) := by rw [cell_of_row _ _ _ _ _ _ hc]; rfl
  have f0 : w'.frozen? ⟨b, 0, none⟩ = false := frozen_of_row _ _ _ _ _ hc
  have f1 : w'.frozen? ⟨b, 1, none⟩ = false := frozen_of_row _ _ _ _ _ hc
  have f2 : w'.frozen? ⟨b, 2, none⟩ = false := frozen_of_row _ _ _ _ _ hc
  unfold execOp
  simp only [ho]
  generalize a'.eval = r at *
  simp [he, hg, go_sem, c0, c1, c2, f0, f1, f2]
theorem st24_run (t u : Tmp) (b k : Nat) (q : Option Addr) (n c : Nat) (x : Value) (ho : o.op = .store 24 (.tmp t) (.tmp u)) (h0 : a'.tmps.getD t undef = .pointer (some ⟨b, k, none⟩)) (h1 : a'.tmps.getD u undef = .slice q n c) (hc : w'.cell? ⟨b, k, none⟩ = some x) (hf : w'.frozen? ⟨b, k, none⟩ = false) :
    (execOp a'.eval o).run Try.prog w' = .ok .skip (w'.setCell ⟨b, k, none⟩ (.slice q n c)) := by
  have he : a'.eval (.tmp t) = .pointer (some ⟨b, k, none⟩) := h0
  have hg : a'.eval (.tmp u) = .slice q n c := h1
  unfold execOp
  simp only [ho]
  generalize a'.eval = r at *
  simp [he, hg, go_sem, hc, hf]
theorem ap24_run (t u : Tmp) (base j : Nat) (sl : Value) (xs : List Value) (g : Nat) (x y : Int) (ho : o.op = .call { callee := .builtin .append, args := #[.tmp t, .tmp u], argTypes := #[24, 24] }) (h0 : a'.tmps.getD t undef = sl) (h1 : a'.tmps.getD u undef = .slice (some ⟨g, 0, none⟩) 1 1)
    (hown : w'.ownsRow base 50 2 sl j xs) (hg : w'.heap[g]? = some (.cells #[.int .i64 x, .int .i64 y] 50 (0, 0))) (hj : j ≤ 1000) (hb : base ≤ w'.heap.size) :
    ∃ v w'', (execOp a'.eval o).run Try.prog w' = .ok (.value v) w'' ∧ w''.ownsRow base 50 2 v (j + 1) (xs ++ [.int .i64 x, .int .i64 y]) ∧ w'.grownBy w'' sl.ownBlock := by
  have he : a'.eval (.tmp t) = sl := h0
  have hf : a'.eval (.tmp u) = .slice (some ⟨g, 0, none⟩) 1 1 := h1
  obtain ⟨i, hi, hsz, hby, hz⟩ := info50e
  obtain ⟨v, w'', hr, k1, k2, _, _⟩ := run_append_own_at (P := Try.prog) w' base 24 o.type 50 i _ 2 16 Try.underlying24 hi hz hsz hby rfl (by decide) sl j xs hown ⟨g, 0, none⟩ 1 1 [.int .i64 x, .int .i64 y] rfl (fun m y hy => by rw [Addr.add_mid, Nat.zero_add, cell_of_row _ _ _ _ _ _ hg]; simpa using hy) (fun y hy => (List.mem_cons.1 hy).elim (fun e => by rw [e]; rfl) (fun e => by rw [List.mem_singleton.1 e]; rfl)) (by unfold maxLen; omega) (by omega) hb
  refine ⟨v, w'', ?_, k1, k2⟩
  unfold execOp
  simp only [ho, resolve, invoke, builtin, Sem.run_bind, Sem.run_pure, Result.andThen_ok, List.map_toArray, List.map_cons, List.map_nil, he, hf, hr]
theorem wpOp_skipp {P : Program} {ops : Array Oper} {i : Nat} {Q : Exit → Act → World → Prop} {w'' : World} {K : Act → World → Prop} (hi : ops[i]? = some o) (hw : Region.wanted o (yielded ops a'.tmps) = true) (hr : (execOp a'.eval o).run P w' = .ok .skip w'') (h : K (a'.put o.dst undef) w'') : wpOp P ops Q i K a' w' := by
  unfold wpOp
  simp only [hi, hw, if_true]
  refine .inl ?_
  unfold Oper.wp
  rw [hr]
  exact h
end
theorem bel_drew (B : Nat) (w : World) : Below B w { w with drawn := w.drawn + 1 } := ⟨rfl, rfl, rfl, Nat.le_refl _, fun _ _ => rfl⟩
/-- What the fourth region leaves in the end. -/
def Fin4 (B n : Nat) (xs : List Value) (pf pe : Int) (a : Act) (w : World) : Prop :=
  ∃ p q c, a.tmps.getD 7 undef = .pointer (some ⟨p, 0, none⟩) ∧ w.heap[p]? = some (.cells #[.int .i64 pf, .int .i64 pe, .slice q n c] 26 (0, 0)) ∧ B ≤ p ∧ w.ownsRow B 50 2 (.slice q n c) n xs ∧ ∀ g, (Value.slice q n c).ownBlock = some g → g ≠ p
structure S4 (B n : Nat) (xs : List Value) (pf pe : Int) (f : Nat → Bool) (a : Act) (w : World) : Prop where
  last : f 9 = true → ∀ j, j < 9 → f j = true
  seven : f 7 = true → f 6 = true
  row : f 6 = true → f 9 = false → ∃ q c, a.tmps.getD 21 undef = .slice q n c ∧ w.ownsRow B 50 2 (.slice q n c) n xs
  bld : f 7 = true → f 9 = false → ∃ q c, a.tmps.getD 21 undef = .slice q n c ∧ a.tmps.getD 22 undef = .agg #[.int .i64 pf, .int .i64 pe, .slice q n c]
  box : f 8 = true → f 9 = false → ∃ p, a.tmps.getD 7 undef = .pointer (some ⟨p, 0, none⟩) ∧ B ≤ p ∧ w.heap[p]? = some (.cells z3 26 (0, 0)) ∧ (f 6 = true → ∀ g, (a.tmps.getD 21 undef).ownBlock = some g → g ≠ p)
  fin : f 9 = true → Fin4 B n xs pf pe a w
def V4 (p2 n mc : Nat) (mq : Option Addr) (pf pe : Int) : Nat → Value → World → Prop
  | 0 => IsV (.pointer (some ⟨p2, 0, none⟩))
  | 1 => IsV (.int .i64 pf)
  | 2 => IsV (.pointer (some ⟨p2, 1, none⟩))
  | 3 => IsV (.int .i64 pe)
  | 4 => IsV (.pointer (some ⟨p2, 2, none⟩))
  | 5 => IsV (.slice mq n mc)
  | _ => fun _ _ => True
theorem V4_kept (p2 n mc : Nat) (mq : Option Addr) (pf pe : Int) (B : Nat) : ∀ i v w w', V4 p2 n mc mq pf pe i v w → Below B w w' → V4 p2 n mc mq pf pe i v w'
  | 0, _, _, _, h, _ => h
  | 1, _, _, _, h, _ => h
  | 2, _, _, _, h, _ => h
  | 3, _, _, _, h, _ => h
  | 4, _, _, _, h, _ => h
  | 5, _, _, _, h, _ => h
  | _ + 6, _, _, _, _, _ => trivial
section
variable {B n : Nat} {xs : List Value} {pf pe : Int} {f : Nat → Bool} {a : Act} {w w2 : World} {i : Nat}
theorem S4.start (a : Act) (w : World) : S4 B n xs pf pe (fun _ => false) a w := ⟨(fun h => by cases h), (fun h => by cases h), (fun h => by cases h), (fun h => by cases h), (fun h => by cases h), (fun h => by cases h)⟩
theorem S4.not (hS : S4 B n xs pf pe f a w) (hf : f i = false) (hi : i < 9) : f 9 = false := by
  cases h : f 9 with
  | false => rfl
  | true => rw [hS.last h i hi] at hf; cases hf
theorem S4.quiet (hS : S4 B n xs pf pe f a w) (hf : f i = false) (hi : i < 6) (d : Tmp) (hd : d ≠ 7 ∧ d ≠ 21 ∧ d ≠ 22) (v : Value) : S4 B n xs pf pe (fun j => if j = i then true else f j) (a.put (some d) v) w := by
  have h9 := hS.not hf (by omega)
  have e6 : (if 6 = i then true else f 6) = f 6 := if_neg (by omega)
  have e7 : (if 7 = i then true else f 7) = f 7 := if_neg (by omega)
  have e8 : (if 8 = i then true else f 8) = f 8 := if_neg (by omega)
  have e9 : (if 9 = i then true else f 9) = f 9 := if_neg (by omega)
  have g7 : (a.put (some d) v).tmps.getD 7 undef = a.tmps.getD 7 undef := getD_put _ _ _ _ (fun e => hd.1 (Option.some.inj e))
  have g21 : (a.put (some d) v).tmps.getD 21 undef = a.tmps.getD 21 undef := getD_put _ _ _ _ (fun e => hd.2.1 (Option.some.inj e))
  have g22 : (a.put (some d) v).tmps.getD 22 undef = a.tmps.getD 22 undef := getD_put _ _ _ _ (fun e => hd.2.2 (Option.some.inj e))
  refine ⟨?_, ?_, ?_, ?_, ?_, ?_⟩ <;> simp only [e6, e7, e8, e9, g7, g21, g22]
  · intro h; rw [h9] at h; cases h
  · exact hS.seven
  · exact hS.row
  · exact hS.bld
  · exact hS.box
  · intro h; rw [h9] at h; cases h
theorem S4.call (hS : S4 B n xs pf pe f a w) (hf : f 6 = false) (h7 : f 7 = false) (q : Option Addr) (c : Nat) (hsz : 21 < a.tmps.size) (ho : w2.ownsRow w.heap.size 50 2 (.slice q n c) n xs) (hb : Below w.heap.size w w2) (hB : B ≤ w.heap.size) : S4 B n xs pf pe (fun j => if j = 6 then true else f j) (a.put (some 21) (.slice q n c)) w2 := by
  have h9 := hS.not hf (by omega)
  have g7 : (a.put (some 21) (.slice q n c)).tmps.getD 7 undef = a.tmps.getD 7 undef := getD_put _ _ _ _ (by decide)
  have g21 : (a.put (some 21) (.slice q n c)).tmps.getD 21 undef = .slice q n c := getD_put_same _ _ _ hsz
  refine ⟨?_, ?_, ?_, ?_, ?_, ?_⟩
  · intro h; rw [if_neg (by decide), h9] at h; cases h
  · intro _; rfl
  · intro _ _; exact ⟨q, c, g21, own_old ho hB⟩
  · intro h; rw [if_neg (by decide), h7] at h; cases h
  · intro h h'
    rw [if_neg (by decide)] at h h'
    obtain ⟨p, k1, k2, k3, _⟩ := hS.box h h'
    have hp := (Array.getElem?_eq_some_iff.1 k3).1
    refine ⟨p, by rw [g7]; exact k1, k2, (hb.block p hp).trans k3, fun _ g hg => ?_⟩
    rw [g21] at hg
    have := (ho.lt g hg).1
    omega
  · intro h; rw [if_neg (by decide), h9] at h; cases h
theorem S4.build (hS : S4 B n xs pf pe f a w) (hf : f 7 = false) (h6 : f 6 = true) (hsz : 22 < a.tmps.size) (q : Option Addr) (c : Nat) (hq : a.tmps.getD 21 undef = .slice q n c) : S4 B n xs pf pe (fun j => if j = 7 then true else f j) (a.put (some 22) (.agg #[.int .i64 pf, .int .i64 pe, .slice q n c])) w := by
  have h9 := hS.not hf (by omega)
  have g7 : (a.put (some 22) (.agg #[.int .i64 pf, .int .i64 pe, .slice q n c])).tmps.getD 7 undef = a.tmps.getD 7 undef := getD_put _ _ _ _ (by decide)
  have g21 : (a.put (some 22) (.agg #[.int .i64 pf, .int .i64 pe, .slice q n c])).tmps.getD 21 undef = a.tmps.getD 21 undef := getD_put _ _ _ _ (by decide)
  have g22 : (a.put (some 22) (.agg #[.int .i64 pf, .int .i64 pe, .slice q n c])).tmps.getD 22 undef = .agg #[.int .i64 pf, .int .i64 pe, .slice q n c] := getD_put_same _ _ _ hsz
  refine ⟨?_, ?_, ?_, ?_, ?_, ?_⟩
  · intro h; rw [if_neg (by decide), h9] at h; cases h
  · intro _; rw [if_neg (by decide)]; exact h6
  · intro _ _; rw [g21]; exact hS.row h6 h9
  · intro _ _; exact ⟨q, c, by rw [g21]; exact hq, g22⟩
  · intro h h'
    rw [if_neg (by decide)] at h h'
    rw [g7, g21]
    simp only [show ¬ (6 = 7) from by decide, if_false]
    exact hS.box h h'
  · intro h; rw [if_neg (by decide), h9] at h; cases h
theorem S4.alloc (hS : S4 B n xs pf pe f a w) (hf : f 8 = false) (hsz : 7 < a.tmps.size) (hB : B ≤ w.heap.size) : S4 B n xs pf pe (fun j => if j = 8 then true else f j) (a.put (some 7) (.pointer (some ⟨w.heap.size, 0, none⟩))) (w.alloc (.cells z3 26)) := by
  have h9 := hS.not hf (by omega)
  have hb : Below w.heap.size w (w.alloc (.cells z3 26)) := bel_alloc (Nat.le_refl _) _
  have g7 : (a.put (some 7) (.pointer (some ⟨w.heap.size, 0, none⟩))).tmps.getD 7 undef = .pointer (some ⟨w.heap.size, 0, none⟩) := getD_put_same _ _ _ hsz
  have g21 : (a.put (some 7) (.pointer (some ⟨w.heap.size, 0, none⟩))).tmps.getD 21 undef = a.tmps.getD 21 undef := getD_put _ _ _ _ (by decide)
  have g22 : (a.put (some 7) (.pointer (some ⟨w.heap.size, 0, none⟩))).tmps.getD 22 undef = a.tmps.getD 22 undef := getD_put _ _ _ _ (by decide)
  refine ⟨?_, ?_, ?_, ?_, ?_, ?_⟩
  · intro h; rw [if_neg (by decide), h9] at h; cases h
  · intro h; rw [if_neg (by decide)] at h ⊢; exact hS.seven h
  · intro h h'
    rw [if_neg (by decide)] at h h'
    obtain ⟨q, c, k1, k2⟩ := hS.row h h'
    exact ⟨q, c, by rw [g21]; exact k1, own_below k2 hb⟩
  · intro h h'
    rw [if_neg (by decide)] at h h'
    rw [g21, g22]
    exact hS.bld h h'
  · intro _ _
    refine ⟨w.heap.size, g7, hB, heap_alloc_new w _, fun h g hg => ?_⟩
    rw [if_neg (by decide)] at h
    rw [g21] at hg
    obtain ⟨q, c, k1, k2⟩ := hS.row h h9
    rw [k1] at hg
    have := (k2.lt g hg).2
    omega
  · intro h; rw [if_neg (by decide), h9] at h; cases h
end
/-- What the seventh region leaves in the end. -/
def Fin7 (B1 m p7 : Nat) (ys : List Value) (pf pe who rr : Int) (w : World) : Prop :=
  ∃ q c, w.heap[p7]? = some (.cells #[.int .i64 pf, .int .i64 pe, .slice q (m + 1) c] 26 (0, 0)) ∧ w.ownsRow B1 50 2 (.slice q (m + 1) c) (m + 1) (ys ++ [.int .i64 who, .int .i64 rr])
structure S7 (B1 m p7 : Nat) (ys : List Value) (pf pe who rr : Int) (sl : Value) (f : Nat → Bool) (a : Act) (w : World) : Prop where
  last : f 13 = true → ∀ j, j < 13 → f j = true
  box : f 13 = false → w.heap[p7]? = some (.cells #[.int .i64 pf, .int .i64 pe, sl] 26 (0, 0))
  eleven : f 11 = true → f 4 = true ∧ f 10 = true
  row : f 4 = true → f 11 = false → ∃ q c, a.tmps.getD 31 undef = .slice q m c ∧ w.ownsRow B1 50 2 (.slice q m c) m ys
  one : f 10 = true → f 11 = false → ∃ g, a.tmps.getD 37 undef = .slice (some ⟨g, 0, none⟩) 1 1 ∧ w.heap[g]? = some (.cells #[.int .i64 who, .int .i64 rr] 50 (0, 0))
  all : f 11 = true → f 13 = false → ∃ q c, a.tmps.getD 38 undef = .slice q (m + 1) c ∧ w.ownsRow B1 50 2 (.slice q (m + 1) c) (m + 1) (ys ++ [.int .i64 who, .int .i64 rr])
  fin : f 13 = true → Fin7 B1 m p7 ys pf pe who rr w
def V7 (p2 p3 p7 n mc : Nat) (mq : Option Addr) (who rr : Int) : Nat → Value → World → Prop
  | 0 => IsV (.pointer (some ⟨p2, 2, none⟩))
  | 1 => IsV (.slice mq n mc)
  | 2 => IsV (.pointer (some ⟨p3, 5, none⟩))
  | 3 => IsV (.int .i64 who)
  | 5 => IsV (.pointer (some ⟨p3, 5, none⟩))
  | 6 => IsV (.int .i64 who)
  | 7 => IsV (.pointer (some ⟨p3, 6, none⟩))
  | 8 => IsV (.int .i64 rr)
  | 9 => IsV (.agg #[.int .i64 who, .int .i64 rr])
  | 12 => IsV (.pointer (some ⟨p7, 2, none⟩))
  | _ => fun _ _ => True
theorem V7_kept (p2 p3 p7 n mc : Nat) (mq : Option Addr) (who rr : Int) (B : Nat) : ∀ i v w w', V7 p2 p3 p7 n mc mq who rr i v w → Below B w w' → V7 p2 p3 p7 n mc mq who rr i v w'
  | 0, _, _, _, h, _ => h
  | 1, _, _, _, h, _ => h
  | 2, _, _, _, h, _ => h
  | 3, _, _, _, h, _ => h
  | 4, _, _, _, _, _ => trivial
  | 5, _, _, _, h, _ => h
  | 6, _, _, _, h, _ => h
  | 7, _, _, _, h, _ => h
  | 8, _, _, _, h, _ => h
  | 9, _, _, _, h, _ => h
  | 10, _, _, _, _, _ => trivial
  | 11, _, _, _, _, _ => trivial
  | 12, _, _, _, h, _ => h
  | _ + 13, _, _, _, _, _ => trivial
section
variable {B1 m p7 : Nat} {ys : List Value} {pf pe who rr : Int} {sl : Value} {f : Nat → Bool} {a : Act} {w w2 : World} {i : Nat}
theorem S7.start (a : Act) (w : World) (h : w.heap[p7]? = some (.cells #[.int .i64 pf, .int .i64 pe, sl] 26 (0, 0))) : S7 B1 m p7 ys pf pe who rr sl (fun _ => false) a w := ⟨(fun h => by cases h), fun _ => h, (fun h => by cases h), (fun h => by cases h), (fun h => by cases h), (fun h => by cases h), (fun h => by cases h)⟩
theorem S7.not (hS : S7 B1 m p7 ys pf pe who rr sl f a w) (hf : f i = false) (hi : i < 13) : f 13 = false := by
  cases h : f 13 with
  | false => rfl
  | true => rw [hS.last h i hi] at hf; cases hf
theorem S7.quiet (hS : S7 B1 m p7 ys pf pe who rr sl f a w) (hf : f i = false) (hi : i ∉ [4, 10, 11, 13] ∧ i < 13) (d : Tmp) (hd : d ≠ 31 ∧ d ≠ 37 ∧ d ≠ 38) (v : Value) : S7 B1 m p7 ys pf pe who rr sl (fun j => if j = i then true else f j) (a.put (some d) v) w := by
  have h9 := hS.not hf hi.2
  have hh : i ≠ 4 ∧ i ≠ 10 ∧ i ≠ 11 ∧ i ≠ 13 := by have := hi.1; simp at this; exact this
  have e4 : (if 4 = i then true else f 4) = f 4 := if_neg (by omega)
  have e10 : (if 10 = i then true else f 10) = f 10 := if_neg (by omega)
  have e11 : (if 11 = i then true else f 11) = f 11 := if_neg (by omega)
  have e13 : (if 13 = i then true else f 13) = f 13 := if_neg (by omega)
  have g31 : (a.put (some d) v).tmps.getD 31 undef = a.tmps.getD 31 undef := getD_put _ _ _ _ (fun e => hd.1 (Option.some.inj e))
  have g37 : (a.put (some d) v).tmps.getD 37 undef = a.tmps.getD 37 undef := getD_put _ _ _ _ (fun e => hd.2.1 (Option.some.inj e))
  have g38 : (a.put (some d) v).tmps.getD 38 undef = a.tmps.getD 38 undef := getD_put _ _ _ _ (fun e => hd.2.2 (Option.some.inj e))
  refine ⟨?_, ?_, ?_, ?_, ?_, ?_, ?_⟩ <;> simp only [e4, e10, e11, e13, g31, g37, g38]
  · intro h; rw [h9] at h; cases h
  · exact hS.box
  · exact hS.eleven
  · exact hS.row
  · exact hS.one
  · exact hS.all
  · intro h; rw [h9] at h; cases h
theorem S7.call (hS : S7 B1 m p7 ys pf pe who rr sl f a w) (hf : f 4 = false) (h11 : f 11 = false) (q : Option Addr) (c : Nat) (hsz : 31 < a.tmps.size) (ho : w2.ownsRow w.heap.size 50 2 (.slice q m c) m ys) (hb : Below w.heap.size w w2) (hB : B1 ≤ w.heap.size) : S7 B1 m p7 ys pf pe who rr sl (fun j => if j = 4 then true else f j) (a.put (some 31) (.slice q m c)) w2 := by
  have h9 := hS.not hf (by omega)
  have g31 : (a.put (some 31) (.slice q m c)).tmps.getD 31 undef = .slice q m c := getD_put_same _ _ _ hsz
  have g37 : (a.put (some 31) (.slice q m c)).tmps.getD 37 undef = a.tmps.getD 37 undef := getD_put _ _ _ _ (by decide)
  refine ⟨?_, ?_, ?_, ?_, ?_, ?_, ?_⟩
  · intro h; rw [if_neg (by decide), h9] at h; cases h
  · intro _; have := hS.box h9; exact (hb.block _ (Array.getElem?_eq_some_iff.1 this).1).trans this
  · intro h; rw [if_neg (by decide), h11] at h; cases h
  · intro _ _; exact ⟨q, c, g31, own_old ho hB⟩
  · intro h h'
    rw [if_neg (by decide)] at h h'
    obtain ⟨g, k1, k2⟩ := hS.one h h'
    exact ⟨g, by rw [g37]; exact k1, (hb.block g (Array.getElem?_eq_some_iff.1 k2).1).trans k2⟩
  · intro h; rw [if_neg (by decide), h11] at h; cases h
  · intro h; rw [if_neg (by decide), h9] at h; cases h
theorem S7.lay (hS : S7 B1 m p7 ys pf pe who rr sl f a w) (hf : f 10 = false) (h11 : f 11 = false) (hsz : 37 < a.tmps.size) : S7 B1 m p7 ys pf pe who rr sl (fun j => if j = 10 then true else f j) (a.put (some 37) (.slice (some ⟨w.heap.size, 0, none⟩) 1 1)) (w.alloc (.cells #[.int .i64 who, .int .i64 rr] 50)) := by
  have h9 := hS.not hf (by omega)
  have hb : Below w.heap.size w (w.alloc (.cells #[.int .i64 who, .int .i64 rr] 50)) := bel_alloc (Nat.le_refl _) _
  have g37 : (a.put (some 37) (.slice (some ⟨w.heap.size, 0, none⟩) 1 1)).tmps.getD 37 undef = .slice (some ⟨w.heap.size, 0, none⟩) 1 1 := getD_put_same _ _ _ hsz
  have g31 : (a.put (some 37) (.slice (some ⟨w.heap.size, 0, none⟩) 1 1)).tmps.getD 31 undef = a.tmps.getD 31 undef := getD_put _ _ _ _ (by decide)
  refine ⟨?_, ?_, ?_, ?_, ?_, ?_, ?_⟩
  · intro h; rw [if_neg (by decide), h9] at h; cases h
  · intro _; have := hS.box h9; exact (hb.block _ (Array.getElem?_eq_some_iff.1 this).1).trans this
  · intro h; rw [if_neg (by decide), h11] at h; cases h
  · intro h h'
    rw [if_neg (by decide)] at h h'
    obtain ⟨q, c, k1, k2⟩ := hS.row h h'
    exact ⟨q, c, by rw [g31]; exact k1, own_below k2 hb⟩
  · intro _ _; exact ⟨w.heap.size, g37, heap_alloc_new w _⟩
  · intro h; rw [if_neg (by decide), h11] at h; cases h
  · intro h; rw [if_neg (by decide), h9] at h; cases h
theorem S7.app (hS : S7 B1 m p7 ys pf pe who rr sl f a w) (hf : f 11 = false) (h4 : f 4 = true) (h10 : f 10 = true) (q : Option Addr) (c : Nat) (hsz : 38 < a.tmps.size) (ho : w2.ownsRow B1 50 2 (.slice q (m + 1) c) (m + 1) (ys ++ [.int .i64 who, .int .i64 rr])) (hb : Below B1 w w2) (hp : p7 < B1) : S7 B1 m p7 ys pf pe who rr sl (fun j => if j = 11 then true else f j) (a.put (some 38) (.slice q (m + 1) c)) w2 := by
  have h9 := hS.not hf (by omega)
  have g38 : (a.put (some 38) (.slice q (m + 1) c)).tmps.getD 38 undef = .slice q (m + 1) c := getD_put_same _ _ _ hsz
  refine ⟨?_, ?_, ?_, ?_, ?_, ?_, ?_⟩
  · intro h; rw [if_neg (by decide), h9] at h; cases h
  · intro _; exact (hb.block _ hp).trans (hS.box h9)
  · intro _; rw [if_neg (by decide), if_neg (by decide)]; exact ⟨h4, h10⟩
  · intro _ h; simp at h
  · intro _ h; simp at h
  · intro _ _; exact ⟨q, c, g38, ho⟩
  · intro h; rw [if_neg (by decide), h9] at h; cases h
end
theorem frame14_4 {A F : Array Value} (hs : A.size = 57) (h : ∀ t, [7, 15, 16, 17, 18, 19, 20, 21, 22].contains t = false → A.getD t undef = F.getD t undef) : A = #[F.getD 0 undef, F.getD 1 undef, F.getD 2 undef, F.getD 3 undef, F.getD 4 undef, F.getD 5 undef, F.getD 6 undef, A.getD 7 undef, F.getD 8 undef, F.getD 9 undef, F.getD 10 undef, F.getD 11 undef, F.getD 12 undef, F.getD 13 undef, F.getD 14 undef, A.getD 15 undef, A.getD 16 undef, A.getD 17 undef, A.getD 18 undef, A.getD 19 undef, A.getD 20 undef, A.getD 21 undef, A.getD 22 undef, F.getD 23 undef, F.getD 24 undef, F.getD 25 undef, F.getD 26 undef, F.getD 27 undef, F.getD 28 undef, F.getD 29 undef, F.getD 30 undef, F.getD 31 undef, F.getD 32 undef, F.getD 33 undef, F.getD 34 undef, F.getD 35 undef, F.getD 36 undef, F.getD 37 undef, F.getD 38 undef, F.getD 39 undef, F.getD 40 undef, F.getD 41 undef, F.getD 42 undef, F.getD 43 undef, F.getD 44 undef, F.getD 45 undef, F.getD 46 undef, F.getD 47 undef, F.getD 48 undef, F.getD 49 undef, F.getD 50 undef, F.getD 51 undef, F.getD 52 undef, F.getD 53 undef, F.getD 54 undef, F.getD 55 undef, F.getD 56 undef] := by
  rw [← h 0 (by decide), ← h 1 (by decide), ← h 2 (by decide), ← h 3 (by decide), ← h 4 (by decide), ← h 5 (by decide), ← h 6 (by decide), ← h 8 (by decide), ← h 9 (by decide), ← h 10 (by decide), ← h 11 (by decide), ← h 12 (by decide), ← h 13 (by decide), ← h 14 (by decide), ← h 23 (by decide), ← h 24 (by decide), ← h 25 (by decide), ← h 26 (by decide), ← h 27 (by decide), ← h 28 (by decide), ← h 29 (by decide), ← h 30 (by decide), ← h 31 (by decide), ← h 32 (by decide), ← h 33 (by decide), ← h 34 (by decide), ← h 35 (by decide), ← h 36 (by decide), ← h 37 (by decide), ← h 38 (by decide), ← h 39 (by decide), ← h 40 (by decide), ← h 41 (by decide), ← h 42 (by decide), ← h 43 (by decide), ← h 44 (by decide), ← h 45 (by decide), ← h 46 (by decide), ← h 47 (by decide), ← h 48 (by decide), ← h 49 (by decide), ← h 50 (by decide), ← h 51 (by decide), ← h 52 (by decide), ← h 53 (by decide), ← h 54 (by decide), ← h 55 (by decide), ← h 56 (by decide)]
  refine Array.ext (by simp [hs]) (fun i h1 h2 => ?_)
  have e : A[i] = A.getD i undef := by simp [h1]
  rw [e]
  rw [hs] at h1
  clear e h hs
  match i, h1 with
  | 0, _ => rfl
  | 1, _ => rfl
  | 2, _ => rfl
  | 3, _ => rfl
  | 4, _ => rfl
  | 5, _ => rfl
  | 6, _ => rfl
  | 7, _ => rfl
  | 8, _ => rfl
  | 9, _ => rfl
  | 10, _ => rfl
  | 11, _ => rfl
  | 12, _ => rfl
  | 13, _ => rfl
  | 14, _ => rfl
  | 15, _ => rfl
  | 16, _ => rfl
  | 17, _ => rfl
  | 18, _ => rfl
  | 19, _ => rfl
  | 20, _ => rfl
  | 21, _ => rfl
  | 22, _ => rfl
  | 23, _ => rfl
  | 24, _ => rfl
  | 25, _ => rfl
  | 26, _ => rfl
  | 27, _ => rfl
  | 28, _ => rfl
  | 29, _ => rfl
  | 30, _ => rfl
  | 31, _ => rfl
  | 32, _ => rfl
  | 33, _ => rfl
  | 34, _ => rfl
  | 35, _ => rfl
  | 36, _ => rfl
  | 37, _ => rfl
  | 38, _ => rfl
  | 39, _ => rfl
  | 40, _ => rfl
  | 41, _ => rfl
  | 42, _ => rfl
  | 43, _ => rfl
  | 44, _ => rfl
  | 45, _ => rfl
  | 46, _ => rfl
  | 47, _ => rfl
  | 48, _ => rfl
  | 49, _ => rfl
  | 50, _ => rfl
  | 51, _ => rfl
  | 52, _ => rfl
  | 53, _ => rfl
  | 54, _ => rfl
  | 55, _ => rfl
  | 56, _ => rfl
  | _ + 57, h => exact absurd h (by omega)
theorem frame14_7 {A F : Array Value} (hs : A.size = 57) (h : ∀ t, [27, 28, 29, 30, 31, 32, 33, 34, 35, 36, 37, 38, 39].contains t = false → A.getD t undef = F.getD t undef) : A = #[F.getD 0 undef, F.getD 1 undef, F.getD 2 undef, F.getD 3 undef, F.getD 4 undef, F.getD 5 undef, F.getD 6 undef, F.getD 7 undef, F.getD 8 undef, F.getD 9 undef, F.getD 10 undef, F.getD 11 undef, F.getD 12 undef, F.getD 13 undef, F.getD 14 undef, F.getD 15 undef, F.getD 16 undef, F.getD 17 undef, F.getD 18 undef, F.getD 19 undef, F.getD 20 undef, F.getD 21 undef, F.getD 22 undef, F.getD 23 undef, F.getD 24 undef, F.getD 25 undef, F.getD 26 undef, A.getD 27 undef, A.getD 28 undef, A.getD 29 undef, A.getD 30 undef, A.getD 31 undef, A.getD 32 undef, A.getD 33 undef, A.getD 34 undef, A.getD 35 undef, A.getD 36 undef, A.getD 37 undef, A.getD 38 undef, A.getD 39 undef, F.getD 40 undef, F.getD 41 undef, F.getD 42 undef, F.getD 43 undef, F.getD 44 undef, F.getD 45 undef, F.getD 46 undef, F.getD 47 undef, F.getD 48 undef, F.getD 49 undef, F.getD 50 undef, F.getD 51 undef, F.getD 52 undef, F.getD 53 undef, F.getD 54 undef, F.getD 55 undef, F.getD 56 undef] := by
  rw [← h 0 (by decide), ← h 1 (by decide), ← h 2 (by decide), ← h 3 (by decide), ← h 4 (by decide), ← h 5 (by decide), ← h 6 (by decide), ← h 7 (by decide), ← h 8 (by decide), ← h 9 (by decide), ← h 10 (by decide), ← h 11 (by decide), ← h 12 (by decide), ← h 13 (by decide), ← h 14 (by decide), ← h 15 (by decide), ← h 16 (by decide), ← h 17 (by decide), ← h 18 (by decide), ← h 19 (by decide), ← h 20 (by decide), ← h 21 (by decide), ← h 22 (by decide), ← h 23 (by decide), ← h 24 (by decide), ← h 25 (by decide), ← h 26 (by decide), ← h 40 (by decide), ← h 41 (by decide), ← h 42 (by decide), ← h 43 (by decide), ← h 44 (by decide), ← h 45 (by decide), ← h 46 (by decide), ← h 47 (by decide), ← h 48 (by decide), ← h 49 (by decide), ← h 50 (by decide), ← h 51 (by decide), ← h 52 (by decide), ← h 53 (by decide), ← h 54 (by decide), ← h 55 (by decide), ← h 56 (by decide)]
  refine Array.ext (by simp [hs]) (fun i h1 h2 => ?_)
  have e : A[i] = A.getD i undef := by simp [h1]
  rw [e]
  rw [hs] at h1
  clear e h hs
  match i, h1 with
  | 0, _ => rfl
  | 1, _ => rfl
  | 2, _ => rfl
  | 3, _ => rfl
  | 4, _ => rfl
  | 5, _ => rfl
  | 6, _ => rfl
  | 7, _ => rfl
  | 8, _ => rfl
  | 9, _ => rfl
  | 10, _ => rfl
  | 11, _ => rfl
  | 12, _ => rfl
  | 13, _ => rfl
  | 14, _ => rfl
  | 15, _ => rfl
  | 16, _ => rfl
  | 17, _ => rfl
  | 18, _ => rfl
  | 19, _ => rfl
  | 20, _ => rfl
  | 21, _ => rfl
  | 22, _ => rfl
  | 23, _ => rfl
  | 24, _ => rfl
  | 25, _ => rfl
  | 26, _ => rfl
  | 27, _ => rfl
  | 28, _ => rfl
  | 29, _ => rfl
  | 30, _ => rfl
  | 31, _ => rfl
  | 32, _ => rfl
  | 33, _ => rfl
  | 34, _ => rfl
  | 35, _ => rfl
  | 36, _ => rfl
  | 37, _ => rfl
  | 38, _ => rfl
  | 39, _ => rfl
  | 40, _ => rfl
  | 41, _ => rfl
  | 42, _ => rfl
  | 43, _ => rfl
  | 44, _ => rfl
  | 45, _ => rfl
  | 46, _ => rfl
  | 47, _ => rfl
  | 48, _ => rfl
  | 49, _ => rfl
  | 50, _ => rfl
  | 51, _ => rfl
  | 52, _ => rfl
  | 53, _ => rfl
  | 54, _ => rfl
  | 55, _ => rfl
  | 56, _ => rfl
  | _ + 57, h => exact absurd h (by omega)
end Go.Proofs.Ytmlnbbggfjgacaa.P10
