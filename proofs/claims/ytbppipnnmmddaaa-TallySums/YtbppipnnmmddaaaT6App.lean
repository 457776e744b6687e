/- append of one number to a row of one's own. -/
import Derived.Test.YtbppipnnmmddaaaT6Steps
import Derived.Laws.AppendOwn
namespace Go.Proofs.Ytbppipnnmmddaaa
open Go.RowKit Ieee
theorem own_slice {w : World} {base e size : Nat} {v : Value} {n : Nat} {xs : List Value} (h : w.ownsRow base e size v n xs) : ∃ q c, v = .slice q n c := by
  obtain ⟨_, ⟨rfl, rfl⟩ | ⟨g, cap, cur, rfl, _⟩⟩ := h
  · exact ⟨none, 0, rfl⟩
  · exact ⟨_, cap, rfl⟩
theorem own_none (w : World) (base e size : Nat) : w.ownsRow base e size (.slice none 0 0) 0 [] := ⟨by simp, .inl ⟨rfl, rfl⟩⟩
theorem own_below {w w' : World} {base e size : Nat} {v : Value} {n : Nat} {xs : List Value} (h : w.ownsRow base e size v n xs) (hb : Below w.heap.size w w') : w'.ownsRow base e size v n xs :=
  h.kept (row := none) ⟨hb.os, hb.tape, hb.output, hb.size, fun k hk _ => hb.block k hk⟩ (by cases hv : v.ownBlock <;> simp)
theorem below_grown' {B base : Nat} {a w w' : World} {v : Value} {e size n : Nat} {xs : List Value} (h : Below B a w) (hg : w.grownBy w' v.ownBlock) (hown : w.ownsRow base e size v n xs) (hB : B ≤ w.heap.size) (hb : B ≤ base) : Below B a w' :=
  h.grown hg hB (fun k hk => Nat.le_trans hb (hown.lt k hk).1)
theorem info25 : ∃ i, Try.prog.info? 25 = some i ∧ i.size = 1 ∧ i.bytes = 16 ∧ i.zero = some (.complex .f64 0 0) := info_of (by kernel_rfl)
theorem law_append_c {ops : Array Oper} {rest : List Oper} {dst : Option Tmp} {T : TypeId} {pos : String} {after : Array Edge} {a : Act} {w : World} {Q : Exit → Act → World → Prop} {st xt : Tmp}
    (base : Nat) (v : Value) (n : Nat) (xs : List Value) (g c x y : Nat) (hs : a.eval (.tmp st) = v) (hx : a.eval (.tmp xt) = .slice (some ⟨g, 0, none⟩) 1 c) (hown : w.ownsRow base 25 1 v n xs) (hc : w.cell? ⟨g, 0, none⟩ = some (.complex .f64 x y))
    (hn : n ≤ 1000) (hbase : base ≤ w.heap.size)
    (h : ∀ v' w', w'.ownsRow base 25 1 v' (n + 1) (xs ++ [.complex .f64 x y]) → w.grownBy w' v.ownBlock → wpList Try.prog ops Q rest (a.put dst v') w') :
    wpList Try.prog ops Q ({ dst := dst, op := .call { callee := .builtin .append, args := #[.tmp st, .tmp xt], argTypes := #[42, 42] }, type := T, pos := pos, after := after, guard := none } :: rest) a w := by
  obtain ⟨i, hi, hsz, hby, hz⟩ := info25
  refine wpList_append_own _ rfl (.tmp st) (.tmp xt) 42 rfl base 25 i _ 1 16 Try.underlying42 hi hz hsz hby rfl (by decide) v n xs hs hown ⟨g, 0, none⟩ 1 c [.complex .f64 x y] hx rfl (fun j u hu => ?_) (fun u hu => by simp at hu; subst hu; rfl) (by unfold maxLen; omega) (by omega) hbase (fun v' w' h1 h2 _ => h v' w' h1 h2)
  rw [Addr.add_mid]
  have hj : j = 0 := by
    have := (List.getElem?_eq_some_iff.1 hu).1
    simp at this
    exact this
  subst hj
  simp at hu
  subst hu
  exact hc
theorem At1.set {w0 W : World} {m n : Int} (h : At1 w0 m n W) (m' n' dx dy : Int) : At1 w0 m' n' (((W.setCell ⟨w0.heap.size, 0, none⟩ (.int .i64 m')).setCell ⟨w0.heap.size, 1, none⟩ (.int .i64 n')).alloc (bx dx dy)) := by
  have s1 : ((W.setCell ⟨w0.heap.size, 0, none⟩ (.int .i64 m')).setCell ⟨w0.heap.size, 1, none⟩ (.int .i64 n')).heap.size = W.heap.size := by simp
  have b1 : Below w0.heap.size w0 ((W.setCell ⟨w0.heap.size, 0, none⟩ (.int .i64 m')).setCell ⟨w0.heap.size, 1, none⟩ (.int .i64 n')) := (h.bel.setCell (Nat.le_refl _) _).setCell (Nat.le_refl _) _
  have p1 := heap_setCell_same W w0.heap.size 0 #[.int .i64 m, .int .i64 n] 23 (.int .i64 m') h.p
  have p2 := heap_setCell_same (W.setCell ⟨w0.heap.size, 0, none⟩ (.int .i64 m')) w0.heap.size 1 _ 23 (.int .i64 n') p1
  refine ⟨b1.alloc (by rw [s1]; exact Nat.le_of_lt h.sz) _, by have := h.sz; simp; omega, ?_⟩
  unfold PB
  rw [Below.heap_alloc _ _ _ (by rw [s1]; exact h.sz)]
  exact p2
end Go.Proofs.Ytbppipnnmmddaaa
