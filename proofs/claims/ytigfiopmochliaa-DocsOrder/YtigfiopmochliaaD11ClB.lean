/- Bytes that are turned where they lie; two collections side by side. -/
import Derived.Test.YtigfiopmochliaaD11Base
namespace Go.Proofs.Ytigfiopmochliaa.D11
open Go.RowKit C8 E9 P10
theorem set_same {w : World} {g : Nat} {cs : Array Value} {t : TypeId} {fr : Nat × Nat} (h : w.heap[g]? = some (.cells cs t fr)) (i : Nat) (v : Value) : (w.setCell ⟨g, i, none⟩ v).heap[g]? = some (.cells (cs.setIfInBounds i v) t fr) := by
  rw [setCell_eq_setRow w g i cs t fr v h]
  exact setRow_heap w g cs _ t _ h
/-- A slice of bytes in a block of bytes, from a place on. -/
def Rw (A : Nat) (w : World) (y : Value) : Prop := ∃ n g c cs fr, y = .slice (some ⟨g, 0, none⟩) n c ∧ n ≤ 1000000 ∧ A ≤ g ∧ w.heap[g]? = some (.cells cs 5 fr) ∧ n ≤ cs.size ∧ fr.1 = cs.size ∧ ∀ i, i < n → ∃ z, cs[i]? = some (.int .u8 z)
theorem Rw.of_byt {A : Nat} {w : World} {y : Value} {l : List Nat} (h : Byt A w y l) (hl : l.length ≤ 1000000) : Rw A w y := by
  obtain ⟨hs, g, c, cs, fr, rfl, hA, hg, h1, h2⟩ := h
  refine ⟨l.length, g, c, cs, fr, rfl, hl, hA, hg, h1, h2, fun i hi => ?_⟩
  obtain ⟨_, ⟨e, _⟩ | ⟨ad, c', e, e2⟩ | ⟨b, o, c', e, _, hr⟩⟩ := hs
  · cases e
  · rw [e2] at hi
    cases hi
  · simp only [Value.slice.injEq, Option.some.injEq, Addr.mk.injEq, and_true] at e
    obtain ⟨⟨rfl, rfl⟩, -⟩ := e
    have hx := hr i (.int .u8 l[i]) (by rw [ints_get _ _ _ hi]; simp [Sp.nth, hi])
    rw [cell_of_row _ _ _ _ _ _ hg, Nat.zero_add] at hx
    exact ⟨_, hx⟩
theorem Rw.only {A : Nat} {w w' : World} {y : Value} (h : Rw A w y) (hb : Below w.heap.size w w') : Rw A w' y := by
  obtain ⟨n, g, c, cs, fr, e, hn, hA, hg, hr⟩ := h
  exact ⟨n, g, c, cs, fr, e, hn, hA, (hb.block g (Array.getElem?_eq_some_iff.1 hg).1).trans hg, hr⟩
/-- A byte of a block of bytes is set: slices of bytes stay such. -/
theorem Rw.set {A : Nat} {w : World} {y : Value} (h : Rw A w y) {g : Nat} {cs : Array Value} {fr : Nat × Nat} (hg : w.heap[g]? = some (.cells cs 5 fr)) (i : Nat) (z : Int) : Rw A (w.setCell ⟨g, i, none⟩ (.int .u8 z)) y := by
  obtain ⟨n, g', c, cs', fr', rfl, hn, hA, hg', h1, h2, h3⟩ := h
  by_cases e : g' = g
  · subst e
    rw [hg] at hg'
    simp only [Option.some.injEq, Obj.cells.injEq, true_and] at hg'
    obtain ⟨rfl, rfl⟩ := hg'
    refine ⟨n, g', c, _, fr, rfl, hn, hA, set_same hg i _, by simpa using h1, by simpa using h2, fun k hk => ?_⟩
    by_cases ek : i = k
    · subst ek
      have : i < cs.size := by omega
      exact ⟨z, by simp [this]⟩
    · obtain ⟨z', hz⟩ := h3 k hk
      exact ⟨z', by rw [Array.getElem?_setIfInBounds_ne ek]; exact hz⟩
  · exact ⟨n, g', c, cs', fr', rfl, hn, hA, (heap_setCell_other w ⟨g, i, none⟩ g' _ e).trans hg', h1, h2, h3⟩
/-- A block of another type stays as it is. -/
theorem other_set {w : World} {g g' : Nat} {cs : Array Value} {fr : Nat × Nat} (hg : w.heap[g]? = some (.cells cs 5 fr)) {cs' : Array Value} {t : TypeId} {fr' : Nat × Nat} (ht : t ≠ 5) (hg' : w.heap[g']? = some (.cells cs' t fr')) (i : Nat) (v : Value) : (w.setCell ⟨g, i, none⟩ v).heap[g']? = some (.cells cs' t fr') := by
  refine (heap_setCell_other w ⟨g, i, none⟩ g' _ (fun e => ?_)).trans hg'
  rw [e] at hg'
  simp only at hg'
  rw [hg] at hg'
  cases hg'
  exact ht rfl
/-- The rows of All, whatever their bytes have become. -/
structure Al (A : Nat) (w : World) (q : Option Addr) (n c : Nat) (xs : List Value) : Prop where
  own : w.ownsRow A 55 2 (.slice q n c) n xs
  each : ∀ y ∈ xs, Rw A w y
theorem Al.below {A : Nat} {w w' : World} {q : Option Addr} {n c : Nat} {xs : List Value} (h : Al A w q n c xs) (hb : Below w.heap.size w w') : Al A w' q n c xs := ⟨own_below h.own hb, fun y hy => (h.each y hy).only hb⟩
theorem Al.set {A : Nat} {w : World} {q : Option Addr} {n c : Nat} {xs : List Value} (h : Al A w q n c xs) {g : Nat} {cs : Array Value} {fr : Nat × Nat} (hg : w.heap[g]? = some (.cells cs 5 fr)) (i : Nat) (z : Int) : Al A (w.setCell ⟨g, i, none⟩ (.int .u8 z)) q n c xs := by
  refine ⟨?_, fun y hy => (h.each y hy).set hg i z⟩
  obtain ⟨h1, h2 | ⟨g', cap, cur, e, a1, a2, a3⟩⟩ := h.own
  · exact ⟨h1, .inl h2⟩
  · exact ⟨h1, .inr ⟨g', cap, cur, e, a1, other_set hg (by decide) a2 i _, a3⟩⟩
theorem AreQ.all {B : Value → List Nat → Prop} : ∀ {xs : List Value} {L : Col}, AreQ B xs L → ∀ y ∈ xs, ∃ l, B y l ∧ ∃ p ∈ L, l = p.1 ∨ l = p.2
  | [], [], _, y, hy => by cases hy
  | x :: x' :: r, p :: L, h, y, hy => by
    rcases List.mem_cons.1 hy with e | hy
    · subst e
      exact ⟨p.1, h.1, p, by simp, .inl rfl⟩
    · rcases List.mem_cons.1 hy with e | hy
      · subst e
        exact ⟨p.2, h.2.1, p, by simp, .inr rfl⟩
      · obtain ⟨l, h1, q, hq, h2⟩ := AreQ.all h.2.2 y hy
        exact ⟨l, h1, q, List.mem_cons_of_mem _ hq, h2⟩
  | [], _ :: _, h, _, _ => h.elim
  | [_], [], h, _, _ => h.elim
  | [_], _ :: _, h, _, _ => h.elim
  | _ :: _ :: _, [], h, _, _ => h.elim
/-- All tells rows that may be turned. -/
theorem AllSays.al {w w' : World} {L : Col} {e : Ending} (h : AllSays w L e w') (hok : Ok L) : ∃ q c xs, e = .returned (.slice q L.length c) ∧ Al w.heap.size w' q L.length c xs ∧ Below w.heap.size w w' := by
  obtain ⟨q, c, xs, rfl, hown, hare, hb⟩ := h
  refine ⟨q, c, xs, rfl, ⟨hown, fun y hy => ?_⟩, hb⟩
  obtain ⟨l, hl, p, hp, e⟩ := hare.all y hy
  have hpk := hok.1 p hp
  refine Rw.of_byt hl ?_
  rcases e with e | e
  · rw [e]; have := hpk.2.2.1; omega
  · rw [e]; have := hpk.2.2.2; omega
/-- A pair of the row. -/
theorem Al.at {A : Nat} {w : World} {q : Option Addr} {n c : Nat} {xs : List Value} (h : Al A w q n c xs) {j : Nat} (hj : j < n) : ∃ g x y, q = some ⟨g, 0, none⟩ ∧ w.cell? ⟨g, j * 2, none⟩ = some x ∧ w.cell? ⟨g, j * 2 + 1, none⟩ = some y ∧ Rw A w x ∧ Rw A w y := by
  obtain ⟨hl, ⟨e1, e0⟩ | ⟨g, cap, cur, e1, hg, hh, hnc, hm, hcs, ht⟩⟩ := h.own
  · omega
  · simp only [Value.slice.injEq] at e1
    obtain ⟨rfl, -, rfl⟩ := e1
    have l1 : j * 2 < xs.length := by omega
    have l2 : j * 2 + 1 < xs.length := by omega
    refine ⟨g, xs[j * 2], xs[j * 2 + 1], rfl, ?_, ?_, h.each _ (List.getElem_mem l1), h.each _ (List.getElem_mem l2)⟩
    · rw [cell_of_row _ _ _ _ _ _ hh]
      have k1 : xs[j * 2]? = some xs[j * 2] := List.getElem?_eq_getElem l1
      conv at k1 => lhs; rw [← ht]
      rw [List.getElem?_take_of_lt (by omega)] at k1
      simpa using k1
    · rw [cell_of_row _ _ _ _ _ _ hh]
      have k1 : xs[j * 2 + 1]? = some xs[j * 2 + 1] := List.getElem?_eq_getElem l2
      conv at k1 => lhs; rw [← ht]
      rw [List.getElem?_take_of_lt (by omega)] at k1
      simpa using k1
/-! two collections -/
theorem Pl.beside {W w w' : World} {p b p' b' : Nat} {L M : Col} (h : Pl W w p b L) (h' : Pl W w p' b' M) (ho : Only [b'] w w') (h1 : p ≠ b') (h2 : b ≠ b') : Pl W w' p b L :=
  ⟨h.bel.trans (ho.below h.bel.size (by simpa using h'.lb)), h.dc.only ho (by simpa using h1) (by simpa using h2), h.lp, h.lb⟩
theorem Pl.under {W w w' : World} {p b : Nat} {L : Col} {S : Nat} (h : Pl W w p b L) (hb : Below S w w') (hS : W.heap.size ≤ S) (h1 : p < S) (h2 : b < S) : Pl W w' p b L := by
  refine ⟨h.bel.trans (bel_le hb hS), ⟨(hb.block p h1).trans h.dc.blk, ?_, h.dc.ok, h.dc.few⟩, h.lp, h.lb⟩
  obtain ⟨es, c, hb2, h3⟩ := h.dc.own
  exact ⟨es, c, (hb.block b h2).trans hb2, h3⟩
end Go.Proofs.Ytigfiopmochliaa.D11
