/- For ChainOwn: bytes that are turned where they lie. -/
import Derived.Test.YtkiohhkmlpgdoaaDoorMgZ
import Derived.Test.YtkiohhkmlpgdoaaDoorC12Small
namespace Go.Proofs.YtkiohhkmlpgdoaaDoor.S7
open Go.RowKit
/-- A block of bytes of one's own. -/
def Rb (w : World) (g n : Nat) : Prop := ∃ cs : Array Value, w.heap[g]? = some (.cells cs 5 (0, 0)) ∧ n ≤ cs.size ∧ ∀ i, i < n → ∃ z, cs[i]? = some (.int .u8 z)
theorem Rb.of_own {w : World} {S n g c : Nat} {l : List Nat} (hn : l.length = n) (h : w.ownsRow S 5 1 (.slice (some ⟨g, 0, none⟩) n c) n (ints .u8 l)) : Rb w g n := by
  obtain ⟨hl, ⟨e1, e0⟩ | ⟨g', cap, cur, e1, hg, hh, hnc, hm, hcs, ht⟩⟩ := h
  · cases e1
  · simp only [Value.slice.injEq, Option.some.injEq, Addr.mk.injEq, and_true] at e1
    obtain ⟨rfl, -, rfl⟩ := e1
    refine ⟨_, hh, by omega, fun i hi => ?_⟩
    have hx : (ints .u8 l)[i]? = some (.int .u8 (l[i]'(by omega) : Nat)) := by rw [ints_get _ _ _ (by omega)]; simp [Sp.nth, show i < l.length by omega]
    rw [← ht, Nat.mul_one, List.getElem?_take_of_lt hi] at hx
    exact ⟨_, by simpa using hx⟩
theorem Rb.below {w w' : World} {g n : Nat} (h : Rb w g n) (hb : Below w.heap.size w w') : Rb w' g n := by
  obtain ⟨cs, h1, h2⟩ := h
  exact ⟨cs, (hb.block g (Array.getElem?_eq_some_iff.1 h1).1).trans h1, h2⟩
theorem Rb.kx {B : Nat} {w w' : World} {g n : Nat} (h : Rb w g n) (hk : Kx TS B w w') : Rb w' g n := by
  obtain ⟨cs, h1, h2⟩ := h
  exact ⟨cs, hk.row g _ h1 (by simp [tyOf, TS]), h2⟩
theorem Rb.set {w : World} {g n : Nat} (h : Rb w g n) (i : Nat) (z : Int) : Rb (w.setCell ⟨g, i, none⟩ (.int .u8 z)) g n := by
  obtain ⟨cs, h1, h2, h3⟩ := h
  refine ⟨_, heap_setCell_same w g i _ 5 _ h1, by simpa using h2, fun k hk => ?_⟩
  by_cases ek : i = k
  · subst ek
    have : i < cs.size := by omega
    exact ⟨z, by simp [this]⟩
  · obtain ⟨z', hz⟩ := h3 k hk
    exact ⟨z', by rw [Array.getElem?_setIfInBounds_ne ek]; exact hz⟩
theorem Rb.cell {w : World} {g n : Nat} (h : Rb w g n) {i : Nat} (hi : i < n) : ∃ z, w.cell? ⟨g, i, none⟩ = some (.int .u8 z) ∧ w.frozen? ⟨g, i, none⟩ = false := by
  obtain ⟨cs, h1, h2, h3⟩ := h
  obtain ⟨z, hz⟩ := h3 i hi
  exact ⟨z, by rw [cell_of_row _ _ _ _ _ _ h1]; exact hz, frozen_of_row _ _ _ _ _ h1⟩
theorem Rb.ty {w : World} {g n : Nat} (h : Rb w g n) : ∃ cs, w.heap[g]? = some (.cells cs 5 (0, 0)) := by
  obtain ⟨cs, h1, _⟩ := h
  exact ⟨cs, h1⟩
/-- Bytes that lie elsewhere stay. -/
theorem By.off {B : Nat} {w w' : World} {v : Value} {l : List Nat} {bs : List Nat} (h : By B w v l) (ho : Only bs w w') (hv : Off v bs) : By B w' v l := by
  obtain ⟨hs, h1 | h1 | ⟨b, o, c, rfl, hc, hr, hb⟩⟩ := h
  · exact ⟨hs, .inl h1⟩
  · exact ⟨hs, .inr (.inl h1)⟩
  · by_cases h0 : l = []
    · subst h0
      exact ⟨hs, .inr (.inl ⟨_, _, rfl, rfl⟩)⟩
    · have hlt := range_lt hr (ints_ne h0)
      have hk := ho.block b hlt (hv b rfl)
      refine ⟨hs, .inr (.inr ⟨b, o, c, rfl, hc, range_kept hr hk, ?_⟩)⟩
      rcases hb with hb | ⟨cs, fr, hb⟩
      · exact .inl hb
      · exact .inr ⟨cs, fr, hk.trans hb⟩
theorem field44_0 (a b : Value) (w : World) : (Instr.field 44 (.agg #[a, b]) 0).run Tryd.prog w = .ok a w := by
  simp [go_sem, Instr.field, run_underlying Tryd.underlying44, asAgg, Result.andThen]
theorem field44_1 (a b : Value) (w : World) : (Instr.field 44 (.agg #[a, b]) 1).run Tryd.prog w = .ok b w := by
  simp [go_sem, Instr.field, run_underlying Tryd.underlying44, asAgg, Result.andThen]
namespace Zz
/-- No element lies in a block that is new. -/
theorem ChIs.avoid {B : Nat} {w : World} {c p z : Nat} {lv sv : Value} {ls ss : List (List Nat)} (h : ChIs B [] w c p lv sv ls ss) (hz : w.heap.size ≤ z) (h1 : ∀ l ∈ ls, l ≠ []) (h2 : ∀ l ∈ ss, l ≠ []) : ChIs B [z] w c p lv sv ls ss := by
  have key : ∀ {v : Value} {xs : List Value} {ks : List (List Nat)}, RowB B [] w v xs ks → (∀ l ∈ ks, l ≠ []) → RowB B [z] w v xs ks := fun hr hk => ⟨hr.own, hr.len, fun i x l k1 k2 => ⟨(hr.all i x l k1 k2).1, fun b hb e => by
    have hne := hk l (List.mem_of_getElem? k2)
    obtain ⟨_, ⟨rfl, e0⟩ | ⟨_, _, rfl, e0⟩ | ⟨g, o, c', rfl, _, hrg, _⟩⟩ := (hr.all i x l k1 k2).1
    · exact hne e0
    · exact hne e0
    · cases hb
      have := range_lt hrg (ints_ne hne)
      have e2 : g = z := List.mem_singleton.1 e
      omega⟩⟩
  obtain ⟨xs, hx⟩ := h.links
  obtain ⟨ys, hy⟩ := h.sums
  exact ⟨h.low, h.box, ⟨xs, key hx h1⟩, ⟨ys, key hy h2⟩, h.ap⟩
/-- A byte of another block is set. -/
theorem ChIs.set {B : Nat} {w : World} {c p z n : Nat} {lv sv : Value} {ls ss : List (List Nat)} (h : ChIs B [z] w c p lv sv ls ss) (hr : Rb w z n) (i : Nat) (v : Value) : ChIs B [z] (w.setCell ⟨z, i, none⟩ v) c p lv sv ls ss := by
  have ho : Only [z] w (w.setCell ⟨z, i, none⟩ v) := Only.setCell _ _ _ (by simp)
  obtain ⟨cz, hcz⟩ := hr.ty
  have hne : ∀ (b : Nat) (cs : Array Value) (t : TypeId), w.heap[b]? = some (.cells cs t (0, 0)) → t ≠ 5 → (w.setCell ⟨z, i, none⟩ v).heap[b]? = some (.cells cs t (0, 0)) := fun b cs t hb ht => (ho.block b (Array.getElem?_eq_some_iff.1 hb).1 (fun e => by
    rw [List.mem_singleton.1 e, hcz] at hb
    cases hb
    exact ht rfl)).trans hb
  have key : ∀ {v' : Value} {xs : List Value} {ks : List (List Nat)}, RowB B [z] w v' xs ks → RowB B [z] (w.setCell ⟨z, i, none⟩ v) v' xs ks := fun hr => by
    refine ⟨?_, hr.len, fun i x l k1 k2 => ⟨(hr.all i x l k1 k2).1.off ho (hr.all i x l k1 k2).2, (hr.all i x l k1 k2).2⟩⟩
    obtain ⟨hl, h1 | ⟨g, cap, cur, rfl, hg, hh, hr2⟩⟩ := hr.own
    · exact ⟨hl, .inl h1⟩
    · exact ⟨hl, .inr ⟨g, cap, cur, rfl, hg, hne g _ _ hh (by decide), hr2⟩⟩
  obtain ⟨xs, hx⟩ := h.links
  obtain ⟨ys, hy⟩ := h.sums
  exact ⟨h.low, hne c _ _ h.box (by decide), ⟨xs, key hx⟩, ⟨ys, key hy⟩, h.ap⟩
end Zz
theorem Sw.set {B : Nat} {w : World} {p q m x z n : Nat} {L : List Su.Thing} (h : Sw B w p q m x L) (hr : Rb w z n) (i : Nat) (v : Value) : Sw B (w.setCell ⟨z, i, none⟩ v) p q m x L := by
  have ho : Only [z] w (w.setCell ⟨z, i, none⟩ v) := Only.setCell _ _ _ (by simp)
  obtain ⟨cz, hcz⟩ := hr.ty
  obtain ⟨es, k1, hm, _⟩ := h.su.nums
  obtain ⟨es', k2, hm', _⟩ := h.su.boxes
  have hne : ∀ (b : Nat) (o : Obj), w.heap[b]? = some o → (∀ cs, o ≠ .cells cs 5 (0, 0)) → b ∉ [z] := fun b o hb hn e => by
    rw [List.mem_singleton.1 e, hcz] at hb
    exact hn _ (Option.some.inj hb).symm
  exact ⟨h.su.only ho ⟨hne p _ h.su.box (fun cs e => by cases e), hne q _ h.su.signs (fun cs e => by cases e), hne m _ hm (fun cs e => by cases e), hne x _ hm' (fun cs e => by cases e)⟩, h.lo⟩
end Go.Proofs.YtkiohhkmlpgdoaaDoor.S7
