/- A slice of rows of bytes that came in. -/
import Derived.Test.YtbblokikhocdfaaDoorS7OnceW
import Derived.Deep.Slices
import Derived.ChangeArms
import Derived.ChangeSame
namespace Go.Proofs.YtbblokikhocdfaaDoor.S7
open Go.RowKit Go.ChangeShapes Go.WideShapes
section
variable {H : Type} {enc : TypeId × Value → H} {P : Program} {w : World} {base : Nat} {held : Bool}
theorem add_nought (ad : Addr) : ad.add 0 = ad := by obtain ⟨b, o, s⟩ := ad; unfold Addr.add; split <;> simp_all
theorem spot_of {ad : Addr} {v : Value} (h : w.cell? ad = some v) : ad.spot = none := by
  cases hs : ad.spot with
  | none => rfl
  | some q =>
    unfold World.cell? at h
    split at h
    · simp [hs] at h
    · cases h
theorem rowIs_trod {t e : TypeId} {fuel : Nat} {v : Value} {x : DataW H × List MemPlace} (ht : P.underlying t = some (.slice e)) (he : P.underlying e = some (.int .u8)) (hc : P.cellsOf e = 1)
    (h : DataW.trod enc P w base (fun _ => true) held fuel t [v] = some x) : ∃ a len cap, v = .slice a len cap ∧ RowIs w a len cap := by
  rcases open_ints ht he hc h with ⟨hcs, _⟩ | ⟨x, l, c, zs, hcs, _, hl, hm, hz, _, hcell, hwz⟩
  · simp only [List.cons.injEq, and_true] at hcs
    exact ⟨none, 0, 0, hcs, rowIs_nil _ _⟩
  · simp only [List.cons.injEq, and_true] at hcs
    exact ⟨some x, l, c, hcs, rowIs_of hl hm (by simpa using hz) hcell hwz⟩
theorem rowsIs_of {t e e5 : TypeId} {fuel : Nat} {a : Option Addr} {len cap : Nat} {x : DataW H × List MemPlace} (ht : P.underlying t = some (.slice e)) (he : P.underlying e = some (.slice e5)) (ce : P.cellsOf e = 1) (t3 : P.underlying e5 = some (.int .u8)) (c5 : P.cellsOf e5 = 1)
    (h : DataW.trod enc P w base (fun _ => true) held fuel t (Value.slice a len cap).cells.toList = some x) :
    len ≤ 9223372036854775807 ∧ ∃ ls : List (List Nat), ls.length = len ∧ RowsIs w a ls := by
  rcases Go.Deep.open_slice ht h with ⟨hcs, _⟩ | ⟨ad, l, c, m, n, D, Pl, hcs, hb, hl, hm, hmm, _, hx⟩
  · simp [Value.cells] at hcs
    obtain ⟨rfl, rfl, rfl⟩ := hcs
    exact ⟨by omega, [], rfl, fun j hj => absurd hj (by simp)⟩
  · simp [Value.cells] at hcs
    obtain ⟨rfl, rfl, rfl⟩ := hcs
    refine ⟨by unfold maxLen at hm; omega, ?_⟩
    have cell : ∀ i, i < len → ∃ v y, w.cell? (ad.add i) = some v ∧ DataW.trod enc P w base (fun _ => true) held n e [v] = some y := fun i hi => by
      obtain ⟨cs', h1, h2⟩ := hx i (by simp at hmm; omega)
      rw [ce] at h1
      obtain ⟨_, hlen, hcell⟩ := World.cells?_some h1
      match cs', hlen with
      | [v], _ =>
        have e0 := hcell 0 (by omega)
        rw [Go.Deep.add_add] at e0
        exact ⟨v, _, by simpa using e0, h2⟩
    have each : ∀ i, i < len → ∃ q : List Nat, ∃ b o sv, (some ad) = some ⟨b, o, none⟩ ∧ b < w.heap.size ∧ w.cell? ⟨b, o + i, none⟩ = some sv ∧ Old w.heap.size w sv q ∧ q.length ≤ 9223372036854775807 := by
      intro i hi
      obtain ⟨z0, _, hz0, _⟩ := cell 0 (by omega)
      rw [add_nought] at hz0
      have hsp := spot_of hz0
      obtain ⟨v, y, hv, hy⟩ := cell i hi
      obtain ⟨b, o, s⟩ := ad
      simp only at hsp
      subst hsp
      obtain ⟨p, ln, cp, e2, hr⟩ := rowIs_trod he t3 c5 hy
      obtain ⟨l, hl', hs⟩ := Src.of hr
      subst e2
      rw [Addr.add_mid] at hv
      exact ⟨l, b, o, _, rfl, World.block_lt_of_cell? w _ hz0, hv, Old.of hs, by have := hr.max; omega⟩
    obtain ⟨f, hf⟩ := Go.Deep.choose_lt each
    refine ⟨(List.range len).map f, by simp, fun j hj => ?_⟩
    have hj' : j < len := by simpa using hj
    obtain ⟨b, o, sv, h1, h2, h3, h4, h5⟩ := hf j hj'
    exact ⟨b, o, sv, h1, h2, h3, by simpa using h4, by simpa using h5⟩
end
end Go.Proofs.YtbblokikhocdfaaDoor.S7
