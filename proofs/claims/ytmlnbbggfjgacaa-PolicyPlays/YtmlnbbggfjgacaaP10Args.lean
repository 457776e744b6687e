/- What comes in: slices of numbers. -/
import Derived.Test.YtmlnbbggfjgacaaP10Fits
import Derived.Test.YtmlnbbggfjgacaaMgB
namespace Go.Proofs.Ytmlnbbggfjgacaa.P10
open Go.RowKit Go.ChangeShapes Go.WideShapes C8 E9
theorem intR_of {w : World} {x : Addr} {len cap : Nat} {zs : List Int} (hl : len ≤ cap) (hz : zs.length = cap) (hcell : ∀ i, i < zs.length → w.cell? (x.add i) = some (.int .i64 (zs.getD i 0))) : IntR w (some x) (zs.take len) := fun j hj => by
  have hj1 : j < len := by rw [List.length_take] at hj; omega
  have hj2 : j < zs.length := by omega
  have h1 := hcell j hj2
  have h0 := hcell 0 (by omega)
  have hx0 : x.add 0 = x := by obtain ⟨b, o, s⟩ := x; unfold Addr.add; split <;> simp_all
  rw [hx0] at h0
  have hsp := spot_of h0
  obtain ⟨b, o, s⟩ := x
  simp only at hsp
  subst hsp
  refine ⟨b, o, rfl, World.block_lt_of_cell? w _ h0, ?_⟩
  rw [Addr.add_mid] at h1
  rw [h1]
  simp [hj2]
section
variable {H : Type} {enc : TypeId × Value → H} {P : Program} {w : World} {base : Nat} {held : Bool}
theorem intR_trod {t e : TypeId} {fuel : Nat} {v : Value} {x : DataW H × List MemPlace} (ht : P.underlying t = some (.slice e)) (he : P.underlying e = some (.int .i64)) (hc : P.cellsOf e = 1)
    (h : DataW.trod enc P w base (fun _ => true) held fuel t [v] = some x) : ∃ a len cap, v = .slice a len cap ∧ len ≤ 9223372036854775807 ∧ ∃ l : List Int, l.length = len ∧ IntR w a l := by
  rcases open_ints ht he hc h with ⟨hcs, _⟩ | ⟨x, l, c, zs, hcs, _, hl, hm, hz, _, hcell, hwz⟩
  · simp only [List.cons.injEq, and_true] at hcs
    exact ⟨none, 0, 0, hcs, by omega, [], rfl, fun j hj => by cases hj⟩
  · simp only [List.cons.injEq, and_true] at hcs
    have hz' : zs.length = c := by simpa using hz
    exact ⟨some x, l, c, hcs, by unfold maxLen at hm; omega, zs.take l, by rw [List.length_take]; omega, intR_of hl hz' hcell⟩
end
end Go.Proofs.Ytmlnbbggfjgacaa.P10
