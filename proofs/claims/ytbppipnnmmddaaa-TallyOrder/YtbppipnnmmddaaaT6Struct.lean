/- A slice of pairs that came in, as the walks want it. -/
import Derived.Test.YtbppipnnmmddaaaT6Box
import Derived.Deep.SlicePairs
import Derived.ChangeArms
namespace Go.Proofs.Ytbppipnnmmddaaa
open Go.RowKit Go.ChangeShapes Go.WideShapes
/-- A slice of pairs that came in: it is empty; or it leads to a row of pairs. -/
def PairsIs (w : World) (a : Option Addr) (len : Nat) : Prop :=
  len ≤ 9223372036854775807 ∧ (len = 0 ∨ ∃ (b o : Nat) (D : List (Int × Int)), a = some ⟨b, o, none⟩ ∧ D.length = len ∧ b < w.heap.size ∧ ∀ j (h : j < D.length), w.cell? ⟨b, o + j * 2, none⟩ = some (.int .i64 D[j].1) ∧ w.cell? ⟨b, o + (j * 2 + 1), none⟩ = some (.int .i64 D[j].2))
section
variable {H : Type} {enc : TypeId × Value → H} {P : Program} {w : World} {base : Nat} {held : Bool}
theorem pairsIs_of {t e i : TypeId} {f0 f1 : Field} {fuel : Nat} {a : Option Addr} {len cap : Nat} {x : DataW H × List MemPlace} (ht : P.underlying t = some (.slice e)) (he : P.underlying e = some (.struct #[f0, f1]))
    (ce : P.cellsOf e = 2) (o0 : f0.offset = 0) (o1 : f1.offset = 1) (c0 : P.cellsOf f0.type = 1) (c1 : P.cellsOf f1.type = 1) (t0 : f0.type = i) (t1 : f1.type = i) (hi : P.underlying i = some (.int .i64))
    (h : DataW.trod enc P w base (fun _ => true) held fuel t (Value.slice a len cap).cells.toList = some x) : PairsIs w a len := by
  rcases Go.Deep.open_slice_pairs ht he ce o0 o1 c0 c1 h with ⟨hcs, _⟩ | ⟨ad, l, c, m, n, V0, V1, D0, D1, P0, P1, hcs, _, hl, hm, hmm, _, hx⟩
  · simp [Value.cells] at hcs
    obtain ⟨rfl, rfl, rfl⟩ := hcs
    exact ⟨by omega, .inl rfl⟩
  · simp [Value.cells] at hcs
    obtain ⟨rfl, rfl, rfl⟩ := hcs
    refine ⟨by unfold maxLen at hm; omega, ?_⟩
    simp at hmm
    subst hmm
    by_cases h0 : len = 0
    · exact .inl h0
    · right
      have each : ∀ j, j < m → ∃ q : Int × Int, w.cell? (ad.add (j * 2)) = some (.int .i64 q.1) ∧ w.cell? (ad.add (j * 2 + 1)) = some (.int .i64 q.2) := fun j hj => by
        obtain ⟨h1, h2, h3, h4⟩ := hx j hj
        rw [t0] at h3
        rw [t1] at h4
        obtain ⟨y, e1, _⟩ := DataW.trod_int hi h3
        obtain ⟨z, e2, _⟩ := DataW.trod_int hi h4
        simp only [List.cons.injEq, and_true] at e1 e2
        exact ⟨(y, z), by rw [h1, e1], by rw [h2, e2]⟩
      have hk0 := (each 0 (by omega))
      obtain ⟨q0, hq0, _⟩ := hk0
      have hx0 : ad.add (0 * 2) = ad := by obtain ⟨b, o, s⟩ := ad; unfold Addr.add; split <;> simp_all
      rw [hx0] at hq0
      have hsp : ad.spot = none := by
        cases hs : ad.spot with
        | none => rfl
        | some q =>
          unfold World.cell? at hq0
          split at hq0
          · simp [hs] at hq0
          · cases hq0
      obtain ⟨b, o, s⟩ := ad
      simp only at hsp
      subst hsp
      have hlt := World.block_lt_of_cell? w _ hq0
      let F : Nat → Int × Int := fun j => if hj : j < m then (each j hj).choose else (0, 0)
      refine ⟨b, o, (List.range len).map F, rfl, by simp, hlt, fun j hj => ?_⟩
      have hj' : j < m := by simp at hj; omega
      have e : ((List.range len).map F)[j] = (each j hj').choose := by simp [F, hj']
      have hc := (each j hj').choose_spec
      generalize (each j hj').choose = q at e hc
      rw [Addr.add_mid, Addr.add_mid] at hc
      rw [e]
      exact hc
end
end Go.Proofs.Ytbppipnnmmddaaa
