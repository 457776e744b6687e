/- The contract of small; frames that came in. -/
import Derived.Test.YtchoiioeeepoaaaF17Leaf
import Derived.Test.YtchoiioeeepoaaaC8Args
namespace Go.Proofs.Ytchoiioeeepoaaa.F17
open Go.RowKit Go.ChangeShapes Go.WideShapes C8 E9
/-- It can be gone through with. -/
def small (f : Fr) : Bool := f.links.all (fun x => decide (x.length ≤ 4200)) && (decide (f.links.length ≤ 12) && decide (f.sum.length ≤ 100))
theorem small_of {f : Fr} (h : small f = true) : (∀ x ∈ f.links, x.length ≤ 4200) ∧ f.links.length ≤ 12 ∧ f.sum.length ≤ 100 := by
  unfold small at h
  simp only [Bool.and_eq_true, decide_eq_true_eq, List.all_eq_true] at h
  exact h
section
variable {H : Type} {enc : TypeId × Value → H} {P : Program} {w : World} {base : Nat} {held : Bool}
/-- A slice of slices of bytes. -/
theorem lkRow_of {t e e5 : TypeId} {fuel : Nat} {a : Option Addr} {len cap : Nat} {x : DataW H × List MemPlace} (ht : P.underlying t = some (.slice e)) (he : P.underlying e = some (.slice e5)) (ce : P.cellsOf e = 1) (t3 : P.underlying e5 = some (.int .u8)) (c5 : P.cellsOf e5 = 1)
    (h : DataW.trod enc P w base (fun _ => true) held fuel t [Value.slice a len cap] = some x) :
    len ≤ 9223372036854775807 ∧ ∃ ls : List (List Nat), ls.length = len ∧ LkRow w a ls := by
  rcases Go.Deep.open_slice ht h with ⟨hcs, _⟩ | ⟨ad, l, c, m, n, D, Pl, hcs, hb, hl, hm, hmm, _, hx⟩
  · simp at hcs
    obtain ⟨rfl, rfl, rfl⟩ := hcs
    exact ⟨by omega, [], rfl, LkRow.nil _ _⟩
  · simp at hcs
    obtain ⟨rfl, rfl, rfl⟩ := hcs
    refine ⟨by unfold maxLen at hm; omega, ?_⟩
    have each : ∀ i, i < len → ∃ q : List Nat, ∃ b o bp bc, (some ad : Option Addr) = some ⟨b, o, none⟩ ∧ b < w.heap.size ∧ w.cell? ⟨b, o + i, none⟩ = some (.slice bp q.length bc) ∧ Src w (.slice bp q.length bc) q ∧ q.length ≤ 9223372036854775807 := by
      intro i hi
      have cell : ∀ i, i < len → ∃ v0 y, w.cell? (ad.add i) = some v0 ∧ ∃ n, DataW.trod enc P w base (fun _ => true) held n e [v0] = some y := by
        intro i hi
        obtain ⟨cs', h1, h2⟩ := hx i (by simp at hmm; omega)
        rw [ce] at h1
        obtain ⟨_, hlen, hcell⟩ := World.cells?_some h1
        match cs', hlen with
        | [v0], _ =>
          have e0 := hcell 0 (by omega)
          rw [Go.Deep.add_add] at e0
          exact ⟨v0, _, by simpa using e0, _, h2⟩
      obtain ⟨z0, _, hz0, _⟩ := cell 0 (by omega)
      rw [add_nought] at hz0
      have hsp := spot_of hz0
      obtain ⟨v0, y, k0, n0, g0⟩ := cell i hi
      obtain ⟨b, o, s⟩ := ad
      simp only at hsp
      subst hsp
      obtain ⟨p, ln, cp, e2, hr⟩ := rowIs_trod he t3 c5 g0
      obtain ⟨l, hl, hs⟩ := Src.of hr
      subst e2
      rw [Addr.add_mid] at k0
      subst hl
      exact ⟨l, b, o, p, cp, rfl, World.block_lt_of_cell? w _ hz0, k0, hs, hr.max⟩
    obtain ⟨f, hf⟩ := Go.Deep.choose_lt each
    refine ⟨(List.range len).map f, by simp, fun j hj => ?_⟩
    have hj' : j < len := by simpa using hj
    obtain ⟨b, o, bp, bc, h1, h2, h3, h4, h5⟩ := hf j hj'
    exact ⟨b, o, bp, bc, h1, h2, by simpa using h3, by simpa using h4, by simpa using h5⟩
set_option maxHeartbeats 1000000 in
theorem frIs_of {r : Reach} {b0 : Nat} {t e3 e5 : TypeId} {f0 f1 f2 f3 f4 : Field} {v : Value} {d : DataW H} {p : List MemPlace} (hs : P.underlying t = some (.struct #[f0, f1, f2, f3, f4])) (hC : P.cellsOf t = 5)
    (o0 : f0.offset = 0) (o1 : f1.offset = 1) (o2 : f2.offset = 2) (o3 : f3.offset = 3) (o4 : f4.offset = 4) (c0 : P.cellsOf f0.type = 1) (c1 : P.cellsOf f1.type = 1) (c2 : P.cellsOf f2.type = 1) (c3 : P.cellsOf f3.type = 1) (c4 : P.cellsOf f4.type = 1)
    (t0_ : P.underlying f0.type = some (.int .i64)) (t1_ : P.underlying f1.type = some (.int .i64)) (t2_ : P.underlying f2.type = some (.int .i64)) (t3_ : P.underlying f3.type = some (.slice e3)) (t4_ : P.underlying f4.type = some (.slice e5)) (he : P.underlying e3 = some (.slice e5)) (ce : P.cellsOf e3 = 1) (h5 : P.underlying e5 = some (.int .u8)) (c5_ : P.cellsOf e5 = 1)
    (hv : Value.okWide P w r b0 t v) (h : DataW.Trod enc P w base (fun _ => true) held t v d p) : ∃ a, FrIs w v a := by
  obtain ⟨cs, rfl, hsz⟩ := okWide_struct hs hv
  obtain ⟨fuel, hf⟩ := h
  have hlen : cs.toList.length = 5 := by rw [Array.length_toList]; exact hsz.trans hC
  obtain ⟨xs, k, hk, hxy, _, hxl, hx⟩ := DataW.trod_struct hs hf
  have hcs : (Value.agg cs).cells.toList = cs.toList := rfl
  rw [hcs] at hx
  obtain ⟨l, rfl⟩ : ∃ l, cs = ⟨l⟩ := ⟨cs.toList, rfl⟩
  simp only at hlen hx
  match xs, hxl, l, hlen with
  | [y0, y1, y2, y3, y4], _, [x0, x1, x2, x3, x4], _ =>
    have k0 := hx 0 f0 rfl
    have k1 := hx 1 f1 rfl
    have k2 := hx 2 f2 rfl
    have k3 := hx 3 f3 rfl
    have k4 := hx 4 f4 rfl
    simp [o0, o1, o2, o3, o4, c0, c1, c2, c3, c4] at k0 k1 k2 k3 k4
    obtain ⟨n0, e0, _, _⟩ := DataW.trod_int t0_ k0
    obtain ⟨n1, e1, _, _⟩ := DataW.trod_int t1_ k1
    obtain ⟨n2, e2, _, _⟩ := DataW.trod_int t2_ k2
    obtain ⟨p4, ln4, cp4, e4, hr4⟩ := rowIs_trod t4_ h5 c5_ k4
    obtain ⟨l4, hl4, hs4⟩ := Src.of hr4
    have k3' := k3
    obtain ⟨q3, ln3, cp3, e3'⟩ : ∃ q n c, x3 = .slice q n c := by
      rcases Go.Deep.open_slice t3_ k3' with ⟨hcs, _⟩ | ⟨ad, l, c, m, n, D, Pl, hcs, _⟩
      · simp only [List.cons.injEq, and_true] at hcs
        exact ⟨_, _, _, hcs⟩
      · simp only [List.cons.injEq, and_true] at hcs
        exact ⟨_, _, _, hcs⟩
    subst e3'
    obtain ⟨hw1, ls, hw2, hw3⟩ := lkRow_of t3_ he ce h5 c5_ k3
    simp only [List.cons.injEq, and_true] at e0 e1 e2
    subst e0 e1 e2 e4
    have m4 := hr4.max
    subst hl4 hw2
    exact ⟨⟨n0, n1, n2, ls, l4⟩, q3, cp3, p4, cp4, rfl, hw3, hs4, hw1, m4⟩
end
end Go.Proofs.Ytchoiioeeepoaaa.F17
