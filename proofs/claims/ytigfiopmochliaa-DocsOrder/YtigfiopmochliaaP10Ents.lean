/- What comes in: slices of entries. -/
import Derived.Test.YtigfiopmochliaaMgB
import Derived.Test.YtigfiopmochliaaE9Args
namespace Go.Proofs.Ytigfiopmochliaa.P10
open Go.RowKit Go.ChangeShapes Go.WideShapes C8 E9
section
variable {H : Type} {enc : TypeId × Value → H} {P : Program} {w : World} {base : Nat} {held : Bool}
theorem enIs_cells {t e8 e5 : TypeId} {f0 f1 f2 f3 f4 f5 f6 f7 f8 g0 g1 : Field} {fuel : Nat} {l : List Value} {y : DataW H × List MemPlace} (hs : P.underlying t = some (.struct #[f0, f1, f2, f3, f4, f5, f6, f7, f8])) (hlen : l.length = 9)
    (o0 : f0.offset = 0) (o1 : f1.offset = 1) (o2 : f2.offset = 2) (o3 : f3.offset = 3) (o4 : f4.offset = 4) (o5 : f5.offset = 5) (o6 : f6.offset = 6) (o7 : f7.offset = 7) (o8 : f8.offset = 8) (c0 : P.cellsOf f0.type = 1) (c1 : P.cellsOf f1.type = 1) (c2 : P.cellsOf f2.type = 1) (c3 : P.cellsOf f3.type = 1) (c4 : P.cellsOf f4.type = 1) (c5 : P.cellsOf f5.type = 1) (c6 : P.cellsOf f6.type = 1) (c7 : P.cellsOf f7.type = 1) (c8 : P.cellsOf f8.type = 1)
    (t0_ : P.underlying f0.type = some (.int .i64)) (t1_ : P.underlying f1.type = some (.int .i64)) (t2_ : P.underlying f2.type = some (.int .i64)) (t5_ : P.underlying f5.type = some (.int .i64)) (t6_ : P.underlying f6.type = some (.int .i64)) (t7_ : P.underlying f7.type = some (.int .i64)) (t3_ : P.underlying f3.type = some (.slice e5)) (t4_ : P.underlying f4.type = some (.slice e5)) (t8_ : P.underlying f8.type = some (.slice e8)) (h5 : P.underlying e5 = some (.int .u8)) (c5_ : P.cellsOf e5 = 1)
    (he : P.underlying e8 = some (.struct #[g0, g1])) (ce : P.cellsOf e8 = 2) (q0 : g0.offset = 0) (q1 : g1.offset = 1) (r0 : P.cellsOf g0.type = 1) (r1 : P.cellsOf g1.type = 1) (u0 : P.underlying g0.type = some (.int .i64)) (u1 : P.underlying g1.type = some (.slice e5)) (hf : DataW.trod enc P w base (fun _ => true) held fuel t l = some y) : ∃ a, EnIs w (.agg l.toArray) a := by
  obtain ⟨xs, k, hk, hxy, _, hxl, hx⟩ := DataW.trod_struct hs hf
  match xs, hxl, l, hlen with
  | [y0, y1, y2, y3, y4, y5, y6, y7, y8], _, [x0, x1, x2, x3, x4, x5, x6, x7, x8], _ =>
    have k0 := hx 0 f0 rfl
    have k1 := hx 1 f1 rfl
    have k2 := hx 2 f2 rfl
    have k3 := hx 3 f3 rfl
    have k4 := hx 4 f4 rfl
    have k5 := hx 5 f5 rfl
    have k6 := hx 6 f6 rfl
    have k7 := hx 7 f7 rfl
    have k8 := hx 8 f8 rfl
    simp [o0, o1, o2, o3, o4, o5, o6, o7, o8, c0, c1, c2, c3, c4, c5, c6, c7, c8] at k0 k1 k2 k3 k4 k5 k6 k7 k8
    obtain ⟨n0, e0, _, _⟩ := DataW.trod_int t0_ k0
    obtain ⟨n1, e1, _, _⟩ := DataW.trod_int t1_ k1
    obtain ⟨n2, e2, _, _⟩ := DataW.trod_int t2_ k2
    obtain ⟨n5, e5, _, _⟩ := DataW.trod_int t5_ k5
    obtain ⟨n6, e6, _, _⟩ := DataW.trod_int t6_ k6
    obtain ⟨n7, e7, _, _⟩ := DataW.trod_int t7_ k7
    obtain ⟨p3, ln3, cp3, e3, hr3⟩ := rowIs_trod t3_ h5 c5_ k3
    obtain ⟨l3, hl3, hs3⟩ := Src.of hr3
    obtain ⟨p4, ln4, cp4, e4, hr4⟩ := rowIs_trod t4_ h5 c5_ k4
    obtain ⟨l4, hl4, hs4⟩ := Src.of hr4
    have k8' := k8
    obtain ⟨q8, ln8, cp8, e8'⟩ : ∃ q n c, x8 = .slice q n c := by
      rcases Go.Deep.open_slice t8_ k8' with ⟨hcs, _⟩ | ⟨ad, l, c, m, n, D, Pl, hcs, _⟩
      · simp only [List.cons.injEq, and_true] at hcs
        exact ⟨_, _, _, hcs⟩
      · simp only [List.cons.injEq, and_true] at hcs
        exact ⟨_, _, _, hcs⟩
    subst e8'
    obtain ⟨hw1, ws, hw2, hw3⟩ := wrRow_of t8_ he ce q0 q1 r0 r1 u0 u1 h5 c5_ k8
    simp only [List.cons.injEq, and_true] at e0 e1 e2 e5 e6 e7
    subst e0 e1 e2 e3 e4 e5 e6 e7
    have m3 := hr3.max
    have m4 := hr4.max
    subst hl3 hl4 hw2
    exact ⟨⟨n0, n1, n2, l3, l4, n5, n6, n7, ws⟩, p3, cp3, p4, cp4, q8, cp8, rfl, hs3, hs4, hw3, m3, m4, hw1⟩
end
/-- The entries behind a slice: nine cells each. -/
def EnRow (w : World) (q : Option Addr) (es : List En) : Prop :=
  ∀ j (h : j < es.length), ∃ b o np nc vp vc wq wc, q = some ⟨b, o, none⟩ ∧ b < w.heap.size ∧ (∀ i x, (EnV es[j] np nc vp vc wq wc)[i]? = some x → w.cell? ⟨b, o + j * 9 + i, none⟩ = some x) ∧ EnIs w (.agg (EnV es[j] np nc vp vc wq wc)) es[j]
theorem EnRow.below {w w' : World} {q : Option Addr} {es : List En} (h : EnRow w q es) (hb : Below w.heap.size w w') : EnRow w' q es := fun j hj => by
  obtain ⟨b, o, np, nc, vp, vc, wq, wc, h1, h2, h3, h4⟩ := h j hj
  exact ⟨b, o, np, nc, vp, vc, wq, wc, h1, Nat.lt_of_lt_of_le h2 hb.size, fun i x hx => (hb.cell (p := ⟨b, o + j * 9 + i, none⟩) h2).trans (h3 i x hx), h4.below hb⟩
section
variable {H : Type} {enc : TypeId × Value → H} {P : Program} {w : World} {base : Nat} {held : Bool}
theorem enRow_of {tt : TypeId} {a : Option Addr} {len cap : Nat} {fuel : Nat} {x : DataW H × List MemPlace} {t e8 e5 : TypeId} {f0 f1 f2 f3 f4 f5 f6 f7 f8 g0 g1 : Field} (hs : P.underlying t = some (.struct #[f0, f1, f2, f3, f4, f5, f6, f7, f8])) (hC : P.cellsOf t = 9)
    (o0 : f0.offset = 0) (o1 : f1.offset = 1) (o2 : f2.offset = 2) (o3 : f3.offset = 3) (o4 : f4.offset = 4) (o5 : f5.offset = 5) (o6 : f6.offset = 6) (o7 : f7.offset = 7) (o8 : f8.offset = 8) (c0 : P.cellsOf f0.type = 1) (c1 : P.cellsOf f1.type = 1) (c2 : P.cellsOf f2.type = 1) (c3 : P.cellsOf f3.type = 1) (c4 : P.cellsOf f4.type = 1) (c5 : P.cellsOf f5.type = 1) (c6 : P.cellsOf f6.type = 1) (c7 : P.cellsOf f7.type = 1) (c8 : P.cellsOf f8.type = 1)
    (t0_ : P.underlying f0.type = some (.int .i64)) (t1_ : P.underlying f1.type = some (.int .i64)) (t2_ : P.underlying f2.type = some (.int .i64)) (t5_ : P.underlying f5.type = some (.int .i64)) (t6_ : P.underlying f6.type = some (.int .i64)) (t7_ : P.underlying f7.type = some (.int .i64)) (t3_ : P.underlying f3.type = some (.slice e5)) (t4_ : P.underlying f4.type = some (.slice e5)) (t8_ : P.underlying f8.type = some (.slice e8)) (h5 : P.underlying e5 = some (.int .u8)) (c5_ : P.cellsOf e5 = 1)
    (he : P.underlying e8 = some (.struct #[g0, g1])) (ce : P.cellsOf e8 = 2) (q0 : g0.offset = 0) (q1 : g1.offset = 1) (r0 : P.cellsOf g0.type = 1) (r1 : P.cellsOf g1.type = 1) (u0 : P.underlying g0.type = some (.int .i64)) (u1 : P.underlying g1.type = some (.slice e5))
    (htt : P.underlying tt = some (.slice t))
    (h : DataW.trod enc P w base (fun _ => true) held fuel tt (Value.slice a len cap).cells.toList = some x) : len ≤ 9223372036854775807 ∧ ∃ es : List En, es.length = len ∧ EnRow w a es := by
  rcases Go.Deep.open_slice htt h with ⟨hcs, _⟩ | ⟨ad, l, c, m, n, D, Pl, hcs, hb, hl, hm, hmm, _, hx⟩
  · simp [Value.cells] at hcs
    obtain ⟨rfl, rfl, rfl⟩ := hcs
    exact ⟨by omega, [], rfl, fun j hj => by cases hj⟩
  · simp [Value.cells] at hcs
    obtain ⟨rfl, rfl, rfl⟩ := hcs
    refine ⟨by unfold maxLen at hm; omega, ?_⟩
    have hspot : 0 < len → ad.spot = none := fun h0 => by
      obtain ⟨cs', h1, h2⟩ := hx 0 (by simp at hmm; omega)
      rw [hC] at h1
      obtain ⟨_, hlen, hcell⟩ := World.cells?_some h1
      have e0 := hcell 0 (by omega)
      rw [Go.Deep.add_add, List.getElem?_eq_getElem (by omega)] at e0
      simp only [Nat.zero_mul, Nat.add_zero, add_nought] at e0
      exact spot_of e0
    have hone : ∀ i, i < len → ∃ e : En, ∃ b o np nc vp vc wq wc, ad = ⟨b, o, none⟩ ∧ b < w.heap.size ∧ (∀ k x, (EnV e np nc vp vc wq wc)[k]? = some x → w.cell? ⟨b, o + i * 9 + k, none⟩ = some x) ∧ EnIs w (.agg (EnV e np nc vp vc wq wc)) e := fun i hi => by
      obtain ⟨cs', h1, h2⟩ := hx i (by simp at hmm; omega)
      rw [hC] at h1
      obtain ⟨_, hlen, hcell⟩ := World.cells?_some h1
      obtain ⟨e, he'⟩ := enIs_cells hs hlen o0 o1 o2 o3 o4 o5 o6 o7 o8 c0 c1 c2 c3 c4 c5 c6 c7 c8 t0_ t1_ t2_ t5_ t6_ t7_ t3_ t4_ t8_ h5 c5_ he ce q0 q1 r0 r1 u0 u1 h2
      have he2 := he'
      obtain ⟨np, nc, vp, vc, wq, wc, ev, -⟩ := he'
      have e0 := hcell 0 (by omega)
      rw [Go.Deep.add_add, List.getElem?_eq_getElem (by omega)] at e0
      have hlt := World.block_lt_of_cell? w _ e0
      have hs0 := hspot (by omega)
      obtain ⟨b, o, s⟩ := ad
      simp only at hs0
      subst hs0
      have ev' : cs'.toArray = EnV e np nc vp vc wq wc := by injection ev
      refine ⟨e, b, o, np, nc, vp, vc, wq, wc, rfl, by simpa [Addr.add_mid] using hlt, fun k x hkx => ?_, by rw [← ev']; exact he2⟩
      rw [← ev'] at hkx
      have hk9 : k < 9 := by
        have := (Array.getElem?_eq_some_iff.1 hkx).1
        simp [hlen] at this
        exact this
      have ek := hcell k (by omega)
      rw [Go.Deep.add_add, Addr.add_mid] at ek
      rw [show o + i * 9 + k = o + (i * 9 + k) from by omega, ek]
      simpa using hkx
    refine ⟨List.ofFn (fun i : Fin len => Classical.choose (hone i.1 i.2)), by simp, fun j hj => ?_⟩
    have hj' : j < len := by simpa using hj
    have hsp := Classical.choose_spec (hone j hj')
    simp only [List.getElem_ofFn]
    obtain ⟨b, o, np, nc, vp, vc, wq, wc, rfl, h2, h3, h4⟩ := hsp
    exact ⟨b, o, np, nc, vp, vc, wq, wc, rfl, h2, h3, h4⟩
end
end Go.Proofs.Ytigfiopmochliaa.P10
