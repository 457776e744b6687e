/- What comes in: entries. -/
import Derived.Test.YtigfiopmochliaaMgD
import Derived.Test.YtigfiopmochliaaMgB
namespace Go.Proofs.Ytigfiopmochliaa.E9
open Go.RowKit Go.ChangeShapes Go.WideShapes C8
section
variable {H : Type} {enc : TypeId × Value → H} {P : Program} {w : World} {base : Nat} {held : Bool}
/-- A slice of structs of two cells each. -/
theorem open_pairs {t e : TypeId} {f0 f1 : Field} {fuel : Nat} {a : Option Addr} {len cap : Nat} {x : DataW H × List MemPlace} (ht : P.underlying t = some (.slice e)) (he : P.underlying e = some (.struct #[f0, f1]))
    (ce : P.cellsOf e = 2) (o0 : f0.offset = 0) (o1 : f1.offset = 1) (c0 : P.cellsOf f0.type = 1) (c1 : P.cellsOf f1.type = 1)
    (h : DataW.trod enc P w base (fun _ => true) held fuel t [Value.slice a len cap] = some x) :
    len ≤ 9223372036854775807 ∧ ∀ i, i < len → ∃ (ad : Addr) (n : Nat) (v0 v1 : Value) (y0 y1 : DataW H × List MemPlace), a = some ad ∧ w.cell? (ad.add (i * 2)) = some v0 ∧ w.cell? (ad.add (i * 2 + 1)) = some v1 ∧
      DataW.trod enc P w base (fun _ => true) held n f0.type [v0] = some y0 ∧ DataW.trod enc P w base (fun _ => true) held n f1.type [v1] = some y1 := by
  rcases Go.Deep.open_slice ht h with ⟨hcs, _⟩ | ⟨ad, l, c, m, n, D, Pl, hcs, hb, hl, hm, hmm, _, hx⟩
  · simp at hcs
    obtain ⟨rfl, rfl, rfl⟩ := hcs
    exact ⟨by omega, fun i hi => by omega⟩
  · simp at hcs
    obtain ⟨rfl, rfl, rfl⟩ := hcs
    refine ⟨by unfold maxLen at hm; omega, fun i hi => ?_⟩
    obtain ⟨cs', h1, h2⟩ := hx i (by simp at hmm; omega)
    rw [ce] at h1
    obtain ⟨_, hlen, hcell⟩ := World.cells?_some h1
    obtain ⟨xs, k, hk, hxy, _, hxl, hf⟩ := DataW.trod_struct he h2
    match xs, hxl, cs', hlen with
    | [y0, y1], _, [v0, v1], _ =>
      have g0 := hf 0 f0 rfl
      have g1 := hf 1 f1 rfl
      simp [o0, o1, c0, c1] at g0 g1
      have e0 := hcell 0 (by omega)
      have e1 := hcell 1 (by omega)
      rw [Go.Deep.add_add] at e0 e1
      exact ⟨ad, _, v0, v1, y0, y1, rfl, by simpa using e0, by simpa using e1, g0, g1⟩
theorem wrRow_of {t e e5 : TypeId} {f0 f1 : Field} {fuel : Nat} {a : Option Addr} {len cap : Nat} {x : DataW H × List MemPlace} (ht : P.underlying t = some (.slice e)) (he : P.underlying e = some (.struct #[f0, f1]))
    (ce : P.cellsOf e = 2) (o0 : f0.offset = 0) (o1 : f1.offset = 1) (c0 : P.cellsOf f0.type = 1) (c1 : P.cellsOf f1.type = 1)
    (t0 : P.underlying f0.type = some (.int .i64)) (t1 : P.underlying f1.type = some (.slice e5)) (t3 : P.underlying e5 = some (.int .u8)) (c5 : P.cellsOf e5 = 1)
    (h : DataW.trod enc P w base (fun _ => true) held fuel t [Value.slice a len cap] = some x) :
    len ≤ 9223372036854775807 ∧ ∃ ws : List (Int × List Nat), ws.length = len ∧ WrRow w a ws := by
  obtain ⟨hlen, hx⟩ := open_pairs ht he ce o0 o1 c0 c1 h
  refine ⟨hlen, ?_⟩
  have each : ∀ i, i < len → ∃ q : Int × List Nat, ∃ b o bp bc, a = some ⟨b, o, none⟩ ∧ b < w.heap.size ∧ w.cell? ⟨b, o + i * 2, none⟩ = some (.int .i64 q.1) ∧ w.cell? ⟨b, o + i * 2 + 1, none⟩ = some (.slice bp q.2.length bc) ∧ Src w (.slice bp q.2.length bc) q.2 ∧ q.2.length ≤ 9223372036854775807 := by
    intro i hi
    obtain ⟨ad0, _, z0, _, _, _, ea0, hz0, _⟩ := hx 0 (by omega)
    rw [Nat.zero_mul, add_nought] at hz0
    have hsp := spot_of hz0
    obtain ⟨ad, n, v0, v1, y0, y1, ea, k0, k1, g0, g1⟩ := hx i hi
    rw [ea0] at ea
    obtain rfl := Option.some.inj ea
    obtain ⟨b, o, s⟩ := ad0
    simp only at hsp
    subst hsp
    obtain ⟨n1, e1, _, _⟩ := DataW.trod_int t0 g0
    obtain ⟨p, ln, cp, e2, hr⟩ := rowIs_trod t1 t3 c5 g1
    obtain ⟨l, hl, hs⟩ := Src.of hr
    simp only [List.cons.injEq, and_true] at e1
    subst e1 e2
    rw [Addr.add_mid] at k0 k1
    subst hl
    exact ⟨(n1, l), b, o, p, cp, ea0, World.block_lt_of_cell? w _ hz0, k0, by rw [Nat.add_assoc]; exact k1, hs, hr.max⟩
  obtain ⟨f, hf⟩ := Go.Deep.choose_lt each
  refine ⟨(List.range len).map f, by simp, fun j hj => ?_⟩
  have hj' : j < len := by simpa using hj
  obtain ⟨b, o, bp, bc, h1, h2, h3, h4, h5, h6⟩ := hf j hj'
  exact ⟨b, o, bp, bc, h1, h2, by simpa using h3, by simpa using h4, by simpa using h5, by simpa using h6⟩
set_option maxHeartbeats 1000000 in
theorem enIs_of {r : Reach} {b0 : Nat} {t e8 e5 : TypeId} {f0 f1 f2 f3 f4 f5 f6 f7 f8 g0 g1 : Field} {v : Value} {d : DataW H} {p : List MemPlace} (hs : P.underlying t = some (.struct #[f0, f1, f2, f3, f4, f5, f6, f7, f8])) (hC : P.cellsOf t = 9)
    (o0 : f0.offset = 0) (o1 : f1.offset = 1) (o2 : f2.offset = 2) (o3 : f3.offset = 3) (o4 : f4.offset = 4) (o5 : f5.offset = 5) (o6 : f6.offset = 6) (o7 : f7.offset = 7) (o8 : f8.offset = 8) (c0 : P.cellsOf f0.type = 1) (c1 : P.cellsOf f1.type = 1) (c2 : P.cellsOf f2.type = 1) (c3 : P.cellsOf f3.type = 1) (c4 : P.cellsOf f4.type = 1) (c5 : P.cellsOf f5.type = 1) (c6 : P.cellsOf f6.type = 1) (c7 : P.cellsOf f7.type = 1) (c8 : P.cellsOf f8.type = 1)
    (t0_ : P.underlying f0.type = some (.int .i64)) (t1_ : P.underlying f1.type = some (.int .i64)) (t2_ : P.underlying f2.type = some (.int .i64)) (t5_ : P.underlying f5.type = some (.int .i64)) (t6_ : P.underlying f6.type = some (.int .i64)) (t7_ : P.underlying f7.type = some (.int .i64)) (t3_ : P.underlying f3.type = some (.slice e5)) (t4_ : P.underlying f4.type = some (.slice e5)) (t8_ : P.underlying f8.type = some (.slice e8)) (h5 : P.underlying e5 = some (.int .u8)) (c5_ : P.cellsOf e5 = 1)
    (he : P.underlying e8 = some (.struct #[g0, g1])) (ce : P.cellsOf e8 = 2) (q0 : g0.offset = 0) (q1 : g1.offset = 1) (r0 : P.cellsOf g0.type = 1) (r1 : P.cellsOf g1.type = 1) (u0 : P.underlying g0.type = some (.int .i64)) (u1 : P.underlying g1.type = some (.slice e5))
    (hv : Value.okWide P w r b0 t v) (h : DataW.Trod enc P w base (fun _ => true) held t v d p) : ∃ a, EnIs w v a := by
  obtain ⟨cs, rfl, hsz⟩ := okWide_struct hs hv
  obtain ⟨fuel, hf⟩ := h
  have hlen : cs.toList.length = 9 := by rw [Array.length_toList]; exact hsz.trans hC
  obtain ⟨xs, k, hk, hxy, _, hxl, hx⟩ := DataW.trod_struct hs hf
  have hcs : (Value.agg cs).cells.toList = cs.toList := rfl
  rw [hcs] at hx
  obtain ⟨l, rfl⟩ : ∃ l, cs = ⟨l⟩ := ⟨cs.toList, rfl⟩
  simp only at hlen hx
  match xs, hxl, l, hlen with
  | [y0, y1, y2, y3, y4, y5, y6, y7, y8], _, [x0, x1, x2, x3, x4, x5, x6, x7, x8], _ =>
    have k0 := hx 0 f0 rfl
    have k1 := hx 1 f1 rfl
    have k2 := hx 2 f2 rfl
    have k3 := hx 3 f3 rfl
    have k4 := hx 4 f4 rfl
    have k5 := hx 5 f5 rfl
    have k6 := hx 6 f6 rfl
    have k7 := hx 7 f7 rfl
    have k8 := hx 8 f8 rfl
    simp [o0, o1, o2, o3, o4, o5, o6, o7, o8, c0, c1, c2, c3, c4, c5, c6, c7, c8] at k0 k1 k2 k3 k4 k5 k6 k7 k8
    obtain ⟨n0, e0, _, _⟩ := DataW.trod_int t0_ k0
    obtain ⟨n1, e1, _, _⟩ := DataW.trod_int t1_ k1
    obtain ⟨n2, e2, _, _⟩ := DataW.trod_int t2_ k2
    obtain ⟨n5, e5, _, _⟩ := DataW.trod_int t5_ k5
    obtain ⟨n6, e6, _, _⟩ := DataW.trod_int t6_ k6
    obtain ⟨n7, e7, _, _⟩ := DataW.trod_int t7_ k7
    obtain ⟨p3, ln3, cp3, e3, hr3⟩ := rowIs_trod t3_ h5 c5_ k3
    obtain ⟨l3, hl3, hs3⟩ := Src.of hr3
    obtain ⟨p4, ln4, cp4, e4, hr4⟩ := rowIs_trod t4_ h5 c5_ k4
    obtain ⟨l4, hl4, hs4⟩ := Src.of hr4
    have k8' := k8
    obtain ⟨q8, ln8, cp8, e8'⟩ : ∃ q n c, x8 = .slice q n c := by
      rcases Go.Deep.open_slice t8_ k8' with ⟨hcs, _⟩ | ⟨ad, l, c, m, n, D, Pl, hcs, _⟩
      · simp only [List.cons.injEq, and_true] at hcs
        exact ⟨_, _, _, hcs⟩
      · simp only [List.cons.injEq, and_true] at hcs
        exact ⟨_, _, _, hcs⟩
    subst e8'
    obtain ⟨hw1, ws, hw2, hw3⟩ := wrRow_of t8_ he ce q0 q1 r0 r1 u0 u1 h5 c5_ k8
    simp only [List.cons.injEq, and_true] at e0 e1 e2 e5 e6 e7
    subst e0 e1 e2 e3 e4 e5 e6 e7
    have m3 := hr3.max
    have m4 := hr4.max
    subst hl3 hl4 hw2
    exact ⟨⟨n0, n1, n2, l3, l4, n5, n6, n7, ws⟩, p3, cp3, p4, cp4, q8, cp8, rfl, hs3, hs4, hw3, m3, m4, hw1⟩
end
end Go.Proofs.Ytigfiopmochliaa.E9
