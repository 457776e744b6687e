/- What comes in: records. -/
import Derived.Test.YtfjdaafckiefdaaGreatDoorMgY
import Derived.Test.YtfjdaafckiefdaaGreatDoorMgC
namespace Go.Proofs.YtfjdaafckiefdaaGreatDoor.S15
open Go.RowKit Go.ChangeShapes Go.WideShapes C8 E9
section
variable {H : Type} {enc : TypeId × Value → H} {P : Program} {w : World} {base : Nat} {held : Bool}
/-- A record as a value. -/
def RecIs (w : World) (v : Value) (r : Rec) : Prop := ∃ q c, v = .agg (RecV r q c) ∧ Src w (.slice q r.box.length c) r.box ∧ r.box.length ≤ 9223372036854775807 ∧ (r.box ≠ [] → ∀ k, (Value.slice q r.box.length c).ownBlock = some k → k < w.heap.size)
theorem recIs_of {r : Reach} {b0 : Nat} {t e5 : TypeId} {f0 f1 f2 f3 f4 : Field} {v : Value} {d : DataW H} {p : List MemPlace} (hs : P.underlying t = some (.struct #[f0, f1, f2, f3, f4])) (hC : P.cellsOf t = 5)
    (o0 : f0.offset = 0) (o1 : f1.offset = 1) (o2 : f2.offset = 2) (o3 : f3.offset = 3) (o4 : f4.offset = 4) (c0 : P.cellsOf f0.type = 1) (c1 : P.cellsOf f1.type = 1) (c2 : P.cellsOf f2.type = 1) (c3 : P.cellsOf f3.type = 1) (c4 : P.cellsOf f4.type = 1)
    (t0_ : P.underlying f0.type = some (.int .i64)) (t1_ : P.underlying f1.type = some (.int .i64)) (t2_ : P.underlying f2.type = some (.int .i64)) (t3_ : P.underlying f3.type = some (.int .i64)) (t4_ : P.underlying f4.type = some (.slice e5)) (h5 : P.underlying e5 = some (.int .u8)) (c5_ : P.cellsOf e5 = 1)
    (hv : Value.okWide P w r b0 t v) (h : DataW.Trod enc P w base (fun _ => true) held t v d p) : ∃ a, RecIs w v a := by
  obtain ⟨cs, rfl, hsz⟩ := okWide_struct hs hv
  obtain ⟨fuel, hf⟩ := h
  have hlen : cs.toList.length = 5 := by rw [Array.length_toList]; exact hsz.trans hC
  obtain ⟨xs, k, hk, hxy, _, hxl, hx⟩ := DataW.trod_struct hs hf
  have hcs : (Value.agg cs).cells.toList = cs.toList := rfl
  rw [hcs] at hx
  obtain ⟨l, rfl⟩ : ∃ l, cs = ⟨l⟩ := ⟨cs.toList, rfl⟩
  simp only at hlen hx
  match xs, hxl, l, hlen with
  | [y0, y1, y2, y3, y4], _, [x0, x1, x2, x3, x4], _ =>
    have k0 := hx 0 f0 rfl
    have k1 := hx 1 f1 rfl
    have k2 := hx 2 f2 rfl
    have k3 := hx 3 f3 rfl
    have k4 := hx 4 f4 rfl
    simp [o0, o1, o2, o3, o4, c0, c1, c2, c3, c4] at k0 k1 k2 k3 k4
    obtain ⟨n0, e0, _, _⟩ := DataW.trod_int t0_ k0
    obtain ⟨n1, e1, _, _⟩ := DataW.trod_int t1_ k1
    obtain ⟨n2, e2, _, _⟩ := DataW.trod_int t2_ k2
    obtain ⟨n3, e3, _, _⟩ := DataW.trod_int t3_ k3
    obtain ⟨p4, ln4, cp4, e4, hr4⟩ := rowIs_trod t4_ h5 c5_ k4
    obtain ⟨l4, hl4, hs4⟩ := Src.of hr4
    simp only [List.cons.injEq, and_true] at e0 e1 e2 e3
    subst e0 e1 e2 e3 e4
    have m4 := hr4.max
    subst hl4
    refine ⟨⟨n0, n1, n2, n3, l4⟩, p4, cp4, rfl, hs4, m4, fun hne k hk => ?_⟩
    rcases hr4 with ⟨e, e'⟩ | ⟨b, o, m, e, _, _, _, _, _, hb⟩
    · first | exact absurd (List.eq_nil_of_length_eq_zero e) hne | exact absurd (List.eq_nil_of_length_eq_zero e') hne
    · subst e; cases hk; exact hb
end
end Go.Proofs.YtfjdaafckiefdaaGreatDoor.S15
