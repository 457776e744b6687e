/- The contract of SmallEntry. -/
import Derived.Test.YtfjdaafckiefdaaGreatDoorMgE
import Derived.Test.YtfjdaafckiefdaaGreatDoorMgC
namespace Go.Proofs.YtfjdaafckiefdaaGreatDoor.E9
open Go.RowKit C8
/-- It can be gone through with. -/
def small (e : En) : Bool := e.wraps.all (fun x => decide (x.2.length ≤ 100)) && (decide (e.name.length ≤ 100) && (decide (e.value.length ≤ 600) && decide (e.wraps.length ≤ 20)))
set_option maxHeartbeats 4000000 in
theorem small_any (a : En) (va : Value) (w : World) (ha : EnIs w va a) : Calls Tryz.prog 20 #[va] w fun e w' => e = .returned (.bool (small a)) ∧ Below w.heap.size w w' := by
  obtain ⟨np, nc, vp, vc, q, c, rfl, ha⟩ := ha
  have HA : Hid (WrRow w q a.wraps) := ha.wraps
  have ln := ha.ln
  have lv := ha.lv
  have lw := ha.lw
  clear ha
  obtain ⟨res, HR⟩ : ∃ res, Hid (small a = res) := ⟨_, rfl⟩
  rw [HR.out]
  replace HR : Hid ((a.wraps.all (fun x => decide (x.2.length ≤ 100)) && (decide (a.name.length ≤ 100) && (decide (a.value.length ≤ 600) && decide (a.wraps.length ≤ 20)))) = res) := HR.out
  obtain ⟨a1, a2, a3, a4, a5, a6, a7, a8, ws⟩ := a
  simp only [EnV] at HA ln lv lw HR ⊢
  obtain ⟨n9, HN⟩ : ∃ n, Hid (ws.length = n) := ⟨_, rfl⟩
  rw [HN.out] at lw HR ⊢
  generalize a4.length = n4 at *
  generalize a5.length = n5 at *
  have l1 : (n9 : Int) ≤ 9223372036854775807 := by omega
  have HB0 : Hid (Below w.heap.size w (w.alloc (.cells #[.int .i64 a1, .int .i64 a2, .int .i64 a3, .slice np n4 nc, .slice vp n5 vc, .int .i64 a6, .int .i64 a7, .int .i64 a8, .slice q n9 c] 49))) := bel_alloc (Nat.le_refl _) _
  have HX : Hid (∀ wr, Below (w.heap.size + 1) (w.alloc (.cells #[.int .i64 a1, .int .i64 a2, .int .i64 a3, .slice np n4 nc, .slice vp n5 vc, .int .i64 a6, .int .i64 a7, .int .i64 a8, .slice q n9 c] 49)) wr → wr.heap[w.heap.size]? = some (.cells #[.int .i64 a1, .int .i64 a2, .int .i64 a3, .slice np n4 nc, .slice vp n5 vc, .int .i64 a6, .int .i64 a7, .int .i64 a8, .slice q n9 c] 49 (0, 0))) := fun wr hb => (hb.block _ (Nat.lt_succ_self _)).trans (heap_alloc_new w _)
  go_enter Tryz.func20, Tryz.ntmps20
  go_wp2_with fail
  go_loopw [8] (fun i wr => ∃ j : Nat, j ≤ n9 ∧ i = .int .i64 j ∧ Hid (Below (w.heap.size + 1) (w.alloc (.cells #[.int .i64 a1, .int .i64 a2, .int .i64 a3, .slice np n4 nc, .slice vp n5 vc, .int .i64 a6, .int .i64 a7, .int .i64 a8, .slice q n9 c] 49)) wr) ∧ Hid ((ws.take j).all (fun x => decide (x.2.length ≤ 100)) = true)) (fun i _ => n9 - (intOf i).toNat)
  case atStart => exact ⟨0, by omega, rfl, Below.refl _ _, rfl⟩
  case round =>
    obtain ⟨j, hj, rfl, HBX, HE⟩ := hrel
    have HB : Hid (Below w.heap.size w wr) := HB0.out.trans (bel_le HBX.out (Nat.le_succ _))
    have HZ : Hid (w.heap.size + 1 ≤ wr.heap.size) := by have := HBX.out.size; simp at this; exact this
    by_cases hlt : j < n9
    · have ja : j < ws.length := by rw [HN.out]; exact hlt
      have HBA : Hid (∀ ob, Below (w.heap.size + 1) (w.alloc (.cells #[.int .i64 a1, .int .i64 a2, .int .i64 a3, .slice np n4 nc, .slice vp n5 vc, .int .i64 a6, .int .i64 a7, .int .i64 a8, .slice q n9 c] 49)) (wr.alloc ob)) := fun ob => HBX.out.trans (bel_alloc HZ.out ob)
      obtain ⟨b, o, bp, bc, rfl, k2, k3, k4, k5, k6⟩ := HA.out j ja
      have d0 := (HB.out.cell (p := ⟨b, o + j * 2, none⟩) k2).trans k3
      have d1 := (HB.out.cell (p := ⟨b, o + j * 2 + 1, none⟩) k2).trans k4
      have j1 : (j : Int) < (n9 : Int) := by omega
      have j0 : (0 : Int) ≤ (j : Int) := by omega
      have HBB : Hid (∀ ob, Below w.heap.size w (wr.alloc ob)) := fun ob => HB.out.trans (bel_alloc HB.out.size ob)
      have HT : Hid ((ws.take (j + 1)).all (fun x => decide (x.2.length ≤ 100)) = decide (ws[j].2.length ≤ 100)) := by
        show _ = _
        rw [List.take_succ_eq_append_getElem ja, List.all_append, HE.out]
        simp
      have HL : Hid (decide (ws[j].2.length ≤ 100) = false → res = false) := fun h => by
        rw [← HR.out]
        have : ws.all (fun x => decide (x.2.length ≤ 100)) = false := by
          rw [List.all_eq_false]
          exact ⟨ws[j], List.getElem_mem ja, by simpa using h⟩
        rw [this]
        rfl
      clear k3 k4 k5 HE HR
      generalize ws[j] = x at *
      obtain ⟨x1, x2⟩ := x
      simp only at d0 d1 HT HL k6
      generalize x2.length = xl at *
      clear ja
      by_cases hx : 100 < xl
      · have hx1 : (100 : Int) < (xl : Int) := by omega
        have HF : Hid (res = false) := HL.out (by simp; omega)
        clear HT HL HX
        go_wp2_with fail
        go_ret
        exact ⟨by rw [HF.out]; rfl, HBB.out _⟩
      · have hx1 : (xl : Int) ≤ 100 := by omega
        have HT2 : Hid ((ws.take (j + 1)).all (fun x => decide (x.2.length ≤ 100)) = true) := by show _ = _; rw [HT.out]; simp; omega
        clear HT HL HX
        go_wp2_with fail
        refine ⟨⟨j + 1, by omega, by simp, HBA.out _, HT2⟩, ?_⟩
        simp only [intOf]
        omega
    · obtain rfl : j = n9 := by omega
      have j1 : ¬ (j : Int) < (j : Int) := by omega
      have hh := HX.out wr HBX.out
      have d3 : wr.cell? ⟨w.heap.size, 3, none⟩ = some (.slice np n4 nc) := by rw [cell_of_row _ _ _ _ _ _ hh]; rfl
      have d4 : wr.cell? ⟨w.heap.size, 4, none⟩ = some (.slice vp n5 vc) := by rw [cell_of_row _ _ _ _ _ _ hh]; rfl
      have d8 : wr.cell? ⟨w.heap.size, 8, none⟩ = some (.slice q j c) := by rw [cell_of_row _ _ _ _ _ _ hh]; rfl
      replace HR : Hid ((decide (n4 ≤ 100) && (decide (n5 ≤ 600) && decide (j ≤ 20))) = res) := by
        have h1 := HE.out
        rw [List.take_of_length_le (by rw [HN.out]; omega)] at h1
        have := HR.out
        rw [h1] at this
        show _ = _
        simpa using this
      clear HE HX hh HN HA
      by_cases h4 : n4 ≤ 100
      · have h4i : (n4 : Int) ≤ 100 := by omega
        by_cases h5 : n5 ≤ 600
        · have h5i : (n5 : Int) ≤ 600 := by omega
          have HF : Hid (res = decide ((j : Int) ≤ 20)) := by
            show _ = _
            rw [← HR.out, decide_eq_true h4, decide_eq_true h5]
            simp
            omega
          clear HR
          go_wp2_with fail
          go_ret
          exact ⟨by rw [HF.out]; rfl, HB.out⟩
        · have h5i : ¬ (n5 : Int) ≤ 600 := by omega
          have HF : Hid (res = false) := by show _ = _; rw [← HR.out, decide_eq_false h5]; simp
          clear HR
          go_wp2_with fail
          go_ret
          exact ⟨by rw [HF.out]; rfl, HB.out⟩
      · have h4i : ¬ (n4 : Int) ≤ 100 := by omega
        have HF : Hid (res = false) := by show _ = _; rw [← HR.out, decide_eq_false h4]; simp
        clear HR
        go_wp2_with fail
        go_ret
        exact ⟨by rw [HF.out]; rfl, HB.out⟩
end Go.Proofs.YtfjdaafckiefdaaGreatDoor.E9
/- What comes in: entries. -/
namespace Go.Proofs.YtfjdaafckiefdaaGreatDoor.E9
open Go.RowKit Go.ChangeShapes Go.WideShapes C8
section
variable {H : Type} {enc : TypeId × Value → H} {P : Program} {w : World} {base : Nat} {held : Bool}
/-- A slice of structs of two cells each. -/
theorem open_pairs {t e : TypeId} {f0 f1 : Field} {fuel : Nat} {a : Option Addr} {len cap : Nat} {x : DataW H × List MemPlace} (ht : P.underlying t = some (.slice e)) (he : P.underlying e = some (.struct #[f0, f1]))
    (ce : P.cellsOf e = 2) (o0 : f0.offset = 0) (o1 : f1.offset = 1) (c0 : P.cellsOf f0.type = 1) (c1 : P.cellsOf f1.type = 1)
    (h : DataW.trod enc P w base (fun _ => true) held fuel t [Value.slice a len cap] = some x) :
    len ≤ 9223372036854775807 ∧ ∀ i, i < len → ∃ (ad : Addr) (n : Nat) (v0 v1 : Value) (y0 y1 : DataW H × List MemPlace), a = some ad ∧ w.cell? (ad.add (i * 2)) = some v0 ∧ w.cell? (ad.add (i * 2 + 1)) = some v1 ∧
      DataW.trod enc P w base (fun _ => true) held n f0.type [v0] = some y0 ∧ DataW.trod enc P w base (fun _ => true) held n f1.type [v1] = some y1 := by
  rcases Go.Deep.open_slice ht h with ⟨hcs, _⟩ | ⟨ad, l, c, m, n, D, Pl, hcs, hb, hl, hm, hmm, _, hx⟩
  · simp at hcs
    obtain ⟨rfl, rfl, rfl⟩ := hcs
    exact ⟨by omega, fun i hi => by omega⟩
  · simp at hcs
    obtain ⟨rfl, rfl, rfl⟩ := hcs
    refine ⟨by unfold maxLen at hm; omega, fun i hi => ?_⟩
    obtain ⟨cs', h1, h2⟩ := hx i (by simp at hmm; omega)
    rw [ce] at h1
    obtain ⟨_, hlen, hcell⟩ := World.cells?_some h1
    obtain ⟨xs, k, hk, hxy, _, hxl, hf⟩ := DataW.trod_struct he h2
    match xs, hxl, cs', hlen with
    | [y0, y1], _, [v0, v1], _ =>
      have g0 := hf 0 f0 rfl
      have g1 := hf 1 f1 rfl
      simp [o0, o1, c0, c1] at g0 g1
      have e0 := hcell 0 (by omega)
      have e1 := hcell 1 (by omega)
      rw [Go.Deep.add_add] at e0 e1
      exact ⟨ad, _, v0, v1, y0, y1, rfl, by simpa using e0, by simpa using e1, g0, g1⟩
theorem wrRow_of {t e e5 : TypeId} {f0 f1 : Field} {fuel : Nat} {a : Option Addr} {len cap : Nat} {x : DataW H × List MemPlace} (ht : P.underlying t = some (.slice e)) (he : P.underlying e = some (.struct #[f0, f1]))
    (ce : P.cellsOf e = 2) (o0 : f0.offset = 0) (o1 : f1.offset = 1) (c0 : P.cellsOf f0.type = 1) (c1 : P.cellsOf f1.type = 1)
    (t0 : P.underlying f0.type = some (.int .i64)) (t1 : P.underlying f1.type = some (.slice e5)) (t3 : P.underlying e5 = some (.int .u8)) (c5 : P.cellsOf e5 = 1)
    (h : DataW.trod enc P w base (fun _ => true) held fuel t [Value.slice a len cap] = some x) :
    len ≤ 9223372036854775807 ∧ ∃ ws : List (Int × List Nat), ws.length = len ∧ WrRow w a ws := by
  obtain ⟨hlen, hx⟩ := open_pairs ht he ce o0 o1 c0 c1 h
  refine ⟨hlen, ?_⟩
  have each : ∀ i, i < len → ∃ q : Int × List Nat, ∃ b o bp bc, a = some ⟨b, o, none⟩ ∧ b < w.heap.size ∧ w.cell? ⟨b, o + i * 2, none⟩ = some (.int .i64 q.1) ∧ w.cell? ⟨b, o + i * 2 + 1, none⟩ = some (.slice bp q.2.length bc) ∧ Src w (.slice bp q.2.length bc) q.2 ∧ q.2.length ≤ 9223372036854775807 := by
    intro i hi
    obtain ⟨ad0, _, z0, _, _, _, ea0, hz0, _⟩ := hx 0 (by omega)
    rw [Nat.zero_mul, add_nought] at hz0
    have hsp := spot_of hz0
    obtain ⟨ad, n, v0, v1, y0, y1, ea, k0, k1, g0, g1⟩ := hx i hi
    rw [ea0] at ea
    obtain rfl := Option.some.inj ea
    obtain ⟨b, o, s⟩ := ad0
    simp only at hsp
    subst hsp
    obtain ⟨n1, e1, _, _⟩ := DataW.trod_int t0 g0
    obtain ⟨p, ln, cp, e2, hr⟩ := rowIs_trod t1 t3 c5 g1
    obtain ⟨l, hl, hs⟩ := Src.of hr
    simp only [List.cons.injEq, and_true] at e1
    subst e1 e2
    rw [Addr.add_mid] at k0 k1
    subst hl
    exact ⟨(n1, l), b, o, p, cp, ea0, World.block_lt_of_cell? w _ hz0, k0, by rw [Nat.add_assoc]; exact k1, hs, hr.max⟩
  obtain ⟨f, hf⟩ := Go.Deep.choose_lt each
  refine ⟨(List.range len).map f, by simp, fun j hj => ?_⟩
  have hj' : j < len := by simpa using hj
  obtain ⟨b, o, bp, bc, h1, h2, h3, h4, h5, h6⟩ := hf j hj'
  exact ⟨b, o, bp, bc, h1, h2, by simpa using h3, by simpa using h4, by simpa using h5, by simpa using h6⟩
set_option maxHeartbeats 1000000 in
theorem enIs_of {r : Reach} {b0 : Nat} {t e8 e5 : TypeId} {f0 f1 f2 f3 f4 f5 f6 f7 f8 g0 g1 : Field} {v : Value} {d : DataW H} {p : List MemPlace} (hs : P.underlying t = some (.struct #[f0, f1, f2, f3, f4, f5, f6, f7, f8])) (hC : P.cellsOf t = 9)
    (o0 : f0.offset = 0) (o1 : f1.offset = 1) (o2 : f2.offset = 2) (o3 : f3.offset = 3) (o4 : f4.offset = 4) (o5 : f5.offset = 5) (o6 : f6.offset = 6) (o7 : f7.offset = 7) (o8 : f8.offset = 8) (c0 : P.cellsOf f0.type = 1) (c1 : P.cellsOf f1.type = 1) (c2 : P.cellsOf f2.type = 1) (c3 : P.cellsOf f3.type = 1) (c4 : P.cellsOf f4.type = 1) (c5 : P.cellsOf f5.type = 1) (c6 : P.cellsOf f6.type = 1) (c7 : P.cellsOf f7.type = 1) (c8 : P.cellsOf f8.type = 1)
    (t0_ : P.underlying f0.type = some (.int .i64)) (t1_ : P.underlying f1.type = some (.int .i64)) (t2_ : P.underlying f2.type = some (.int .i64)) (t5_ : P.underlying f5.type = some (.int .i64)) (t6_ : P.underlying f6.type = some (.int .i64)) (t7_ : P.underlying f7.type = some (.int .i64)) (t3_ : P.underlying f3.type = some (.slice e5)) (t4_ : P.underlying f4.type = some (.slice e5)) (t8_ : P.underlying f8.type = some (.slice e8)) (h5 : P.underlying e5 = some (.int .u8)) (c5_ : P.cellsOf e5 = 1)
    (he : P.underlying e8 = some (.struct #[g0, g1])) (ce : P.cellsOf e8 = 2) (q0 : g0.offset = 0) (q1 : g1.offset = 1) (r0 : P.cellsOf g0.type = 1) (r1 : P.cellsOf g1.type = 1) (u0 : P.underlying g0.type = some (.int .i64)) (u1 : P.underlying g1.type = some (.slice e5))
    (hv : Value.okWide P w r b0 t v) (h : DataW.Trod enc P w base (fun _ => true) held t v d p) : ∃ a, EnIs w v a := by
  obtain ⟨cs, rfl, hsz⟩ := okWide_struct hs hv
  obtain ⟨fuel, hf⟩ := h
  have hlen : cs.toList.length = 9 := by rw [Array.length_toList]; exact hsz.trans hC
  obtain ⟨xs, k, hk, hxy, _, hxl, hx⟩ := DataW.trod_struct hs hf
  have hcs : (Value.agg cs).cells.toList = cs.toList := rfl
  rw [hcs] at hx
  obtain ⟨l, rfl⟩ : ∃ l, cs = ⟨l⟩ := ⟨cs.toList, rfl⟩
  simp only at hlen hx
  match xs, hxl, l, hlen with
  | [y0, y1, y2, y3, y4, y5, y6, y7, y8], _, [x0, x1, x2, x3, x4, x5, x6, x7, x8], _ =>
    have k0 := hx 0 f0 rfl
    have k1 := hx 1 f1 rfl
    have k2 := hx 2 f2 rfl
    have k3 := hx 3 f3 rfl
    have k4 := hx 4 f4 rfl
    have k5 := hx 5 f5 rfl
    have k6 := hx 6 f6 rfl
    have k7 := hx 7 f7 rfl
    have k8 := hx 8 f8 rfl
    simp [o0, o1, o2, o3, o4, o5, o6, o7, o8, c0, c1, c2, c3, c4, c5, c6, c7, c8] at k0 k1 k2 k3 k4 k5 k6 k7 k8
    obtain ⟨n0, e0, _, _⟩ := DataW.trod_int t0_ k0
    obtain ⟨n1, e1, _, _⟩ := DataW.trod_int t1_ k1
    obtain ⟨n2, e2, _, _⟩ := DataW.trod_int t2_ k2
    obtain ⟨n5, e5, _, _⟩ := DataW.trod_int t5_ k5
    obtain ⟨n6, e6, _, _⟩ := DataW.trod_int t6_ k6
    obtain ⟨n7, e7, _, _⟩ := DataW.trod_int t7_ k7
    obtain ⟨p3, ln3, cp3, e3, hr3⟩ := rowIs_trod t3_ h5 c5_ k3
    obtain ⟨l3, hl3, hs3⟩ := Src.of hr3
    obtain ⟨p4, ln4, cp4, e4, hr4⟩ := rowIs_trod t4_ h5 c5_ k4
    obtain ⟨l4, hl4, hs4⟩ := Src.of hr4
    have k8' := k8
    obtain ⟨q8, ln8, cp8, e8'⟩ : ∃ q n c, x8 = .slice q n c := by
      rcases Go.Deep.open_slice t8_ k8' with ⟨hcs, _⟩ | ⟨ad, l, c, m, n, D, Pl, hcs, _⟩
      · simp only [List.cons.injEq, and_true] at hcs
        exact ⟨_, _, _, hcs⟩
      · simp only [List.cons.injEq, and_true] at hcs
        exact ⟨_, _, _, hcs⟩
    subst e8'
    obtain ⟨hw1, ws, hw2, hw3⟩ := wrRow_of t8_ he ce q0 q1 r0 r1 u0 u1 h5 c5_ k8
    simp only [List.cons.injEq, and_true] at e0 e1 e2 e5 e6 e7
    subst e0 e1 e2 e3 e4 e5 e6 e7
    have m3 := hr3.max
    have m4 := hr4.max
    subst hl3 hl4 hw2
    exact ⟨⟨n0, n1, n2, l3, l4, n5, n6, n7, ws⟩, p3, cp3, p4, cp4, q8, cp8, rfl, hs3, hs4, hw3, m3, m4, hw1⟩
end
end Go.Proofs.YtfjdaafckiefdaaGreatDoor.E9
