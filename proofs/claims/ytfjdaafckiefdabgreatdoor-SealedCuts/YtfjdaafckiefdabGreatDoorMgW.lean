/- What comes in: records. -/
import Derived.Test.YtfjdaafckiefdabGreatDoorMgY
import Derived.Test.YtfjdaafckiefdabGreatDoorMgC
import Derived.Test.YtfjdaafckiefdabGreatDoorS15Anc
import Derived.Test.YtfjdaafckiefdabGreatDoorS15DecA
import Derived.Deep.CutRange
namespace Go.Proofs.YtfjdaafckiefdabGreatDoor.S15
open Go.RowKit Go.ChangeShapes Go.WideShapes C8 E9
section
variable {H : Type} {enc : TypeId × Value → H} {P : Program} {w : World} {base : Nat} {held : Bool}
/-- A record as a value. -/
def RecIs (w : World) (v : Value) (r : Rec) : Prop := ∃ q c, v = .agg (RecV r q c) ∧ Src w (.slice q r.box.length c) r.box ∧ r.box.length ≤ 9223372036854775807 ∧ (r.box ≠ [] → ∀ k, (Value.slice q r.box.length c).ownBlock = some k → k < w.heap.size)
theorem recIs_of {r : Reach} {b0 : Nat} {t e5 : TypeId} {f0 f1 f2 f3 f4 : Field} {v : Value} {d : DataW H} {p : List MemPlace} (hs : P.underlying t = some (.struct #[f0, f1, f2, f3, f4])) (hC : P.cellsOf t = 5)
    (o0 : f0.offset = 0) (o1 : f1.offset = 1) (o2 : f2.offset = 2) (o3 : f3.offset = 3) (o4 : f4.offset = 4) (c0 : P.cellsOf f0.type = 1) (c1 : P.cellsOf f1.type = 1) (c2 : P.cellsOf f2.type = 1) (c3 : P.cellsOf f3.type = 1) (c4 : P.cellsOf f4.type = 1)
    (t0_ : P.underlying f0.type = some (.int .i64)) (t1_ : P.underlying f1.type = some (.int .i64)) (t2_ : P.underlying f2.type = some (.int .i64)) (t3_ : P.underlying f3.type = some (.int .i64)) (t4_ : P.underlying f4.type = some (.slice e5)) (h5 : P.underlying e5 = some (.int .u8)) (c5_ : P.cellsOf e5 = 1)
    (hv : Value.okWide P w r b0 t v) (h : DataW.Trod enc P w base (fun _ => true) held t v d p) : ∃ a, RecIs w v a := by
  obtain ⟨cs, rfl, hsz⟩ := okWide_struct hs hv
  obtain ⟨fuel, hf⟩ := h
  have hlen : cs.toList.length = 5 := by rw [Array.length_toList]; exact hsz.trans hC
  obtain ⟨xs, k, hk, hxy, _, hxl, hx⟩ := DataW.trod_struct hs hf
  have hcs : (Value.agg cs).cells.toList = cs.toList := rfl
  rw [hcs] at hx
  obtain ⟨l, rfl⟩ : ∃ l, cs = ⟨l⟩ := ⟨cs.toList, rfl⟩
  simp only at hlen hx
  match xs, hxl, l, hlen with
  | [y0, y1, y2, y3, y4], _, [x0, x1, x2, x3, x4], _ =>
    have k0 := hx 0 f0 rfl
    have k1 := hx 1 f1 rfl
    have k2 := hx 2 f2 rfl
    have k3 := hx 3 f3 rfl
    have k4 := hx 4 f4 rfl
    simp [o0, o1, o2, o3, o4, c0, c1, c2, c3, c4] at k0 k1 k2 k3 k4
    obtain ⟨n0, e0, _, _⟩ := DataW.trod_int t0_ k0
    obtain ⟨n1, e1, _, _⟩ := DataW.trod_int t1_ k1
    obtain ⟨n2, e2, _, _⟩ := DataW.trod_int t2_ k2
    obtain ⟨n3, e3, _, _⟩ := DataW.trod_int t3_ k3
    obtain ⟨p4, ln4, cp4, e4, hr4⟩ := rowIs_trod t4_ h5 c5_ k4
    obtain ⟨l4, hl4, hs4⟩ := Src.of hr4
    simp only [List.cons.injEq, and_true] at e0 e1 e2 e3
    subst e0 e1 e2 e3 e4
    have m4 := hr4.max
    subst hl4
    refine ⟨⟨n0, n1, n2, n3, l4⟩, p4, cp4, rfl, hs4, m4, fun hne k hk => ?_⟩
    rcases hr4 with ⟨e, e'⟩ | ⟨b, o, m, e, _, _, _, _, _, hb⟩
    · first | exact absurd (List.eq_nil_of_length_eq_zero e) hne | exact absurd (List.eq_nil_of_length_eq_zero e') hne
    · subst e; cases hk; exact hb
end
end Go.Proofs.YtfjdaafckiefdabGreatDoor.S15
/- The statement on records whose bytes are cut off, or go on. -/
namespace Go.Proofs.YtfjdaafckiefdabGreatDoor.S15
open Go.RowKit C8 E9
open S7 (Fr Kx By Sw TU Shr)
theorem rdec_cut {r : Rec} (hr : rright r = true) (hs : ∀ x ∈ r.box, x < 256) {k : Nat} (hk : k < (rbytes r).length) : rdec false ((rbytes r).take k) = none := by
  cases h : rdec false ((rbytes r).take k) with
  | none => rfl
  | some r' =>
    obtain ⟨h1, h2⟩ := (rdec_iff false (fun x hx => rbytes_small hs x (List.mem_of_mem_take hx)) r').1 h
    have h3 := rdE_of false h1 ((rbytes r).drop k)
    rw [← h2, List.take_append_drop] at h3
    have h4 := rdE_of false hr []
    rw [List.append_nil, h3] at h4
    have h5 := congrArg (fun x => x.2.1.length) h4
    simp only [List.length_drop, List.length_nil] at h5
    omega
theorem rdec_more {r : Rec} (hr : rright r = true) (hs : ∀ x ∈ r.box, x < 256) {m : List Nat} (hm : m ≠ []) (hms : ∀ x ∈ m, x < 256) : rdec false (rbytes r ++ m) = none := by
  cases h : rdec false (rbytes r ++ m) with
  | none => rfl
  | some r' =>
    obtain ⟨h1, h2⟩ := (rdec_iff false (fun x hx => by
      rcases List.mem_append.1 hx with h | h
      · exact rbytes_small hs x h
      · exact hms x h) r').1 h
    have h3 := rdE_of false hr m
    have h4 := rdE_of false h1 []
    rw [List.append_nil, ← h2, h3] at h4
    exact absurd (congrArg (fun x => x.2.1) h4) hm
/-- Bytes that are a right record's, or none. -/
theorem decode_or (sv : Value) (l : List Nat) (w : World) (hs : Src w sv l) (hl : l.length ≤ 900000) (d : Option Rec) (hd : rdec false l = d) : Calls Tryz.prog 6 #[sv] w fun e w' => ∃ c1 c2 c3 c4 q n c, ∃ er : Int, e = .returned (.tuple #[.agg #[.int .i64 c1, .int .i64 c2, .int .i64 c3, .int .i64 c4, .slice q n c], .int .i64 er]) ∧ er = (if d = none then 10 else 0) ∧ Below w.heap.size w w' := by
  refine (Decode_any sv l w hs hl).mono ?_
  rintro e w' ⟨k1, k2⟩
  rw [hd] at k2
  cases d with
  | none => exact ⟨0, 0, 0, 0, none, 0, 0, 10, k2, rfl, k1⟩
  | some r =>
    obtain ⟨q, c, rfl, -⟩ := k2
    exact ⟨_, _, _, _, q, _, c, 0, rfl, rfl, k1⟩
theorem own_nil (w : World) : (w.alloc (.cells #[] 5)).ownsRow w.heap.size 5 1 (.slice (some ⟨w.heap.size, 0, none⟩) 0 0) 0 (ints .u8 []) :=
  ⟨rfl, .inr ⟨w.heap.size, 0, #[], rfl, Nat.le_refl _, heap_alloc_new w _, Nat.le_refl _, by unfold maxLen; decide, rfl, rfl⟩⟩
theorem range_pre {w : World} {b o : Nat} {l : List Nat} (h : w.rangeAt b o (ints .u8 l)) (k : Nat) : w.rangeAt b o (ints .u8 (l.take k)) := fun j u hu => h j u (by
  have e : ints .u8 (l.take k) = (ints .u8 l).take k := by simp [ints, List.map_take]
  rw [e] at hu
  rw [List.getElem?_take] at hu
  split at hu
  · exact hu
  · cases hu)
set_option maxHeartbeats 8000000 in
set_option maxRecDepth 20000 in
theorem cuts_main (r : Rec) (r1 r2 r3 r4 : Int) (rq : Option Addr) (rl rc : Nat) (cut : Int) (mq : Option Addr) (mn mc : Nat) (lm : List Nat) (W : World) (hr : ∀ q c, RecV r q c = #[.int .i64 r1, .int .i64 r2, .int .i64 r3, .int .i64 r4, .slice q rl c]) (hl : r.box.length = rl) (hs : Src W (.slice rq r.box.length rc) r.box) (hm : Src W (.slice mq mn mc) lm) (hml : lm.length = mn) :
    Calls Tryz.prog 3 #[.agg #[.int .i64 r1, .int .i64 r2, .int .i64 r3, .int .i64 r4, .slice rq rl rc], .int .i64 cut, .slice mq mn mc] W fun e w' => e = .returned (.bool true) ∧ Below W.heap.size W w' := by
  have HS : Hid (∀ w, Below W.heap.size W w → Src w (.slice rq r.box.length rc) r.box) := fun w h => hs.below h
  have HM : Hid (∀ w, Below W.heap.size W w → Src w (.slice mq mn mc) lm) := fun w h => hm.below h
  have HR := hid hr
  have HLN := hid hl
  have HML := hid hml
  have HSM0 := hid hs.small
  have HMS := hid hm.small
  clear hr hl hs hm hml
  go_enter Tryz.func3, Tryz.ntmps3
  go_wp2_with fail
  have hb0 := S7.below_alloc' W (.cells #[.int .i64 r1, .int .i64 r2, .int .i64 r3, .int .i64 r4, .slice rq rl rc] 24)
  have hw0 := heap_alloc_new W (.cells #[.int .i64 r1, .int .i64 r2, .int .i64 r3, .int .i64 r4, .slice rq rl rc] 24)
  refine (anchor_any _).mono ?_
  rintro e w1 ⟨rfl, h1⟩
  have HX1 : Hid (w1.heap[W.heap.size]? = some (.cells #[.int .i64 r1, .int .i64 r2, .int .i64 r3, .int .i64 r4, .slice rq rl rc] 24 (0, 0))) := (h1.block _ (Array.getElem?_eq_some_iff.1 hw0).1).trans hw0
  have HB1 : Hid (Below W.heap.size W w1) := hb0.trans (h1.mono hb0.size)
  clear h1 hb0 hw0
  generalize hN : W.heap.size = e1 at *
  obtain ⟨c0, c1, c2, c3, c4, cf⟩ := rec_cells HX1.out
  by_cases hn : 2100 < (rl : Int)
  · clear HS HSM0 HM
    go_wp2_with fail
    go_ret
    exact ⟨rfl, by rw [hN]; exact HB1.out⟩
  by_cases hc : cut < 0
  · clear HS HSM0 HM
    go_wp2_with fail
    go_ret
    exact ⟨rfl, by rw [hN]; exact HB1.out⟩
  by_cases hmn : 100 < (mn : Int)
  · clear HS HSM0 HM
    go_wp2_with fail
    go_ret
    exact ⟨rfl, by rw [hN]; exact HB1.out⟩
  obtain ⟨rr, HRR⟩ : ∃ rr, Hid (rright r = rr) := ⟨_, rfl⟩
  have HENC : Hid (Calls Tryz.prog 5 #[.agg #[.int .i64 r1, .int .i64 r2, .int .i64 r3, .int .i64 r4, .slice rq rl rc]] w1 fun e w' => Below w1.heap.size w1 w' ∧ ((rr = true ∧ ∃ g c, e = .returned (.tuple #[.slice (some ⟨g, 0, none⟩) (rbytes r).length c, .int .i64 0]) ∧ (rbytes r).length ≤ c ∧ w'.rangeAt g 0 (ints .u8 (rbytes r))) ∨ (rr = false ∧ e = .returned (.tuple #[.slice none 0 0, .int .i64 10])))) := by
    have h := Encode_any r rq rc w1 (HS.out _ HB1.out)
    rw [HR.out] at h
    refine h.mono ?_
    rintro e w' ⟨k1, k2⟩
    refine ⟨k1, ?_⟩
    rcases k2 with ⟨k3, v, rfl, k4⟩ | ⟨k3, rfl⟩
    · obtain ⟨g, c, rfl, _, _, k5, k6⟩ := own_cell k4 (by rw [rbytes_length]; omega)
      exact .inl ⟨by rw [← HRR.out, k3], g, c, rfl, k5, k6⟩
    · exact .inr ⟨by rw [← HRR.out, k3], rfl⟩
  go_wp2_with fail
  refine HENC.out.mono ?_
  rintro e w2 ⟨k1, k4⟩
  have HB2 : Hid (Below e1 W w2) := HB1.out.trans (k1.mono (by have := (Array.getElem?_eq_some_iff.1 HX1.out).1; omega))
  have HE2 : Hid (e1 ≤ w2.heap.size) := by have h1 := (Array.getElem?_eq_some_iff.1 HX1.out).1; have h2 := k1.size; show _ ≤ _; omega
  clear k1 HENC c0 c1 c2 c3 c4 cf HB1 HX1
  rcases k4 with ⟨rfl, g, bc, rfl, hbc, hrg⟩ | ⟨rfl, rfl⟩
  case inr =>
    go_wp2_with fail
    go_ret
    exact ⟨rfl, by rw [hN]; exact HB2.out⟩
  have HRG := hid hrg
  have HBC := hid hbc
  clear hrg hbc
  obtain ⟨bl, HBLE⟩ : ∃ bl, Hid (rbytes r = bl) := ⟨_, rfl⟩
  have HSB : Hid (∀ x ∈ bl, x < 256) := by rw [← HBLE.out]; exact rbytes_small HSM0.out
  have HD1 : Hid (∀ k, k < bl.length → rdec false (bl.take k) = none) := by rw [← HBLE.out]; exact fun k hk => rdec_cut HRR.out HSM0.out hk
  have HD2 : Hid ((if rdec false (bl ++ lm) = none then (10 : Int) else 0) = if mn = 0 then 0 else 10) := by
    show _ = _
    rw [← HBLE.out]
    by_cases h0 : mn = 0
    · have e0 : lm = [] := List.eq_nil_of_length_eq_zero (by have := HML.out; omega)
      rw [e0, List.append_nil, rdec_own false HRR.out, if_pos h0]
      rfl
    · rw [rdec_more HRR.out HSM0.out (fun e => h0 (by rw [← HML.out, e]; rfl)) HMS.out, if_neg h0]
      rfl
  have HBN : Hid (bl.length ≤ 3000 ∧ 26 ≤ bl.length) := by
    have h1 := rbytes_length r
    rw [HBLE.out] at h1
    have h2 := HLN.out
    exact ⟨by omega, by omega⟩
  rw [HBLE.out] at HRG HBC ⊢
  clear HBLE HRR HSM0 HS
  obtain ⟨n, HN⟩ : ∃ n, Hid (bl.length = n) := ⟨_, rfl⟩
  rw [HN.out] at HBC HBN HD1 ⊢
  have hz1 : ¬ (n : Int) = 0 := by have := HBN.out; omega
  have hz2 : (0 : Int) < (n : Int) := by have := HBN.out; omega
  have hz3 : ((n : Int) == 0) = false := by simp; have := HBN.out; omega
  have hz4 : (n : Int) ≤ 3000 := by have := HBN.out; omega
  have hc0 : 0 ≤ cut := by omega
  obtain ⟨k, HK⟩ : ∃ k : Nat, Hid (cut % (n : Int) = (k : Int)) := ⟨(cut % (n : Int)).toNat, by show _ = _; have := Int.emod_nonneg cut hz1; omega⟩
  have hk1 : cut % (n : Int) = (k : Int) := HK.out
  have hk2 : cut.tmod (n : Int) = (k : Int) := by rw [Int.tmod_eq_emod_of_nonneg hc0]; exact HK.out
  have hk3 : (k : Int) < (n : Int) := by rw [← hk1]; exact Int.emod_lt_of_pos cut hz2
  have HKN : Hid (k < n) := by show _ < _; omega
  have hk4 : (k : Int) ≤ (bc : Int) := by have := HBC.out; omega
  have HSR : Hid (∀ w, Below w2.heap.size w2 w → Src w (.slice (some ⟨g, 0, none⟩) k bc) (bl.take k) ∧ Src w (.slice (some ⟨g, 0, none⟩) n bc) bl) := fun w h => by
    have h1 : Src w2 (.slice (some ⟨g, 0, none⟩) k bc) (bl.take k) := Src.row (fun x hx => HSB.out x (List.mem_of_mem_take hx)) (by rw [List.length_take]; have := HBC.out; have := HKN.out; omega) (range_pre HRG.out k) (by rw [List.length_take, HN.out]; have := HKN.out; omega)
    have h2 : Src w2 (.slice (some ⟨g, 0, none⟩) n bc) bl := Src.row HSB.out (by rw [HN.out]; exact HBC.out) HRG.out HN.out
    exact ⟨h1.below h, h2.below h⟩
  clear HK HRG
  have HDC : Hid (Calls Tryz.prog 6 #[.slice (some ⟨g, 0, none⟩) k bc] w2 fun e w' => ∃ c1 c2 c3 c4 q n' c, e = .returned (.tuple #[.agg #[.int .i64 c1, .int .i64 c2, .int .i64 c3, .int .i64 c4, .slice q n' c], .int .i64 10]) ∧ Below w2.heap.size w2 w') := by
    refine (decode_or _ _ w2 (HSR.out w2 (Below.refl _ _)).1 (by rw [List.length_take]; have := HBN.out; have := HN.out; omega) none (HD1.out k HKN.out)).mono ?_
    rintro e w' ⟨c1, c2, c3, c4, q, n', c, er, rfl, he, h1⟩
    rw [if_pos rfl] at he
    subst he
    exact ⟨c1, c2, c3, c4, q, n', c, rfl, h1⟩
  go_wp2_with fail
  refine HDC.out.mono ?_
  rintro e w3 ⟨d1, d2, d3, d4, dq, dn, dc, rfl, h1⟩
  have HB3 : Hid (Below w2.heap.size w2 w3) := h1
  clear h1 HDC hk1 hk2 hk3 hk4 hz1 hz2 hz3
  go_wp2_with (first | with_reducible (refine stop_builtin .append ?_))
  refine Stop.go ?_
  have hb4 := S7.below_alloc' w3 (.cells #[.int .i64 d1, .int .i64 d2, .int .i64 d3, .int .i64 d4, .slice dq dn dc] 24)
  have HB4 : Hid (Below w2.heap.size w2 (w3.alloc (.cells #[.int .i64 d1, .int .i64 d2, .int .i64 d3, .int .i64 d4, .slice dq dn dc] 24))) := HB3.out.trans (hb4.mono HB3.out.size)
  have hsz : w3.heap.size + 1 = (w3.alloc (.cells #[.int .i64 d1, .int .i64 d2, .int .i64 d3, .int .i64 d4, .slice dq dn dc] 24)).heap.size := by simp
  rw [hsz]
  clear hsz hb4 HB3
  generalize w3.alloc (.cells #[.int .i64 d1, .int .i64 d2, .int .i64 d3, .int .i64 d4, .slice dq dn dc] 24) = w4 at *
  have hb5 := S7.below_alloc' w4 (.cells #[] 5)
  refine law_append_src w4.heap.size (.slice (some ⟨w4.heap.size, 0, none⟩) 0 0) 0 [] _ bl rfl rfl (own_nil w4) (HSR.out _ (HB4.out.trans (hb5.mono HB4.out.size))).2 (by have := HBN.out; have := HN.out; omega) (by simp) ?_
  intro v5 w5 h1 h2
  have HO5 : Hid (w5.ownsRow w4.heap.size 5 1 v5 n (ints .u8 bl) ∧ Below w4.heap.size w4 w5) := ⟨by rw [Nat.zero_add, HN.out] at h1; exact h1, hb5.trans (below_append (own_nil w4) h2 (by simp))⟩
  clear h1 h2 hb5
  obtain ⟨q5, k5, rfl⟩ := own_slice HO5.out.1
  go_wp2_with (first | with_reducible (refine stop_builtin .append ?_))
  refine Stop.go ?_
  have HB5 : Hid (Below e1 W w5) := HB2.out.trans ((HB4.out.trans (HO5.out.2.mono HB4.out.size)).mono HE2.out)
  refine law_append_src w4.heap.size (.slice q5 n k5) n bl _ lm rfl rfl HO5.out.1 (HM.out w5 HB5.out) (by have := HBN.out; have := HN.out; have := HML.out; omega) HO5.out.2.size ?_
  intro v6 w6 h1 h2
  have HO6 : Hid (Src w6 v6 (bl ++ lm) ∧ Below e1 W w6) := ⟨Src.own (fun x hx => by
    rcases List.mem_append.1 hx with h | h
    · exact HSB.out x h
    · exact HMS.out x h) h1, HB5.out.trans ((below_append HO5.out.1 h2 HO5.out.2.size).mono (by have := HE2.out; have := HB4.out.size; omega)) |>.trans (Below.refl _ _)⟩
  have HE6 : Hid (e1 ≤ w6.heap.size) := by
    have h3 := (below_append HO5.out.1 h2 HO5.out.2.size).size
    have h4 := HO5.out.2.size
    have h5 := HE2.out
    have h6 := HB4.out.size
    show _ ≤ _
    omega
  have HDM : Hid (Calls Tryz.prog 6 #[v6] w6 fun e w' => ∃ c1 c2 c3 c4 q n' c, e = .returned (.tuple #[.agg #[.int .i64 c1, .int .i64 c2, .int .i64 c3, .int .i64 c4, .slice q n' c], .int .i64 (if mn = 0 then 0 else 10)]) ∧ Below w6.heap.size w6 w') := by
    refine (decode_or _ _ w6 HO6.out.1 (by rw [List.length_append]; have := HBN.out; have := HN.out; have := HML.out; omega) _ rfl).mono ?_
    rintro e w' ⟨c1, c2, c3, c4, q, n', c, er, rfl, he, h1⟩
    rw [HD2.out] at he
    subst he
    exact ⟨c1, c2, c3, c4, q, n', c, rfl, h1⟩
  obtain ⟨q6, k6, hv6, -⟩ := HO6.out.1.slice
  subst hv6
  obtain ⟨n6, HN6⟩ : ∃ n6, Hid ((bl ++ lm).length = n6) := ⟨_, rfl⟩
  rw [HN6.out] at HDM ⊢
  clear h1 h2 HO5
  go_wp2_with fail
  refine HDM.out.mono ?_
  rintro e w7 ⟨f1, f2, f3, f4, fq, fn, fc, rfl, h1⟩
  have HZ : Hid (∀ o, Below e1 W (w7.alloc o)) := fun o => HO6.out.2.trans ((h1.trans ((S7.below_alloc' w7 o).mono h1.size)).mono HE6.out)
  clear h1 HDM HO6
  by_cases h0 : mn = 0
  · subst h0
    rw [if_pos rfl]
    go_wp2_with fail
    go_ret
    exact ⟨rfl, by rw [hN]; exact HZ.out _⟩
  · rw [if_neg h0]
    have h01 : ((mn : Int) == 0) = false := by rw [beq_eq_false_iff_ne]; omega
    have h02 : ¬ (mn : Int) = 0 := by omega
    go_wp2_with fail
    go_ret
    exact ⟨rfl, by rw [hN]; exact HZ.out _⟩
theorem cuts_law (r : Rec) (vr : Value) (cut : Int) (mq : Option Addr) (mn mc : Nat) (W : World) (h : RecIs W vr r) (hm : RowIs W mq mn mc) :
    Calls Tryz.prog 3 #[vr, .int .i64 cut, .slice mq mn mc] W fun e w' => e = .returned (.bool true) ∧ Below W.heap.size W w' := by
  obtain ⟨lm, hml, hms⟩ := Src.of hm
  obtain ⟨q, c, rfl, h1, -⟩ := h
  exact cuts_main r r.coll r.epoch r.writer r.count q r.box.length c cut mq mn mc lm W (fun _ _ => rfl) rfl h1 hms hml
end Go.Proofs.YtfjdaafckiefdabGreatDoor.S15
