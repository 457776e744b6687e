/- The walk of PolicyForms. -/
import Derived.Test.YtmlnbbggfjgacaaP10Pf1
import Derived.Test.YtmlnbbggfjgacaaE9Small
import Derived.Deep.CutRange
namespace Go.Proofs.Ytmlnbbggfjgacaa.P10
open Go.RowKit C8 E9
theorem wrap_nat (n : Nat) (h : n ≤ 1000) : IntKind.i64.wrap (n : Int) = (n : Int) := by
  have hm : (n : Int) % 18446744073709551616 = n := by omega
  unfold IntKind.wrap
  simp [IntKind.bits, IntKind.signed, hm]
  omega
set_option maxHeartbeats 4000000 in
theorem pf_many (p : Pol) (e : En) (vp0 ve0 : Value) (w : World) (hp : PolIs w vp0 p) (hE : EnIs w ve0 e) (hl : p.ms.length ≤ 9223372036854775807) (h : 40 < p.ms.length) : Calls Try.prog 4 #[vp0, ve0] w fun x w' => x = .returned (.bool true) ∧ Below w.heap.size w w' := by
  have hP := hp
  obtain ⟨mq, mc, rfl, hmb, -⟩ := hp
  have hEE := hE
  obtain ⟨np, nc, vp, vc, wq, wcp, rfl, -⟩ := hE
  have HC9 : ∀ W, Hid (B2 w W (PolV p mq mc) (EnV e np nc vp vc wq wcp)) → Calls Try.prog 9 #[] W fun x w' => x = .returned (.bool true) ∧ Hid (B2 w w' (PolV p mq mc) (EnV e np nc vp vc wq wcp)) ∧ w'.cell? ⟨w.heap.size, 0, none⟩ = some (.int .i64 p.f) ∧ w'.cell? ⟨w.heap.size, 1, none⟩ = some (.int .i64 p.e) ∧ w'.cell? ⟨w.heap.size, 2, none⟩ = some (.slice mq p.ms.length mc) ∧ w'.cell? ⟨(w.heap.size + 1), 0, none⟩ = some (.int .i64 e.kind) ∧ w'.cell? ⟨(w.heap.size + 1), 1, none⟩ = some (.int .i64 e.writer) ∧ w'.cell? ⟨(w.heap.size + 1), 2, none⟩ = some (.int .i64 e.seq) ∧ w'.cell? ⟨(w.heap.size + 1), 3, none⟩ = some (.slice np e.name.length nc) ∧ w'.cell? ⟨(w.heap.size + 1), 4, none⟩ = some (.slice vp e.value.length vc) ∧ w'.cell? ⟨(w.heap.size + 1), 5, none⟩ = some (.int .i64 e.who) ∧ w'.cell? ⟨(w.heap.size + 1), 6, none⟩ = some (.int .i64 e.rights) ∧ w'.cell? ⟨(w.heap.size + 1), 7, none⟩ = some (.int .i64 e.epoch) ∧ w'.cell? ⟨(w.heap.size + 1), 8, none⟩ = some (.slice wq e.wraps.length wcp) := fun W h => (anchor_any W).mono (by rintro x w' ⟨rfl, hb⟩; exact ⟨rfl, h.out.step hb, ⟨(h.out.step hb).pcells.1, (h.out.step hb).pcells.2.1, (h.out.step hb).pcells.2.2, (h.out.step hb).ecells⟩⟩)
  have HC13 : ∀ W, Hid (B2 w W (PolV p mq mc) (EnV e np nc vp vc wq wcp)) → Calls Try.prog 13 #[.agg (EnV e np nc vp vc wq wcp)] W fun x w' => x = .returned (.bool (small e)) ∧ Hid (B2 w w' (PolV p mq mc) (EnV e np nc vp vc wq wcp)) ∧ w'.cell? ⟨w.heap.size, 0, none⟩ = some (.int .i64 p.f) ∧ w'.cell? ⟨w.heap.size, 1, none⟩ = some (.int .i64 p.e) ∧ w'.cell? ⟨w.heap.size, 2, none⟩ = some (.slice mq p.ms.length mc) ∧ w'.cell? ⟨(w.heap.size + 1), 0, none⟩ = some (.int .i64 e.kind) ∧ w'.cell? ⟨(w.heap.size + 1), 1, none⟩ = some (.int .i64 e.writer) ∧ w'.cell? ⟨(w.heap.size + 1), 2, none⟩ = some (.int .i64 e.seq) ∧ w'.cell? ⟨(w.heap.size + 1), 3, none⟩ = some (.slice np e.name.length nc) ∧ w'.cell? ⟨(w.heap.size + 1), 4, none⟩ = some (.slice vp e.value.length vc) ∧ w'.cell? ⟨(w.heap.size + 1), 5, none⟩ = some (.int .i64 e.who) ∧ w'.cell? ⟨(w.heap.size + 1), 6, none⟩ = some (.int .i64 e.rights) ∧ w'.cell? ⟨(w.heap.size + 1), 7, none⟩ = some (.int .i64 e.epoch) ∧ w'.cell? ⟨(w.heap.size + 1), 8, none⟩ = some (.slice wq e.wraps.length wcp) := fun W h => (small_any e _ W (hEE.below h.out.bel)).mono (by rintro x w' ⟨rfl, hb⟩; exact ⟨rfl, h.out.step hb, ⟨(h.out.step hb).pcells.1, (h.out.step hb).pcells.2.1, (h.out.step hb).pcells.2.2, (h.out.step hb).ecells⟩⟩)
  have HS0 : Hid (B2 w ((w.alloc (.cells (PolV p mq mc) 26)).alloc (.cells (EnV e np nc vp vc wq wcp) 38)) (PolV p mq mc) (EnV e np nc vp vc wq wcp)) := B2.start w _ _
  have k1 : (40 : Int) < (p.ms.length : Int) := by omega
  clear hP hEE hmb h
  obtain ⟨pf, pe, ms⟩ := p
  obtain ⟨a1, a2, a3, a4, a5, a6, a7, a8, a9⟩ := e
  simp only [PolV, EnV] at *
  generalize hml : ms.length = ml at *
  clear hml
  generalize a4.length = l4 at *
  generalize a5.length = l5 at *
  generalize a9.length = l9 at *
  go_enter Try.func4, Try.ntmps4
  go_wp2_with (first | (go_at_call 9; refine (HC9 _ HS0).mono ?_; rintro x w1 ⟨rfl, S1, d0, d1, d2, f0, f1, f2, f3, f4, f5, f6, f7, f8⟩))
  go_ret
  exact ⟨rfl, S1.out.bel⟩
set_option maxHeartbeats 4000000 in
theorem pf_big (p : Pol) (e : En) (vp0 ve0 : Value) (w : World) (hp : PolIs w vp0 p) (hE : EnIs w ve0 e) (h : p.ms.length ≤ 40) (hs : small e = false) : Calls Try.prog 4 #[vp0, ve0] w fun x w' => x = .returned (.bool true) ∧ Below w.heap.size w w' := by
  have hP := hp
  obtain ⟨mq, mc, rfl, hmb, -⟩ := hp
  have hEE := hE
  obtain ⟨np, nc, vp, vc, wq, wcp, rfl, -⟩ := hE
  have HC9 : ∀ W, Hid (B2 w W (PolV p mq mc) (EnV e np nc vp vc wq wcp)) → Calls Try.prog 9 #[] W fun x w' => x = .returned (.bool true) ∧ Hid (B2 w w' (PolV p mq mc) (EnV e np nc vp vc wq wcp)) ∧ w'.cell? ⟨w.heap.size, 0, none⟩ = some (.int .i64 p.f) ∧ w'.cell? ⟨w.heap.size, 1, none⟩ = some (.int .i64 p.e) ∧ w'.cell? ⟨w.heap.size, 2, none⟩ = some (.slice mq p.ms.length mc) ∧ w'.cell? ⟨(w.heap.size + 1), 0, none⟩ = some (.int .i64 e.kind) ∧ w'.cell? ⟨(w.heap.size + 1), 1, none⟩ = some (.int .i64 e.writer) ∧ w'.cell? ⟨(w.heap.size + 1), 2, none⟩ = some (.int .i64 e.seq) ∧ w'.cell? ⟨(w.heap.size + 1), 3, none⟩ = some (.slice np e.name.length nc) ∧ w'.cell? ⟨(w.heap.size + 1), 4, none⟩ = some (.slice vp e.value.length vc) ∧ w'.cell? ⟨(w.heap.size + 1), 5, none⟩ = some (.int .i64 e.who) ∧ w'.cell? ⟨(w.heap.size + 1), 6, none⟩ = some (.int .i64 e.rights) ∧ w'.cell? ⟨(w.heap.size + 1), 7, none⟩ = some (.int .i64 e.epoch) ∧ w'.cell? ⟨(w.heap.size + 1), 8, none⟩ = some (.slice wq e.wraps.length wcp) := fun W h => (anchor_any W).mono (by rintro x w' ⟨rfl, hb⟩; exact ⟨rfl, h.out.step hb, ⟨(h.out.step hb).pcells.1, (h.out.step hb).pcells.2.1, (h.out.step hb).pcells.2.2, (h.out.step hb).ecells⟩⟩)
  have HC13 : ∀ W, Hid (B2 w W (PolV p mq mc) (EnV e np nc vp vc wq wcp)) → Calls Try.prog 13 #[.agg (EnV e np nc vp vc wq wcp)] W fun x w' => x = .returned (.bool (small e)) ∧ Hid (B2 w w' (PolV p mq mc) (EnV e np nc vp vc wq wcp)) ∧ w'.cell? ⟨w.heap.size, 0, none⟩ = some (.int .i64 p.f) ∧ w'.cell? ⟨w.heap.size, 1, none⟩ = some (.int .i64 p.e) ∧ w'.cell? ⟨w.heap.size, 2, none⟩ = some (.slice mq p.ms.length mc) ∧ w'.cell? ⟨(w.heap.size + 1), 0, none⟩ = some (.int .i64 e.kind) ∧ w'.cell? ⟨(w.heap.size + 1), 1, none⟩ = some (.int .i64 e.writer) ∧ w'.cell? ⟨(w.heap.size + 1), 2, none⟩ = some (.int .i64 e.seq) ∧ w'.cell? ⟨(w.heap.size + 1), 3, none⟩ = some (.slice np e.name.length nc) ∧ w'.cell? ⟨(w.heap.size + 1), 4, none⟩ = some (.slice vp e.value.length vc) ∧ w'.cell? ⟨(w.heap.size + 1), 5, none⟩ = some (.int .i64 e.who) ∧ w'.cell? ⟨(w.heap.size + 1), 6, none⟩ = some (.int .i64 e.rights) ∧ w'.cell? ⟨(w.heap.size + 1), 7, none⟩ = some (.int .i64 e.epoch) ∧ w'.cell? ⟨(w.heap.size + 1), 8, none⟩ = some (.slice wq e.wraps.length wcp) := fun W h => (small_any e _ W (hEE.below h.out.bel)).mono (by rintro x w' ⟨rfl, hb⟩; exact ⟨rfl, h.out.step hb, ⟨(h.out.step hb).pcells.1, (h.out.step hb).pcells.2.1, (h.out.step hb).pcells.2.2, (h.out.step hb).ecells⟩⟩)
  have HS0 : Hid (B2 w ((w.alloc (.cells (PolV p mq mc) 26)).alloc (.cells (EnV e np nc vp vc wq wcp) 38)) (PolV p mq mc) (EnV e np nc vp vc wq wcp)) := B2.start w _ _
  have k1 : ¬ (40 : Int) < (p.ms.length : Int) := by omega
  rw [hs] at HC13
  clear hP hEE hmb h hs
  obtain ⟨pf, pe, ms⟩ := p
  obtain ⟨a1, a2, a3, a4, a5, a6, a7, a8, a9⟩ := e
  simp only [PolV, EnV] at *
  generalize hml : ms.length = ml at *
  clear hml
  generalize a4.length = l4 at *
  generalize a5.length = l5 at *
  generalize a9.length = l9 at *
  go_enter Try.func4, Try.ntmps4
  go_wp2_with (first | (go_at_call 9; refine (HC9 _ HS0).mono ?_; rintro x w1 ⟨rfl, S1, d0, d1, d2, f0, f1, f2, f3, f4, f5, f6, f7, f8⟩) | (go_at_call 13; refine (HC13 _ S1).mono ?_; rintro x w2 ⟨rfl, S2, g0, g1, g2, h0, h1, h2, h3, h4, h5, h6, h7, h8⟩))
  go_ret
  exact ⟨rfl, S2.out.bel⟩
/-- Apply, whatever the policy. -/
theorem apply_form (p : Pol) (e : En) (vp0 ve0 : Value) (w : World) (hp : PolIs w vp0 p) (hE : EnIs w ve0 e) : Calls Try.prog 14 #[vp0, ve0] w fun x w' => ∃ f2 e2 q2 n2 c2 r2, x = .returned (.tuple #[.agg #[.int .i64 f2, .int .i64 e2, .slice q2 n2 c2], .int .i64 r2]) ∧ Below w.heap.size w w' := by
  by_cases h0 : may p e = 0
  · refine (Apply_yes p e _ ve0 w hp hE h0).mono ?_
    rintro x w' ⟨hb, p', q', c', rfl, ho, ha⟩
    exact ⟨p'.f, p'.e, q', p'.ms.length, c', 0, rfl, hb⟩
  · refine (Apply_no p e _ ve0 w hp hE _ rfl h0).mono ?_
    rintro x w' ⟨rfl, hb⟩
    exact ⟨0, 0, none, 0, 0, _, rfl, hb⟩
theorem may_wrong {p : Pol} {e : En} (h : pright p = false) : may p e = 10 := by
  unfold may
  rw [if_neg (by simp [h])]
set_option maxHeartbeats 40000000 in
set_option maxRecDepth 20000 in
theorem pf_main (p : Pol) (e : En) (vp0 ve0 : Value) (w : World) (hp : PolIs w vp0 p) (hE : EnIs w ve0 e) (h : p.ms.length ≤ 40) (hs : small e = true) : Calls Try.prog 4 #[vp0, ve0] w fun x w' => x = .returned (.bool true) ∧ Below w.heap.size w w' := by
  have hP := hp
  obtain ⟨mq, mc, rfl, hmb, -⟩ := hp
  have hEE := hE
  obtain ⟨np, nc, vp, vc, wq, wcp, rfl, -⟩ := hE
  have HC9 : ∀ W, Hid (B2 w W (PolV p mq mc) (EnV e np nc vp vc wq wcp)) → Calls Try.prog 9 #[] W fun x w' => x = .returned (.bool true) ∧ Hid (B2 w w' (PolV p mq mc) (EnV e np nc vp vc wq wcp)) ∧ w'.cell? ⟨w.heap.size, 0, none⟩ = some (.int .i64 p.f) ∧ w'.cell? ⟨w.heap.size, 1, none⟩ = some (.int .i64 p.e) ∧ w'.cell? ⟨w.heap.size, 2, none⟩ = some (.slice mq p.ms.length mc) ∧ w'.cell? ⟨(w.heap.size + 1), 0, none⟩ = some (.int .i64 e.kind) ∧ w'.cell? ⟨(w.heap.size + 1), 1, none⟩ = some (.int .i64 e.writer) ∧ w'.cell? ⟨(w.heap.size + 1), 2, none⟩ = some (.int .i64 e.seq) ∧ w'.cell? ⟨(w.heap.size + 1), 3, none⟩ = some (.slice np e.name.length nc) ∧ w'.cell? ⟨(w.heap.size + 1), 4, none⟩ = some (.slice vp e.value.length vc) ∧ w'.cell? ⟨(w.heap.size + 1), 5, none⟩ = some (.int .i64 e.who) ∧ w'.cell? ⟨(w.heap.size + 1), 6, none⟩ = some (.int .i64 e.rights) ∧ w'.cell? ⟨(w.heap.size + 1), 7, none⟩ = some (.int .i64 e.epoch) ∧ w'.cell? ⟨(w.heap.size + 1), 8, none⟩ = some (.slice wq e.wraps.length wcp) := fun W h => (anchor_any W).mono (by rintro x w' ⟨rfl, hb⟩; exact ⟨rfl, h.out.step hb, ⟨(h.out.step hb).pcells.1, (h.out.step hb).pcells.2.1, (h.out.step hb).pcells.2.2, (h.out.step hb).ecells⟩⟩)
  have HC13 : ∀ W, Hid (B2 w W (PolV p mq mc) (EnV e np nc vp vc wq wcp)) → Calls Try.prog 13 #[.agg (EnV e np nc vp vc wq wcp)] W fun x w' => x = .returned (.bool (small e)) ∧ Hid (B2 w w' (PolV p mq mc) (EnV e np nc vp vc wq wcp)) ∧ w'.cell? ⟨w.heap.size, 0, none⟩ = some (.int .i64 p.f) ∧ w'.cell? ⟨w.heap.size, 1, none⟩ = some (.int .i64 p.e) ∧ w'.cell? ⟨w.heap.size, 2, none⟩ = some (.slice mq p.ms.length mc) ∧ w'.cell? ⟨(w.heap.size + 1), 0, none⟩ = some (.int .i64 e.kind) ∧ w'.cell? ⟨(w.heap.size + 1), 1, none⟩ = some (.int .i64 e.writer) ∧ w'.cell? ⟨(w.heap.size + 1), 2, none⟩ = some (.int .i64 e.seq) ∧ w'.cell? ⟨(w.heap.size + 1), 3, none⟩ = some (.slice np e.name.length nc) ∧ w'.cell? ⟨(w.heap.size + 1), 4, none⟩ = some (.slice vp e.value.length vc) ∧ w'.cell? ⟨(w.heap.size + 1), 5, none⟩ = some (.int .i64 e.who) ∧ w'.cell? ⟨(w.heap.size + 1), 6, none⟩ = some (.int .i64 e.rights) ∧ w'.cell? ⟨(w.heap.size + 1), 7, none⟩ = some (.int .i64 e.epoch) ∧ w'.cell? ⟨(w.heap.size + 1), 8, none⟩ = some (.slice wq e.wraps.length wcp) := fun W h => (small_any e _ W (hEE.below h.out.bel)).mono (by rintro x w' ⟨rfl, hb⟩; exact ⟨rfl, h.out.step hb, ⟨(h.out.step hb).pcells.1, (h.out.step hb).pcells.2.1, (h.out.step hb).pcells.2.2, (h.out.step hb).ecells⟩⟩)
  have HS0 : Hid (B2 w ((w.alloc (.cells (PolV p mq mc) 26)).alloc (.cells (EnV e np nc vp vc wq wcp) 38)) (PolV p mq mc) (EnV e np nc vp vc wq wcp)) := B2.start w _ _
  have k1 : ¬ (40 : Int) < (p.ms.length : Int) := by omega
  have HMB : Hid (∀ k, k < p.ms.length → ∃ bm om, mq = some ⟨bm, om, none⟩ ∧ Hid (∀ W, Below w.heap.size w W → ∀ i, i < p.ms.length → W.cell? ⟨bm, om + i * 2, none⟩ = some (.int .i64 (mAt p.ms i).1) ∧ W.cell? ⟨bm, om + i * 2 + 1, none⟩ = some (.int .i64 (mAt p.ms i).2))) := fun k hk => by
    obtain ⟨bm, om, hq, -⟩ := hmb k hk
    refine ⟨bm, om, hq, fun W hb i hi => ?_⟩
    obtain ⟨b', o', hq', -, h3, h4⟩ := hmb.below hb i hi
    rw [hq] at hq'
    cases hq'
    have e : mAt p.ms i = p.ms[i] := by simp [mAt, List.getD_eq_getElem?_getD, List.getElem?_eq_getElem hi]
    rw [e]
    exact ⟨h3, h4⟩
  have HRG : Hid (∀ W, (B2 w W (PolV p mq mc) (EnV e np nc vp vc wq wcp)) → Calls Try.prog 20 #[.agg (PolV p mq mc)] W fun x w' => x = .returned (.bool (pright p)) ∧ Below W.heap.size W w') := fun W h => pRight_any p _ W (hP.below h.bel)
  have HAR : Hid (∀ W, (B2 w W (PolV p mq mc) (EnV e np nc vp vc wq wcp)) → Calls Try.prog 14 #[.agg (PolV p mq mc), .agg (EnV e np nc vp vc wq wcp)] W fun x w' => ∃ f2 e2 q2 n2 c2 r2, x = .returned (.tuple #[.agg #[.int .i64 f2, .int .i64 e2, .slice q2 n2 c2], .int .i64 r2]) ∧ (B2 w w' (PolV p mq mc) (EnV e np nc vp vc wq wcp))) := fun W h => (apply_form p e _ _ W (hP.below h.bel) (hEE.below h.bel)).mono (by
    rintro x w' ⟨f2, e2, q2, n2, c2, r2, rfl, hb⟩
    exact ⟨_, _, _, _, _, _, rfl, h.step hb⟩)
  have HAW : Hid (pright p = false → ∀ W, (B2 w W (PolV p mq mc) (EnV e np nc vp vc wq wcp)) → Calls Try.prog 14 #[.agg (PolV p mq mc), .agg (EnV e np nc vp vc wq wcp)] W fun x w' => x = .returned (.tuple #[.agg #[.int .i64 0, .int .i64 0, .slice none 0 0], .int .i64 10]) ∧ (B2 w w' (PolV p mq mc) (EnV e np nc vp vc wq wcp))) := fun hw W h => (Apply_no p e _ _ W (hP.below h.bel) (hEE.below h.bel) 10 (may_wrong hw) (by decide)).mono (by
    rintro x w' ⟨rfl, hb⟩
    exact ⟨rfl, h.step hb⟩)
  have HMY : Hid (pright p = false → ∀ W, (B2 w W (PolV p mq mc) (EnV e np nc vp vc wq wcp)) → Calls Try.prog 18 #[.agg (PolV p mq mc), .agg (EnV e np nc vp vc wq wcp)] W fun x w' => x = .returned (.int .i64 10) ∧ Below W.heap.size W w') := fun hw W h => by
    have := May_any p e _ _ W (hP.below h.bel) (hEE.below h.bel)
    rw [may_wrong hw] at this
    exact this
  have HPR : Hid (pright p = (wk p.f p.e p.ms p.ms.length && fk p.f p.ms p.ms.length)) := forms_eq p
  rw [hs] at HC13
  have m40 : (p.ms.length : Int) ≤ 40 := by omega
  clear hP hEE hmb hs h
  generalize pright p = pr at *
  obtain ⟨pf, pe, ms⟩ := p
  obtain ⟨a1, a2, a3, a4, a5, a6, a7, a8, a9⟩ := e
  simp only [PolV, EnV] at *
  generalize hml : ms.length = ml at *
  clear hml
  generalize a4.length = l4 at *
  generalize a5.length = l5 at *
  generalize a9.length = l9 at *
  obtain ⟨w0, HW0⟩ : ∃ w0, Hid (wk pf pe ms 0 = w0) := ⟨_, rfl⟩
  go_enter Try.func4, Try.ntmps4
  go_upto_region 5 with (first | (go_at_call 9; refine (HC9 _ HS0).mono ?_; rintro x w1 ⟨rfl, S1, d0, d1, d2, f0, f1, f2, f3, f4, f5, f6, f7, f8⟩) | (go_at_call 13; refine (HC13 _ S1).mono ?_; rintro x w2 ⟨rfl, S2, g0, g1, g2, h0, h1, h2, h3, h4, h5, h6, h7, h8⟩))
  clear HC9 HC13 HS0
  go_cut [5] from 22 to 39 (fun v wx => v = .bool w0 ∧ Hid (B2 w wx #[.int .i64 pf, .int .i64 pe, .slice mq ml mc] #[.int .i64 a1, .int .i64 a2, .int .i64 a3, .slice np l4 nc, .slice vp l5 vc, .int .i64 a6, .int .i64 a7, .int .i64 a8, .slice wq l9 wcp]))
  case first =>
    by_cases c1 : 1 ≤ pf
    · by_cases c2 : pf ≤ 16
      · by_cases c3 : 0 ≤ pe
        · by_cases c4 : pe ≤ 16
          · have e0 : Hid (true = w0) := by show _ = w0; rw [← HW0.out, wk]; exact (decide_eq_true ⟨c1, c2, c3, c4⟩).symm
            go_wp2_with fail
            go_meet
            exact ⟨congrArg Value.bool e0.out, S2⟩
          · have e0 : Hid (false = w0) := by show _ = w0; rw [← HW0.out, wk]; exact (decide_eq_false (by omega)).symm
            go_wp2_with fail
            go_meet
            exact ⟨congrArg Value.bool e0.out, S2⟩
        · have e0 : Hid (false = w0) := by show _ = w0; rw [← HW0.out, wk]; exact (decide_eq_false (by omega)).symm
          go_wp2_with fail
          go_meet
          exact ⟨congrArg Value.bool e0.out, S2⟩
      · have e0 : Hid (false = w0) := by show _ = w0; rw [← HW0.out, wk]; exact (decide_eq_false (by omega)).symm
        go_wp2_with fail
        go_meet
        exact ⟨congrArg Value.bool e0.out, S2⟩
    · have e0 : Hid (false = w0) := by show _ = w0; rw [← HW0.out, wk]; exact (decide_eq_false (by omega)).symm
      go_wp2_with fail
      go_meet
      exact ⟨congrArg Value.bool e0.out, S2⟩
  case rest =>
  obtain ⟨rfl, S3⟩ := hcut
  clear S1 S2 d0 d1 d2 f0 f1 f2 f3 f4 f5 f6 f7 f8 g0 g1 g2 h0 h1 h2 h3 h4 h5 h6 h7 h8
  obtain ⟨d0, d1, d2⟩ := S3.out.pcells
  go_wp2_with fail
  clear d0 d1 d2
  go_loopw [5, 6, 43] (fun s5 s6 i wr => ∃ (k : Nat) (a b : Bool), k ≤ ml ∧ s5 = .bool a ∧ s6 = .bool b ∧ i = .int .i64 k ∧ Hid (B2 w wr #[.int .i64 pf, .int .i64 pe, .slice mq ml mc] #[.int .i64 a1, .int .i64 a2, .int .i64 a3, .slice np l4 nc, .slice vp l5 vc, .int .i64 a6, .int .i64 a7, .int .i64 a8, .slice wq l9 wcp]) ∧ Hid (wk pf pe ms k = a ∧ fk pf ms k = b)) (fun _ _ i _ => ml - (intOf i).toNat)
  case atStart => exact ⟨0, w0, false, by omega, rfl, rfl, rfl, S3, ⟨HW0.out, rfl⟩⟩
  case round =>
    obtain ⟨k, a, b, hk, rfl, rfl, rfl, SK, HAB⟩ := hrel
    clear S3 HW0
    have k0 : (0 : Int) ≤ (k : Int) := by omega
    by_cases hlt : k < ml
    · clear HRG HAR HAW HMY HPR
      have k1 : (k : Int) < (ml : Int) := by omega
      obtain ⟨bm, om, rfl, HMM⟩ : ∃ bm om, mq = some ⟨bm, om, none⟩ ∧ Hid (∀ W, Below w.heap.size w W → ∀ i, i < ml → W.cell? ⟨bm, om + i * 2, none⟩ = some (.int .i64 (mAt ms i).1) ∧ W.cell? ⟨bm, om + i * 2 + 1, none⟩ = some (.int .i64 (mAt ms i).2)) := HMB.out k hlt
      obtain ⟨m1, m2⟩ := HMM.out wr SK.out.bel k hlt
      obtain ⟨who, HWH⟩ : ∃ who, Hid ((mAt ms k).1 = who) := ⟨_, rfl⟩
      obtain ⟨ri, HRI⟩ : ∃ ri, Hid ((mAt ms k).2 = ri) := ⟨_, rfl⟩
      rw [HWH.out] at m1
      rw [HRI.out] at m2
      have R9 : Hid ((wr.alloc (.cells #[.int .i64 who, .int .i64 ri] 50)).heap[wr.heap.size]? = some (.cells #[.int .i64 who, .int .i64 ri] 50 (0, 0))) := heap_alloc_new wr _
      have S9 : Hid (B2 w (wr.alloc (.cells #[.int .i64 who, .int .i64 ri] 50)) #[.int .i64 pf, .int .i64 pe, .slice (some ⟨bm, om, none⟩) ml mc] #[.int .i64 a1, .int .i64 a2, .int .i64 a3, .slice np l4 nc, .slice vp l5 vc, .int .i64 a6, .int .i64 a7, .int .i64 a8, .slice wq l9 wcp]) := SK.out.step (bel_alloc (Nat.le_refl _) _)
      have HBK : Hid (Below w.heap.size w (wr.alloc (.cells #[.int .i64 who, .int .i64 ri] 50))) := S9.out.bel
      go_wp2_with fail
      clear SK m1 m2
      generalize wr.alloc (.cells #[.int .i64 who, .int .i64 ri] 50) = W9 at *
      generalize wr.heap.size = b8 at *
      cases a with
      | false =>
        have HWK : Hid (wk pf pe ms (k + 1) = false) := by show wk pf pe ms (k + 1) = _; rw [wk, HAB.out.1, HWH.out, HRI.out]; rfl
        clear HBK
        have HM : Hid (∀ w', Only [] W9 w' → w'.cell? ⟨b8, 0, none⟩ = some (.int .i64 who) ∧ w'.cell? ⟨b8, 1, none⟩ = some (.int .i64 ri) ∧ w'.cell? ⟨w.heap.size, 2, none⟩ = some (.slice (some ⟨bm, om, none⟩) ml mc) ∧ (True)) := fun w' ho => by
          have e := (ho.block _ (Array.getElem?_eq_some_iff.1 R9.out).1 (by simp)).trans R9.out
          have s := (S9.out.step (ho.below (Nat.le_refl _) (by simp))).pcells
          exact ⟨by rw [cell_of_row _ _ _ _ _ _ e]; rfl, by rw [cell_of_row _ _ _ _ _ _ e]; rfl, s.2.2, trivial⟩
        clear R9 HMM
        obtain ⟨kk, HKK⟩ : ∃ kk : Int, Hid ((k : Int) = kk) := ⟨_, rfl⟩
        rw [HKK.out] at k1 k0 ⊢
        refine wp_region_sa (pf0 ) (fun u u' => Only [] u u') (LateS 37 5 (.bool false)) (by kernel_rfl) (only_drew _ _) (only_trans _) (pf0_kept ) (by kernel_rfl) (LateS.start rfl) ?_ ?_
        · intro i o a' w' f hi inv hS hfi hfw hpre
          have ho : Only [] W9 w' := inv.grow
          have hlt : i < 38 := (Array.getElem?_eq_some_iff.1 hi).1
          obtain rfl|rfl|rfl|rfl|rfl|rfl|rfl|rfl|rfl|rfl|rfl|rfl|rfl|rfl|rfl|rfl|rfl|rfl|rfl|rfl|rfl|rfl|rfl|rfl|rfl|rfl|rfl|rfl|rfl|rfl|rfl|rfl|rfl|rfl|rfl|rfl|rfl|rfl : i = 0 ∨ i = 1 ∨ i = 2 ∨ i = 3 ∨ i = 4 ∨ i = 5 ∨ i = 6 ∨ i = 7 ∨ i = 8 ∨ i = 9 ∨ i = 10 ∨ i = 11 ∨ i = 12 ∨ i = 13 ∨ i = 14 ∨ i = 15 ∨ i = 16 ∨ i = 17 ∨ i = 18 ∨ i = 19 ∨ i = 20 ∨ i = 21 ∨ i = 22 ∨ i = 23 ∨ i = 24 ∨ i = 25 ∨ i = 26 ∨ i = 27 ∨ i = 28 ∨ i = 29 ∨ i = 30 ∨ i = 31 ∨ i = 32 ∨ i = 33 ∨ i = 34 ∨ i = 35 ∨ i = 36 ∨ i = 37 := by omega
          · obtain rfl := Option.some.inj hi
            exact lt_value _ rfl rfl rfl hS (by decide) (by decide) (hS.here hfi)
          · obtain rfl := Option.some.inj hi
            have h0 := pre_of hpre 0 48 (by kernel_rfl) (by kernel_rfl)
            exact lt_value _ rfl rfl (rfl) hS (by decide) (by decide) h0
          · obtain rfl := Option.some.inj hi
            have hgu : a'.tmps.getD 49 undef = _ := pre_of hpre 1 49 (by kernel_rfl) (by kernel_rfl)
            exact lt_skip rfl (unwanted_of 1 49 false rfl (by kernel_rfl) hgu) hS (by decide) (by decide) rfl
          · obtain rfl := Option.some.inj hi
            have hgu : a'.tmps.getD 49 undef = _ := pre_of hpre 1 49 (by kernel_rfl) (by kernel_rfl)
            exact lt_skip rfl (unwanted_of 1 49 false rfl (by kernel_rfl) hgu) hS (by decide) (by decide) rfl
          · obtain rfl := Option.some.inj hi
            have hgu : a'.tmps.getD 49 undef = _ := pre_of hpre 1 49 (by kernel_rfl) (by kernel_rfl)
            exact lt_skip rfl (unwanted_of 1 49 false rfl (by kernel_rfl) hgu) hS (by decide) (by decide) rfl
          · obtain rfl := Option.some.inj hi
            have h0 : a'.tmps.getD 49 undef = _ := pre_of hpre 1 49 (by kernel_rfl) (by kernel_rfl)
            exact lt_value _ rfl rfl (pick_run 49 false _ _ _ _ rfl h0 rfl rfl) hS (by decide) (by decide) rfl
          · obtain rfl := Option.some.inj hi
            have h0 := pre_of hpre 5 53 (by kernel_rfl) (by kernel_rfl)
            exact lt_value _ rfl rfl (rfl) hS (by decide) (by decide) h0
          · obtain rfl := Option.some.inj hi
            have hgu : a'.tmps.getD 54 undef = _ := pre_of hpre 6 54 (by kernel_rfl) (by kernel_rfl)
            exact lt_skip rfl (unwanted_of 6 54 false rfl (by kernel_rfl) hgu) hS (by decide) (by decide) rfl
          · obtain rfl := Option.some.inj hi
            have hgu : a'.tmps.getD 54 undef = _ := pre_of hpre 6 54 (by kernel_rfl) (by kernel_rfl)
            exact lt_skip rfl (unwanted_of 6 54 false rfl (by kernel_rfl) hgu) hS (by decide) (by decide) rfl
          · obtain rfl := Option.some.inj hi
            have hgu : a'.tmps.getD 54 undef = _ := pre_of hpre 6 54 (by kernel_rfl) (by kernel_rfl)
            exact lt_skip rfl (unwanted_of 6 54 false rfl (by kernel_rfl) hgu) hS (by decide) (by decide) rfl
          · obtain rfl := Option.some.inj hi
            have h0 : a'.tmps.getD 54 undef = _ := pre_of hpre 6 54 (by kernel_rfl) (by kernel_rfl)
            exact lt_value _ rfl rfl (pick_run 54 false _ _ _ _ rfl h0 rfl rfl) hS (by decide) (by decide) rfl
          · obtain rfl := Option.some.inj hi
            have h0 := pre_of hpre 10 58 (by kernel_rfl) (by kernel_rfl)
            exact lt_value _ rfl rfl (rfl) hS (by decide) (by decide) h0
          · obtain rfl := Option.some.inj hi
            have hgu : a'.tmps.getD 59 undef = _ := pre_of hpre 11 59 (by kernel_rfl) (by kernel_rfl)
            exact lt_skip rfl (unwanted_of 11 59 false rfl (by kernel_rfl) hgu) hS (by decide) (by decide) rfl
          · obtain rfl := Option.some.inj hi
            have hgu : a'.tmps.getD 59 undef = _ := pre_of hpre 11 59 (by kernel_rfl) (by kernel_rfl)
            exact lt_skip rfl (unwanted_of 11 59 false rfl (by kernel_rfl) hgu) hS (by decide) (by decide) rfl
          · obtain rfl := Option.some.inj hi
            have hgu : a'.tmps.getD 59 undef = _ := pre_of hpre 11 59 (by kernel_rfl) (by kernel_rfl)
            exact lt_skip rfl (unwanted_of 11 59 false rfl (by kernel_rfl) hgu) hS (by decide) (by decide) rfl
          · obtain rfl := Option.some.inj hi
            have h0 : a'.tmps.getD 59 undef = _ := pre_of hpre 11 59 (by kernel_rfl) (by kernel_rfl)
            exact lt_value _ rfl rfl (pick_run 59 false _ _ _ _ rfl h0 rfl rfl) hS (by decide) (by decide) rfl
          · obtain rfl := Option.some.inj hi
            have h0 := pre_of hpre 15 63 (by kernel_rfl) (by kernel_rfl)
            exact lt_value _ rfl rfl (rfl) hS (by decide) (by decide) h0
          · obtain rfl := Option.some.inj hi
            have hgu : a'.tmps.getD 64 undef = _ := pre_of hpre 16 64 (by kernel_rfl) (by kernel_rfl)
            exact lt_skip rfl (unwanted_of 16 64 false rfl (by kernel_rfl) hgu) hS (by decide) (by decide) rfl
          · obtain rfl := Option.some.inj hi
            have hgu : a'.tmps.getD 64 undef = _ := pre_of hpre 16 64 (by kernel_rfl) (by kernel_rfl)
            exact lt_skip rfl (unwanted_of 16 64 false rfl (by kernel_rfl) hgu) hS (by decide) (by decide) rfl
          · obtain rfl := Option.some.inj hi
            have hgu : a'.tmps.getD 64 undef = _ := pre_of hpre 16 64 (by kernel_rfl) (by kernel_rfl)
            exact lt_skip rfl (unwanted_of 16 64 false rfl (by kernel_rfl) hgu) hS (by decide) (by decide) rfl
          · obtain rfl := Option.some.inj hi
            have h0 : a'.tmps.getD 64 undef = _ := pre_of hpre 16 64 (by kernel_rfl) (by kernel_rfl)
            exact lt_value _ rfl rfl (pick_run 64 false _ _ _ _ rfl h0 rfl rfl) hS (by decide) (by decide) rfl
          · obtain rfl := Option.some.inj hi
            have h0 := pre_of hpre 20 68 (by kernel_rfl) (by kernel_rfl)
            exact lt_value _ rfl rfl (rfl) hS (by decide) (by decide) h0
          · obtain rfl := Option.some.inj hi
            have hgu : a'.tmps.getD 69 undef = _ := pre_of hpre 21 69 (by kernel_rfl) (by kernel_rfl)
            exact lt_skip rfl (unwanted_of 21 69 false rfl (by kernel_rfl) hgu) hS (by decide) (by decide) rfl
          · obtain rfl := Option.some.inj hi
            have hgu : a'.tmps.getD 69 undef = _ := pre_of hpre 21 69 (by kernel_rfl) (by kernel_rfl)
            exact lt_skip rfl (unwanted_of 21 69 false rfl (by kernel_rfl) hgu) hS (by decide) (by decide) rfl
          · obtain rfl := Option.some.inj hi
            have hgu : a'.tmps.getD 69 undef = _ := pre_of hpre 21 69 (by kernel_rfl) (by kernel_rfl)
            exact lt_skip rfl (unwanted_of 21 69 false rfl (by kernel_rfl) hgu) hS (by decide) (by decide) rfl
          · obtain rfl := Option.some.inj hi
            have hgu : a'.tmps.getD 72 undef = _ := pre_of hpre 24 72 (by kernel_rfl) (by kernel_rfl)
            exact lt_skip rfl (unwanted_undef 24 72 _ rfl (by kernel_rfl) hgu) hS (by decide) (by decide) rfl
          · obtain rfl := Option.some.inj hi
            have hgu : a'.tmps.getD 72 undef = _ := pre_of hpre 24 72 (by kernel_rfl) (by kernel_rfl)
            exact lt_skip rfl (unwanted_undef 24 72 _ rfl (by kernel_rfl) hgu) hS (by decide) (by decide) rfl
          · obtain rfl := Option.some.inj hi
            have hgu : a'.tmps.getD 72 undef = _ := pre_of hpre 24 72 (by kernel_rfl) (by kernel_rfl)
            exact lt_skip rfl (unwanted_undef 24 72 _ rfl (by kernel_rfl) hgu) hS (by decide) (by decide) rfl
          · obtain rfl := Option.some.inj hi
            have hgu : a'.tmps.getD 72 undef = _ := pre_of hpre 24 72 (by kernel_rfl) (by kernel_rfl)
            exact lt_skip rfl (unwanted_undef 24 72 _ rfl (by kernel_rfl) hgu) hS (by decide) (by decide) rfl
          · obtain rfl := Option.some.inj hi
            have hgu : a'.tmps.getD 72 undef = _ := pre_of hpre 24 72 (by kernel_rfl) (by kernel_rfl)
            exact lt_skip rfl (unwanted_undef 24 72 _ rfl (by kernel_rfl) hgu) hS (by decide) (by decide) rfl
          · obtain rfl := Option.some.inj hi
            have hgu : a'.tmps.getD 72 undef = _ := pre_of hpre 24 72 (by kernel_rfl) (by kernel_rfl)
            exact lt_skip rfl (unwanted_undef 24 72 _ rfl (by kernel_rfl) hgu) hS (by decide) (by decide) rfl
          · obtain rfl := Option.some.inj hi
            have hgu : a'.tmps.getD 72 undef = _ := pre_of hpre 24 72 (by kernel_rfl) (by kernel_rfl)
            exact lt_skip rfl (unwanted_undef 24 72 _ rfl (by kernel_rfl) hgu) hS (by decide) (by decide) rfl
          · obtain rfl := Option.some.inj hi
            have hgu : a'.tmps.getD 72 undef = _ := pre_of hpre 24 72 (by kernel_rfl) (by kernel_rfl)
            exact lt_skip rfl (unwanted_undef 24 72 _ rfl (by kernel_rfl) hgu) hS (by decide) (by decide) rfl
          · obtain rfl := Option.some.inj hi
            have hgu : a'.tmps.getD 72 undef = _ := pre_of hpre 24 72 (by kernel_rfl) (by kernel_rfl)
            exact lt_skip rfl (unwanted_undef 24 72 _ rfl (by kernel_rfl) hgu) hS (by decide) (by decide) rfl
          · obtain rfl := Option.some.inj hi
            have hgu : a'.tmps.getD 72 undef = _ := pre_of hpre 24 72 (by kernel_rfl) (by kernel_rfl)
            exact lt_skip rfl (unwanted_undef 24 72 _ rfl (by kernel_rfl) hgu) hS (by decide) (by decide) rfl
          · obtain rfl := Option.some.inj hi
            have hgu : a'.tmps.getD 69 undef = _ := pre_of hpre 21 69 (by kernel_rfl) (by kernel_rfl)
            exact lt_skip rfl (unwanted_of 21 69 false rfl (by kernel_rfl) hgu) hS (by decide) (by decide) rfl
          · obtain rfl := Option.some.inj hi
            have h0 : a'.tmps.getD 69 undef = _ := pre_of hpre 21 69 (by kernel_rfl) (by kernel_rfl)
            exact lt_value _ rfl rfl (pick_run 69 false _ _ _ _ rfl h0 rfl rfl) hS (by decide) (by decide) rfl
          · obtain rfl := Option.some.inj hi
            have h0 := pre_of hpre 36 84 (by kernel_rfl) (by kernel_rfl)
            exact lt_last _ rfl rfl rfl (been_of hfw 0 (by kernel_rfl)) (by decide) h0
        · intro a' w10 f inv hS hall hd
          have hk37 := hd 37 5 (by kernel_rfl)
          have ho : Only [] W9 w10 := inv.grow
          have hdf : a'.defers = [] := inv.defers
          have hsz : a'.tmps.size = 130 := inv.size
          have e := frame4_10 hsz (fun t ht => inv.old t (dstsIn_spec (ts := [5, 48, 49, 50, 51, 52, 53, 54, 55, 56, 57, 58, 59, 60, 61, 62, 63, 64, 65, 66, 67, 68, 69, 70, 71, 72, 73, 74, 75, 76, 77, 78, 79, 80, 81, 82, 83, 84]) (by kernel_rfl) t ht))
          clear inv hd hsz hall hS
          obtain ⟨tmps, defers⟩ := a'
          obtain rfl : defers = [] := hdf
          replace e : tmps = _ := e
          replace hk37 : tmps.getD 5 undef = (.bool false) := hk37
          generalize tmps.getD 5 undef = x5 at *
          generalize tmps.getD 48 undef = x48 at *
          generalize tmps.getD 49 undef = x49 at *
          generalize tmps.getD 50 undef = x50 at *
          generalize tmps.getD 51 undef = x51 at *
          generalize tmps.getD 52 undef = x52 at *
          generalize tmps.getD 53 undef = x53 at *
          generalize tmps.getD 54 undef = x54 at *
          generalize tmps.getD 55 undef = x55 at *
          generalize tmps.getD 56 undef = x56 at *
          generalize tmps.getD 57 undef = x57 at *
          generalize tmps.getD 58 undef = x58 at *
          generalize tmps.getD 59 undef = x59 at *
          generalize tmps.getD 60 undef = x60 at *
          generalize tmps.getD 61 undef = x61 at *
          generalize tmps.getD 62 undef = x62 at *
          generalize tmps.getD 63 undef = x63 at *
          generalize tmps.getD 64 undef = x64 at *
          generalize tmps.getD 65 undef = x65 at *
          generalize tmps.getD 66 undef = x66 at *
          generalize tmps.getD 67 undef = x67 at *
          generalize tmps.getD 68 undef = x68 at *
          generalize tmps.getD 69 undef = x69 at *
          generalize tmps.getD 70 undef = x70 at *
          generalize tmps.getD 71 undef = x71 at *
          generalize tmps.getD 72 undef = x72 at *
          generalize tmps.getD 73 undef = x73 at *
          generalize tmps.getD 74 undef = x74 at *
          generalize tmps.getD 75 undef = x75 at *
          generalize tmps.getD 76 undef = x76 at *
          generalize tmps.getD 77 undef = x77 at *
          generalize tmps.getD 78 undef = x78 at *
          generalize tmps.getD 79 undef = x79 at *
          generalize tmps.getD 80 undef = x80 at *
          generalize tmps.getD 81 undef = x81 at *
          generalize tmps.getD 82 undef = x82 at *
          generalize tmps.getD 83 undef = x83 at *
          generalize tmps.getD 84 undef = x84 at *
          simp only [Array.getD_eq_getD_getElem?, List.getElem?_toArray, List.getElem?_cons_succ, List.getElem?_cons_zero, Option.getD_some] at e
          subst e
          subst hk37
          have ekk : (k : Int) = kk := HKK.out
          subst ekk
          have S10 : Hid (B2 w w10 #[.int .i64 pf, .int .i64 pe, .slice (some ⟨bm, om, none⟩) ml mc] #[.int .i64 a1, .int .i64 a2, .int .i64 a3, .slice np l4 nc, .slice vp l5 vc, .int .i64 a6, .int .i64 a7, .int .i64 a8, .slice wq l9 wcp]) := S9.out.step (ho.below (Nat.le_refl _) (by simp))
          have c8a := (HM.out w10 ho).1
          have c8b := (HM.out w10 ho).2.1
          obtain ⟨d0, d1, d2⟩ := S10.out.pcells
          clear HM S9 ho
          cases b with
          | true =>
            have HFK : Hid (fk pf ms (k + 1) = true) := by show fk pf ms (k + 1) = true; rw [fk, HAB.out.2]; rfl
            clear HAB
            go_wp2_with fail
            refine ⟨⟨k + 1, false, true, by omega, rfl, rfl, by simp, S10, ⟨HWK.out, HFK.out⟩⟩, ?_⟩
            simp only [intOf]
            omega
          | false =>
            by_cases hwf : who = pf
            · have HFK : Hid (fk pf ms (k + 1) = (ri == 7)) := by show fk pf ms (k + 1) = _; rw [fk, HAB.out.2, HWH.out, HRI.out, Bool.false_or, hwf]; simp only [true_and]; rfl
              have hE : (who == pf) = true := by simpa using hwf
              clear HAB hwf
              go_wp2_with fail
              refine ⟨⟨k + 1, false, (ri == 7), by omega, rfl, rfl, by simp, S10, ⟨HWK.out, HFK.out⟩⟩, ?_⟩
              simp only [intOf]
              omega
            · have HFK : Hid (fk pf ms (k + 1) = false) := by show fk pf ms (k + 1) = _; rw [fk, HAB.out.2, HWH.out, HRI.out, Bool.false_or]; exact decide_eq_false (fun h => hwf h.1)
              have hE : (who == pf) = false := by simpa using hwf
              clear HAB
              go_wp2_with fail
              refine ⟨⟨k + 1, false, false, by omega, rfl, rfl, by simp, S10, ⟨HWK.out, HFK.out⟩⟩, ?_⟩
              simp only [intOf]
              omega
      | true =>
        by_cases c1 : 1 ≤ who
        rotate_left
        · have H1 : Hid (decide (1 ≤ who) = false) := decide_eq_false c1
          have HWK : Hid (wk pf pe ms (k + 1) = false) := by show wk pf pe ms (k + 1) = _; rw [wk, HAB.out.1, HWH.out, HRI.out]; rw [Bool.true_and]; exact decide_eq_false (by omega)
          clear HBK c1
          have HM : Hid (∀ w', Only [] W9 w' → w'.cell? ⟨b8, 0, none⟩ = some (.int .i64 who) ∧ w'.cell? ⟨b8, 1, none⟩ = some (.int .i64 ri) ∧ w'.cell? ⟨w.heap.size, 2, none⟩ = some (.slice (some ⟨bm, om, none⟩) ml mc) ∧ (True)) := fun w' ho => by
            have e := (ho.block _ (Array.getElem?_eq_some_iff.1 R9.out).1 (by simp)).trans R9.out
            have s := (S9.out.step (ho.below (Nat.le_refl _) (by simp))).pcells
            exact ⟨by rw [cell_of_row _ _ _ _ _ _ e]; rfl, by rw [cell_of_row _ _ _ _ _ _ e]; rfl, s.2.2, trivial⟩
          clear R9 HMM
          obtain ⟨kk, HKK⟩ : ∃ kk : Int, Hid ((k : Int) = kk) := ⟨_, rfl⟩
          rw [HKK.out] at k1 k0 ⊢
          refine wp_region_sa (pf1 b8 who) (fun u u' => Only [] u u') (LateS 37 5 (.bool true)) (by kernel_rfl) (only_drew _ _) (only_trans _) (pf1_kept b8 who) (by kernel_rfl) (LateS.start rfl) ?_ ?_
          · intro i o a' w' f hi inv hS hfi hfw hpre
            have ho : Only [] W9 w' := inv.grow
            have hlt : i < 38 := (Array.getElem?_eq_some_iff.1 hi).1
            obtain rfl|rfl|rfl|rfl|rfl|rfl|rfl|rfl|rfl|rfl|rfl|rfl|rfl|rfl|rfl|rfl|rfl|rfl|rfl|rfl|rfl|rfl|rfl|rfl|rfl|rfl|rfl|rfl|rfl|rfl|rfl|rfl|rfl|rfl|rfl|rfl|rfl|rfl : i = 0 ∨ i = 1 ∨ i = 2 ∨ i = 3 ∨ i = 4 ∨ i = 5 ∨ i = 6 ∨ i = 7 ∨ i = 8 ∨ i = 9 ∨ i = 10 ∨ i = 11 ∨ i = 12 ∨ i = 13 ∨ i = 14 ∨ i = 15 ∨ i = 16 ∨ i = 17 ∨ i = 18 ∨ i = 19 ∨ i = 20 ∨ i = 21 ∨ i = 22 ∨ i = 23 ∨ i = 24 ∨ i = 25 ∨ i = 26 ∨ i = 27 ∨ i = 28 ∨ i = 29 ∨ i = 30 ∨ i = 31 ∨ i = 32 ∨ i = 33 ∨ i = 34 ∨ i = 35 ∨ i = 36 ∨ i = 37 := by omega
            · obtain rfl := Option.some.inj hi
              exact lt_value _ rfl rfl rfl hS (by decide) (by decide) (hS.here hfi)
            · obtain rfl := Option.some.inj hi
              have h0 := pre_of hpre 0 48 (by kernel_rfl) (by kernel_rfl)
              exact lt_value _ rfl rfl (rfl) hS (by decide) (by decide) h0
            · obtain rfl := Option.some.inj hi
              have hgu : a'.tmps.getD 49 undef = _ := pre_of hpre 1 49 (by kernel_rfl) (by kernel_rfl)
              have h0 : a'.tmps.getD 8 undef = (.pointer (some ⟨b8, 0, none⟩)) := by rw [inv.old 8 (notDst_spec (by kernel_rfl))]; rfl
              exact lt_value _ rfl (wanted_of 1 49 true rfl (by kernel_rfl) hgu) (fa_run 50 0 8 b8 rfl h0 (fa50_0 b8)) hS (by decide) (by decide) rfl
            · obtain rfl := Option.some.inj hi
              have hgu : a'.tmps.getD 49 undef = _ := pre_of hpre 1 49 (by kernel_rfl) (by kernel_rfl)
              have h0 : a'.tmps.getD 50 undef = _ := pre_of hpre 2 50 (by kernel_rfl) (by kernel_rfl)
              exact lt_value _ rfl (wanted_of 1 49 true rfl (by kernel_rfl) hgu) (load_run 3 50 b8 (0) _ rfl h0 (ld3 ((HM.out w' ho).1))) hS (by decide) (by decide) rfl
            · obtain rfl := Option.some.inj hi
              have hgu : a'.tmps.getD 49 undef = _ := pre_of hpre 1 49 (by kernel_rfl) (by kernel_rfl)
              have h0 : a'.tmps.getD 51 undef = _ := pre_of hpre 3 51 (by kernel_rfl) (by kernel_rfl)
              exact lt_value _ rfl (wanted_of 1 49 true rfl (by kernel_rfl) hgu) (geqK_run 51 _ _ rfl h0) hS (by decide) (by decide) (by show Value.bool _ = _; rw [H1.out])
            · obtain rfl := Option.some.inj hi
              have h0 : a'.tmps.getD 49 undef = _ := pre_of hpre 1 49 (by kernel_rfl) (by kernel_rfl)
              have h1 : a'.tmps.getD 52 undef = _ := pre_of hpre 4 52 (by kernel_rfl) (by kernel_rfl)
              exact lt_value _ rfl rfl (pick_run 49 true _ _ _ _ rfl h0 h1 rfl) hS (by decide) (by decide) rfl
            · obtain rfl := Option.some.inj hi
              have h0 := pre_of hpre 5 53 (by kernel_rfl) (by kernel_rfl)
              exact lt_value _ rfl rfl (rfl) hS (by decide) (by decide) h0
            · obtain rfl := Option.some.inj hi
              have hgu : a'.tmps.getD 54 undef = _ := pre_of hpre 6 54 (by kernel_rfl) (by kernel_rfl)
              exact lt_skip rfl (unwanted_of 6 54 false rfl (by kernel_rfl) hgu) hS (by decide) (by decide) rfl
            · obtain rfl := Option.some.inj hi
              have hgu : a'.tmps.getD 54 undef = _ := pre_of hpre 6 54 (by kernel_rfl) (by kernel_rfl)
              exact lt_skip rfl (unwanted_of 6 54 false rfl (by kernel_rfl) hgu) hS (by decide) (by decide) rfl
            · obtain rfl := Option.some.inj hi
              have hgu : a'.tmps.getD 54 undef = _ := pre_of hpre 6 54 (by kernel_rfl) (by kernel_rfl)
              exact lt_skip rfl (unwanted_of 6 54 false rfl (by kernel_rfl) hgu) hS (by decide) (by decide) rfl
            · obtain rfl := Option.some.inj hi
              have h0 : a'.tmps.getD 54 undef = _ := pre_of hpre 6 54 (by kernel_rfl) (by kernel_rfl)
              exact lt_value _ rfl rfl (pick_run 54 false _ _ _ _ rfl h0 rfl rfl) hS (by decide) (by decide) rfl
            · obtain rfl := Option.some.inj hi
              have h0 := pre_of hpre 10 58 (by kernel_rfl) (by kernel_rfl)
              exact lt_value _ rfl rfl (rfl) hS (by decide) (by decide) h0
            · obtain rfl := Option.some.inj hi
              have hgu : a'.tmps.getD 59 undef = _ := pre_of hpre 11 59 (by kernel_rfl) (by kernel_rfl)
              exact lt_skip rfl (unwanted_of 11 59 false rfl (by kernel_rfl) hgu) hS (by decide) (by decide) rfl
            · obtain rfl := Option.some.inj hi
              have hgu : a'.tmps.getD 59 undef = _ := pre_of hpre 11 59 (by kernel_rfl) (by kernel_rfl)
              exact lt_skip rfl (unwanted_of 11 59 false rfl (by kernel_rfl) hgu) hS (by decide) (by decide) rfl
            · obtain rfl := Option.some.inj hi
              have hgu : a'.tmps.getD 59 undef = _ := pre_of hpre 11 59 (by kernel_rfl) (by kernel_rfl)
              exact lt_skip rfl (unwanted_of 11 59 false rfl (by kernel_rfl) hgu) hS (by decide) (by decide) rfl
            · obtain rfl := Option.some.inj hi
              have h0 : a'.tmps.getD 59 undef = _ := pre_of hpre 11 59 (by kernel_rfl) (by kernel_rfl)
              exact lt_value _ rfl rfl (pick_run 59 false _ _ _ _ rfl h0 rfl rfl) hS (by decide) (by decide) rfl
            · obtain rfl := Option.some.inj hi
              have h0 := pre_of hpre 15 63 (by kernel_rfl) (by kernel_rfl)
              exact lt_value _ rfl rfl (rfl) hS (by decide) (by decide) h0
            · obtain rfl := Option.some.inj hi
              have hgu : a'.tmps.getD 64 undef = _ := pre_of hpre 16 64 (by kernel_rfl) (by kernel_rfl)
              exact lt_skip rfl (unwanted_of 16 64 false rfl (by kernel_rfl) hgu) hS (by decide) (by decide) rfl
            · obtain rfl := Option.some.inj hi
              have hgu : a'.tmps.getD 64 undef = _ := pre_of hpre 16 64 (by kernel_rfl) (by kernel_rfl)
              exact lt_skip rfl (unwanted_of 16 64 false rfl (by kernel_rfl) hgu) hS (by decide) (by decide) rfl
            · obtain rfl := Option.some.inj hi
              have hgu : a'.tmps.getD 64 undef = _ := pre_of hpre 16 64 (by kernel_rfl) (by kernel_rfl)
              exact lt_skip rfl (unwanted_of 16 64 false rfl (by kernel_rfl) hgu) hS (by decide) (by decide) rfl
            · obtain rfl := Option.some.inj hi
              have h0 : a'.tmps.getD 64 undef = _ := pre_of hpre 16 64 (by kernel_rfl) (by kernel_rfl)
              exact lt_value _ rfl rfl (pick_run 64 false _ _ _ _ rfl h0 rfl rfl) hS (by decide) (by decide) rfl
            · obtain rfl := Option.some.inj hi
              have h0 := pre_of hpre 20 68 (by kernel_rfl) (by kernel_rfl)
              exact lt_value _ rfl rfl (rfl) hS (by decide) (by decide) h0
            · obtain rfl := Option.some.inj hi
              have hgu : a'.tmps.getD 69 undef = _ := pre_of hpre 21 69 (by kernel_rfl) (by kernel_rfl)
              exact lt_skip rfl (unwanted_of 21 69 false rfl (by kernel_rfl) hgu) hS (by decide) (by decide) rfl
            · obtain rfl := Option.some.inj hi
              have hgu : a'.tmps.getD 69 undef = _ := pre_of hpre 21 69 (by kernel_rfl) (by kernel_rfl)
              exact lt_skip rfl (unwanted_of 21 69 false rfl (by kernel_rfl) hgu) hS (by decide) (by decide) rfl
            · obtain rfl := Option.some.inj hi
              have hgu : a'.tmps.getD 69 undef = _ := pre_of hpre 21 69 (by kernel_rfl) (by kernel_rfl)
              exact lt_skip rfl (unwanted_of 21 69 false rfl (by kernel_rfl) hgu) hS (by decide) (by decide) rfl
            · obtain rfl := Option.some.inj hi
              have hgu : a'.tmps.getD 72 undef = _ := pre_of hpre 24 72 (by kernel_rfl) (by kernel_rfl)
              exact lt_skip rfl (unwanted_undef 24 72 _ rfl (by kernel_rfl) hgu) hS (by decide) (by decide) rfl
            · obtain rfl := Option.some.inj hi
              have hgu : a'.tmps.getD 72 undef = _ := pre_of hpre 24 72 (by kernel_rfl) (by kernel_rfl)
              exact lt_skip rfl (unwanted_undef 24 72 _ rfl (by kernel_rfl) hgu) hS (by decide) (by decide) rfl
            · obtain rfl := Option.some.inj hi
              have hgu : a'.tmps.getD 72 undef = _ := pre_of hpre 24 72 (by kernel_rfl) (by kernel_rfl)
              exact lt_skip rfl (unwanted_undef 24 72 _ rfl (by kernel_rfl) hgu) hS (by decide) (by decide) rfl
            · obtain rfl := Option.some.inj hi
              have hgu : a'.tmps.getD 72 undef = _ := pre_of hpre 24 72 (by kernel_rfl) (by kernel_rfl)
              exact lt_skip rfl (unwanted_undef 24 72 _ rfl (by kernel_rfl) hgu) hS (by decide) (by decide) rfl
            · obtain rfl := Option.some.inj hi
              have hgu : a'.tmps.getD 72 undef = _ := pre_of hpre 24 72 (by kernel_rfl) (by kernel_rfl)
              exact lt_skip rfl (unwanted_undef 24 72 _ rfl (by kernel_rfl) hgu) hS (by decide) (by decide) rfl
            · obtain rfl := Option.some.inj hi
              have hgu : a'.tmps.getD 72 undef = _ := pre_of hpre 24 72 (by kernel_rfl) (by kernel_rfl)
              exact lt_skip rfl (unwanted_undef 24 72 _ rfl (by kernel_rfl) hgu) hS (by decide) (by decide) rfl
            · obtain rfl := Option.some.inj hi
              have hgu : a'.tmps.getD 72 undef = _ := pre_of hpre 24 72 (by kernel_rfl) (by kernel_rfl)
              exact lt_skip rfl (unwanted_undef 24 72 _ rfl (by kernel_rfl) hgu) hS (by decide) (by decide) rfl
            · obtain rfl := Option.some.inj hi
              have hgu : a'.tmps.getD 72 undef = _ := pre_of hpre 24 72 (by kernel_rfl) (by kernel_rfl)
              exact lt_skip rfl (unwanted_undef 24 72 _ rfl (by kernel_rfl) hgu) hS (by decide) (by decide) rfl
            · obtain rfl := Option.some.inj hi
              have hgu : a'.tmps.getD 72 undef = _ := pre_of hpre 24 72 (by kernel_rfl) (by kernel_rfl)
              exact lt_skip rfl (unwanted_undef 24 72 _ rfl (by kernel_rfl) hgu) hS (by decide) (by decide) rfl
            · obtain rfl := Option.some.inj hi
              have hgu : a'.tmps.getD 72 undef = _ := pre_of hpre 24 72 (by kernel_rfl) (by kernel_rfl)
              exact lt_skip rfl (unwanted_undef 24 72 _ rfl (by kernel_rfl) hgu) hS (by decide) (by decide) rfl
            · obtain rfl := Option.some.inj hi
              have hgu : a'.tmps.getD 69 undef = _ := pre_of hpre 21 69 (by kernel_rfl) (by kernel_rfl)
              exact lt_skip rfl (unwanted_of 21 69 false rfl (by kernel_rfl) hgu) hS (by decide) (by decide) rfl
            · obtain rfl := Option.some.inj hi
              have h0 : a'.tmps.getD 69 undef = _ := pre_of hpre 21 69 (by kernel_rfl) (by kernel_rfl)
              exact lt_value _ rfl rfl (pick_run 69 false _ _ _ _ rfl h0 rfl rfl) hS (by decide) (by decide) rfl
            · obtain rfl := Option.some.inj hi
              have h0 := pre_of hpre 36 84 (by kernel_rfl) (by kernel_rfl)
              exact lt_last _ rfl rfl rfl (been_of hfw 0 (by kernel_rfl)) (by decide) h0
          · intro a' w10 f inv hS hall hd
            have hk37 := hd 37 5 (by kernel_rfl)
            have ho : Only [] W9 w10 := inv.grow
            have hdf : a'.defers = [] := inv.defers
            have hsz : a'.tmps.size = 130 := inv.size
            have e := frame4_10 hsz (fun t ht => inv.old t (dstsIn_spec (ts := [5, 48, 49, 50, 51, 52, 53, 54, 55, 56, 57, 58, 59, 60, 61, 62, 63, 64, 65, 66, 67, 68, 69, 70, 71, 72, 73, 74, 75, 76, 77, 78, 79, 80, 81, 82, 83, 84]) (by kernel_rfl) t ht))
            clear inv hd hsz hall hS
            obtain ⟨tmps, defers⟩ := a'
            obtain rfl : defers = [] := hdf
            replace e : tmps = _ := e
            replace hk37 : tmps.getD 5 undef = (.bool false) := hk37
            generalize tmps.getD 5 undef = x5 at *
            generalize tmps.getD 48 undef = x48 at *
            generalize tmps.getD 49 undef = x49 at *
            generalize tmps.getD 50 undef = x50 at *
            generalize tmps.getD 51 undef = x51 at *
            generalize tmps.getD 52 undef = x52 at *
            generalize tmps.getD 53 undef = x53 at *
            generalize tmps.getD 54 undef = x54 at *
            generalize tmps.getD 55 undef = x55 at *
            generalize tmps.getD 56 undef = x56 at *
            generalize tmps.getD 57 undef = x57 at *
            generalize tmps.getD 58 undef = x58 at *
            generalize tmps.getD 59 undef = x59 at *
            generalize tmps.getD 60 undef = x60 at *
            generalize tmps.getD 61 undef = x61 at *
            generalize tmps.getD 62 undef = x62 at *
            generalize tmps.getD 63 undef = x63 at *
            generalize tmps.getD 64 undef = x64 at *
            generalize tmps.getD 65 undef = x65 at *
            generalize tmps.getD 66 undef = x66 at *
            generalize tmps.getD 67 undef = x67 at *
            generalize tmps.getD 68 undef = x68 at *
            generalize tmps.getD 69 undef = x69 at *
            generalize tmps.getD 70 undef = x70 at *
            generalize tmps.getD 71 undef = x71 at *
            generalize tmps.getD 72 undef = x72 at *
            generalize tmps.getD 73 undef = x73 at *
            generalize tmps.getD 74 undef = x74 at *
            generalize tmps.getD 75 undef = x75 at *
            generalize tmps.getD 76 undef = x76 at *
            generalize tmps.getD 77 undef = x77 at *
            generalize tmps.getD 78 undef = x78 at *
            generalize tmps.getD 79 undef = x79 at *
            generalize tmps.getD 80 undef = x80 at *
            generalize tmps.getD 81 undef = x81 at *
            generalize tmps.getD 82 undef = x82 at *
            generalize tmps.getD 83 undef = x83 at *
            generalize tmps.getD 84 undef = x84 at *
            simp only [Array.getD_eq_getD_getElem?, List.getElem?_toArray, List.getElem?_cons_succ, List.getElem?_cons_zero, Option.getD_some] at e
            subst e
            subst hk37
            have ekk : (k : Int) = kk := HKK.out
            subst ekk
            have S10 : Hid (B2 w w10 #[.int .i64 pf, .int .i64 pe, .slice (some ⟨bm, om, none⟩) ml mc] #[.int .i64 a1, .int .i64 a2, .int .i64 a3, .slice np l4 nc, .slice vp l5 vc, .int .i64 a6, .int .i64 a7, .int .i64 a8, .slice wq l9 wcp]) := S9.out.step (ho.below (Nat.le_refl _) (by simp))
            have c8a := (HM.out w10 ho).1
            have c8b := (HM.out w10 ho).2.1
            obtain ⟨d0, d1, d2⟩ := S10.out.pcells
            clear HM S9 ho
            cases b with
            | true =>
              have HFK : Hid (fk pf ms (k + 1) = true) := by show fk pf ms (k + 1) = true; rw [fk, HAB.out.2]; rfl
              clear HAB
              go_wp2_with fail
              refine ⟨⟨k + 1, false, true, by omega, rfl, rfl, by simp, S10, ⟨HWK.out, HFK.out⟩⟩, ?_⟩
              simp only [intOf]
              omega
            | false =>
              by_cases hwf : who = pf
              · have HFK : Hid (fk pf ms (k + 1) = (ri == 7)) := by show fk pf ms (k + 1) = _; rw [fk, HAB.out.2, HWH.out, HRI.out, Bool.false_or, hwf]; simp only [true_and]; rfl
                have hE : (who == pf) = true := by simpa using hwf
                clear HAB hwf
                go_wp2_with fail
                refine ⟨⟨k + 1, false, (ri == 7), by omega, rfl, rfl, by simp, S10, ⟨HWK.out, HFK.out⟩⟩, ?_⟩
                simp only [intOf]
                omega
              · have HFK : Hid (fk pf ms (k + 1) = false) := by show fk pf ms (k + 1) = _; rw [fk, HAB.out.2, HWH.out, HRI.out, Bool.false_or]; exact decide_eq_false (fun h => hwf h.1)
                have hE : (who == pf) = false := by simpa using hwf
                clear HAB
                go_wp2_with fail
                refine ⟨⟨k + 1, false, false, by omega, rfl, rfl, by simp, S10, ⟨HWK.out, HFK.out⟩⟩, ?_⟩
                simp only [intOf]
                omega
        by_cases c2 : who ≤ 16
        rotate_left
        · have H2 : Hid (decide (who ≤ 16) = false) := decide_eq_false c2
          have HWK : Hid (wk pf pe ms (k + 1) = false) := by show wk pf pe ms (k + 1) = _; rw [wk, HAB.out.1, HWH.out, HRI.out]; rw [Bool.true_and]; exact decide_eq_false (by omega)
          have H1 : Hid (decide (1 ≤ who) = true) := decide_eq_true c1
          clear HBK c1 c2
          have HM : Hid (∀ w', Only [] W9 w' → w'.cell? ⟨b8, 0, none⟩ = some (.int .i64 who) ∧ w'.cell? ⟨b8, 1, none⟩ = some (.int .i64 ri) ∧ w'.cell? ⟨w.heap.size, 2, none⟩ = some (.slice (some ⟨bm, om, none⟩) ml mc) ∧ (True)) := fun w' ho => by
            have e := (ho.block _ (Array.getElem?_eq_some_iff.1 R9.out).1 (by simp)).trans R9.out
            have s := (S9.out.step (ho.below (Nat.le_refl _) (by simp))).pcells
            exact ⟨by rw [cell_of_row _ _ _ _ _ _ e]; rfl, by rw [cell_of_row _ _ _ _ _ _ e]; rfl, s.2.2, trivial⟩
          clear R9 HMM
          obtain ⟨kk, HKK⟩ : ∃ kk : Int, Hid ((k : Int) = kk) := ⟨_, rfl⟩
          rw [HKK.out] at k1 k0 ⊢
          refine wp_region_sa (pf2 b8 who) (fun u u' => Only [] u u') (LateS 37 5 (.bool true)) (by kernel_rfl) (only_drew _ _) (only_trans _) (pf2_kept b8 who) (by kernel_rfl) (LateS.start rfl) ?_ ?_
          · intro i o a' w' f hi inv hS hfi hfw hpre
            have ho : Only [] W9 w' := inv.grow
            have hlt : i < 38 := (Array.getElem?_eq_some_iff.1 hi).1
            obtain rfl|rfl|rfl|rfl|rfl|rfl|rfl|rfl|rfl|rfl|rfl|rfl|rfl|rfl|rfl|rfl|rfl|rfl|rfl|rfl|rfl|rfl|rfl|rfl|rfl|rfl|rfl|rfl|rfl|rfl|rfl|rfl|rfl|rfl|rfl|rfl|rfl|rfl : i = 0 ∨ i = 1 ∨ i = 2 ∨ i = 3 ∨ i = 4 ∨ i = 5 ∨ i = 6 ∨ i = 7 ∨ i = 8 ∨ i = 9 ∨ i = 10 ∨ i = 11 ∨ i = 12 ∨ i = 13 ∨ i = 14 ∨ i = 15 ∨ i = 16 ∨ i = 17 ∨ i = 18 ∨ i = 19 ∨ i = 20 ∨ i = 21 ∨ i = 22 ∨ i = 23 ∨ i = 24 ∨ i = 25 ∨ i = 26 ∨ i = 27 ∨ i = 28 ∨ i = 29 ∨ i = 30 ∨ i = 31 ∨ i = 32 ∨ i = 33 ∨ i = 34 ∨ i = 35 ∨ i = 36 ∨ i = 37 := by omega
            · obtain rfl := Option.some.inj hi
              exact lt_value _ rfl rfl rfl hS (by decide) (by decide) (hS.here hfi)
            · obtain rfl := Option.some.inj hi
              have h0 := pre_of hpre 0 48 (by kernel_rfl) (by kernel_rfl)
              exact lt_value _ rfl rfl (rfl) hS (by decide) (by decide) h0
            · obtain rfl := Option.some.inj hi
              have hgu : a'.tmps.getD 49 undef = _ := pre_of hpre 1 49 (by kernel_rfl) (by kernel_rfl)
              have h0 : a'.tmps.getD 8 undef = (.pointer (some ⟨b8, 0, none⟩)) := by rw [inv.old 8 (notDst_spec (by kernel_rfl))]; rfl
              exact lt_value _ rfl (wanted_of 1 49 true rfl (by kernel_rfl) hgu) (fa_run 50 0 8 b8 rfl h0 (fa50_0 b8)) hS (by decide) (by decide) rfl
            · obtain rfl := Option.some.inj hi
              have hgu : a'.tmps.getD 49 undef = _ := pre_of hpre 1 49 (by kernel_rfl) (by kernel_rfl)
              have h0 : a'.tmps.getD 50 undef = _ := pre_of hpre 2 50 (by kernel_rfl) (by kernel_rfl)
              exact lt_value _ rfl (wanted_of 1 49 true rfl (by kernel_rfl) hgu) (load_run 3 50 b8 (0) _ rfl h0 (ld3 ((HM.out w' ho).1))) hS (by decide) (by decide) rfl
            · obtain rfl := Option.some.inj hi
              have hgu : a'.tmps.getD 49 undef = _ := pre_of hpre 1 49 (by kernel_rfl) (by kernel_rfl)
              have h0 : a'.tmps.getD 51 undef = _ := pre_of hpre 3 51 (by kernel_rfl) (by kernel_rfl)
              exact lt_value _ rfl (wanted_of 1 49 true rfl (by kernel_rfl) hgu) (geqK_run 51 _ _ rfl h0) hS (by decide) (by decide) (by show Value.bool _ = _; rw [H1.out])
            · obtain rfl := Option.some.inj hi
              have h0 : a'.tmps.getD 49 undef = _ := pre_of hpre 1 49 (by kernel_rfl) (by kernel_rfl)
              have h1 : a'.tmps.getD 52 undef = _ := pre_of hpre 4 52 (by kernel_rfl) (by kernel_rfl)
              exact lt_value _ rfl rfl (pick_run 49 true _ _ _ _ rfl h0 h1 rfl) hS (by decide) (by decide) rfl
            · obtain rfl := Option.some.inj hi
              have h0 := pre_of hpre 5 53 (by kernel_rfl) (by kernel_rfl)
              exact lt_value _ rfl rfl (rfl) hS (by decide) (by decide) h0
            · obtain rfl := Option.some.inj hi
              have hgu : a'.tmps.getD 54 undef = _ := pre_of hpre 6 54 (by kernel_rfl) (by kernel_rfl)
              have h0 : a'.tmps.getD 8 undef = (.pointer (some ⟨b8, 0, none⟩)) := by rw [inv.old 8 (notDst_spec (by kernel_rfl))]; rfl
              exact lt_value _ rfl (wanted_of 6 54 true rfl (by kernel_rfl) hgu) (fa_run 50 0 8 b8 rfl h0 (fa50_0 b8)) hS (by decide) (by decide) rfl
            · obtain rfl := Option.some.inj hi
              have hgu : a'.tmps.getD 54 undef = _ := pre_of hpre 6 54 (by kernel_rfl) (by kernel_rfl)
              have h0 : a'.tmps.getD 55 undef = _ := pre_of hpre 7 55 (by kernel_rfl) (by kernel_rfl)
              exact lt_value _ rfl (wanted_of 6 54 true rfl (by kernel_rfl) hgu) (load_run 3 55 b8 (0) _ rfl h0 (ld3 ((HM.out w' ho).1))) hS (by decide) (by decide) rfl
            · obtain rfl := Option.some.inj hi
              have hgu : a'.tmps.getD 54 undef = _ := pre_of hpre 6 54 (by kernel_rfl) (by kernel_rfl)
              have h0 : a'.tmps.getD 56 undef = _ := pre_of hpre 8 56 (by kernel_rfl) (by kernel_rfl)
              exact lt_value _ rfl (wanted_of 6 54 true rfl (by kernel_rfl) hgu) (leqK_run 56 _ _ rfl h0) hS (by decide) (by decide) (by show Value.bool _ = _; rw [H2.out])
            · obtain rfl := Option.some.inj hi
              have h0 : a'.tmps.getD 54 undef = _ := pre_of hpre 6 54 (by kernel_rfl) (by kernel_rfl)
              have h1 : a'.tmps.getD 57 undef = _ := pre_of hpre 9 57 (by kernel_rfl) (by kernel_rfl)
              exact lt_value _ rfl rfl (pick_run 54 true _ _ _ _ rfl h0 h1 rfl) hS (by decide) (by decide) rfl
            · obtain rfl := Option.some.inj hi
              have h0 := pre_of hpre 10 58 (by kernel_rfl) (by kernel_rfl)
              exact lt_value _ rfl rfl (rfl) hS (by decide) (by decide) h0
            · obtain rfl := Option.some.inj hi
              have hgu : a'.tmps.getD 59 undef = _ := pre_of hpre 11 59 (by kernel_rfl) (by kernel_rfl)
              exact lt_skip rfl (unwanted_of 11 59 false rfl (by kernel_rfl) hgu) hS (by decide) (by decide) rfl
            · obtain rfl := Option.some.inj hi
              have hgu : a'.tmps.getD 59 undef = _ := pre_of hpre 11 59 (by kernel_rfl) (by kernel_rfl)
              exact lt_skip rfl (unwanted_of 11 59 false rfl (by kernel_rfl) hgu) hS (by decide) (by decide) rfl
            · obtain rfl := Option.some.inj hi
              have hgu : a'.tmps.getD 59 undef = _ := pre_of hpre 11 59 (by kernel_rfl) (by kernel_rfl)
              exact lt_skip rfl (unwanted_of 11 59 false rfl (by kernel_rfl) hgu) hS (by decide) (by decide) rfl
            · obtain rfl := Option.some.inj hi
              have h0 : a'.tmps.getD 59 undef = _ := pre_of hpre 11 59 (by kernel_rfl) (by kernel_rfl)
              exact lt_value _ rfl rfl (pick_run 59 false _ _ _ _ rfl h0 rfl rfl) hS (by decide) (by decide) rfl
            · obtain rfl := Option.some.inj hi
              have h0 := pre_of hpre 15 63 (by kernel_rfl) (by kernel_rfl)
              exact lt_value _ rfl rfl (rfl) hS (by decide) (by decide) h0
            · obtain rfl := Option.some.inj hi
              have hgu : a'.tmps.getD 64 undef = _ := pre_of hpre 16 64 (by kernel_rfl) (by kernel_rfl)
              exact lt_skip rfl (unwanted_of 16 64 false rfl (by kernel_rfl) hgu) hS (by decide) (by decide) rfl
            · obtain rfl := Option.some.inj hi
              have hgu : a'.tmps.getD 64 undef = _ := pre_of hpre 16 64 (by kernel_rfl) (by kernel_rfl)
              exact lt_skip rfl (unwanted_of 16 64 false rfl (by kernel_rfl) hgu) hS (by decide) (by decide) rfl
            · obtain rfl := Option.some.inj hi
              have hgu : a'.tmps.getD 64 undef = _ := pre_of hpre 16 64 (by kernel_rfl) (by kernel_rfl)
              exact lt_skip rfl (unwanted_of 16 64 false rfl (by kernel_rfl) hgu) hS (by decide) (by decide) rfl
            · obtain rfl := Option.some.inj hi
              have h0 : a'.tmps.getD 64 undef = _ := pre_of hpre 16 64 (by kernel_rfl) (by kernel_rfl)
              exact lt_value _ rfl rfl (pick_run 64 false _ _ _ _ rfl h0 rfl rfl) hS (by decide) (by decide) rfl
            · obtain rfl := Option.some.inj hi
              have h0 := pre_of hpre 20 68 (by kernel_rfl) (by kernel_rfl)
              exact lt_value _ rfl rfl (rfl) hS (by decide) (by decide) h0
            · obtain rfl := Option.some.inj hi
              have hgu : a'.tmps.getD 69 undef = _ := pre_of hpre 21 69 (by kernel_rfl) (by kernel_rfl)
              exact lt_skip rfl (unwanted_of 21 69 false rfl (by kernel_rfl) hgu) hS (by decide) (by decide) rfl
            · obtain rfl := Option.some.inj hi
              have hgu : a'.tmps.getD 69 undef = _ := pre_of hpre 21 69 (by kernel_rfl) (by kernel_rfl)
              exact lt_skip rfl (unwanted_of 21 69 false rfl (by kernel_rfl) hgu) hS (by decide) (by decide) rfl
            · obtain rfl := Option.some.inj hi
              have hgu : a'.tmps.getD 69 undef = _ := pre_of hpre 21 69 (by kernel_rfl) (by kernel_rfl)
              exact lt_skip rfl (unwanted_of 21 69 false rfl (by kernel_rfl) hgu) hS (by decide) (by decide) rfl
            · obtain rfl := Option.some.inj hi
              have hgu : a'.tmps.getD 72 undef = _ := pre_of hpre 24 72 (by kernel_rfl) (by kernel_rfl)
              exact lt_skip rfl (unwanted_undef 24 72 _ rfl (by kernel_rfl) hgu) hS (by decide) (by decide) rfl
            · obtain rfl := Option.some.inj hi
              have hgu : a'.tmps.getD 72 undef = _ := pre_of hpre 24 72 (by kernel_rfl) (by kernel_rfl)
              exact lt_skip rfl (unwanted_undef 24 72 _ rfl (by kernel_rfl) hgu) hS (by decide) (by decide) rfl
            · obtain rfl := Option.some.inj hi
              have hgu : a'.tmps.getD 72 undef = _ := pre_of hpre 24 72 (by kernel_rfl) (by kernel_rfl)
              exact lt_skip rfl (unwanted_undef 24 72 _ rfl (by kernel_rfl) hgu) hS (by decide) (by decide) rfl
            · obtain rfl := Option.some.inj hi
              have hgu : a'.tmps.getD 72 undef = _ := pre_of hpre 24 72 (by kernel_rfl) (by kernel_rfl)
              exact lt_skip rfl (unwanted_undef 24 72 _ rfl (by kernel_rfl) hgu) hS (by decide) (by decide) rfl
            · obtain rfl := Option.some.inj hi
              have hgu : a'.tmps.getD 72 undef = _ := pre_of hpre 24 72 (by kernel_rfl) (by kernel_rfl)
              exact lt_skip rfl (unwanted_undef 24 72 _ rfl (by kernel_rfl) hgu) hS (by decide) (by decide) rfl
            · obtain rfl := Option.some.inj hi
              have hgu : a'.tmps.getD 72 undef = _ := pre_of hpre 24 72 (by kernel_rfl) (by kernel_rfl)
              exact lt_skip rfl (unwanted_undef 24 72 _ rfl (by kernel_rfl) hgu) hS (by decide) (by decide) rfl
            · obtain rfl := Option.some.inj hi
              have hgu : a'.tmps.getD 72 undef = _ := pre_of hpre 24 72 (by kernel_rfl) (by kernel_rfl)
              exact lt_skip rfl (unwanted_undef 24 72 _ rfl (by kernel_rfl) hgu) hS (by decide) (by decide) rfl
            · obtain rfl := Option.some.inj hi
              have hgu : a'.tmps.getD 72 undef = _ := pre_of hpre 24 72 (by kernel_rfl) (by kernel_rfl)
              exact lt_skip rfl (unwanted_undef 24 72 _ rfl (by kernel_rfl) hgu) hS (by decide) (by decide) rfl
            · obtain rfl := Option.some.inj hi
              have hgu : a'.tmps.getD 72 undef = _ := pre_of hpre 24 72 (by kernel_rfl) (by kernel_rfl)
              exact lt_skip rfl (unwanted_undef 24 72 _ rfl (by kernel_rfl) hgu) hS (by decide) (by decide) rfl
            · obtain rfl := Option.some.inj hi
              have hgu : a'.tmps.getD 72 undef = _ := pre_of hpre 24 72 (by kernel_rfl) (by kernel_rfl)
              exact lt_skip rfl (unwanted_undef 24 72 _ rfl (by kernel_rfl) hgu) hS (by decide) (by decide) rfl
            · obtain rfl := Option.some.inj hi
              have hgu : a'.tmps.getD 69 undef = _ := pre_of hpre 21 69 (by kernel_rfl) (by kernel_rfl)
              exact lt_skip rfl (unwanted_of 21 69 false rfl (by kernel_rfl) hgu) hS (by decide) (by decide) rfl
            · obtain rfl := Option.some.inj hi
              have h0 : a'.tmps.getD 69 undef = _ := pre_of hpre 21 69 (by kernel_rfl) (by kernel_rfl)
              exact lt_value _ rfl rfl (pick_run 69 false _ _ _ _ rfl h0 rfl rfl) hS (by decide) (by decide) rfl
            · obtain rfl := Option.some.inj hi
              have h0 := pre_of hpre 36 84 (by kernel_rfl) (by kernel_rfl)
              exact lt_last _ rfl rfl rfl (been_of hfw 0 (by kernel_rfl)) (by decide) h0
          · intro a' w10 f inv hS hall hd
            have hk37 := hd 37 5 (by kernel_rfl)
            have ho : Only [] W9 w10 := inv.grow
            have hdf : a'.defers = [] := inv.defers
            have hsz : a'.tmps.size = 130 := inv.size
            have e := frame4_10 hsz (fun t ht => inv.old t (dstsIn_spec (ts := [5, 48, 49, 50, 51, 52, 53, 54, 55, 56, 57, 58, 59, 60, 61, 62, 63, 64, 65, 66, 67, 68, 69, 70, 71, 72, 73, 74, 75, 76, 77, 78, 79, 80, 81, 82, 83, 84]) (by kernel_rfl) t ht))
            clear inv hd hsz hall hS
            obtain ⟨tmps, defers⟩ := a'
            obtain rfl : defers = [] := hdf
            replace e : tmps = _ := e
            replace hk37 : tmps.getD 5 undef = (.bool false) := hk37
            generalize tmps.getD 5 undef = x5 at *
            generalize tmps.getD 48 undef = x48 at *
            generalize tmps.getD 49 undef = x49 at *
            generalize tmps.getD 50 undef = x50 at *
            generalize tmps.getD 51 undef = x51 at *
            generalize tmps.getD 52 undef = x52 at *
            generalize tmps.getD 53 undef = x53 at *
            generalize tmps.getD 54 undef = x54 at *
            generalize tmps.getD 55 undef = x55 at *
            generalize tmps.getD 56 undef = x56 at *
            generalize tmps.getD 57 undef = x57 at *
            generalize tmps.getD 58 undef = x58 at *
            generalize tmps.getD 59 undef = x59 at *
            generalize tmps.getD 60 undef = x60 at *
            generalize tmps.getD 61 undef = x61 at *
            generalize tmps.getD 62 undef = x62 at *
            generalize tmps.getD 63 undef = x63 at *
            generalize tmps.getD 64 undef = x64 at *
            generalize tmps.getD 65 undef = x65 at *
            generalize tmps.getD 66 undef = x66 at *
            generalize tmps.getD 67 undef = x67 at *
            generalize tmps.getD 68 undef = x68 at *
            generalize tmps.getD 69 undef = x69 at *
            generalize tmps.getD 70 undef = x70 at *
            generalize tmps.getD 71 undef = x71 at *
            generalize tmps.getD 72 undef = x72 at *
            generalize tmps.getD 73 undef = x73 at *
            generalize tmps.getD 74 undef = x74 at *
            generalize tmps.getD 75 undef = x75 at *
            generalize tmps.getD 76 undef = x76 at *
            generalize tmps.getD 77 undef = x77 at *
            generalize tmps.getD 78 undef = x78 at *
            generalize tmps.getD 79 undef = x79 at *
            generalize tmps.getD 80 undef = x80 at *
            generalize tmps.getD 81 undef = x81 at *
            generalize tmps.getD 82 undef = x82 at *
            generalize tmps.getD 83 undef = x83 at *
            generalize tmps.getD 84 undef = x84 at *
            simp only [Array.getD_eq_getD_getElem?, List.getElem?_toArray, List.getElem?_cons_succ, List.getElem?_cons_zero, Option.getD_some] at e
            subst e
            subst hk37
            have ekk : (k : Int) = kk := HKK.out
            subst ekk
            have S10 : Hid (B2 w w10 #[.int .i64 pf, .int .i64 pe, .slice (some ⟨bm, om, none⟩) ml mc] #[.int .i64 a1, .int .i64 a2, .int .i64 a3, .slice np l4 nc, .slice vp l5 vc, .int .i64 a6, .int .i64 a7, .int .i64 a8, .slice wq l9 wcp]) := S9.out.step (ho.below (Nat.le_refl _) (by simp))
            have c8a := (HM.out w10 ho).1
            have c8b := (HM.out w10 ho).2.1
            obtain ⟨d0, d1, d2⟩ := S10.out.pcells
            clear HM S9 ho
            cases b with
            | true =>
              have HFK : Hid (fk pf ms (k + 1) = true) := by show fk pf ms (k + 1) = true; rw [fk, HAB.out.2]; rfl
              clear HAB
              go_wp2_with fail
              refine ⟨⟨k + 1, false, true, by omega, rfl, rfl, by simp, S10, ⟨HWK.out, HFK.out⟩⟩, ?_⟩
              simp only [intOf]
              omega
            | false =>
              by_cases hwf : who = pf
              · have HFK : Hid (fk pf ms (k + 1) = (ri == 7)) := by show fk pf ms (k + 1) = _; rw [fk, HAB.out.2, HWH.out, HRI.out, Bool.false_or, hwf]; simp only [true_and]; rfl
                have hE : (who == pf) = true := by simpa using hwf
                clear HAB hwf
                go_wp2_with fail
                refine ⟨⟨k + 1, false, (ri == 7), by omega, rfl, rfl, by simp, S10, ⟨HWK.out, HFK.out⟩⟩, ?_⟩
                simp only [intOf]
                omega
              · have HFK : Hid (fk pf ms (k + 1) = false) := by show fk pf ms (k + 1) = _; rw [fk, HAB.out.2, HWH.out, HRI.out, Bool.false_or]; exact decide_eq_false (fun h => hwf h.1)
                have hE : (who == pf) = false := by simpa using hwf
                clear HAB
                go_wp2_with fail
                refine ⟨⟨k + 1, false, false, by omega, rfl, rfl, by simp, S10, ⟨HWK.out, HFK.out⟩⟩, ?_⟩
                simp only [intOf]
                omega
        by_cases c3 : 1 ≤ ri
        rotate_left
        · have H3 : Hid (decide (1 ≤ ri) = false) := decide_eq_false c3
          have HWK : Hid (wk pf pe ms (k + 1) = false) := by show wk pf pe ms (k + 1) = _; rw [wk, HAB.out.1, HWH.out, HRI.out]; rw [Bool.true_and]; exact decide_eq_false (by omega)
          have H1 : Hid (decide (1 ≤ who) = true) := decide_eq_true c1
          have H2 : Hid (decide (who ≤ 16) = true) := decide_eq_true c2
          clear HBK c1 c2 c3
          have HM : Hid (∀ w', Only [] W9 w' → w'.cell? ⟨b8, 0, none⟩ = some (.int .i64 who) ∧ w'.cell? ⟨b8, 1, none⟩ = some (.int .i64 ri) ∧ w'.cell? ⟨w.heap.size, 2, none⟩ = some (.slice (some ⟨bm, om, none⟩) ml mc) ∧ (True)) := fun w' ho => by
            have e := (ho.block _ (Array.getElem?_eq_some_iff.1 R9.out).1 (by simp)).trans R9.out
            have s := (S9.out.step (ho.below (Nat.le_refl _) (by simp))).pcells
            exact ⟨by rw [cell_of_row _ _ _ _ _ _ e]; rfl, by rw [cell_of_row _ _ _ _ _ _ e]; rfl, s.2.2, trivial⟩
          clear R9 HMM
          obtain ⟨kk, HKK⟩ : ∃ kk : Int, Hid ((k : Int) = kk) := ⟨_, rfl⟩
          rw [HKK.out] at k1 k0 ⊢
          refine wp_region_sa (pf3 b8 who ri) (fun u u' => Only [] u u') (LateS 37 5 (.bool true)) (by kernel_rfl) (only_drew _ _) (only_trans _) (pf3_kept b8 who ri) (by kernel_rfl) (LateS.start rfl) ?_ ?_
          · intro i o a' w' f hi inv hS hfi hfw hpre
            have ho : Only [] W9 w' := inv.grow
            have hlt : i < 38 := (Array.getElem?_eq_some_iff.1 hi).1
            obtain rfl|rfl|rfl|rfl|rfl|rfl|rfl|rfl|rfl|rfl|rfl|rfl|rfl|rfl|rfl|rfl|rfl|rfl|rfl|rfl|rfl|rfl|rfl|rfl|rfl|rfl|rfl|rfl|rfl|rfl|rfl|rfl|rfl|rfl|rfl|rfl|rfl|rfl : i = 0 ∨ i = 1 ∨ i = 2 ∨ i = 3 ∨ i = 4 ∨ i = 5 ∨ i = 6 ∨ i = 7 ∨ i = 8 ∨ i = 9 ∨ i = 10 ∨ i = 11 ∨ i = 12 ∨ i = 13 ∨ i = 14 ∨ i = 15 ∨ i = 16 ∨ i = 17 ∨ i = 18 ∨ i = 19 ∨ i = 20 ∨ i = 21 ∨ i = 22 ∨ i = 23 ∨ i = 24 ∨ i = 25 ∨ i = 26 ∨ i = 27 ∨ i = 28 ∨ i = 29 ∨ i = 30 ∨ i = 31 ∨ i = 32 ∨ i = 33 ∨ i = 34 ∨ i = 35 ∨ i = 36 ∨ i = 37 := by omega
            · obtain rfl := Option.some.inj hi
              exact lt_value _ rfl rfl rfl hS (by decide) (by decide) (hS.here hfi)
            · obtain rfl := Option.some.inj hi
              have h0 := pre_of hpre 0 48 (by kernel_rfl) (by kernel_rfl)
              exact lt_value _ rfl rfl (rfl) hS (by decide) (by decide) h0
            · obtain rfl := Option.some.inj hi
              have hgu : a'.tmps.getD 49 undef = _ := pre_of hpre 1 49 (by kernel_rfl) (by kernel_rfl)
              have h0 : a'.tmps.getD 8 undef = (.pointer (some ⟨b8, 0, none⟩)) := by rw [inv.old 8 (notDst_spec (by kernel_rfl))]; rfl
              exact lt_value _ rfl (wanted_of 1 49 true rfl (by kernel_rfl) hgu) (fa_run 50 0 8 b8 rfl h0 (fa50_0 b8)) hS (by decide) (by decide) rfl
            · obtain rfl := Option.some.inj hi
              have hgu : a'.tmps.getD 49 undef = _ := pre_of hpre 1 49 (by kernel_rfl) (by kernel_rfl)
              have h0 : a'.tmps.getD 50 undef = _ := pre_of hpre 2 50 (by kernel_rfl) (by kernel_rfl)
              exact lt_value _ rfl (wanted_of 1 49 true rfl (by kernel_rfl) hgu) (load_run 3 50 b8 (0) _ rfl h0 (ld3 ((HM.out w' ho).1))) hS (by decide) (by decide) rfl
            · obtain rfl := Option.some.inj hi
              have hgu : a'.tmps.getD 49 undef = _ := pre_of hpre 1 49 (by kernel_rfl) (by kernel_rfl)
              have h0 : a'.tmps.getD 51 undef = _ := pre_of hpre 3 51 (by kernel_rfl) (by kernel_rfl)
              exact lt_value _ rfl (wanted_of 1 49 true rfl (by kernel_rfl) hgu) (geqK_run 51 _ _ rfl h0) hS (by decide) (by decide) (by show Value.bool _ = _; rw [H1.out])
            · obtain rfl := Option.some.inj hi
              have h0 : a'.tmps.getD 49 undef = _ := pre_of hpre 1 49 (by kernel_rfl) (by kernel_rfl)
              have h1 : a'.tmps.getD 52 undef = _ := pre_of hpre 4 52 (by kernel_rfl) (by kernel_rfl)
              exact lt_value _ rfl rfl (pick_run 49 true _ _ _ _ rfl h0 h1 rfl) hS (by decide) (by decide) rfl
            · obtain rfl := Option.some.inj hi
              have h0 := pre_of hpre 5 53 (by kernel_rfl) (by kernel_rfl)
              exact lt_value _ rfl rfl (rfl) hS (by decide) (by decide) h0
            · obtain rfl := Option.some.inj hi
              have hgu : a'.tmps.getD 54 undef = _ := pre_of hpre 6 54 (by kernel_rfl) (by kernel_rfl)
              have h0 : a'.tmps.getD 8 undef = (.pointer (some ⟨b8, 0, none⟩)) := by rw [inv.old 8 (notDst_spec (by kernel_rfl))]; rfl
              exact lt_value _ rfl (wanted_of 6 54 true rfl (by kernel_rfl) hgu) (fa_run 50 0 8 b8 rfl h0 (fa50_0 b8)) hS (by decide) (by decide) rfl
            · obtain rfl := Option.some.inj hi
              have hgu : a'.tmps.getD 54 undef = _ := pre_of hpre 6 54 (by kernel_rfl) (by kernel_rfl)
              have h0 : a'.tmps.getD 55 undef = _ := pre_of hpre 7 55 (by kernel_rfl) (by kernel_rfl)
              exact lt_value _ rfl (wanted_of 6 54 true rfl (by kernel_rfl) hgu) (load_run 3 55 b8 (0) _ rfl h0 (ld3 ((HM.out w' ho).1))) hS (by decide) (by decide) rfl
            · obtain rfl := Option.some.inj hi
              have hgu : a'.tmps.getD 54 undef = _ := pre_of hpre 6 54 (by kernel_rfl) (by kernel_rfl)
              have h0 : a'.tmps.getD 56 undef = _ := pre_of hpre 8 56 (by kernel_rfl) (by kernel_rfl)
              exact lt_value _ rfl (wanted_of 6 54 true rfl (by kernel_rfl) hgu) (leqK_run 56 _ _ rfl h0) hS (by decide) (by decide) (by show Value.bool _ = _; rw [H2.out])
            · obtain rfl := Option.some.inj hi
              have h0 : a'.tmps.getD 54 undef = _ := pre_of hpre 6 54 (by kernel_rfl) (by kernel_rfl)
              have h1 : a'.tmps.getD 57 undef = _ := pre_of hpre 9 57 (by kernel_rfl) (by kernel_rfl)
              exact lt_value _ rfl rfl (pick_run 54 true _ _ _ _ rfl h0 h1 rfl) hS (by decide) (by decide) rfl
            · obtain rfl := Option.some.inj hi
              have h0 := pre_of hpre 10 58 (by kernel_rfl) (by kernel_rfl)
              exact lt_value _ rfl rfl (rfl) hS (by decide) (by decide) h0
            · obtain rfl := Option.some.inj hi
              have hgu : a'.tmps.getD 59 undef = _ := pre_of hpre 11 59 (by kernel_rfl) (by kernel_rfl)
              have h0 : a'.tmps.getD 8 undef = (.pointer (some ⟨b8, 0, none⟩)) := by rw [inv.old 8 (notDst_spec (by kernel_rfl))]; rfl
              exact lt_value _ rfl (wanted_of 11 59 true rfl (by kernel_rfl) hgu) (fa_run 50 1 8 b8 rfl h0 (fa50_1 b8)) hS (by decide) (by decide) rfl
            · obtain rfl := Option.some.inj hi
              have hgu : a'.tmps.getD 59 undef = _ := pre_of hpre 11 59 (by kernel_rfl) (by kernel_rfl)
              have h0 : a'.tmps.getD 60 undef = _ := pre_of hpre 12 60 (by kernel_rfl) (by kernel_rfl)
              exact lt_value _ rfl (wanted_of 11 59 true rfl (by kernel_rfl) hgu) (load_run 3 60 b8 (1) _ rfl h0 (ld3 ((HM.out w' ho).2.1))) hS (by decide) (by decide) rfl
            · obtain rfl := Option.some.inj hi
              have hgu : a'.tmps.getD 59 undef = _ := pre_of hpre 11 59 (by kernel_rfl) (by kernel_rfl)
              have h0 : a'.tmps.getD 61 undef = _ := pre_of hpre 13 61 (by kernel_rfl) (by kernel_rfl)
              exact lt_value _ rfl (wanted_of 11 59 true rfl (by kernel_rfl) hgu) (geqK_run 61 _ _ rfl h0) hS (by decide) (by decide) (by show Value.bool _ = _; rw [H3.out])
            · obtain rfl := Option.some.inj hi
              have h0 : a'.tmps.getD 59 undef = _ := pre_of hpre 11 59 (by kernel_rfl) (by kernel_rfl)
              have h1 : a'.tmps.getD 62 undef = _ := pre_of hpre 14 62 (by kernel_rfl) (by kernel_rfl)
              exact lt_value _ rfl rfl (pick_run 59 true _ _ _ _ rfl h0 h1 rfl) hS (by decide) (by decide) rfl
            · obtain rfl := Option.some.inj hi
              have h0 := pre_of hpre 15 63 (by kernel_rfl) (by kernel_rfl)
              exact lt_value _ rfl rfl (rfl) hS (by decide) (by decide) h0
            · obtain rfl := Option.some.inj hi
              have hgu : a'.tmps.getD 64 undef = _ := pre_of hpre 16 64 (by kernel_rfl) (by kernel_rfl)
              exact lt_skip rfl (unwanted_of 16 64 false rfl (by kernel_rfl) hgu) hS (by decide) (by decide) rfl
            · obtain rfl := Option.some.inj hi
              have hgu : a'.tmps.getD 64 undef = _ := pre_of hpre 16 64 (by kernel_rfl) (by kernel_rfl)
              exact lt_skip rfl (unwanted_of 16 64 false rfl (by kernel_rfl) hgu) hS (by decide) (by decide) rfl
            · obtain rfl := Option.some.inj hi
              have hgu : a'.tmps.getD 64 undef = _ := pre_of hpre 16 64 (by kernel_rfl) (by kernel_rfl)
              exact lt_skip rfl (unwanted_of 16 64 false rfl (by kernel_rfl) hgu) hS (by decide) (by decide) rfl
            · obtain rfl := Option.some.inj hi
              have h0 : a'.tmps.getD 64 undef = _ := pre_of hpre 16 64 (by kernel_rfl) (by kernel_rfl)
              exact lt_value _ rfl rfl (pick_run 64 false _ _ _ _ rfl h0 rfl rfl) hS (by decide) (by decide) rfl
            · obtain rfl := Option.some.inj hi
              have h0 := pre_of hpre 20 68 (by kernel_rfl) (by kernel_rfl)
              exact lt_value _ rfl rfl (rfl) hS (by decide) (by decide) h0
            · obtain rfl := Option.some.inj hi
              have hgu : a'.tmps.getD 69 undef = _ := pre_of hpre 21 69 (by kernel_rfl) (by kernel_rfl)
              exact lt_skip rfl (unwanted_of 21 69 false rfl (by kernel_rfl) hgu) hS (by decide) (by decide) rfl
            · obtain rfl := Option.some.inj hi
              have hgu : a'.tmps.getD 69 undef = _ := pre_of hpre 21 69 (by kernel_rfl) (by kernel_rfl)
              exact lt_skip rfl (unwanted_of 21 69 false rfl (by kernel_rfl) hgu) hS (by decide) (by decide) rfl
            · obtain rfl := Option.some.inj hi
              have hgu : a'.tmps.getD 69 undef = _ := pre_of hpre 21 69 (by kernel_rfl) (by kernel_rfl)
              exact lt_skip rfl (unwanted_of 21 69 false rfl (by kernel_rfl) hgu) hS (by decide) (by decide) rfl
            · obtain rfl := Option.some.inj hi
              have hgu : a'.tmps.getD 72 undef = _ := pre_of hpre 24 72 (by kernel_rfl) (by kernel_rfl)
              exact lt_skip rfl (unwanted_undef 24 72 _ rfl (by kernel_rfl) hgu) hS (by decide) (by decide) rfl
            · obtain rfl := Option.some.inj hi
              have hgu : a'.tmps.getD 72 undef = _ := pre_of hpre 24 72 (by kernel_rfl) (by kernel_rfl)
              exact lt_skip rfl (unwanted_undef 24 72 _ rfl (by kernel_rfl) hgu) hS (by decide) (by decide) rfl
            · obtain rfl := Option.some.inj hi
              have hgu : a'.tmps.getD 72 undef = _ := pre_of hpre 24 72 (by kernel_rfl) (by kernel_rfl)
              exact lt_skip rfl (unwanted_undef 24 72 _ rfl (by kernel_rfl) hgu) hS (by decide) (by decide) rfl
            · obtain rfl := Option.some.inj hi
              have hgu : a'.tmps.getD 72 undef = _ := pre_of hpre 24 72 (by kernel_rfl) (by kernel_rfl)
              exact lt_skip rfl (unwanted_undef 24 72 _ rfl (by kernel_rfl) hgu) hS (by decide) (by decide) rfl
            · obtain rfl := Option.some.inj hi
              have hgu : a'.tmps.getD 72 undef = _ := pre_of hpre 24 72 (by kernel_rfl) (by kernel_rfl)
              exact lt_skip rfl (unwanted_undef 24 72 _ rfl (by kernel_rfl) hgu) hS (by decide) (by decide) rfl
            · obtain rfl := Option.some.inj hi
              have hgu : a'.tmps.getD 72 undef = _ := pre_of hpre 24 72 (by kernel_rfl) (by kernel_rfl)
              exact lt_skip rfl (unwanted_undef 24 72 _ rfl (by kernel_rfl) hgu) hS (by decide) (by decide) rfl
            · obtain rfl := Option.some.inj hi
              have hgu : a'.tmps.getD 72 undef = _ := pre_of hpre 24 72 (by kernel_rfl) (by kernel_rfl)
              exact lt_skip rfl (unwanted_undef 24 72 _ rfl (by kernel_rfl) hgu) hS (by decide) (by decide) rfl
            · obtain rfl := Option.some.inj hi
              have hgu : a'.tmps.getD 72 undef = _ := pre_of hpre 24 72 (by kernel_rfl) (by kernel_rfl)
              exact lt_skip rfl (unwanted_undef 24 72 _ rfl (by kernel_rfl) hgu) hS (by decide) (by decide) rfl
            · obtain rfl := Option.some.inj hi
              have hgu : a'.tmps.getD 72 undef = _ := pre_of hpre 24 72 (by kernel_rfl) (by kernel_rfl)
              exact lt_skip rfl (unwanted_undef 24 72 _ rfl (by kernel_rfl) hgu) hS (by decide) (by decide) rfl
            · obtain rfl := Option.some.inj hi
              have hgu : a'.tmps.getD 72 undef = _ := pre_of hpre 24 72 (by kernel_rfl) (by kernel_rfl)
              exact lt_skip rfl (unwanted_undef 24 72 _ rfl (by kernel_rfl) hgu) hS (by decide) (by decide) rfl
            · obtain rfl := Option.some.inj hi
              have hgu : a'.tmps.getD 69 undef = _ := pre_of hpre 21 69 (by kernel_rfl) (by kernel_rfl)
              exact lt_skip rfl (unwanted_of 21 69 false rfl (by kernel_rfl) hgu) hS (by decide) (by decide) rfl
            · obtain rfl := Option.some.inj hi
              have h0 : a'.tmps.getD 69 undef = _ := pre_of hpre 21 69 (by kernel_rfl) (by kernel_rfl)
              exact lt_value _ rfl rfl (pick_run 69 false _ _ _ _ rfl h0 rfl rfl) hS (by decide) (by decide) rfl
            · obtain rfl := Option.some.inj hi
              have h0 := pre_of hpre 36 84 (by kernel_rfl) (by kernel_rfl)
              exact lt_last _ rfl rfl rfl (been_of hfw 0 (by kernel_rfl)) (by decide) h0
          · intro a' w10 f inv hS hall hd
            have hk37 := hd 37 5 (by kernel_rfl)
            have ho : Only [] W9 w10 := inv.grow
            have hdf : a'.defers = [] := inv.defers
            have hsz : a'.tmps.size = 130 := inv.size
            have e := frame4_10 hsz (fun t ht => inv.old t (dstsIn_spec (ts := [5, 48, 49, 50, 51, 52, 53, 54, 55, 56, 57, 58, 59, 60, 61, 62, 63, 64, 65, 66, 67, 68, 69, 70, 71, 72, 73, 74, 75, 76, 77, 78, 79, 80, 81, 82, 83, 84]) (by kernel_rfl) t ht))
            clear inv hd hsz hall hS
            obtain ⟨tmps, defers⟩ := a'
            obtain rfl : defers = [] := hdf
            replace e : tmps = _ := e
            replace hk37 : tmps.getD 5 undef = (.bool false) := hk37
            generalize tmps.getD 5 undef = x5 at *
            generalize tmps.getD 48 undef = x48 at *
            generalize tmps.getD 49 undef = x49 at *
            generalize tmps.getD 50 undef = x50 at *
            generalize tmps.getD 51 undef = x51 at *
            generalize tmps.getD 52 undef = x52 at *
            generalize tmps.getD 53 undef = x53 at *
            generalize tmps.getD 54 undef = x54 at *
            generalize tmps.getD 55 undef = x55 at *
            generalize tmps.getD 56 undef = x56 at *
            generalize tmps.getD 57 undef = x57 at *
            generalize tmps.getD 58 undef = x58 at *
            generalize tmps.getD 59 undef = x59 at *
            generalize tmps.getD 60 undef = x60 at *
            generalize tmps.getD 61 undef = x61 at *
            generalize tmps.getD 62 undef = x62 at *
            generalize tmps.getD 63 undef = x63 at *
            generalize tmps.getD 64 undef = x64 at *
            generalize tmps.getD 65 undef = x65 at *
            generalize tmps.getD 66 undef = x66 at *
            generalize tmps.getD 67 undef = x67 at *
            generalize tmps.getD 68 undef = x68 at *
            generalize tmps.getD 69 undef = x69 at *
            generalize tmps.getD 70 undef = x70 at *
            generalize tmps.getD 71 undef = x71 at *
            generalize tmps.getD 72 undef = x72 at *
            generalize tmps.getD 73 undef = x73 at *
            generalize tmps.getD 74 undef = x74 at *
            generalize tmps.getD 75 undef = x75 at *
            generalize tmps.getD 76 undef = x76 at *
            generalize tmps.getD 77 undef = x77 at *
            generalize tmps.getD 78 undef = x78 at *
            generalize tmps.getD 79 undef = x79 at *
            generalize tmps.getD 80 undef = x80 at *
            generalize tmps.getD 81 undef = x81 at *
            generalize tmps.getD 82 undef = x82 at *
            generalize tmps.getD 83 undef = x83 at *
            generalize tmps.getD 84 undef = x84 at *
            simp only [Array.getD_eq_getD_getElem?, List.getElem?_toArray, List.getElem?_cons_succ, List.getElem?_cons_zero, Option.getD_some] at e
            subst e
            subst hk37
            have ekk : (k : Int) = kk := HKK.out
            subst ekk
            have S10 : Hid (B2 w w10 #[.int .i64 pf, .int .i64 pe, .slice (some ⟨bm, om, none⟩) ml mc] #[.int .i64 a1, .int .i64 a2, .int .i64 a3, .slice np l4 nc, .slice vp l5 vc, .int .i64 a6, .int .i64 a7, .int .i64 a8, .slice wq l9 wcp]) := S9.out.step (ho.below (Nat.le_refl _) (by simp))
            have c8a := (HM.out w10 ho).1
            have c8b := (HM.out w10 ho).2.1
            obtain ⟨d0, d1, d2⟩ := S10.out.pcells
            clear HM S9 ho
            cases b with
            | true =>
              have HFK : Hid (fk pf ms (k + 1) = true) := by show fk pf ms (k + 1) = true; rw [fk, HAB.out.2]; rfl
              clear HAB
              go_wp2_with fail
              refine ⟨⟨k + 1, false, true, by omega, rfl, rfl, by simp, S10, ⟨HWK.out, HFK.out⟩⟩, ?_⟩
              simp only [intOf]
              omega
            | false =>
              by_cases hwf : who = pf
              · have HFK : Hid (fk pf ms (k + 1) = (ri == 7)) := by show fk pf ms (k + 1) = _; rw [fk, HAB.out.2, HWH.out, HRI.out, Bool.false_or, hwf]; simp only [true_and]; rfl
                have hE : (who == pf) = true := by simpa using hwf
                clear HAB hwf
                go_wp2_with fail
                refine ⟨⟨k + 1, false, (ri == 7), by omega, rfl, rfl, by simp, S10, ⟨HWK.out, HFK.out⟩⟩, ?_⟩
                simp only [intOf]
                omega
              · have HFK : Hid (fk pf ms (k + 1) = false) := by show fk pf ms (k + 1) = _; rw [fk, HAB.out.2, HWH.out, HRI.out, Bool.false_or]; exact decide_eq_false (fun h => hwf h.1)
                have hE : (who == pf) = false := by simpa using hwf
                clear HAB
                go_wp2_with fail
                refine ⟨⟨k + 1, false, false, by omega, rfl, rfl, by simp, S10, ⟨HWK.out, HFK.out⟩⟩, ?_⟩
                simp only [intOf]
                omega
        by_cases c4 : ri ≤ 7
        rotate_left
        · have H4 : Hid (decide (ri ≤ 7) = false) := decide_eq_false c4
          have HWK : Hid (wk pf pe ms (k + 1) = false) := by show wk pf pe ms (k + 1) = _; rw [wk, HAB.out.1, HWH.out, HRI.out]; rw [Bool.true_and]; exact decide_eq_false (by omega)
          have H1 : Hid (decide (1 ≤ who) = true) := decide_eq_true c1
          have H2 : Hid (decide (who ≤ 16) = true) := decide_eq_true c2
          have H3 : Hid (decide (1 ≤ ri) = true) := decide_eq_true c3
          clear HBK c1 c2 c3 c4
          have HM : Hid (∀ w', Only [] W9 w' → w'.cell? ⟨b8, 0, none⟩ = some (.int .i64 who) ∧ w'.cell? ⟨b8, 1, none⟩ = some (.int .i64 ri) ∧ w'.cell? ⟨w.heap.size, 2, none⟩ = some (.slice (some ⟨bm, om, none⟩) ml mc) ∧ (True)) := fun w' ho => by
            have e := (ho.block _ (Array.getElem?_eq_some_iff.1 R9.out).1 (by simp)).trans R9.out
            have s := (S9.out.step (ho.below (Nat.le_refl _) (by simp))).pcells
            exact ⟨by rw [cell_of_row _ _ _ _ _ _ e]; rfl, by rw [cell_of_row _ _ _ _ _ _ e]; rfl, s.2.2, trivial⟩
          clear R9 HMM
          obtain ⟨kk, HKK⟩ : ∃ kk : Int, Hid ((k : Int) = kk) := ⟨_, rfl⟩
          rw [HKK.out] at k1 k0 ⊢
          refine wp_region_sa (pf4 b8 who ri) (fun u u' => Only [] u u') (LateS 37 5 (.bool true)) (by kernel_rfl) (only_drew _ _) (only_trans _) (pf4_kept b8 who ri) (by kernel_rfl) (LateS.start rfl) ?_ ?_
          · intro i o a' w' f hi inv hS hfi hfw hpre
            have ho : Only [] W9 w' := inv.grow
            have hlt : i < 38 := (Array.getElem?_eq_some_iff.1 hi).1
            obtain rfl|rfl|rfl|rfl|rfl|rfl|rfl|rfl|rfl|rfl|rfl|rfl|rfl|rfl|rfl|rfl|rfl|rfl|rfl|rfl|rfl|rfl|rfl|rfl|rfl|rfl|rfl|rfl|rfl|rfl|rfl|rfl|rfl|rfl|rfl|rfl|rfl|rfl : i = 0 ∨ i = 1 ∨ i = 2 ∨ i = 3 ∨ i = 4 ∨ i = 5 ∨ i = 6 ∨ i = 7 ∨ i = 8 ∨ i = 9 ∨ i = 10 ∨ i = 11 ∨ i = 12 ∨ i = 13 ∨ i = 14 ∨ i = 15 ∨ i = 16 ∨ i = 17 ∨ i = 18 ∨ i = 19 ∨ i = 20 ∨ i = 21 ∨ i = 22 ∨ i = 23 ∨ i = 24 ∨ i = 25 ∨ i = 26 ∨ i = 27 ∨ i = 28 ∨ i = 29 ∨ i = 30 ∨ i = 31 ∨ i = 32 ∨ i = 33 ∨ i = 34 ∨ i = 35 ∨ i = 36 ∨ i = 37 := by omega
            · obtain rfl := Option.some.inj hi
              exact lt_value _ rfl rfl rfl hS (by decide) (by decide) (hS.here hfi)
            · obtain rfl := Option.some.inj hi
              have h0 := pre_of hpre 0 48 (by kernel_rfl) (by kernel_rfl)
              exact lt_value _ rfl rfl (rfl) hS (by decide) (by decide) h0
            · obtain rfl := Option.some.inj hi
              have hgu : a'.tmps.getD 49 undef = _ := pre_of hpre 1 49 (by kernel_rfl) (by kernel_rfl)
              have h0 : a'.tmps.getD 8 undef = (.pointer (some ⟨b8, 0, none⟩)) := by rw [inv.old 8 (notDst_spec (by kernel_rfl))]; rfl
              exact lt_value _ rfl (wanted_of 1 49 true rfl (by kernel_rfl) hgu) (fa_run 50 0 8 b8 rfl h0 (fa50_0 b8)) hS (by decide) (by decide) rfl
            · obtain rfl := Option.some.inj hi
              have hgu : a'.tmps.getD 49 undef = _ := pre_of hpre 1 49 (by kernel_rfl) (by kernel_rfl)
              have h0 : a'.tmps.getD 50 undef = _ := pre_of hpre 2 50 (by kernel_rfl) (by kernel_rfl)
              exact lt_value _ rfl (wanted_of 1 49 true rfl (by kernel_rfl) hgu) (load_run 3 50 b8 (0) _ rfl h0 (ld3 ((HM.out w' ho).1))) hS (by decide) (by decide) rfl
            · obtain rfl := Option.some.inj hi
              have hgu : a'.tmps.getD 49 undef = _ := pre_of hpre 1 49 (by kernel_rfl) (by kernel_rfl)
              have h0 : a'.tmps.getD 51 undef = _ := pre_of hpre 3 51 (by kernel_rfl) (by kernel_rfl)
              exact lt_value _ rfl (wanted_of 1 49 true rfl (by kernel_rfl) hgu) (geqK_run 51 _ _ rfl h0) hS (by decide) (by decide) (by show Value.bool _ = _; rw [H1.out])
            · obtain rfl := Option.some.inj hi
              have h0 : a'.tmps.getD 49 undef = _ := pre_of hpre 1 49 (by kernel_rfl) (by kernel_rfl)
              have h1 : a'.tmps.getD 52 undef = _ := pre_of hpre 4 52 (by kernel_rfl) (by kernel_rfl)
              exact lt_value _ rfl rfl (pick_run 49 true _ _ _ _ rfl h0 h1 rfl) hS (by decide) (by decide) rfl
            · obtain rfl := Option.some.inj hi
              have h0 := pre_of hpre 5 53 (by kernel_rfl) (by kernel_rfl)
              exact lt_value _ rfl rfl (rfl) hS (by decide) (by decide) h0
            · obtain rfl := Option.some.inj hi
              have hgu : a'.tmps.getD 54 undef = _ := pre_of hpre 6 54 (by kernel_rfl) (by kernel_rfl)
              have h0 : a'.tmps.getD 8 undef = (.pointer (some ⟨b8, 0, none⟩)) := by rw [inv.old 8 (notDst_spec (by kernel_rfl))]; rfl
              exact lt_value _ rfl (wanted_of 6 54 true rfl (by kernel_rfl) hgu) (fa_run 50 0 8 b8 rfl h0 (fa50_0 b8)) hS (by decide) (by decide) rfl
            · obtain rfl := Option.some.inj hi
              have hgu : a'.tmps.getD 54 undef = _ := pre_of hpre 6 54 (by kernel_rfl) (by kernel_rfl)
              have h0 : a'.tmps.getD 55 undef = _ := pre_of hpre 7 55 (by kernel_rfl) (by kernel_rfl)
              exact lt_value _ rfl (wanted_of 6 54 true rfl (by kernel_rfl) hgu) (load_run 3 55 b8 (0) _ rfl h0 (ld3 ((HM.out w' ho).1))) hS (by decide) (by decide) rfl
            · obtain rfl := Option.some.inj hi
              have hgu : a'.tmps.getD 54 undef = _ := pre_of hpre 6 54 (by kernel_rfl) (by kernel_rfl)
              have h0 : a'.tmps.getD 56 undef = _ := pre_of hpre 8 56 (by kernel_rfl) (by kernel_rfl)
              exact lt_value _ rfl (wanted_of 6 54 true rfl (by kernel_rfl) hgu) (leqK_run 56 _ _ rfl h0) hS (by decide) (by decide) (by show Value.bool _ = _; rw [H2.out])
            · obtain rfl := Option.some.inj hi
              have h0 : a'.tmps.getD 54 undef = _ := pre_of hpre 6 54 (by kernel_rfl) (by kernel_rfl)
              have h1 : a'.tmps.getD 57 undef = _ := pre_of hpre 9 57 (by kernel_rfl) (by kernel_rfl)
              exact lt_value _ rfl rfl (pick_run 54 true _ _ _ _ rfl h0 h1 rfl) hS (by decide) (by decide) rfl
            · obtain rfl := Option.some.inj hi
              have h0 := pre_of hpre 10 58 (by kernel_rfl) (by kernel_rfl)
              exact lt_value _ rfl rfl (rfl) hS (by decide) (by decide) h0
            · obtain rfl := Option.some.inj hi
              have hgu : a'.tmps.getD 59 undef = _ := pre_of hpre 11 59 (by kernel_rfl) (by kernel_rfl)
              have h0 : a'.tmps.getD 8 undef = (.pointer (some ⟨b8, 0, none⟩)) := by rw [inv.old 8 (notDst_spec (by kernel_rfl))]; rfl
              exact lt_value _ rfl (wanted_of 11 59 true rfl (by kernel_rfl) hgu) (fa_run 50 1 8 b8 rfl h0 (fa50_1 b8)) hS (by decide) (by decide) rfl
            · obtain rfl := Option.some.inj hi
              have hgu : a'.tmps.getD 59 undef = _ := pre_of hpre 11 59 (by kernel_rfl) (by kernel_rfl)
              have h0 : a'.tmps.getD 60 undef = _ := pre_of hpre 12 60 (by kernel_rfl) (by kernel_rfl)
              exact lt_value _ rfl (wanted_of 11 59 true rfl (by kernel_rfl) hgu) (load_run 3 60 b8 (1) _ rfl h0 (ld3 ((HM.out w' ho).2.1))) hS (by decide) (by decide) rfl
            · obtain rfl := Option.some.inj hi
              have hgu : a'.tmps.getD 59 undef = _ := pre_of hpre 11 59 (by kernel_rfl) (by kernel_rfl)
              have h0 : a'.tmps.getD 61 undef = _ := pre_of hpre 13 61 (by kernel_rfl) (by kernel_rfl)
              exact lt_value _ rfl (wanted_of 11 59 true rfl (by kernel_rfl) hgu) (geqK_run 61 _ _ rfl h0) hS (by decide) (by decide) (by show Value.bool _ = _; rw [H3.out])
            · obtain rfl := Option.some.inj hi
              have h0 : a'.tmps.getD 59 undef = _ := pre_of hpre 11 59 (by kernel_rfl) (by kernel_rfl)
              have h1 : a'.tmps.getD 62 undef = _ := pre_of hpre 14 62 (by kernel_rfl) (by kernel_rfl)
              exact lt_value _ rfl rfl (pick_run 59 true _ _ _ _ rfl h0 h1 rfl) hS (by decide) (by decide) rfl
            · obtain rfl := Option.some.inj hi
              have h0 := pre_of hpre 15 63 (by kernel_rfl) (by kernel_rfl)
              exact lt_value _ rfl rfl (rfl) hS (by decide) (by decide) h0
            · obtain rfl := Option.some.inj hi
              have hgu : a'.tmps.getD 64 undef = _ := pre_of hpre 16 64 (by kernel_rfl) (by kernel_rfl)
              have h0 : a'.tmps.getD 8 undef = (.pointer (some ⟨b8, 0, none⟩)) := by rw [inv.old 8 (notDst_spec (by kernel_rfl))]; rfl
              exact lt_value _ rfl (wanted_of 16 64 true rfl (by kernel_rfl) hgu) (fa_run 50 1 8 b8 rfl h0 (fa50_1 b8)) hS (by decide) (by decide) rfl
            · obtain rfl := Option.some.inj hi
              have hgu : a'.tmps.getD 64 undef = _ := pre_of hpre 16 64 (by kernel_rfl) (by kernel_rfl)
              have h0 : a'.tmps.getD 65 undef = _ := pre_of hpre 17 65 (by kernel_rfl) (by kernel_rfl)
              exact lt_value _ rfl (wanted_of 16 64 true rfl (by kernel_rfl) hgu) (load_run 3 65 b8 (1) _ rfl h0 (ld3 ((HM.out w' ho).2.1))) hS (by decide) (by decide) rfl
            · obtain rfl := Option.some.inj hi
              have hgu : a'.tmps.getD 64 undef = _ := pre_of hpre 16 64 (by kernel_rfl) (by kernel_rfl)
              have h0 : a'.tmps.getD 66 undef = _ := pre_of hpre 18 66 (by kernel_rfl) (by kernel_rfl)
              exact lt_value _ rfl (wanted_of 16 64 true rfl (by kernel_rfl) hgu) (leqK_run 66 _ _ rfl h0) hS (by decide) (by decide) (by show Value.bool _ = _; rw [H4.out])
            · obtain rfl := Option.some.inj hi
              have h0 : a'.tmps.getD 64 undef = _ := pre_of hpre 16 64 (by kernel_rfl) (by kernel_rfl)
              have h1 : a'.tmps.getD 67 undef = _ := pre_of hpre 19 67 (by kernel_rfl) (by kernel_rfl)
              exact lt_value _ rfl rfl (pick_run 64 true _ _ _ _ rfl h0 h1 rfl) hS (by decide) (by decide) rfl
            · obtain rfl := Option.some.inj hi
              have h0 := pre_of hpre 20 68 (by kernel_rfl) (by kernel_rfl)
              exact lt_value _ rfl rfl (rfl) hS (by decide) (by decide) h0
            · obtain rfl := Option.some.inj hi
              have hgu : a'.tmps.getD 69 undef = _ := pre_of hpre 21 69 (by kernel_rfl) (by kernel_rfl)
              exact lt_skip rfl (unwanted_of 21 69 false rfl (by kernel_rfl) hgu) hS (by decide) (by decide) rfl
            · obtain rfl := Option.some.inj hi
              have hgu : a'.tmps.getD 69 undef = _ := pre_of hpre 21 69 (by kernel_rfl) (by kernel_rfl)
              exact lt_skip rfl (unwanted_of 21 69 false rfl (by kernel_rfl) hgu) hS (by decide) (by decide) rfl
            · obtain rfl := Option.some.inj hi
              have hgu : a'.tmps.getD 69 undef = _ := pre_of hpre 21 69 (by kernel_rfl) (by kernel_rfl)
              exact lt_skip rfl (unwanted_of 21 69 false rfl (by kernel_rfl) hgu) hS (by decide) (by decide) rfl
            · obtain rfl := Option.some.inj hi
              have hgu : a'.tmps.getD 72 undef = _ := pre_of hpre 24 72 (by kernel_rfl) (by kernel_rfl)
              exact lt_skip rfl (unwanted_undef 24 72 _ rfl (by kernel_rfl) hgu) hS (by decide) (by decide) rfl
            · obtain rfl := Option.some.inj hi
              have hgu : a'.tmps.getD 72 undef = _ := pre_of hpre 24 72 (by kernel_rfl) (by kernel_rfl)
              exact lt_skip rfl (unwanted_undef 24 72 _ rfl (by kernel_rfl) hgu) hS (by decide) (by decide) rfl
            · obtain rfl := Option.some.inj hi
              have hgu : a'.tmps.getD 72 undef = _ := pre_of hpre 24 72 (by kernel_rfl) (by kernel_rfl)
              exact lt_skip rfl (unwanted_undef 24 72 _ rfl (by kernel_rfl) hgu) hS (by decide) (by decide) rfl
            · obtain rfl := Option.some.inj hi
              have hgu : a'.tmps.getD 72 undef = _ := pre_of hpre 24 72 (by kernel_rfl) (by kernel_rfl)
              exact lt_skip rfl (unwanted_undef 24 72 _ rfl (by kernel_rfl) hgu) hS (by decide) (by decide) rfl
            · obtain rfl := Option.some.inj hi
              have hgu : a'.tmps.getD 72 undef = _ := pre_of hpre 24 72 (by kernel_rfl) (by kernel_rfl)
              exact lt_skip rfl (unwanted_undef 24 72 _ rfl (by kernel_rfl) hgu) hS (by decide) (by decide) rfl
            · obtain rfl := Option.some.inj hi
              have hgu : a'.tmps.getD 72 undef = _ := pre_of hpre 24 72 (by kernel_rfl) (by kernel_rfl)
              exact lt_skip rfl (unwanted_undef 24 72 _ rfl (by kernel_rfl) hgu) hS (by decide) (by decide) rfl
            · obtain rfl := Option.some.inj hi
              have hgu : a'.tmps.getD 72 undef = _ := pre_of hpre 24 72 (by kernel_rfl) (by kernel_rfl)
              exact lt_skip rfl (unwanted_undef 24 72 _ rfl (by kernel_rfl) hgu) hS (by decide) (by decide) rfl
            · obtain rfl := Option.some.inj hi
              have hgu : a'.tmps.getD 72 undef = _ := pre_of hpre 24 72 (by kernel_rfl) (by kernel_rfl)
              exact lt_skip rfl (unwanted_undef 24 72 _ rfl (by kernel_rfl) hgu) hS (by decide) (by decide) rfl
            · obtain rfl := Option.some.inj hi
              have hgu : a'.tmps.getD 72 undef = _ := pre_of hpre 24 72 (by kernel_rfl) (by kernel_rfl)
              exact lt_skip rfl (unwanted_undef 24 72 _ rfl (by kernel_rfl) hgu) hS (by decide) (by decide) rfl
            · obtain rfl := Option.some.inj hi
              have hgu : a'.tmps.getD 72 undef = _ := pre_of hpre 24 72 (by kernel_rfl) (by kernel_rfl)
              exact lt_skip rfl (unwanted_undef 24 72 _ rfl (by kernel_rfl) hgu) hS (by decide) (by decide) rfl
            · obtain rfl := Option.some.inj hi
              have hgu : a'.tmps.getD 69 undef = _ := pre_of hpre 21 69 (by kernel_rfl) (by kernel_rfl)
              exact lt_skip rfl (unwanted_of 21 69 false rfl (by kernel_rfl) hgu) hS (by decide) (by decide) rfl
            · obtain rfl := Option.some.inj hi
              have h0 : a'.tmps.getD 69 undef = _ := pre_of hpre 21 69 (by kernel_rfl) (by kernel_rfl)
              exact lt_value _ rfl rfl (pick_run 69 false _ _ _ _ rfl h0 rfl rfl) hS (by decide) (by decide) rfl
            · obtain rfl := Option.some.inj hi
              have h0 := pre_of hpre 36 84 (by kernel_rfl) (by kernel_rfl)
              exact lt_last _ rfl rfl rfl (been_of hfw 0 (by kernel_rfl)) (by decide) h0
          · intro a' w10 f inv hS hall hd
            have hk37 := hd 37 5 (by kernel_rfl)
            have ho : Only [] W9 w10 := inv.grow
            have hdf : a'.defers = [] := inv.defers
            have hsz : a'.tmps.size = 130 := inv.size
            have e := frame4_10 hsz (fun t ht => inv.old t (dstsIn_spec (ts := [5, 48, 49, 50, 51, 52, 53, 54, 55, 56, 57, 58, 59, 60, 61, 62, 63, 64, 65, 66, 67, 68, 69, 70, 71, 72, 73, 74, 75, 76, 77, 78, 79, 80, 81, 82, 83, 84]) (by kernel_rfl) t ht))
            clear inv hd hsz hall hS
            obtain ⟨tmps, defers⟩ := a'
            obtain rfl : defers = [] := hdf
            replace e : tmps = _ := e
            replace hk37 : tmps.getD 5 undef = (.bool false) := hk37
            generalize tmps.getD 5 undef = x5 at *
            generalize tmps.getD 48 undef = x48 at *
            generalize tmps.getD 49 undef = x49 at *
            generalize tmps.getD 50 undef = x50 at *
            generalize tmps.getD 51 undef = x51 at *
            generalize tmps.getD 52 undef = x52 at *
            generalize tmps.getD 53 undef = x53 at *
            generalize tmps.getD 54 undef = x54 at *
            generalize tmps.getD 55 undef = x55 at *
            generalize tmps.getD 56 undef = x56 at *
            generalize tmps.getD 57 undef = x57 at *
            generalize tmps.getD 58 undef = x58 at *
            generalize tmps.getD 59 undef = x59 at *
            generalize tmps.getD 60 undef = x60 at *
            generalize tmps.getD 61 undef = x61 at *
            generalize tmps.getD 62 undef = x62 at *
            generalize tmps.getD 63 undef = x63 at *
            generalize tmps.getD 64 undef = x64 at *
            generalize tmps.getD 65 undef = x65 at *
            generalize tmps.getD 66 undef = x66 at *
            generalize tmps.getD 67 undef = x67 at *
            generalize tmps.getD 68 undef = x68 at *
            generalize tmps.getD 69 undef = x69 at *
            generalize tmps.getD 70 undef = x70 at *
            generalize tmps.getD 71 undef = x71 at *
            generalize tmps.getD 72 undef = x72 at *
            generalize tmps.getD 73 undef = x73 at *
            generalize tmps.getD 74 undef = x74 at *
            generalize tmps.getD 75 undef = x75 at *
            generalize tmps.getD 76 undef = x76 at *
            generalize tmps.getD 77 undef = x77 at *
            generalize tmps.getD 78 undef = x78 at *
            generalize tmps.getD 79 undef = x79 at *
            generalize tmps.getD 80 undef = x80 at *
            generalize tmps.getD 81 undef = x81 at *
            generalize tmps.getD 82 undef = x82 at *
            generalize tmps.getD 83 undef = x83 at *
            generalize tmps.getD 84 undef = x84 at *
            simp only [Array.getD_eq_getD_getElem?, List.getElem?_toArray, List.getElem?_cons_succ, List.getElem?_cons_zero, Option.getD_some] at e
            subst e
            subst hk37
            have ekk : (k : Int) = kk := HKK.out
            subst ekk
            have S10 : Hid (B2 w w10 #[.int .i64 pf, .int .i64 pe, .slice (some ⟨bm, om, none⟩) ml mc] #[.int .i64 a1, .int .i64 a2, .int .i64 a3, .slice np l4 nc, .slice vp l5 vc, .int .i64 a6, .int .i64 a7, .int .i64 a8, .slice wq l9 wcp]) := S9.out.step (ho.below (Nat.le_refl _) (by simp))
            have c8a := (HM.out w10 ho).1
            have c8b := (HM.out w10 ho).2.1
            obtain ⟨d0, d1, d2⟩ := S10.out.pcells
            clear HM S9 ho
            cases b with
            | true =>
              have HFK : Hid (fk pf ms (k + 1) = true) := by show fk pf ms (k + 1) = true; rw [fk, HAB.out.2]; rfl
              clear HAB
              go_wp2_with fail
              refine ⟨⟨k + 1, false, true, by omega, rfl, rfl, by simp, S10, ⟨HWK.out, HFK.out⟩⟩, ?_⟩
              simp only [intOf]
              omega
            | false =>
              by_cases hwf : who = pf
              · have HFK : Hid (fk pf ms (k + 1) = (ri == 7)) := by show fk pf ms (k + 1) = _; rw [fk, HAB.out.2, HWH.out, HRI.out, Bool.false_or, hwf]; simp only [true_and]; rfl
                have hE : (who == pf) = true := by simpa using hwf
                clear HAB hwf
                go_wp2_with fail
                refine ⟨⟨k + 1, false, (ri == 7), by omega, rfl, rfl, by simp, S10, ⟨HWK.out, HFK.out⟩⟩, ?_⟩
                simp only [intOf]
                omega
              · have HFK : Hid (fk pf ms (k + 1) = false) := by show fk pf ms (k + 1) = _; rw [fk, HAB.out.2, HWH.out, HRI.out, Bool.false_or]; exact decide_eq_false (fun h => hwf h.1)
                have hE : (who == pf) = false := by simpa using hwf
                clear HAB
                go_wp2_with fail
                refine ⟨⟨k + 1, false, false, by omega, rfl, rfl, by simp, S10, ⟨HWK.out, HFK.out⟩⟩, ?_⟩
                simp only [intOf]
                omega
        by_cases c5 : k = 0
        · have H5 : Hid (((k : Int) == 0) = true) := by show ((k : Int) == 0) = true; simp [c5]
          have HWK : Hid (wk pf pe ms (k + 1) = true) := by show wk pf pe ms (k + 1) = _; rw [wk, HAB.out.1, HWH.out, HRI.out]; rw [Bool.true_and]; exact decide_eq_true ⟨c1, c2, c3, c4, .inl c5⟩
          have H1 : Hid (decide (1 ≤ who) = true) := decide_eq_true c1
          have H2 : Hid (decide (who ≤ 16) = true) := decide_eq_true c2
          have H3 : Hid (decide (1 ≤ ri) = true) := decide_eq_true c3
          have H4 : Hid (decide (ri ≤ 7) = true) := decide_eq_true c4
          clear HBK c1 c2 c3 c4 c5
          have HM : Hid (∀ w', Only [] W9 w' → w'.cell? ⟨b8, 0, none⟩ = some (.int .i64 who) ∧ w'.cell? ⟨b8, 1, none⟩ = some (.int .i64 ri) ∧ w'.cell? ⟨w.heap.size, 2, none⟩ = some (.slice (some ⟨bm, om, none⟩) ml mc) ∧ (True)) := fun w' ho => by
            have e := (ho.block _ (Array.getElem?_eq_some_iff.1 R9.out).1 (by simp)).trans R9.out
            have s := (S9.out.step (ho.below (Nat.le_refl _) (by simp))).pcells
            exact ⟨by rw [cell_of_row _ _ _ _ _ _ e]; rfl, by rw [cell_of_row _ _ _ _ _ _ e]; rfl, s.2.2, trivial⟩
          clear R9 HMM
          obtain ⟨kk, HKK⟩ : ∃ kk : Int, Hid ((k : Int) = kk) := ⟨_, rfl⟩
          rw [HKK.out] at H5
          rw [HKK.out] at k1 k0 ⊢
          refine wp_region_sa (pf5 b8 kk who ri) (fun u u' => Only [] u u') (LateS 37 5 (.bool true)) (by kernel_rfl) (only_drew _ _) (only_trans _) (pf5_kept b8 kk who ri) (by kernel_rfl) (LateS.start rfl) ?_ ?_
          · intro i o a' w' f hi inv hS hfi hfw hpre
            have ho : Only [] W9 w' := inv.grow
            have hlt : i < 38 := (Array.getElem?_eq_some_iff.1 hi).1
            obtain rfl|rfl|rfl|rfl|rfl|rfl|rfl|rfl|rfl|rfl|rfl|rfl|rfl|rfl|rfl|rfl|rfl|rfl|rfl|rfl|rfl|rfl|rfl|rfl|rfl|rfl|rfl|rfl|rfl|rfl|rfl|rfl|rfl|rfl|rfl|rfl|rfl|rfl : i = 0 ∨ i = 1 ∨ i = 2 ∨ i = 3 ∨ i = 4 ∨ i = 5 ∨ i = 6 ∨ i = 7 ∨ i = 8 ∨ i = 9 ∨ i = 10 ∨ i = 11 ∨ i = 12 ∨ i = 13 ∨ i = 14 ∨ i = 15 ∨ i = 16 ∨ i = 17 ∨ i = 18 ∨ i = 19 ∨ i = 20 ∨ i = 21 ∨ i = 22 ∨ i = 23 ∨ i = 24 ∨ i = 25 ∨ i = 26 ∨ i = 27 ∨ i = 28 ∨ i = 29 ∨ i = 30 ∨ i = 31 ∨ i = 32 ∨ i = 33 ∨ i = 34 ∨ i = 35 ∨ i = 36 ∨ i = 37 := by omega
            · obtain rfl := Option.some.inj hi
              exact lt_value _ rfl rfl rfl hS (by decide) (by decide) (hS.here hfi)
            · obtain rfl := Option.some.inj hi
              have h0 := pre_of hpre 0 48 (by kernel_rfl) (by kernel_rfl)
              exact lt_value _ rfl rfl (rfl) hS (by decide) (by decide) h0
            · obtain rfl := Option.some.inj hi
              have hgu : a'.tmps.getD 49 undef = _ := pre_of hpre 1 49 (by kernel_rfl) (by kernel_rfl)
              have h0 : a'.tmps.getD 8 undef = (.pointer (some ⟨b8, 0, none⟩)) := by rw [inv.old 8 (notDst_spec (by kernel_rfl))]; rfl
              exact lt_value _ rfl (wanted_of 1 49 true rfl (by kernel_rfl) hgu) (fa_run 50 0 8 b8 rfl h0 (fa50_0 b8)) hS (by decide) (by decide) rfl
            · obtain rfl := Option.some.inj hi
              have hgu : a'.tmps.getD 49 undef = _ := pre_of hpre 1 49 (by kernel_rfl) (by kernel_rfl)
              have h0 : a'.tmps.getD 50 undef = _ := pre_of hpre 2 50 (by kernel_rfl) (by kernel_rfl)
              exact lt_value _ rfl (wanted_of 1 49 true rfl (by kernel_rfl) hgu) (load_run 3 50 b8 (0) _ rfl h0 (ld3 ((HM.out w' ho).1))) hS (by decide) (by decide) rfl
            · obtain rfl := Option.some.inj hi
              have hgu : a'.tmps.getD 49 undef = _ := pre_of hpre 1 49 (by kernel_rfl) (by kernel_rfl)
              have h0 : a'.tmps.getD 51 undef = _ := pre_of hpre 3 51 (by kernel_rfl) (by kernel_rfl)
              exact lt_value _ rfl (wanted_of 1 49 true rfl (by kernel_rfl) hgu) (geqK_run 51 _ _ rfl h0) hS (by decide) (by decide) (by show Value.bool _ = _; rw [H1.out])
            · obtain rfl := Option.some.inj hi
              have h0 : a'.tmps.getD 49 undef = _ := pre_of hpre 1 49 (by kernel_rfl) (by kernel_rfl)
              have h1 : a'.tmps.getD 52 undef = _ := pre_of hpre 4 52 (by kernel_rfl) (by kernel_rfl)
              exact lt_value _ rfl rfl (pick_run 49 true _ _ _ _ rfl h0 h1 rfl) hS (by decide) (by decide) rfl
            · obtain rfl := Option.some.inj hi
              have h0 := pre_of hpre 5 53 (by kernel_rfl) (by kernel_rfl)
              exact lt_value _ rfl rfl (rfl) hS (by decide) (by decide) h0
            · obtain rfl := Option.some.inj hi
              have hgu : a'.tmps.getD 54 undef = _ := pre_of hpre 6 54 (by kernel_rfl) (by kernel_rfl)
              have h0 : a'.tmps.getD 8 undef = (.pointer (some ⟨b8, 0, none⟩)) := by rw [inv.old 8 (notDst_spec (by kernel_rfl))]; rfl
              exact lt_value _ rfl (wanted_of 6 54 true rfl (by kernel_rfl) hgu) (fa_run 50 0 8 b8 rfl h0 (fa50_0 b8)) hS (by decide) (by decide) rfl
            · obtain rfl := Option.some.inj hi
              have hgu : a'.tmps.getD 54 undef = _ := pre_of hpre 6 54 (by kernel_rfl) (by kernel_rfl)
              have h0 : a'.tmps.getD 55 undef = _ := pre_of hpre 7 55 (by kernel_rfl) (by kernel_rfl)
              exact lt_value _ rfl (wanted_of 6 54 true rfl (by kernel_rfl) hgu) (load_run 3 55 b8 (0) _ rfl h0 (ld3 ((HM.out w' ho).1))) hS (by decide) (by decide) rfl
            · obtain rfl := Option.some.inj hi
              have hgu : a'.tmps.getD 54 undef = _ := pre_of hpre 6 54 (by kernel_rfl) (by kernel_rfl)
              have h0 : a'.tmps.getD 56 undef = _ := pre_of hpre 8 56 (by kernel_rfl) (by kernel_rfl)
              exact lt_value _ rfl (wanted_of 6 54 true rfl (by kernel_rfl) hgu) (leqK_run 56 _ _ rfl h0) hS (by decide) (by decide) (by show Value.bool _ = _; rw [H2.out])
            · obtain rfl := Option.some.inj hi
              have h0 : a'.tmps.getD 54 undef = _ := pre_of hpre 6 54 (by kernel_rfl) (by kernel_rfl)
              have h1 : a'.tmps.getD 57 undef = _ := pre_of hpre 9 57 (by kernel_rfl) (by kernel_rfl)
              exact lt_value _ rfl rfl (pick_run 54 true _ _ _ _ rfl h0 h1 rfl) hS (by decide) (by decide) rfl
            · obtain rfl := Option.some.inj hi
              have h0 := pre_of hpre 10 58 (by kernel_rfl) (by kernel_rfl)
              exact lt_value _ rfl rfl (rfl) hS (by decide) (by decide) h0
            · obtain rfl := Option.some.inj hi
              have hgu : a'.tmps.getD 59 undef = _ := pre_of hpre 11 59 (by kernel_rfl) (by kernel_rfl)
              have h0 : a'.tmps.getD 8 undef = (.pointer (some ⟨b8, 0, none⟩)) := by rw [inv.old 8 (notDst_spec (by kernel_rfl))]; rfl
              exact lt_value _ rfl (wanted_of 11 59 true rfl (by kernel_rfl) hgu) (fa_run 50 1 8 b8 rfl h0 (fa50_1 b8)) hS (by decide) (by decide) rfl
            · obtain rfl := Option.some.inj hi
              have hgu : a'.tmps.getD 59 undef = _ := pre_of hpre 11 59 (by kernel_rfl) (by kernel_rfl)
              have h0 : a'.tmps.getD 60 undef = _ := pre_of hpre 12 60 (by kernel_rfl) (by kernel_rfl)
              exact lt_value _ rfl (wanted_of 11 59 true rfl (by kernel_rfl) hgu) (load_run 3 60 b8 (1) _ rfl h0 (ld3 ((HM.out w' ho).2.1))) hS (by decide) (by decide) rfl
            · obtain rfl := Option.some.inj hi
              have hgu : a'.tmps.getD 59 undef = _ := pre_of hpre 11 59 (by kernel_rfl) (by kernel_rfl)
              have h0 : a'.tmps.getD 61 undef = _ := pre_of hpre 13 61 (by kernel_rfl) (by kernel_rfl)
              exact lt_value _ rfl (wanted_of 11 59 true rfl (by kernel_rfl) hgu) (geqK_run 61 _ _ rfl h0) hS (by decide) (by decide) (by show Value.bool _ = _; rw [H3.out])
            · obtain rfl := Option.some.inj hi
              have h0 : a'.tmps.getD 59 undef = _ := pre_of hpre 11 59 (by kernel_rfl) (by kernel_rfl)
              have h1 : a'.tmps.getD 62 undef = _ := pre_of hpre 14 62 (by kernel_rfl) (by kernel_rfl)
              exact lt_value _ rfl rfl (pick_run 59 true _ _ _ _ rfl h0 h1 rfl) hS (by decide) (by decide) rfl
            · obtain rfl := Option.some.inj hi
              have h0 := pre_of hpre 15 63 (by kernel_rfl) (by kernel_rfl)
              exact lt_value _ rfl rfl (rfl) hS (by decide) (by decide) h0
            · obtain rfl := Option.some.inj hi
              have hgu : a'.tmps.getD 64 undef = _ := pre_of hpre 16 64 (by kernel_rfl) (by kernel_rfl)
              have h0 : a'.tmps.getD 8 undef = (.pointer (some ⟨b8, 0, none⟩)) := by rw [inv.old 8 (notDst_spec (by kernel_rfl))]; rfl
              exact lt_value _ rfl (wanted_of 16 64 true rfl (by kernel_rfl) hgu) (fa_run 50 1 8 b8 rfl h0 (fa50_1 b8)) hS (by decide) (by decide) rfl
            · obtain rfl := Option.some.inj hi
              have hgu : a'.tmps.getD 64 undef = _ := pre_of hpre 16 64 (by kernel_rfl) (by kernel_rfl)
              have h0 : a'.tmps.getD 65 undef = _ := pre_of hpre 17 65 (by kernel_rfl) (by kernel_rfl)
              exact lt_value _ rfl (wanted_of 16 64 true rfl (by kernel_rfl) hgu) (load_run 3 65 b8 (1) _ rfl h0 (ld3 ((HM.out w' ho).2.1))) hS (by decide) (by decide) rfl
            · obtain rfl := Option.some.inj hi
              have hgu : a'.tmps.getD 64 undef = _ := pre_of hpre 16 64 (by kernel_rfl) (by kernel_rfl)
              have h0 : a'.tmps.getD 66 undef = _ := pre_of hpre 18 66 (by kernel_rfl) (by kernel_rfl)
              exact lt_value _ rfl (wanted_of 16 64 true rfl (by kernel_rfl) hgu) (leqK_run 66 _ _ rfl h0) hS (by decide) (by decide) (by show Value.bool _ = _; rw [H4.out])
            · obtain rfl := Option.some.inj hi
              have h0 : a'.tmps.getD 64 undef = _ := pre_of hpre 16 64 (by kernel_rfl) (by kernel_rfl)
              have h1 : a'.tmps.getD 67 undef = _ := pre_of hpre 19 67 (by kernel_rfl) (by kernel_rfl)
              exact lt_value _ rfl rfl (pick_run 64 true _ _ _ _ rfl h0 h1 rfl) hS (by decide) (by decide) rfl
            · obtain rfl := Option.some.inj hi
              have h0 := pre_of hpre 20 68 (by kernel_rfl) (by kernel_rfl)
              exact lt_value _ rfl rfl (rfl) hS (by decide) (by decide) h0
            · obtain rfl := Option.some.inj hi
              have hgu : a'.tmps.getD 69 undef = _ := pre_of hpre 21 69 (by kernel_rfl) (by kernel_rfl)
              exact lt_value _ rfl (wanted_of 21 69 true rfl (by kernel_rfl) hgu) rfl hS (by decide) (by decide) (by show a'.tmps.getD 7 undef = _; rw [inv.old 7 (notDst_spec (by kernel_rfl))]; rfl)
            · obtain rfl := Option.some.inj hi
              have hgu : a'.tmps.getD 69 undef = _ := pre_of hpre 21 69 (by kernel_rfl) (by kernel_rfl)
              have h0 : a'.tmps.getD 70 undef = _ := pre_of hpre 22 70 (by kernel_rfl) (by kernel_rfl)
              exact lt_value _ rfl (wanted_of 21 69 true rfl (by kernel_rfl) hgu) (eqlK_run 70 _ _ rfl h0) hS (by decide) (by decide) (by show Value.bool _ = _; rw [H5.out])
            · obtain rfl := Option.some.inj hi
              have hgu : a'.tmps.getD 69 undef = _ := pre_of hpre 21 69 (by kernel_rfl) (by kernel_rfl)
              have h0 := pre_of hpre 23 71 (by kernel_rfl) (by kernel_rfl)
              exact lt_value _ rfl (wanted_of 21 69 true rfl (by kernel_rfl) hgu) (rfl) hS (by decide) (by decide) h0
            · obtain rfl := Option.some.inj hi
              have hgu : a'.tmps.getD 72 undef = _ := pre_of hpre 24 72 (by kernel_rfl) (by kernel_rfl)
              exact lt_skip rfl (unwanted_of 24 72 true rfl (by kernel_rfl) hgu) hS (by decide) (by decide) rfl
            · obtain rfl := Option.some.inj hi
              have hgu : a'.tmps.getD 72 undef = _ := pre_of hpre 24 72 (by kernel_rfl) (by kernel_rfl)
              exact lt_skip rfl (unwanted_of 24 72 true rfl (by kernel_rfl) hgu) hS (by decide) (by decide) rfl
            · obtain rfl := Option.some.inj hi
              have hgu : a'.tmps.getD 72 undef = _ := pre_of hpre 24 72 (by kernel_rfl) (by kernel_rfl)
              exact lt_skip rfl (unwanted_of 24 72 true rfl (by kernel_rfl) hgu) hS (by decide) (by decide) rfl
            · obtain rfl := Option.some.inj hi
              have hgu : a'.tmps.getD 72 undef = _ := pre_of hpre 24 72 (by kernel_rfl) (by kernel_rfl)
              exact lt_skip rfl (unwanted_of 24 72 true rfl (by kernel_rfl) hgu) hS (by decide) (by decide) rfl
            · obtain rfl := Option.some.inj hi
              have hgu : a'.tmps.getD 72 undef = _ := pre_of hpre 24 72 (by kernel_rfl) (by kernel_rfl)
              exact lt_skip rfl (unwanted_of 24 72 true rfl (by kernel_rfl) hgu) hS (by decide) (by decide) rfl
            · obtain rfl := Option.some.inj hi
              have hgu : a'.tmps.getD 72 undef = _ := pre_of hpre 24 72 (by kernel_rfl) (by kernel_rfl)
              exact lt_skip rfl (unwanted_of 24 72 true rfl (by kernel_rfl) hgu) hS (by decide) (by decide) rfl
            · obtain rfl := Option.some.inj hi
              have hgu : a'.tmps.getD 72 undef = _ := pre_of hpre 24 72 (by kernel_rfl) (by kernel_rfl)
              exact lt_skip rfl (unwanted_of 24 72 true rfl (by kernel_rfl) hgu) hS (by decide) (by decide) rfl
            · obtain rfl := Option.some.inj hi
              have hgu : a'.tmps.getD 72 undef = _ := pre_of hpre 24 72 (by kernel_rfl) (by kernel_rfl)
              exact lt_skip rfl (unwanted_of 24 72 true rfl (by kernel_rfl) hgu) hS (by decide) (by decide) rfl
            · obtain rfl := Option.some.inj hi
              have hgu : a'.tmps.getD 72 undef = _ := pre_of hpre 24 72 (by kernel_rfl) (by kernel_rfl)
              exact lt_skip rfl (unwanted_of 24 72 true rfl (by kernel_rfl) hgu) hS (by decide) (by decide) rfl
            · obtain rfl := Option.some.inj hi
              have hgu : a'.tmps.getD 72 undef = _ := pre_of hpre 24 72 (by kernel_rfl) (by kernel_rfl)
              exact lt_skip rfl (unwanted_of 24 72 true rfl (by kernel_rfl) hgu) hS (by decide) (by decide) rfl
            · obtain rfl := Option.some.inj hi
              have hgu : a'.tmps.getD 69 undef = _ := pre_of hpre 21 69 (by kernel_rfl) (by kernel_rfl)
              have h0 : a'.tmps.getD 72 undef = _ := pre_of hpre 24 72 (by kernel_rfl) (by kernel_rfl)
              exact lt_value _ rfl (wanted_of 21 69 true rfl (by kernel_rfl) hgu) (pick_run 72 true _ _ _ _ rfl h0 rfl rfl) hS (by decide) (by decide) rfl
            · obtain rfl := Option.some.inj hi
              have h0 : a'.tmps.getD 69 undef = _ := pre_of hpre 21 69 (by kernel_rfl) (by kernel_rfl)
              have h1 : a'.tmps.getD 83 undef = _ := pre_of hpre 35 83 (by kernel_rfl) (by kernel_rfl)
              exact lt_value _ rfl rfl (pick_run 69 true _ _ _ _ rfl h0 h1 rfl) hS (by decide) (by decide) rfl
            · obtain rfl := Option.some.inj hi
              have h0 := pre_of hpre 36 84 (by kernel_rfl) (by kernel_rfl)
              exact lt_last _ rfl rfl rfl (been_of hfw 0 (by kernel_rfl)) (by decide) h0
          · intro a' w10 f inv hS hall hd
            have hk37 := hd 37 5 (by kernel_rfl)
            have ho : Only [] W9 w10 := inv.grow
            have hdf : a'.defers = [] := inv.defers
            have hsz : a'.tmps.size = 130 := inv.size
            have e := frame4_10 hsz (fun t ht => inv.old t (dstsIn_spec (ts := [5, 48, 49, 50, 51, 52, 53, 54, 55, 56, 57, 58, 59, 60, 61, 62, 63, 64, 65, 66, 67, 68, 69, 70, 71, 72, 73, 74, 75, 76, 77, 78, 79, 80, 81, 82, 83, 84]) (by kernel_rfl) t ht))
            clear inv hd hsz hall hS
            obtain ⟨tmps, defers⟩ := a'
            obtain rfl : defers = [] := hdf
            replace e : tmps = _ := e
            replace hk37 : tmps.getD 5 undef = (.bool true) := hk37
            generalize tmps.getD 5 undef = x5 at *
            generalize tmps.getD 48 undef = x48 at *
            generalize tmps.getD 49 undef = x49 at *
            generalize tmps.getD 50 undef = x50 at *
            generalize tmps.getD 51 undef = x51 at *
            generalize tmps.getD 52 undef = x52 at *
            generalize tmps.getD 53 undef = x53 at *
            generalize tmps.getD 54 undef = x54 at *
            generalize tmps.getD 55 undef = x55 at *
            generalize tmps.getD 56 undef = x56 at *
            generalize tmps.getD 57 undef = x57 at *
            generalize tmps.getD 58 undef = x58 at *
            generalize tmps.getD 59 undef = x59 at *
            generalize tmps.getD 60 undef = x60 at *
            generalize tmps.getD 61 undef = x61 at *
            generalize tmps.getD 62 undef = x62 at *
            generalize tmps.getD 63 undef = x63 at *
            generalize tmps.getD 64 undef = x64 at *
            generalize tmps.getD 65 undef = x65 at *
            generalize tmps.getD 66 undef = x66 at *
            generalize tmps.getD 67 undef = x67 at *
            generalize tmps.getD 68 undef = x68 at *
            generalize tmps.getD 69 undef = x69 at *
            generalize tmps.getD 70 undef = x70 at *
            generalize tmps.getD 71 undef = x71 at *
            generalize tmps.getD 72 undef = x72 at *
            generalize tmps.getD 73 undef = x73 at *
            generalize tmps.getD 74 undef = x74 at *
            generalize tmps.getD 75 undef = x75 at *
            generalize tmps.getD 76 undef = x76 at *
            generalize tmps.getD 77 undef = x77 at *
            generalize tmps.getD 78 undef = x78 at *
            generalize tmps.getD 79 undef = x79 at *
            generalize tmps.getD 80 undef = x80 at *
            generalize tmps.getD 81 undef = x81 at *
            generalize tmps.getD 82 undef = x82 at *
            generalize tmps.getD 83 undef = x83 at *
            generalize tmps.getD 84 undef = x84 at *
            simp only [Array.getD_eq_getD_getElem?, List.getElem?_toArray, List.getElem?_cons_succ, List.getElem?_cons_zero, Option.getD_some] at e
            subst e
            subst hk37
            have ekk : (k : Int) = kk := HKK.out
            subst ekk
            have S10 : Hid (B2 w w10 #[.int .i64 pf, .int .i64 pe, .slice (some ⟨bm, om, none⟩) ml mc] #[.int .i64 a1, .int .i64 a2, .int .i64 a3, .slice np l4 nc, .slice vp l5 vc, .int .i64 a6, .int .i64 a7, .int .i64 a8, .slice wq l9 wcp]) := S9.out.step (ho.below (Nat.le_refl _) (by simp))
            have c8a := (HM.out w10 ho).1
            have c8b := (HM.out w10 ho).2.1
            obtain ⟨d0, d1, d2⟩ := S10.out.pcells
            clear HM S9 ho
            cases b with
            | true =>
              have HFK : Hid (fk pf ms (k + 1) = true) := by show fk pf ms (k + 1) = true; rw [fk, HAB.out.2]; rfl
              clear HAB
              go_wp2_with fail
              refine ⟨⟨k + 1, true, true, by omega, rfl, rfl, by simp, S10, ⟨HWK.out, HFK.out⟩⟩, ?_⟩
              simp only [intOf]
              omega
            | false =>
              by_cases hwf : who = pf
              · have HFK : Hid (fk pf ms (k + 1) = (ri == 7)) := by show fk pf ms (k + 1) = _; rw [fk, HAB.out.2, HWH.out, HRI.out, Bool.false_or, hwf]; simp only [true_and]; rfl
                have hE : (who == pf) = true := by simpa using hwf
                clear HAB hwf
                go_wp2_with fail
                refine ⟨⟨k + 1, true, (ri == 7), by omega, rfl, rfl, by simp, S10, ⟨HWK.out, HFK.out⟩⟩, ?_⟩
                simp only [intOf]
                omega
              · have HFK : Hid (fk pf ms (k + 1) = false) := by show fk pf ms (k + 1) = _; rw [fk, HAB.out.2, HWH.out, HRI.out, Bool.false_or]; exact decide_eq_false (fun h => hwf h.1)
                have hE : (who == pf) = false := by simpa using hwf
                clear HAB
                go_wp2_with fail
                refine ⟨⟨k + 1, true, false, by omega, rfl, rfl, by simp, S10, ⟨HWK.out, HFK.out⟩⟩, ?_⟩
                simp only [intOf]
                omega
        · have H5 : Hid (((k : Int) == 0) = false) := by show ((k : Int) == 0) = false; simp [c5]
          obtain ⟨km, HK1⟩ : ∃ km, Hid (k = km + 1) := ⟨k - 1, by show k = _; omega⟩
          have HKM : Hid (km < ml) := by have := HK1.out; show km < ml; omega
          have H6 : Hid (IntKind.i64.wrap ((k : Int) - 1) = (km : Int)) := by
            have e := HK1.out
            show IntKind.i64.wrap ((k : Int) - 1) = (km : Int)
            rw [show (k : Int) - 1 = (km : Int) by omega]
            exact wrap_nat _ (by omega)
          obtain ⟨pw, HPW⟩ : ∃ pw, Hid ((mAt ms km).1 = pw) := ⟨_, rfl⟩
          have HPV : Hid (∀ W', Below W9.heap.size W9 W' → W'.cell? ⟨bm, om + km * 2 + 0, none⟩ = some (.int .i64 pw)) := fun W' hb => by
            have := (HMM.out W' (HBK.out.trans (bel_le hb HBK.out.size)) km HKM.out).1
            rw [HPW.out] at this
            exact this
          obtain ⟨gb, H7⟩ : ∃ gb, Hid (decide (pw < who) = gb) := ⟨_, rfl⟩
          have HWK : Hid (wk pf pe ms (k + 1) = gb) := by show wk pf pe ms (k + 1) = _; rw [wk, HAB.out.1, HWH.out, HRI.out]; rw [Bool.true_and, ← H7.out, ← HPW.out, show k - 1 = km by have := HK1.out; omega]; exact decide_eq_decide.2 ⟨fun h => h.2.2.2.2.resolve_left c5, fun h => ⟨c1, c2, c3, c4, .inr h⟩⟩
          have H1 : Hid (decide (1 ≤ who) = true) := decide_eq_true c1
          have H2 : Hid (decide (who ≤ 16) = true) := decide_eq_true c2
          have H3 : Hid (decide (1 ≤ ri) = true) := decide_eq_true c3
          have H4 : Hid (decide (ri ≤ 7) = true) := decide_eq_true c4
          clear HBK c1 c2 c3 c4 c5 HPW HK1
          have HM : Hid (∀ w', Only [] W9 w' → w'.cell? ⟨b8, 0, none⟩ = some (.int .i64 who) ∧ w'.cell? ⟨b8, 1, none⟩ = some (.int .i64 ri) ∧ w'.cell? ⟨w.heap.size, 2, none⟩ = some (.slice (some ⟨bm, om, none⟩) ml mc) ∧ w'.cell? ⟨bm, om + km * 2 + 0, none⟩ = some (.int .i64 pw)) := fun w' ho => by
            have e := (ho.block _ (Array.getElem?_eq_some_iff.1 R9.out).1 (by simp)).trans R9.out
            have s := (S9.out.step (ho.below (Nat.le_refl _) (by simp))).pcells
            exact ⟨by rw [cell_of_row _ _ _ _ _ _ e]; rfl, by rw [cell_of_row _ _ _ _ _ _ e]; rfl, s.2.2, HPV.out w' (ho.below (Nat.le_refl _) (by simp))⟩
          clear R9 HMM
          obtain ⟨kk, HKK⟩ : ∃ kk : Int, Hid ((k : Int) = kk) := ⟨_, rfl⟩
          rw [HKK.out] at H6
          rw [HKK.out] at H5
          rw [HKK.out] at k1 k0 ⊢
          refine wp_region_sa (pf6 b8 (w.heap.size) bm om ml mc km kk who ri pw gb) (fun u u' => Only [] u u') (LateS 37 5 (.bool true)) (by kernel_rfl) (only_drew _ _) (only_trans _) (pf6_kept b8 (w.heap.size) bm om ml mc km kk who ri pw gb) (by kernel_rfl) (LateS.start rfl) ?_ ?_
          · intro i o a' w' f hi inv hS hfi hfw hpre
            have ho : Only [] W9 w' := inv.grow
            have hlt : i < 38 := (Array.getElem?_eq_some_iff.1 hi).1
            obtain rfl|rfl|rfl|rfl|rfl|rfl|rfl|rfl|rfl|rfl|rfl|rfl|rfl|rfl|rfl|rfl|rfl|rfl|rfl|rfl|rfl|rfl|rfl|rfl|rfl|rfl|rfl|rfl|rfl|rfl|rfl|rfl|rfl|rfl|rfl|rfl|rfl|rfl : i = 0 ∨ i = 1 ∨ i = 2 ∨ i = 3 ∨ i = 4 ∨ i = 5 ∨ i = 6 ∨ i = 7 ∨ i = 8 ∨ i = 9 ∨ i = 10 ∨ i = 11 ∨ i = 12 ∨ i = 13 ∨ i = 14 ∨ i = 15 ∨ i = 16 ∨ i = 17 ∨ i = 18 ∨ i = 19 ∨ i = 20 ∨ i = 21 ∨ i = 22 ∨ i = 23 ∨ i = 24 ∨ i = 25 ∨ i = 26 ∨ i = 27 ∨ i = 28 ∨ i = 29 ∨ i = 30 ∨ i = 31 ∨ i = 32 ∨ i = 33 ∨ i = 34 ∨ i = 35 ∨ i = 36 ∨ i = 37 := by omega
            · obtain rfl := Option.some.inj hi
              exact lt_value _ rfl rfl rfl hS (by decide) (by decide) (hS.here hfi)
            · obtain rfl := Option.some.inj hi
              have h0 := pre_of hpre 0 48 (by kernel_rfl) (by kernel_rfl)
              exact lt_value _ rfl rfl (rfl) hS (by decide) (by decide) h0
            · obtain rfl := Option.some.inj hi
              have hgu : a'.tmps.getD 49 undef = _ := pre_of hpre 1 49 (by kernel_rfl) (by kernel_rfl)
              have h0 : a'.tmps.getD 8 undef = (.pointer (some ⟨b8, 0, none⟩)) := by rw [inv.old 8 (notDst_spec (by kernel_rfl))]; rfl
              exact lt_value _ rfl (wanted_of 1 49 true rfl (by kernel_rfl) hgu) (fa_run 50 0 8 b8 rfl h0 (fa50_0 b8)) hS (by decide) (by decide) rfl
            · obtain rfl := Option.some.inj hi
              have hgu : a'.tmps.getD 49 undef = _ := pre_of hpre 1 49 (by kernel_rfl) (by kernel_rfl)
              have h0 : a'.tmps.getD 50 undef = _ := pre_of hpre 2 50 (by kernel_rfl) (by kernel_rfl)
              exact lt_value _ rfl (wanted_of 1 49 true rfl (by kernel_rfl) hgu) (load_run 3 50 b8 (0) _ rfl h0 (ld3 ((HM.out w' ho).1))) hS (by decide) (by decide) rfl
            · obtain rfl := Option.some.inj hi
              have hgu : a'.tmps.getD 49 undef = _ := pre_of hpre 1 49 (by kernel_rfl) (by kernel_rfl)
              have h0 : a'.tmps.getD 51 undef = _ := pre_of hpre 3 51 (by kernel_rfl) (by kernel_rfl)
              exact lt_value _ rfl (wanted_of 1 49 true rfl (by kernel_rfl) hgu) (geqK_run 51 _ _ rfl h0) hS (by decide) (by decide) (by show Value.bool _ = _; rw [H1.out])
            · obtain rfl := Option.some.inj hi
              have h0 : a'.tmps.getD 49 undef = _ := pre_of hpre 1 49 (by kernel_rfl) (by kernel_rfl)
              have h1 : a'.tmps.getD 52 undef = _ := pre_of hpre 4 52 (by kernel_rfl) (by kernel_rfl)
              exact lt_value _ rfl rfl (pick_run 49 true _ _ _ _ rfl h0 h1 rfl) hS (by decide) (by decide) rfl
            · obtain rfl := Option.some.inj hi
              have h0 := pre_of hpre 5 53 (by kernel_rfl) (by kernel_rfl)
              exact lt_value _ rfl rfl (rfl) hS (by decide) (by decide) h0
            · obtain rfl := Option.some.inj hi
              have hgu : a'.tmps.getD 54 undef = _ := pre_of hpre 6 54 (by kernel_rfl) (by kernel_rfl)
              have h0 : a'.tmps.getD 8 undef = (.pointer (some ⟨b8, 0, none⟩)) := by rw [inv.old 8 (notDst_spec (by kernel_rfl))]; rfl
              exact lt_value _ rfl (wanted_of 6 54 true rfl (by kernel_rfl) hgu) (fa_run 50 0 8 b8 rfl h0 (fa50_0 b8)) hS (by decide) (by decide) rfl
            · obtain rfl := Option.some.inj hi
              have hgu : a'.tmps.getD 54 undef = _ := pre_of hpre 6 54 (by kernel_rfl) (by kernel_rfl)
              have h0 : a'.tmps.getD 55 undef = _ := pre_of hpre 7 55 (by kernel_rfl) (by kernel_rfl)
              exact lt_value _ rfl (wanted_of 6 54 true rfl (by kernel_rfl) hgu) (load_run 3 55 b8 (0) _ rfl h0 (ld3 ((HM.out w' ho).1))) hS (by decide) (by decide) rfl
            · obtain rfl := Option.some.inj hi
              have hgu : a'.tmps.getD 54 undef = _ := pre_of hpre 6 54 (by kernel_rfl) (by kernel_rfl)
              have h0 : a'.tmps.getD 56 undef = _ := pre_of hpre 8 56 (by kernel_rfl) (by kernel_rfl)
              exact lt_value _ rfl (wanted_of 6 54 true rfl (by kernel_rfl) hgu) (leqK_run 56 _ _ rfl h0) hS (by decide) (by decide) (by show Value.bool _ = _; rw [H2.out])
            · obtain rfl := Option.some.inj hi
              have h0 : a'.tmps.getD 54 undef = _ := pre_of hpre 6 54 (by kernel_rfl) (by kernel_rfl)
              have h1 : a'.tmps.getD 57 undef = _ := pre_of hpre 9 57 (by kernel_rfl) (by kernel_rfl)
              exact lt_value _ rfl rfl (pick_run 54 true _ _ _ _ rfl h0 h1 rfl) hS (by decide) (by decide) rfl
            · obtain rfl := Option.some.inj hi
              have h0 := pre_of hpre 10 58 (by kernel_rfl) (by kernel_rfl)
              exact lt_value _ rfl rfl (rfl) hS (by decide) (by decide) h0
            · obtain rfl := Option.some.inj hi
              have hgu : a'.tmps.getD 59 undef = _ := pre_of hpre 11 59 (by kernel_rfl) (by kernel_rfl)
              have h0 : a'.tmps.getD 8 undef = (.pointer (some ⟨b8, 0, none⟩)) := by rw [inv.old 8 (notDst_spec (by kernel_rfl))]; rfl
              exact lt_value _ rfl (wanted_of 11 59 true rfl (by kernel_rfl) hgu) (fa_run 50 1 8 b8 rfl h0 (fa50_1 b8)) hS (by decide) (by decide) rfl
            · obtain rfl := Option.some.inj hi
              have hgu : a'.tmps.getD 59 undef = _ := pre_of hpre 11 59 (by kernel_rfl) (by kernel_rfl)
              have h0 : a'.tmps.getD 60 undef = _ := pre_of hpre 12 60 (by kernel_rfl) (by kernel_rfl)
              exact lt_value _ rfl (wanted_of 11 59 true rfl (by kernel_rfl) hgu) (load_run 3 60 b8 (1) _ rfl h0 (ld3 ((HM.out w' ho).2.1))) hS (by decide) (by decide) rfl
            · obtain rfl := Option.some.inj hi
              have hgu : a'.tmps.getD 59 undef = _ := pre_of hpre 11 59 (by kernel_rfl) (by kernel_rfl)
              have h0 : a'.tmps.getD 61 undef = _ := pre_of hpre 13 61 (by kernel_rfl) (by kernel_rfl)
              exact lt_value _ rfl (wanted_of 11 59 true rfl (by kernel_rfl) hgu) (geqK_run 61 _ _ rfl h0) hS (by decide) (by decide) (by show Value.bool _ = _; rw [H3.out])
            · obtain rfl := Option.some.inj hi
              have h0 : a'.tmps.getD 59 undef = _ := pre_of hpre 11 59 (by kernel_rfl) (by kernel_rfl)
              have h1 : a'.tmps.getD 62 undef = _ := pre_of hpre 14 62 (by kernel_rfl) (by kernel_rfl)
              exact lt_value _ rfl rfl (pick_run 59 true _ _ _ _ rfl h0 h1 rfl) hS (by decide) (by decide) rfl
            · obtain rfl := Option.some.inj hi
              have h0 := pre_of hpre 15 63 (by kernel_rfl) (by kernel_rfl)
              exact lt_value _ rfl rfl (rfl) hS (by decide) (by decide) h0
            · obtain rfl := Option.some.inj hi
              have hgu : a'.tmps.getD 64 undef = _ := pre_of hpre 16 64 (by kernel_rfl) (by kernel_rfl)
              have h0 : a'.tmps.getD 8 undef = (.pointer (some ⟨b8, 0, none⟩)) := by rw [inv.old 8 (notDst_spec (by kernel_rfl))]; rfl
              exact lt_value _ rfl (wanted_of 16 64 true rfl (by kernel_rfl) hgu) (fa_run 50 1 8 b8 rfl h0 (fa50_1 b8)) hS (by decide) (by decide) rfl
            · obtain rfl := Option.some.inj hi
              have hgu : a'.tmps.getD 64 undef = _ := pre_of hpre 16 64 (by kernel_rfl) (by kernel_rfl)
              have h0 : a'.tmps.getD 65 undef = _ := pre_of hpre 17 65 (by kernel_rfl) (by kernel_rfl)
              exact lt_value _ rfl (wanted_of 16 64 true rfl (by kernel_rfl) hgu) (load_run 3 65 b8 (1) _ rfl h0 (ld3 ((HM.out w' ho).2.1))) hS (by decide) (by decide) rfl
            · obtain rfl := Option.some.inj hi
              have hgu : a'.tmps.getD 64 undef = _ := pre_of hpre 16 64 (by kernel_rfl) (by kernel_rfl)
              have h0 : a'.tmps.getD 66 undef = _ := pre_of hpre 18 66 (by kernel_rfl) (by kernel_rfl)
              exact lt_value _ rfl (wanted_of 16 64 true rfl (by kernel_rfl) hgu) (leqK_run 66 _ _ rfl h0) hS (by decide) (by decide) (by show Value.bool _ = _; rw [H4.out])
            · obtain rfl := Option.some.inj hi
              have h0 : a'.tmps.getD 64 undef = _ := pre_of hpre 16 64 (by kernel_rfl) (by kernel_rfl)
              have h1 : a'.tmps.getD 67 undef = _ := pre_of hpre 19 67 (by kernel_rfl) (by kernel_rfl)
              exact lt_value _ rfl rfl (pick_run 64 true _ _ _ _ rfl h0 h1 rfl) hS (by decide) (by decide) rfl
            · obtain rfl := Option.some.inj hi
              have h0 := pre_of hpre 20 68 (by kernel_rfl) (by kernel_rfl)
              exact lt_value _ rfl rfl (rfl) hS (by decide) (by decide) h0
            · obtain rfl := Option.some.inj hi
              have hgu : a'.tmps.getD 69 undef = _ := pre_of hpre 21 69 (by kernel_rfl) (by kernel_rfl)
              exact lt_value _ rfl (wanted_of 21 69 true rfl (by kernel_rfl) hgu) rfl hS (by decide) (by decide) (by show a'.tmps.getD 7 undef = _; rw [inv.old 7 (notDst_spec (by kernel_rfl))]; rfl)
            · obtain rfl := Option.some.inj hi
              have hgu : a'.tmps.getD 69 undef = _ := pre_of hpre 21 69 (by kernel_rfl) (by kernel_rfl)
              have h0 : a'.tmps.getD 70 undef = _ := pre_of hpre 22 70 (by kernel_rfl) (by kernel_rfl)
              exact lt_value _ rfl (wanted_of 21 69 true rfl (by kernel_rfl) hgu) (eqlK_run 70 _ _ rfl h0) hS (by decide) (by decide) (by show Value.bool _ = _; rw [H5.out])
            · obtain rfl := Option.some.inj hi
              have hgu : a'.tmps.getD 69 undef = _ := pre_of hpre 21 69 (by kernel_rfl) (by kernel_rfl)
              have h0 := pre_of hpre 23 71 (by kernel_rfl) (by kernel_rfl)
              exact lt_value _ rfl (wanted_of 21 69 true rfl (by kernel_rfl) hgu) (rfl) hS (by decide) (by decide) h0
            · obtain rfl := Option.some.inj hi
              have hgu : a'.tmps.getD 72 undef = _ := pre_of hpre 24 72 (by kernel_rfl) (by kernel_rfl)
              have h0 : a'.tmps.getD 8 undef = (.pointer (some ⟨b8, 0, none⟩)) := by rw [inv.old 8 (notDst_spec (by kernel_rfl))]; rfl
              exact lt_value _ rfl (wanted_of 24 72 false rfl (by kernel_rfl) hgu) (fa_run 50 0 8 b8 rfl h0 (fa50_0 b8)) hS (by decide) (by decide) rfl
            · obtain rfl := Option.some.inj hi
              have hgu : a'.tmps.getD 72 undef = _ := pre_of hpre 24 72 (by kernel_rfl) (by kernel_rfl)
              have h0 : a'.tmps.getD 73 undef = _ := pre_of hpre 25 73 (by kernel_rfl) (by kernel_rfl)
              exact lt_value _ rfl (wanted_of 24 72 false rfl (by kernel_rfl) hgu) (load_run 3 73 b8 (0) _ rfl h0 (ld3 ((HM.out w' ho).1))) hS (by decide) (by decide) rfl
            · obtain rfl := Option.some.inj hi
              have hgu : a'.tmps.getD 72 undef = _ := pre_of hpre 24 72 (by kernel_rfl) (by kernel_rfl)
              have h0 : a'.tmps.getD 2 undef = (.pointer (some ⟨(w.heap.size), 0, none⟩)) := by rw [inv.old 2 (notDst_spec (by kernel_rfl))]; rfl
              exact lt_value _ rfl (wanted_of 24 72 false rfl (by kernel_rfl) hgu) (fa_run 26 2 2 (w.heap.size) rfl h0 (fa26_2 (w.heap.size))) hS (by decide) (by decide) rfl
            · obtain rfl := Option.some.inj hi
              have hgu : a'.tmps.getD 72 undef = _ := pre_of hpre 24 72 (by kernel_rfl) (by kernel_rfl)
              have h0 : a'.tmps.getD 75 undef = _ := pre_of hpre 27 75 (by kernel_rfl) (by kernel_rfl)
              exact lt_value _ rfl (wanted_of 24 72 false rfl (by kernel_rfl) hgu) (load_run 24 75 (w.heap.size) (2) _ rfl h0 (ld24 ((HM.out w' ho).2.2.1))) hS (by decide) (by decide) rfl
            · obtain rfl := Option.some.inj hi
              have hgu : a'.tmps.getD 72 undef = _ := pre_of hpre 24 72 (by kernel_rfl) (by kernel_rfl)
              exact lt_value _ rfl (wanted_of 24 72 false rfl (by kernel_rfl) hgu) rfl hS (by decide) (by decide) (by show a'.tmps.getD 7 undef = _; rw [inv.old 7 (notDst_spec (by kernel_rfl))]; rfl)
            · obtain rfl := Option.some.inj hi
              have hgu : a'.tmps.getD 72 undef = _ := pre_of hpre 24 72 (by kernel_rfl) (by kernel_rfl)
              have h0 : a'.tmps.getD 77 undef = _ := pre_of hpre 29 77 (by kernel_rfl) (by kernel_rfl)
              exact lt_value _ rfl (wanted_of 24 72 false rfl (by kernel_rfl) hgu) (subK_run 77 _ _ rfl h0) hS (by decide) (by decide) (by show Value.int .i64 _ = _; rw [H6.out])
            · obtain rfl := Option.some.inj hi
              have hgu : a'.tmps.getD 72 undef = _ := pre_of hpre 24 72 (by kernel_rfl) (by kernel_rfl)
              have h0 : a'.tmps.getD 76 undef = _ := pre_of hpre 28 76 (by kernel_rfl) (by kernel_rfl)
              have h1 : a'.tmps.getD 78 undef = _ := pre_of hpre 30 78 (by kernel_rfl) (by kernel_rfl)
              exact lt_value _ rfl (wanted_of 24 72 false rfl (by kernel_rfl) hgu) (idx24_run 76 78 bm om ml mc km rfl h0 h1 HKM.out) hS (by decide) (by decide) rfl
            · obtain rfl := Option.some.inj hi
              have hgu : a'.tmps.getD 72 undef = _ := pre_of hpre 24 72 (by kernel_rfl) (by kernel_rfl)
              have h0 : a'.tmps.getD 79 undef = _ := pre_of hpre 31 79 (by kernel_rfl) (by kernel_rfl)
              exact lt_value _ rfl (wanted_of 24 72 false rfl (by kernel_rfl) hgu) (fo_run 50 0 79 bm (om + km * 2) rfl h0 (fo50_0 bm (om + km * 2))) hS (by decide) (by decide) rfl
            · obtain rfl := Option.some.inj hi
              have hgu : a'.tmps.getD 72 undef = _ := pre_of hpre 24 72 (by kernel_rfl) (by kernel_rfl)
              have h0 : a'.tmps.getD 80 undef = _ := pre_of hpre 32 80 (by kernel_rfl) (by kernel_rfl)
              exact lt_value _ rfl (wanted_of 24 72 false rfl (by kernel_rfl) hgu) (load_run 3 80 bm (om + km * 2 + 0) _ rfl h0 (ld3 ((HM.out w' ho).2.2.2))) hS (by decide) (by decide) rfl
            · obtain rfl := Option.some.inj hi
              have hgu : a'.tmps.getD 72 undef = _ := pre_of hpre 24 72 (by kernel_rfl) (by kernel_rfl)
              have h0 : a'.tmps.getD 74 undef = _ := pre_of hpre 26 74 (by kernel_rfl) (by kernel_rfl)
              have h1 : a'.tmps.getD 81 undef = _ := pre_of hpre 33 81 (by kernel_rfl) (by kernel_rfl)
              exact lt_value _ rfl (wanted_of 24 72 false rfl (by kernel_rfl) hgu) (gtrN_run 74 81 _ _ rfl h0 h1) hS (by decide) (by decide) (by show Value.bool _ = _; rw [H7.out])
            · obtain rfl := Option.some.inj hi
              have hgu : a'.tmps.getD 69 undef = _ := pre_of hpre 21 69 (by kernel_rfl) (by kernel_rfl)
              have h0 : a'.tmps.getD 72 undef = _ := pre_of hpre 24 72 (by kernel_rfl) (by kernel_rfl)
              have h1 : a'.tmps.getD 82 undef = _ := pre_of hpre 34 82 (by kernel_rfl) (by kernel_rfl)
              exact lt_value _ rfl (wanted_of 21 69 true rfl (by kernel_rfl) hgu) (pick_run 72 false _ _ _ _ rfl h0 rfl h1) hS (by decide) (by decide) rfl
            · obtain rfl := Option.some.inj hi
              have h0 : a'.tmps.getD 69 undef = _ := pre_of hpre 21 69 (by kernel_rfl) (by kernel_rfl)
              have h1 : a'.tmps.getD 83 undef = _ := pre_of hpre 35 83 (by kernel_rfl) (by kernel_rfl)
              exact lt_value _ rfl rfl (pick_run 69 true _ _ _ _ rfl h0 h1 rfl) hS (by decide) (by decide) rfl
            · obtain rfl := Option.some.inj hi
              have h0 := pre_of hpre 36 84 (by kernel_rfl) (by kernel_rfl)
              exact lt_last _ rfl rfl rfl (been_of hfw 0 (by kernel_rfl)) (by decide) h0
          · intro a' w10 f inv hS hall hd
            have hk37 := hd 37 5 (by kernel_rfl)
            have ho : Only [] W9 w10 := inv.grow
            have hdf : a'.defers = [] := inv.defers
            have hsz : a'.tmps.size = 130 := inv.size
            have e := frame4_10 hsz (fun t ht => inv.old t (dstsIn_spec (ts := [5, 48, 49, 50, 51, 52, 53, 54, 55, 56, 57, 58, 59, 60, 61, 62, 63, 64, 65, 66, 67, 68, 69, 70, 71, 72, 73, 74, 75, 76, 77, 78, 79, 80, 81, 82, 83, 84]) (by kernel_rfl) t ht))
            clear inv hd hsz hall hS
            obtain ⟨tmps, defers⟩ := a'
            obtain rfl : defers = [] := hdf
            replace e : tmps = _ := e
            replace hk37 : tmps.getD 5 undef = (.bool gb) := hk37
            generalize tmps.getD 5 undef = x5 at *
            generalize tmps.getD 48 undef = x48 at *
            generalize tmps.getD 49 undef = x49 at *
            generalize tmps.getD 50 undef = x50 at *
            generalize tmps.getD 51 undef = x51 at *
            generalize tmps.getD 52 undef = x52 at *
            generalize tmps.getD 53 undef = x53 at *
            generalize tmps.getD 54 undef = x54 at *
            generalize tmps.getD 55 undef = x55 at *
            generalize tmps.getD 56 undef = x56 at *
            generalize tmps.getD 57 undef = x57 at *
            generalize tmps.getD 58 undef = x58 at *
            generalize tmps.getD 59 undef = x59 at *
            generalize tmps.getD 60 undef = x60 at *
            generalize tmps.getD 61 undef = x61 at *
            generalize tmps.getD 62 undef = x62 at *
            generalize tmps.getD 63 undef = x63 at *
            generalize tmps.getD 64 undef = x64 at *
            generalize tmps.getD 65 undef = x65 at *
            generalize tmps.getD 66 undef = x66 at *
            generalize tmps.getD 67 undef = x67 at *
            generalize tmps.getD 68 undef = x68 at *
            generalize tmps.getD 69 undef = x69 at *
            generalize tmps.getD 70 undef = x70 at *
            generalize tmps.getD 71 undef = x71 at *
            generalize tmps.getD 72 undef = x72 at *
            generalize tmps.getD 73 undef = x73 at *
            generalize tmps.getD 74 undef = x74 at *
            generalize tmps.getD 75 undef = x75 at *
            generalize tmps.getD 76 undef = x76 at *
            generalize tmps.getD 77 undef = x77 at *
            generalize tmps.getD 78 undef = x78 at *
            generalize tmps.getD 79 undef = x79 at *
            generalize tmps.getD 80 undef = x80 at *
            generalize tmps.getD 81 undef = x81 at *
            generalize tmps.getD 82 undef = x82 at *
            generalize tmps.getD 83 undef = x83 at *
            generalize tmps.getD 84 undef = x84 at *
            simp only [Array.getD_eq_getD_getElem?, List.getElem?_toArray, List.getElem?_cons_succ, List.getElem?_cons_zero, Option.getD_some] at e
            subst e
            subst hk37
            have ekk : (k : Int) = kk := HKK.out
            subst ekk
            have S10 : Hid (B2 w w10 #[.int .i64 pf, .int .i64 pe, .slice (some ⟨bm, om, none⟩) ml mc] #[.int .i64 a1, .int .i64 a2, .int .i64 a3, .slice np l4 nc, .slice vp l5 vc, .int .i64 a6, .int .i64 a7, .int .i64 a8, .slice wq l9 wcp]) := S9.out.step (ho.below (Nat.le_refl _) (by simp))
            have c8a := (HM.out w10 ho).1
            have c8b := (HM.out w10 ho).2.1
            obtain ⟨d0, d1, d2⟩ := S10.out.pcells
            clear HM S9 ho
            cases b with
            | true =>
              have HFK : Hid (fk pf ms (k + 1) = true) := by show fk pf ms (k + 1) = true; rw [fk, HAB.out.2]; rfl
              clear HAB
              go_wp2_with fail
              refine ⟨⟨k + 1, gb, true, by omega, rfl, rfl, by simp, S10, ⟨HWK.out, HFK.out⟩⟩, ?_⟩
              simp only [intOf]
              omega
            | false =>
              by_cases hwf : who = pf
              · have HFK : Hid (fk pf ms (k + 1) = (ri == 7)) := by show fk pf ms (k + 1) = _; rw [fk, HAB.out.2, HWH.out, HRI.out, Bool.false_or, hwf]; simp only [true_and]; rfl
                have hE : (who == pf) = true := by simpa using hwf
                clear HAB hwf
                go_wp2_with fail
                refine ⟨⟨k + 1, gb, (ri == 7), by omega, rfl, rfl, by simp, S10, ⟨HWK.out, HFK.out⟩⟩, ?_⟩
                simp only [intOf]
                omega
              · have HFK : Hid (fk pf ms (k + 1) = false) := by show fk pf ms (k + 1) = _; rw [fk, HAB.out.2, HWH.out, HRI.out, Bool.false_or]; exact decide_eq_false (fun h => hwf h.1)
                have hE : (who == pf) = false := by simpa using hwf
                clear HAB
                go_wp2_with fail
                refine ⟨⟨k + 1, gb, false, by omega, rfl, rfl, by simp, S10, ⟨HWK.out, HFK.out⟩⟩, ?_⟩
                simp only [intOf]
                omega
    · obtain rfl : ml = k := by omega
      have k1 : ¬ (ml : Int) < (ml : Int) := by omega
      cases a with
      | false =>
        have hpr : pr = false := by have := HPR.out; rw [HAB.out.1] at this; simpa using this
        clear HAB HPR HMB
        subst hpr
        obtain ⟨d0, d1, d2⟩ := SK.out.pcells
        obtain ⟨f0, f1, f2, f3, f4, f5, f6, f7, f8⟩ := SK.out.ecells
        go_wp2_with fail
        refine (HAW.out (by trivial) _ SK.out).mono ?_
        rintro x w4 ⟨rfl, S4⟩
        have S5 : Hid (B2 w (w4.alloc (.cells #[.int .i64 0, .int .i64 0, .slice none 0 0] 26)) #[.int .i64 pf, .int .i64 pe, .slice mq ml mc] #[.int .i64 a1, .int .i64 a2, .int .i64 a3, .slice np l4 nc, .slice vp l5 vc, .int .i64 a6, .int .i64 a7, .int .i64 a8, .slice wq l9 wcp]) := S4.step (bel_alloc (Nat.le_refl _) _)
        have R5 : Hid ((w4.alloc (.cells #[.int .i64 0, .int .i64 0, .slice none 0 0] 26)).heap[w4.heap.size]? = some (.cells #[.int .i64 0, .int .i64 0, .slice none 0 0] 26 (0, 0))) := heap_alloc_new w4 _
        clear S4 SK f0 f1 f2 f3 f4 f5 f6 f7 f8 d0 d1 d2
        obtain ⟨d0, d1, d2⟩ := S5.out.pcells
        go_wp2_with fail
        refine (HRG.out _ S5.out).mono ?_
        clear d0 d1 d2
        generalize w4.alloc (.cells #[.int .i64 0, .int .i64 0, .slice none 0 0] 26) = W5 at *
        generalize w4.heap.size = b9 at *
        rintro x w6 ⟨rfl, B6⟩
        have S6 : Hid (B2 w w6 #[.int .i64 pf, .int .i64 pe, .slice mq ml mc] #[.int .i64 a1, .int .i64 a2, .int .i64 a3, .slice np l4 nc, .slice vp l5 vc, .int .i64 a6, .int .i64 a7, .int .i64 a8, .slice wq l9 wcp]) := S5.out.step B6
        have R6 : Hid (w6.heap[b9]? = some (.cells #[.int .i64 0, .int .i64 0, .slice none 0 0] 26 (0, 0))) := (B6.block _ (Array.getElem?_eq_some_iff.1 R5.out).1).trans R5.out
        clear S5 R5 B6
        obtain ⟨d0, d1, d2⟩ := S6.out.pcells
        obtain ⟨f0, f1, f2, f3, f4, f5, f6, f7, f8⟩ := S6.out.ecells
        go_wp2_with fail
        refine (HMY.out (by trivial) _ S6.out).mono ?_
        rintro x w7 ⟨rfl, B7⟩
        have S7 : Hid (B2 w w7 #[.int .i64 pf, .int .i64 pe, .slice mq ml mc] #[.int .i64 a1, .int .i64 a2, .int .i64 a3, .slice np l4 nc, .slice vp l5 vc, .int .i64 a6, .int .i64 a7, .int .i64 a8, .slice wq l9 wcp]) := S6.out.step B7
        have c92 : w7.cell? ⟨b9, 2, none⟩ = some (.slice none 0 0) := by rw [cell_of_row _ _ _ _ _ _ ((B7.block _ (Array.getElem?_eq_some_iff.1 R6.out).1).trans R6.out)]; rfl
        clear S6 R6 B7 f0 f1 f2 f3 f4 f5 f6 f7 f8 d0 d1 d2
        go_wp2_with fail
        go_ret
        exact ⟨rfl, S7.out.bel⟩
      | true =>
        cases b with
        | false =>
          have hpr : pr = false := by have := HPR.out; rw [HAB.out.1, HAB.out.2] at this; simpa using this
          clear HAB HPR HMB
          subst hpr
          obtain ⟨d0, d1, d2⟩ := SK.out.pcells
          obtain ⟨f0, f1, f2, f3, f4, f5, f6, f7, f8⟩ := SK.out.ecells
          go_wp2_with fail
          refine (HAW.out (by trivial) _ SK.out).mono ?_
          rintro x w4 ⟨rfl, S4⟩
          have S5 : Hid (B2 w (w4.alloc (.cells #[.int .i64 0, .int .i64 0, .slice none 0 0] 26)) #[.int .i64 pf, .int .i64 pe, .slice mq ml mc] #[.int .i64 a1, .int .i64 a2, .int .i64 a3, .slice np l4 nc, .slice vp l5 vc, .int .i64 a6, .int .i64 a7, .int .i64 a8, .slice wq l9 wcp]) := S4.step (bel_alloc (Nat.le_refl _) _)
          have R5 : Hid ((w4.alloc (.cells #[.int .i64 0, .int .i64 0, .slice none 0 0] 26)).heap[w4.heap.size]? = some (.cells #[.int .i64 0, .int .i64 0, .slice none 0 0] 26 (0, 0))) := heap_alloc_new w4 _
          clear S4 SK f0 f1 f2 f3 f4 f5 f6 f7 f8 d0 d1 d2
          obtain ⟨d0, d1, d2⟩ := S5.out.pcells
          go_wp2_with fail
          refine (HRG.out _ S5.out).mono ?_
          clear d0 d1 d2
          generalize w4.alloc (.cells #[.int .i64 0, .int .i64 0, .slice none 0 0] 26) = W5 at *
          generalize w4.heap.size = b9 at *
          rintro x w6 ⟨rfl, B6⟩
          have S6 : Hid (B2 w w6 #[.int .i64 pf, .int .i64 pe, .slice mq ml mc] #[.int .i64 a1, .int .i64 a2, .int .i64 a3, .slice np l4 nc, .slice vp l5 vc, .int .i64 a6, .int .i64 a7, .int .i64 a8, .slice wq l9 wcp]) := S5.out.step B6
          have R6 : Hid (w6.heap[b9]? = some (.cells #[.int .i64 0, .int .i64 0, .slice none 0 0] 26 (0, 0))) := (B6.block _ (Array.getElem?_eq_some_iff.1 R5.out).1).trans R5.out
          clear S5 R5 B6
          obtain ⟨d0, d1, d2⟩ := S6.out.pcells
          obtain ⟨f0, f1, f2, f3, f4, f5, f6, f7, f8⟩ := S6.out.ecells
          go_wp2_with fail
          refine (HMY.out (by trivial) _ S6.out).mono ?_
          rintro x w7 ⟨rfl, B7⟩
          have S7 : Hid (B2 w w7 #[.int .i64 pf, .int .i64 pe, .slice mq ml mc] #[.int .i64 a1, .int .i64 a2, .int .i64 a3, .slice np l4 nc, .slice vp l5 vc, .int .i64 a6, .int .i64 a7, .int .i64 a8, .slice wq l9 wcp]) := S6.out.step B7
          have c92 : w7.cell? ⟨b9, 2, none⟩ = some (.slice none 0 0) := by rw [cell_of_row _ _ _ _ _ _ ((B7.block _ (Array.getElem?_eq_some_iff.1 R6.out).1).trans R6.out)]; rfl
          clear S6 R6 B7 f0 f1 f2 f3 f4 f5 f6 f7 f8 d0 d1 d2
          go_wp2_with fail
          go_ret
          exact ⟨rfl, S7.out.bel⟩
        | true =>
          have hpr : pr = true := by have := HPR.out; rw [HAB.out.1, HAB.out.2] at this; simpa using this
          clear HAB HPR HMB
          subst hpr
          obtain ⟨d0, d1, d2⟩ := SK.out.pcells
          obtain ⟨f0, f1, f2, f3, f4, f5, f6, f7, f8⟩ := SK.out.ecells
          go_wp2_with fail
          refine (HAR.out _ SK.out).mono ?_
          rintro x w4 ⟨f2', e2', q2, n2, c2', r2, rfl, S4⟩
          have S5 : Hid (B2 w (w4.alloc (.cells #[.int .i64 f2', .int .i64 e2', .slice q2 n2 c2'] 26)) #[.int .i64 pf, .int .i64 pe, .slice mq ml mc] #[.int .i64 a1, .int .i64 a2, .int .i64 a3, .slice np l4 nc, .slice vp l5 vc, .int .i64 a6, .int .i64 a7, .int .i64 a8, .slice wq l9 wcp]) := S4.step (bel_alloc (Nat.le_refl _) _)
          have R5 : Hid ((w4.alloc (.cells #[.int .i64 f2', .int .i64 e2', .slice q2 n2 c2'] 26)).heap[w4.heap.size]? = some (.cells #[.int .i64 f2', .int .i64 e2', .slice q2 n2 c2'] 26 (0, 0))) := heap_alloc_new w4 _
          clear S4 SK f0 f1 f2 f3 f4 f5 f6 f7 f8 d0 d1 d2
          obtain ⟨d0, d1, d2⟩ := S5.out.pcells
          go_wp2_with fail
          refine (HRG.out _ S5.out).mono ?_
          clear d0 d1 d2
          generalize w4.alloc (.cells #[.int .i64 f2', .int .i64 e2', .slice q2 n2 c2'] 26) = W5 at *
          generalize w4.heap.size = b9 at *
          rintro x w6 ⟨rfl, B6⟩
          have S6 : Hid (B2 w w6 #[.int .i64 pf, .int .i64 pe, .slice mq ml mc] #[.int .i64 a1, .int .i64 a2, .int .i64 a3, .slice np l4 nc, .slice vp l5 vc, .int .i64 a6, .int .i64 a7, .int .i64 a8, .slice wq l9 wcp]) := S5.out.step B6
          go_wp2_with fail
          go_ret
          exact ⟨rfl, S6.out.bel⟩
theorem forms_any (p : Pol) (e : En) (vp0 ve0 : Value) (w : World) (hp : PolIs w vp0 p) (hE : EnIs w ve0 e) : Calls Try.prog 4 #[vp0, ve0] w fun x w' => x = .returned (.bool true) ∧ Below w.heap.size w w' := by
  by_cases h : 40 < p.ms.length
  · exact pf_many p e vp0 ve0 w hp hE (by obtain ⟨_, _, _, _, h⟩ := hp; exact h) h
  · cases hs : small e with
    | false => exact pf_big p e vp0 ve0 w hp hE (by omega) hs
    | true => exact pf_main p e vp0 ve0 w hp hE (by omega) hs
end Go.Proofs.Ytmlnbbggfjgacaa.P10
