/- The contracts of allows and May. -/
import Derived.Test.YtmlnbbggfjgacaaP10Fits
namespace Go.Proofs.Ytmlnbbggfjgacaa.P10
open Go.RowKit C8 E9
theorem and6 {x : Int} (h : 0 ≤ x ∧ x ≤ 7) : ∃ y, bits BinOp.and .i64 x 6 = y ∧ ((y != 0) = decide (2 ≤ x)) := by
  obtain rfl | rfl | rfl | rfl | rfl | rfl | rfl | rfl : x = 0 ∨ x = 1 ∨ x = 2 ∨ x = 3 ∨ x = 4 ∨ x = 5 ∨ x = 6 ∨ x = 7 := by omega
  all_goals exact ⟨_, rfl, by decide⟩
theorem and4 {x : Int} (h : 0 ≤ x ∧ x ≤ 7) : ∃ y, bits BinOp.and .i64 x 4 = y ∧ ((y != 0) = decide (4 ≤ x)) := by
  obtain rfl | rfl | rfl | rfl | rfl | rfl | rfl | rfl : x = 0 ∨ x = 1 ∨ x = 2 ∨ x = 3 ∨ x = 4 ∨ x = 5 ∨ x = 6 ∨ x = 7 := by omega
  all_goals exact ⟨_, rfl, by decide⟩
theorem rts_range : ∀ {ms : List (Int × Int)} {last : Int}, mok last ms = true → ∀ w, 0 ≤ rts ms w ∧ rts ms w ≤ 7
  | [], _, _, w => by simp [rts]
  | x :: r, last, h, w => by
    have h0 := mok_at h x List.mem_cons_self
    unfold mok at h
    simp only [Bool.and_eq_true, decide_eq_true_eq] at h
    unfold rts
    split
    · omega
    · exact rts_range h.2 w
/-- An entry may be, by its writer's rights. -/
def allows (p : Pol) (e : En) : Bool :=
  if e.kind = 1 ∨ e.kind = 2 then decide (2 ≤ rts p.ms e.writer) else if e.kind = 3 ∨ e.kind = 4 then decide (4 ≤ rts p.ms e.writer ∧ e.who ≠ p.f) else if e.kind = 5 then decide (4 ≤ rts p.ms e.writer) else false
/-- What May tells. -/
def may (p : Pol) (e : En) : Int :=
  if pright p = true ∧ right e = true then (if allows p e = true then (if e.kind = 5 ∧ fits p e = false then 34 else 0) else 30) else 10
set_option maxHeartbeats 4000000 in
theorem allows_1 (p : Pol) (e : En) (vp0 ve0 : Value) (w : World) (hp : PolIs w vp0 p) (hE : EnIs w ve0 e) (r : Int) (hr : rts p.ms e.writer = r) (h07 : 0 ≤ r ∧ r ≤ 7) (hk : e.kind = 1) : Calls Try.prog 32 #[vp0, ve0] w fun x w' => x = .returned (.bool (decide (2 ≤ r))) ∧ Below w.heap.size w w' := by
  have hP := hp
  obtain ⟨mq, mc, rfl, -, -⟩ := hp
  have hEE := hE
  obtain ⟨np, nc, vp, vc, q, c, rfl, -⟩ := hE
  have HC21 : ∀ W, Hid (B2 w W (PolV p mq mc) (EnV e np nc vp vc q c)) → Calls Try.prog 21 #[.agg (PolV p mq mc), .int .i64 e.writer] W fun x w' => x = .returned (.int .i64 (rts p.ms e.writer)) ∧ Hid (B2 w w' (PolV p mq mc) (EnV e np nc vp vc q c)) ∧ w'.cell? ⟨w.heap.size, 0, none⟩ = some (.int .i64 p.f) ∧ w'.cell? ⟨w.heap.size, 1, none⟩ = some (.int .i64 p.e) ∧ w'.cell? ⟨w.heap.size, 2, none⟩ = some (.slice mq p.ms.length mc) ∧ w'.cell? ⟨(w.heap.size + 1), 0, none⟩ = some (.int .i64 e.kind) ∧ w'.cell? ⟨(w.heap.size + 1), 1, none⟩ = some (.int .i64 e.writer) ∧ w'.cell? ⟨(w.heap.size + 1), 2, none⟩ = some (.int .i64 e.seq) ∧ w'.cell? ⟨(w.heap.size + 1), 3, none⟩ = some (.slice np e.name.length nc) ∧ w'.cell? ⟨(w.heap.size + 1), 4, none⟩ = some (.slice vp e.value.length vc) ∧ w'.cell? ⟨(w.heap.size + 1), 5, none⟩ = some (.int .i64 e.who) ∧ w'.cell? ⟨(w.heap.size + 1), 6, none⟩ = some (.int .i64 e.rights) ∧ w'.cell? ⟨(w.heap.size + 1), 7, none⟩ = some (.int .i64 e.epoch) ∧ w'.cell? ⟨(w.heap.size + 1), 8, none⟩ = some (.slice q e.wraps.length c) := fun W h => (Rights_any p _ e.writer W (hP.below h.out.bel)).mono (by rintro x w' ⟨rfl, hb⟩; exact ⟨rfl, h.out.step hb, (h.out.step hb).pcells.1, (h.out.step hb).pcells.2.1, (h.out.step hb).pcells.2.2, (h.out.step hb).ecells⟩)
  rw [hr] at HC21
  have HS0 : Hid (B2 w ((w.alloc (.cells (PolV p mq mc) 26)).alloc (.cells (EnV e np nc vp vc q c) 38)) (PolV p mq mc) (EnV e np nc vp vc q c)) := B2.start w _ _
  clear hP hEE hr
  obtain ⟨y, hy1, hy2⟩ := and6 h07
  obtain ⟨pf, pe, ms⟩ := p
  obtain ⟨e1, e2, e3, e4, e5, e6, e7, e8, e9⟩ := e
  simp only [PolV, EnV] at *
  generalize ms.length = ml at *
  generalize e4.length = l4 at *
  generalize e5.length = l5 at *
  generalize e9.length = l9 at *
  subst hk
  generalize decide (2 ≤ r) = res at *
  go_enter Try.func32, Try.ntmps32
  go_wp2_with (first | (go_at_call 21; refine (HC21 _ HS0).mono ?_; rintro x w1 ⟨rfl, S1, d0, d1, d2, f0, f1, f2, f3, f4, f5, f6, f7, f8⟩))
  go_ret
  exact ⟨rfl, S1.out.bel⟩
set_option maxHeartbeats 4000000 in
theorem allows_2 (p : Pol) (e : En) (vp0 ve0 : Value) (w : World) (hp : PolIs w vp0 p) (hE : EnIs w ve0 e) (r : Int) (hr : rts p.ms e.writer = r) (h07 : 0 ≤ r ∧ r ≤ 7) (hk : e.kind = 2) : Calls Try.prog 32 #[vp0, ve0] w fun x w' => x = .returned (.bool (decide (2 ≤ r))) ∧ Below w.heap.size w w' := by
  have hP := hp
  obtain ⟨mq, mc, rfl, -, -⟩ := hp
  have hEE := hE
  obtain ⟨np, nc, vp, vc, q, c, rfl, -⟩ := hE
  have HC21 : ∀ W, Hid (B2 w W (PolV p mq mc) (EnV e np nc vp vc q c)) → Calls Try.prog 21 #[.agg (PolV p mq mc), .int .i64 e.writer] W fun x w' => x = .returned (.int .i64 (rts p.ms e.writer)) ∧ Hid (B2 w w' (PolV p mq mc) (EnV e np nc vp vc q c)) ∧ w'.cell? ⟨w.heap.size, 0, none⟩ = some (.int .i64 p.f) ∧ w'.cell? ⟨w.heap.size, 1, none⟩ = some (.int .i64 p.e) ∧ w'.cell? ⟨w.heap.size, 2, none⟩ = some (.slice mq p.ms.length mc) ∧ w'.cell? ⟨(w.heap.size + 1), 0, none⟩ = some (.int .i64 e.kind) ∧ w'.cell? ⟨(w.heap.size + 1), 1, none⟩ = some (.int .i64 e.writer) ∧ w'.cell? ⟨(w.heap.size + 1), 2, none⟩ = some (.int .i64 e.seq) ∧ w'.cell? ⟨(w.heap.size + 1), 3, none⟩ = some (.slice np e.name.length nc) ∧ w'.cell? ⟨(w.heap.size + 1), 4, none⟩ = some (.slice vp e.value.length vc) ∧ w'.cell? ⟨(w.heap.size + 1), 5, none⟩ = some (.int .i64 e.who) ∧ w'.cell? ⟨(w.heap.size + 1), 6, none⟩ = some (.int .i64 e.rights) ∧ w'.cell? ⟨(w.heap.size + 1), 7, none⟩ = some (.int .i64 e.epoch) ∧ w'.cell? ⟨(w.heap.size + 1), 8, none⟩ = some (.slice q e.wraps.length c) := fun W h => (Rights_any p _ e.writer W (hP.below h.out.bel)).mono (by rintro x w' ⟨rfl, hb⟩; exact ⟨rfl, h.out.step hb, (h.out.step hb).pcells.1, (h.out.step hb).pcells.2.1, (h.out.step hb).pcells.2.2, (h.out.step hb).ecells⟩)
  rw [hr] at HC21
  have HS0 : Hid (B2 w ((w.alloc (.cells (PolV p mq mc) 26)).alloc (.cells (EnV e np nc vp vc q c) 38)) (PolV p mq mc) (EnV e np nc vp vc q c)) := B2.start w _ _
  clear hP hEE hr
  obtain ⟨y, hy1, hy2⟩ := and6 h07
  obtain ⟨pf, pe, ms⟩ := p
  obtain ⟨e1, e2, e3, e4, e5, e6, e7, e8, e9⟩ := e
  simp only [PolV, EnV] at *
  generalize ms.length = ml at *
  generalize e4.length = l4 at *
  generalize e5.length = l5 at *
  generalize e9.length = l9 at *
  subst hk
  generalize decide (2 ≤ r) = res at *
  go_enter Try.func32, Try.ntmps32
  go_wp2_with (first | (go_at_call 21; refine (HC21 _ HS0).mono ?_; rintro x w1 ⟨rfl, S1, d0, d1, d2, f0, f1, f2, f3, f4, f5, f6, f7, f8⟩))
  go_ret
  exact ⟨rfl, S1.out.bel⟩
set_option maxHeartbeats 4000000 in
theorem allows_3 (p : Pol) (e : En) (vp0 ve0 : Value) (w : World) (hp : PolIs w vp0 p) (hE : EnIs w ve0 e) (r : Int) (hr : rts p.ms e.writer = r) (h07 : 0 ≤ r ∧ r ≤ 7) (hk : e.kind = 3) : Calls Try.prog 32 #[vp0, ve0] w fun x w' => x = .returned (.bool (decide (4 ≤ r ∧ e.who ≠ p.f))) ∧ Below w.heap.size w w' := by
  have hP := hp
  obtain ⟨mq, mc, rfl, -, -⟩ := hp
  have hEE := hE
  obtain ⟨np, nc, vp, vc, q, c, rfl, -⟩ := hE
  have HC21 : ∀ W, Hid (B2 w W (PolV p mq mc) (EnV e np nc vp vc q c)) → Calls Try.prog 21 #[.agg (PolV p mq mc), .int .i64 e.writer] W fun x w' => x = .returned (.int .i64 (rts p.ms e.writer)) ∧ Hid (B2 w w' (PolV p mq mc) (EnV e np nc vp vc q c)) ∧ w'.cell? ⟨w.heap.size, 0, none⟩ = some (.int .i64 p.f) ∧ w'.cell? ⟨w.heap.size, 1, none⟩ = some (.int .i64 p.e) ∧ w'.cell? ⟨w.heap.size, 2, none⟩ = some (.slice mq p.ms.length mc) ∧ w'.cell? ⟨(w.heap.size + 1), 0, none⟩ = some (.int .i64 e.kind) ∧ w'.cell? ⟨(w.heap.size + 1), 1, none⟩ = some (.int .i64 e.writer) ∧ w'.cell? ⟨(w.heap.size + 1), 2, none⟩ = some (.int .i64 e.seq) ∧ w'.cell? ⟨(w.heap.size + 1), 3, none⟩ = some (.slice np e.name.length nc) ∧ w'.cell? ⟨(w.heap.size + 1), 4, none⟩ = some (.slice vp e.value.length vc) ∧ w'.cell? ⟨(w.heap.size + 1), 5, none⟩ = some (.int .i64 e.who) ∧ w'.cell? ⟨(w.heap.size + 1), 6, none⟩ = some (.int .i64 e.rights) ∧ w'.cell? ⟨(w.heap.size + 1), 7, none⟩ = some (.int .i64 e.epoch) ∧ w'.cell? ⟨(w.heap.size + 1), 8, none⟩ = some (.slice q e.wraps.length c) := fun W h => (Rights_any p _ e.writer W (hP.below h.out.bel)).mono (by rintro x w' ⟨rfl, hb⟩; exact ⟨rfl, h.out.step hb, (h.out.step hb).pcells.1, (h.out.step hb).pcells.2.1, (h.out.step hb).pcells.2.2, (h.out.step hb).ecells⟩)
  rw [hr] at HC21
  have HS0 : Hid (B2 w ((w.alloc (.cells (PolV p mq mc) 26)).alloc (.cells (EnV e np nc vp vc q c) 38)) (PolV p mq mc) (EnV e np nc vp vc q c)) := B2.start w _ _
  clear hP hEE hr
  obtain ⟨y, hy1, hy2⟩ := and4 h07
  have HR : Hid (decide (4 ≤ r ∧ e.who ≠ p.f) = (decide (4 ≤ r) && decide (e.who ≠ p.f))) := by show _ = _; simp
  rw [HR.out]
  obtain ⟨pf, pe, ms⟩ := p
  obtain ⟨e1, e2, e3, e4, e5, e6, e7, e8, e9⟩ := e
  simp only [PolV, EnV] at *
  generalize ms.length = ml at *
  generalize e4.length = l4 at *
  generalize e5.length = l5 at *
  generalize e9.length = l9 at *
  subst hk
  generalize decide (4 ≤ r) = b4 at *
  cases b4 with
  | false =>
    go_enter Try.func32, Try.ntmps32
    go_wp2_with (first | (go_at_call 21; refine (HC21 _ HS0).mono ?_; rintro x w1 ⟨rfl, S1, d0, d1, d2, f0, f1, f2, f3, f4, f5, f6, f7, f8⟩))
    go_ret
    exact ⟨rfl, S1.out.bel⟩
  | true =>
    have hne : (e6 != pf) = decide (e6 ≠ pf) := by by_cases h : e6 = pf <;> simp [h]
    generalize decide (e6 ≠ pf) = res at *
    go_enter Try.func32, Try.ntmps32
    go_wp2_with (first | (go_at_call 21; refine (HC21 _ HS0).mono ?_; rintro x w1 ⟨rfl, S1, d0, d1, d2, f0, f1, f2, f3, f4, f5, f6, f7, f8⟩))
    go_ret
    exact ⟨by simp, S1.out.bel⟩
set_option maxHeartbeats 4000000 in
theorem allows_4 (p : Pol) (e : En) (vp0 ve0 : Value) (w : World) (hp : PolIs w vp0 p) (hE : EnIs w ve0 e) (r : Int) (hr : rts p.ms e.writer = r) (h07 : 0 ≤ r ∧ r ≤ 7) (hk : e.kind = 4) : Calls Try.prog 32 #[vp0, ve0] w fun x w' => x = .returned (.bool (decide (4 ≤ r ∧ e.who ≠ p.f))) ∧ Below w.heap.size w w' := by
  have hP := hp
  obtain ⟨mq, mc, rfl, -, -⟩ := hp
  have hEE := hE
  obtain ⟨np, nc, vp, vc, q, c, rfl, -⟩ := hE
  have HC21 : ∀ W, Hid (B2 w W (PolV p mq mc) (EnV e np nc vp vc q c)) → Calls Try.prog 21 #[.agg (PolV p mq mc), .int .i64 e.writer] W fun x w' => x = .returned (.int .i64 (rts p.ms e.writer)) ∧ Hid (B2 w w' (PolV p mq mc) (EnV e np nc vp vc q c)) ∧ w'.cell? ⟨w.heap.size, 0, none⟩ = some (.int .i64 p.f) ∧ w'.cell? ⟨w.heap.size, 1, none⟩ = some (.int .i64 p.e) ∧ w'.cell? ⟨w.heap.size, 2, none⟩ = some (.slice mq p.ms.length mc) ∧ w'.cell? ⟨(w.heap.size + 1), 0, none⟩ = some (.int .i64 e.kind) ∧ w'.cell? ⟨(w.heap.size + 1), 1, none⟩ = some (.int .i64 e.writer) ∧ w'.cell? ⟨(w.heap.size + 1), 2, none⟩ = some (.int .i64 e.seq) ∧ w'.cell? ⟨(w.heap.size + 1), 3, none⟩ = some (.slice np e.name.length nc) ∧ w'.cell? ⟨(w.heap.size + 1), 4, none⟩ = some (.slice vp e.value.length vc) ∧ w'.cell? ⟨(w.heap.size + 1), 5, none⟩ = some (.int .i64 e.who) ∧ w'.cell? ⟨(w.heap.size + 1), 6, none⟩ = some (.int .i64 e.rights) ∧ w'.cell? ⟨(w.heap.size + 1), 7, none⟩ = some (.int .i64 e.epoch) ∧ w'.cell? ⟨(w.heap.size + 1), 8, none⟩ = some (.slice q e.wraps.length c) := fun W h => (Rights_any p _ e.writer W (hP.below h.out.bel)).mono (by rintro x w' ⟨rfl, hb⟩; exact ⟨rfl, h.out.step hb, (h.out.step hb).pcells.1, (h.out.step hb).pcells.2.1, (h.out.step hb).pcells.2.2, (h.out.step hb).ecells⟩)
  rw [hr] at HC21
  have HS0 : Hid (B2 w ((w.alloc (.cells (PolV p mq mc) 26)).alloc (.cells (EnV e np nc vp vc q c) 38)) (PolV p mq mc) (EnV e np nc vp vc q c)) := B2.start w _ _
  clear hP hEE hr
  obtain ⟨y, hy1, hy2⟩ := and4 h07
  have HR : Hid (decide (4 ≤ r ∧ e.who ≠ p.f) = (decide (4 ≤ r) && decide (e.who ≠ p.f))) := by show _ = _; simp
  rw [HR.out]
  obtain ⟨pf, pe, ms⟩ := p
  obtain ⟨e1, e2, e3, e4, e5, e6, e7, e8, e9⟩ := e
  simp only [PolV, EnV] at *
  generalize ms.length = ml at *
  generalize e4.length = l4 at *
  generalize e5.length = l5 at *
  generalize e9.length = l9 at *
  subst hk
  generalize decide (4 ≤ r) = b4 at *
  cases b4 with
  | false =>
    go_enter Try.func32, Try.ntmps32
    go_wp2_with (first | (go_at_call 21; refine (HC21 _ HS0).mono ?_; rintro x w1 ⟨rfl, S1, d0, d1, d2, f0, f1, f2, f3, f4, f5, f6, f7, f8⟩))
    go_ret
    exact ⟨rfl, S1.out.bel⟩
  | true =>
    have hne : (e6 != pf) = decide (e6 ≠ pf) := by by_cases h : e6 = pf <;> simp [h]
    generalize decide (e6 ≠ pf) = res at *
    go_enter Try.func32, Try.ntmps32
    go_wp2_with (first | (go_at_call 21; refine (HC21 _ HS0).mono ?_; rintro x w1 ⟨rfl, S1, d0, d1, d2, f0, f1, f2, f3, f4, f5, f6, f7, f8⟩))
    go_ret
    exact ⟨by simp, S1.out.bel⟩
set_option maxHeartbeats 4000000 in
theorem allows_5 (p : Pol) (e : En) (vp0 ve0 : Value) (w : World) (hp : PolIs w vp0 p) (hE : EnIs w ve0 e) (r : Int) (hr : rts p.ms e.writer = r) (h07 : 0 ≤ r ∧ r ≤ 7) (hk : e.kind = 5) : Calls Try.prog 32 #[vp0, ve0] w fun x w' => x = .returned (.bool (decide (4 ≤ r))) ∧ Below w.heap.size w w' := by
  have hP := hp
  obtain ⟨mq, mc, rfl, -, -⟩ := hp
  have hEE := hE
  obtain ⟨np, nc, vp, vc, q, c, rfl, -⟩ := hE
  have HC21 : ∀ W, Hid (B2 w W (PolV p mq mc) (EnV e np nc vp vc q c)) → Calls Try.prog 21 #[.agg (PolV p mq mc), .int .i64 e.writer] W fun x w' => x = .returned (.int .i64 (rts p.ms e.writer)) ∧ Hid (B2 w w' (PolV p mq mc) (EnV e np nc vp vc q c)) ∧ w'.cell? ⟨w.heap.size, 0, none⟩ = some (.int .i64 p.f) ∧ w'.cell? ⟨w.heap.size, 1, none⟩ = some (.int .i64 p.e) ∧ w'.cell? ⟨w.heap.size, 2, none⟩ = some (.slice mq p.ms.length mc) ∧ w'.cell? ⟨(w.heap.size + 1), 0, none⟩ = some (.int .i64 e.kind) ∧ w'.cell? ⟨(w.heap.size + 1), 1, none⟩ = some (.int .i64 e.writer) ∧ w'.cell? ⟨(w.heap.size + 1), 2, none⟩ = some (.int .i64 e.seq) ∧ w'.cell? ⟨(w.heap.size + 1), 3, none⟩ = some (.slice np e.name.length nc) ∧ w'.cell? ⟨(w.heap.size + 1), 4, none⟩ = some (.slice vp e.value.length vc) ∧ w'.cell? ⟨(w.heap.size + 1), 5, none⟩ = some (.int .i64 e.who) ∧ w'.cell? ⟨(w.heap.size + 1), 6, none⟩ = some (.int .i64 e.rights) ∧ w'.cell? ⟨(w.heap.size + 1), 7, none⟩ = some (.int .i64 e.epoch) ∧ w'.cell? ⟨(w.heap.size + 1), 8, none⟩ = some (.slice q e.wraps.length c) := fun W h => (Rights_any p _ e.writer W (hP.below h.out.bel)).mono (by rintro x w' ⟨rfl, hb⟩; exact ⟨rfl, h.out.step hb, (h.out.step hb).pcells.1, (h.out.step hb).pcells.2.1, (h.out.step hb).pcells.2.2, (h.out.step hb).ecells⟩)
  rw [hr] at HC21
  have HS0 : Hid (B2 w ((w.alloc (.cells (PolV p mq mc) 26)).alloc (.cells (EnV e np nc vp vc q c) 38)) (PolV p mq mc) (EnV e np nc vp vc q c)) := B2.start w _ _
  clear hP hEE hr
  obtain ⟨y, hy1, hy2⟩ := and4 h07
  obtain ⟨pf, pe, ms⟩ := p
  obtain ⟨e1, e2, e3, e4, e5, e6, e7, e8, e9⟩ := e
  simp only [PolV, EnV] at *
  generalize ms.length = ml at *
  generalize e4.length = l4 at *
  generalize e5.length = l5 at *
  generalize e9.length = l9 at *
  subst hk
  generalize decide (4 ≤ r) = res at *
  go_enter Try.func32, Try.ntmps32
  go_wp2_with (first | (go_at_call 21; refine (HC21 _ HS0).mono ?_; rintro x w1 ⟨rfl, S1, d0, d1, d2, f0, f1, f2, f3, f4, f5, f6, f7, f8⟩))
  go_ret
  exact ⟨rfl, S1.out.bel⟩
set_option maxHeartbeats 4000000 in
theorem allows_o (p : Pol) (e : En) (vp0 ve0 : Value) (w : World) (hp : PolIs w vp0 p) (hE : EnIs w ve0 e) (r : Int) (hr : rts p.ms e.writer = r) (h1 : ¬ e.kind = 1) (h2 : ¬ e.kind = 2) (h3 : ¬ e.kind = 3) (h4 : ¬ e.kind = 4) (h5 : ¬ e.kind = 5) : Calls Try.prog 32 #[vp0, ve0] w fun x w' => x = .returned (.bool (false)) ∧ Below w.heap.size w w' := by
  have hP := hp
  obtain ⟨mq, mc, rfl, -, -⟩ := hp
  have hEE := hE
  obtain ⟨np, nc, vp, vc, q, c, rfl, -⟩ := hE
  have HC21 : ∀ W, Hid (B2 w W (PolV p mq mc) (EnV e np nc vp vc q c)) → Calls Try.prog 21 #[.agg (PolV p mq mc), .int .i64 e.writer] W fun x w' => x = .returned (.int .i64 (rts p.ms e.writer)) ∧ Hid (B2 w w' (PolV p mq mc) (EnV e np nc vp vc q c)) ∧ w'.cell? ⟨w.heap.size, 0, none⟩ = some (.int .i64 p.f) ∧ w'.cell? ⟨w.heap.size, 1, none⟩ = some (.int .i64 p.e) ∧ w'.cell? ⟨w.heap.size, 2, none⟩ = some (.slice mq p.ms.length mc) ∧ w'.cell? ⟨(w.heap.size + 1), 0, none⟩ = some (.int .i64 e.kind) ∧ w'.cell? ⟨(w.heap.size + 1), 1, none⟩ = some (.int .i64 e.writer) ∧ w'.cell? ⟨(w.heap.size + 1), 2, none⟩ = some (.int .i64 e.seq) ∧ w'.cell? ⟨(w.heap.size + 1), 3, none⟩ = some (.slice np e.name.length nc) ∧ w'.cell? ⟨(w.heap.size + 1), 4, none⟩ = some (.slice vp e.value.length vc) ∧ w'.cell? ⟨(w.heap.size + 1), 5, none⟩ = some (.int .i64 e.who) ∧ w'.cell? ⟨(w.heap.size + 1), 6, none⟩ = some (.int .i64 e.rights) ∧ w'.cell? ⟨(w.heap.size + 1), 7, none⟩ = some (.int .i64 e.epoch) ∧ w'.cell? ⟨(w.heap.size + 1), 8, none⟩ = some (.slice q e.wraps.length c) := fun W h => (Rights_any p _ e.writer W (hP.below h.out.bel)).mono (by rintro x w' ⟨rfl, hb⟩; exact ⟨rfl, h.out.step hb, (h.out.step hb).pcells.1, (h.out.step hb).pcells.2.1, (h.out.step hb).pcells.2.2, (h.out.step hb).ecells⟩)
  rw [hr] at HC21
  have HS0 : Hid (B2 w ((w.alloc (.cells (PolV p mq mc) 26)).alloc (.cells (EnV e np nc vp vc q c) 38)) (PolV p mq mc) (EnV e np nc vp vc q c)) := B2.start w _ _
  clear hP hEE hr
  obtain ⟨pf, pe, ms⟩ := p
  obtain ⟨e1, e2, e3, e4, e5, e6, e7, e8, e9⟩ := e
  simp only [PolV, EnV] at *
  generalize ms.length = ml at *
  generalize e4.length = l4 at *
  generalize e5.length = l5 at *
  generalize e9.length = l9 at *
  have z1 : (e1 == 1) = false := by simp [h1]
  have z2 : (e1 == 2) = false := by simp [h2]
  have z3 : (e1 == 3) = false := by simp [h3]
  have z4 : (e1 == 4) = false := by simp [h4]
  have z5 : (e1 == 5) = false := by simp [h5]
  go_enter Try.func32, Try.ntmps32
  go_wp2_with (first | (go_at_call 21; refine (HC21 _ HS0).mono ?_; rintro x w1 ⟨rfl, S1, d0, d1, d2, f0, f1, f2, f3, f4, f5, f6, f7, f8⟩))
  go_ret
  exact ⟨rfl, S1.out.bel⟩
theorem allows_any (p : Pol) (e : En) (vp0 ve0 : Value) (w : World) (hp : PolIs w vp0 p) (hE : EnIs w ve0 e) (hm : mok 0 p.ms = true) : Calls Try.prog 32 #[vp0, ve0] w fun x w' => x = .returned (.bool (allows p e)) ∧ Below w.heap.size w w' := by
  have h07 := rts_range hm e.writer
  unfold allows
  by_cases h1 : e.kind = 1
  · rw [if_pos (.inl h1)]; exact allows_1 p e vp0 ve0 w hp hE _ rfl h07 h1
  · by_cases h2 : e.kind = 2
    · rw [if_pos (.inr h2)]; exact allows_2 p e vp0 ve0 w hp hE _ rfl h07 h2
    · rw [if_neg (by omega)]
      by_cases h3 : e.kind = 3
      · rw [if_pos (.inl h3)]; exact allows_3 p e vp0 ve0 w hp hE _ rfl h07 h3
      · by_cases h4 : e.kind = 4
        · rw [if_pos (.inr h4)]; exact allows_4 p e vp0 ve0 w hp hE _ rfl h07 h4
        · rw [if_neg (by omega)]
          by_cases h5 : e.kind = 5
          · rw [if_pos h5]; exact allows_5 p e vp0 ve0 w hp hE _ rfl h07 h5
          · rw [if_neg h5]; exact allows_o p e vp0 ve0 w hp hE _ rfl h1 h2 h3 h4 h5
theorem pright_of {p : Pol} (h : pright p = true) : (1 ≤ p.f ∧ p.f ≤ 16) ∧ (0 ≤ p.e ∧ p.e ≤ 16) ∧ mok 0 p.ms = true ∧ rts p.ms p.f = 7 ∧ p.ms ≠ [] := by
  unfold pright at h
  simp only [Bool.and_eq_true, decide_eq_true_eq] at h
  refine ⟨h.1.1.1, h.1.1.2, h.1.2, h.2, fun e => ?_⟩
  have := h.2
  rw [e] at this
  simp [rts] at this
set_option maxHeartbeats 4000000 in
theorem may_1 (p : Pol) (e : En) (vp0 ve0 : Value) (w : World) (hp : PolIs w vp0 p) (hE : EnIs w ve0 e) (h1 : pright p = false) : Calls Try.prog 18 #[vp0, ve0] w fun x w' => x = .returned (.int .i64 10) ∧ Below w.heap.size w w' := by
  have hP := hp
  obtain ⟨mq, mc, rfl, -, -⟩ := hp
  have hEE := hE
  obtain ⟨np, nc, vp, vc, q, c, rfl, -⟩ := hE
  have HC20 : ∀ W, Hid (B2 w W (PolV p mq mc) (EnV e np nc vp vc q c)) → Calls Try.prog 20 #[.agg (PolV p mq mc)] W fun x w' => x = .returned (.bool (pright p)) ∧ Hid (B2 w w' (PolV p mq mc) (EnV e np nc vp vc q c)) ∧ w'.cell? ⟨w.heap.size, 0, none⟩ = some (.int .i64 p.f) ∧ w'.cell? ⟨w.heap.size, 1, none⟩ = some (.int .i64 p.e) ∧ w'.cell? ⟨w.heap.size, 2, none⟩ = some (.slice mq p.ms.length mc) ∧ w'.cell? ⟨(w.heap.size + 1), 0, none⟩ = some (.int .i64 e.kind) ∧ w'.cell? ⟨(w.heap.size + 1), 1, none⟩ = some (.int .i64 e.writer) ∧ w'.cell? ⟨(w.heap.size + 1), 2, none⟩ = some (.int .i64 e.seq) ∧ w'.cell? ⟨(w.heap.size + 1), 3, none⟩ = some (.slice np e.name.length nc) ∧ w'.cell? ⟨(w.heap.size + 1), 4, none⟩ = some (.slice vp e.value.length vc) ∧ w'.cell? ⟨(w.heap.size + 1), 5, none⟩ = some (.int .i64 e.who) ∧ w'.cell? ⟨(w.heap.size + 1), 6, none⟩ = some (.int .i64 e.rights) ∧ w'.cell? ⟨(w.heap.size + 1), 7, none⟩ = some (.int .i64 e.epoch) ∧ w'.cell? ⟨(w.heap.size + 1), 8, none⟩ = some (.slice q e.wraps.length c) := fun W h => (pRight_any p _ W (hP.below h.out.bel)).mono (by rintro x w' ⟨rfl, hb⟩; exact ⟨rfl, h.out.step hb, (h.out.step hb).pcells.1, (h.out.step hb).pcells.2.1, (h.out.step hb).pcells.2.2, (h.out.step hb).ecells⟩)
  have HS0 : Hid (B2 w ((w.alloc (.cells (PolV p mq mc) 26)).alloc (.cells (EnV e np nc vp vc q c) 38)) (PolV p mq mc) (EnV e np nc vp vc q c)) := B2.start w _ _
  rw [h1] at HC20
  clear hP hEE h1
  obtain ⟨pf, pe, ms⟩ := p
  obtain ⟨e1, e2, e3, e4, e5, e6, e7, e8, e9⟩ := e
  simp only [PolV, EnV] at *
  generalize ms.length = ml at *
  generalize e4.length = l4 at *
  generalize e5.length = l5 at *
  generalize e9.length = l9 at *
  go_enter Try.func18, Try.ntmps18
  go_wp2_with (first | (go_at_call 20; refine (HC20 _ HS0).mono ?_; rintro x w1 ⟨rfl, S1, d0, d1, d2, f0, f1, f2, f3, f4, f5, f6, f7, f8⟩))
  go_ret
  exact ⟨rfl, S1.out.bel⟩
set_option maxHeartbeats 4000000 in
theorem may_2 (p : Pol) (e : En) (vp0 ve0 : Value) (w : World) (hp : PolIs w vp0 p) (hE : EnIs w ve0 e) (h1 : pright p = true) (h2 : right e = false) : Calls Try.prog 18 #[vp0, ve0] w fun x w' => x = .returned (.int .i64 10) ∧ Below w.heap.size w w' := by
  have hP := hp
  obtain ⟨mq, mc, rfl, -, -⟩ := hp
  have hEE := hE
  obtain ⟨np, nc, vp, vc, q, c, rfl, -⟩ := hE
  have HC20 : ∀ W, Hid (B2 w W (PolV p mq mc) (EnV e np nc vp vc q c)) → Calls Try.prog 20 #[.agg (PolV p mq mc)] W fun x w' => x = .returned (.bool (pright p)) ∧ Hid (B2 w w' (PolV p mq mc) (EnV e np nc vp vc q c)) ∧ w'.cell? ⟨w.heap.size, 0, none⟩ = some (.int .i64 p.f) ∧ w'.cell? ⟨w.heap.size, 1, none⟩ = some (.int .i64 p.e) ∧ w'.cell? ⟨w.heap.size, 2, none⟩ = some (.slice mq p.ms.length mc) ∧ w'.cell? ⟨(w.heap.size + 1), 0, none⟩ = some (.int .i64 e.kind) ∧ w'.cell? ⟨(w.heap.size + 1), 1, none⟩ = some (.int .i64 e.writer) ∧ w'.cell? ⟨(w.heap.size + 1), 2, none⟩ = some (.int .i64 e.seq) ∧ w'.cell? ⟨(w.heap.size + 1), 3, none⟩ = some (.slice np e.name.length nc) ∧ w'.cell? ⟨(w.heap.size + 1), 4, none⟩ = some (.slice vp e.value.length vc) ∧ w'.cell? ⟨(w.heap.size + 1), 5, none⟩ = some (.int .i64 e.who) ∧ w'.cell? ⟨(w.heap.size + 1), 6, none⟩ = some (.int .i64 e.rights) ∧ w'.cell? ⟨(w.heap.size + 1), 7, none⟩ = some (.int .i64 e.epoch) ∧ w'.cell? ⟨(w.heap.size + 1), 8, none⟩ = some (.slice q e.wraps.length c) := fun W h => (pRight_any p _ W (hP.below h.out.bel)).mono (by rintro x w' ⟨rfl, hb⟩; exact ⟨rfl, h.out.step hb, (h.out.step hb).pcells.1, (h.out.step hb).pcells.2.1, (h.out.step hb).pcells.2.2, (h.out.step hb).ecells⟩)
  have HC23 : ∀ W, Hid (B2 w W (PolV p mq mc) (EnV e np nc vp vc q c)) → Calls Try.prog 23 #[.agg (EnV e np nc vp vc q c)] W fun x w' => x = .returned (.bool (right e)) ∧ Hid (B2 w w' (PolV p mq mc) (EnV e np nc vp vc q c)) ∧ w'.cell? ⟨w.heap.size, 0, none⟩ = some (.int .i64 p.f) ∧ w'.cell? ⟨w.heap.size, 1, none⟩ = some (.int .i64 p.e) ∧ w'.cell? ⟨w.heap.size, 2, none⟩ = some (.slice mq p.ms.length mc) ∧ w'.cell? ⟨(w.heap.size + 1), 0, none⟩ = some (.int .i64 e.kind) ∧ w'.cell? ⟨(w.heap.size + 1), 1, none⟩ = some (.int .i64 e.writer) ∧ w'.cell? ⟨(w.heap.size + 1), 2, none⟩ = some (.int .i64 e.seq) ∧ w'.cell? ⟨(w.heap.size + 1), 3, none⟩ = some (.slice np e.name.length nc) ∧ w'.cell? ⟨(w.heap.size + 1), 4, none⟩ = some (.slice vp e.value.length vc) ∧ w'.cell? ⟨(w.heap.size + 1), 5, none⟩ = some (.int .i64 e.who) ∧ w'.cell? ⟨(w.heap.size + 1), 6, none⟩ = some (.int .i64 e.rights) ∧ w'.cell? ⟨(w.heap.size + 1), 7, none⟩ = some (.int .i64 e.epoch) ∧ w'.cell? ⟨(w.heap.size + 1), 8, none⟩ = some (.slice q e.wraps.length c) := fun W h => (Right_any e _ W (hEE.below h.out.bel)).mono (by rintro x w' ⟨rfl, hb⟩; exact ⟨rfl, h.out.step hb, (h.out.step hb).pcells.1, (h.out.step hb).pcells.2.1, (h.out.step hb).pcells.2.2, (h.out.step hb).ecells⟩)
  have HS0 : Hid (B2 w ((w.alloc (.cells (PolV p mq mc) 26)).alloc (.cells (EnV e np nc vp vc q c) 38)) (PolV p mq mc) (EnV e np nc vp vc q c)) := B2.start w _ _
  rw [h1] at HC20
  rw [h2] at HC23
  clear hP hEE h1 h2
  obtain ⟨pf, pe, ms⟩ := p
  obtain ⟨e1, e2, e3, e4, e5, e6, e7, e8, e9⟩ := e
  simp only [PolV, EnV] at *
  generalize ms.length = ml at *
  generalize e4.length = l4 at *
  generalize e5.length = l5 at *
  generalize e9.length = l9 at *
  go_enter Try.func18, Try.ntmps18
  go_wp2_with (first | (go_at_call 20; refine (HC20 _ HS0).mono ?_; rintro x w1 ⟨rfl, S1, d0, d1, d2, f0, f1, f2, f3, f4, f5, f6, f7, f8⟩) | (go_at_call 23; refine (HC23 _ S1).mono ?_; rintro x w2 ⟨rfl, S2, g0, g1, g2, h0, h1, h2, h3, h4, h5, h6, h7, h8⟩))
  go_ret
  exact ⟨rfl, S2.out.bel⟩
set_option maxHeartbeats 4000000 in
theorem may_3 (p : Pol) (e : En) (vp0 ve0 : Value) (w : World) (hp : PolIs w vp0 p) (hE : EnIs w ve0 e) (h1 : pright p = true) (h2 : right e = true) (h3 : allows p e = false) : Calls Try.prog 18 #[vp0, ve0] w fun x w' => x = .returned (.int .i64 30) ∧ Below w.heap.size w w' := by
  have hP := hp
  obtain ⟨mq, mc, rfl, -, -⟩ := hp
  have hEE := hE
  obtain ⟨np, nc, vp, vc, q, c, rfl, -⟩ := hE
  obtain ⟨_, _, hm, _, _⟩ := pright_of h1
  have HC20 : ∀ W, Hid (B2 w W (PolV p mq mc) (EnV e np nc vp vc q c)) → Calls Try.prog 20 #[.agg (PolV p mq mc)] W fun x w' => x = .returned (.bool (pright p)) ∧ Hid (B2 w w' (PolV p mq mc) (EnV e np nc vp vc q c)) ∧ w'.cell? ⟨w.heap.size, 0, none⟩ = some (.int .i64 p.f) ∧ w'.cell? ⟨w.heap.size, 1, none⟩ = some (.int .i64 p.e) ∧ w'.cell? ⟨w.heap.size, 2, none⟩ = some (.slice mq p.ms.length mc) ∧ w'.cell? ⟨(w.heap.size + 1), 0, none⟩ = some (.int .i64 e.kind) ∧ w'.cell? ⟨(w.heap.size + 1), 1, none⟩ = some (.int .i64 e.writer) ∧ w'.cell? ⟨(w.heap.size + 1), 2, none⟩ = some (.int .i64 e.seq) ∧ w'.cell? ⟨(w.heap.size + 1), 3, none⟩ = some (.slice np e.name.length nc) ∧ w'.cell? ⟨(w.heap.size + 1), 4, none⟩ = some (.slice vp e.value.length vc) ∧ w'.cell? ⟨(w.heap.size + 1), 5, none⟩ = some (.int .i64 e.who) ∧ w'.cell? ⟨(w.heap.size + 1), 6, none⟩ = some (.int .i64 e.rights) ∧ w'.cell? ⟨(w.heap.size + 1), 7, none⟩ = some (.int .i64 e.epoch) ∧ w'.cell? ⟨(w.heap.size + 1), 8, none⟩ = some (.slice q e.wraps.length c) := fun W h => (pRight_any p _ W (hP.below h.out.bel)).mono (by rintro x w' ⟨rfl, hb⟩; exact ⟨rfl, h.out.step hb, (h.out.step hb).pcells.1, (h.out.step hb).pcells.2.1, (h.out.step hb).pcells.2.2, (h.out.step hb).ecells⟩)
  have HC23 : ∀ W, Hid (B2 w W (PolV p mq mc) (EnV e np nc vp vc q c)) → Calls Try.prog 23 #[.agg (EnV e np nc vp vc q c)] W fun x w' => x = .returned (.bool (right e)) ∧ Hid (B2 w w' (PolV p mq mc) (EnV e np nc vp vc q c)) ∧ w'.cell? ⟨w.heap.size, 0, none⟩ = some (.int .i64 p.f) ∧ w'.cell? ⟨w.heap.size, 1, none⟩ = some (.int .i64 p.e) ∧ w'.cell? ⟨w.heap.size, 2, none⟩ = some (.slice mq p.ms.length mc) ∧ w'.cell? ⟨(w.heap.size + 1), 0, none⟩ = some (.int .i64 e.kind) ∧ w'.cell? ⟨(w.heap.size + 1), 1, none⟩ = some (.int .i64 e.writer) ∧ w'.cell? ⟨(w.heap.size + 1), 2, none⟩ = some (.int .i64 e.seq) ∧ w'.cell? ⟨(w.heap.size + 1), 3, none⟩ = some (.slice np e.name.length nc) ∧ w'.cell? ⟨(w.heap.size + 1), 4, none⟩ = some (.slice vp e.value.length vc) ∧ w'.cell? ⟨(w.heap.size + 1), 5, none⟩ = some (.int .i64 e.who) ∧ w'.cell? ⟨(w.heap.size + 1), 6, none⟩ = some (.int .i64 e.rights) ∧ w'.cell? ⟨(w.heap.size + 1), 7, none⟩ = some (.int .i64 e.epoch) ∧ w'.cell? ⟨(w.heap.size + 1), 8, none⟩ = some (.slice q e.wraps.length c) := fun W h => (Right_any e _ W (hEE.below h.out.bel)).mono (by rintro x w' ⟨rfl, hb⟩; exact ⟨rfl, h.out.step hb, (h.out.step hb).pcells.1, (h.out.step hb).pcells.2.1, (h.out.step hb).pcells.2.2, (h.out.step hb).ecells⟩)
  have HC32 : ∀ W, Hid (B2 w W (PolV p mq mc) (EnV e np nc vp vc q c)) → Calls Try.prog 32 #[.agg (PolV p mq mc), .agg (EnV e np nc vp vc q c)] W fun x w' => x = .returned (.bool (allows p e)) ∧ Hid (B2 w w' (PolV p mq mc) (EnV e np nc vp vc q c)) ∧ w'.cell? ⟨w.heap.size, 0, none⟩ = some (.int .i64 p.f) ∧ w'.cell? ⟨w.heap.size, 1, none⟩ = some (.int .i64 p.e) ∧ w'.cell? ⟨w.heap.size, 2, none⟩ = some (.slice mq p.ms.length mc) ∧ w'.cell? ⟨(w.heap.size + 1), 0, none⟩ = some (.int .i64 e.kind) ∧ w'.cell? ⟨(w.heap.size + 1), 1, none⟩ = some (.int .i64 e.writer) ∧ w'.cell? ⟨(w.heap.size + 1), 2, none⟩ = some (.int .i64 e.seq) ∧ w'.cell? ⟨(w.heap.size + 1), 3, none⟩ = some (.slice np e.name.length nc) ∧ w'.cell? ⟨(w.heap.size + 1), 4, none⟩ = some (.slice vp e.value.length vc) ∧ w'.cell? ⟨(w.heap.size + 1), 5, none⟩ = some (.int .i64 e.who) ∧ w'.cell? ⟨(w.heap.size + 1), 6, none⟩ = some (.int .i64 e.rights) ∧ w'.cell? ⟨(w.heap.size + 1), 7, none⟩ = some (.int .i64 e.epoch) ∧ w'.cell? ⟨(w.heap.size + 1), 8, none⟩ = some (.slice q e.wraps.length c) := fun W h => (allows_any p e _ _ W (hP.below h.out.bel) (hEE.below h.out.bel) hm).mono (by rintro x w' ⟨rfl, hb⟩; exact ⟨rfl, h.out.step hb, (h.out.step hb).pcells.1, (h.out.step hb).pcells.2.1, (h.out.step hb).pcells.2.2, (h.out.step hb).ecells⟩)
  have HS0 : Hid (B2 w ((w.alloc (.cells (PolV p mq mc) 26)).alloc (.cells (EnV e np nc vp vc q c) 38)) (PolV p mq mc) (EnV e np nc vp vc q c)) := B2.start w _ _
  rw [h1] at HC20
  rw [h2] at HC23
  rw [h3] at HC32
  clear hP hEE h1 h2 h3 hm
  obtain ⟨pf, pe, ms⟩ := p
  obtain ⟨e1, e2, e3, e4, e5, e6, e7, e8, e9⟩ := e
  simp only [PolV, EnV] at *
  generalize ms.length = ml at *
  generalize e4.length = l4 at *
  generalize e5.length = l5 at *
  generalize e9.length = l9 at *
  go_enter Try.func18, Try.ntmps18
  go_wp2_with (first | (go_at_call 20; refine (HC20 _ HS0).mono ?_; rintro x w1 ⟨rfl, S1, d0, d1, d2, f0, f1, f2, f3, f4, f5, f6, f7, f8⟩) | (go_at_call 23; refine (HC23 _ S1).mono ?_; rintro x w2 ⟨rfl, S2, g0, g1, g2, h0, h1, h2, h3, h4, h5, h6, h7, h8⟩) | (go_at_call 32; refine (HC32 _ S2).mono ?_; rintro x w3 ⟨rfl, S3, i0, i1, i2, j0, j1, j2, j3, j4, j5, j6, j7, j8⟩))
  go_ret
  exact ⟨rfl, S3.out.bel⟩
set_option maxHeartbeats 4000000 in
theorem may_4 (p : Pol) (e : En) (vp0 ve0 : Value) (w : World) (hp : PolIs w vp0 p) (hE : EnIs w ve0 e) (h1 : pright p = true) (h2 : right e = true) (h3 : allows p e = true) (h4 : ¬ e.kind = 5) : Calls Try.prog 18 #[vp0, ve0] w fun x w' => x = .returned (.int .i64 0) ∧ Below w.heap.size w w' := by
  have hP := hp
  obtain ⟨mq, mc, rfl, -, -⟩ := hp
  have hEE := hE
  obtain ⟨np, nc, vp, vc, q, c, rfl, -⟩ := hE
  obtain ⟨_, _, hm, _, _⟩ := pright_of h1
  have HC20 : ∀ W, Hid (B2 w W (PolV p mq mc) (EnV e np nc vp vc q c)) → Calls Try.prog 20 #[.agg (PolV p mq mc)] W fun x w' => x = .returned (.bool (pright p)) ∧ Hid (B2 w w' (PolV p mq mc) (EnV e np nc vp vc q c)) ∧ w'.cell? ⟨w.heap.size, 0, none⟩ = some (.int .i64 p.f) ∧ w'.cell? ⟨w.heap.size, 1, none⟩ = some (.int .i64 p.e) ∧ w'.cell? ⟨w.heap.size, 2, none⟩ = some (.slice mq p.ms.length mc) ∧ w'.cell? ⟨(w.heap.size + 1), 0, none⟩ = some (.int .i64 e.kind) ∧ w'.cell? ⟨(w.heap.size + 1), 1, none⟩ = some (.int .i64 e.writer) ∧ w'.cell? ⟨(w.heap.size + 1), 2, none⟩ = some (.int .i64 e.seq) ∧ w'.cell? ⟨(w.heap.size + 1), 3, none⟩ = some (.slice np e.name.length nc) ∧ w'.cell? ⟨(w.heap.size + 1), 4, none⟩ = some (.slice vp e.value.length vc) ∧ w'.cell? ⟨(w.heap.size + 1), 5, none⟩ = some (.int .i64 e.who) ∧ w'.cell? ⟨(w.heap.size + 1), 6, none⟩ = some (.int .i64 e.rights) ∧ w'.cell? ⟨(w.heap.size + 1), 7, none⟩ = some (.int .i64 e.epoch) ∧ w'.cell? ⟨(w.heap.size + 1), 8, none⟩ = some (.slice q e.wraps.length c) := fun W h => (pRight_any p _ W (hP.below h.out.bel)).mono (by rintro x w' ⟨rfl, hb⟩; exact ⟨rfl, h.out.step hb, (h.out.step hb).pcells.1, (h.out.step hb).pcells.2.1, (h.out.step hb).pcells.2.2, (h.out.step hb).ecells⟩)
  have HC23 : ∀ W, Hid (B2 w W (PolV p mq mc) (EnV e np nc vp vc q c)) → Calls Try.prog 23 #[.agg (EnV e np nc vp vc q c)] W fun x w' => x = .returned (.bool (right e)) ∧ Hid (B2 w w' (PolV p mq mc) (EnV e np nc vp vc q c)) ∧ w'.cell? ⟨w.heap.size, 0, none⟩ = some (.int .i64 p.f) ∧ w'.cell? ⟨w.heap.size, 1, none⟩ = some (.int .i64 p.e) ∧ w'.cell? ⟨w.heap.size, 2, none⟩ = some (.slice mq p.ms.length mc) ∧ w'.cell? ⟨(w.heap.size + 1), 0, none⟩ = some (.int .i64 e.kind) ∧ w'.cell? ⟨(w.heap.size + 1), 1, none⟩ = some (.int .i64 e.writer) ∧ w'.cell? ⟨(w.heap.size + 1), 2, none⟩ = some (.int .i64 e.seq) ∧ w'.cell? ⟨(w.heap.size + 1), 3, none⟩ = some (.slice np e.name.length nc) ∧ w'.cell? ⟨(w.heap.size + 1), 4, none⟩ = some (.slice vp e.value.length vc) ∧ w'.cell? ⟨(w.heap.size + 1), 5, none⟩ = some (.int .i64 e.who) ∧ w'.cell? ⟨(w.heap.size + 1), 6, none⟩ = some (.int .i64 e.rights) ∧ w'.cell? ⟨(w.heap.size + 1), 7, none⟩ = some (.int .i64 e.epoch) ∧ w'.cell? ⟨(w.heap.size + 1), 8, none⟩ = some (.slice q e.wraps.length c) := fun W h => (Right_any e _ W (hEE.below h.out.bel)).mono (by rintro x w' ⟨rfl, hb⟩; exact ⟨rfl, h.out.step hb, (h.out.step hb).pcells.1, (h.out.step hb).pcells.2.1, (h.out.step hb).pcells.2.2, (h.out.step hb).ecells⟩)
  have HC32 : ∀ W, Hid (B2 w W (PolV p mq mc) (EnV e np nc vp vc q c)) → Calls Try.prog 32 #[.agg (PolV p mq mc), .agg (EnV e np nc vp vc q c)] W fun x w' => x = .returned (.bool (allows p e)) ∧ Hid (B2 w w' (PolV p mq mc) (EnV e np nc vp vc q c)) ∧ w'.cell? ⟨w.heap.size, 0, none⟩ = some (.int .i64 p.f) ∧ w'.cell? ⟨w.heap.size, 1, none⟩ = some (.int .i64 p.e) ∧ w'.cell? ⟨w.heap.size, 2, none⟩ = some (.slice mq p.ms.length mc) ∧ w'.cell? ⟨(w.heap.size + 1), 0, none⟩ = some (.int .i64 e.kind) ∧ w'.cell? ⟨(w.heap.size + 1), 1, none⟩ = some (.int .i64 e.writer) ∧ w'.cell? ⟨(w.heap.size + 1), 2, none⟩ = some (.int .i64 e.seq) ∧ w'.cell? ⟨(w.heap.size + 1), 3, none⟩ = some (.slice np e.name.length nc) ∧ w'.cell? ⟨(w.heap.size + 1), 4, none⟩ = some (.slice vp e.value.length vc) ∧ w'.cell? ⟨(w.heap.size + 1), 5, none⟩ = some (.int .i64 e.who) ∧ w'.cell? ⟨(w.heap.size + 1), 6, none⟩ = some (.int .i64 e.rights) ∧ w'.cell? ⟨(w.heap.size + 1), 7, none⟩ = some (.int .i64 e.epoch) ∧ w'.cell? ⟨(w.heap.size + 1), 8, none⟩ = some (.slice q e.wraps.length c) := fun W h => (allows_any p e _ _ W (hP.below h.out.bel) (hEE.below h.out.bel) hm).mono (by rintro x w' ⟨rfl, hb⟩; exact ⟨rfl, h.out.step hb, (h.out.step hb).pcells.1, (h.out.step hb).pcells.2.1, (h.out.step hb).pcells.2.2, (h.out.step hb).ecells⟩)
  have HS0 : Hid (B2 w ((w.alloc (.cells (PolV p mq mc) 26)).alloc (.cells (EnV e np nc vp vc q c) 38)) (PolV p mq mc) (EnV e np nc vp vc q c)) := B2.start w _ _
  rw [h1] at HC20
  rw [h2] at HC23
  rw [h3] at HC32
  clear hP hEE h1 h2 h3 hm
  obtain ⟨pf, pe, ms⟩ := p
  obtain ⟨e1, e2, e3, e4, e5, e6, e7, e8, e9⟩ := e
  simp only [PolV, EnV] at *
  generalize ms.length = ml at *
  generalize e4.length = l4 at *
  generalize e5.length = l5 at *
  generalize e9.length = l9 at *
  have z5 : (e1 == 5) = false := by simp [h4]
  go_enter Try.func18, Try.ntmps18
  go_wp2_with (first | (go_at_call 20; refine (HC20 _ HS0).mono ?_; rintro x w1 ⟨rfl, S1, d0, d1, d2, f0, f1, f2, f3, f4, f5, f6, f7, f8⟩) | (go_at_call 23; refine (HC23 _ S1).mono ?_; rintro x w2 ⟨rfl, S2, g0, g1, g2, h0, h1, h2, h3, h4, h5, h6, h7, h8⟩) | (go_at_call 32; refine (HC32 _ S2).mono ?_; rintro x w3 ⟨rfl, S3, i0, i1, i2, j0, j1, j2, j3, j4, j5, j6, j7, j8⟩))
  go_ret
  exact ⟨rfl, S3.out.bel⟩
set_option maxHeartbeats 4000000 in
theorem may_5 (p : Pol) (e : En) (vp0 ve0 : Value) (w : World) (hp : PolIs w vp0 p) (hE : EnIs w ve0 e) (h1 : pright p = true) (h2 : right e = true) (h3 : allows p e = true) (h4 : e.kind = 5) (h5 : fits p e = true) : Calls Try.prog 18 #[vp0, ve0] w fun x w' => x = .returned (.int .i64 0) ∧ Below w.heap.size w w' := by
  have hP := hp
  obtain ⟨mq, mc, rfl, -, -⟩ := hp
  have hEE := hE
  obtain ⟨np, nc, vp, vc, q, c, rfl, -⟩ := hE
  obtain ⟨_, h16, hm, _, hne⟩ := pright_of h1
  have HC20 : ∀ W, Hid (B2 w W (PolV p mq mc) (EnV e np nc vp vc q c)) → Calls Try.prog 20 #[.agg (PolV p mq mc)] W fun x w' => x = .returned (.bool (pright p)) ∧ Hid (B2 w w' (PolV p mq mc) (EnV e np nc vp vc q c)) ∧ w'.cell? ⟨w.heap.size, 0, none⟩ = some (.int .i64 p.f) ∧ w'.cell? ⟨w.heap.size, 1, none⟩ = some (.int .i64 p.e) ∧ w'.cell? ⟨w.heap.size, 2, none⟩ = some (.slice mq p.ms.length mc) ∧ w'.cell? ⟨(w.heap.size + 1), 0, none⟩ = some (.int .i64 e.kind) ∧ w'.cell? ⟨(w.heap.size + 1), 1, none⟩ = some (.int .i64 e.writer) ∧ w'.cell? ⟨(w.heap.size + 1), 2, none⟩ = some (.int .i64 e.seq) ∧ w'.cell? ⟨(w.heap.size + 1), 3, none⟩ = some (.slice np e.name.length nc) ∧ w'.cell? ⟨(w.heap.size + 1), 4, none⟩ = some (.slice vp e.value.length vc) ∧ w'.cell? ⟨(w.heap.size + 1), 5, none⟩ = some (.int .i64 e.who) ∧ w'.cell? ⟨(w.heap.size + 1), 6, none⟩ = some (.int .i64 e.rights) ∧ w'.cell? ⟨(w.heap.size + 1), 7, none⟩ = some (.int .i64 e.epoch) ∧ w'.cell? ⟨(w.heap.size + 1), 8, none⟩ = some (.slice q e.wraps.length c) := fun W h => (pRight_any p _ W (hP.below h.out.bel)).mono (by rintro x w' ⟨rfl, hb⟩; exact ⟨rfl, h.out.step hb, (h.out.step hb).pcells.1, (h.out.step hb).pcells.2.1, (h.out.step hb).pcells.2.2, (h.out.step hb).ecells⟩)
  have HC23 : ∀ W, Hid (B2 w W (PolV p mq mc) (EnV e np nc vp vc q c)) → Calls Try.prog 23 #[.agg (EnV e np nc vp vc q c)] W fun x w' => x = .returned (.bool (right e)) ∧ Hid (B2 w w' (PolV p mq mc) (EnV e np nc vp vc q c)) ∧ w'.cell? ⟨w.heap.size, 0, none⟩ = some (.int .i64 p.f) ∧ w'.cell? ⟨w.heap.size, 1, none⟩ = some (.int .i64 p.e) ∧ w'.cell? ⟨w.heap.size, 2, none⟩ = some (.slice mq p.ms.length mc) ∧ w'.cell? ⟨(w.heap.size + 1), 0, none⟩ = some (.int .i64 e.kind) ∧ w'.cell? ⟨(w.heap.size + 1), 1, none⟩ = some (.int .i64 e.writer) ∧ w'.cell? ⟨(w.heap.size + 1), 2, none⟩ = some (.int .i64 e.seq) ∧ w'.cell? ⟨(w.heap.size + 1), 3, none⟩ = some (.slice np e.name.length nc) ∧ w'.cell? ⟨(w.heap.size + 1), 4, none⟩ = some (.slice vp e.value.length vc) ∧ w'.cell? ⟨(w.heap.size + 1), 5, none⟩ = some (.int .i64 e.who) ∧ w'.cell? ⟨(w.heap.size + 1), 6, none⟩ = some (.int .i64 e.rights) ∧ w'.cell? ⟨(w.heap.size + 1), 7, none⟩ = some (.int .i64 e.epoch) ∧ w'.cell? ⟨(w.heap.size + 1), 8, none⟩ = some (.slice q e.wraps.length c) := fun W h => (Right_any e _ W (hEE.below h.out.bel)).mono (by rintro x w' ⟨rfl, hb⟩; exact ⟨rfl, h.out.step hb, (h.out.step hb).pcells.1, (h.out.step hb).pcells.2.1, (h.out.step hb).pcells.2.2, (h.out.step hb).ecells⟩)
  have HC32 : ∀ W, Hid (B2 w W (PolV p mq mc) (EnV e np nc vp vc q c)) → Calls Try.prog 32 #[.agg (PolV p mq mc), .agg (EnV e np nc vp vc q c)] W fun x w' => x = .returned (.bool (allows p e)) ∧ Hid (B2 w w' (PolV p mq mc) (EnV e np nc vp vc q c)) ∧ w'.cell? ⟨w.heap.size, 0, none⟩ = some (.int .i64 p.f) ∧ w'.cell? ⟨w.heap.size, 1, none⟩ = some (.int .i64 p.e) ∧ w'.cell? ⟨w.heap.size, 2, none⟩ = some (.slice mq p.ms.length mc) ∧ w'.cell? ⟨(w.heap.size + 1), 0, none⟩ = some (.int .i64 e.kind) ∧ w'.cell? ⟨(w.heap.size + 1), 1, none⟩ = some (.int .i64 e.writer) ∧ w'.cell? ⟨(w.heap.size + 1), 2, none⟩ = some (.int .i64 e.seq) ∧ w'.cell? ⟨(w.heap.size + 1), 3, none⟩ = some (.slice np e.name.length nc) ∧ w'.cell? ⟨(w.heap.size + 1), 4, none⟩ = some (.slice vp e.value.length vc) ∧ w'.cell? ⟨(w.heap.size + 1), 5, none⟩ = some (.int .i64 e.who) ∧ w'.cell? ⟨(w.heap.size + 1), 6, none⟩ = some (.int .i64 e.rights) ∧ w'.cell? ⟨(w.heap.size + 1), 7, none⟩ = some (.int .i64 e.epoch) ∧ w'.cell? ⟨(w.heap.size + 1), 8, none⟩ = some (.slice q e.wraps.length c) := fun W h => (allows_any p e _ _ W (hP.below h.out.bel) (hEE.below h.out.bel) hm).mono (by rintro x w' ⟨rfl, hb⟩; exact ⟨rfl, h.out.step hb, (h.out.step hb).pcells.1, (h.out.step hb).pcells.2.1, (h.out.step hb).pcells.2.2, (h.out.step hb).ecells⟩)
  have HC33 : ∀ W, Hid (B2 w W (PolV p mq mc) (EnV e np nc vp vc q c)) → Calls Try.prog 33 #[.agg (PolV p mq mc), .agg (EnV e np nc vp vc q c)] W fun x w' => x = .returned (.bool (fits p e)) ∧ Hid (B2 w w' (PolV p mq mc) (EnV e np nc vp vc q c)) ∧ w'.cell? ⟨w.heap.size, 0, none⟩ = some (.int .i64 p.f) ∧ w'.cell? ⟨w.heap.size, 1, none⟩ = some (.int .i64 p.e) ∧ w'.cell? ⟨w.heap.size, 2, none⟩ = some (.slice mq p.ms.length mc) ∧ w'.cell? ⟨(w.heap.size + 1), 0, none⟩ = some (.int .i64 e.kind) ∧ w'.cell? ⟨(w.heap.size + 1), 1, none⟩ = some (.int .i64 e.writer) ∧ w'.cell? ⟨(w.heap.size + 1), 2, none⟩ = some (.int .i64 e.seq) ∧ w'.cell? ⟨(w.heap.size + 1), 3, none⟩ = some (.slice np e.name.length nc) ∧ w'.cell? ⟨(w.heap.size + 1), 4, none⟩ = some (.slice vp e.value.length vc) ∧ w'.cell? ⟨(w.heap.size + 1), 5, none⟩ = some (.int .i64 e.who) ∧ w'.cell? ⟨(w.heap.size + 1), 6, none⟩ = some (.int .i64 e.rights) ∧ w'.cell? ⟨(w.heap.size + 1), 7, none⟩ = some (.int .i64 e.epoch) ∧ w'.cell? ⟨(w.heap.size + 1), 8, none⟩ = some (.slice q e.wraps.length c) := fun W h => (fits_any p e _ _ W (hP.below h.out.bel) (hEE.below h.out.bel) hm hne h16).mono (by rintro x w' ⟨rfl, hb⟩; exact ⟨rfl, h.out.step hb, (h.out.step hb).pcells.1, (h.out.step hb).pcells.2.1, (h.out.step hb).pcells.2.2, (h.out.step hb).ecells⟩)
  have HS0 : Hid (B2 w ((w.alloc (.cells (PolV p mq mc) 26)).alloc (.cells (EnV e np nc vp vc q c) 38)) (PolV p mq mc) (EnV e np nc vp vc q c)) := B2.start w _ _
  rw [h1] at HC20
  rw [h2] at HC23
  rw [h3] at HC32
  rw [h5] at HC33
  clear hP hEE h1 h2 h3 h5 hm hne h16
  obtain ⟨pf, pe, ms⟩ := p
  obtain ⟨e1, e2, e3, e4, e5, e6, e7, e8, e9⟩ := e
  simp only [PolV, EnV] at *
  generalize ms.length = ml at *
  generalize e4.length = l4 at *
  generalize e5.length = l5 at *
  generalize e9.length = l9 at *
  subst h4
  go_enter Try.func18, Try.ntmps18
  go_wp2_with (first | (go_at_call 20; refine (HC20 _ HS0).mono ?_; rintro x w1 ⟨rfl, S1, d0, d1, d2, f0, f1, f2, f3, f4, f5, f6, f7, f8⟩) | (go_at_call 23; refine (HC23 _ S1).mono ?_; rintro x w2 ⟨rfl, S2, g0, g1, g2, h0, h1, h2, h3, h4, h5, h6, h7, h8⟩) | (go_at_call 32; refine (HC32 _ S2).mono ?_; rintro x w3 ⟨rfl, S3, i0, i1, i2, j0, j1, j2, j3, j4, j5, j6, j7, j8⟩) | (go_at_call 33; refine (HC33 _ S3).mono ?_; rintro x w4 ⟨rfl, S4, k0, k1, k2, m0, m1, m2, m3, m4, m5, m6, m7, m8⟩))
  go_ret
  exact ⟨rfl, S4.out.bel⟩
set_option maxHeartbeats 4000000 in
theorem may_6 (p : Pol) (e : En) (vp0 ve0 : Value) (w : World) (hp : PolIs w vp0 p) (hE : EnIs w ve0 e) (h1 : pright p = true) (h2 : right e = true) (h3 : allows p e = true) (h4 : e.kind = 5) (h5 : fits p e = false) : Calls Try.prog 18 #[vp0, ve0] w fun x w' => x = .returned (.int .i64 34) ∧ Below w.heap.size w w' := by
  have hP := hp
  obtain ⟨mq, mc, rfl, -, -⟩ := hp
  have hEE := hE
  obtain ⟨np, nc, vp, vc, q, c, rfl, -⟩ := hE
  obtain ⟨_, h16, hm, _, hne⟩ := pright_of h1
  have HC20 : ∀ W, Hid (B2 w W (PolV p mq mc) (EnV e np nc vp vc q c)) → Calls Try.prog 20 #[.agg (PolV p mq mc)] W fun x w' => x = .returned (.bool (pright p)) ∧ Hid (B2 w w' (PolV p mq mc) (EnV e np nc vp vc q c)) ∧ w'.cell? ⟨w.heap.size, 0, none⟩ = some (.int .i64 p.f) ∧ w'.cell? ⟨w.heap.size, 1, none⟩ = some (.int .i64 p.e) ∧ w'.cell? ⟨w.heap.size, 2, none⟩ = some (.slice mq p.ms.length mc) ∧ w'.cell? ⟨(w.heap.size + 1), 0, none⟩ = some (.int .i64 e.kind) ∧ w'.cell? ⟨(w.heap.size + 1), 1, none⟩ = some (.int .i64 e.writer) ∧ w'.cell? ⟨(w.heap.size + 1), 2, none⟩ = some (.int .i64 e.seq) ∧ w'.cell? ⟨(w.heap.size + 1), 3, none⟩ = some (.slice np e.name.length nc) ∧ w'.cell? ⟨(w.heap.size + 1), 4, none⟩ = some (.slice vp e.value.length vc) ∧ w'.cell? ⟨(w.heap.size + 1), 5, none⟩ = some (.int .i64 e.who) ∧ w'.cell? ⟨(w.heap.size + 1), 6, none⟩ = some (.int .i64 e.rights) ∧ w'.cell? ⟨(w.heap.size + 1), 7, none⟩ = some (.int .i64 e.epoch) ∧ w'.cell? ⟨(w.heap.size + 1), 8, none⟩ = some (.slice q e.wraps.length c) := fun W h => (pRight_any p _ W (hP.below h.out.bel)).mono (by rintro x w' ⟨rfl, hb⟩; exact ⟨rfl, h.out.step hb, (h.out.step hb).pcells.1, (h.out.step hb).pcells.2.1, (h.out.step hb).pcells.2.2, (h.out.step hb).ecells⟩)
  have HC23 : ∀ W, Hid (B2 w W (PolV p mq mc) (EnV e np nc vp vc q c)) → Calls Try.prog 23 #[.agg (EnV e np nc vp vc q c)] W fun x w' => x = .returned (.bool (right e)) ∧ Hid (B2 w w' (PolV p mq mc) (EnV e np nc vp vc q c)) ∧ w'.cell? ⟨w.heap.size, 0, none⟩ = some (.int .i64 p.f) ∧ w'.cell? ⟨w.heap.size, 1, none⟩ = some (.int .i64 p.e) ∧ w'.cell? ⟨w.heap.size, 2, none⟩ = some (.slice mq p.ms.length mc) ∧ w'.cell? ⟨(w.heap.size + 1), 0, none⟩ = some (.int .i64 e.kind) ∧ w'.cell? ⟨(w.heap.size + 1), 1, none⟩ = some (.int .i64 e.writer) ∧ w'.cell? ⟨(w.heap.size + 1), 2, none⟩ = some (.int .i64 e.seq) ∧ w'.cell? ⟨(w.heap.size + 1), 3, none⟩ = some (.slice np e.name.length nc) ∧ w'.cell? ⟨(w.heap.size + 1), 4, none⟩ = some (.slice vp e.value.length vc) ∧ w'.cell? ⟨(w.heap.size + 1), 5, none⟩ = some (.int .i64 e.who) ∧ w'.cell? ⟨(w.heap.size + 1), 6, none⟩ = some (.int .i64 e.rights) ∧ w'.cell? ⟨(w.heap.size + 1), 7, none⟩ = some (.int .i64 e.epoch) ∧ w'.cell? ⟨(w.heap.size + 1), 8, none⟩ = some (.slice q e.wraps.length c) := fun W h => (Right_any e _ W (hEE.below h.out.bel)).mono (by rintro x w' ⟨rfl, hb⟩; exact ⟨rfl, h.out.step hb, (h.out.step hb).pcells.1, (h.out.step hb).pcells.2.1, (h.out.step hb).pcells.2.2, (h.out.step hb).ecells⟩)
  have HC32 : ∀ W, Hid (B2 w W (PolV p mq mc) (EnV e np nc vp vc q c)) → Calls Try.prog 32 #[.agg (PolV p mq mc), .agg (EnV e np nc vp vc q c)] W fun x w' => x = .returned (.bool (allows p e)) ∧ Hid (B2 w w' (PolV p mq mc) (EnV e np nc vp vc q c)) ∧ w'.cell? ⟨w.heap.size, 0, none⟩ = some (.int .i64 p.f) ∧ w'.cell? ⟨w.heap.size, 1, none⟩ = some (.int .i64 p.e) ∧ w'.cell? ⟨w.heap.size, 2, none⟩ = some (.slice mq p.ms.length mc) ∧ w'.cell? ⟨(w.heap.size + 1), 0, none⟩ = some (.int .i64 e.kind) ∧ w'.cell? ⟨(w.heap.size + 1), 1, none⟩ = some (.int .i64 e.writer) ∧ w'.cell? ⟨(w.heap.size + 1), 2, none⟩ = some (.int .i64 e.seq) ∧ w'.cell? ⟨(w.heap.size + 1), 3, none⟩ = some (.slice np e.name.length nc) ∧ w'.cell? ⟨(w.heap.size + 1), 4, none⟩ = some (.slice vp e.value.length vc) ∧ w'.cell? ⟨(w.heap.size + 1), 5, none⟩ = some (.int .i64 e.who) ∧ w'.cell? ⟨(w.heap.size + 1), 6, none⟩ = some (.int .i64 e.rights) ∧ w'.cell? ⟨(w.heap.size + 1), 7, none⟩ = some (.int .i64 e.epoch) ∧ w'.cell? ⟨(w.heap.size + 1), 8, none⟩ = some (.slice q e.wraps.length c) := fun W h => (allows_any p e _ _ W (hP.below h.out.bel) (hEE.below h.out.bel) hm).mono (by rintro x w' ⟨rfl, hb⟩; exact ⟨rfl, h.out.step hb, (h.out.step hb).pcells.1, (h.out.step hb).pcells.2.1, (h.out.step hb).pcells.2.2, (h.out.step hb).ecells⟩)
  have HC33 : ∀ W, Hid (B2 w W (PolV p mq mc) (EnV e np nc vp vc q c)) → Calls Try.prog 33 #[.agg (PolV p mq mc), .agg (EnV e np nc vp vc q c)] W fun x w' => x = .returned (.bool (fits p e)) ∧ Hid (B2 w w' (PolV p mq mc) (EnV e np nc vp vc q c)) ∧ w'.cell? ⟨w.heap.size, 0, none⟩ = some (.int .i64 p.f) ∧ w'.cell? ⟨w.heap.size, 1, none⟩ = some (.int .i64 p.e) ∧ w'.cell? ⟨w.heap.size, 2, none⟩ = some (.slice mq p.ms.length mc) ∧ w'.cell? ⟨(w.heap.size + 1), 0, none⟩ = some (.int .i64 e.kind) ∧ w'.cell? ⟨(w.heap.size + 1), 1, none⟩ = some (.int .i64 e.writer) ∧ w'.cell? ⟨(w.heap.size + 1), 2, none⟩ = some (.int .i64 e.seq) ∧ w'.cell? ⟨(w.heap.size + 1), 3, none⟩ = some (.slice np e.name.length nc) ∧ w'.cell? ⟨(w.heap.size + 1), 4, none⟩ = some (.slice vp e.value.length vc) ∧ w'.cell? ⟨(w.heap.size + 1), 5, none⟩ = some (.int .i64 e.who) ∧ w'.cell? ⟨(w.heap.size + 1), 6, none⟩ = some (.int .i64 e.rights) ∧ w'.cell? ⟨(w.heap.size + 1), 7, none⟩ = some (.int .i64 e.epoch) ∧ w'.cell? ⟨(w.heap.size + 1), 8, none⟩ = some (.slice q e.wraps.length c) := fun W h => (fits_any p e _ _ W (hP.below h.out.bel) (hEE.below h.out.bel) hm hne h16).mono (by rintro x w' ⟨rfl, hb⟩; exact ⟨rfl, h.out.step hb, (h.out.step hb).pcells.1, (h.out.step hb).pcells.2.1, (h.out.step hb).pcells.2.2, (h.out.step hb).ecells⟩)
  have HS0 : Hid (B2 w ((w.alloc (.cells (PolV p mq mc) 26)).alloc (.cells (EnV e np nc vp vc q c) 38)) (PolV p mq mc) (EnV e np nc vp vc q c)) := B2.start w _ _
  rw [h1] at HC20
  rw [h2] at HC23
  rw [h3] at HC32
  rw [h5] at HC33
  clear hP hEE h1 h2 h3 h5 hm hne h16
  obtain ⟨pf, pe, ms⟩ := p
  obtain ⟨e1, e2, e3, e4, e5, e6, e7, e8, e9⟩ := e
  simp only [PolV, EnV] at *
  generalize ms.length = ml at *
  generalize e4.length = l4 at *
  generalize e5.length = l5 at *
  generalize e9.length = l9 at *
  subst h4
  go_enter Try.func18, Try.ntmps18
  go_wp2_with (first | (go_at_call 20; refine (HC20 _ HS0).mono ?_; rintro x w1 ⟨rfl, S1, d0, d1, d2, f0, f1, f2, f3, f4, f5, f6, f7, f8⟩) | (go_at_call 23; refine (HC23 _ S1).mono ?_; rintro x w2 ⟨rfl, S2, g0, g1, g2, h0, h1, h2, h3, h4, h5, h6, h7, h8⟩) | (go_at_call 32; refine (HC32 _ S2).mono ?_; rintro x w3 ⟨rfl, S3, i0, i1, i2, j0, j1, j2, j3, j4, j5, j6, j7, j8⟩) | (go_at_call 33; refine (HC33 _ S3).mono ?_; rintro x w4 ⟨rfl, S4, k0, k1, k2, m0, m1, m2, m3, m4, m5, m6, m7, m8⟩))
  go_ret
  exact ⟨rfl, S4.out.bel⟩
theorem May_any (p : Pol) (e : En) (vp0 ve0 : Value) (w : World) (hp : PolIs w vp0 p) (hE : EnIs w ve0 e) : Calls Try.prog 18 #[vp0, ve0] w fun x w' => x = .returned (.int .i64 (may p e)) ∧ Below w.heap.size w w' := by
  unfold may
  cases h1 : pright p with
  | false => rw [if_neg (by simp)]; exact may_1 p e vp0 ve0 w hp hE h1
  | true =>
    cases h2 : right e with
    | false => rw [if_neg (by simp)]; exact may_2 p e vp0 ve0 w hp hE h1 h2
    | true =>
      rw [if_pos ⟨rfl, rfl⟩]
      cases h3 : allows p e with
      | false => rw [if_neg (by simp)]; exact may_3 p e vp0 ve0 w hp hE h1 h2 h3
      | true =>
        rw [if_pos rfl]
        by_cases h4 : e.kind = 5
        · cases h5 : fits p e with
          | true => rw [if_neg (by simp)]; exact may_5 p e vp0 ve0 w hp hE h1 h2 h3 h4 h5
          | false => rw [if_pos ⟨h4, rfl⟩]; exact may_6 p e vp0 ve0 w hp hE h1 h2 h3 h4 h5
        · rw [if_neg (fun h => h4 h.1)]; exact may_4 p e vp0 ve0 w hp hE h1 h2 h3 h4
end Go.Proofs.Ytmlnbbggfjgacaa.P10
