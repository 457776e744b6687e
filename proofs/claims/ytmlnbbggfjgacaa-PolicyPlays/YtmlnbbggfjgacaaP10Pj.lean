/- What May tells, by the document's words; the contracts of Apply and May by them; the region in which both policies are set. -/
import Derived.Test.YtmlnbbggfjgacaaP10Sm
import Derived.Test.YtmlnbbggfjgacaaE9RRA
import Derived.Test.YtmlnbbggfjgacaaE9Made
namespace Go.Proofs.Ytmlnbbggfjgacaa.P10
open Go.RowKit C8 E9
theorem rdG_congr {R R' : Int → Int} : ∀ (m : Nat) (s : Int), (∀ x, s ≤ x → R x = R' x) → rdG R m s = rdG R' m s
  | 0, _, _ => rfl
  | m + 1, s, h => by
    rw [rdG_succ, rdG_succ, h s (Int.le_refl _), rdG_congr m (s + 1) (fun x hx => h x (by omega))]
theorem rdrs_cons (x : Int × Int) (r : List (Int × Int)) : rdrs (x :: r) = if x.2 % 2 = 0 then rdrs r else x.1 :: rdrs r := by
  unfold rdrs
  by_cases h : x.2 % 2 = 0
  · rw [if_pos h, List.filter_cons_of_neg (by simp; omega)]
  · rw [if_neg h, List.filter_cons_of_pos (by simp; omega), List.map_cons]
theorem rdG_rdrs : ∀ (m : Nat) {ms : List (Int × Int)} {last : Int}, mok last ms = true → last + m = 16 → rdG (rts ms) m (last + 1) = rdrs ms
  | 0, ms, last, h, he => by
    cases ms with
    | nil => rfl
    | cons x r =>
      have := mok_at h x List.mem_cons_self
      omega
  | m + 1, ms, last, h, he => by
    rw [rdG_succ]
    cases ms with
    | nil =>
      rw [if_pos (by simp [rts])]
      exact rdG_rdrs m (ms := []) (last := last + 1) rfl (by omega)
    | cons x r =>
      have hx := mok_at h x List.mem_cons_self
      have hm : mok x.1 r = true := by
        unfold mok at h
        simp only [Bool.and_eq_true] at h
        exact h.2
      by_cases hl : x.1 = last + 1
      · have e1 : rts (x :: r) (last + 1) = x.2 := by rw [rts, if_pos hl]
        have e2 : rdG (rts (x :: r)) m (last + 1 + 1) = rdG (rts r) m (last + 1 + 1) := rdG_congr m _ (fun y hy => by rw [rts, if_neg (by omega)])
        have e3 := rdG_rdrs m hm (by omega)
        rw [hl] at e3
        rw [e1, e2, e3, rdrs_cons, hl]
      · have e1 : rts (x :: r) (last + 1) = 0 := rts_none (fun y hy => by
          rcases List.mem_cons.1 hy with rfl | hy
          · exact hl
          · have := mok_at hm y hy
            omega)
        rw [e1, if_pos (by decide)]
        refine rdG_rdrs m (last := last + 1) ?_ (by omega)
        unfold mok
        simp only [Bool.and_eq_true, decide_eq_true_eq]
        exact ⟨⟨⟨by omega, hx.2.1⟩, hx.2.2⟩, hm⟩
/-- What May tells of a right policy. -/
def want (f e : Int) (R : Int → Int) (en : En) : Int := if right en = true then rmay f e R en else 10
theorem may_rmay {p : Pol} {e : En} (hp : pright p = true) (hr : right e = true) : may p e = rmay p.f p.e (rts p.ms) e := by
  obtain ⟨hp1, hp2, hm, hf7, hne⟩ := pright_of hp
  have hg : rdG (rts p.ms) 16 1 = rdrs p.ms := rdG_rdrs 16 hm (by omega)
  have hk : e.kind = 1 ∨ e.kind = 2 ∨ e.kind = 3 ∨ e.kind = 4 ∨ e.kind = 5 := by
    rcases ((right_iff e).1 hr).2.2 with ⟨k, _⟩ | ⟨k, _⟩ | ⟨k, _⟩ | ⟨k, _⟩ | ⟨k, _⟩ <;> omega
  unfold may rmay
  rw [if_pos ⟨hp, hr⟩]
  by_cases h12 : e.kind ≤ 2
  · have ha : allows p e = decide (2 ≤ rts p.ms e.writer) := by unfold allows; rw [if_pos (by omega)]
    rw [if_pos h12, ha, if_neg (show ¬ (e.kind = 5 ∧ fits p e = false) from fun h => by omega)]
    by_cases h2 : rts p.ms e.writer < 2
    · rw [if_neg (by simp; omega), if_pos h2]
    · rw [if_pos (by simp; omega), if_neg h2]
  · rw [if_neg h12]
    by_cases h5 : e.kind = 5
    · have ha : allows p e = decide (4 ≤ rts p.ms e.writer) := by unfold allows; rw [if_neg (by omega), if_neg (by omega), if_pos h5]
      rw [ha]
      by_cases h4 : rts p.ms e.writer < 4
      · rw [if_neg (by simp; omega), if_pos (.inl h4)]
      · rw [if_pos (by simp; omega), if_neg (show ¬ (rts p.ms e.writer < 4 ∨ (e.kind ≠ 5 ∧ e.who = p.f)) from fun h => h.elim h4 (fun h => h.1 h5)), hg]
        unfold fits
        by_cases hfit : e.epoch = p.e + 1 ∧ e.wraps.map (·.1) = rdrs p.ms
        · rw [if_neg (fun h => by simp [hfit] at h), if_neg (fun h => h.2 hfit)]
        · rw [if_pos ⟨h5, by simpa using hfit⟩, if_pos ⟨h5, hfit⟩]
    · have ha : allows p e = decide (4 ≤ rts p.ms e.writer ∧ e.who ≠ p.f) := by unfold allows; rw [if_neg (by omega), if_pos (by omega)]
      rw [ha, if_neg (show ¬ (e.kind = 5 ∧ fits p e = false) from fun h => h5 h.1), if_neg (show ¬ (e.kind = 5 ∧ ¬ (e.epoch = p.e + 1 ∧ e.wraps.map (·.1) = rdG (rts p.ms) 16 1)) from fun h => h5 h.1)]
      by_cases h4 : 4 ≤ rts p.ms e.writer ∧ e.who ≠ p.f
      · rw [if_pos (by simpa using h4), if_neg (fun h => h.elim (by omega) (fun h => h4.2 h.2))]
      · rw [if_neg (by simpa using h4), if_pos (by
          by_cases hr4 : rts p.ms e.writer < 4
          · exact .inl hr4
          · exact .inr ⟨h5, Classical.byContradiction (fun hx => h4 ⟨by omega, hx⟩)⟩)]
theorem may_want {p : Pol} {e : En} (hp : pright p = true) : may p e = want p.f p.e (rts p.ms) e := by
  unfold want
  by_cases hr : right e = true
  · rw [if_pos hr]; exact may_rmay hp hr
  · rw [if_neg hr]
    unfold may
    rw [if_neg (fun h => hr h.2)]
section
variable {A B : Nat} {w w2 : World} {f e : Int} {q : Option Addr} {n c : Nat} {R : Int → Int}
theorem Told4.bnd (h : Told4 B w f e q n c R) : (0 ≤ e ∧ e ≤ 16) ∧ (∀ x, 0 ≤ R x ∧ R x ≤ 7) := by
  obtain ⟨p, _, rfl, _, _, h2, h5⟩ := h
  refine ⟨(pright_of h2).2.1, fun x => ?_⟩
  rw [← h5]
  exact rts_range (pright_of h2).2.2.1 x
theorem Told4.mayc (h : Told4 B w f e q n c R) (en : En) (ve : Value) (hE : EnIs w ve en) : Calls Try.prog 18 #[.agg #[.int .i64 f, .int .i64 e, .slice q n c], ve] w fun z u => z = .returned (.int .i64 (want f e R en)) ∧ Below w.heap.size w u := by
  obtain ⟨p, h1, h2, rfl, rfl, h5⟩ := h.is
  have := May_any p en _ ve w h1 hE
  rw [may_want h2, show rts p.ms = R from funext h5] at this
  exact this
theorem Told4.ano (h : Told4 B w f e q n c R) (en : En) (ve : Value) (hE : EnIs w ve en) (h0 : want f e R en ≠ 0) : Calls Try.prog 14 #[.agg #[.int .i64 f, .int .i64 e, .slice q n c], ve] w fun z u => z = .returned (.tuple #[.agg #[.int .i64 0, .int .i64 0, .slice none 0 0], .int .i64 (want f e R en)]) ∧ Below w.heap.size w u := by
  obtain ⟨p, h1, h2, rfl, rfl, h5⟩ := h.is
  have hw : may p en = want p.f p.e R en := by rw [may_want h2, show rts p.ms = R from funext h5]
  exact Apply_no p en _ ve w h1 hE _ hw h0
theorem Told4.ayes (h : Told4 B w f e q n c R) (en : En) (ve : Value) (hE : EnIs w ve en) (h0 : want f e R en = 0) : Calls Try.prog 14 #[.agg #[.int .i64 f, .int .i64 e, .slice q n c], ve] w fun z u => ∃ q1 n1 c1, z = .returned (.tuple #[.agg #[.int .i64 f, .int .i64 (if en.kind = 5 then en.epoch else e), .slice q1 n1 c1], .int .i64 0]) ∧ Told4 w.heap.size u f (if en.kind = 5 then en.epoch else e) q1 n1 c1 (rafR en R) ∧ Below w.heap.size w u := by
  obtain ⟨p, h1, h2, rfl, rfl, h5⟩ := h.is
  have hw : may p en = 0 := by rw [may_want h2, show rts p.ms = R from funext h5, h0]
  refine (Apply_yes p en _ ve w h1 hE hw).mono ?_
  rintro x w' ⟨hb, p', q', c', rfl, ho, ha⟩
  obtain ⟨k1, k2, k3, k4⟩ := ap_after hw ha
  refine ⟨q', p'.ms.length, c', by rw [← k2, ← k3]; rfl, ⟨p', k2, k3, rfl, ho, k1, fun x => ?_⟩, hb⟩
  rw [k4]
  unfold rafter rafR
  rw [h5]
end
/-- Which of six operations have been, and what stands: two stores come behind all the others. -/
def S26 (R0 R1 R2 : World → Prop) (f : Nat → Bool) (w : World) : Prop :=
  (f 3 = true → f 1 = true ∧ f 2 = true) ∧ (f 4 = true → f 0 = true ∧ f 3 = true) ∧ (f 5 = true → f 4 = true) ∧ (f 4 = false → R0 w) ∧ (f 4 = true → f 5 = false → R1 w) ∧ (f 5 = true → R2 w)
section
variable {R0 R1 R2 : World → Prop} {f : Nat → Bool} {w w' : World}
theorem S26.start (h : R0 w) : S26 R0 R1 R2 (fun _ => false) w := ⟨fun h => (by cases h), fun h => (by cases h), fun h => (by cases h), fun _ => h, fun h => (by cases h), fun h => (by cases h)⟩
theorem S26.early (h : S26 R0 R1 R2 f w) {i : Nat} (hi : i = 0 ∨ i = 1 ∨ i = 2 ∨ i = 3) (hf : f i = false) : f 4 = false ∧ R0 w := by
  have h4 : f 4 = false := by
    cases h4 : f 4 with
    | false => rfl
    | true =>
      have h03 := h.2.1 h4
      have h12 := h.1 h03.2
      rcases hi with rfl | rfl | rfl | rfl
      · rw [h03.1] at hf; cases hf
      · rw [h12.1] at hf; cases hf
      · rw [h12.2] at hf; cases hf
      · rw [h03.2] at hf; cases hf
  exact ⟨h4, h.2.2.2.1 h4⟩
theorem S26.load (h : S26 R0 R1 R2 f w) {i : Nat} (hi : i = 0 ∨ i = 1 ∨ i = 2) (hf : f i = false) : S26 R0 R1 R2 (fun j => if j = i then true else f j) w := by
  obtain ⟨h4, hR⟩ := h.early (by omega) hf
  have h5 : f 5 = false := by
    cases h5 : f 5 with
    | false => rfl
    | true => rw [h.2.2.1 h5] at h4; cases h4
  have h3 := h.1
  rcases hi with rfl | rfl | rfl
  · exact ⟨fun x => h3 (by simpa using x), fun x => by simp [h4] at x, fun x => by simp [h5] at x, fun _ => hR, fun x => by simp [h4] at x, fun x => by simp [h5] at x⟩
  · exact ⟨fun x => ⟨rfl, (h3 (by simpa using x)).2⟩, fun x => by simp [h4] at x, fun x => by simp [h5] at x, fun _ => hR, fun x => by simp [h4] at x, fun x => by simp [h5] at x⟩
  · exact ⟨fun x => ⟨(h3 (by simpa using x)).1, rfl⟩, fun x => by simp [h4] at x, fun x => by simp [h5] at x, fun _ => hR, fun x => by simp [h4] at x, fun x => by simp [h5] at x⟩
theorem S26.call (h : S26 R0 R1 R2 f w) (hf : f 3 = false) (h1 : f 1 = true) (h2 : f 2 = true) (hR : R0 w') : S26 R0 R1 R2 (fun j => if j = 3 then true else f j) w' := by
  obtain ⟨h4, -⟩ := h.early (i := 3) (by omega) hf
  have h5 : f 5 = false := by
    cases h5 : f 5 with
    | false => rfl
    | true => rw [h.2.2.1 h5] at h4; cases h4
  exact ⟨fun _ => ⟨h1, h2⟩, fun x => by simp [h4] at x, fun x => by simp [h5] at x, fun _ => hR, fun x => by simp [h4] at x, fun x => by simp [h5] at x⟩
theorem S26.sto1 (h : S26 R0 R1 R2 f w) (hf : f 4 = false) (h0 : f 0 = true) (h3 : f 3 = true) (hR : R1 w') : S26 R0 R1 R2 (fun j => if j = 4 then true else f j) w' := by
  have h5 : f 5 = false := by
    cases h5 : f 5 with
    | false => rfl
    | true => rw [h.2.2.1 h5] at hf; cases hf
  exact ⟨fun _ => h.1 h3, fun _ => ⟨h0, h3⟩, fun _ => rfl, fun x => by simp at x, fun _ _ => hR, fun x => by simp [h5] at x⟩
theorem S26.sto2 (h : S26 R0 R1 R2 f w) (h4 : f 4 = true) (hR : R2 w') : S26 R0 R1 R2 (fun j => if j = 5 then true else f j) w' :=
  ⟨fun _ => h.1 (h.2.1 h4).2, fun _ => h.2.1 h4, fun _ => h4, fun x => by simp [h4] at x, fun _ x => by simp at x, fun _ => hR⟩
end
theorem ld32 {b : Nat} {f e : Int} {R : Int → Int} {w : World} (h : RpAt w b f e R) : (Instr.loadAt 32 (.pointer (some ⟨b, 0, none⟩))).run Try.prog w = .ok (.agg (RpL f e R).toArray) w := by
  obtain ⟨d, hd1, hd2⟩ := u32
  exact run_loadAt_mid w b 0 32 (RpL f e R) d h.row hd1 hd2 (by rw [i32, rpl_length])
theorem ld43 {b : Nat} {cs : Array Value} {t : TypeId} {fr : Nat × Nat} {w : World} (h : w.heap[b]? = some (.cells cs t fr) ∧ cs.size = 9) : (Instr.loadAt 43 (.pointer (some ⟨b, 0, none⟩))).run Try.prog w = .ok (.agg cs) w := by
  simp only [Instr.loadAt, Instr.sureAddr, Sem.run_bind, Sem.run_pure, Result.andThen_ok, run_loadVar_row (P := Try.prog) w b t 43 cs fr _ h.1 Try.underlying43 rfl (by rw [h.2]; kernel_rfl)]
end Go.Proofs.Ytmlnbbggfjgacaa.P10
