/- The contracts of a policy's Right and of First. -/
import Derived.Test.YtmlnbbggfjgacaaP10Leaf
import Derived.Laws.ResultCell
import Derived.Test.YtmlnbbggfjgacaaE9D4
namespace Go.Proofs.Ytmlnbbggfjgacaa.P10
open Go.RowKit C8 E9
/-- A policy in the box that a call began with. -/
structure Bx (w W : World) (C : Array Value) : Prop where
  bel : Below w.heap.size w W
  box : W.heap[w.heap.size]? = some (.cells C 26 (0, 0))
theorem Bx.step {w W W' : World} {C : Array Value} (h : Bx w W C) (hb : Below W.heap.size W W') : Bx w W' C :=
  ⟨h.bel.trans (bel_le hb h.bel.size), (hb.block _ (Array.getElem?_eq_some_iff.1 h.box).1).trans h.box⟩
theorem Bx.start (w : World) (C : Array Value) : Bx w (w.alloc (.cells C 26)) C := ⟨bel_alloc (Nat.le_refl _) _, heap_alloc_new w _⟩
theorem Bx.cells {w W : World} {x0 x1 x2 : Value} (h : Bx w W #[x0, x1, x2]) : W.cell? ⟨w.heap.size, 0, none⟩ = some (x0) ∧ W.cell? ⟨w.heap.size, 1, none⟩ = some (x1) ∧ W.cell? ⟨w.heap.size, 2, none⟩ = some (x2) := by
  refine ⟨?_, ?_, ?_⟩ <;> (rw [cell_of_row _ _ _ _ _ _ h.box]; rfl)
set_option maxHeartbeats 4000000 in
theorem pRight_any (p : Pol) (va : Value) (w : World) (hp : PolIs w va p) : Calls Try.prog 20 #[va] w fun e w' => e = .returned (.bool (pright p)) ∧ Below w.heap.size w w' := by
  have hP := hp
  obtain ⟨q, c, rfl, h, hl⟩ := hp
  have HC24 : ∀ W, Calls Try.prog 24 #[.int .i64 p.f, .int .i64 1, .int .i64 16] W fun e w' => e = .returned (.bool (decide (1 ≤ p.f ∧ p.f ≤ 16))) ∧ w' = W := fun W => pwithin_any _ _ _ W
  have HC24b : ∀ W, Calls Try.prog 24 #[.int .i64 p.e, .int .i64 0, .int .i64 16] W fun e w' => e = .returned (.bool (decide (0 ≤ p.e ∧ p.e ≤ 16))) ∧ w' = W := fun W => pwithin_any _ _ _ W
  have HC34 : ∀ W, Hid (Bx w W (PolV p q c)) → Calls Try.prog 34 #[.slice q p.ms.length c] W fun e w' => e = .returned (.bool (mok 0 p.ms)) ∧ Hid (Bx w w' (PolV p q c)) ∧ w'.cell? ⟨w.heap.size, 0, none⟩ = some (.int .i64 p.f) ∧ w'.cell? ⟨w.heap.size, 1, none⟩ = some (.int .i64 p.e) ∧ w'.cell? ⟨w.heap.size, 2, none⟩ = some (.slice q p.ms.length c) := fun W hW => (rightMembers_any p.ms q c W (h.below hW.out.bel) hl).mono (by
    rintro e w' ⟨rfl, hb⟩
    exact ⟨rfl, hW.out.step hb, (hW.out.step hb).cells⟩)
  have HC21 : ∀ W, Hid (Bx w W (PolV p q c)) → Calls Try.prog 21 #[.agg (PolV p q c), .int .i64 p.f] W fun e w' => e = .returned (.int .i64 (rts p.ms p.f)) ∧ Hid (Bx w w' (PolV p q c)) := fun W hW => (Rights_any p _ p.f W (hP.below hW.out.bel)).mono (by
    rintro e w' ⟨rfl, hb⟩
    exact ⟨rfl, hW.out.step hb⟩)
  have HS0 : Hid (Bx w (w.alloc (.cells (PolV p q c) 26)) (PolV p q c)) := Bx.start w _
  obtain ⟨res, HRES⟩ : ∃ res, Hid (pright p = res) := ⟨_, rfl⟩
  have HPR : Hid ((decide (1 ≤ p.f ∧ p.f ≤ 16) && decide (0 ≤ p.e ∧ p.e ≤ 16) && mok 0 p.ms && decide (rts p.ms p.f = 7)) = res) := HRES.out
  rw [HRES.out]
  clear HRES h hl hP
  obtain ⟨pf, pe, ms⟩ := p
  simp only [PolV] at *
  generalize decide (1 ≤ pf ∧ pf ≤ 16) = b1 at *
  generalize decide (0 ≤ pe ∧ pe ≤ 16) = b2 at *
  generalize mok 0 ms = b3 at *
  generalize ms.length = n at *
  generalize rts ms pf = r at *
  have HX : Hid (b1 = false → res = false) := fun e => by have := HPR.out; subst e; simpa using this.symm
  have HY : Hid (b2 = false → res = false) := fun e => by have := HPR.out; subst e; simpa using this.symm
  have HZ : Hid (b3 = false → res = false) := fun e => by have := HPR.out; subst e; simpa using this.symm
  cases b1 with
  | false =>
    have HF := HX.out rfl
    subst HF
    go_enter Try.func20, Try.ntmps20
    go_wp2_with (first | (go_at_call 24; with_reducible refine (HC24 _).mono ?_; rintro e w1 ⟨rfl, rfl⟩))
    go_ret
    exact ⟨rfl, HS0.out.bel⟩
  | true =>
    cases b2 with
    | false =>
      have HF := HY.out rfl
      subst HF
      go_enter Try.func20, Try.ntmps20
      go_wp2_with (first | (go_at_call 24; with_reducible refine (HC24 _).mono ?_; rintro e w1 ⟨rfl, rfl⟩) | (go_at_call 24; with_reducible refine (HC24b _).mono ?_; rintro e w1 ⟨rfl, rfl⟩))
      go_ret
      exact ⟨rfl, HS0.out.bel⟩
    | true =>
      cases b3 with
      | false =>
        have HF := HZ.out rfl
        subst HF
        go_enter Try.func20, Try.ntmps20
        go_wp2_with (first | (go_at_call 24; with_reducible refine (HC24 _).mono ?_; rintro e w1 ⟨rfl, rfl⟩) | (go_at_call 24; with_reducible refine (HC24b _).mono ?_; rintro e w1 ⟨rfl, rfl⟩) | (go_at_call 34; refine (HC34 _ HS0).mono ?_; rintro e w1 ⟨rfl, S1, d0, d1, d2⟩))
        go_ret
        exact ⟨rfl, S1.out.bel⟩
      | true =>
        have HRR : (r == 7) = res := by
          have := HPR.out
          show decide (r = 7) = res
          simpa using this
        clear HX HY HZ HPR
        go_enter Try.func20, Try.ntmps20
        go_wp2_with (first | (go_at_call 24; with_reducible refine (HC24 _).mono ?_; rintro e w1 ⟨rfl, rfl⟩) | (go_at_call 24; with_reducible refine (HC24b _).mono ?_; rintro e w1 ⟨rfl, rfl⟩) | (go_at_call 34; refine (HC34 _ HS0).mono ?_; rintro e w1 ⟨rfl, S1, d0, d1, d2⟩) | (go_at_call 21; refine (HC21 _ S1).mono ?_; rintro e w2 ⟨rfl, S2⟩))
        go_ret
        exact ⟨rfl, S2.out.bel⟩
end Go.Proofs.Ytmlnbbggfjgacaa.P10
