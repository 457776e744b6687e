/- The walk of TallySteps. -/
import Derived.Test.YtbppipnnmmddaaaT6MakesW
import Derived.Test.YtbppipnnmmddaaaT6Sum
import Derived.Deep.RegionWith
import Derived.Lib.SmallJoins
namespace Go.Proofs.Ytbppipnnmmddaaa
open Go.RowKit Ieee
attribute [local go_sem] run_neg_complex
theorem row_one (w : World) (t : TypeId) (c d : Nat) (p q : Int) (hc : U c p) (hd : U d q) : Row (w.alloc (.cells #[.complex .f64 c d] t)) (some ⟨w.heap.size, 0, none⟩) [(p, q)] := fun j h => by
  have hj : j = 0 := by simp at h; exact h
  subst hj
  exact ⟨w.heap.size, 0, c, d, rfl, by rw [Nat.add_zero]; exact Joins.cell_alloc_mark_at w _ t (0, 0) _ 0 rfl, hc, hd⟩
theorem Sum_one (a b c d : Nat) (m n p q : Int) (hx : U a m) (hy : U b n) (hr : Rt m n) (hc : U c p) (hd : U d q) (hs : Sp2 p q) (m' n' : Int) (h1 : m' = m + p) (h2 : n' = n + q) (hr2 : Rt m' n') (t : TypeId) (w : World) :
    Calls Try.prog 15 #[.complex .f64 a b, .slice (some ⟨w.heap.size, 0, none⟩) 1 1] (w.alloc (.cells #[.complex .f64 c d] t)) fun e w' => ∃ x y, e = .returned (.tuple #[.complex .f64 x y, .int .i64 0]) ∧ U x m' ∧ U y n' ∧ Below w.heap.size w w' := by
  subst h1 h2
  refine (Sum_ok [(p, q)] a b m n _ 1 1 _ hx hy hr (row_one w t c d p q hc hd) (fun j h => ?_) rfl (by omega)).mono ?_
  · have hj : j = 0 := by simp at h; exact h
    subst hj
    exact hs
  · rintro e w' ⟨k, hS, rfl⟩
    have e1 : sums m n [(p, q)] = some (m + p, n + q) := by
      show (if Rq (m + p) (n + q) then _ else _) = _
      rw [if_pos (show Rq (m + p) (n + q) from hr2)]
      rfl
    have hb : Below w.heap.size w ((w.alloc (.cells #[.complex .f64 c d] t)).drewN k) := (below_box w _).trans (belowLe (below_drewN _ k) (by simp))
    rcases hS with ⟨m', n', h, x, y, he, hx', hy'⟩ | ⟨h, _⟩
    · rw [e1] at h
      cases h
      exact ⟨x, y, he, hx', hy', hb⟩
    · rw [e1] at h
      cases h
set_option maxHeartbeats 4000000 in
theorem steps_ok (x y u v : Int) (h : Rt x y) (h' : Rt u v) (w : World) : Calls Try.prog 6 #[.agg #[.int .i64 x, .int .i64 y], .agg #[.int .i64 u, .int .i64 v]] w fun e w' => e = .returned (.bool true) ∧ Below w.heap.size w w' := by
  have HP : Hid (Rt x y) := h
  have HQ : Hid (Rt u v) := h'
  have HS : Hid (Sp2 (u - x) (v - y)) := by obtain ⟨_, _, _, _⟩ := h; obtain ⟨_, _, _, _⟩ := h'; show Sp2 _ _; unfold Sp2; omega
  have HS2 : Hid (Sp2 (-(u - x)) (-(v - y))) := by obtain ⟨_, _, _, _⟩ := h; obtain ⟨_, _, _, _⟩ := h'; show Sp2 _ _; unfold Sp2; omega
  have k1 : IntKind.i64.wrap (u - x) = u - x := by obtain ⟨_, _, _, _⟩ := h; obtain ⟨_, _, _, _⟩ := h'; exact i64_id _ (by omega)
  have k2 : IntKind.i64.wrap (v - y) = v - y := by obtain ⟨_, _, _, _⟩ := h; obtain ⟨_, _, _, _⟩ := h'; exact i64_id _ (by omega)
  have HU : Hid (U (floatOfInt .f64 (u - x)) (u - x) ∧ U (floatOfInt .f64 (v - y)) (v - y)) := by obtain ⟨_, _, _, _⟩ := h; obtain ⟨_, _, _, _⟩ := h'; exact ⟨U_fo (by omega), U_fo (by omega)⟩
  have m1 : -9223372036854775808 ≤ u - x ∧ u - x ≤ 9223372036854775807 := by obtain ⟨_, _, _, _⟩ := h; obtain ⟨_, _, _, _⟩ := h'; omega
  have m2 : -9223372036854775808 ≤ v - y ∧ v - y ≤ 9223372036854775807 := by obtain ⟨_, _, _, _⟩ := h; obtain ⟨_, _, _, _⟩ := h'; omega
  clear h h'
  go_enter Try.func6, Try.ntmps6
  go_wp2_with (first
    | (go_at_call 9; refine (anchor_any _).mono ?_; rintro e w1 ⟨rfl, b1⟩; have a1 : At2 w x y u v w1 := (At2.start w x y u v).next b1; have c0 := a1.p.c0; have c1 := a1.p.c1; have c2 := a1.q.c0; have c3 := a1.q.c1; clear b1)
    | (go_at_call 11; with_reducible refine (right_yes x y HP.out _).mono ?_; rintro e w2 ⟨rfl, b1⟩; have a2 : At2 w x y u v w2 := At2.next (by first | assumption | exact At2.drew (by assumption)) b1; have c20 := a2.p.c0; have c21 := a2.p.c1; have c22 := a2.q.c0; have c23 := a2.q.c1; clear b1)
    | (go_at_call 11; with_reducible refine (right_yes u v HQ.out _).mono ?_; rintro e w3 ⟨rfl, b1⟩; have a3 : At2 w x y u v w3 := At2.next (by first | assumption | exact At2.drew (by assumption)) b1; have c30 := a3.p.c0; have c31 := a3.p.c1; have c32 := a3.q.c0; have c33 := a3.q.c1; clear b1))
  go_region_with (first
    | (go_at_call 13; with_reducible refine (number_U x y HP.out.x HP.out.y _).mono ?_; rintro e w4 ⟨r, s, rfl, hr, hs, b1⟩; have a4 : At2 w x y u v w4 := At2.next (by first | assumption | exact At2.drew (by assumption)) b1; have c40 := a4.p.c0; have c41 := a4.p.c1; have c42 := a4.q.c0; have c43 := a4.q.c1; clear b1)
    | (go_at_call 13; with_reducible refine (number_U u v HQ.out.x HQ.out.y _).mono ?_; rintro e w5 ⟨r', s', rfl, hr', hs', b1⟩; have a5 : At2 w x y u v w5 := At2.next (by first | assumption | exact At2.drew (by assumption)) b1; have c50 := a5.p.c0; have c51 := a5.p.c1; have c52 := a5.q.c0; have c53 := a5.q.c1; clear b1)
    | (go_at_call 16; refine (Step_ok r s r' s' x y u v hr hs hr' hs' HP.out HQ.out _).mono ?_; rintro e w6 ⟨r2, s2, k, rfl, hr2, hs2, hw⟩; have a6 : At2 w x y u v w6 := At2.next (by first | assumption | exact At2.drew (by assumption)) (below_of hw); have c60 := a6.p.c0; have c61 := a6.p.c1; have c62 := a6.q.c0; have c63 := a6.q.c1; clear hw))
  all_goals clear c0 c1 c2 c3 c20 c21 c22 c23 c30 c31 c32 c33 a1 a2 a3
  all_goals have q1 := eq_t hr2 HU.out.1 rfl
  all_goals have q2 := eq_t hs2 HU.out.2 rfl
  all_goals go_wp2_with (first
    | (go_at_call 15; with_reducible refine (Sum_one _ _ _ _ x y (u - x) (v - y) (by assumption) (by assumption) HP.out hr2 hs2 HS.out u v (by omega) (by omega) HQ.out 25 _).mono ?_; rintro e w8 ⟨r4, s4, rfl, hr4, hs4, b1⟩; have a8 : At2 w x y u v w8 := At2.next (by first | assumption | exact At2.drew (by assumption)) b1; have c80 := a8.p.c0; have c81 := a8.p.c1; have c82 := a8.q.c0; have c83 := a8.q.c1; clear b1)
    | (go_at_call 15; with_reducible refine (Sum_one _ _ _ _ u v (-(u - x)) (-(v - y)) (by assumption) (by assumption) HQ.out (U_neg hr2) (U_neg hs2) HS2.out x y (by omega) (by omega) HP.out 25 _).mono ?_; rintro e w9 ⟨r5, s5, rfl, hr5, hs5, b1⟩; have a9 : At2 w x y u v w9 := At2.next (by first | assumption | exact At2.drew (by assumption)) b1; have c90 := a9.p.c0; have c91 := a9.p.c1; have c92 := a9.q.c0; have c93 := a9.q.c1; clear b1)
    | (go_at_call 13; with_reducible refine (number_U x y HP.out.x HP.out.y _).mono ?_; rintro e w10 ⟨r6, s6, rfl, hr6, hs6, b1⟩; have a10 : At2 w x y u v w10 := At2.next (by first | assumption | exact At2.drew (by assumption)) b1; have c100 := a10.p.c0; have c101 := a10.p.c1; have c102 := a10.q.c0; have c103 := a10.q.c1; clear b1; try (have q5 := eq_t hr5 hr6 rfl; have q6 := eq_t hs5 hs6 rfl))
    | (go_at_call 13; with_reducible refine (number_U u v HQ.out.x HQ.out.y _).mono ?_; rintro e w11 ⟨r7, s7, rfl, hr7, hs7, b1⟩; have a11 : At2 w x y u v w11 := At2.next (by first | assumption | exact At2.drew (by assumption)) b1; have c110 := a11.p.c0; have c111 := a11.p.c1; have c112 := a11.q.c0; have c113 := a11.q.c1; clear b1; try (have q3 := eq_t hr4 hr7 rfl; have q4 := eq_t hs4 hs7 rfl)))
  all_goals first | (go_ret; exact ⟨rfl, At2.bel (by assumption)⟩)
set_option maxHeartbeats 2000000 in
theorem steps_early (x y u v : Int) (h : ¬ (Rt x y ∧ Rt u v)) (w : World) : Calls Try.prog 6 #[.agg #[.int .i64 x, .int .i64 y], .agg #[.int .i64 u, .int .i64 v]] w fun e w' => e = .returned (.bool true) ∧ Below w.heap.size w w' := by
  by_cases h1 : Rt x y
  · have HP : Hid (Rt x y) := h1
    have HQ : Hid (¬ Rt u v) := fun h2 => h ⟨h1, h2⟩
    clear h h1
    go_enter Try.func6, Try.ntmps6
    go_wp2_with (first
      | (go_at_call 9; refine (anchor_any _).mono ?_; rintro e w1 ⟨rfl, b1⟩; have a1 : At2 w x y u v w1 := (At2.start w x y u v).next b1; have c0 := a1.p.c0; have c1 := a1.p.c1; have c2 := a1.q.c0; have c3 := a1.q.c1; clear b1)
      | (go_at_call 11; with_reducible refine (right_yes x y HP.out _).mono ?_; rintro e w2 ⟨rfl, b1⟩; have a2 : At2 w x y u v w2 := At2.next (by first | assumption | exact At2.drew (by assumption)) b1; have c20 := a2.p.c0; have c21 := a2.p.c1; have c22 := a2.q.c0; have c23 := a2.q.c1; clear b1)
      | (go_at_call 11; with_reducible refine (right_no u v HQ.out _).mono ?_; rintro e w3 ⟨rfl, b1⟩; have a3 : At2 w x y u v w3 := At2.next (by first | assumption | exact At2.drew (by assumption)) b1; have c30 := a3.p.c0; have c31 := a3.p.c1; have c32 := a3.q.c0; have c33 := a3.q.c1; clear b1))
    go_ret
    exact ⟨rfl, a3.bel⟩
  · have HP : Hid (¬ Rt x y) := h1
    clear h h1
    go_enter Try.func6, Try.ntmps6
    go_wp2_with (first
      | (go_at_call 9; refine (anchor_any _).mono ?_; rintro e w1 ⟨rfl, b1⟩; have a1 : At2 w x y u v w1 := (At2.start w x y u v).next b1; have c0 := a1.p.c0; have c1 := a1.p.c1; have c2 := a1.q.c0; have c3 := a1.q.c1; clear b1)
      | (go_at_call 11; with_reducible refine (right_no x y HP.out _).mono ?_; rintro e w2 ⟨rfl, b1⟩; have a2 : At2 w x y u v w2 := At2.next (by first | assumption | exact At2.drew (by assumption)) b1; have c20 := a2.p.c0; have c21 := a2.p.c1; have c22 := a2.q.c0; have c23 := a2.q.c1; clear b1))
    go_ret
    exact ⟨rfl, a2.bel⟩
theorem steps_any (x y u v : Int) (w : World) : Calls Try.prog 6 #[.agg #[.int .i64 x, .int .i64 y], .agg #[.int .i64 u, .int .i64 v]] w fun e w' => e = .returned (.bool true) ∧ Below w.heap.size w w' := by
  by_cases h : Rt x y ∧ Rt u v
  · exact steps_ok x y u v h.1 h.2 w
  · exact steps_early x y u v h w
end Go.Proofs.Ytbppipnnmmddaaa
