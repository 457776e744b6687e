/- The walk of TallyEnds. -/
import Derived.Test.YtbppipnnmmddaaaT6MakesW
namespace Go.Proofs.Ytbppipnnmmddaaa
open Go.RowKit Ieee
set_option maxHeartbeats 2000000 in
theorem ends_early (x y z : Int) (h : ¬ Rt x y) (w : World) : Calls Try.prog 8 #[.agg #[.int .i64 x, .int .i64 y], .int .i64 z] w fun e w' => e = .returned (.bool true) ∧ Below w.heap.size w w' := by
  have HR : Hid (¬ Rt x y) := h
  clear h
  go_enter Try.func8, Try.ntmps8
  go_wp2_with (first
    | (go_at_call 9; refine (anchor_any _).mono ?_; rintro e w1 ⟨rfl, b1⟩; have a1 : At1 w x y w1 := (At1.start w x y).next b1; have c0 := a1.p.c0; have c1 := a1.p.c1; clear b1)
    | (go_at_call 11; refine (right_no x y HR.out _).mono ?_; rintro e w3 ⟨rfl, b1⟩; have a3 : At1 w x y w3 := At1.next (by assumption) b1; have d0 := a3.p.c0; have d1 := a3.p.c1; clear b1))
  go_ret
  exact ⟨rfl, a3.bel⟩
set_option maxHeartbeats 2000000 in
theorem ends_range (x y z : Int) (h : Rt x y) (hz : z < 0 ∨ y < z ∨ 1099511627776 - x < z) (w : World) : Calls Try.prog 8 #[.agg #[.int .i64 x, .int .i64 y], .int .i64 z] w fun e w' => e = .returned (.bool true) ∧ Below w.heap.size w w' := by
  have HR : Hid (Rt x y) := h
  have HZ : Hid (z < 0 ∨ y < z ∨ 1099511627776 - x < z) := hz
  have q0 := eq_t U0 U0 rfl
  obtain ⟨r1, r2, r3, r4⟩ := h
  have es : IntKind.i64.wrap (1099511627776 - x) = 1099511627776 - x := i64_id _ (by omega)
  clear hz
  go_enter Try.func8, Try.ntmps8
  go_wp2_with (first
    | (go_at_call 9; refine (anchor_any _).mono ?_; rintro e w1 ⟨rfl, b1⟩; have a1 : At1 w x y w1 := (At1.start w x y).next b1; have c0 := a1.p.c0; have c1 := a1.p.c1; clear b1)
    | (go_at_call 11; refine (right_yes x y HR.out _).mono ?_; rintro e w2 ⟨rfl, b1⟩; have a2 : At1 w x y w2 := At1.next (by assumption) b1; have d0 := a2.p.c0; have d1 := a2.p.c1; clear b1)
    | (go_at_call 13; refine (number_U x y HR.out.x HR.out.y _).mono ?_; rintro e w3 ⟨r, s, rfl, hr, hs, b1⟩; have a3 : At1 w x y w3 := At1.next (by assumption) b1; have e0 := a3.p.c0; have e1 := a3.p.c1; clear b1)
    | (go_at_call 17; refine (Finish_range r s x y z hr hs HR.out HZ.out _).mono ?_; rintro e w4 ⟨k, rfl, hw⟩; have a4 : At1 w x y w4 := At1.next (by assumption) (below_of hw); have f0 := a4.p.c0; have f1 := a4.p.c1; clear hw))
  all_goals first | (exfalso; have := HZ.out; omega) | (go_ret; exact ⟨rfl, a4.bel⟩)
set_option maxHeartbeats 4000000 in
theorem ends_ok (x y z : Int) (h : Rt x y) (hz : 0 ≤ z) (hz2 : z ≤ y) (hz3 : z ≤ 1099511627776 - x) (w : World) : Calls Try.prog 8 #[.agg #[.int .i64 x, .int .i64 y], .int .i64 z] w fun e w' => e = .returned (.bool true) ∧ Below w.heap.size w w' := by
  have HR : Hid (Rt x y) := h
  have HR2 : Hid (Rt (x + z) (y - z)) := ⟨by have := h.1; omega, by omega, by omega, by have := h.2.2.2; omega⟩
  obtain ⟨r1, r2, r3, r4⟩ := h
  have es : IntKind.i64.wrap (1099511627776 - x) = 1099511627776 - x := i64_id _ (by omega)
  have e1 : IntKind.i64.wrap (x + z) = x + z := i64_id _ (by omega)
  have e2 : IntKind.i64.wrap (y - z) = y - z := i64_id _ (by omega)
  have e3 : IntKind.i64.wrap (x + y) = x + y := i64_id _ (by omega)
  by_cases hm : y ≤ 1099511627776 - x
  · go_enter Try.func8, Try.ntmps8
    go_wp2_with (first
      | (go_at_call 9; refine (anchor_any _).mono ?_; rintro e w1 ⟨rfl, b1⟩; have a1 : At1 w x y w1 := (At1.start w x y).next b1; have c0 := a1.p.c0; have c1 := a1.p.c1; clear b1)
      | (go_at_call 11; refine (right_yes x y HR.out _).mono ?_; rintro e w2 ⟨rfl, b1⟩; have a2 : At1 w x y w2 := At1.next (by assumption) b1; have d0 := a2.p.c0; have d1 := a2.p.c1; clear b1)
      | (go_at_call 13; refine (number_U x y HR.out.x HR.out.y _).mono ?_; rintro e w3 ⟨r, s, rfl, hr, hs, b1⟩; have a3 : At1 w x y w3 := At1.next (by assumption) b1; have e0 := a3.p.c0; have e1 := a3.p.c1; clear b1)
      | (go_at_call 17; with_reducible refine (Finish_U r s x y z hr hs HR.out hz hz2 hz3 _).mono ?_; rintro e w4 ⟨r', s', k, rfl, hr', hs', hw⟩; have a4 : At1 w x y w4 := At1.next (by assumption) (below_of hw); have f0 := a4.p.c0; have f1 := a4.p.c1; clear hw)
      | (go_at_call 12; refine (Parts_ok _ _ (x + z) (y - z) hr'.2 hs'.2 hr'.1 hs'.1 HR2.out.1 HR2.out.2.1 HR2.out.2.2.1 HR2.out.2.2.2 _).mono ?_; rintro e w5 ⟨k, rfl, hw⟩; have a5 : At1 w x y w5 := At1.next (by assumption) (below_of hw); have g0 := a5.p.c0; have g1 := a5.p.c1; clear hw)
      | (go_at_call 17; with_reducible refine (Finish_U r' s' (x + z) (y - z) (y - z) hr' hs' HR2.out (by omega) (by omega) (by omega) _).mono ?_; rintro e w6 ⟨r2, s2, k, rfl, hr2, hs2, hw⟩; have a6 : At1 w x y w6 := At1.next (by assumption) (below_of hw); have i0 := a6.p.c0; have i1 := a6.p.c1; have q1 := eq_t hr2 (U_fo (n := x + y) (by omega)) (by omega); have q2 := eq_t hs2 U0 (by omega); clear hw))
    all_goals first | (go_ret; exact ⟨rfl, a6.bel⟩)
  · go_enter Try.func8, Try.ntmps8
    go_wp2_with (first
      | (go_at_call 9; refine (anchor_any _).mono ?_; rintro e w1 ⟨rfl, b1⟩; have a1 : At1 w x y w1 := (At1.start w x y).next b1; have c0 := a1.p.c0; have c1 := a1.p.c1; clear b1)
      | (go_at_call 11; refine (right_yes x y HR.out _).mono ?_; rintro e w2 ⟨rfl, b1⟩; have a2 : At1 w x y w2 := At1.next (by assumption) b1; have d0 := a2.p.c0; have d1 := a2.p.c1; clear b1)
      | (go_at_call 13; refine (number_U x y HR.out.x HR.out.y _).mono ?_; rintro e w3 ⟨r, s, rfl, hr, hs, b1⟩; have a3 : At1 w x y w3 := At1.next (by assumption) b1; have e0 := a3.p.c0; have e1 := a3.p.c1; clear b1)
      | (go_at_call 17; with_reducible refine (Finish_U r s x y z hr hs HR.out hz hz2 hz3 _).mono ?_; rintro e w4 ⟨r', s', k, rfl, hr', hs', hw⟩; have a4 : At1 w x y w4 := At1.next (by assumption) (below_of hw); have f0 := a4.p.c0; have f1 := a4.p.c1; clear hw)
      | (go_at_call 12; refine (Parts_ok _ _ (x + z) (y - z) hr'.2 hs'.2 hr'.1 hs'.1 HR2.out.1 HR2.out.2.1 HR2.out.2.2.1 HR2.out.2.2.2 _).mono ?_; rintro e w5 ⟨k, rfl, hw⟩; have a5 : At1 w x y w5 := At1.next (by assumption) (below_of hw); have g0 := a5.p.c0; have g1 := a5.p.c1; clear hw)
      | (go_at_call 17; with_reducible refine (Finish_range r' s' (x + z) (y - z) (y - z) hr' hs' HR2.out (by omega) _).mono ?_; rintro e w6 ⟨k, rfl, hw⟩; have a6 : At1 w x y w6 := At1.next (by assumption) (below_of hw); have i0 := a6.p.c0; have i1 := a6.p.c1; clear hw))
    all_goals first | (go_ret; exact ⟨rfl, a6.bel⟩)
theorem ends_any (x y z : Int) (w : World) : Calls Try.prog 8 #[.agg #[.int .i64 x, .int .i64 y], .int .i64 z] w fun e w' => e = .returned (.bool true) ∧ Below w.heap.size w w' := by
  by_cases h : Rt x y
  · by_cases hz : z < 0 ∨ y < z ∨ 1099511627776 - x < z
    · exact ends_range x y z h hz w
    · exact ends_ok x y z h (by omega) (by omega) (by omega) w
  · exact ends_early x y z h w
end Go.Proofs.Ytbppipnnmmddaaa
