/- The walk of TallyMakes. -/
import Derived.Test.YtbppipnnmmddaaaT6Box
namespace Go.Proofs.Ytbppipnnmmddaaa
open Go.RowKit Ieee
theorem Rt.x {x y : Int} (h : Rt x y) : x.natAbs < 2 ^ 53 := by have := h.1; have := h.2.1; omega
theorem Rt.y {x y : Int} (h : Rt x y) : y.natAbs < 2 ^ 53 := by have := h.2.2.1; have := h.2.2.2; omega
set_option maxHeartbeats 2000000 in
theorem makes_yes (x y : Int) (h : Rt x y) (w : World) : Calls Try.prog 3 #[.agg #[.int .i64 x, .int .i64 y]] w fun e w' => e = .returned (.bool true) ∧ Below w.heap.size w w' := by
  have HR : Hid (Rt x y) := h
  clear h
  go_enter Try.func3, Try.ntmps3
  go_wp2_with (first
    | (go_at_call 9; refine (anchor_any _).mono ?_; rintro e w1 ⟨rfl, b1⟩; have a1 : At1 w x y w1 := (At1.start w x y).next b1; have c0 := a1.p.c0; have c1 := a1.p.c1; clear b1)
    | (go_at_call 10; refine (Make_U x y HR.out _).mono ?_; rintro e w2 ⟨r, s, rfl, hr, hs, rfl⟩; have q1 := eq_t hr hr rfl; have q2 := eq_t hs hs rfl)
    | (go_at_call 11; refine (right_yes x y HR.out _).mono ?_; rintro e w3 ⟨rfl, b1⟩; have a3 : At1 w x y w3 := At1.next (by assumption) b1; have d0 := a3.p.c0; have d1 := a3.p.c1; clear b1)
    | (go_at_call 12; refine (Parts_ok _ _ x y hr.2 hs.2 hr.1 hs.1 HR.out.1 HR.out.2.1 HR.out.2.2.1 HR.out.2.2.2 _).mono ?_; rintro e w4 ⟨k, rfl, hw⟩; have a4 : At1 w x y w4 := At1.next (by assumption) (below_of hw); have e0 := a4.p.c0; have e1 := a4.p.c1; clear hw)
    | (go_at_call 13; refine (number_U x y HR.out.x HR.out.y _).mono ?_; rintro e w5 ⟨r', s', rfl, hr', hs', b1⟩; have a5 : At1 w x y w5 := At1.next (by assumption) b1; have q3 := eq_t hr hr' rfl; have q4 := eq_t hs hs' rfl; clear b1))
  go_ret
  exact ⟨rfl, a5.bel⟩
set_option maxHeartbeats 2000000 in
theorem makes_no (x y : Int) (h : ¬ Rt x y) (w : World) : Calls Try.prog 3 #[.agg #[.int .i64 x, .int .i64 y]] w fun e w' => e = .returned (.bool true) ∧ Below w.heap.size w w' := by
  have HR : Hid (¬ Rt x y) := h
  have q0 := eq_t U0 U0 rfl
  clear h
  go_enter Try.func3, Try.ntmps3
  go_wp2_with (first
    | (go_at_call 9; refine (anchor_any _).mono ?_; rintro e w1 ⟨rfl, b1⟩; have a1 : At1 w x y w1 := (At1.start w x y).next b1; have c0 := a1.p.c0; have c1 := a1.p.c1; clear b1)
    | (go_at_call 10; refine (Make_bad x y HR.out _).mono ?_; rintro e w2 ⟨rfl, rfl⟩)
    | (go_at_call 11; refine (right_no x y HR.out _).mono ?_; rintro e w3 ⟨rfl, b1⟩; have a3 : At1 w x y w3 := At1.next (by assumption) b1; have d0 := a3.p.c0; have d1 := a3.p.c1; clear b1))
  go_ret
  exact ⟨rfl, a3.bel⟩
theorem makes_any (x y : Int) (w : World) : Calls Try.prog 3 #[.agg #[.int .i64 x, .int .i64 y]] w fun e w' => e = .returned (.bool true) ∧ Below w.heap.size w w' := by
  by_cases h : Rt x y
  · exact makes_yes x y h w
  · exact makes_no x y h w
end Go.Proofs.Ytbppipnnmmddaaa
