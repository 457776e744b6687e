/- The contracts of the statements' own helpers: right, step and number of a pair; the anchor. -/
import Derived.Test.YtbppipnnmmddaaaT6Fun
namespace Go.Proofs.Ytbppipnnmmddaaa
open Go.RowKit Ieee
theorem eq_t {a b : Nat} {m n : Int} (h : U a m) (k : U b n) (h0 : m = n) : (FloatKind.f64.format.order a b == some .eq) = true := (T6.eq_V h.1 k.1).trans (decide_eq_true h0)
theorem eq_f {a b : Nat} {m n : Int} (h : U a m) (k : U b n) (h0 : m ≠ n) : (FloatKind.f64.format.order a b == some .eq) = false := (T6.eq_V h.1 k.1).trans (decide_eq_false h0)
theorem U0 : U 0 0 := ⟨T6.V_zero, by decide⟩
theorem U1 : U 4607182418800017408 1 := ⟨by have := T6.V_ofInt (n := 1) (by decide); rwa [show floatOfInt .f64 1 = 4607182418800017408 from by decide] at this, by decide⟩
theorem Um1 : U 13830554455654793216 (-1) := ⟨by have := T6.V_ofInt (n := -1) (by decide); rwa [show floatOfInt .f64 (-1) = 13830554455654793216 from by decide] at this, by decide⟩
theorem U2 : U 4611686018427387904 2 := ⟨by have := T6.V_ofInt (n := 2) (by decide); rwa [show floatOfInt .f64 2 = 4611686018427387904 from by decide] at this, by decide⟩
theorem U3 : U 4613937818241073152 3 := ⟨by have := T6.V_ofInt (n := 3) (by decide); rwa [show floatOfInt .f64 3 = 4613937818241073152 from by decide] at this, by decide⟩
theorem Make_U (m n : Int) (h : Rt m n) (w : World) : Calls Try.prog 10 #[.int .i64 m, .int .i64 n] w fun e w' => ∃ x y, e = .returned (.tuple #[.complex .f64 x y, .int .i64 0]) ∧ U x m ∧ U y n ∧ w' = w :=
  (Make_ok m n h.1 h.2.1 h.2.2.1 h.2.2.2 w).mono fun _ _ ⟨he, hw⟩ => ⟨_, _, he, U_fo (by have := h.1; have := h.2.1; omega), U_fo (by have := h.2.2.1; have := h.2.2.2; omega), hw⟩
theorem Finish_U (a b : Nat) (m n z : Int) (h1 : U a m) (h2 : U b n) (h : Rt m n) (hz : 0 ≤ z) (hz2 : z ≤ n) (hz3 : z ≤ 1099511627776 - m) (w : World) : Calls Try.prog 17 #[.complex .f64 a b, .int .i64 z] w fun e w' => ∃ x y k, e = .returned (.tuple #[.complex .f64 x y, .int .i64 0]) ∧ U x (m + z) ∧ U y (n - z) ∧ w' = w.drewN k :=
  (Finish_ok a b m n z h1 h2 h hz hz2 hz3 w).mono fun _ _ ⟨k, he, hw⟩ => ⟨_, _, k, he, U_fo (by have := h.1; omega), U_fo (by have := h.2.2.2; omega), hw⟩
theorem below_drewN (w : World) (k : Nat) : Below w.heap.size w (w.drewN k) := ⟨rfl, rfl, rfl, Nat.le_refl _, fun _ _ => rfl⟩
theorem below_box (w : World) (o : Obj) : Below w.heap.size w (w.alloc o) := (Below.refl _ _).alloc (Nat.le_refl _) o
set_option maxHeartbeats 1000000 in
theorem right_yes (x y : Int) (h : Rt x y) (w : World) : Calls Try.prog 11 #[.agg #[.int .i64 x, .int .i64 y]] w fun e w' => e = .returned (.bool true) ∧ Below w.heap.size w w' := by
  obtain ⟨h1, h2, h3, h4⟩ := h
  go_enter Try.func11, Try.ntmps11
  go_wp2
  go_ret
  exact ⟨rfl, below_box _ _⟩
set_option maxHeartbeats 1000000 in
theorem right_no (x y : Int) (h : ¬ Rt x y) (w : World) : Calls Try.prog 11 #[.agg #[.int .i64 x, .int .i64 y]] w fun e w' => e = .returned (.bool false) ∧ Below w.heap.size w w' := by
  unfold Rt at h
  by_cases hy : y ≤ 1099511627776
  · go_enter Try.func11, Try.ntmps11
    go_wp2
    all_goals first | (exfalso; omega) | (go_ret; exact ⟨rfl, below_box _ _⟩)
  · go_enter Try.func11, Try.ntmps11
    go_wp2
    all_goals first | (exfalso; omega) | (go_ret; exact ⟨rfl, below_box _ _⟩)
/-- Both are a step's. -/
def Sp2 (m n : Int) : Prop := -1099511627776 ≤ m ∧ m ≤ 1099511627776 ∧ -1099511627776 ≤ n ∧ n ≤ 1099511627776
set_option maxHeartbeats 1000000 in
theorem step_yes (x y : Int) (h : Sp2 x y) (w : World) : Calls Try.prog 20 #[.agg #[.int .i64 x, .int .i64 y]] w fun e w' => e = .returned (.bool true) ∧ Below w.heap.size w w' := by
  obtain ⟨h1, h2, h3, h4⟩ := h
  go_enter Try.func20, Try.ntmps20
  go_wp2
  go_ret
  exact ⟨rfl, below_box _ _⟩
set_option maxHeartbeats 1000000 in
theorem step_no (x y : Int) (h : ¬ Sp2 x y) (w : World) : Calls Try.prog 20 #[.agg #[.int .i64 x, .int .i64 y]] w fun e w' => e = .returned (.bool false) ∧ Below w.heap.size w w' := by
  unfold Sp2 at h
  by_cases hy : y ≤ 1099511627776
  · go_enter Try.func20, Try.ntmps20
    go_wp2
    all_goals first | (exfalso; omega) | (go_ret; exact ⟨rfl, below_box _ _⟩)
  · go_enter Try.func20, Try.ntmps20
    go_wp2
    all_goals first | (exfalso; omega) | (go_ret; exact ⟨rfl, below_box _ _⟩)
set_option maxHeartbeats 1000000 in
theorem number_any (x y : Int) (w : World) : Calls Try.prog 13 #[.agg #[.int .i64 x, .int .i64 y]] w fun e w' => e = .returned (.complex .f64 (floatOfInt .f64 x) (floatOfInt .f64 y)) ∧ Below w.heap.size w w' := by
  go_enter Try.func13, Try.ntmps13
  go_wp2
  go_ret
  exact ⟨rfl, below_box _ _⟩
theorem number_U (x y : Int) (hx : x.natAbs < 2 ^ 53) (hy : y.natAbs < 2 ^ 53) (w : World) : Calls Try.prog 13 #[.agg #[.int .i64 x, .int .i64 y]] w fun e w' => ∃ a b, e = .returned (.complex .f64 a b) ∧ U a x ∧ U b y ∧ Below w.heap.size w w' :=
  (number_any x y w).mono fun _ _ ⟨he, hw⟩ => ⟨_, _, he, U_fo hx, U_fo hy, hw⟩
set_option maxHeartbeats 1000000 in
theorem anchor_any (w : World) : Calls Try.prog 9 #[] w fun e w' => e = .returned (.bool true) ∧ Below w.heap.size w w' := by
  go_enter Try.func9, Try.ntmps9
  go_wp2_with (first
    | (go_at_call 10; refine (Make_U 2 3 (by unfold Rt; omega) _).mono ?_; rintro e w' ⟨x, y, rfl, hx, hy, rfl⟩; have q1 := eq_t hx U2 rfl; have q2 := eq_t hy U3 rfl)
    | (go_at_call 17; refine (Finish_U _ _ 2 3 1 hx hy (by unfold Rt; omega) (by omega) (by omega) (by omega) _).mono ?_; rintro e w' ⟨x', y', k, rfl, hx', hy', rfl⟩; have q3 := eq_t hx' U3 rfl; have q4 := eq_t hy' U2 rfl)
    | (go_at_call 16; refine (Step_ok _ _ _ _ 2 3 3 2 hx hy hx' hy' (by unfold Rt; omega) (by unfold Rt; omega) _).mono ?_; rintro e w' ⟨x2, y2, k', rfl, hx2, hy2, rfl⟩; have q5 := eq_t hx2 U1 rfl; have q6 := eq_t hy2 Um1 rfl))
  go_ret
  exact ⟨rfl, below_drewN _ _⟩
end Go.Proofs.Ytbppipnnmmddaaa
