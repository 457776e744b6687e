/- The contracts of isStep, isTally, Make, Parts, Step, Within, Finish and Mirror. -/
import Derived.Test.YtbppipnnmmddaaaT6Leaf
import Derived.OwnWalk
namespace Go.Proofs.Ytbppipnnmmddaaa
open Go.RowKit Ieee
namespace T6
/-- Two words that stand for a step. -/
def St (a b : Nat) : Prop := Wh a ∧ Wh b
/-- Two words that stand for a tally. -/
def Ta (a b : Nat) : Prop := ∃ m n : Int, V a m ∧ V b n ∧ 0 ≤ m ∧ m ≤ 1099511627776 ∧ 0 ≤ n ∧ n ≤ 1099511627776
theorem geq_zero {a : Nat} {m : Int} (h : V a m) : ((double.order a 0 == some .gt || double.order a 0 == some .eq) = true ↔ 0 ≤ m) := by
  rw [V_order h V_zero]
  rcases Int.lt_trichotomy m 0 with k | k | k
  · rw [Int.compare_eq_lt.2 k]; simp; omega
  · rw [Int.compare_eq_eq.2 k]; simp; omega
  · rw [Int.compare_eq_gt.2 k]; simp; omega
theorem leq_V {a b : Nat} {m n : Int} (h : V a m) (k : V b n) : (double.order a b == some .lt || double.order a b == some .eq) = decide (m ≤ n) := by
  rw [V_order h k]
  rcases Int.lt_trichotomy m n with k | k | k
  · rw [Int.compare_eq_lt.2 k, decide_eq_true (by omega)]; rfl
  · rw [Int.compare_eq_eq.2 k, decide_eq_true (by omega)]; rfl
  · rw [Int.compare_eq_gt.2 k, decide_eq_false (by omega)]; rfl
theorem eq_V {a b : Nat} {m n : Int} (h : V a m) (k : V b n) : (double.order a b == some .eq) = decide (m = n) := by
  rw [V_order h k]
  rcases Int.lt_trichotomy m n with k | k | k
  · rw [Int.compare_eq_lt.2 k, decide_eq_false (by omega)]; rfl
  · rw [Int.compare_eq_eq.2 k, decide_eq_true (by omega)]; rfl
  · rw [Int.compare_eq_gt.2 k, decide_eq_false (by omega)]; rfl
theorem Ta_St {a b : Nat} (h : Ta a b) : St a b := by
  obtain ⟨m, n, h1, h2, h3, h4, h5, h6⟩ := h
  exact ⟨⟨m, h1, by omega⟩, ⟨n, h2, by omega⟩⟩
end T6
set_option maxHeartbeats 1000000 in
theorem isStep_yes (a b : Nat) (ha : a < 2 ^ 64) (hb : b < 2 ^ 64) (h : T6.St a b) (w : World) : Calls Try.prog 23 #[.complex .f64 a b] w fun e w' => ∃ k, e = .returned (.bool true) ∧ w' = w.drewN k := by
  obtain ⟨h1, h2⟩ := h
  go_enter Try.func23, Try.ntmps23
  go_wp2_with (go_at_call 24; refine (isWhole_yes _ (by assumption) (by assumption) _).mono ?_; rintro e w' ⟨k, rfl, rfl⟩)
  go_ret
  exact ⟨_, rfl, rfl⟩
set_option maxHeartbeats 1000000 in
theorem isStep_no (a b : Nat) (ha : a < 2 ^ 64) (hb : b < 2 ^ 64) (h : ¬ T6.St a b) (w : World) : Calls Try.prog 23 #[.complex .f64 a b] w fun e w' => ∃ k, e = .returned (.bool false) ∧ w' = w.drewN k := by
  by_cases h1 : T6.Wh a
  · have h2 : ¬ T6.Wh b := fun h2 => h ⟨h1, h2⟩
    clear h
    go_enter Try.func23, Try.ntmps23
    go_wp2_with (go_at_call 24; first | (refine (isWhole_yes _ (by assumption) (by assumption) _).mono ?_; rintro e w' ⟨k, rfl, rfl⟩) | (refine (isWhole_no _ (by assumption) (by assumption) _).mono ?_; rintro e w' ⟨k, rfl, rfl⟩))
    go_ret
    exact ⟨_, rfl, rfl⟩
  · clear h
    go_enter Try.func23, Try.ntmps23
    go_wp2_with (go_at_call 24; refine (isWhole_no _ (by assumption) (by assumption) _).mono ?_; rintro e w' ⟨k, rfl, rfl⟩)
    go_ret
    exact ⟨_, rfl, rfl⟩
theorem no_b {p : Prop} {v : Bool} (h : v = true ↔ p) (hn : ¬ p) : v = false := by
  cases v with
  | true => exact absurd (h.1 rfl) hn
  | false => rfl
theorem geq_t {a : Nat} {m : Int} (h : T6.V a m) (h0 : 0 ≤ m) : (FloatKind.f64.format.order a 0 == some .gt || FloatKind.f64.format.order a 0 == some .eq) = true := (T6.geq_zero h).2 h0
theorem geq_f {a : Nat} {m : Int} (h : T6.V a m) (h0 : ¬ 0 ≤ m) : (FloatKind.f64.format.order a 0 == some .gt || FloatKind.f64.format.order a 0 == some .eq) = false := no_b (T6.geq_zero h) h0
theorem leq_t {a b : Nat} {m n : Int} (h : T6.V a m) (k : T6.V b n) (h0 : m ≤ n) : (FloatKind.f64.format.order a b == some .lt || FloatKind.f64.format.order a b == some .eq) = true := (T6.leq_V h k).trans (decide_eq_true h0)
theorem leq_f {a b : Nat} {m n : Int} (h : T6.V a m) (k : T6.V b n) (h0 : ¬ m ≤ n) : (FloatKind.f64.format.order a b == some .lt || FloatKind.f64.format.order a b == some .eq) = false := (T6.leq_V h k).trans (decide_eq_false h0)
set_option maxHeartbeats 1000000 in
theorem isTally_yes (a b : Nat) (ha : a < 2 ^ 64) (hb : b < 2 ^ 64) (h : T6.Ta a b) (w : World) : Calls Try.prog 21 #[.complex .f64 a b] w fun e w' => ∃ k, e = .returned (.bool true) ∧ w' = w.drewN k := by
  have hs := T6.Ta_St h
  obtain ⟨m, n, h1, h2, h3, h4, h5, h6⟩ := h
  have q1 := geq_t h1 h3
  have q2 := geq_t h2 h5
  clear h1 h2 h3 h4 h5 h6
  go_enter Try.func21, Try.ntmps21
  go_wp2_with (go_at_call 23; refine (isStep_yes _ _ ha hb hs _).mono ?_; rintro e w' ⟨k, rfl, rfl⟩)
  go_ret
  exact ⟨_, rfl, rfl⟩
set_option maxHeartbeats 1000000 in
theorem isTally_no (a b : Nat) (ha : a < 2 ^ 64) (hb : b < 2 ^ 64) (h : ¬ T6.Ta a b) (w : World) : Calls Try.prog 21 #[.complex .f64 a b] w fun e w' => ∃ k, e = .returned (.bool false) ∧ w' = w.drewN k := by
  by_cases hs : T6.St a b
  · obtain ⟨⟨m, h1, h2⟩, ⟨n, h3, h4⟩⟩ := hs
    have hs : T6.St a b := ⟨⟨m, h1, h2⟩, ⟨n, h3, h4⟩⟩
    by_cases hm : 0 ≤ m
    · have hn : ¬ 0 ≤ n := fun hn => h ⟨m, n, h1, h3, hm, by omega, hn, by omega⟩
      have q1 := geq_t h1 hm
      have q2 := geq_f h3 hn
      clear h h1 h2 h3 h4 hm hn
      go_enter Try.func21, Try.ntmps21
      go_wp2_with (go_at_call 23; refine (isStep_yes _ _ ha hb hs _).mono ?_; rintro e w' ⟨k, rfl, rfl⟩)
      go_ret
      exact ⟨_, rfl, rfl⟩
    · have q1 := geq_f h1 hm
      clear h h1 h2 h3 h4 hm
      go_enter Try.func21, Try.ntmps21
      go_wp2_with (go_at_call 23; refine (isStep_yes _ _ ha hb hs _).mono ?_; rintro e w' ⟨k, rfl, rfl⟩)
      go_ret
      exact ⟨_, rfl, rfl⟩
  · clear h
    go_enter Try.func21, Try.ntmps21
    go_wp2_with (go_at_call 23; refine (isStep_no _ _ ha hb hs _).mono ?_; rintro e w' ⟨k, rfl, rfl⟩)
    go_ret
    exact ⟨_, rfl, rfl⟩
/-- The word of a whole number. -/
theorem fo_lt (n : Int) : floatOfInt .f64 n < 2 ^ 64 := by
  have := floatOfInt_wf .f64 n
  simpa [Lit.wf] using this
theorem bits_lt {op : BinOp} {x y r : Nat} (h : floatBits op .f64 x y = some r) : r < 2 ^ 64 := by
  have := floatBits_wf h
  simpa [Lit.wf] using this
set_option maxHeartbeats 1000000 in
theorem Make_ok (m n : Int) (h1 : 0 ≤ m) (h2 : m ≤ 1099511627776) (h3 : 0 ≤ n) (h4 : n ≤ 1099511627776) (w : World) : Calls Try.prog 10 #[.int .i64 m, .int .i64 n] w fun e w' => e = .returned (.tuple #[.complex .f64 (floatOfInt .f64 m) (floatOfInt .f64 n), .int .i64 0]) ∧ w' = w := by
  go_enter Try.func10, Try.ntmps10
  go_wp2
  go_ret2
  exact ⟨rfl, rfl⟩
set_option maxHeartbeats 1000000 in
theorem Make_bad (m n : Int) (h : ¬ (0 ≤ m ∧ m ≤ 1099511627776 ∧ 0 ≤ n ∧ n ≤ 1099511627776)) (w : World) : Calls Try.prog 10 #[.int .i64 m, .int .i64 n] w fun e w' => e = .returned (.tuple #[.complex .f64 0 0, .int .i64 12]) ∧ w' = w := by
  go_enter Try.func10, Try.ntmps10
  go_wp2
  all_goals first | (exfalso; omega) | (go_ret2; exact ⟨rfl, rfl⟩)
set_option maxHeartbeats 1000000 in
theorem Parts_ok (a b : Nat) (m n : Int) (ha : a < 2 ^ 64) (hb : b < 2 ^ 64) (h1 : T6.V a m) (h2 : T6.V b n) (h3 : 0 ≤ m) (h4 : m ≤ 1099511627776) (h5 : 0 ≤ n) (h6 : n ≤ 1099511627776) (w : World) : Calls Try.prog 12 #[.complex .f64 a b] w fun e w' => ∃ k, e = .returned (.tuple #[.int .i64 m, .int .i64 n, .bool true]) ∧ w' = w.drewN k := by
  have ht : T6.Ta a b := ⟨m, n, h1, h2, h3, h4, h5, h6⟩
  have c1 : ∀ w : World, (convert 33 3 (.float .f64 a)).run Try.prog w = .ok (.int .i64 m) w := fun w => run_convert_float_int w 33 3 .f64 .i64 a m rfl Try.underlying3 (T6.V_toInt h1 (by omega))
  have c2 : ∀ w : World, (convert 33 3 (.float .f64 b)).run Try.prog w = .ok (.int .i64 n) w := fun w => run_convert_float_int w 33 3 .f64 .i64 b n rfl Try.underlying3 (T6.V_toInt h2 (by omega))
  clear h1 h2 h3 h4 h5 h6
  go_enter Try.func12, Try.ntmps12
  go_wp2_with (go_at_call 21; refine (isTally_yes _ _ ha hb ht _).mono ?_; rintro e w' ⟨k, rfl, rfl⟩)
  go_ret3
  exact ⟨_, rfl, rfl⟩
set_option maxHeartbeats 1000000 in
theorem Parts_bad (a b : Nat) (ha : a < 2 ^ 64) (hb : b < 2 ^ 64) (ht : ¬ T6.Ta a b) (w : World) : Calls Try.prog 12 #[.complex .f64 a b] w fun e w' => ∃ k, e = .returned (.tuple #[.int .i64 0, .int .i64 0, .bool false]) ∧ w' = w.drewN k := by
  go_enter Try.func12, Try.ntmps12
  go_wp2_with (go_at_call 21; refine (isTally_no _ _ ha hb ht _).mono ?_; rintro e w' ⟨k, rfl, rfl⟩)
  go_ret3
  exact ⟨_, rfl, rfl⟩
end Go.Proofs.Ytbppipnnmmddaaa
