/- The walk of TallyForms. -/
import Derived.Test.YtbppipnnmmddaaaT6MakesW
import Derived.Test.YtbppipnnmmddaaaT6Within
import Derived.Test.YtbppipnnmmddaaaT6Sum
namespace Go.Proofs.Ytbppipnnmmddaaa
open Go.RowKit Ieee
attribute [local go_sem] run_neg_complex
/-- A word that stands for a count. -/
def Ct (a : Nat) : Prop := ∃ m : Int, T6.V a m ∧ 0 ≤ m ∧ m ≤ 1099511627776
theorem Ta_Ct {a b : Nat} : T6.Ta a b ↔ Ct a ∧ Ct b :=
  ⟨fun ⟨m, n, h1, h2, h3, h4, h5, h6⟩ => ⟨⟨m, h1, h3, h4⟩, ⟨n, h2, h5, h6⟩⟩, fun ⟨⟨m, h1, h3, h4⟩, ⟨n, h2, h5, h6⟩⟩ => ⟨m, n, h1, h2, h3, h4, h5, h6⟩⟩
set_option maxHeartbeats 2000000 in
theorem whole_t (a : Nat) (ha : a < 2 ^ 64) (h : Ct a) (w : World) : Calls Try.prog 14 #[.float .f64 a] w fun e w' => e = .returned (.bool true) ∧ w' = w := by
  obtain ⟨m, hm, h0, h1⟩ := h
  have q1 := geq_t hm h0
  have q2 := leq_t hm T6.top_V h1
  have c1 : ∀ w : World, (convert 33 3 (.float .f64 a)).run Try.prog w = .ok (.int .i64 m) w := fun w => run_convert_float_int w 33 3 .f64 .i64 a m rfl Try.underlying3 (T6.V_toInt hm (by omega))
  have q3 := eq_t (⟨hm, ha⟩ : U a m) (U_fo (n := m) (by omega)) rfl
  clear hm h0 h1
  go_enter Try.func14, Try.ntmps14
  go_wp2
  go_ret
  exact ⟨rfl, rfl⟩
/-- How a word that stands for no count fails the test. -/
theorem not_count {a : Nat} (h : ¬ Ct a) : (FloatKind.f64.format.order a 0 == some .gt || FloatKind.f64.format.order a 0 == some .eq) = false ∨
    ((FloatKind.f64.format.order a 0 == some .gt || FloatKind.f64.format.order a 0 == some .eq) = true ∧ (FloatKind.f64.format.order a 4787326403894837248 == some .lt || FloatKind.f64.format.order a 4787326403894837248 == some .eq) = false) ∨
    ((FloatKind.f64.format.order a 0 == some .gt || FloatKind.f64.format.order a 0 == some .eq) = true ∧ (FloatKind.f64.format.order a 4787326403894837248 == some .lt || FloatKind.f64.format.order a 4787326403894837248 == some .eq) = true ∧ ∃ n : Int, floatToIntVal .f64 a .i64 = some n ∧ (FloatKind.f64.format.order a (floatOfInt .f64 n) == some .eq) = false) := by
  rcases T6.cls a with ⟨z, hz⟩ | ⟨s, hi⟩ | ⟨s, f, hn⟩
  · have o0 : double.order a 0 = some (compare z 0) := by
      have := T6.Fin_order hz (T6.V_fin.1 T6.V_zero)
      rwa [Int.zero_mul] at this
    have o1 : double.order a 4787326403894837248 = some (compare z (1099511627776 * 2 ^ T6.E)) := T6.Fin_order hz (T6.V_fin.1 T6.top_V)
    by_cases h0 : 0 ≤ z
    · have g0 : (FloatKind.f64.format.order a 0 == some .gt || FloatKind.f64.format.order a 0 == some .eq) = true := by
        show (double.order a 0 == some .gt || double.order a 0 == some .eq) = true
        rw [o0]
        rcases Int.lt_or_eq_of_le h0 with k | k
        · rw [Int.compare_eq_gt.2 k]; rfl
        · rw [Int.compare_eq_eq.2 k.symm]; rfl
      by_cases h1 : z ≤ 1099511627776 * 2 ^ T6.E
      · right; right
        refine ⟨g0, ?_, ?_⟩
        · show (double.order a _ == some .lt || double.order a _ == some .eq) = true
          rw [o1]
          rcases Int.lt_or_eq_of_le h1 with k | k
          · rw [Int.compare_eq_lt.2 k]; rfl
          · rw [Int.compare_eq_eq.2 k]; rfl
        · obtain ⟨n, k1, k2, k3⟩ := T6.whole_or (top := 1099511627776) hz h0 h1 (by decide)
          refine ⟨n, k2, ?_⟩
          rcases k3 with k3 | k3
          · exact absurd ⟨(n : Int), k3, by omega, by omega⟩ h
          · show (double.order a _ == some .eq) = false
            rw [k3]
            rfl
      · right; left
        refine ⟨g0, ?_⟩
        show (double.order a _ == some .lt || double.order a _ == some .eq) = false
        rw [o1, Int.compare_eq_gt.2 (by omega)]
        rfl
    · left
      show (double.order a 0 == some .gt || double.order a 0 == some .eq) = false
      rw [o0, Int.compare_eq_lt.2 (by omega)]
      rfl
  · have o0 := (T6.inf_order hi (T6.V_fin.1 T6.V_zero)).1
    have o1 := (T6.inf_order hi (T6.V_fin.1 T6.top_V)).1
    cases s with
    | true =>
      left
      show (double.order a 0 == some .gt || double.order a 0 == some .eq) = false
      rw [o0]; rfl
    | false =>
      right; left
      constructor
      · show (double.order a 0 == some .gt || double.order a 0 == some .eq) = true
        rw [o0]; rfl
      · show (double.order a _ == some .lt || double.order a _ == some .eq) = false
        rw [o1]; rfl
  · left
    show (double.order a 0 == some .gt || double.order a 0 == some .eq) = false
    rw [(T6.nan_order hn).1]; rfl
set_option maxHeartbeats 2000000 in
theorem whole_f (a : Nat) (h : ¬ Ct a) (w : World) : Calls Try.prog 14 #[.float .f64 a] w fun e w' => e = .returned (.bool false) ∧ w' = w := by
  rcases not_count h with q1 | ⟨q1, q2⟩ | ⟨q1, q2, n, hn, q3⟩
  · clear h
    go_enter Try.func14, Try.ntmps14
    go_wp2
    go_ret
    exact ⟨rfl, rfl⟩
  · clear h
    go_enter Try.func14, Try.ntmps14
    go_wp2
    go_ret
    exact ⟨rfl, rfl⟩
  · have c1 : ∀ w : World, (convert 33 3 (.float .f64 a)).run Try.prog w = .ok (.int .i64 n) w := fun w => run_convert_float_int w 33 3 .f64 .i64 a n rfl Try.underlying3 hn
    clear h hn
    go_enter Try.func14, Try.ntmps14
    go_wp2
    go_ret
    exact ⟨rfl, rfl⟩
theorem Sum_none (a b : Nat) (m n : Int) (hx : U a m) (hy : U b n) (hr : Rt m n) (w : World) : Calls Try.prog 15 #[.complex .f64 a b, .slice none 0 0] w fun e w' => ∃ x y k, e = .returned (.tuple #[.complex .f64 x y, .int .i64 0]) ∧ U x m ∧ U y n ∧ w' = w.drewN k := by
  refine (Sum_ok [] a b m n none 0 0 w hx hy hr (fun j h => absurd h (by simp)) (fun j h => absurd h (by simp)) rfl (by omega)).mono ?_
  rintro e w' ⟨k, hS, hw⟩
  rcases hS with ⟨m', n', h, x, y, he, hx', hy'⟩ | ⟨h, _⟩
  · cases h
    exact ⟨x, y, k, he, hx', hy', hw⟩
  · cases h
theorem below_then {w w1 : World} {k : Nat} (h : Below w.heap.size w w1) : Below w.heap.size w (w1.drewN k) := h.trans (belowLe (below_drewN _ _) h.size)
set_option maxHeartbeats 4000000 in
theorem forms_ok (a b : Nat) (ha : a < 2 ^ 64) (hb : b < 2 ^ 64) (ca : Ct a) (cb : Ct b) (w : World) : Calls Try.prog 4 #[.float .f64 a, .float .f64 b] w fun e w' => e = .returned (.bool true) ∧ Below w.heap.size w w' := by
  have HA : Hid (Ct a) := ca
  have HB : Hid (Ct b) := cb
  obtain ⟨m, ua, m0, m1⟩ := ca
  obtain ⟨n, ub, n0, n1⟩ := cb
  have h1 : U a m := ⟨ua, ha⟩
  have h2 : U b n := ⟨ub, hb⟩
  have HR : Hid (Rt m n) := ⟨m0, m1, n0, n1⟩
  have p1 := eq_t (U_fo (n := m) (by omega)) h1 rfl
  have p2 := eq_t (U_fo (n := n) (by omega)) h2 rfl
  clear ua ub m0 m1 n0 n1
  go_enter Try.func4, Try.ntmps4
  go_wp2_with (first
    | (go_at_call 9; refine (anchor_any _).mono ?_; rintro e w1 ⟨rfl, b1⟩; have HW : Hid (Below w.heap.size w w1) := b1; clear b1)
    | (go_at_call 14; with_reducible refine (whole_t a ha HA.out _).mono ?_; rintro e w2 ⟨rfl, rfl⟩)
    | (go_at_call 14; with_reducible refine (whole_t b hb HB.out _).mono ?_; rintro e w2 ⟨rfl, rfl⟩)
    | (go_at_call 12; refine (Parts_ok a b m n ha hb h1.1 h2.1 HR.out.1 HR.out.2.1 HR.out.2.2.1 HR.out.2.2.2 _).mono ?_; rintro e w3 ⟨k1, rfl, rfl⟩)
    | (go_at_call 15; refine (Sum_none a b m n h1 h2 HR.out _).mono ?_; rintro e w4 ⟨x, y, k2, rfl, hx, hy, rfl⟩; have q1 := eq_t hx h1 rfl; have q2 := eq_t hy h2 rfl)
    | (go_at_call 16; refine (Step_ok a b 0 0 m n 0 0 h1 h2 U0 U0 HR.out (by unfold Rt; omega) _).mono ?_; rintro e w5 ⟨x2, y2, k3, rfl, hx2, hy2, rfl⟩; have q3 := eq_t hx2 (U_neg h1) (by omega); have q4 := eq_t hy2 (U_neg h2) (by omega))
    | (go_at_call 17; refine (Finish_U a b m n 0 h1 h2 HR.out (by omega) HR.out.2.2.1 (by have := HR.out.2.1; omega) _).mono ?_; rintro e w6 ⟨x3, y3, k4, rfl, hx3, hy3, rfl⟩; have q5 := eq_t hx3 h1 (by omega); have q6 := eq_t hy3 h2 (by omega))
    | (go_at_call 18; refine (Within_t a b a b m n m n h1 h2 h1 h2 HR.out HR.out ⟨by omega, by omega⟩ _).mono ?_; rintro e w7 ⟨k5, rfl, rfl⟩))
  go_ret
  exact ⟨rfl, below_then HW.out⟩
set_option maxHeartbeats 4000000 in
theorem forms_no (a b : Nat) (ha : a < 2 ^ 64) (hb : b < 2 ^ 64) (h : ¬ (Ct a ∧ Ct b)) (w : World) : Calls Try.prog 4 #[.float .f64 a, .float .f64 b] w fun e w' => e = .returned (.bool true) ∧ Below w.heap.size w w' := by
  have ht : ¬ T6.Ta a b := fun k => h (Ta_Ct.1 k)
  have t0 : T6.Ta 0 0 := Ta_of U0 U0 (by unfold Rt; omega)
  have z0 : (0 : Nat) < 2 ^ 64 := by decide
  have p0 := eq_t U0 U0 rfl
  by_cases ca : Ct a
  · have HA : Hid (Ct a) := ca
    have HB : Hid (¬ Ct b) := fun cb => h ⟨ca, cb⟩
    clear h ca
    go_enter Try.func4, Try.ntmps4
    go_wp2_with (first
      | (go_at_call 9; refine (anchor_any _).mono ?_; rintro e w1 ⟨rfl, b1⟩; have HW : Hid (Below w.heap.size w w1) := b1; clear b1)
      | (go_at_call 14; with_reducible refine (whole_t a ha HA.out _).mono ?_; rintro e w2 ⟨rfl, rfl⟩)
      | (go_at_call 14; with_reducible refine (whole_f b HB.out _).mono ?_; rintro e w2 ⟨rfl, rfl⟩)
      | (go_at_call 12; refine (Parts_bad a b ha hb ht _).mono ?_; rintro e w3 ⟨k1, rfl, rfl⟩)
      | (go_at_call 15; refine (Sum_bad a b ha hb ht _ _ _ _).mono ?_; rintro e w4 ⟨k2, rfl, rfl⟩)
      | (go_at_call 16; refine (Step_bad a b 0 0 ha hb ht _).mono ?_; rintro e w5 ⟨k3, rfl, rfl⟩)
      | (go_at_call 17; refine (Finish_bad a b 0 ha hb ht _).mono ?_; rintro e w6 ⟨k4, rfl, rfl⟩)
      | (go_at_call 18; with_reducible refine (Within_bad1 a b a b ha hb ht _).mono ?_; rintro e w7 ⟨k5, rfl, rfl⟩)
      | (go_at_call 18; with_reducible refine (Within_bad2 0 0 a b z0 z0 ha hb t0 ht _).mono ?_; rintro e w7 ⟨k6, rfl, rfl⟩)
      | (go_at_call 18; with_reducible refine (Within_bad1 a b 0 0 ha hb ht _).mono ?_; rintro e w7 ⟨k7, rfl, rfl⟩)
      | (go_at_call 19; refine (Mirror_bad a b ha hb ht _).mono ?_; rintro e w8 ⟨k8, rfl, rfl⟩))
    go_ret
    exact ⟨rfl, below_then HW.out⟩
  · have HA : Hid (¬ Ct a) := ca
    clear h ca
    go_enter Try.func4, Try.ntmps4
    go_wp2_with (first
      | (go_at_call 9; refine (anchor_any _).mono ?_; rintro e w1 ⟨rfl, b1⟩; have HW : Hid (Below w.heap.size w w1) := b1; clear b1)
      | (go_at_call 14; with_reducible refine (whole_f a HA.out _).mono ?_; rintro e w2 ⟨rfl, rfl⟩)
      | (go_at_call 12; refine (Parts_bad a b ha hb ht _).mono ?_; rintro e w3 ⟨k1, rfl, rfl⟩)
      | (go_at_call 15; refine (Sum_bad a b ha hb ht _ _ _ _).mono ?_; rintro e w4 ⟨k2, rfl, rfl⟩)
      | (go_at_call 16; refine (Step_bad a b 0 0 ha hb ht _).mono ?_; rintro e w5 ⟨k3, rfl, rfl⟩)
      | (go_at_call 17; refine (Finish_bad a b 0 ha hb ht _).mono ?_; rintro e w6 ⟨k4, rfl, rfl⟩)
      | (go_at_call 18; with_reducible refine (Within_bad1 a b a b ha hb ht _).mono ?_; rintro e w7 ⟨k5, rfl, rfl⟩)
      | (go_at_call 18; with_reducible refine (Within_bad2 0 0 a b z0 z0 ha hb t0 ht _).mono ?_; rintro e w7 ⟨k6, rfl, rfl⟩)
      | (go_at_call 18; with_reducible refine (Within_bad1 a b 0 0 ha hb ht _).mono ?_; rintro e w7 ⟨k7, rfl, rfl⟩)
      | (go_at_call 19; refine (Mirror_bad a b ha hb ht _).mono ?_; rintro e w8 ⟨k8, rfl, rfl⟩))
    go_ret
    exact ⟨rfl, below_then HW.out⟩
theorem forms_any (a b : Nat) (ha : a < 2 ^ 64) (hb : b < 2 ^ 64) (w : World) : Calls Try.prog 4 #[.float .f64 a, .float .f64 b] w fun e w' => e = .returned (.bool true) ∧ Below w.heap.size w w' := by
  by_cases h : Ct a ∧ Ct b
  · exact forms_ok a b ha hb h.1 h.2 w
  · exact forms_no a b ha hb h w
end Go.Proofs.Ytbppipnnmmddaaa
