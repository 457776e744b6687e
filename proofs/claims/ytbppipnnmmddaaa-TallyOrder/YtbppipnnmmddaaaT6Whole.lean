/- Which floats of 64 bits are whole and from -2^40 to 2^40: told by the cut towards nought and by the magnitude. -/
import Derived.Test.YtbppipnnmmddaaaT6Fl
import Derived.Laws.BitsAllLaws
namespace Go.Proofs.Ytbppipnnmmddaaa.T6
open Ieee
/-- A word that stands for a whole number of a step. -/
def Wh (b : Nat) : Prop := ∃ n : Int, V b n ∧ n.natAbs ≤ 1099511627776
theorem top_V : V 4787326403894837248 1099511627776 := by
  have h := V_ofInt (n := 1099511627776) (by decide)
  rwa [show floatOfInt .f64 1099511627776 = 4787326403894837248 from by decide] at h
theorem V_unique {b : Nat} {m n : Int} (h : V b m) (k : V b n) : m = n := by
  have e := V_order h h
  rw [V_order h k] at e
  simp only [Option.some.injEq] at e
  rw [Int.compare_eq_eq.2 (rfl : m = m)] at e
  exact Int.compare_eq_eq.1 e
theorem read_abs (b : Nat) (_h : b < 2 ^ 64) : double.read (b &&& (18446744073709551615 - 9223372036854775808)) = match double.read b with
    | .number _ m p => .number false m p
    | .infinity _ => .infinity false
    | .nan _ t => .nan false t := by
  have e : b &&& (18446744073709551615 - 9223372036854775808) = b % 2 ^ 63 := by
    rw [show 18446744073709551615 - 9223372036854775808 = 2 ^ 63 - 1 from by decide, Nat.and_two_pow_sub_one_eq_mod]
  rw [e]
  unfold Format.read
  rw [D_sign]
  have h1 : b % 2 ^ 63 % 2 ^ 63 = b % 2 ^ 63 := Nat.mod_mod _ _
  have h2 : (b % 2 ^ 63 / 2 ^ 63 % 2 == 1) = false := by
    rw [Nat.div_eq_of_lt (Nat.mod_lt _ (by decide))]; rfl
  rw [h1, h2]
  simp only
  split
  · rfl
  · split
    · rfl
    · split <;> rfl
theorem Fin_abs {b : Nat} {x : Int} (hb : b < 2 ^ 64) (h : Fin b x) : Fin (b &&& (18446744073709551615 - 9223372036854775808)) x.natAbs := by
  obtain ⟨s, m, p, h1, h2, h3⟩ := h
  refine ⟨false, m, p, by rw [read_abs b hb, h1], h2, ?_⟩
  rw [← h3, natAbs_signed, signed_eq, Int.natCast_mul, Int.natCast_pow]
  simp
theorem trunc_small {b : Nat} {x : Int} (h : Fin b x) (hx : x.natAbs ≤ 1099511627776 * 2 ^ E) : ∃ n : Int, V (double.write ((double.read b).integral .zero)) n ∧ n.natAbs = x.natAbs / 2 ^ E ∧ (0 ≤ x → 0 ≤ n) ∧ (x ≤ 0 → n ≤ 0) := by
  obtain ⟨n, h1, h2, h3, h4⟩ := Fin_toInt h
  refine ⟨n, ?_, h2, h3, h4⟩
  obtain ⟨s, m, p, k1, k2, k3⟩ := h
  rw [k1] at h1 ⊢
  have e : n.natAbs ≤ 1099511627776 := by
    rw [h2]
    exact Nat.div_le_of_le_mul (by rw [Nat.mul_comm]; exact hx)
  unfold Datum.toInt at h1
  unfold Datum.integral at h1 ⊢
  simp only [Option.some.injEq] at h1 ⊢
  generalize Toward.zero.cut s (m <<< p.toNat) (-p).toNat = c at *
  refine V_nearest (by decide) (by omega) ?_ ?_
  · rw [show ((0 : Int) + 1074).toNat = 0 + E from by decide, signed_add, h1]
  · intro hn
    rw [← h1] at hn ⊢
    unfold signed at hn ⊢
    cases s with
    | true => rw [if_pos rfl] at hn ⊢; symm; simp only [decide_eq_true_eq]; omega
    | false => rw [if_neg (by decide)] at hn ⊢; symm; simp only [decide_eq_false_iff_not]; omega
theorem natAbs_mul_pow (n : Int) : (n * 2 ^ E).natAbs = n.natAbs * 2 ^ E := by
  rw [Int.natAbs_mul, Int.natAbs_pow]
  generalize E = q
  rfl
theorem not_number {b : Nat} (h : (∃ s, double.read b = .infinity s) ∨ ∃ s f, double.read b = .nan s f) : ¬ Wh b := by
  rintro ⟨n, ⟨s, m, p, h1, _⟩, _⟩
  rcases h with ⟨t, h⟩ | ⟨t, f, h⟩ <;> rw [h1] at h <;> exact absurd h (by simp)
/-- The magnitude's test. -/
theorem abs_le {b : Nat} {x : Int} (hb : b < 2 ^ 64) (h : Fin b x) : (double.order (b &&& (18446744073709551615 - 9223372036854775808)) 4787326403894837248 == some .lt || double.order (b &&& (18446744073709551615 - 9223372036854775808)) 4787326403894837248 == some .eq) = decide (x.natAbs ≤ 1099511627776 * 2 ^ E) := by
  rw [Fin_order (Fin_abs hb h) (V_fin.1 top_V)]
  have e : (1099511627776 : Int) * 2 ^ E = ((1099511627776 * 2 ^ E : Nat) : Int) := by
    rw [Int.natCast_mul, Int.natCast_pow]; generalize E = q; rfl
  rw [e]
  generalize 1099511627776 * 2 ^ E = y
  generalize x.natAbs = z
  by_cases hzy : z ≤ y
  · rw [decide_eq_true hzy]
    rcases Nat.lt_or_eq_of_le hzy with k | k
    · rw [show compare (z : Int) (y : Int) = .lt from Int.compare_eq_lt.2 (by omega)]; rfl
    · rw [show compare (z : Int) (y : Int) = .eq from Int.compare_eq_eq.2 (by omega)]; rfl
  · rw [decide_eq_false hzy, show compare (z : Int) (y : Int) = .gt from Int.compare_eq_gt.2 (by omega)]; rfl
theorem abs_not {b : Nat} (hb : b < 2 ^ 64) (h : ∃ s, double.read b = .infinity s) : (double.order (b &&& (18446744073709551615 - 9223372036854775808)) 4787326403894837248 == some .lt || double.order (b &&& (18446744073709551615 - 9223372036854775808)) 4787326403894837248 == some .eq) = false := by
  obtain ⟨s, h⟩ := h
  have h1 : double.read (b &&& (18446744073709551615 - 9223372036854775808)) = .infinity false := by rw [read_abs b hb, h]
  rw [(inf_order h1 (V_fin.1 top_V)).1]
  rfl
/-- What the cut towards nought gives. -/
def Cut (b r : Nat) : Prop := (∃ s f, double.read b = .nan s f) ∨ r = double.write ((double.read b).integral .zero)
theorem order_self {b : Nat} {x : Int} {m : Int} (hx : Fin b x) (hm : V b m) : x = m * 2 ^ E := by
  have q := Fin_order hx (V_fin.1 hm)
  rw [Fin_order hx hx] at q
  simp only [Option.some.injEq] at q
  rw [Int.compare_eq_eq.2 (rfl : x = x)] at q
  exact Int.compare_eq_eq.1 q.symm
theorem whole_test {b r : Nat} (hb : b < 2 ^ 64) (h : Cut b r) : ((double.order b r == some .eq) && (double.order (b &&& (18446744073709551615 - 9223372036854775808)) 4787326403894837248 == some .lt || double.order (b &&& (18446744073709551615 - 9223372036854775808)) 4787326403894837248 == some .eq)) = true ↔ Wh b := by
  rcases cls b with ⟨x, hx⟩ | hi | hn
  · rcases h with ⟨s, f, hn⟩ | rfl
    · obtain ⟨s', m, p, k, _⟩ := hx
      rw [hn] at k
      exact absurd k (by simp)
    · rw [abs_le hb hx]
      by_cases hs : x.natAbs ≤ 1099511627776 * 2 ^ E
      · obtain ⟨n, k1, k2, k3, k4⟩ := trunc_small hx hs
        rw [Fin_order hx (V_fin.1 k1), decide_eq_true hs, Bool.and_true]
        by_cases hw : x = n * 2 ^ E
        · rw [show compare x (n * 2 ^ E) = .eq from Int.compare_eq_eq.2 hw]
          have : Wh b := ⟨n, V_fin.2 (hw ▸ hx), by
            rw [hw, natAbs_mul_pow] at hs
            exact Nat.le_of_mul_le_mul_right hs (Nat.two_pow_pos E)⟩
          exact ⟨fun _ => this, fun _ => rfl⟩
        · have hne : compare x (n * 2 ^ E) ≠ .eq := fun e => hw (Int.compare_eq_eq.1 e)
          have hno : ¬ Wh b := by
            rintro ⟨m, hm, _⟩
            apply hw
            have e := order_self hx hm
            have : m = n := by
              rw [e, natAbs_mul_pow, Nat.mul_div_cancel _ (Nat.two_pow_pos _)] at k2
              have hp := pow_pos' E
              by_cases h0 : 0 ≤ m
              · have := k3 (by rw [e]; exact Int.mul_nonneg h0 (Int.le_of_lt hp))
                omega
              · have := k4 (by rw [e]; exact Int.mul_nonpos_of_nonpos_of_nonneg (by omega) (Int.le_of_lt hp))
                omega
            rw [e, this]
          refine ⟨fun hc => absurd ?_ hne, fun hc => absurd hc hno⟩
          simpa using hc
      · have hno : ¬ Wh b := by
          rintro ⟨m, hm, hm2⟩
          apply hs
          rw [order_self hx hm, natAbs_mul_pow]
          exact Nat.mul_le_mul_right _ hm2
        rw [decide_eq_false hs, Bool.and_false]
        exact ⟨fun hc => absurd hc (by decide), fun hc => absurd hc hno⟩
  · rw [abs_not hb hi, Bool.and_false]
    exact ⟨fun hc => absurd hc (by decide), fun hc => absurd hc (not_number (.inl hi))⟩
  · obtain ⟨s, f, hn⟩ := hn
    rw [(nan_order hn).1, show (((none : Option Ordering) == some .eq) = false) from rfl, Bool.false_and]
    exact ⟨fun hc => absurd hc (by decide), fun hc => absurd hc (not_number (.inr ⟨s, f, hn⟩))⟩
theorem whole_no {b r : Nat} (hb : b < 2 ^ 64) (h : Cut b r) (hn : ¬ double.order b r = some .eq) : (false = true ↔ Wh b) := by
  have e := whole_test hb h
  rwa [show (double.order b r == some .eq) = false from by simpa using hn, Bool.false_and] at e
theorem whole_yes {b r : Nat} (hb : b < 2 ^ 64) (h : Cut b r) (hy : double.order b r = some .eq) : ((double.order (b &&& (18446744073709551615 - 9223372036854775808)) 4787326403894837248 == some .lt || double.order (b &&& (18446744073709551615 - 9223372036854775808)) 4787326403894837248 == some .eq) = true ↔ Wh b) := by
  have e := whole_test hb h
  rwa [show (double.order b r == some .eq) = true from by simpa using hy, Bool.true_and] at e
end Go.Proofs.Ytbppipnnmmddaaa.T6
