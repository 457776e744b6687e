/- Floats of 64 bits that stand for whole numbers: order, sums, differences, opposites and cuts are those of the numbers. -/
import Derived.Laws.FloatArith
import Derived.Laws.ComplexArith
namespace Go.Proofs.Ytbppipnnmmddaaa.T6
open Ieee
theorem D_least : double.leastPlace = -1074 := by decide
theorem D_binade : double.binade = 2 ^ 52 := rfl
theorem D_inf : double.infRung = 2047 * 2 ^ 52 := rfl
theorem D_sign : double.signWeight = 2 ^ 63 := rfl
/-- The least place, held apart so that no power of it is reckoned out. -/
def E : Nat := 1074
theorem E_val : E = 1074 := rfl
/-- What a number stands for, in units of the least place. -/
def sv : Datum → Int
  | .number s m p => signed s m (p + 1074).toNat
  | _ => 0
/-- The word stands for the whole number n. -/
def V (b : Nat) (n : Int) : Prop := ∃ s m p, double.read b = .number s m p ∧ -1074 ≤ p ∧ signed s m (p + 1074).toNat = n * 2 ^ E
theorem signed_eq (s : Bool) (m u : Nat) : signed s m u = (if s then -1 else 1) * ((m : Int) * 2 ^ u) := by
  unfold signed
  rw [Nat.shiftLeft_eq, Int.natCast_mul, Int.natCast_pow]
  cases s <;> simp
theorem signed_add (s : Bool) (m u v : Nat) : signed s m (u + v) = signed s m u * 2 ^ v := by
  rw [signed_eq, signed_eq, Int.pow_add, Int.mul_assoc, Int.mul_assoc]
theorem pow_pos' (k : Nat) : (0 : Int) < 2 ^ k := Int.pow_pos (by decide)
theorem read_place (b : Nat) {s m p} (h : double.read b = .number s m p) : -1074 ≤ p := by
  unfold Format.read at h
  simp only [D_least] at h
  split at h
  · cases h; decide
  · split at h
    · cases h; omega
    · split at h <;> cases h
theorem log2_iff {n k : Nat} (h0 : n ≠ 0) : n.log2 = k ↔ 2 ^ k ≤ n ∧ n < 2 ^ (k + 1) := Nat.log2_eq_iff h0
theorem log2_mul_pow {n : Nat} (h0 : n ≠ 0) (k : Nat) : (n * 2 ^ k).log2 = n.log2 + k := by
  have hp : 0 < 2 ^ k := Nat.two_pow_pos k
  have h1 : n * 2 ^ k ≠ 0 := Nat.mul_ne_zero h0 (by omega)
  rw [log2_iff h1]
  obtain ⟨a, b⟩ := (log2_iff h0).1 rfl
  constructor
  · rw [Nat.pow_add]; exact Nat.mul_le_mul_right _ a
  · rw [show n.log2 + k + 1 = (n.log2 + 1) + k from by omega, Nat.pow_add]; exact Nat.mul_lt_mul_of_pos_right b hp
theorem cut_none (n : Nat) (neg : Bool) : Toward.even.cut neg n 0 = n := by
  unfold Toward.cut
  simp [Nat.mod_one]
theorem cut_mul (neg : Bool) (k v : Nat) (h0 : k ≠ 0) : Toward.even.cut neg (k * 2 ^ v) v = k := by
  have hl : min v ((k * 2 ^ v).log2 + 2) = v := by
    rw [log2_mul_pow h0]
    omega
  unfold Toward.cut
  simp only [hl]
  have hg : 1 <<< v = 2 ^ v := by rw [Nat.shiftLeft_eq, Nat.one_mul]
  have hp : 0 < 2 ^ v := Nat.two_pow_pos v
  rw [hg, Nat.mul_div_cancel _ hp, Nat.mul_mod_left]
  have : ¬ 2 ^ v < 2 * 0 := by omega
  have h2 : (2 ^ v == 2 * 0) = false := by rw [beq_eq_false_iff_ne]; omega
  simp [h2]
/-- The word of a whole number. -/
def wd (neg : Bool) (N : Nat) : Nat := double.word neg ((N.log2 + 1022) * 2 ^ 52 + N * 2 ^ (52 - N.log2))
theorem kept_bounds {N : Nat} (h0 : N ≠ 0) (hN : N < 2 ^ 53) : N.log2 ≤ 52 ∧ 2 ^ 52 ≤ N * 2 ^ (52 - N.log2) ∧ N * 2 ^ (52 - N.log2) < 2 ^ 53 := by
  have he : N.log2 ≤ 52 := by
    have := (Nat.log2_lt h0).2 hN
    omega
  obtain ⟨a, b⟩ := (log2_iff h0).1 rfl
  have hp : 0 < 2 ^ (52 - N.log2) := Nat.two_pow_pos _
  refine ⟨he, ?_, ?_⟩
  · calc 2 ^ 52 = 2 ^ N.log2 * 2 ^ (52 - N.log2) := by rw [← Nat.pow_add]; congr 1; omega
      _ ≤ _ := Nat.mul_le_mul_right _ a
  · calc N * 2 ^ (52 - N.log2) < 2 ^ (N.log2 + 1) * 2 ^ (52 - N.log2) := Nat.mul_lt_mul_of_pos_right b hp
      _ = 2 ^ 53 := by rw [← Nat.pow_add]; congr 1; omega
theorem nearest_whole {neg : Bool} {N mag : Nat} {p : Int} (h0 : N ≠ 0) (hN : N < 2 ^ 53) (hp : -1074 ≤ p) (h : mag * 2 ^ (p + 1074).toNat = N * 2 ^ E) : double.nearest neg mag p = wd neg N := by
  obtain ⟨he, hk1, hk2⟩ := kept_bounds h0 hN
  have hm0 : mag ≠ 0 := by
    intro e
    rw [e, Nat.zero_mul] at h
    exact Nat.mul_ne_zero h0 (Nat.pos_iff_ne_zero.1 (Nat.two_pow_pos _)) h.symm
  have hlog : mag.log2 + (p + 1074).toNat = N.log2 + 1074 := by rw [← log2_mul_pow hm0, h, log2_mul_pow h0, E_val]
  have hl : max (p + (mag.log2 : Int) - (double.fractionBits : Int)) double.leastPlace = (N.log2 : Int) - 52 := by
    rw [D_least]
    show max (p + (mag.log2 : Int) - 52) (-1074) = _
    omega
  unfold Format.nearest
  rw [if_neg hm0]
  simp only [hl]
  rw [D_least, D_binade, D_inf]
  have hkept : Toward.even.cut neg (mag <<< (p - ((N.log2 : Int) - 52)).toNat) ((N.log2 : Int) - 52 - p).toNat = N * 2 ^ (52 - N.log2) := by
    have hq : (p + 1074).toNat = ((p + 1074).toNat : Nat) := rfl
    by_cases hc : (N.log2 : Int) - 52 ≤ p
    · rw [show ((N.log2 : Int) - 52 - p).toNat = 0 from by omega, cut_none, Nat.shiftLeft_eq]
      apply Nat.eq_of_mul_eq_mul_right (Nat.two_pow_pos (N.log2 + 1022))
      rw [Nat.mul_assoc, Nat.mul_assoc, ← Nat.pow_add, ← Nat.pow_add, show (p - ((N.log2 : Int) - 52)).toNat + (N.log2 + 1022) = (p + 1074).toNat from by omega, h, show 52 - N.log2 + (N.log2 + 1022) = E from by rw [E_val]; omega]
    · rw [show (p - ((N.log2 : Int) - 52)).toNat = 0 from by omega, Nat.shiftLeft_zero]
      have hmag : mag = N * 2 ^ (52 - N.log2) * 2 ^ ((N.log2 : Int) - 52 - p).toNat := by
        apply Nat.eq_of_mul_eq_mul_right (Nat.two_pow_pos (p + 1074).toNat)
        rw [h, Nat.mul_assoc, Nat.mul_assoc, ← Nat.pow_add, ← Nat.pow_add, show 52 - N.log2 + (((N.log2 : Int) - 52 - p).toNat + (p + 1074).toNat) = E from by rw [E_val]; omega]
      conv => lhs; rw [hmag]
      exact cut_mul _ _ _ (by omega)
  rw [hkept, show ((N.log2 : Int) - 52 - -1074).toNat = N.log2 + 1022 from by omega, Nat.min_eq_left]
  · rfl
  · have h3 : (N.log2 + 1022) * 2 ^ 52 ≤ 1074 * 2 ^ 52 := Nat.mul_le_mul_right _ (by omega)
    exact Nat.le_trans (Nat.add_le_add h3 (Nat.le_of_lt hk2)) (by decide)
theorem read_wd {neg : Bool} {N : Nat} (h0 : N ≠ 0) (hN : N < 2 ^ 53) : double.read (wd neg N) = .number neg (N * 2 ^ (52 - N.log2)) ((N.log2 : Int) - 52) := by
  obtain ⟨he, hk1, hk2⟩ := kept_bounds h0 hN
  have hr : (N.log2 + 1022) * 2 ^ 52 + N * 2 ^ (52 - N.log2) < 2 ^ 63 := by
    have : (N.log2 + 1022) * 2 ^ 52 ≤ 1074 * 2 ^ 52 := Nat.mul_le_mul_right _ (by omega)
    omega
  have hge : 2 ^ 52 ≤ (N.log2 + 1022) * 2 ^ 52 + N * 2 ^ (52 - N.log2) := by omega
  have hlt : (N.log2 + 1022) * 2 ^ 52 + N * 2 ^ (52 - N.log2) < 2047 * 2 ^ 52 := by
    have : (N.log2 + 1022) * 2 ^ 52 ≤ 1074 * 2 ^ 52 := Nat.mul_le_mul_right _ (by omega)
    omega
  have hd : ((N.log2 + 1022) * 2 ^ 52 + N * 2 ^ (52 - N.log2)) / 2 ^ 52 = N.log2 + 1022 + 1 := by
    rw [Nat.mul_comm, Nat.mul_add_div (by decide)]
    congr 1
    generalize N * 2 ^ (52 - N.log2) = k at *
    omega
  have hm : 2 ^ 52 + ((N.log2 + 1022) * 2 ^ 52 + N * 2 ^ (52 - N.log2)) % 2 ^ 52 = N * 2 ^ (52 - N.log2) := by
    rw [Nat.mul_comm, Nat.mul_add_mod]
    generalize N * 2 ^ (52 - N.log2) = k at *
    omega
  obtain ⟨R, hR⟩ : ∃ R, (N.log2 + 1022) * 2 ^ 52 + N * 2 ^ (52 - N.log2) = R := ⟨_, rfl⟩
  rw [hR] at hr hge hlt hd hm
  have hw1 : wd neg N / 2 ^ 63 % 2 = neg.toNat := by
    unfold wd Format.word
    rw [hR, D_sign]
    cases neg <;> simp <;> omega
  have hw2 : wd neg N % 2 ^ 63 = R := by
    unfold wd Format.word
    rw [hR, D_sign]
    cases neg <;> simp <;> omega
  unfold Format.read
  rw [D_sign, D_binade, D_inf, D_least]
  simp only [hw1, hw2]
  rw [if_neg (by omega), if_pos hlt, hm, hd]
  have hb : (neg.toNat == 1) = neg := by cases neg <;> rfl
  have hpl : (-1074 : Int) + ((N.log2 + 1022 + 1 - 1 : Nat) : Int) = (N.log2 : Int) - 52 := by omega
  rw [hb, hpl]
theorem V_wd {neg : Bool} {N : Nat} (h0 : N ≠ 0) (hN : N < 2 ^ 53) : V (wd neg N) (if neg then -(N : Int) else N) := by
  obtain ⟨he, _, _⟩ := kept_bounds h0 hN
  refine ⟨_, _, _, read_wd h0 hN, by omega, ?_⟩
  rw [show ((N.log2 : Int) - 52 + 1074).toNat = N.log2 + 1022 from by omega, signed_eq, Int.natCast_mul, Int.natCast_pow, Int.mul_assoc]
  have e : ((2 : Nat) : Int) ^ (52 - N.log2) * 2 ^ (N.log2 + 1022) = 2 ^ E := by
    show (2 : Int) ^ (52 - N.log2) * 2 ^ (N.log2 + 1022) = 2 ^ E
    rw [← Int.pow_add, show 52 - N.log2 + (N.log2 + 1022) = E from by rw [E_val]; omega]
  rw [e]
  cases neg
  · simp
  · simp [Int.neg_mul]
theorem V_zero : V 0 0 := ⟨false, 0, -1074, by decide, by decide, by simp [signed]⟩
theorem V_negzero : V (2 ^ 63) 0 := ⟨true, 0, -1074, by decide, by decide, by simp [signed]⟩
theorem V_word_zero (neg : Bool) : V (double.word neg 0) 0 := by
  cases neg
  · exact V_zero
  · exact V_negzero
/-- A number that is whole is written as it is. -/
theorem V_nearest {neg : Bool} {mag : Nat} {p : Int} {n : Int} (hp : -1074 ≤ p) (hn : n.natAbs < 2 ^ 53) (h : signed neg mag (p + 1074).toNat = n * 2 ^ E) (hs : n ≠ 0 → neg = decide (n < 0)) : V (double.nearest neg mag p) n := by
  have hm : mag * 2 ^ (p + 1074).toNat = n.natAbs * 2 ^ E := by
    have := congrArg Int.natAbs h
    rw [signed_eq, Int.natAbs_mul, Int.natAbs_mul, Int.natAbs_mul] at this
    have e1 : (if neg = true then (-1 : Int) else 1).natAbs = 1 := by cases neg <;> rfl
    have e2 : ∀ k : Nat, ((2 : Int) ^ k).natAbs = 2 ^ k := fun k => by rw [Int.natAbs_pow]; rfl
    rw [e1, Nat.one_mul, e2, e2] at this
    simpa using this
  by_cases h0 : n = 0
  · subst h0
    have hmag : mag = 0 := by
      rw [Int.natAbs_zero, Nat.zero_mul] at hm
      rcases Nat.mul_eq_zero.1 hm with h | h
      · exact h
      · exact absurd h (Nat.pos_iff_ne_zero.1 (Nat.two_pow_pos _))
    unfold Format.nearest
    rw [if_pos hmag]
    exact V_word_zero neg
  · rw [nearest_whole (N := n.natAbs) (by omega) hn hp hm, hs h0]
    have := V_wd (neg := decide (n < 0)) (N := n.natAbs) (by omega) hn
    have e : (if decide (n < 0) = true then -(n.natAbs : Int) else (n.natAbs : Int)) = n := by
      by_cases hc : n < 0
      · rw [if_pos (by simpa using hc)]; omega
      · rw [if_neg (by simpa using hc)]; omega
    rwa [e] at this
theorem V_ofInt {n : Int} (hn : n.natAbs < 2 ^ 53) : V (floatOfInt .f64 n) n := by
  refine V_nearest (p := 0) (by decide) hn ?_ (fun _ => rfl)
  rw [signed_eq, show ((0 : Int) + 1074).toNat = E from rfl, ← Int.mul_assoc]
  congr 1
  by_cases hc : n < 0
  · rw [if_pos (by simpa using hc)]; omega
  · rw [if_neg (by simpa using hc)]; omega
theorem compare_mul (a b : Int) {c : Int} (hc : 0 < c) : compare (a * c) (b * c) = compare a b := by
  have h1 : a * c < b * c ↔ a < b := ⟨fun h => Int.lt_of_mul_lt_mul_right h (Int.le_of_lt hc), fun h => Int.mul_lt_mul_of_pos_right h hc⟩
  have h2 : a * c = b * c ↔ a = b := ⟨fun h => Int.eq_of_mul_eq_mul_right (by omega) h, fun h => by rw [h]⟩
  simp only [compare, compareOfLessAndEq, h1, h2]
theorem order_sv {s t : Bool} {m n : Nat} {i j : Int} (hi : -1074 ≤ i) (hj : -1074 ≤ j) : (Datum.number s m i).order (.number t n j) = some (compare (signed s m (i + 1074).toNat) (signed t n (j + 1074).toNat)) := by
  unfold Datum.order
  simp only
  congr 1
  have e1 : (i + 1074).toNat = (i - min i j).toNat + (min i j + 1074).toNat := by omega
  have e2 : (j + 1074).toNat = (j - min i j).toNat + (min i j + 1074).toNat := by omega
  rw [e1, e2, signed_add, signed_add, compare_mul _ _ (pow_pos' _)]
theorem V_order {a b : Nat} {m n : Int} (ha : V a m) (hb : V b n) : double.order a b = some (compare m n) := by
  obtain ⟨s, x, i, h1, h2, h3⟩ := ha
  obtain ⟨t, y, j, k1, k2, k3⟩ := hb
  unfold Format.order
  rw [h1, k1, order_sv h2 k2, h3, k3, compare_mul _ _ (pow_pos' _)]
theorem neg_of {a c : Int} (h : a * c < 0) (hc : 0 < c) : a < 0 := by
  rcases Int.lt_or_le a 0 with h1 | h1
  · exact h1
  · have := Int.mul_nonneg h1 (Int.le_of_lt hc)
    omega
theorem V_sum {s t : Bool} {x y : Nat} {i j m n : Int} (hi : -1074 ≤ i) (hj : -1074 ≤ j) (h1 : signed s x (i + 1074).toNat = m * 2 ^ E) (h2 : signed t y (j + 1074).toNat = n * 2 ^ E) (hs : (m + n).natAbs < 2 ^ 53) :
    ∃ r, ((Datum.number s x i).sum (.number t y j)).map double.write = some r ∧ V r (m + n) := by
  unfold Datum.sum
  refine ⟨_, rfl, ?_⟩
  have e1 : (i + 1074).toNat = (i - min i j).toNat + (min i j + 1074).toNat := by omega
  have e2 : (j + 1074).toNat = (j - min i j).toNat + (min i j + 1074).toNat := by omega
  rw [e1, signed_add] at h1
  rw [e2, signed_add] at h2
  have ht : (signed s x (i - min i j).toNat + signed t y (j - min i j).toNat) * 2 ^ (min i j + 1074).toNat = (m + n) * 2 ^ E := by rw [Int.add_mul, h1, h2, Int.add_mul]
  generalize signed s x (i - min i j).toNat + signed t y (j - min i j).toNat = T at *
  have hp := pow_pos' (min i j + 1074).toNat
  have hq := pow_pos' E
  have hneg : m + n < 0 ↔ T < 0 := by
    constructor
    · intro h
      have : (m + n) * 2 ^ E < 0 := Int.mul_neg_of_neg_of_pos h hq
      rw [← ht] at this
      exact neg_of this hp
    · intro h
      have : T * 2 ^ (min i j + 1074).toNat < 0 := Int.mul_neg_of_neg_of_pos h hp
      rw [ht] at this
      exact neg_of this hq
  show V (double.nearest _ _ _) _
  by_cases h0 : T = 0
  · subst h0
    have hz : m + n = 0 := by
      rw [Int.zero_mul] at ht
      rcases Int.mul_eq_zero.1 ht.symm with h | h
      · exact h
      · omega
    rw [hz]
    unfold Format.nearest
    rw [if_pos rfl]
    exact V_word_zero _
  · rw [if_neg h0]
    refine V_nearest (by omega) hs ?_ (fun _ => ?_)
    · rw [← ht, signed_eq, ← Int.mul_assoc]
      congr 1
      by_cases hc : T < 0
      · rw [if_pos (by simpa using hc)]; omega
      · rw [if_neg (by simpa using hc)]; omega
    · simp only [hneg]
theorem V_add {a b : Nat} {m n : Int} (ha : V a m) (hb : V b n) (hs : (m + n).natAbs < 2 ^ 53) : ∃ r, floatBits .add .f64 a b = some r ∧ V r (m + n) := by
  obtain ⟨s, x, i, h1, h2, h3⟩ := ha
  obtain ⟨t, y, j, k1, k2, k3⟩ := hb
  show ∃ r, ((double.read a).sum (double.read b)).map double.write = some r ∧ _
  rw [h1, k1]
  exact V_sum h2 k2 h3 k3 hs
theorem signed_not (s : Bool) (m u : Nat) : signed (!s) m u = -signed s m u := by
  unfold signed
  cases s <;> simp
theorem V_sub {a b : Nat} {m n : Int} (ha : V a m) (hb : V b n) (hs : (m - n).natAbs < 2 ^ 53) : ∃ r, floatBits .sub .f64 a b = some r ∧ V r (m - n) := by
  obtain ⟨s, x, i, h1, h2, h3⟩ := ha
  obtain ⟨t, y, j, k1, k2, k3⟩ := hb
  show ∃ r, ((double.read a).sum (double.read b).opposite).map double.write = some r ∧ _
  rw [h1, k1, Int.sub_eq_add_neg]
  exact V_sum (n := -n) h2 k2 h3 (by rw [signed_not, k3, Int.neg_mul]) (by rw [← Int.sub_eq_add_neg]; exact hs)
theorem read_neg (b : Nat) : double.read (b ^^^ 2 ^ 63) = (double.read b).opposite := by
  have h1 : (b ^^^ 2 ^ 63) % 2 ^ 63 = b % 2 ^ 63 := by rw [Nat.xor_mod_two_pow]; simp
  have h2 : ((b ^^^ 2 ^ 63) / 2 ^ 63 % 2 == 1) = !(b / 2 ^ 63 % 2 == 1) := by
    rw [Nat.xor_div_two_pow, Nat.div_self (by decide)]
    have : (b / 2 ^ 63 ^^^ 1) % 2 = 1 - b / 2 ^ 63 % 2 := by
      have := Nat.xor_mod_two_pow (a := b / 2 ^ 63) (b := 1) (n := 1)
      rw [show (2 : Nat) ^ 1 = 2 from rfl] at this
      rw [this]
      rcases Nat.mod_two_eq_zero_or_one (b / 2 ^ 63) with h | h <;> rw [h] <;> rfl
    rw [this]
    rcases Nat.mod_two_eq_zero_or_one (b / 2 ^ 63) with h | h <;> rw [h] <;> rfl
  unfold Format.read
  rw [D_sign, h1, h2]
  simp only
  split
  · rfl
  · split
    · rfl
    · split <;> rfl
theorem V_neg {b : Nat} {n : Int} (h : V b n) : V (b ^^^ 2 ^ 63) (-n) := by
  obtain ⟨s, x, i, h1, h2, h3⟩ := h
  refine ⟨!s, x, i, by rw [read_neg, h1]; rfl, h2, ?_⟩
  rw [signed_not, h3, Int.neg_mul]
/-- The word stands for the number z, in units of the least place. -/
def Fin (b : Nat) (z : Int) : Prop := ∃ s m p, double.read b = .number s m p ∧ -1074 ≤ p ∧ signed s m (p + 1074).toNat = z
theorem V_fin {b : Nat} {n : Int} : V b n ↔ Fin b (n * 2 ^ E) := Iff.rfl
theorem cls (b : Nat) : (∃ z, Fin b z) ∨ (∃ s, double.read b = .infinity s) ∨ ∃ s f, double.read b = .nan s f := by
  cases h : double.read b with
  | number s m p => exact .inl ⟨_, s, m, p, h, read_place b h, rfl⟩
  | infinity s => exact .inr (.inl ⟨s, rfl⟩)
  | nan s f => exact .inr (.inr ⟨s, f, rfl⟩)
theorem Fin_order {a b : Nat} {x y : Int} (ha : Fin a x) (hb : Fin b y) : double.order a b = some (compare x y) := by
  obtain ⟨s, m, i, h1, h2, h3⟩ := ha
  obtain ⟨t, n, j, k1, k2, k3⟩ := hb
  unfold Format.order
  rw [h1, k1, order_sv h2 k2, h3, k3]
theorem nan_order {a b : Nat} {s : Bool} {f : Nat} (h : double.read a = .nan s f) : double.order a b = none ∧ double.order b a = none := by
  unfold Format.order
  rw [h]
  refine ⟨rfl, ?_⟩
  cases double.read b <;> rfl
theorem inf_order {a b : Nat} {s : Bool} {y : Int} (h : double.read a = .infinity s) (hb : Fin b y) : double.order a b = some (if s then .lt else .gt) ∧ double.order b a = some (if s then .gt else .lt) := by
  obtain ⟨t, n, j, k1, _, _⟩ := hb
  unfold Format.order
  rw [h, k1]
  exact ⟨rfl, rfl⟩
theorem cut_zero (neg : Bool) (n drop : Nat) : Toward.zero.cut neg n drop = n / 2 ^ drop := by
  unfold Toward.cut
  simp only [Bool.toNat_false, Nat.add_zero]
  rw [Nat.shiftLeft_eq, Nat.one_mul]
  by_cases h : drop ≤ n.log2 + 2
  · rw [Nat.min_eq_left h]
  · rw [Nat.min_eq_right (by omega)]
    have hn : n < 2 ^ (n.log2 + 2) := Nat.lt_of_lt_of_le Nat.lt_log2_self (Nat.pow_le_pow_right (by decide) (by omega))
    rw [Nat.div_eq_of_lt hn, Nat.div_eq_of_lt (Nat.lt_of_lt_of_le hn (Nat.pow_le_pow_right (by decide) (by omega)))]
theorem trunc_eq {m : Nat} {p : Int} (hp : -1074 ≤ p) : (m <<< p.toNat) / 2 ^ (-p).toNat = m * 2 ^ (p + 1074).toNat / 2 ^ E := by
  rw [Nat.shiftLeft_eq]
  by_cases h : 0 ≤ p
  · rw [show (-p).toNat = 0 from by omega, Nat.pow_zero, Nat.div_one, show (p + 1074).toNat = p.toNat + E from by rw [E_val]; omega, Nat.pow_add, ← Nat.mul_assoc, Nat.mul_div_cancel _ (Nat.two_pow_pos _)]
  · rw [show p.toNat = 0 from by omega, Nat.pow_zero, Nat.mul_one]
    have hE : (2 : Nat) ^ E = 2 ^ (-p).toNat * 2 ^ (p + 1074).toNat := by
      rw [← Nat.pow_add, show (-p).toNat + (p + 1074).toNat = E from by rw [E_val]; omega]
    rw [hE, Nat.mul_div_mul_right _ _ (Nat.two_pow_pos _)]
theorem natAbs_signed (s : Bool) (m u : Nat) : (signed s m u).natAbs = m * 2 ^ u := by
  unfold signed
  rw [Nat.shiftLeft_eq]
  generalize m * 2 ^ u = y
  cases s
  · rw [if_neg (by decide)]; omega
  · rw [if_pos rfl]; omega
/-- Cut towards zero: the number of whole units, with its sign. -/
theorem Fin_toInt {b : Nat} {x : Int} (h : Fin b x) : ∃ n : Int, (double.read b).toInt .zero = some n ∧ n.natAbs = x.natAbs / 2 ^ E ∧ (0 ≤ x → 0 ≤ n) ∧ (x ≤ 0 → n ≤ 0) := by
  obtain ⟨s, m, p, h1, h2, h3⟩ := h
  rw [h1]
  refine ⟨signed s (m * 2 ^ (p + 1074).toNat / 2 ^ E) 0, ?_, ?_, ?_, ?_⟩
  · unfold Datum.toInt Datum.integral
    simp only [cut_zero]
    rw [trunc_eq h2]
  · rw [← h3, natAbs_signed, natAbs_signed, Nat.pow_zero, Nat.mul_one]
  · intro hx
    rw [← h3] at hx
    cases s with
    | false =>
      unfold signed
      rw [if_neg (by decide)]
      exact Int.natCast_nonneg _
    | true =>
      have h0 : m * 2 ^ (p + 1074).toNat = 0 := by
        rw [signed_eq] at hx
        have e : ((m * 2 ^ (p + 1074).toNat : Nat) : Int) = (m : Int) * 2 ^ (p + 1074).toNat := by rw [Int.natCast_mul, Int.natCast_pow]; rfl
        rw [← e] at hx
        simp at hx
        generalize m * 2 ^ (p + 1074).toNat = y at *
        omega
      rw [h0, Nat.zero_div]
      decide
  · intro hx
    rw [← h3] at hx
    cases s with
    | true =>
      unfold signed
      rw [if_pos rfl]
      generalize ((m * 2 ^ (p + 1074).toNat / 2 ^ E) <<< 0) = y
      omega
    | false =>
      have h0 : m * 2 ^ (p + 1074).toNat = 0 := by
        rw [signed_eq] at hx
        have e : ((m * 2 ^ (p + 1074).toNat : Nat) : Int) = (m : Int) * 2 ^ (p + 1074).toNat := by rw [Int.natCast_mul, Int.natCast_pow]; rfl
        rw [← e] at hx
        simp at hx
        generalize m * 2 ^ (p + 1074).toNat = y at *
        omega
      rw [h0, Nat.zero_div]
      decide
theorem V_toInt {b : Nat} {n : Int} (h : V b n) (hn : n.natAbs < 2 ^ 53) : floatToIntVal .f64 b .i64 = some n := by
  obtain ⟨k, h1, h2, h3, h4⟩ := Fin_toInt (V_fin.1 h)
  have hp := pow_pos' E
  have hk : k = n := by
    have e : (n * 2 ^ E).natAbs = n.natAbs * 2 ^ E := by
      rw [Int.natAbs_mul, Int.natAbs_pow]
      generalize E = q
      rfl
    rw [e, Nat.mul_div_cancel _ (Nat.two_pow_pos _)] at h2
    by_cases hs : 0 ≤ n
    · have := h3 (Int.mul_nonneg hs (Int.le_of_lt hp))
      omega
    · have := h4 (Int.mul_nonpos_of_nonpos_of_nonneg (by omega) (Int.le_of_lt hp))
      omega
  unfold floatToIntVal
  show (match (double.read b).toInt .zero with
    | some n => if IntKind.i64.min ≤ n ∧ n ≤ IntKind.i64.max then some n else none
    | none => none) = some n
  rw [h1, hk]
  simp only
  rw [if_pos]
  have e1 : IntKind.i64.min = -9223372036854775808 := by decide
  have e2 : IntKind.i64.max = 9223372036854775807 := by decide
  rw [e1, e2]
  omega
/-- A word from 0 to a whole number: either it stands for a whole number itself, or it is another one than what it is cut to. -/
theorem whole_or {b top : Nat} {x : Int} (h : Fin b x) (h0 : 0 ≤ x) (h1 : x ≤ (top : Int) * 2 ^ E) (ht : top < 2 ^ 53) : ∃ n : Nat, n ≤ top ∧ floatToIntVal .f64 b .i64 = some (n : Int) ∧ (V b n ∨ double.order b (floatOfInt .f64 n) = some .gt) := by
  obtain ⟨k, k1, k2, k3, k4⟩ := Fin_toInt h
  have hk := k3 h0
  obtain ⟨n, rfl⟩ : ∃ n : Nat, k = (n : Int) := ⟨k.toNat, by omega⟩
  have hn : n = x.toNat / 2 ^ E := by
    have : x.natAbs = x.toNat := by omega
    rw [this] at k2
    simpa using k2
  have hle : n ≤ top := by
    rw [hn]
    apply Nat.div_le_of_le_mul
    have : ((2 ^ E : Nat) : Int) = 2 ^ E := by
      rw [Int.natCast_pow]
      generalize E = q
      rfl
    rw [← this] at h1
    have h2 : (x.toNat : Int) ≤ ((2 ^ E * top : Nat) : Int) := by
      rw [Int.natCast_mul, Int.mul_comm]
      omega
    exact Int.ofNat_le.1 h2
  refine ⟨n, hle, ?_, ?_⟩
  · unfold floatToIntVal
    show (match (double.read b).toInt .zero with
      | some n => if IntKind.i64.min ≤ n ∧ n ≤ IntKind.i64.max then some n else none
      | none => none) = some (n : Int)
    rw [k1]
    simp only
    rw [if_pos]
    have e1 : IntKind.i64.min = -9223372036854775808 := by decide
    have e2 : IntKind.i64.max = 9223372036854775807 := by decide
    rw [e1, e2]
    omega
  · have hV : V (floatOfInt .f64 (n : Int)) (n : Int) := V_ofInt (by simp; omega)
    have ho := Fin_order h (V_fin.1 hV)
    have hE : ((2 ^ E : Nat) : Int) = 2 ^ E := by
      rw [Int.natCast_pow]
      generalize E = q
      rfl
    have hge : (n : Int) * 2 ^ E ≤ x := by
      have : n * 2 ^ E ≤ x.toNat := by rw [hn]; exact Nat.div_mul_le_self _ _
      have h2 := Int.ofNat_le.2 this
      rw [Int.natCast_mul, hE] at h2
      omega
    by_cases he : x = (n : Int) * 2 ^ E
    · left
      exact V_fin.2 (he ▸ h)
    · right
      rw [ho]
      have : compare x ((n : Int) * 2 ^ E) = .gt := by
        simp only [compare, compareOfLessAndEq]
        rw [if_neg (by omega), if_neg he]
      rw [this]
end Go.Proofs.Ytbppipnnmmddaaa.T6
