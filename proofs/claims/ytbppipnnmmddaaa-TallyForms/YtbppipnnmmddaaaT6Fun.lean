/- The contracts of Step, Within, Finish and Mirror. -/
import Derived.Test.YtbppipnnmmddaaaT6Form
namespace Go.Proofs.Ytbppipnnmmddaaa
open Go.RowKit Ieee
/-- A word of 64 bits that stands for a whole number. -/
def U (b : Nat) (n : Int) : Prop := T6.V b n ∧ b < 2 ^ 64
/-- Both are counts. -/
def Rt (m n : Int) : Prop := 0 ≤ m ∧ m ≤ 1099511627776 ∧ 0 ≤ n ∧ n ≤ 1099511627776
theorem U_fo {n : Int} (h : n.natAbs < 2 ^ 53) : U (floatOfInt .f64 n) n := ⟨T6.V_ofInt h, fo_lt n⟩
theorem Ta_of {a b : Nat} {m n : Int} (h1 : U a m) (h2 : U b n) (h : Rt m n) : T6.Ta a b := ⟨m, n, h1.1, h2.1, h.1, h.2.1, h.2.2.1, h.2.2.2⟩
theorem Ta_iff {a b : Nat} {m n : Int} (h1 : U a m) (h2 : U b n) : T6.Ta a b ↔ Rt m n := by
  constructor
  · rintro ⟨m', n', k1, k2, k3, k4, k5, k6⟩
    obtain rfl := T6.V_unique k1 h1.1
    obtain rfl := T6.V_unique k2 h2.1
    exact ⟨k3, k4, k5, k6⟩
  · exact Ta_of h1 h2
theorem U_add {a b : Nat} {m n : Int} (ha : U a m) (hb : U b n) (hs : (m + n).natAbs < 2 ^ 53) : ∃ r, floatBits .add .f64 a b = some r ∧ U r (m + n) := by
  obtain ⟨r, h1, h2⟩ := T6.V_add ha.1 hb.1 hs
  exact ⟨r, h1, h2, bits_lt h1⟩
theorem U_sub {a b : Nat} {m n : Int} (ha : U a m) (hb : U b n) (hs : (m - n).natAbs < 2 ^ 53) : ∃ r, floatBits .sub .f64 a b = some r ∧ U r (m - n) := by
  obtain ⟨r, h1, h2⟩ := T6.V_sub ha.1 hb.1 hs
  exact ⟨r, h1, h2, bits_lt h1⟩
theorem U_neg {b : Nat} {n : Int} (h : U b n) : U (Op.negFloat .f64 b) (-n) := ⟨T6.V_neg h.1, Nat.xor_lt_two_pow h.2 (by decide)⟩
theorem csum {op : BinOp} {a b c d re im : Nat} (h1 : floatBits op .f64 a c = some re) (h2 : floatBits op .f64 b d = some im) : cSumBits op .f64 a b c d = some (re, im) := by
  unfold cSumBits
  rw [h1, h2]
  rfl
theorem run_neg_complex (a b : Nat) : Op.unary .neg (.complex .f64 a b) = pure (.complex .f64 (Op.negFloat .f64 a) (Op.negFloat .f64 b)) := rfl
set_option maxHeartbeats 1000000 in
theorem Step_ok (a b c d : Nat) (m n p q : Int) (h1 : U a m) (h2 : U b n) (h3 : U c p) (h4 : U d q) (h5 : Rt m n) (h6 : Rt p q) (w : World) : Calls Try.prog 16 #[.complex .f64 a b, .complex .f64 c d] w fun e w' => ∃ x y k, e = .returned (.tuple #[.complex .f64 x y, .int .i64 0]) ∧ U x (p - m) ∧ U y (q - n) ∧ w' = w.drewN k := by
  have t1 := Ta_of h1 h2 h5
  have t2 := Ta_of h3 h4 h6
  obtain ⟨x, hx, hx2⟩ := U_sub h3 h1 (by have := h5.1; have := h5.2.1; have := h6.1; have := h6.2.1; omega)
  obtain ⟨y, hy, hy2⟩ := U_sub h4 h2 (by have := h5.2.2.1; have := h5.2.2.2; have := h6.2.2.1; have := h6.2.2.2; omega)
  have hs : ∀ w : World, (binOp .sub 25 (.complex .f64 c d) (.complex .f64 a b)).run Try.prog w = .ok (.complex .f64 x y) w := fun w => run_complex_sum w .sub (.inr rfl) 25 .f64 c d a b x y (csum hx hy)
  have HX : Hid (U x (p - m)) := hx2
  have HY : Hid (U y (q - n)) := hy2
  have a1 := h1.2
  have a2 := h2.2
  have a3 := h3.2
  have a4 := h4.2
  clear h1 h2 h3 h4 h5 h6 hx hy hx2 hy2
  go_enter Try.func16, Try.ntmps16
  go_wp2_with (go_at_call 21; refine (isTally_yes _ _ (by assumption) (by assumption) (by assumption) _).mono ?_; rintro e w' ⟨k, rfl, rfl⟩)
  go_ret2
  exact ⟨_, _, _, rfl, HX.out, HY.out, rfl⟩
set_option maxHeartbeats 1000000 in
theorem Step_bad (a b c d : Nat) (ha : a < 2 ^ 64) (hb : b < 2 ^ 64) (h : ¬ T6.Ta a b) (w : World) : Calls Try.prog 16 #[.complex .f64 a b, .complex .f64 c d] w fun e w' => ∃ k, e = .returned (.tuple #[.complex .f64 0 0, .int .i64 10]) ∧ w' = w.drewN k := by
  go_enter Try.func16, Try.ntmps16
  go_wp2_with (go_at_call 21; refine (isTally_no _ _ ha hb h _).mono ?_; rintro e w' ⟨k, rfl, rfl⟩)
  go_ret2
  exact ⟨_, rfl, rfl⟩
set_option maxHeartbeats 1000000 in
theorem Within_ok (a b c d : Nat) (m n p q : Int) (h1 : U a m) (h2 : U b n) (h3 : U c p) (h4 : U d q) (h5 : Rt m n) (h6 : Rt p q) (w : World) : Calls Try.prog 18 #[.complex .f64 a b, .complex .f64 c d] w fun e w' => ∃ k, e = .returned (.bool (decide (m ≤ p ∧ n ≤ q))) ∧ w' = w.drewN k := by
  have t1 := Ta_of h1 h2 h5
  have t2 := Ta_of h3 h4 h6
  by_cases hm : m ≤ p
  · have q1 := leq_t h1.1 h3.1 hm
    by_cases hn : n ≤ q
    · have q2 := leq_t h2.1 h4.1 hn
      rw [decide_eq_true ⟨hm, hn⟩]
      have a1 := h1.2
      have a2 := h2.2
      have a3 := h3.2
      have a4 := h4.2
      clear h1 h2 h3 h4 h5 h6 hm hn
      go_enter Try.func18, Try.ntmps18
      go_wp2_with (go_at_call 21; refine (isTally_yes _ _ (by assumption) (by assumption) (by assumption) _).mono ?_; rintro e w' ⟨k, rfl, rfl⟩)
      go_ret
      exact ⟨_, rfl, rfl⟩
    · have q2 := leq_f h2.1 h4.1 hn
      rw [decide_eq_false fun h => hn h.2]
      have a1 := h1.2
      have a2 := h2.2
      have a3 := h3.2
      have a4 := h4.2
      clear h1 h2 h3 h4 h5 h6 hm hn
      go_enter Try.func18, Try.ntmps18
      go_wp2_with (go_at_call 21; refine (isTally_yes _ _ (by assumption) (by assumption) (by assumption) _).mono ?_; rintro e w' ⟨k, rfl, rfl⟩)
      go_ret
      exact ⟨_, rfl, rfl⟩
  · have q1 := leq_f h1.1 h3.1 hm
    rw [decide_eq_false fun h => hm h.1]
    have a1 := h1.2
    have a2 := h2.2
    have a3 := h3.2
    have a4 := h4.2
    clear h1 h2 h3 h4 h5 h6 hm
    go_enter Try.func18, Try.ntmps18
    go_wp2_with (go_at_call 21; refine (isTally_yes _ _ (by assumption) (by assumption) (by assumption) _).mono ?_; rintro e w' ⟨k, rfl, rfl⟩)
    go_ret
    exact ⟨_, rfl, rfl⟩
set_option maxHeartbeats 1000000 in
theorem Within_bad1 (a b c d : Nat) (ha : a < 2 ^ 64) (hb : b < 2 ^ 64) (h : ¬ T6.Ta a b) (w : World) : Calls Try.prog 18 #[.complex .f64 a b, .complex .f64 c d] w fun e w' => ∃ k, e = .returned (.bool false) ∧ w' = w.drewN k := by
  go_enter Try.func18, Try.ntmps18
  go_wp2_with (go_at_call 21; refine (isTally_no _ _ ha hb h _).mono ?_; rintro e w' ⟨k, rfl, rfl⟩)
  go_ret
  exact ⟨_, rfl, rfl⟩
set_option maxHeartbeats 1000000 in
theorem Within_bad2 (a b c d : Nat) (ha : a < 2 ^ 64) (hb : b < 2 ^ 64) (hc : c < 2 ^ 64) (hd : d < 2 ^ 64) (h : T6.Ta a b) (h' : ¬ T6.Ta c d) (w : World) : Calls Try.prog 18 #[.complex .f64 a b, .complex .f64 c d] w fun e w' => ∃ k, e = .returned (.bool false) ∧ w' = w.drewN k := by
  go_enter Try.func18, Try.ntmps18
  go_wp2_with (go_at_call 21; first | (with_reducible refine (isTally_yes a b ha hb h _).mono ?_; rintro e w' ⟨k, rfl, rfl⟩) | (with_reducible refine (isTally_no c d hc hd h' _).mono ?_; rintro e w' ⟨k, rfl, rfl⟩))
  go_ret
  exact ⟨_, rfl, rfl⟩
set_option maxHeartbeats 1000000 in
theorem Mirror_ok (a b : Nat) (ha : a < 2 ^ 64) (hb : b < 2 ^ 64) (h : T6.Ta a b) (w : World) : Calls Try.prog 19 #[.complex .f64 a b] w fun e w' => ∃ k, e = .returned (.complex .f64 b a) ∧ w' = w.drewN k := by
  go_enter Try.func19, Try.ntmps19
  go_wp2_with (go_at_call 21; refine (isTally_yes _ _ ha hb h _).mono ?_; rintro e w' ⟨k, rfl, rfl⟩)
  go_ret
  exact ⟨_, rfl, rfl⟩
set_option maxHeartbeats 1000000 in
theorem Mirror_bad (a b : Nat) (ha : a < 2 ^ 64) (hb : b < 2 ^ 64) (h : ¬ T6.Ta a b) (w : World) : Calls Try.prog 19 #[.complex .f64 a b] w fun e w' => ∃ k, e = .returned (.complex .f64 0 0) ∧ w' = w.drewN k := by
  go_enter Try.func19, Try.ntmps19
  go_wp2_with (go_at_call 21; refine (isTally_no _ _ ha hb h _).mono ?_; rintro e w' ⟨k, rfl, rfl⟩)
  go_ret
  exact ⟨_, rfl, rfl⟩
set_option maxHeartbeats 1000000 in
theorem Finish_ok (a b : Nat) (m n z : Int) (h1 : U a m) (h2 : U b n) (h : Rt m n) (hz : 0 ≤ z) (hz2 : z ≤ n) (hz3 : z ≤ 1099511627776 - m) (w : World) : Calls Try.prog 17 #[.complex .f64 a b, .int .i64 z] w fun e w' => ∃ k, e = .returned (.tuple #[.complex .f64 (floatOfInt .f64 (m + z)) (floatOfInt .f64 (n - z)), .int .i64 0]) ∧ w' = w.drewN k := by
  have HP : Hid (∀ w : World, Calls Try.prog 12 #[.complex .f64 a b] w fun e w' => ∃ k, e = .returned (.tuple #[.int .i64 m, .int .i64 n, .bool true]) ∧ w' = w.drewN k) := fun w => Parts_ok a b m n h1.2 h2.2 h1.1 h2.1 h.1 h.2.1 h.2.2.1 h.2.2.2 w
  obtain ⟨r1, r2, r3, r4⟩ := h
  clear h1 h2
  go_enter Try.func17, Try.ntmps17
  go_wp2_with (first | (go_at_call 12; refine (HP.out _).mono ?_; rintro e w' ⟨k, rfl, rfl⟩) | (go_at_call 10; refine (Make_ok _ _ (by omega) (by omega) (by omega) (by omega) _).mono ?_; rintro e w' ⟨rfl, rfl⟩))
  go_ret2
  exact ⟨_, rfl, rfl⟩
set_option maxHeartbeats 1000000 in
theorem Finish_range (a b : Nat) (m n z : Int) (h1 : U a m) (h2 : U b n) (h : Rt m n) (hz : z < 0 ∨ n < z ∨ 1099511627776 - m < z) (w : World) : Calls Try.prog 17 #[.complex .f64 a b, .int .i64 z] w fun e w' => ∃ k, e = .returned (.tuple #[.complex .f64 0 0, .int .i64 12]) ∧ w' = w.drewN k := by
  have HP : Hid (∀ w : World, Calls Try.prog 12 #[.complex .f64 a b] w fun e w' => ∃ k, e = .returned (.tuple #[.int .i64 m, .int .i64 n, .bool true]) ∧ w' = w.drewN k) := fun w => Parts_ok a b m n h1.2 h2.2 h1.1 h2.1 h.1 h.2.1 h.2.2.1 h.2.2.2 w
  obtain ⟨r1, r2, r3, r4⟩ := h
  clear h1 h2
  by_cases hz0 : z < 0
  · clear hz
    go_enter Try.func17, Try.ntmps17
    go_wp2_with (go_at_call 12; refine (HP.out _).mono ?_; rintro e w' ⟨k, rfl, rfl⟩)
    go_ret2
    exact ⟨_, rfl, rfl⟩
  · by_cases hz1 : n < z
    · clear hz
      go_enter Try.func17, Try.ntmps17
      go_wp2_with (go_at_call 12; refine (HP.out _).mono ?_; rintro e w' ⟨k, rfl, rfl⟩)
      go_ret2
      exact ⟨_, rfl, rfl⟩
    · have hz2 : 1099511627776 - m < z := by omega
      clear hz
      go_enter Try.func17, Try.ntmps17
      go_wp2_with (first | (go_at_call 12; refine (HP.out _).mono ?_; rintro e w' ⟨k, rfl, rfl⟩) | (go_at_call 10; refine (Make_bad _ _ (by omega) _).mono ?_; rintro e w' ⟨rfl, rfl⟩))
      go_ret2
      exact ⟨_, rfl, rfl⟩
set_option maxHeartbeats 1000000 in
theorem Finish_bad (a b : Nat) (z : Int) (ha : a < 2 ^ 64) (hb : b < 2 ^ 64) (h : ¬ T6.Ta a b) (w : World) : Calls Try.prog 17 #[.complex .f64 a b, .int .i64 z] w fun e w' => ∃ k, e = .returned (.tuple #[.complex .f64 0 0, .int .i64 10]) ∧ w' = w.drewN k := by
  go_enter Try.func17, Try.ntmps17
  go_wp2_with (go_at_call 12; refine (Parts_bad _ _ ha hb h _).mono ?_; rintro e w' ⟨k, rfl, rfl⟩)
  go_ret2
  exact ⟨_, rfl, rfl⟩
end Go.Proofs.Ytbppipnnmmddaaa
