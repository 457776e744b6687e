/- The contracts of the leaves of the document's answer: top, turn, word, below. -/
import Derived.Test.YtnbdadhdpplldabDoorRef
import Derived.Test.YtnbdadhdpplldabDoorLeaves
import Derived.Test.YtnbdadhdpplldabDoorLaws2
namespace Go.Proofs.YtnbdadhdpplldabDoor
open Go.RowKit
theorem i64_xor_nat (a b : Nat) (ha : a < 4294967296) (hb : b < 4294967296) : bits .xor .i64 (a : Int) (b : Int) = ((a ^^^ b : Nat) : Int) := by
  have hx : a ^^^ b < 2 ^ 32 := Nat.xor_lt_two_pow (by omega) (by omega)
  have ea : (BitVec.ofInt 64 (a : Int)).toNat = a := by simp; omega
  have eb : (BitVec.ofInt 64 (b : Int)).toNat = b := by simp; omega
  show IntKind.i64.wrap ((BitVec.ofInt 64 (a : Int) ^^^ BitVec.ofInt 64 (b : Int)).toNat : Int) = _
  rw [BitVec.toNat_xor, ea, eb, i64_id _ (by omega)]
theorem i64_and_nat (a b : Nat) (ha : a < 4294967296) (hb : b < 4294967296) : bits .and .i64 (a : Int) (b : Int) = ((a &&& b : Nat) : Int) := by
  have hx : a &&& b < 4294967296 := Sp.and_lt ha
  have ea : (BitVec.ofInt 64 (a : Int)).toNat = a := by simp; omega
  have eb : (BitVec.ofInt 64 (b : Int)).toNat = b := by simp; omega
  show IntKind.i64.wrap ((BitVec.ofInt 64 (a : Int) &&& BitVec.ofInt 64 (b : Int)).toNat : Int) = _
  rw [BitVec.toNat_and, ea, eb, i64_id _ (by omega)]
theorem rotr_sum (x n : Nat) (hn : n ≤ 32) : Sp.rotr x n = x / 2 ^ n + x % 2 ^ n * 2 ^ (32 - n) ∨ ¬ x < 4294967296 := by
  by_cases hx : x < 4294967296
  · left
    unfold Sp.rotr
    have e : (4294967296 : Nat) = 2 ^ n * 2 ^ (32 - n) := by rw [← Nat.pow_add, show n + (32 - n) = 32 from by omega]
    have hd : x / 2 ^ n < 2 ^ (32 - n) := by
      rw [Nat.div_lt_iff_lt_mul (Nat.two_pow_pos n), Nat.mul_comm, ← e]; exact hx
    rw [e, Nat.mul_mod_mul_right, Nat.mul_comm _ (2 ^ (32 - n)), ← Nat.two_pow_add_eq_or_of_lt hd]
    omega
  · exact .inr hx
theorem rotr_eq (x n : Nat) (hn : n ≤ 32) (hx : x < 4294967296) : Sp.rotr x n = x / 2 ^ n + x % 2 ^ n * 2 ^ (32 - n) := (rotr_sum x n hn).resolve_right (fun h => h hx)
set_option maxHeartbeats 400000 in
theorem top_any (x : Nat) (w : World) (hx : x ≤ 9223372036854775807) : Calls Tryd.prog 26 #[.int .i64 x] w fun e w' => e = .returned (.int .i64 (x % 4294967296 : Nat)) ∧ w' = w := by
  go_enter Tryd.func26, Tryd.ntmps26
  go_wp2
  go_ret
  exact ⟨ret_int (by omega), rfl⟩
set_option maxHeartbeats 400000 in
theorem turn2 (x : Nat) (w : World) (hx : x < 4294967296) : Calls Tryd.prog 27 #[.int .i64 x, .int .i64 2] w fun e w' => e = .returned (.int .i64 (Sp.rotr x 2 : Nat)) ∧ ∃ n, w' = w.drewN n := by
  go_enter Tryd.func27, Tryd.ntmps27
  go_wp2_with fail
  go_quiet (fail)
  go_wp2
  go_ret
  refine ⟨ret_int ?_, nq, rfl⟩
  rw [rotr_eq x 2 (by decide) hx]
  omega
set_option maxHeartbeats 400000 in
theorem turn6 (x : Nat) (w : World) (hx : x < 4294967296) : Calls Tryd.prog 27 #[.int .i64 x, .int .i64 6] w fun e w' => e = .returned (.int .i64 (Sp.rotr x 6 : Nat)) ∧ ∃ n, w' = w.drewN n := by
  go_enter Tryd.func27, Tryd.ntmps27
  go_wp2_with fail
  go_quiet (fail)
  go_wp2
  go_ret
  refine ⟨ret_int ?_, nq, rfl⟩
  rw [rotr_eq x 6 (by decide) hx]
  omega
set_option maxHeartbeats 400000 in
theorem turn7 (x : Nat) (w : World) (hx : x < 4294967296) : Calls Tryd.prog 27 #[.int .i64 x, .int .i64 7] w fun e w' => e = .returned (.int .i64 (Sp.rotr x 7 : Nat)) ∧ ∃ n, w' = w.drewN n := by
  go_enter Tryd.func27, Tryd.ntmps27
  go_wp2_with fail
  go_quiet (fail)
  go_wp2
  go_ret
  refine ⟨ret_int ?_, nq, rfl⟩
  rw [rotr_eq x 7 (by decide) hx]
  omega
set_option maxHeartbeats 400000 in
theorem turn11 (x : Nat) (w : World) (hx : x < 4294967296) : Calls Tryd.prog 27 #[.int .i64 x, .int .i64 11] w fun e w' => e = .returned (.int .i64 (Sp.rotr x 11 : Nat)) ∧ ∃ n, w' = w.drewN n := by
  go_enter Tryd.func27, Tryd.ntmps27
  go_wp2_with fail
  go_quiet (fail)
  go_wp2
  go_ret
  refine ⟨ret_int ?_, nq, rfl⟩
  rw [rotr_eq x 11 (by decide) hx]
  omega
set_option maxHeartbeats 400000 in
theorem turn13 (x : Nat) (w : World) (hx : x < 4294967296) : Calls Tryd.prog 27 #[.int .i64 x, .int .i64 13] w fun e w' => e = .returned (.int .i64 (Sp.rotr x 13 : Nat)) ∧ ∃ n, w' = w.drewN n := by
  go_enter Tryd.func27, Tryd.ntmps27
  go_wp2_with fail
  go_quiet (fail)
  go_wp2
  go_ret
  refine ⟨ret_int ?_, nq, rfl⟩
  rw [rotr_eq x 13 (by decide) hx]
  omega
set_option maxHeartbeats 400000 in
theorem turn17 (x : Nat) (w : World) (hx : x < 4294967296) : Calls Tryd.prog 27 #[.int .i64 x, .int .i64 17] w fun e w' => e = .returned (.int .i64 (Sp.rotr x 17 : Nat)) ∧ ∃ n, w' = w.drewN n := by
  go_enter Tryd.func27, Tryd.ntmps27
  go_wp2_with fail
  go_quiet (fail)
  go_wp2
  go_ret
  refine ⟨ret_int ?_, nq, rfl⟩
  rw [rotr_eq x 17 (by decide) hx]
  omega
set_option maxHeartbeats 400000 in
theorem turn18 (x : Nat) (w : World) (hx : x < 4294967296) : Calls Tryd.prog 27 #[.int .i64 x, .int .i64 18] w fun e w' => e = .returned (.int .i64 (Sp.rotr x 18 : Nat)) ∧ ∃ n, w' = w.drewN n := by
  go_enter Tryd.func27, Tryd.ntmps27
  go_wp2_with fail
  go_quiet (fail)
  go_wp2
  go_ret
  refine ⟨ret_int ?_, nq, rfl⟩
  rw [rotr_eq x 18 (by decide) hx]
  omega
set_option maxHeartbeats 400000 in
theorem turn19 (x : Nat) (w : World) (hx : x < 4294967296) : Calls Tryd.prog 27 #[.int .i64 x, .int .i64 19] w fun e w' => e = .returned (.int .i64 (Sp.rotr x 19 : Nat)) ∧ ∃ n, w' = w.drewN n := by
  go_enter Tryd.func27, Tryd.ntmps27
  go_wp2_with fail
  go_quiet (fail)
  go_wp2
  go_ret
  refine ⟨ret_int ?_, nq, rfl⟩
  rw [rotr_eq x 19 (by decide) hx]
  omega
set_option maxHeartbeats 400000 in
theorem turn22 (x : Nat) (w : World) (hx : x < 4294967296) : Calls Tryd.prog 27 #[.int .i64 x, .int .i64 22] w fun e w' => e = .returned (.int .i64 (Sp.rotr x 22 : Nat)) ∧ ∃ n, w' = w.drewN n := by
  go_enter Tryd.func27, Tryd.ntmps27
  go_wp2_with fail
  go_quiet (fail)
  go_wp2
  go_ret
  refine ⟨ret_int ?_, nq, rfl⟩
  rw [rotr_eq x 22 (by decide) hx]
  omega
set_option maxHeartbeats 400000 in
theorem turn25 (x : Nat) (w : World) (hx : x < 4294967296) : Calls Tryd.prog 27 #[.int .i64 x, .int .i64 25] w fun e w' => e = .returned (.int .i64 (Sp.rotr x 25 : Nat)) ∧ ∃ n, w' = w.drewN n := by
  go_enter Tryd.func27, Tryd.ntmps27
  go_wp2_with fail
  go_quiet (fail)
  go_wp2
  go_ret
  refine ⟨ret_int ?_, nq, rfl⟩
  rw [rotr_eq x 25 (by decide) hx]
  omega
theorem word_sum (x0 x1 x2 x3 : Nat) (_h0 : x0 < 256) (h1 : x1 < 256) (h2 : x2 < 256) (h3 : x3 < 256) : x0 * 16777216 ||| x1 * 65536 ||| x2 * 256 ||| x3 = x0 * 16777216 + x1 * 65536 + x2 * 256 + x3 := by
  have e1 : x0 * 16777216 ||| x1 * 65536 = (x0 * 256 + x1) * 65536 := by
    have := Nat.two_pow_add_eq_or_of_lt (i := 24) (b := x1 * 65536) (by omega) x0
    rw [Nat.mul_comm x0, ← this]
    omega
  have e2 : (x0 * 256 + x1) * 65536 ||| x2 * 256 = (x0 * 65536 + x1 * 256 + x2) * 256 := by
    have := Nat.two_pow_add_eq_or_of_lt (i := 16) (b := x2 * 256) (by omega) (x0 * 256 + x1)
    rw [Nat.mul_comm (x0 * 256 + x1), ← this]
    omega
  have e3 : (x0 * 65536 + x1 * 256 + x2) * 256 ||| x3 = x0 * 16777216 + x1 * 65536 + x2 * 256 + x3 := by
    have := Nat.two_pow_add_eq_or_of_lt (i := 8) (b := x3) (by omega) (x0 * 65536 + x1 * 256 + x2)
    rw [Nat.mul_comm (x0 * 65536 + x1 * 256 + x2), ← this]
    omega
  rw [e1, e2, e3]
theorem range_cell {w : World} {g o : Nat} {k : IntKind} {l : List Nat} (h : w.rangeAt g o (ints k l)) (i : Nat) (hi : i < l.length) : w.cell? ⟨g, o + i, none⟩ = some (.int k (Sp.nth l i : Nat)) := h i _ (ints_get k l i hi)
set_option maxHeartbeats 400000 in
theorem word_any (b : List Nat) (g o c i : Nat) (w : World) (hs : ∀ x ∈ b, x < 256) (hr : w.rangeAt g o (ints .u8 b)) (hi : i + 3 < b.length) (hl : b.length ≤ 1000000) :
    Calls Tryd.prog 33 #[.slice (some ⟨g, o, none⟩) b.length c, .int .i64 i] w fun e w' => e = .returned (.int .i64 (Sp.word b i : Nat)) ∧ ∃ n, w' = w.drewN n := by
  have c0 := range_cell hr i (by omega)
  have c1 := range_cell hr (i + 1) (by omega)
  have c2 := range_cell hr (i + 2) (by omega)
  have c3 := range_cell hr (i + 3) (by omega)
  have s0 := Sp.nth_lt (by decide) hs i
  have s1 := Sp.nth_lt (by decide) hs (i + 1)
  have s2 := Sp.nth_lt (by decide) hs (i + 2)
  have s3 := Sp.nth_lt (by decide) hs (i + 3)
  have ew : Sp.word b i = _ := word_sum _ _ _ _ s0 s1 s2 s3
  have HE : Hid (Sp.word b i = Sp.nth b i * 16777216 + Sp.nth b (i + 1) * 65536 + Sp.nth b (i + 2) * 256 + Sp.nth b (i + 3)) := ew
  clear hr hs ew
  generalize Sp.nth b i = x0 at *
  generalize Sp.nth b (i + 1) = x1 at *
  generalize Sp.nth b (i + 2) = x2 at *
  generalize Sp.nth b (i + 3) = x3 at *
  have i0 : (0 : Int) ≤ (i : Int) := by omega
  have l3 : (i : Int) + 3 < (b.length : Int) := by omega
  have l0 : (i : Int) < (b.length : Int) := by omega
  have l1 : (i : Int) + 1 < (b.length : Int) := by omega
  have l2 : (i : Int) + 2 < (b.length : Int) := by omega
  go_enter Tryd.func33, Tryd.ntmps33
  go_wp2_with fail
  go_quiet (fail)
  go_wp2
  go_ret
  refine ⟨ret_int ?_, nq, rfl⟩
  rw [HE.out]
  omega
/-- A row of numbers that may be read: nothing, or cells from some place on. -/
def IntsAt (w : World) (v : Value) (l : List Nat) : Prop := ∃ g c, v = .slice (some ⟨g, 0, none⟩) l.length c ∧ w.rangeAt g 0 (ints .i64 l)
theorem IntsAt.below {w w' : World} {v : Value} {l : List Nat} (h : IntsAt w v l) (hb : Below w.heap.size w w') : IntsAt w' v l := by
  obtain ⟨g, c, rfl, hr⟩ := h
  exact ⟨g, c, rfl, rangeAt_below hb hr⟩
theorem all_zero_nth : ∀ (l : List Nat), l.all (· == 0) = true ↔ ∀ i, i < l.length → Sp.nth l i = 0
  | [] => by simp
  | x :: l => by
    simp only [List.all_cons, Bool.and_eq_true, beq_iff_eq, all_zero_nth l]
    constructor
    · rintro ⟨rfl, h⟩ i hi
      cases i with
      | zero => rfl
      | succ i => exact h i (by simpa using hi)
    · intro h
      exact ⟨h 0 (by simp), fun i hi => h (i + 1) (by simpa using hi)⟩
set_option maxHeartbeats 400000 in
theorem below_any (a : List Nat) (p : Nat) (v : Value) (w : World) (hv : IntsAt w v a) (h0 : 0 < a.length) (hl : a.length ≤ 1000000) :
    Calls Tryd.prog 37 #[v, .int .i64 p] w fun e w' => e = .returned (.bool (Rf.below a p)) ∧ w' = w := by
  obtain ⟨g, c, rfl, hr⟩ := hv
  have c0 := range_cell hr 0 h0
  rw [Nat.zero_add] at c0
  have hl0 : (0 : Int) < (a.length : Int) := by omega
  have HR : Hid (w.rangeAt g 0 (ints .i64 a)) := hr
  clear hr
  by_cases hp : Sp.nth a 0 = p
  · obtain ⟨r, hrr⟩ : ∃ r, Rf.below a p = r := ⟨_, rfl⟩
    have hbl : r = (a.drop 1).all (· == 0) := by rw [← hrr]; simp [Rf.below, hp]
    have HBL : Hid (r = (a.drop 1).all (· == 0)) := hbl
    rw [hrr]
    clear hbl hrr
    rw [hp] at c0
    go_enter Tryd.func37, Tryd.ntmps37
    go_wp2
    go_loop [5] (fun i => ∃ k : Nat, 1 ≤ k ∧ k ≤ a.length ∧ i = .int .i64 k ∧ Hid (∀ j, 1 ≤ j → j < k → Sp.nth a j = 0)) (fun i => a.length - (intOf i).toNat)
    case atStart => exact ⟨1, by omega, by omega, rfl, fun j h1 h2 => by omega⟩
    case round =>
      obtain ⟨k, hk1, hk2, rfl, HZ⟩ := hrel
      by_cases hlt : k < a.length
      · have ck := range_cell HR.out k hlt
        rw [Nat.zero_add] at ck
        have k0 : (0 : Int) ≤ (k : Int) := by omega
        have k1 : (k : Int) < (a.length : Int) := by omega
        by_cases hz : Sp.nth a k = 0
        · rw [hz] at ck
          go_wp2
          go_round
          case rel => exact ⟨k + 1, by omega, by omega, by go_num, fun j h1 h2 => by
            by_cases e : j = k
            · rw [e]; exact hz
            · exact HZ.out j h1 (by omega)⟩
          case measure => simp [intOf]; omega
        · have hz' : ((Sp.nth a k : Nat) : Int) ≠ 0 := by omega
          have hrf : r = false := by
            rw [HBL.out, Bool.eq_false_iff]
            intro h
            have := (all_zero_nth _).1 h (k - 1) (by simp; omega)
            rw [Sp.nth_drop, show 1 + (k - 1) = k from by omega] at this
            exact hz this
          subst hrf
          go_wp2
          go_ret
          exact ⟨rfl, rfl⟩
      · obtain rfl : k = a.length := by omega
        have hrt : r = true := by
          rw [HBL.out, all_zero_nth]
          intro i hi
          simp at hi
          rw [Sp.nth_drop]
          exact HZ.out (1 + i) (by omega) (by omega)
        subst hrt
        go_wp2
        go_ret
        exact ⟨rfl, rfl⟩
  · have hbl : Rf.below a p = decide (Sp.nth a 0 < p) := by simp [Rf.below, hp]
    have hp' : ((Sp.nth a 0 : Nat) : Int) ≠ (p : Int) := by omega
    rw [hbl]
    clear hbl
    go_enter Tryd.func37, Tryd.ntmps37
    go_wp2
    go_ret
    exact ⟨rfl, rfl⟩
end Go.Proofs.YtnbdadhdpplldabDoor
