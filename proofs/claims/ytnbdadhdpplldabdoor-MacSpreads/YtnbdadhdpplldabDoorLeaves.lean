/- The contracts of the leaves: bits.RotateLeft32, right, turned, shifted. -/
import Derived.Test.YtnbdadhdpplldabDoorTypes
import Derived.Test.YtnbdadhdpplldabDoorSpec
import Derived.WalkKit
import Derived.WalkSpells
import Derived.WalkLawsBesides
import Derived.BigQuiet
import Derived.Deep.QuietTactic
import Derived.Deep.RegionWith
namespace Go.Proofs.YtnbdadhdpplldabDoor
open Go.RowKit
theorem and31 (n : Nat) (h1 : 1 ≤ n) (h2 : n ≤ 31) : bits BinOp.and .u64 (IntKind.u64.wrap (-(n:Int))) 31 = ((32 - n : Nat) : Int) := by
  have : n = 1 ∨ n = 2 ∨ n = 3 ∨ n = 4 ∨ n = 5 ∨ n = 6 ∨ n = 7 ∨ n = 8 ∨ n = 9 ∨ n = 10 ∨ n = 11 ∨ n = 12 ∨ n = 13 ∨ n = 14 ∨ n = 15 ∨ n = 16 ∨ n = 17 ∨ n = 18 ∨ n = 19 ∨ n = 20 ∨ n = 21 ∨ n = 22 ∨ n = 23 ∨ n = 24 ∨ n = 25 ∨ n = 26 ∨ n = 27 ∨ n = 28 ∨ n = 29 ∨ n = 30 ∨ n = 31 := by omega
  rcases this with rfl|rfl|rfl|rfl|rfl|rfl|rfl|rfl|rfl|rfl|rfl|rfl|rfl|rfl|rfl|rfl|rfl|rfl|rfl|rfl|rfl|rfl|rfl|rfl|rfl|rfl|rfl|rfl|rfl|rfl|rfl <;> decide +kernel

theorem rot_value (x n : Nat) (hx : x < 4294967296) (h2 : n ≤ 31) :
    bits BinOp.or IntKind.u32 ((x : Int) * 2 ^ (32 - n) % 4294967296) ((x : Int) / 2 ^ (32 - (32 - n))) = (Sp.rotr x n : Int) := by
  have e : 32 - (32 - n) = n := by omega
  rw [e]
  have e1 : ((x : Int) * 2 ^ (32 - n) % 4294967296) = ((x * 2 ^ (32 - n) % 4294967296 : Nat) : Int) := by simp
  have e2 : ((x : Int) / 2 ^ n) = ((x / 2 ^ n : Nat) : Int) := by simp
  rw [e1, e2, u32_or_nat _ _ (Nat.mod_lt _ (by decide)) (Sp.div_lt hx)]
  rfl

set_option maxHeartbeats 400000 in
theorem rot_any (x n : Nat) (w : World) (hx : x < 4294967296) (h1 : 1 ≤ n) (h2 : n ≤ 31) :
    Calls Tryd.prog 39 #[.int .u32 x, .int .i64 (-(n:Int))] w fun e w' => e = .returned (.int .u32 (Sp.rotr x n : Nat)) ∧ w' = w := by
  have hs := and31 n h1 h2
  go_enter Tryd.func39, Tryd.ntmps39
  go_wp2
  go_ret
  exact ⟨ret_int (rot_value x n hx h2), rfl⟩

set_option maxHeartbeats 400000 in
theorem right_any (x n : Nat) (w : World) (hx : x < 4294967296) (h1 : 1 ≤ n) (h2 : n ≤ 31) :
    Calls Tryd.prog 38 #[.int .u32 x, .int .i64 n] w fun e w' => e = .returned (.int .u32 (Sp.rotr x n : Nat)) ∧ w' = w := by
  go_enter Tryd.func38, Tryd.ntmps38
  go_wp2_with (go_at_call 39; refine (rot_any x n _ hx h1 h2).mono ?_; rintro e w' ⟨rfl, rfl⟩)
  go_ret
  exact ⟨rfl, rfl⟩

set_option maxHeartbeats 400000 in
theorem turned_any (x i j k : Nat) (w : World) (hx : x < 4294967296) (hi : 1 ≤ i) (hi' : i ≤ 31) (hj : 1 ≤ j) (hj' : j ≤ 31) (hk : 1 ≤ k) (hk' : k ≤ 31) :
    Calls Tryd.prog 34 #[.int .u32 x, .int .i64 i, .int .i64 j, .int .i64 k] w fun e w' => e = .returned (.int .u32 (Sp.turned x i j k : Nat)) ∧ w' = w := by
  go_enter Tryd.func34, Tryd.ntmps34
  go_wp2_with fail
  refine (right_any x i _ hx hi hi').mono ?_; rintro e w' ⟨rfl, rfl⟩
  go_wp2_with fail
  refine (right_any x j _ hx hj hj').mono ?_; rintro e w' ⟨rfl, rfl⟩
  go_wp2_with fail
  refine (right_any x k _ hx hk hk').mono ?_; rintro e w' ⟨rfl, rfl⟩
  go_wp2_with fail
  go_ret
  refine ⟨ret_int ?_, rfl⟩
  rw [u32_xor_nat _ _ (Sp.rotr_lt hx) (Sp.rotr_lt hx), u32_xor_nat _ _ (Sp.xor_lt (Sp.rotr_lt hx) (Sp.rotr_lt hx)) (Sp.rotr_lt hx)]
  rfl

set_option maxHeartbeats 400000 in
theorem shifted_any (x i j k : Nat) (w : World) (hx : x < 4294967296) (hi : 1 ≤ i) (hi' : i ≤ 31) (hj : 1 ≤ j) (hj' : j ≤ 31) (hk : 1 ≤ k) (hk' : k ≤ 31) :
    Calls Tryd.prog 35 #[.int .u32 x, .int .i64 i, .int .i64 j, .int .i64 k] w fun e w' => e = .returned (.int .u32 (Sp.shifted x i j k : Nat)) ∧ ∃ n, w' = w.drewN n := by
  have hk0 : (0:Int) ≤ (k:Int) := by omega
  go_enter Tryd.func35, Tryd.ntmps35
  go_wp2_with fail
  go_quiet ((first | (go_at_call_of 38 (Value.int IntKind.i64 (i : Int)); exact Calls.quiet_of_same (right_any x i _ hx hi hi')) | (exact Calls.quiet_of_same (right_any x j _ hx hj hj'))))
  go_wp2
  go_ret
  refine ⟨ret_int ?_, nq, rfl⟩
  have e2 : ((x : Int) / 2 ^ k) = ((x / 2 ^ k : Nat) : Int) := by simp
  rw [e2, u32_xor_nat _ _ (Sp.rotr_lt hx) (Sp.rotr_lt hx), u32_xor_nat _ _ (Sp.xor_lt (Sp.rotr_lt hx) (Sp.rotr_lt hx)) (Sp.div_lt hx)]
  rfl
end Go.Proofs.YtnbdadhdpplldabDoor
