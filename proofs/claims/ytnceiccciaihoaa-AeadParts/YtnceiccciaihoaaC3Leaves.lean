/- The contracts of the leaves: bits.RotateLeft32, step, quarter, mixed. -/
import Derived.Test.YtnceiccciaihoaaProg
import Derived.Test.YtnceiccciaihoaaC3Spec
import Derived.Test.YtnceiccciaihoaaLaws2
import Derived.BigRegion
import Derived.Deep.RegionHeld3
import Derived.WalkMore
import Derived.ScopeJumps
namespace Go.Proofs.Ytnceiccciaihoaa.C3
open Go.RowKit
theorem rot_value (x n : Nat) (hx : x < 4294967296) (hn : n ≤ 32) :
    bits BinOp.or IntKind.u32 ((x : Int) * 2 ^ n % 4294967296) ((x : Int) / 2 ^ (32 - n)) = (Ch.rotl x n : Int) := by
  have e1 : ((x : Int) * 2 ^ n % 4294967296) = ((x * 2 ^ n % 4294967296 : Nat) : Int) := by simp
  have e2 : ((x : Int) / 2 ^ (32 - n)) = ((x / 2 ^ (32 - n) : Nat) : Int) := by simp
  rw [e1, e2, u32_or_nat _ _ (Nat.mod_lt _ (by decide)) (Nat.lt_of_le_of_lt (Nat.div_le_self _ _) hx)]
  congr 1
  unfold Ch.rotl
  have hp : 0 < 2 ^ n := Nat.two_pow_pos n
  have e : (4294967296 : Nat) = 2 ^ (32 - n) * 2 ^ n := by rw [← Nat.pow_add, Nat.sub_add_cancel hn]
  have h1 : x / 2 ^ (32 - n) < 2 ^ n := by
    apply Nat.div_lt_of_lt_mul
    rw [← e]; exact hx
  rw [e, Nat.mul_mod_mul_right, Nat.mul_div_mul_right _ _ hp, Nat.mul_comm (x % _)]
  exact (Nat.two_pow_add_eq_or_of_lt h1 _).symm
set_option maxHeartbeats 400000 in
theorem rot16 (x : Nat) (w : World) (hx : x < 4294967296) : Calls Try.prog 54 #[.int .u32 x, .int .i64 16] w fun e w' => e = .returned (.int .u32 (Ch.rotl x 16 : Nat)) ∧ w' = w := by
  have hs : bits BinOp.and .u64 16 31 = 16 := by decide +kernel
  go_enter Try.func54, Try.ntmps54
  go_wp2
  go_ret
  exact ⟨ret_int (rot_value x 16 hx (by decide)), rfl⟩
set_option maxHeartbeats 400000 in
theorem rot12 (x : Nat) (w : World) (hx : x < 4294967296) : Calls Try.prog 54 #[.int .u32 x, .int .i64 12] w fun e w' => e = .returned (.int .u32 (Ch.rotl x 12 : Nat)) ∧ w' = w := by
  have hs : bits BinOp.and .u64 12 31 = 12 := by decide +kernel
  go_enter Try.func54, Try.ntmps54
  go_wp2
  go_ret
  exact ⟨ret_int (rot_value x 12 hx (by decide)), rfl⟩
set_option maxHeartbeats 400000 in
theorem rot8 (x : Nat) (w : World) (hx : x < 4294967296) : Calls Try.prog 54 #[.int .u32 x, .int .i64 8] w fun e w' => e = .returned (.int .u32 (Ch.rotl x 8 : Nat)) ∧ w' = w := by
  have hs : bits BinOp.and .u64 8 31 = 8 := by decide +kernel
  go_enter Try.func54, Try.ntmps54
  go_wp2
  go_ret
  exact ⟨ret_int (rot_value x 8 hx (by decide)), rfl⟩
set_option maxHeartbeats 400000 in
theorem rot7 (x : Nat) (w : World) (hx : x < 4294967296) : Calls Try.prog 54 #[.int .u32 x, .int .i64 7] w fun e w' => e = .returned (.int .u32 (Ch.rotl x 7 : Nat)) ∧ w' = w := by
  have hs : bits BinOp.and .u64 7 31 = 7 := by decide +kernel
  go_enter Try.func54, Try.ntmps54
  go_wp2
  go_ret
  exact ⟨ret_int (rot_value x 7 hx (by decide)), rfl⟩
/-- At block g lies a state. -/
def StAt (w : World) (g : Nat) (s : List Nat) : Prop := w.heap[g]? = some (.cells (arr .u32 s) 45 (0, 0))
section
variable {w : World} {g : Nat} {s : List Nat}
theorem StAt.cell (h : StAt w g s) (i : Nat) (hi : i < s.length) : w.cell? ⟨g, i, none⟩ = some (.int .u32 (Sp.nth s i : Nat)) := by
  rw [cell_of_row _ _ _ _ _ _ h]; exact arr_get _ _ _ hi
theorem StAt.may (h : StAt w g s) (i : Nat) : w.frozen? ⟨g, i, none⟩ = false := frozen_of_row _ _ _ _ _ h
theorem StAt.set (h : StAt w g s) (i x : Nat) : StAt (w.setCell ⟨g, i, none⟩ (.int .u32 (x : Nat))) g (s.set i x) := by
  have := heap_setCell_same w g i (arr .u32 s) 45 (.int .u32 (x : Nat)) h
  unfold StAt
  rw [this]
  congr 2
  apply Array.ext'
  simp [arr, ints]
theorem StAt.drewN (h : StAt w g s) (n : Nat) : StAt (w.drewN n) g s := h
end
set_option maxHeartbeats 1000000 in
theorem step16 (s : List Nat) (g a b d : Nat) (w : World) (hs : Ch.Ok s) (hg : StAt w g s) (ha : a < 16) (hb : b < 16) (hd : d < 16) :
    Calls Try.prog 53 #[.pointer (some ⟨g, 0, none⟩), .int .i64 a, .int .i64 b, .int .i64 d, .int .i64 16] w fun e w' => e = .returned (.tuple #[]) ∧ StAt w' g (Ch.step s a b d 16) ∧ w.grownBy w' (some g) := by
  have ca := hg.cell a (by rw [hs.1]; exact ha)
  have cb := hg.cell b (by rw [hs.1]; exact hb)
  have fa := hg.may a
  have a0 : (0 : Int) ≤ (a : Int) := by omega
  have b0 : (0 : Int) ≤ (b : Int) := by omega
  have d0 : (0 : Int) ≤ (d : Int) := by omega
  have a1 : (a : Int) < 16 := by omega
  have b1 : (b : Int) < 16 := by omega
  have d1 : (d : Int) < 16 := by omega
  have HX : Hid (((Sp.nth s a : Nat) : Int) + ((Sp.nth s b : Nat) : Int) = ((Sp.nth s a + Sp.nth s b : Nat) : Int)) := by show _ = _; omega
  have hst : StAt ((w.setCell ⟨g, a, none⟩ (.int .u32 (((Sp.nth s a + Sp.nth s b) % 4294967296 : Nat) : Int))).drew) g (s.set a ((Sp.nth s a + Sp.nth s b) % 4294967296)) := hg.set a _
  have hok : Ch.Ok (s.set a ((Sp.nth s a + Sp.nth s b) % 4294967296)) := hs.set a (Nat.mod_lt _ (by decide))
  have HGR : Hid (w.grownBy ((w.setCell ⟨g, a, none⟩ (.int .u32 (((Sp.nth s a + Sp.nth s b) % 4294967296 : Nat) : Int))).drew) (some g)) := grownBy_drewN (grownBy_set (grownBy_refl w _) a _) 1
  have HST : Hid _ := hst
  have HE : Hid (Ch.step s a b d 16 = (s.set a ((Sp.nth s a + Sp.nth s b) % 4294967296)).set d (Ch.rotl (Sp.nth (s.set a ((Sp.nth s a + Sp.nth s b) % 4294967296)) d ^^^ Sp.nth (s.set a ((Sp.nth s a + Sp.nth s b) % 4294967296)) a) 16)) := rfl
  have e0 : (((Sp.nth s a + Sp.nth s b) % 4294967296 : Nat) : Int) = ((Sp.nth s a : Nat) + (Sp.nth s b : Nat) : Int) % 4294967296 := by omega
  rw [e0] at HST HGR
  have HOK : Hid (Ch.Ok (s.set a ((Sp.nth s a + Sp.nth s b) % 4294967296))) := hok
  clear hs hg hst hok e0 HX
  go_enter Try.func53, Try.ntmps53
  go_wp2
  go_region
  go_wp2
  generalize (w.setCell ⟨g, a, none⟩ (.int .u32 (((Sp.nth s a : Nat) + (Sp.nth s b : Nat) : Int) % 4294967296))).drew = w1 at *
  clear ca cb fa
  generalize s.set a ((Sp.nth s a + Sp.nth s b) % 4294967296) = s1 at *
  have hst1 : StAt w1 g s1 := HST.out
  have cd := hst1.cell d (by rw [HOK.out.1]; exact hd)
  have ca := hst1.cell a (by rw [HOK.out.1]; exact ha)
  have fd := hst1.may d
  have xd : Sp.nth s1 d < 4294967296 := HOK.out.lt d
  have xa : Sp.nth s1 a < 4294967296 := HOK.out.lt a
  have hx := u32_xor_nat _ _ xd xa
  have xx : Sp.nth s1 d ^^^ Sp.nth s1 a < 4294967296 := Nat.xor_lt_two_pow (n := 32) xd xa
  have HN : Hid (StAt (w1.setCell ⟨g, d, none⟩ (.int .u32 ((Ch.rotl (Sp.nth s1 d ^^^ Sp.nth s1 a) 16 : Nat) : Int))) g (Ch.step s a b d 16)) := by
    rw [HE.out]
    exact hst1.set d _
  have HGN : Hid (w.grownBy (w1.setCell ⟨g, d, none⟩ (.int .u32 ((Ch.rotl (Sp.nth s1 d ^^^ Sp.nth s1 a) 16 : Nat) : Int))) (some g)) := grownBy_set HGR.out d _
  clear HE xd xa hst1 HST
  generalize Sp.nth s1 d = xd at *
  generalize Sp.nth s1 a = xa at *
  go_region_with ((go_at_call 54; refine (rot16 _ _ xx).mono ?_; rintro e w' ⟨rfl, rfl⟩))
  all_goals (refine bodyPost_end (results_none rfl _ _ _) rfl ?_; exact ⟨rfl, HN.out, grownBy_drewN HGN.out 1⟩)
set_option maxHeartbeats 1000000 in
theorem step12 (s : List Nat) (g a b d : Nat) (w : World) (hs : Ch.Ok s) (hg : StAt w g s) (ha : a < 16) (hb : b < 16) (hd : d < 16) :
    Calls Try.prog 53 #[.pointer (some ⟨g, 0, none⟩), .int .i64 a, .int .i64 b, .int .i64 d, .int .i64 12] w fun e w' => e = .returned (.tuple #[]) ∧ StAt w' g (Ch.step s a b d 12) ∧ w.grownBy w' (some g) := by
  have ca := hg.cell a (by rw [hs.1]; exact ha)
  have cb := hg.cell b (by rw [hs.1]; exact hb)
  have fa := hg.may a
  have a0 : (0 : Int) ≤ (a : Int) := by omega
  have b0 : (0 : Int) ≤ (b : Int) := by omega
  have d0 : (0 : Int) ≤ (d : Int) := by omega
  have a1 : (a : Int) < 16 := by omega
  have b1 : (b : Int) < 16 := by omega
  have d1 : (d : Int) < 16 := by omega
  have HX : Hid (((Sp.nth s a : Nat) : Int) + ((Sp.nth s b : Nat) : Int) = ((Sp.nth s a + Sp.nth s b : Nat) : Int)) := by show _ = _; omega
  have hst : StAt ((w.setCell ⟨g, a, none⟩ (.int .u32 (((Sp.nth s a + Sp.nth s b) % 4294967296 : Nat) : Int))).drew) g (s.set a ((Sp.nth s a + Sp.nth s b) % 4294967296)) := hg.set a _
  have hok : Ch.Ok (s.set a ((Sp.nth s a + Sp.nth s b) % 4294967296)) := hs.set a (Nat.mod_lt _ (by decide))
  have HGR : Hid (w.grownBy ((w.setCell ⟨g, a, none⟩ (.int .u32 (((Sp.nth s a + Sp.nth s b) % 4294967296 : Nat) : Int))).drew) (some g)) := grownBy_drewN (grownBy_set (grownBy_refl w _) a _) 1
  have HST : Hid _ := hst
  have HE : Hid (Ch.step s a b d 12 = (s.set a ((Sp.nth s a + Sp.nth s b) % 4294967296)).set d (Ch.rotl (Sp.nth (s.set a ((Sp.nth s a + Sp.nth s b) % 4294967296)) d ^^^ Sp.nth (s.set a ((Sp.nth s a + Sp.nth s b) % 4294967296)) a) 12)) := rfl
  have e0 : (((Sp.nth s a + Sp.nth s b) % 4294967296 : Nat) : Int) = ((Sp.nth s a : Nat) + (Sp.nth s b : Nat) : Int) % 4294967296 := by omega
  rw [e0] at HST HGR
  have HOK : Hid (Ch.Ok (s.set a ((Sp.nth s a + Sp.nth s b) % 4294967296))) := hok
  clear hs hg hst hok e0 HX
  go_enter Try.func53, Try.ntmps53
  go_wp2
  go_region
  go_wp2
  generalize (w.setCell ⟨g, a, none⟩ (.int .u32 (((Sp.nth s a : Nat) + (Sp.nth s b : Nat) : Int) % 4294967296))).drew = w1 at *
  clear ca cb fa
  generalize s.set a ((Sp.nth s a + Sp.nth s b) % 4294967296) = s1 at *
  have hst1 : StAt w1 g s1 := HST.out
  have cd := hst1.cell d (by rw [HOK.out.1]; exact hd)
  have ca := hst1.cell a (by rw [HOK.out.1]; exact ha)
  have fd := hst1.may d
  have xd : Sp.nth s1 d < 4294967296 := HOK.out.lt d
  have xa : Sp.nth s1 a < 4294967296 := HOK.out.lt a
  have hx := u32_xor_nat _ _ xd xa
  have xx : Sp.nth s1 d ^^^ Sp.nth s1 a < 4294967296 := Nat.xor_lt_two_pow (n := 32) xd xa
  have HN : Hid (StAt (w1.setCell ⟨g, d, none⟩ (.int .u32 ((Ch.rotl (Sp.nth s1 d ^^^ Sp.nth s1 a) 12 : Nat) : Int))) g (Ch.step s a b d 12)) := by
    rw [HE.out]
    exact hst1.set d _
  have HGN : Hid (w.grownBy (w1.setCell ⟨g, d, none⟩ (.int .u32 ((Ch.rotl (Sp.nth s1 d ^^^ Sp.nth s1 a) 12 : Nat) : Int))) (some g)) := grownBy_set HGR.out d _
  clear HE xd xa hst1 HST
  generalize Sp.nth s1 d = xd at *
  generalize Sp.nth s1 a = xa at *
  go_region_with ((go_at_call 54; refine (rot12 _ _ xx).mono ?_; rintro e w' ⟨rfl, rfl⟩))
  all_goals (refine bodyPost_end (results_none rfl _ _ _) rfl ?_; exact ⟨rfl, HN.out, grownBy_drewN HGN.out 1⟩)
set_option maxHeartbeats 1000000 in
theorem step8 (s : List Nat) (g a b d : Nat) (w : World) (hs : Ch.Ok s) (hg : StAt w g s) (ha : a < 16) (hb : b < 16) (hd : d < 16) :
    Calls Try.prog 53 #[.pointer (some ⟨g, 0, none⟩), .int .i64 a, .int .i64 b, .int .i64 d, .int .i64 8] w fun e w' => e = .returned (.tuple #[]) ∧ StAt w' g (Ch.step s a b d 8) ∧ w.grownBy w' (some g) := by
  have ca := hg.cell a (by rw [hs.1]; exact ha)
  have cb := hg.cell b (by rw [hs.1]; exact hb)
  have fa := hg.may a
  have a0 : (0 : Int) ≤ (a : Int) := by omega
  have b0 : (0 : Int) ≤ (b : Int) := by omega
  have d0 : (0 : Int) ≤ (d : Int) := by omega
  have a1 : (a : Int) < 16 := by omega
  have b1 : (b : Int) < 16 := by omega
  have d1 : (d : Int) < 16 := by omega
  have HX : Hid (((Sp.nth s a : Nat) : Int) + ((Sp.nth s b : Nat) : Int) = ((Sp.nth s a + Sp.nth s b : Nat) : Int)) := by show _ = _; omega
  have hst : StAt ((w.setCell ⟨g, a, none⟩ (.int .u32 (((Sp.nth s a + Sp.nth s b) % 4294967296 : Nat) : Int))).drew) g (s.set a ((Sp.nth s a + Sp.nth s b) % 4294967296)) := hg.set a _
  have hok : Ch.Ok (s.set a ((Sp.nth s a + Sp.nth s b) % 4294967296)) := hs.set a (Nat.mod_lt _ (by decide))
  have HGR : Hid (w.grownBy ((w.setCell ⟨g, a, none⟩ (.int .u32 (((Sp.nth s a + Sp.nth s b) % 4294967296 : Nat) : Int))).drew) (some g)) := grownBy_drewN (grownBy_set (grownBy_refl w _) a _) 1
  have HST : Hid _ := hst
  have HE : Hid (Ch.step s a b d 8 = (s.set a ((Sp.nth s a + Sp.nth s b) % 4294967296)).set d (Ch.rotl (Sp.nth (s.set a ((Sp.nth s a + Sp.nth s b) % 4294967296)) d ^^^ Sp.nth (s.set a ((Sp.nth s a + Sp.nth s b) % 4294967296)) a) 8)) := rfl
  have e0 : (((Sp.nth s a + Sp.nth s b) % 4294967296 : Nat) : Int) = ((Sp.nth s a : Nat) + (Sp.nth s b : Nat) : Int) % 4294967296 := by omega
  rw [e0] at HST HGR
  have HOK : Hid (Ch.Ok (s.set a ((Sp.nth s a + Sp.nth s b) % 4294967296))) := hok
  clear hs hg hst hok e0 HX
  go_enter Try.func53, Try.ntmps53
  go_wp2
  go_region
  go_wp2
  generalize (w.setCell ⟨g, a, none⟩ (.int .u32 (((Sp.nth s a : Nat) + (Sp.nth s b : Nat) : Int) % 4294967296))).drew = w1 at *
  clear ca cb fa
  generalize s.set a ((Sp.nth s a + Sp.nth s b) % 4294967296) = s1 at *
  have hst1 : StAt w1 g s1 := HST.out
  have cd := hst1.cell d (by rw [HOK.out.1]; exact hd)
  have ca := hst1.cell a (by rw [HOK.out.1]; exact ha)
  have fd := hst1.may d
  have xd : Sp.nth s1 d < 4294967296 := HOK.out.lt d
  have xa : Sp.nth s1 a < 4294967296 := HOK.out.lt a
  have hx := u32_xor_nat _ _ xd xa
  have xx : Sp.nth s1 d ^^^ Sp.nth s1 a < 4294967296 := Nat.xor_lt_two_pow (n := 32) xd xa
  have HN : Hid (StAt (w1.setCell ⟨g, d, none⟩ (.int .u32 ((Ch.rotl (Sp.nth s1 d ^^^ Sp.nth s1 a) 8 : Nat) : Int))) g (Ch.step s a b d 8)) := by
    rw [HE.out]
    exact hst1.set d _
  have HGN : Hid (w.grownBy (w1.setCell ⟨g, d, none⟩ (.int .u32 ((Ch.rotl (Sp.nth s1 d ^^^ Sp.nth s1 a) 8 : Nat) : Int))) (some g)) := grownBy_set HGR.out d _
  clear HE xd xa hst1 HST
  generalize Sp.nth s1 d = xd at *
  generalize Sp.nth s1 a = xa at *
  go_region_with ((go_at_call 54; refine (rot8 _ _ xx).mono ?_; rintro e w' ⟨rfl, rfl⟩))
  all_goals (refine bodyPost_end (results_none rfl _ _ _) rfl ?_; exact ⟨rfl, HN.out, grownBy_drewN HGN.out 1⟩)
set_option maxHeartbeats 1000000 in
theorem step7 (s : List Nat) (g a b d : Nat) (w : World) (hs : Ch.Ok s) (hg : StAt w g s) (ha : a < 16) (hb : b < 16) (hd : d < 16) :
    Calls Try.prog 53 #[.pointer (some ⟨g, 0, none⟩), .int .i64 a, .int .i64 b, .int .i64 d, .int .i64 7] w fun e w' => e = .returned (.tuple #[]) ∧ StAt w' g (Ch.step s a b d 7) ∧ w.grownBy w' (some g) := by
  have ca := hg.cell a (by rw [hs.1]; exact ha)
  have cb := hg.cell b (by rw [hs.1]; exact hb)
  have fa := hg.may a
  have a0 : (0 : Int) ≤ (a : Int) := by omega
  have b0 : (0 : Int) ≤ (b : Int) := by omega
  have d0 : (0 : Int) ≤ (d : Int) := by omega
  have a1 : (a : Int) < 16 := by omega
  have b1 : (b : Int) < 16 := by omega
  have d1 : (d : Int) < 16 := by omega
  have HX : Hid (((Sp.nth s a : Nat) : Int) + ((Sp.nth s b : Nat) : Int) = ((Sp.nth s a + Sp.nth s b : Nat) : Int)) := by show _ = _; omega
  have hst : StAt ((w.setCell ⟨g, a, none⟩ (.int .u32 (((Sp.nth s a + Sp.nth s b) % 4294967296 : Nat) : Int))).drew) g (s.set a ((Sp.nth s a + Sp.nth s b) % 4294967296)) := hg.set a _
  have hok : Ch.Ok (s.set a ((Sp.nth s a + Sp.nth s b) % 4294967296)) := hs.set a (Nat.mod_lt _ (by decide))
  have HGR : Hid (w.grownBy ((w.setCell ⟨g, a, none⟩ (.int .u32 (((Sp.nth s a + Sp.nth s b) % 4294967296 : Nat) : Int))).drew) (some g)) := grownBy_drewN (grownBy_set (grownBy_refl w _) a _) 1
  have HST : Hid _ := hst
  have HE : Hid (Ch.step s a b d 7 = (s.set a ((Sp.nth s a + Sp.nth s b) % 4294967296)).set d (Ch.rotl (Sp.nth (s.set a ((Sp.nth s a + Sp.nth s b) % 4294967296)) d ^^^ Sp.nth (s.set a ((Sp.nth s a + Sp.nth s b) % 4294967296)) a) 7)) := rfl
  have e0 : (((Sp.nth s a + Sp.nth s b) % 4294967296 : Nat) : Int) = ((Sp.nth s a : Nat) + (Sp.nth s b : Nat) : Int) % 4294967296 := by omega
  rw [e0] at HST HGR
  have HOK : Hid (Ch.Ok (s.set a ((Sp.nth s a + Sp.nth s b) % 4294967296))) := hok
  clear hs hg hst hok e0 HX
  go_enter Try.func53, Try.ntmps53
  go_wp2
  go_region
  go_wp2
  generalize (w.setCell ⟨g, a, none⟩ (.int .u32 (((Sp.nth s a : Nat) + (Sp.nth s b : Nat) : Int) % 4294967296))).drew = w1 at *
  clear ca cb fa
  generalize s.set a ((Sp.nth s a + Sp.nth s b) % 4294967296) = s1 at *
  have hst1 : StAt w1 g s1 := HST.out
  have cd := hst1.cell d (by rw [HOK.out.1]; exact hd)
  have ca := hst1.cell a (by rw [HOK.out.1]; exact ha)
  have fd := hst1.may d
  have xd : Sp.nth s1 d < 4294967296 := HOK.out.lt d
  have xa : Sp.nth s1 a < 4294967296 := HOK.out.lt a
  have hx := u32_xor_nat _ _ xd xa
  have xx : Sp.nth s1 d ^^^ Sp.nth s1 a < 4294967296 := Nat.xor_lt_two_pow (n := 32) xd xa
  have HN : Hid (StAt (w1.setCell ⟨g, d, none⟩ (.int .u32 ((Ch.rotl (Sp.nth s1 d ^^^ Sp.nth s1 a) 7 : Nat) : Int))) g (Ch.step s a b d 7)) := by
    rw [HE.out]
    exact hst1.set d _
  have HGN : Hid (w.grownBy (w1.setCell ⟨g, d, none⟩ (.int .u32 ((Ch.rotl (Sp.nth s1 d ^^^ Sp.nth s1 a) 7 : Nat) : Int))) (some g)) := grownBy_set HGR.out d _
  clear HE xd xa hst1 HST
  generalize Sp.nth s1 d = xd at *
  generalize Sp.nth s1 a = xa at *
  go_region_with ((go_at_call 54; refine (rot7 _ _ xx).mono ?_; rintro e w' ⟨rfl, rfl⟩))
  all_goals (refine bodyPost_end (results_none rfl _ _ _) rfl ?_; exact ⟨rfl, HN.out, grownBy_drewN HGN.out 1⟩)
end Go.Proofs.Ytnceiccciaihoaa.C3
