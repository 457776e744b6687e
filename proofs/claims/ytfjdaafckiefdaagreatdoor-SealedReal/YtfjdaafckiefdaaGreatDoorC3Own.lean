/- The plain mathematics of ChaCha20, over natural numbers: what the walks' contracts speak of. -/
import Derived.Test.YtfjdaafckiefdaaGreatDoorMgL
import Derived.Test.YtfjdaafckiefdaaGreatDoorProg
import Derived.BigRegion
import Derived.Deep.RegionHeld3
import Derived.WalkMore
import Derived.ScopeJumps
namespace Go.Proofs.YtfjdaafckiefdaaGreatDoor.C3
open Sp
namespace Ch
def rotl (x n : Nat) : Nat := x * 2 ^ n % 4294967296 + x * 2 ^ n / 4294967296
def step (s : List Nat) (a b d n : Nat) : List Nat :=
  (s.set a ((nth s a + nth s b) % 4294967296)).set d (rotl (nth (s.set a ((nth s a + nth s b) % 4294967296)) d ^^^ nth (s.set a ((nth s a + nth s b) % 4294967296)) a) n)
def quarter (s : List Nat) (a b c d : Nat) : List Nat := step (step (step (step s a b d 16) c d b 12) a b d 8) c d b 7
def round (s : List Nat) : List Nat :=
  quarter (quarter (quarter (quarter (quarter (quarter (quarter (quarter s 0 4 8 12) 1 5 9 13) 2 6 10 14) 3 7 11 15) 0 5 10 15) 1 6 11 12) 2 7 8 13) 3 4 9 14
def rounds (s : List Nat) : Nat → List Nat
  | 0 => s
  | n + 1 => round (rounds s n)
/-- Four bytes as a number, the lowest first. -/
def word (b : List Nat) (i : Nat) : Nat := nth b i + nth b (i + 1) * 256 + nth b (i + 2) * 65536 + nth b (i + 3) * 16777216
def words (b : List Nat) (n : Nat) : List Nat := (List.range n).map fun i => word b (4 * i)
/-- The sixteen numbers that a block is made of. -/
def start (key : List Nat) (counter : Nat) (nonce : List Nat) : List Nat :=
  [0x61707865, 0x3320646e, 0x79622d32, 0x6b206574] ++ words key 8 ++ [counter] ++ words nonce 3
/-- A number's four bytes, the lowest first. -/
def le4 (x : Nat) : List Nat := [x % 256, x / 256 % 256, x / 65536 % 256, x / 16777216]
def outTo (s t : List Nat) (k : Nat) : List Nat := (List.range k).flatMap fun i => le4 ((nth t i + nth s i) % 4294967296)
def block (s : List Nat) : List Nat := outTo s (rounds s 10) 16
/-- The block of a key, a counter and a nonce. -/
def blockOf (key : List Nat) (c : Nat) (nonce : List Nat) : List Nat := block (start key c nonce)
/-- The stream's byte at a place. -/
def byteAt (key : List Nat) (c : Nat) (nonce : List Nat) (i : Nat) : Nat := nth (blockOf key ((c + i / 64) % 4294967296) nonce) (i % 64)
/-- The first n bytes of a text, xored. -/
def xorTo (key : List Nat) (c : Nat) (nonce text : List Nat) (n : Nat) : List Nat := (List.range n).map fun i => nth text i ^^^ byteAt key c nonce i
def xor (key : List Nat) (c : Nat) (nonce text : List Nat) : List Nat := xorTo key c nonce text text.length

theorem rotl_lt {x n : Nat} (h : x < 4294967296) (hn : n ≤ 32) : rotl x n < 4294967296 := by
  unfold rotl
  have hp : 0 < 2 ^ n := Nat.two_pow_pos n
  have e : (4294967296 : Nat) = 2 ^ (32 - n) * 2 ^ n := by rw [← Nat.pow_add, Nat.sub_add_cancel hn]
  rw [e, Nat.mul_mod_mul_right, Nat.mul_div_mul_right _ _ hp]
  have h1 : x / 2 ^ (32 - n) < 2 ^ n := by
    apply Nat.div_lt_of_lt_mul
    rw [← e]; exact h
  have h2 : x % 2 ^ (32 - n) < 2 ^ (32 - n) := Nat.mod_lt _ (Nat.two_pow_pos _)
  calc x % 2 ^ (32 - n) * 2 ^ n + x / 2 ^ (32 - n) < x % 2 ^ (32 - n) * 2 ^ n + 2 ^ n := by omega
    _ = (x % 2 ^ (32 - n) + 1) * 2 ^ n := by rw [Nat.add_mul, Nat.one_mul]
    _ ≤ 2 ^ (32 - n) * 2 ^ n := Nat.mul_le_mul_right _ h2
/-- A state: sixteen numbers of 32 bits. -/
def Ok (s : List Nat) : Prop := s.length = 16 ∧ ∀ x ∈ s, x < 4294967296
theorem Ok.lt {s : List Nat} (h : Ok s) (i : Nat) : nth s i < 4294967296 := nth_lt (by decide) h.2 i
theorem Ok.set {s : List Nat} (h : Ok s) (i : Nat) {x : Nat} (hx : x < 4294967296) : Ok (s.set i x) :=
  ⟨by rw [List.length_set]; exact h.1, fun y hy => by rcases List.mem_or_eq_of_mem_set hy with h1 | rfl; exact h.2 _ h1; exact hx⟩
theorem step_ok {s : List Nat} (h : Ok s) (a b d : Nat) {n : Nat} (hn : n ≤ 32) : Ok (step s a b d n) := by
  have h1 := h.set a (Nat.mod_lt (nth s a + nth s b) (show 0 < 4294967296 by decide))
  exact h1.set d (rotl_lt (Nat.xor_lt_two_pow (n := 32) (h1.lt _) (h1.lt _)) hn)
theorem quarter_ok {s : List Nat} (h : Ok s) (a b c d : Nat) : Ok (quarter s a b c d) :=
  step_ok (step_ok (step_ok (step_ok h _ _ _ (by decide)) _ _ _ (by decide)) _ _ _ (by decide)) _ _ _ (by decide)
theorem round_ok {s : List Nat} (h : Ok s) : Ok (round s) :=
  quarter_ok (quarter_ok (quarter_ok (quarter_ok (quarter_ok (quarter_ok (quarter_ok (quarter_ok h _ _ _ _) _ _ _ _) _ _ _ _) _ _ _ _) _ _ _ _) _ _ _ _) _ _ _ _) _ _ _ _
theorem rounds_ok {s : List Nat} (h : Ok s) : ∀ n, Ok (rounds s n)
  | 0 => h
  | n + 1 => round_ok (rounds_ok h n)
theorem word_lt {b : List Nat} (hb : ∀ x ∈ b, x < 256) (i : Nat) : word b i < 4294967296 := by
  have g : ∀ j, nth b j < 256 := nth_lt (by decide) hb
  have h0 := g i; have h1 := g (i+1); have h2 := g (i+2); have h3 := g (i+3)
  unfold word
  omega
theorem words_length (b : List Nat) (n : Nat) : (words b n).length = n := by simp [words]
theorem words_lt {b : List Nat} (hb : ∀ x ∈ b, x < 256) (n : Nat) : ∀ x ∈ words b n, x < 4294967296 := fun x hx => by
  obtain ⟨i, _, rfl⟩ := List.mem_map.1 hx
  exact word_lt hb _
theorem start_ok {key nonce : List Nat} {c : Nat} (hk : ∀ x ∈ key, x < 256) (hn : ∀ x ∈ nonce, x < 256) (hc : c < 4294967296) : Ok (start key c nonce) := by
  refine ⟨by simp [start, words_length], fun x hx => ?_⟩
  unfold start at hx
  rcases List.mem_append.1 hx with h | h
  · rcases List.mem_append.1 h with h | h
    · rcases List.mem_append.1 h with h | h
      · simp at h; omega
      · exact words_lt hk _ x h
    · simp at h; omega
  · exact words_lt hn _ x h
theorem outTo_succ (s t : List Nat) (k : Nat) : outTo s t (k + 1) = outTo s t k ++ le4 ((nth t k + nth s k) % 4294967296) := by simp [outTo, List.range_succ]
theorem outTo_length (s t : List Nat) : ∀ k, (outTo s t k).length = 4 * k
  | 0 => rfl
  | k + 1 => by rw [outTo_succ, List.length_append, outTo_length s t k]; simp [le4]; omega
theorem le4_lt {x : Nat} (h : x < 4294967296) : ∀ y ∈ le4 x, y < 256 := fun y hy => by
  simp [le4] at hy
  omega
theorem outTo_lt (s t : List Nat) (k : Nat) : ∀ x ∈ outTo s t k, x < 256 := fun x hx => by
  obtain ⟨i, _, h⟩ := List.mem_flatMap.1 hx
  exact le4_lt (Nat.mod_lt _ (by decide)) x h
theorem block_length (s : List Nat) : (block s).length = 64 := outTo_length s _ 16
theorem block_lt (s : List Nat) : ∀ x ∈ block s, x < 256 := outTo_lt s _ 16
theorem byteAt_lt (key : List Nat) (c : Nat) (nonce : List Nat) (i : Nat) : byteAt key c nonce i < 256 := nth_lt (by decide) (block_lt _) _
theorem xorTo_succ (key : List Nat) (c : Nat) (nonce text : List Nat) (n : Nat) : xorTo key c nonce text (n + 1) = xorTo key c nonce text n ++ [nth text n ^^^ byteAt key c nonce n] := by simp [xorTo, List.range_succ]
theorem xorTo_length (key : List Nat) (c : Nat) (nonce text : List Nat) (n : Nat) : (xorTo key c nonce text n).length = n := by simp [xorTo]
theorem xor_length (key : List Nat) (c : Nat) (nonce text : List Nat) : (xor key c nonce text).length = text.length := xorTo_length _ _ _ _ _
theorem xor_nth (key : List Nat) (c : Nat) (nonce text : List Nat) {i : Nat} (h : i < text.length) : nth (xor key c nonce text) i = nth text i ^^^ byteAt key c nonce i := by
  simp [xor, xorTo, nth, h]
theorem xor_lt (key : List Nat) (c : Nat) (nonce : List Nat) {text : List Nat} (ht : ∀ x ∈ text, x < 256) : ∀ x ∈ xor key c nonce text, x < 256 := fun x hx => by
  obtain ⟨i, _, rfl⟩ := List.mem_map.1 hx
  exact Nat.xor_lt_two_pow (n := 8) (nth_lt (by decide) ht _) (byteAt_lt _ _ _ _)
theorem ext_nth {l m : List Nat} (hl : l.length = m.length) (h : ∀ i, i < l.length → nth l i = nth m i) : l = m := by
  apply List.ext_getElem hl
  intro i h1 h2
  have := h i h1
  simpa [nth, h1, h2] using this
/-- Twice it is the text. -/
theorem xor_xor (key : List Nat) (c : Nat) (nonce text : List Nat) : xor key c nonce (xor key c nonce text) = text := by
  apply ext_nth
  · rw [xor_length, xor_length]
  · intro i hi
    rw [xor_length, xor_length] at hi
    rw [xor_nth _ _ _ _ (by rw [xor_length]; exact hi), xor_nth _ _ _ _ hi, Nat.xor_assoc, Nat.xor_self, Nat.xor_zero]
end Ch
end Go.Proofs.YtfjdaafckiefdaaGreatDoor.C3
/- The contracts of the leaves: bits.RotateLeft32, step, quarter, mixed. -/
namespace Go.Proofs.YtfjdaafckiefdaaGreatDoor.C3
open Go.RowKit
theorem rot_value (x n : Nat) (hx : x < 4294967296) (hn : n ≤ 32) :
    bits BinOp.or IntKind.u32 ((x : Int) * 2 ^ n % 4294967296) ((x : Int) / 2 ^ (32 - n)) = (Ch.rotl x n : Int) := by
  have e1 : ((x : Int) * 2 ^ n % 4294967296) = ((x * 2 ^ n % 4294967296 : Nat) : Int) := by simp
  have e2 : ((x : Int) / 2 ^ (32 - n)) = ((x / 2 ^ (32 - n) : Nat) : Int) := by simp
  rw [e1, e2, u32_or_nat _ _ (Nat.mod_lt _ (by decide)) (Nat.lt_of_le_of_lt (Nat.div_le_self _ _) hx)]
  congr 1
  unfold Ch.rotl
  have hp : 0 < 2 ^ n := Nat.two_pow_pos n
  have e : (4294967296 : Nat) = 2 ^ (32 - n) * 2 ^ n := by rw [← Nat.pow_add, Nat.sub_add_cancel hn]
  have h1 : x / 2 ^ (32 - n) < 2 ^ n := by
    apply Nat.div_lt_of_lt_mul
    rw [← e]; exact hx
  rw [e, Nat.mul_mod_mul_right, Nat.mul_div_mul_right _ _ hp, Nat.mul_comm (x % _)]
  exact (Nat.two_pow_add_eq_or_of_lt h1 _).symm
set_option maxHeartbeats 400000 in
theorem rot16 (x : Nat) (w : World) (hx : x < 4294967296) : Calls Tryz.prog 159 #[.int .u32 x, .int .i64 16] w fun e w' => e = .returned (.int .u32 (Ch.rotl x 16 : Nat)) ∧ w' = w := by
  have hs : bits BinOp.and .u64 16 31 = 16 := by decide +kernel
  go_enter Tryz.func159, Tryz.ntmps159
  go_wp2
  go_ret
  exact ⟨ret_int (rot_value x 16 hx (by decide)), rfl⟩
set_option maxHeartbeats 400000 in
theorem rot12 (x : Nat) (w : World) (hx : x < 4294967296) : Calls Tryz.prog 159 #[.int .u32 x, .int .i64 12] w fun e w' => e = .returned (.int .u32 (Ch.rotl x 12 : Nat)) ∧ w' = w := by
  have hs : bits BinOp.and .u64 12 31 = 12 := by decide +kernel
  go_enter Tryz.func159, Tryz.ntmps159
  go_wp2
  go_ret
  exact ⟨ret_int (rot_value x 12 hx (by decide)), rfl⟩
set_option maxHeartbeats 400000 in
theorem rot8 (x : Nat) (w : World) (hx : x < 4294967296) : Calls Tryz.prog 159 #[.int .u32 x, .int .i64 8] w fun e w' => e = .returned (.int .u32 (Ch.rotl x 8 : Nat)) ∧ w' = w := by
  have hs : bits BinOp.and .u64 8 31 = 8 := by decide +kernel
  go_enter Tryz.func159, Tryz.ntmps159
  go_wp2
  go_ret
  exact ⟨ret_int (rot_value x 8 hx (by decide)), rfl⟩
set_option maxHeartbeats 400000 in
theorem rot7 (x : Nat) (w : World) (hx : x < 4294967296) : Calls Tryz.prog 159 #[.int .u32 x, .int .i64 7] w fun e w' => e = .returned (.int .u32 (Ch.rotl x 7 : Nat)) ∧ w' = w := by
  have hs : bits BinOp.and .u64 7 31 = 7 := by decide +kernel
  go_enter Tryz.func159, Tryz.ntmps159
  go_wp2
  go_ret
  exact ⟨ret_int (rot_value x 7 hx (by decide)), rfl⟩
/-- At block g lies a state. -/
def StAt (w : World) (g : Nat) (s : List Nat) : Prop := w.heap[g]? = some (.cells (arr .u32 s) 179 (0, 0))
section
variable {w : World} {g : Nat} {s : List Nat}
theorem StAt.cell (h : StAt w g s) (i : Nat) (hi : i < s.length) : w.cell? ⟨g, i, none⟩ = some (.int .u32 (Sp.nth s i : Nat)) := by
  rw [cell_of_row _ _ _ _ _ _ h]; exact arr_get _ _ _ hi
theorem StAt.may (h : StAt w g s) (i : Nat) : w.frozen? ⟨g, i, none⟩ = false := frozen_of_row _ _ _ _ _ h
theorem StAt.set (h : StAt w g s) (i x : Nat) : StAt (w.setCell ⟨g, i, none⟩ (.int .u32 (x : Nat))) g (s.set i x) := by
  have := heap_setCell_same w g i (arr .u32 s) 179 (.int .u32 (x : Nat)) h
  unfold StAt
  rw [this]
  congr 2
  apply Array.ext'
  simp [arr, ints]
theorem StAt.drewN (h : StAt w g s) (n : Nat) : StAt (w.drewN n) g s := h
end
set_option maxHeartbeats 1000000 in
theorem step16 (s : List Nat) (g a b d : Nat) (w : World) (hs : Ch.Ok s) (hg : StAt w g s) (ha : a < 16) (hb : b < 16) (hd : d < 16) :
    Calls Tryz.prog 160 #[.pointer (some ⟨g, 0, none⟩), .int .i64 a, .int .i64 b, .int .i64 d, .int .i64 16] w fun e w' => e = .returned (.tuple #[]) ∧ StAt w' g (Ch.step s a b d 16) ∧ w.grownBy w' (some g) := by
  have ca := hg.cell a (by rw [hs.1]; exact ha)
  have cb := hg.cell b (by rw [hs.1]; exact hb)
  have fa := hg.may a
  have a0 : (0 : Int) ≤ (a : Int) := by omega
  have b0 : (0 : Int) ≤ (b : Int) := by omega
  have d0 : (0 : Int) ≤ (d : Int) := by omega
  have a1 : (a : Int) < 16 := by omega
  have b1 : (b : Int) < 16 := by omega
  have d1 : (d : Int) < 16 := by omega
  have HX : Hid (((Sp.nth s a : Nat) : Int) + ((Sp.nth s b : Nat) : Int) = ((Sp.nth s a + Sp.nth s b : Nat) : Int)) := by show _ = _; omega
  have hst : StAt ((w.setCell ⟨g, a, none⟩ (.int .u32 (((Sp.nth s a + Sp.nth s b) % 4294967296 : Nat) : Int))).drew) g (s.set a ((Sp.nth s a + Sp.nth s b) % 4294967296)) := hg.set a _
  have hok : Ch.Ok (s.set a ((Sp.nth s a + Sp.nth s b) % 4294967296)) := hs.set a (Nat.mod_lt _ (by decide))
  have HGR : Hid (w.grownBy ((w.setCell ⟨g, a, none⟩ (.int .u32 (((Sp.nth s a + Sp.nth s b) % 4294967296 : Nat) : Int))).drew) (some g)) := grownBy_drewN (grownBy_set (grownBy_refl w _) a _) 1
  have HST : Hid _ := hst
  have HE : Hid (Ch.step s a b d 16 = (s.set a ((Sp.nth s a + Sp.nth s b) % 4294967296)).set d (Ch.rotl (Sp.nth (s.set a ((Sp.nth s a + Sp.nth s b) % 4294967296)) d ^^^ Sp.nth (s.set a ((Sp.nth s a + Sp.nth s b) % 4294967296)) a) 16)) := rfl
  have e0 : (((Sp.nth s a + Sp.nth s b) % 4294967296 : Nat) : Int) = ((Sp.nth s a : Nat) + (Sp.nth s b : Nat) : Int) % 4294967296 := by omega
  rw [e0] at HST HGR
  have HOK : Hid (Ch.Ok (s.set a ((Sp.nth s a + Sp.nth s b) % 4294967296))) := hok
  clear hs hg hst hok e0 HX
  go_enter Tryz.func160, Tryz.ntmps160
  go_wp2
  go_region
  go_wp2
  generalize (w.setCell ⟨g, a, none⟩ (.int .u32 (((Sp.nth s a : Nat) + (Sp.nth s b : Nat) : Int) % 4294967296))).drew = w1 at *
  clear ca cb fa
  generalize s.set a ((Sp.nth s a + Sp.nth s b) % 4294967296) = s1 at *
  have hst1 : StAt w1 g s1 := HST.out
  have cd := hst1.cell d (by rw [HOK.out.1]; exact hd)
  have ca := hst1.cell a (by rw [HOK.out.1]; exact ha)
  have fd := hst1.may d
  have xd : Sp.nth s1 d < 4294967296 := HOK.out.lt d
  have xa : Sp.nth s1 a < 4294967296 := HOK.out.lt a
  have hx := u32_xor_nat _ _ xd xa
  have xx : Sp.nth s1 d ^^^ Sp.nth s1 a < 4294967296 := Nat.xor_lt_two_pow (n := 32) xd xa
  have HN : Hid (StAt (w1.setCell ⟨g, d, none⟩ (.int .u32 ((Ch.rotl (Sp.nth s1 d ^^^ Sp.nth s1 a) 16 : Nat) : Int))) g (Ch.step s a b d 16)) := by
    rw [HE.out]
    exact hst1.set d _
  have HGN : Hid (w.grownBy (w1.setCell ⟨g, d, none⟩ (.int .u32 ((Ch.rotl (Sp.nth s1 d ^^^ Sp.nth s1 a) 16 : Nat) : Int))) (some g)) := grownBy_set HGR.out d _
  clear HE xd xa hst1 HST
  generalize Sp.nth s1 d = xd at *
  generalize Sp.nth s1 a = xa at *
  go_region_with ((go_at_call 159; refine (rot16 _ _ xx).mono ?_; rintro e w' ⟨rfl, rfl⟩))
  all_goals (refine bodyPost_end (results_none rfl _ _ _) rfl ?_; exact ⟨rfl, HN.out, grownBy_drewN HGN.out 1⟩)
set_option maxHeartbeats 1000000 in
theorem step12 (s : List Nat) (g a b d : Nat) (w : World) (hs : Ch.Ok s) (hg : StAt w g s) (ha : a < 16) (hb : b < 16) (hd : d < 16) :
    Calls Tryz.prog 160 #[.pointer (some ⟨g, 0, none⟩), .int .i64 a, .int .i64 b, .int .i64 d, .int .i64 12] w fun e w' => e = .returned (.tuple #[]) ∧ StAt w' g (Ch.step s a b d 12) ∧ w.grownBy w' (some g) := by
  have ca := hg.cell a (by rw [hs.1]; exact ha)
  have cb := hg.cell b (by rw [hs.1]; exact hb)
  have fa := hg.may a
  have a0 : (0 : Int) ≤ (a : Int) := by omega
  have b0 : (0 : Int) ≤ (b : Int) := by omega
  have d0 : (0 : Int) ≤ (d : Int) := by omega
  have a1 : (a : Int) < 16 := by omega
  have b1 : (b : Int) < 16 := by omega
  have d1 : (d : Int) < 16 := by omega
  have HX : Hid (((Sp.nth s a : Nat) : Int) + ((Sp.nth s b : Nat) : Int) = ((Sp.nth s a + Sp.nth s b : Nat) : Int)) := by show _ = _; omega
  have hst : StAt ((w.setCell ⟨g, a, none⟩ (.int .u32 (((Sp.nth s a + Sp.nth s b) % 4294967296 : Nat) : Int))).drew) g (s.set a ((Sp.nth s a + Sp.nth s b) % 4294967296)) := hg.set a _
  have hok : Ch.Ok (s.set a ((Sp.nth s a + Sp.nth s b) % 4294967296)) := hs.set a (Nat.mod_lt _ (by decide))
  have HGR : Hid (w.grownBy ((w.setCell ⟨g, a, none⟩ (.int .u32 (((Sp.nth s a + Sp.nth s b) % 4294967296 : Nat) : Int))).drew) (some g)) := grownBy_drewN (grownBy_set (grownBy_refl w _) a _) 1
  have HST : Hid _ := hst
  have HE : Hid (Ch.step s a b d 12 = (s.set a ((Sp.nth s a + Sp.nth s b) % 4294967296)).set d (Ch.rotl (Sp.nth (s.set a ((Sp.nth s a + Sp.nth s b) % 4294967296)) d ^^^ Sp.nth (s.set a ((Sp.nth s a + Sp.nth s b) % 4294967296)) a) 12)) := rfl
  have e0 : (((Sp.nth s a + Sp.nth s b) % 4294967296 : Nat) : Int) = ((Sp.nth s a : Nat) + (Sp.nth s b : Nat) : Int) % 4294967296 := by omega
  rw [e0] at HST HGR
  have HOK : Hid (Ch.Ok (s.set a ((Sp.nth s a + Sp.nth s b) % 4294967296))) := hok
  clear hs hg hst hok e0 HX
  go_enter Tryz.func160, Tryz.ntmps160
  go_wp2
  go_region
  go_wp2
  generalize (w.setCell ⟨g, a, none⟩ (.int .u32 (((Sp.nth s a : Nat) + (Sp.nth s b : Nat) : Int) % 4294967296))).drew = w1 at *
  clear ca cb fa
  generalize s.set a ((Sp.nth s a + Sp.nth s b) % 4294967296) = s1 at *
  have hst1 : StAt w1 g s1 := HST.out
  have cd := hst1.cell d (by rw [HOK.out.1]; exact hd)
  have ca := hst1.cell a (by rw [HOK.out.1]; exact ha)
  have fd := hst1.may d
  have xd : Sp.nth s1 d < 4294967296 := HOK.out.lt d
  have xa : Sp.nth s1 a < 4294967296 := HOK.out.lt a
  have hx := u32_xor_nat _ _ xd xa
  have xx : Sp.nth s1 d ^^^ Sp.nth s1 a < 4294967296 := Nat.xor_lt_two_pow (n := 32) xd xa
  have HN : Hid (StAt (w1.setCell ⟨g, d, none⟩ (.int .u32 ((Ch.rotl (Sp.nth s1 d ^^^ Sp.nth s1 a) 12 : Nat) : Int))) g (Ch.step s a b d 12)) := by
    rw [HE.out]
    exact hst1.set d _
  have HGN : Hid (w.grownBy (w1.setCell ⟨g, d, none⟩ (.int .u32 ((Ch.rotl (Sp.nth s1 d ^^^ Sp.nth s1 a) 12 : Nat) : Int))) (some g)) := grownBy_set HGR.out d _
  clear HE xd xa hst1 HST
  generalize Sp.nth s1 d = xd at *
  generalize Sp.nth s1 a = xa at *
  go_region_with ((go_at_call 159; refine (rot12 _ _ xx).mono ?_; rintro e w' ⟨rfl, rfl⟩))
  all_goals (refine bodyPost_end (results_none rfl _ _ _) rfl ?_; exact ⟨rfl, HN.out, grownBy_drewN HGN.out 1⟩)
set_option maxHeartbeats 1000000 in
theorem step8 (s : List Nat) (g a b d : Nat) (w : World) (hs : Ch.Ok s) (hg : StAt w g s) (ha : a < 16) (hb : b < 16) (hd : d < 16) :
    Calls Tryz.prog 160 #[.pointer (some ⟨g, 0, none⟩), .int .i64 a, .int .i64 b, .int .i64 d, .int .i64 8] w fun e w' => e = .returned (.tuple #[]) ∧ StAt w' g (Ch.step s a b d 8) ∧ w.grownBy w' (some g) := by
  have ca := hg.cell a (by rw [hs.1]; exact ha)
  have cb := hg.cell b (by rw [hs.1]; exact hb)
  have fa := hg.may a
  have a0 : (0 : Int) ≤ (a : Int) := by omega
  have b0 : (0 : Int) ≤ (b : Int) := by omega
  have d0 : (0 : Int) ≤ (d : Int) := by omega
  have a1 : (a : Int) < 16 := by omega
  have b1 : (b : Int) < 16 := by omega
  have d1 : (d : Int) < 16 := by omega
  have HX : Hid (((Sp.nth s a : Nat) : Int) + ((Sp.nth s b : Nat) : Int) = ((Sp.nth s a + Sp.nth s b : Nat) : Int)) := by show _ = _; omega
  have hst : StAt ((w.setCell ⟨g, a, none⟩ (.int .u32 (((Sp.nth s a + Sp.nth s b) % 4294967296 : Nat) : Int))).drew) g (s.set a ((Sp.nth s a + Sp.nth s b) % 4294967296)) := hg.set a _
  have hok : Ch.Ok (s.set a ((Sp.nth s a + Sp.nth s b) % 4294967296)) := hs.set a (Nat.mod_lt _ (by decide))
  have HGR : Hid (w.grownBy ((w.setCell ⟨g, a, none⟩ (.int .u32 (((Sp.nth s a + Sp.nth s b) % 4294967296 : Nat) : Int))).drew) (some g)) := grownBy_drewN (grownBy_set (grownBy_refl w _) a _) 1
  have HST : Hid _ := hst
  have HE : Hid (Ch.step s a b d 8 = (s.set a ((Sp.nth s a + Sp.nth s b) % 4294967296)).set d (Ch.rotl (Sp.nth (s.set a ((Sp.nth s a + Sp.nth s b) % 4294967296)) d ^^^ Sp.nth (s.set a ((Sp.nth s a + Sp.nth s b) % 4294967296)) a) 8)) := rfl
  have e0 : (((Sp.nth s a + Sp.nth s b) % 4294967296 : Nat) : Int) = ((Sp.nth s a : Nat) + (Sp.nth s b : Nat) : Int) % 4294967296 := by omega
  rw [e0] at HST HGR
  have HOK : Hid (Ch.Ok (s.set a ((Sp.nth s a + Sp.nth s b) % 4294967296))) := hok
  clear hs hg hst hok e0 HX
  go_enter Tryz.func160, Tryz.ntmps160
  go_wp2
  go_region
  go_wp2
  generalize (w.setCell ⟨g, a, none⟩ (.int .u32 (((Sp.nth s a : Nat) + (Sp.nth s b : Nat) : Int) % 4294967296))).drew = w1 at *
  clear ca cb fa
  generalize s.set a ((Sp.nth s a + Sp.nth s b) % 4294967296) = s1 at *
  have hst1 : StAt w1 g s1 := HST.out
  have cd := hst1.cell d (by rw [HOK.out.1]; exact hd)
  have ca := hst1.cell a (by rw [HOK.out.1]; exact ha)
  have fd := hst1.may d
  have xd : Sp.nth s1 d < 4294967296 := HOK.out.lt d
  have xa : Sp.nth s1 a < 4294967296 := HOK.out.lt a
  have hx := u32_xor_nat _ _ xd xa
  have xx : Sp.nth s1 d ^^^ Sp.nth s1 a < 4294967296 := Nat.xor_lt_two_pow (n := 32) xd xa
  have HN : Hid (StAt (w1.setCell ⟨g, d, none⟩ (.int .u32 ((Ch.rotl (Sp.nth s1 d ^^^ Sp.nth s1 a) 8 : Nat) : Int))) g (Ch.step s a b d 8)) := by
    rw [HE.out]
    exact hst1.set d _
  have HGN : Hid (w.grownBy (w1.setCell ⟨g, d, none⟩ (.int .u32 ((Ch.rotl (Sp.nth s1 d ^^^ Sp.nth s1 a) 8 : Nat) : Int))) (some g)) := grownBy_set HGR.out d _
  clear HE xd xa hst1 HST
  generalize Sp.nth s1 d = xd at *
  generalize Sp.nth s1 a = xa at *
  go_region_with ((go_at_call 159; refine (rot8 _ _ xx).mono ?_; rintro e w' ⟨rfl, rfl⟩))
  all_goals (refine bodyPost_end (results_none rfl _ _ _) rfl ?_; exact ⟨rfl, HN.out, grownBy_drewN HGN.out 1⟩)
set_option maxHeartbeats 1000000 in
theorem step7 (s : List Nat) (g a b d : Nat) (w : World) (hs : Ch.Ok s) (hg : StAt w g s) (ha : a < 16) (hb : b < 16) (hd : d < 16) :
    Calls Tryz.prog 160 #[.pointer (some ⟨g, 0, none⟩), .int .i64 a, .int .i64 b, .int .i64 d, .int .i64 7] w fun e w' => e = .returned (.tuple #[]) ∧ StAt w' g (Ch.step s a b d 7) ∧ w.grownBy w' (some g) := by
  have ca := hg.cell a (by rw [hs.1]; exact ha)
  have cb := hg.cell b (by rw [hs.1]; exact hb)
  have fa := hg.may a
  have a0 : (0 : Int) ≤ (a : Int) := by omega
  have b0 : (0 : Int) ≤ (b : Int) := by omega
  have d0 : (0 : Int) ≤ (d : Int) := by omega
  have a1 : (a : Int) < 16 := by omega
  have b1 : (b : Int) < 16 := by omega
  have d1 : (d : Int) < 16 := by omega
  have HX : Hid (((Sp.nth s a : Nat) : Int) + ((Sp.nth s b : Nat) : Int) = ((Sp.nth s a + Sp.nth s b : Nat) : Int)) := by show _ = _; omega
  have hst : StAt ((w.setCell ⟨g, a, none⟩ (.int .u32 (((Sp.nth s a + Sp.nth s b) % 4294967296 : Nat) : Int))).drew) g (s.set a ((Sp.nth s a + Sp.nth s b) % 4294967296)) := hg.set a _
  have hok : Ch.Ok (s.set a ((Sp.nth s a + Sp.nth s b) % 4294967296)) := hs.set a (Nat.mod_lt _ (by decide))
  have HGR : Hid (w.grownBy ((w.setCell ⟨g, a, none⟩ (.int .u32 (((Sp.nth s a + Sp.nth s b) % 4294967296 : Nat) : Int))).drew) (some g)) := grownBy_drewN (grownBy_set (grownBy_refl w _) a _) 1
  have HST : Hid _ := hst
  have HE : Hid (Ch.step s a b d 7 = (s.set a ((Sp.nth s a + Sp.nth s b) % 4294967296)).set d (Ch.rotl (Sp.nth (s.set a ((Sp.nth s a + Sp.nth s b) % 4294967296)) d ^^^ Sp.nth (s.set a ((Sp.nth s a + Sp.nth s b) % 4294967296)) a) 7)) := rfl
  have e0 : (((Sp.nth s a + Sp.nth s b) % 4294967296 : Nat) : Int) = ((Sp.nth s a : Nat) + (Sp.nth s b : Nat) : Int) % 4294967296 := by omega
  rw [e0] at HST HGR
  have HOK : Hid (Ch.Ok (s.set a ((Sp.nth s a + Sp.nth s b) % 4294967296))) := hok
  clear hs hg hst hok e0 HX
  go_enter Tryz.func160, Tryz.ntmps160
  go_wp2
  go_region
  go_wp2
  generalize (w.setCell ⟨g, a, none⟩ (.int .u32 (((Sp.nth s a : Nat) + (Sp.nth s b : Nat) : Int) % 4294967296))).drew = w1 at *
  clear ca cb fa
  generalize s.set a ((Sp.nth s a + Sp.nth s b) % 4294967296) = s1 at *
  have hst1 : StAt w1 g s1 := HST.out
  have cd := hst1.cell d (by rw [HOK.out.1]; exact hd)
  have ca := hst1.cell a (by rw [HOK.out.1]; exact ha)
  have fd := hst1.may d
  have xd : Sp.nth s1 d < 4294967296 := HOK.out.lt d
  have xa : Sp.nth s1 a < 4294967296 := HOK.out.lt a
  have hx := u32_xor_nat _ _ xd xa
  have xx : Sp.nth s1 d ^^^ Sp.nth s1 a < 4294967296 := Nat.xor_lt_two_pow (n := 32) xd xa
  have HN : Hid (StAt (w1.setCell ⟨g, d, none⟩ (.int .u32 ((Ch.rotl (Sp.nth s1 d ^^^ Sp.nth s1 a) 7 : Nat) : Int))) g (Ch.step s a b d 7)) := by
    rw [HE.out]
    exact hst1.set d _
  have HGN : Hid (w.grownBy (w1.setCell ⟨g, d, none⟩ (.int .u32 ((Ch.rotl (Sp.nth s1 d ^^^ Sp.nth s1 a) 7 : Nat) : Int))) (some g)) := grownBy_set HGR.out d _
  clear HE xd xa hst1 HST
  generalize Sp.nth s1 d = xd at *
  generalize Sp.nth s1 a = xa at *
  go_region_with ((go_at_call 159; refine (rot7 _ _ xx).mono ?_; rintro e w' ⟨rfl, rfl⟩))
  all_goals (refine bodyPost_end (results_none rfl _ _ _) rfl ?_; exact ⟨rfl, HN.out, grownBy_drewN HGN.out 1⟩)
end Go.Proofs.YtfjdaafckiefdaaGreatDoor.C3
/- The contracts of quarter and mixed. -/
namespace Go.Proofs.YtfjdaafckiefdaaGreatDoor.C3
open Go.RowKit
set_option maxHeartbeats 1000000 in
theorem quarter_any (s : List Nat) (g a b c d : Nat) (w : World) (hs : Ch.Ok s) (hg : StAt w g s) (ha : a < 16) (hb : b < 16) (hc : c < 16) (hd : d < 16) :
    Calls Tryz.prog 157 #[.pointer (some ⟨g, 0, none⟩), .int .i64 a, .int .i64 b, .int .i64 c, .int .i64 d] w fun e w' => e = .returned (.tuple #[]) ∧ StAt w' g (Ch.quarter s a b c d) ∧ w.grownBy w' (some g) := by
  have HS : Hid (Ch.Ok s) := hs
  have HG : Hid (StAt w g s) := hg
  clear hs hg
  go_enter Tryz.func157, Tryz.ntmps157
  go_wp2_with fail
  refine (step16 s g a b d w HS.out HG.out ha hb hd).mono ?_
  rintro e w1 ⟨rfl, h1, g1⟩
  have H1 : Hid (StAt w1 g (Ch.step s a b d 16)) := h1
  have G1 : Hid (w.grownBy w1 (some g)) := g1
  clear h1 g1
  go_wp2_with fail
  refine (step12 _ g c d b w1 (Ch.step_ok HS.out _ _ _ (by decide)) H1.out hc hd hb).mono ?_
  rintro e w2 ⟨rfl, h1, g1⟩
  have H2 : Hid (StAt w2 g (Ch.step (Ch.step s a b d 16) c d b 12)) := h1
  have G2 : Hid (w.grownBy w2 (some g)) := grownBy_trans G1.out g1
  clear h1 g1 G1 H1
  go_wp2_with fail
  refine (step8 _ g a b d w2 (Ch.step_ok (Ch.step_ok HS.out _ _ _ (by decide)) _ _ _ (by decide)) H2.out ha hb hd).mono ?_
  rintro e w3 ⟨rfl, h1, g1⟩
  have H3 : Hid (StAt w3 g (Ch.step (Ch.step (Ch.step s a b d 16) c d b 12) a b d 8)) := h1
  have G3 : Hid (w.grownBy w3 (some g)) := grownBy_trans G2.out g1
  clear h1 g1 G2 H2
  go_wp2_with fail
  refine (step7 _ g c d b w3 (Ch.step_ok (Ch.step_ok (Ch.step_ok HS.out _ _ _ (by decide)) _ _ _ (by decide)) _ _ _ (by decide)) H3.out hc hd hb).mono ?_
  rintro e w4 ⟨rfl, h1, g1⟩
  have H4 : Hid (StAt w4 g (Ch.quarter s a b c d)) := h1
  have G4 : Hid (w.grownBy w4 (some g)) := grownBy_trans G3.out g1
  clear h1 g1 G3 H3
  go_wp2_with fail
  go_end0
  exact ⟨rfl, H4.out, G4.out⟩
theorem q_0_4 (s : List Nat) (g : Nat) (w : World) (hs : Ch.Ok s) (hg : StAt w g s) :
    Calls Tryz.prog 157 #[.pointer (some ⟨g, 0, none⟩), .int .i64 0, .int .i64 4, .int .i64 8, .int .i64 12] w fun e w' => e = .returned (.tuple #[]) ∧ StAt w' g (Ch.quarter s 0 4 8 12) ∧ w.grownBy w' (some g) :=
  quarter_any s g 0 4 8 12 w hs hg (by decide) (by decide) (by decide) (by decide)
theorem q_1_5 (s : List Nat) (g : Nat) (w : World) (hs : Ch.Ok s) (hg : StAt w g s) :
    Calls Tryz.prog 157 #[.pointer (some ⟨g, 0, none⟩), .int .i64 1, .int .i64 5, .int .i64 9, .int .i64 13] w fun e w' => e = .returned (.tuple #[]) ∧ StAt w' g (Ch.quarter s 1 5 9 13) ∧ w.grownBy w' (some g) :=
  quarter_any s g 1 5 9 13 w hs hg (by decide) (by decide) (by decide) (by decide)
theorem q_2_6 (s : List Nat) (g : Nat) (w : World) (hs : Ch.Ok s) (hg : StAt w g s) :
    Calls Tryz.prog 157 #[.pointer (some ⟨g, 0, none⟩), .int .i64 2, .int .i64 6, .int .i64 10, .int .i64 14] w fun e w' => e = .returned (.tuple #[]) ∧ StAt w' g (Ch.quarter s 2 6 10 14) ∧ w.grownBy w' (some g) :=
  quarter_any s g 2 6 10 14 w hs hg (by decide) (by decide) (by decide) (by decide)
theorem q_3_7 (s : List Nat) (g : Nat) (w : World) (hs : Ch.Ok s) (hg : StAt w g s) :
    Calls Tryz.prog 157 #[.pointer (some ⟨g, 0, none⟩), .int .i64 3, .int .i64 7, .int .i64 11, .int .i64 15] w fun e w' => e = .returned (.tuple #[]) ∧ StAt w' g (Ch.quarter s 3 7 11 15) ∧ w.grownBy w' (some g) :=
  quarter_any s g 3 7 11 15 w hs hg (by decide) (by decide) (by decide) (by decide)
theorem q_0_5 (s : List Nat) (g : Nat) (w : World) (hs : Ch.Ok s) (hg : StAt w g s) :
    Calls Tryz.prog 157 #[.pointer (some ⟨g, 0, none⟩), .int .i64 0, .int .i64 5, .int .i64 10, .int .i64 15] w fun e w' => e = .returned (.tuple #[]) ∧ StAt w' g (Ch.quarter s 0 5 10 15) ∧ w.grownBy w' (some g) :=
  quarter_any s g 0 5 10 15 w hs hg (by decide) (by decide) (by decide) (by decide)
theorem q_1_6 (s : List Nat) (g : Nat) (w : World) (hs : Ch.Ok s) (hg : StAt w g s) :
    Calls Tryz.prog 157 #[.pointer (some ⟨g, 0, none⟩), .int .i64 1, .int .i64 6, .int .i64 11, .int .i64 12] w fun e w' => e = .returned (.tuple #[]) ∧ StAt w' g (Ch.quarter s 1 6 11 12) ∧ w.grownBy w' (some g) :=
  quarter_any s g 1 6 11 12 w hs hg (by decide) (by decide) (by decide) (by decide)
theorem q_2_7 (s : List Nat) (g : Nat) (w : World) (hs : Ch.Ok s) (hg : StAt w g s) :
    Calls Tryz.prog 157 #[.pointer (some ⟨g, 0, none⟩), .int .i64 2, .int .i64 7, .int .i64 8, .int .i64 13] w fun e w' => e = .returned (.tuple #[]) ∧ StAt w' g (Ch.quarter s 2 7 8 13) ∧ w.grownBy w' (some g) :=
  quarter_any s g 2 7 8 13 w hs hg (by decide) (by decide) (by decide) (by decide)
theorem q_3_4 (s : List Nat) (g : Nat) (w : World) (hs : Ch.Ok s) (hg : StAt w g s) :
    Calls Tryz.prog 157 #[.pointer (some ⟨g, 0, none⟩), .int .i64 3, .int .i64 4, .int .i64 9, .int .i64 14] w fun e w' => e = .returned (.tuple #[]) ∧ StAt w' g (Ch.quarter s 3 4 9 14) ∧ w.grownBy w' (some g) :=
  quarter_any s g 3 4 9 14 w hs hg (by decide) (by decide) (by decide) (by decide)
end Go.Proofs.YtfjdaafckiefdaaGreatDoor.C3
/- The contract of mixed: ten rounds, by goto. -/
namespace Go.Proofs.YtfjdaafckiefdaaGreatDoor.C3
open Go.RowKit
def zeros16 : Array Value := arr .u32 (List.replicate 16 0)
def mixW (w : World) (s : List Nat) : World := (w.alloc (Obj.cells (arr .u32 s) 179)).alloc (Obj.cells zeros16 179)
theorem mixW_0 (w : World) (s : List Nat) : StAt (mixW w s) w.heap.size s := by
  show ((w.heap.push _).push _)[_]? = _
  rw [Array.getElem?_push_lt (by simp), Array.getElem_push_eq]
theorem mixW_1 (w : World) (s : List Nat) : (mixW w s).heap[w.heap.size + 1]? = some (Obj.cells zeros16 179) := by
  show ((w.heap.push _).push _)[_]? = _
  rw [Array.getElem?_push, if_pos (by simp)]
theorem mixW_below (w : World) (s : List Nat) : Below w.heap.size w (mixW w s) := ((Below.refl _ _).alloc (Nat.le_refl _) _).alloc (by simp) _
theorem mixW_size (w : World) (s : List Nat) : (mixW w s).heap.size = w.heap.size + 2 := by simp [mixW]
theorem info41 : (Tryz.prog.info? 179).map (·.size) = some 16 := by kernel_rfl
theorem under41 : Tryz.prog.underlying 179 = some (.array 16 158) := by kernel_rfl
/-- Behind some rounds: the state at its block, all else as it was. -/
structure MixAtR (w : World) (s r : List Nat) (w' : World) : Prop where
  st : StAt w' w.heap.size r
  gr : World.grownBy (mixW w s) w' (some w.heap.size)
theorem MixAtR.below {w w' : World} {s r : List Nat} (h : MixAtR w s r w') : Below w.heap.size w w' := by
  have hb := mixW_below w s
  refine ⟨h.gr.os.trans hb.os, h.gr.tape.trans hb.tape, h.gr.output.trans hb.output, Nat.le_trans hb.size h.gr.size, fun k hk => ?_⟩
  rw [h.gr.block k (by rw [mixW_size]; omega) (by simp; omega)]
  exact hb.block k hk
theorem MixAtR.there {w w' : World} {s r : List Nat} (h : MixAtR w s r w') : w'.there (w.heap.size + 1) 0 16 := by
  have e := h.gr.block (w.heap.size + 1) (by rw [mixW_size]; omega) (by simp)
  exact there_of_row (e.trans (mixW_1 w s)) 16 (by simp [zeros16, arr_size])
def MixAt (w : World) (s : List Nat) (t : Nat) (w' : World) : Prop := MixAtR w s (Ch.rounds s t) w'
theorem MixAt.step {w w1 w' : World} {s : List Nat} {t : Nat} (h : MixAt w s t w1) (h1 : StAt w' w.heap.size (Ch.round (Ch.rounds s t))) (h2 : World.grownBy w1 w' (some w.heap.size)) : MixAt w s (t + 1) w' := ⟨h1, grownBy_trans h.gr h2⟩
def mixJ (w : World) (s : List Nat) (a' : Act) (w' : World) : Prop :=
  ∃ (t n : Nat) (l : List Value), t + n = 10 ∧ 0 < n ∧ MixAt w s t w' ∧ l.length = 13 ∧ a' = { tmps := (.agg (arr .u32 s) :: .pointer (some ⟨w.heap.size, 0, none⟩) :: .pointer (some ⟨w.heap.size + 1, 0, none⟩) :: .int .i64 n :: l).toArray, defers := [] }
theorem cons_of {n : Nat} : ∀ (l : List Value), l.length = n + 1 → ∃ x l', l = x :: l' ∧ l'.length = n
  | x :: l', h => ⟨x, l', rfl, by simpa using h⟩
def mixMu (a' : Act) (_ : World) : Nat := (intOf (a'.tmps.getD 3 undef)).toNat
theorem zeros16_eq : #[Value.int IntKind.u32 0, Value.int IntKind.u32 0, Value.int IntKind.u32 0, Value.int IntKind.u32 0, Value.int IntKind.u32 0, Value.int IntKind.u32 0, Value.int IntKind.u32 0, Value.int IntKind.u32 0, Value.int IntKind.u32 0, Value.int IntKind.u32 0, Value.int IntKind.u32 0, Value.int IntKind.u32 0, Value.int IntKind.u32 0, Value.int IntKind.u32 0, Value.int IntKind.u32 0, Value.int IntKind.u32 0] = zeros16 := rfl
set_option maxHeartbeats 1000000 in
theorem mixed_any (s : List Nat) (w : World) (hs : Ch.Ok s) :
    Calls Tryz.prog 144 #[.agg (arr .u32 s)] w fun e w' => e = .returned (.agg (arr .u32 (Ch.rounds s 10))) ∧ Below w.heap.size w w' := by
  have HS : Hid (Ch.Ok s) := hs
  obtain ⟨R, hR⟩ : ∃ R, Ch.rounds s 10 = R := ⟨_, rfl⟩
  rw [hR]
  have HRR : Hid ((∀ w8, MixAt w s 10 w8 → MixAtR w s R w8) ∧ R.length = 16) := ⟨fun w8 h => hR ▸ h, by rw [← hR]; exact (Ch.rounds_ok hs 10).1⟩
  clear hs hR
  go_enter Tryz.func144, Tryz.ntmps144
  go_wp2_with fail
  rw [zeros16_eq]
  rw [show (w.alloc (Obj.cells (arr .u32 s) 179)).alloc (Obj.cells zeros16 179) = mixW w s from rfl]
  refine wp_scope_jumps 0 (mixJ w s) mixMu rfl ?_ ?_
  · have H0 : Hid (StAt (mixW w s) w.heap.size s) := mixW_0 w s
    generalize hW0 : mixW w s = W0 at *
    go_wp2_with fail
    go_step3
    go_wp2_with fail
    refine (q_0_4 s w.heap.size _ HS.out H0.out).mono ?_
    rintro e w1 ⟨rfl, h1, g1⟩
    have H1 : Hid (StAt w1 w.heap.size (Ch.quarter s 0 4 8 12)) := h1
    have G1 : Hid (World.grownBy W0 w1 (some w.heap.size)) := g1
    clear h1 g1
    go_wp2_with fail
    refine (q_1_5 (Ch.quarter s 0 4 8 12) w.heap.size _ (Ch.quarter_ok HS.out 0 4 8 12) H1.out).mono ?_
    rintro e w2 ⟨rfl, h1, g1⟩
    have H2 : Hid (StAt w2 w.heap.size (Ch.quarter (Ch.quarter s 0 4 8 12) 1 5 9 13)) := h1
    have G2 : Hid (World.grownBy W0 w2 (some w.heap.size)) := grownBy_trans G1.out g1
    clear h1 g1 H1 G1
    go_wp2_with fail
    refine (q_2_6 (Ch.quarter (Ch.quarter s 0 4 8 12) 1 5 9 13) w.heap.size _ (Ch.quarter_ok (Ch.quarter_ok HS.out 0 4 8 12) 1 5 9 13) H2.out).mono ?_
    rintro e w3 ⟨rfl, h1, g1⟩
    have H3 : Hid (StAt w3 w.heap.size (Ch.quarter (Ch.quarter (Ch.quarter s 0 4 8 12) 1 5 9 13) 2 6 10 14)) := h1
    have G3 : Hid (World.grownBy W0 w3 (some w.heap.size)) := grownBy_trans G2.out g1
    clear h1 g1 H2 G2
    go_wp2_with fail
    refine (q_3_7 (Ch.quarter (Ch.quarter (Ch.quarter s 0 4 8 12) 1 5 9 13) 2 6 10 14) w.heap.size _ (Ch.quarter_ok (Ch.quarter_ok (Ch.quarter_ok HS.out 0 4 8 12) 1 5 9 13) 2 6 10 14) H3.out).mono ?_
    rintro e w4 ⟨rfl, h1, g1⟩
    have H4 : Hid (StAt w4 w.heap.size (Ch.quarter (Ch.quarter (Ch.quarter (Ch.quarter s 0 4 8 12) 1 5 9 13) 2 6 10 14) 3 7 11 15)) := h1
    have G4 : Hid (World.grownBy W0 w4 (some w.heap.size)) := grownBy_trans G3.out g1
    clear h1 g1 H3 G3
    go_wp2_with fail
    refine (q_0_5 (Ch.quarter (Ch.quarter (Ch.quarter (Ch.quarter s 0 4 8 12) 1 5 9 13) 2 6 10 14) 3 7 11 15) w.heap.size _ (Ch.quarter_ok (Ch.quarter_ok (Ch.quarter_ok (Ch.quarter_ok HS.out 0 4 8 12) 1 5 9 13) 2 6 10 14) 3 7 11 15) H4.out).mono ?_
    rintro e w5 ⟨rfl, h1, g1⟩
    have H5 : Hid (StAt w5 w.heap.size (Ch.quarter (Ch.quarter (Ch.quarter (Ch.quarter (Ch.quarter s 0 4 8 12) 1 5 9 13) 2 6 10 14) 3 7 11 15) 0 5 10 15)) := h1
    have G5 : Hid (World.grownBy W0 w5 (some w.heap.size)) := grownBy_trans G4.out g1
    clear h1 g1 H4 G4
    go_wp2_with fail
    refine (q_1_6 (Ch.quarter (Ch.quarter (Ch.quarter (Ch.quarter (Ch.quarter s 0 4 8 12) 1 5 9 13) 2 6 10 14) 3 7 11 15) 0 5 10 15) w.heap.size _ (Ch.quarter_ok (Ch.quarter_ok (Ch.quarter_ok (Ch.quarter_ok (Ch.quarter_ok HS.out 0 4 8 12) 1 5 9 13) 2 6 10 14) 3 7 11 15) 0 5 10 15) H5.out).mono ?_
    rintro e w6 ⟨rfl, h1, g1⟩
    have H6 : Hid (StAt w6 w.heap.size (Ch.quarter (Ch.quarter (Ch.quarter (Ch.quarter (Ch.quarter (Ch.quarter s 0 4 8 12) 1 5 9 13) 2 6 10 14) 3 7 11 15) 0 5 10 15) 1 6 11 12)) := h1
    have G6 : Hid (World.grownBy W0 w6 (some w.heap.size)) := grownBy_trans G5.out g1
    clear h1 g1 H5 G5
    go_wp2_with fail
    refine (q_2_7 (Ch.quarter (Ch.quarter (Ch.quarter (Ch.quarter (Ch.quarter (Ch.quarter s 0 4 8 12) 1 5 9 13) 2 6 10 14) 3 7 11 15) 0 5 10 15) 1 6 11 12) w.heap.size _ (Ch.quarter_ok (Ch.quarter_ok (Ch.quarter_ok (Ch.quarter_ok (Ch.quarter_ok (Ch.quarter_ok HS.out 0 4 8 12) 1 5 9 13) 2 6 10 14) 3 7 11 15) 0 5 10 15) 1 6 11 12) H6.out).mono ?_
    rintro e w7 ⟨rfl, h1, g1⟩
    have H7 : Hid (StAt w7 w.heap.size (Ch.quarter (Ch.quarter (Ch.quarter (Ch.quarter (Ch.quarter (Ch.quarter (Ch.quarter s 0 4 8 12) 1 5 9 13) 2 6 10 14) 3 7 11 15) 0 5 10 15) 1 6 11 12) 2 7 8 13)) := h1
    have G7 : Hid (World.grownBy W0 w7 (some w.heap.size)) := grownBy_trans G6.out g1
    clear h1 g1 H6 G6
    go_wp2_with fail
    refine (q_3_4 (Ch.quarter (Ch.quarter (Ch.quarter (Ch.quarter (Ch.quarter (Ch.quarter (Ch.quarter s 0 4 8 12) 1 5 9 13) 2 6 10 14) 3 7 11 15) 0 5 10 15) 1 6 11 12) 2 7 8 13) w.heap.size _ (Ch.quarter_ok (Ch.quarter_ok (Ch.quarter_ok (Ch.quarter_ok (Ch.quarter_ok (Ch.quarter_ok (Ch.quarter_ok HS.out 0 4 8 12) 1 5 9 13) 2 6 10 14) 3 7 11 15) 0 5 10 15) 1 6 11 12) 2 7 8 13) H7.out).mono ?_
    rintro e w8 ⟨rfl, h1, g1⟩
    have H8 : Hid (StAt w8 w.heap.size (Ch.quarter (Ch.quarter (Ch.quarter (Ch.quarter (Ch.quarter (Ch.quarter (Ch.quarter (Ch.quarter s 0 4 8 12) 1 5 9 13) 2 6 10 14) 3 7 11 15) 0 5 10 15) 1 6 11 12) 2 7 8 13) 3 4 9 14)) := h1
    have G8 : Hid (World.grownBy W0 w8 (some w.heap.size)) := grownBy_trans G7.out g1
    clear h1 g1 H7 G7
    clear H0
    go_wp2_with fail
    go_step3
    refine ⟨rfl, 1, 9, _, by decide, by decide, ⟨H8.out, by rw [hW0]; exact G8.out⟩, ?_, rfl⟩
    rfl
  · rintro a' w' ⟨t, n, l, htn, hn, hm, hll, rfl⟩
    obtain ⟨u4, l4, rfl, h4⟩ := cons_of l hll; clear hll
    obtain ⟨u5, l5, rfl, h5⟩ := cons_of l4 h4; clear h4
    obtain ⟨u6, l6, rfl, h6⟩ := cons_of l5 h5; clear h5
    obtain ⟨u7, l7, rfl, h7⟩ := cons_of l6 h6; clear h6
    obtain ⟨u8, l8, rfl, h8⟩ := cons_of l7 h7; clear h7
    obtain ⟨u9, l9, rfl, h9⟩ := cons_of l8 h8; clear h8
    obtain ⟨u10, l10, rfl, h10⟩ := cons_of l9 h9; clear h9
    obtain ⟨u11, l11, rfl, h11⟩ := cons_of l10 h10; clear h10
    obtain ⟨u12, l12, rfl, h12⟩ := cons_of l11 h11; clear h11
    obtain ⟨u13, l13, rfl, h13⟩ := cons_of l12 h12; clear h12
    obtain ⟨u14, l14, rfl, h14⟩ := cons_of l13 h13; clear h13
    obtain ⟨u15, l15, rfl, h15⟩ := cons_of l14 h14; clear h14
    obtain ⟨u16, l16, rfl, h16⟩ := cons_of l15 h15; clear h15
    obtain rfl := List.eq_nil_of_length_eq_zero h16; clear h16
    have HP : Hid (∀ w8, StAt w8 w.heap.size (Ch.round (Ch.rounds s t)) → World.grownBy w' w8 (some w.heap.size) → MixAt w s (t + 1) w8) := fun _ => hm.step
    have HO : Hid (Ch.Ok (Ch.rounds s t)) := Ch.rounds_ok HS.out t
    have H0 : Hid (StAt w' w.heap.size (Ch.rounds s t)) := hm.st
    clear hm
    generalize hr : Ch.rounds s t = r at *
    clear hr
    have HTN : Hid (t + n = 10) := htn
    have n1 : (1 : Int) ≤ (n : Int) := by omega
    have n2 : (n : Int) ≤ 10 := by omega
    clear htn
    by_cases hlast : 1 < n
    · have t1 : (0 : Int) < (n : Int) - 1 := by omega
      go_wp2_with fail
      refine (q_0_4 r w.heap.size _ HO.out H0.out).mono ?_
      rintro e w1 ⟨rfl, h1, g1⟩
      have H1 : Hid (StAt w1 w.heap.size (Ch.quarter r 0 4 8 12)) := h1
      have G1 : Hid (World.grownBy w' w1 (some w.heap.size)) := g1
      clear h1 g1
      go_wp2_with fail
      refine (q_1_5 (Ch.quarter r 0 4 8 12) w.heap.size _ (Ch.quarter_ok HO.out 0 4 8 12) H1.out).mono ?_
      rintro e w2 ⟨rfl, h1, g1⟩
      have H2 : Hid (StAt w2 w.heap.size (Ch.quarter (Ch.quarter r 0 4 8 12) 1 5 9 13)) := h1
      have G2 : Hid (World.grownBy w' w2 (some w.heap.size)) := grownBy_trans G1.out g1
      clear h1 g1 H1 G1
      go_wp2_with fail
      refine (q_2_6 (Ch.quarter (Ch.quarter r 0 4 8 12) 1 5 9 13) w.heap.size _ (Ch.quarter_ok (Ch.quarter_ok HO.out 0 4 8 12) 1 5 9 13) H2.out).mono ?_
      rintro e w3 ⟨rfl, h1, g1⟩
      have H3 : Hid (StAt w3 w.heap.size (Ch.quarter (Ch.quarter (Ch.quarter r 0 4 8 12) 1 5 9 13) 2 6 10 14)) := h1
      have G3 : Hid (World.grownBy w' w3 (some w.heap.size)) := grownBy_trans G2.out g1
      clear h1 g1 H2 G2
      go_wp2_with fail
      refine (q_3_7 (Ch.quarter (Ch.quarter (Ch.quarter r 0 4 8 12) 1 5 9 13) 2 6 10 14) w.heap.size _ (Ch.quarter_ok (Ch.quarter_ok (Ch.quarter_ok HO.out 0 4 8 12) 1 5 9 13) 2 6 10 14) H3.out).mono ?_
      rintro e w4 ⟨rfl, h1, g1⟩
      have H4 : Hid (StAt w4 w.heap.size (Ch.quarter (Ch.quarter (Ch.quarter (Ch.quarter r 0 4 8 12) 1 5 9 13) 2 6 10 14) 3 7 11 15)) := h1
      have G4 : Hid (World.grownBy w' w4 (some w.heap.size)) := grownBy_trans G3.out g1
      clear h1 g1 H3 G3
      go_wp2_with fail
      refine (q_0_5 (Ch.quarter (Ch.quarter (Ch.quarter (Ch.quarter r 0 4 8 12) 1 5 9 13) 2 6 10 14) 3 7 11 15) w.heap.size _ (Ch.quarter_ok (Ch.quarter_ok (Ch.quarter_ok (Ch.quarter_ok HO.out 0 4 8 12) 1 5 9 13) 2 6 10 14) 3 7 11 15) H4.out).mono ?_
      rintro e w5 ⟨rfl, h1, g1⟩
      have H5 : Hid (StAt w5 w.heap.size (Ch.quarter (Ch.quarter (Ch.quarter (Ch.quarter (Ch.quarter r 0 4 8 12) 1 5 9 13) 2 6 10 14) 3 7 11 15) 0 5 10 15)) := h1
      have G5 : Hid (World.grownBy w' w5 (some w.heap.size)) := grownBy_trans G4.out g1
      clear h1 g1 H4 G4
      go_wp2_with fail
      refine (q_1_6 (Ch.quarter (Ch.quarter (Ch.quarter (Ch.quarter (Ch.quarter r 0 4 8 12) 1 5 9 13) 2 6 10 14) 3 7 11 15) 0 5 10 15) w.heap.size _ (Ch.quarter_ok (Ch.quarter_ok (Ch.quarter_ok (Ch.quarter_ok (Ch.quarter_ok HO.out 0 4 8 12) 1 5 9 13) 2 6 10 14) 3 7 11 15) 0 5 10 15) H5.out).mono ?_
      rintro e w6 ⟨rfl, h1, g1⟩
      have H6 : Hid (StAt w6 w.heap.size (Ch.quarter (Ch.quarter (Ch.quarter (Ch.quarter (Ch.quarter (Ch.quarter r 0 4 8 12) 1 5 9 13) 2 6 10 14) 3 7 11 15) 0 5 10 15) 1 6 11 12)) := h1
      have G6 : Hid (World.grownBy w' w6 (some w.heap.size)) := grownBy_trans G5.out g1
      clear h1 g1 H5 G5
      go_wp2_with fail
      refine (q_2_7 (Ch.quarter (Ch.quarter (Ch.quarter (Ch.quarter (Ch.quarter (Ch.quarter r 0 4 8 12) 1 5 9 13) 2 6 10 14) 3 7 11 15) 0 5 10 15) 1 6 11 12) w.heap.size _ (Ch.quarter_ok (Ch.quarter_ok (Ch.quarter_ok (Ch.quarter_ok (Ch.quarter_ok (Ch.quarter_ok HO.out 0 4 8 12) 1 5 9 13) 2 6 10 14) 3 7 11 15) 0 5 10 15) 1 6 11 12) H6.out).mono ?_
      rintro e w7 ⟨rfl, h1, g1⟩
      have H7 : Hid (StAt w7 w.heap.size (Ch.quarter (Ch.quarter (Ch.quarter (Ch.quarter (Ch.quarter (Ch.quarter (Ch.quarter r 0 4 8 12) 1 5 9 13) 2 6 10 14) 3 7 11 15) 0 5 10 15) 1 6 11 12) 2 7 8 13)) := h1
      have G7 : Hid (World.grownBy w' w7 (some w.heap.size)) := grownBy_trans G6.out g1
      clear h1 g1 H6 G6
      go_wp2_with fail
      refine (q_3_4 (Ch.quarter (Ch.quarter (Ch.quarter (Ch.quarter (Ch.quarter (Ch.quarter (Ch.quarter r 0 4 8 12) 1 5 9 13) 2 6 10 14) 3 7 11 15) 0 5 10 15) 1 6 11 12) 2 7 8 13) w.heap.size _ (Ch.quarter_ok (Ch.quarter_ok (Ch.quarter_ok (Ch.quarter_ok (Ch.quarter_ok (Ch.quarter_ok (Ch.quarter_ok HO.out 0 4 8 12) 1 5 9 13) 2 6 10 14) 3 7 11 15) 0 5 10 15) 1 6 11 12) 2 7 8 13) H7.out).mono ?_
      rintro e w8 ⟨rfl, h1, g1⟩
      have H8 : Hid (StAt w8 w.heap.size (Ch.quarter (Ch.quarter (Ch.quarter (Ch.quarter (Ch.quarter (Ch.quarter (Ch.quarter (Ch.quarter r 0 4 8 12) 1 5 9 13) 2 6 10 14) 3 7 11 15) 0 5 10 15) 1 6 11 12) 2 7 8 13) 3 4 9 14)) := h1
      have G8 : Hid (World.grownBy w' w8 (some w.heap.size)) := grownBy_trans G7.out g1
      clear h1 g1 H7 G7
      clear H0 HO
      go_wp2_with fail
      go_step3
      rw [show (n : Int) - 1 = ((n - 1 : Nat) : Int) from by omega]
      refine ⟨rfl, ⟨t + 1, n - 1, _, by have := HTN.out; omega, by omega, HP.out _ H8.out G8.out, ?_, rfl⟩, ?_⟩
      · rfl
      · show (intOf (Value.int .i64 _)).toNat < (intOf (Value.int .i64 _)).toNat
        simp only [intOf]
        omega
    · obtain rfl : n = 1 := by omega
      obtain rfl : t = 9 := by have := HTN.out; omega
      go_wp2_with fail
      refine (q_0_4 r w.heap.size _ HO.out H0.out).mono ?_
      rintro e w1 ⟨rfl, h1, g1⟩
      have H1 : Hid (StAt w1 w.heap.size (Ch.quarter r 0 4 8 12)) := h1
      have G1 : Hid (World.grownBy w' w1 (some w.heap.size)) := g1
      clear h1 g1
      go_wp2_with fail
      refine (q_1_5 (Ch.quarter r 0 4 8 12) w.heap.size _ (Ch.quarter_ok HO.out 0 4 8 12) H1.out).mono ?_
      rintro e w2 ⟨rfl, h1, g1⟩
      have H2 : Hid (StAt w2 w.heap.size (Ch.quarter (Ch.quarter r 0 4 8 12) 1 5 9 13)) := h1
      have G2 : Hid (World.grownBy w' w2 (some w.heap.size)) := grownBy_trans G1.out g1
      clear h1 g1 H1 G1
      go_wp2_with fail
      refine (q_2_6 (Ch.quarter (Ch.quarter r 0 4 8 12) 1 5 9 13) w.heap.size _ (Ch.quarter_ok (Ch.quarter_ok HO.out 0 4 8 12) 1 5 9 13) H2.out).mono ?_
      rintro e w3 ⟨rfl, h1, g1⟩
      have H3 : Hid (StAt w3 w.heap.size (Ch.quarter (Ch.quarter (Ch.quarter r 0 4 8 12) 1 5 9 13) 2 6 10 14)) := h1
      have G3 : Hid (World.grownBy w' w3 (some w.heap.size)) := grownBy_trans G2.out g1
      clear h1 g1 H2 G2
      go_wp2_with fail
      refine (q_3_7 (Ch.quarter (Ch.quarter (Ch.quarter r 0 4 8 12) 1 5 9 13) 2 6 10 14) w.heap.size _ (Ch.quarter_ok (Ch.quarter_ok (Ch.quarter_ok HO.out 0 4 8 12) 1 5 9 13) 2 6 10 14) H3.out).mono ?_
      rintro e w4 ⟨rfl, h1, g1⟩
      have H4 : Hid (StAt w4 w.heap.size (Ch.quarter (Ch.quarter (Ch.quarter (Ch.quarter r 0 4 8 12) 1 5 9 13) 2 6 10 14) 3 7 11 15)) := h1
      have G4 : Hid (World.grownBy w' w4 (some w.heap.size)) := grownBy_trans G3.out g1
      clear h1 g1 H3 G3
      go_wp2_with fail
      refine (q_0_5 (Ch.quarter (Ch.quarter (Ch.quarter (Ch.quarter r 0 4 8 12) 1 5 9 13) 2 6 10 14) 3 7 11 15) w.heap.size _ (Ch.quarter_ok (Ch.quarter_ok (Ch.quarter_ok (Ch.quarter_ok HO.out 0 4 8 12) 1 5 9 13) 2 6 10 14) 3 7 11 15) H4.out).mono ?_
      rintro e w5 ⟨rfl, h1, g1⟩
      have H5 : Hid (StAt w5 w.heap.size (Ch.quarter (Ch.quarter (Ch.quarter (Ch.quarter (Ch.quarter r 0 4 8 12) 1 5 9 13) 2 6 10 14) 3 7 11 15) 0 5 10 15)) := h1
      have G5 : Hid (World.grownBy w' w5 (some w.heap.size)) := grownBy_trans G4.out g1
      clear h1 g1 H4 G4
      go_wp2_with fail
      refine (q_1_6 (Ch.quarter (Ch.quarter (Ch.quarter (Ch.quarter (Ch.quarter r 0 4 8 12) 1 5 9 13) 2 6 10 14) 3 7 11 15) 0 5 10 15) w.heap.size _ (Ch.quarter_ok (Ch.quarter_ok (Ch.quarter_ok (Ch.quarter_ok (Ch.quarter_ok HO.out 0 4 8 12) 1 5 9 13) 2 6 10 14) 3 7 11 15) 0 5 10 15) H5.out).mono ?_
      rintro e w6 ⟨rfl, h1, g1⟩
      have H6 : Hid (StAt w6 w.heap.size (Ch.quarter (Ch.quarter (Ch.quarter (Ch.quarter (Ch.quarter (Ch.quarter r 0 4 8 12) 1 5 9 13) 2 6 10 14) 3 7 11 15) 0 5 10 15) 1 6 11 12)) := h1
      have G6 : Hid (World.grownBy w' w6 (some w.heap.size)) := grownBy_trans G5.out g1
      clear h1 g1 H5 G5
      go_wp2_with fail
      refine (q_2_7 (Ch.quarter (Ch.quarter (Ch.quarter (Ch.quarter (Ch.quarter (Ch.quarter r 0 4 8 12) 1 5 9 13) 2 6 10 14) 3 7 11 15) 0 5 10 15) 1 6 11 12) w.heap.size _ (Ch.quarter_ok (Ch.quarter_ok (Ch.quarter_ok (Ch.quarter_ok (Ch.quarter_ok (Ch.quarter_ok HO.out 0 4 8 12) 1 5 9 13) 2 6 10 14) 3 7 11 15) 0 5 10 15) 1 6 11 12) H6.out).mono ?_
      rintro e w7 ⟨rfl, h1, g1⟩
      have H7 : Hid (StAt w7 w.heap.size (Ch.quarter (Ch.quarter (Ch.quarter (Ch.quarter (Ch.quarter (Ch.quarter (Ch.quarter r 0 4 8 12) 1 5 9 13) 2 6 10 14) 3 7 11 15) 0 5 10 15) 1 6 11 12) 2 7 8 13)) := h1
      have G7 : Hid (World.grownBy w' w7 (some w.heap.size)) := grownBy_trans G6.out g1
      clear h1 g1 H6 G6
      go_wp2_with fail
      refine (q_3_4 (Ch.quarter (Ch.quarter (Ch.quarter (Ch.quarter (Ch.quarter (Ch.quarter (Ch.quarter r 0 4 8 12) 1 5 9 13) 2 6 10 14) 3 7 11 15) 0 5 10 15) 1 6 11 12) 2 7 8 13) w.heap.size _ (Ch.quarter_ok (Ch.quarter_ok (Ch.quarter_ok (Ch.quarter_ok (Ch.quarter_ok (Ch.quarter_ok (Ch.quarter_ok HO.out 0 4 8 12) 1 5 9 13) 2 6 10 14) 3 7 11 15) 0 5 10 15) 1 6 11 12) 2 7 8 13) H7.out).mono ?_
      rintro e w8 ⟨rfl, h1, g1⟩
      have H8 : Hid (StAt w8 w.heap.size (Ch.quarter (Ch.quarter (Ch.quarter (Ch.quarter (Ch.quarter (Ch.quarter (Ch.quarter (Ch.quarter r 0 4 8 12) 1 5 9 13) 2 6 10 14) 3 7 11 15) 0 5 10 15) 1 6 11 12) 2 7 8 13) 3 4 9 14)) := h1
      have G8 : Hid (World.grownBy w' w8 (some w.heap.size)) := grownBy_trans G7.out g1
      clear h1 g1 H7 G7
      clear H0 HO
      have HF : Hid (MixAtR w s R w8) := HRR.out.1 _ (HP.out _ H8.out G8.out)
      clear H8 G8 HP
      go_wp2_with (first | with_reducible (refine stop_load 179 ?_))
      have HL : Hid (R.length = 16) := HRR.out.2
      clear HS HRR
      refine Stop.go ?_
      with_reducible refine law_load_arr w.heap.size 0 .u32 R _ ?lx ?lc under41 rfl ?li ?lk
      case lx => exact rfl
      case lc => exact rangeAt_of_row HF.out.st
      case li => rw [HL.out]; exact info41
      go_wp2_with (first | with_reducible (refine stop_store 179 ?_))
      refine Stop.go ?_
      with_reducible refine law_store (w.heap.size + 1) 0 (arr .u32 R) ?sx ?sy ?st ?si (ints_one _ _) ?sk
      case sx => exact rfl
      case sy => exact rfl
      case st => rw [arr_size, HL.out]; exact HF.out.there
      case si => rw [arr_size, HL.out]; exact info41
      go_wp2_with fail
      simp only [Exit.jump]
      refine bodyPost_ret (v := .agg (arr .u32 R)) (results_row rfl _ _ (w.heap.size + 1) 0 (ints .u32 R) _ rfl ?_ under41 rfl ?_) rfl ⟨rfl, ?_⟩
      · exact World.rangeAt_setCells_same _ _ _ _ (by rw [arr_list, ints_length, HL.out]; exact HF.out.there)
      · rw [ints_length, HL.out]; exact info41
      · exact Below.setCells _ _ _ HF.out.below (by omega)
end Go.Proofs.YtfjdaafckiefdaaGreatDoor.C3
/- The contracts of fill and begin. -/
namespace Go.Proofs.YtfjdaafckiefdaaGreatDoor.C3
open Go.RowKit
theorem word_or (x0 x1 x2 x3 : Nat) (h0 : x0 < 256) (h1 : x1 < 256) (h2 : x2 < 256) (h3 : x3 < 256) :
    bits BinOp.or IntKind.u32 (bits BinOp.or IntKind.u32 (bits BinOp.or IntKind.u32 (x0 : Int) ((x1 : Int) * 256)) ((x2 : Int) * 65536)) ((x3 : Int) * 16777216) = ((x0 + x1 * 256 + x2 * 65536 + x3 * 16777216 : Nat) : Int) := by
  have e1 : ((x1 : Int) * 256) = ((x1 * 256 : Nat) : Int) := by omega
  have e2 : ((x2 : Int) * 65536) = ((x2 * 65536 : Nat) : Int) := by omega
  have e3 : ((x3 : Int) * 16777216) = ((x3 * 16777216 : Nat) : Int) := by omega
  have o1 : x0 ||| x1 * 256 = x0 + x1 * 256 := by
    rw [Nat.or_comm, Nat.mul_comm, Nat.add_comm]
    exact (Nat.two_pow_add_eq_or_of_lt (i := 8) h0 x1).symm
  have o2 : (x0 + x1 * 256) ||| x2 * 65536 = x0 + x1 * 256 + x2 * 65536 := by
    rw [Nat.or_comm, Nat.mul_comm x2, Nat.add_comm _ (65536 * x2)]
    exact (Nat.two_pow_add_eq_or_of_lt (i := 16) (by omega) x2).symm
  have o3 : (x0 + x1 * 256 + x2 * 65536) ||| x3 * 16777216 = x0 + x1 * 256 + x2 * 65536 + x3 * 16777216 := by
    rw [Nat.or_comm, Nat.mul_comm x3, Nat.add_comm _ (16777216 * x3)]
    exact (Nat.two_pow_add_eq_or_of_lt (i := 24) (by omega) x3).symm
  rw [e1, e2, e3, u32_or_nat _ _ (by omega) (by omega), o1, u32_or_nat _ _ (by omega) (by omega), o2, u32_or_nat _ _ (by omega) (by omega), o3]
/-- The state's words from p on, set to the first k words of bytes. -/
def fillTo (s : List Nat) (p : Nat) (b : List Nat) : Nat → List Nat
  | 0 => s
  | k + 1 => (fillTo s p b k).set (p + k) (Ch.word b (4 * k))
theorem fillTo_length (s : List Nat) (p : Nat) (b : List Nat) : ∀ k, (fillTo s p b k).length = s.length
  | 0 => rfl
  | k + 1 => by rw [fillTo, List.length_set, fillTo_length s p b k]
theorem range_cell {w : World} {g o : Nat} {k : IntKind} {l : List Nat} (h : w.rangeAt g o (ints k l)) (i : Nat) (hi : i < l.length) : w.cell? ⟨g, o + i, none⟩ = some (.int k (Sp.nth l i : Nat)) := h i _ (ints_get k l i hi)
theorem rangeAt_grown {w w' : World} {b o g : Nat} {cs : List Value} (h : w.rangeAt b o cs) (hg : w.grownBy w' (some g)) (hb : b ≠ g) : w'.rangeAt b o cs := fun j v hv => by
  have hc := h j v hv
  have hlt := World.block_lt_of_cell? w _ hc
  have := hg.block b hlt (by simpa using hb)
  rw [← hc]
  unfold World.cell?
  rw [this]
set_option maxHeartbeats 1000000 in
theorem fill32 (s l : List Nat) (g b o c : Nat) (w : World) (hg : StAt w g s) (hs : s.length = 16) (hl : l.length = 32) (hb : ∀ x ∈ l, x < 256) (hr : w.rangeAt b o (ints .u8 l)) (hbg : b ≠ g) (hc : 32 ≤ c) :
    Calls Tryz.prog 143 #[.pointer (some ⟨g, 0, none⟩), .int .i64 4, .slice (some ⟨b, o, none⟩) 32 c] w fun e w' => e = .returned (.tuple #[]) ∧ StAt w' g (fillTo s 4 l 8) ∧ w.grownBy w' (some g) := by
  have HG : Hid (StAt w g s) := hg
  have HR : Hid (w.rangeAt b o (ints .u8 l)) := hr
  have HL : Hid (l.length = 32) := hl
  have HS : Hid (s.length = 16) := hs
  have HB : Hid (∀ x ∈ l, x < 256) := hb
  clear hg hr hl hs hb
  go_enter Tryz.func143, Tryz.ntmps143
  go_wp2
  go_loopw [11] (fun i wr => ∃ k : Nat, k ≤ 8 ∧ i = .int .i64 k ∧ Hid (StAt wr g (fillTo s 4 l k)) ∧ Hid (w.grownBy wr (some g))) (fun i _ => 8 - (intOf i).toNat)
  case atStart => exact ⟨0, by omega, rfl, HG.out, grownBy_refl _ _⟩
  case round =>
    clear HG
    obtain ⟨k, hk, rfl, H1, G1⟩ := hrel
    by_cases hlt : k < 8
    · have hr1 := rangeAt_grown HR.out G1.out hbg
      have b0 := range_cell hr1 (4 * k) (by rw [HL.out]; omega)
      have b1 := range_cell hr1 (4 * k + 1) (by rw [HL.out]; omega)
      have b2 := range_cell hr1 (4 * k + 2) (by rw [HL.out]; omega)
      have b3 := range_cell hr1 (4 * k + 3) (by rw [HL.out]; omega)
      have x0 : Sp.nth l (4 * k) < 256 := Sp.nth_lt (by decide) HB.out _
      have x1 : Sp.nth l (4 * k + 1) < 256 := Sp.nth_lt (by decide) HB.out _
      have x2 : Sp.nth l (4 * k + 2) < 256 := Sp.nth_lt (by decide) HB.out _
      have x3 : Sp.nth l (4 * k + 3) < 256 := Sp.nth_lt (by decide) HB.out _
      have HW : Hid (Sp.nth l (4 * k) + Sp.nth l (4 * k + 1) * 256 + Sp.nth l (4 * k + 2) * 65536 + Sp.nth l (4 * k + 3) * 16777216 = Ch.word l (4 * k)) := rfl
      have HO := word_or _ _ _ _ x0 x1 x2 x3
      have hf := H1.out.may (4 + k)
      have hcl := H1.out.cell (4 + k) (by rw [fillTo_length, HS.out]; omega)
      have HN : Hid (StAt ((wr.setCell ⟨g, 4 + k, none⟩ (.int .u32 ((Ch.word l (4 * k) : Nat) : Int))).drewN 1) g (fillTo s 4 l (k + 1))) := H1.out.set (4 + k) _
      have HGN : Hid (w.grownBy ((wr.setCell ⟨g, 4 + k, none⟩ (.int .u32 ((Ch.word l (4 * k) : Nat) : Int))).drewN 1) (some g)) := grownBy_drewN (grownBy_set G1.out (4 + k) _) 1
      rw [HW.out] at HO
      clear hr1 H1 G1 HW
      generalize Sp.nth l (4 * k) = y0 at *
      generalize Sp.nth l (4 * k + 1) = y1 at *
      generalize Sp.nth l (4 * k + 2) = y2 at *
      generalize Sp.nth l (4 * k + 3) = y3 at *
      generalize Ch.word l (4 * k) = W at *
      generalize Sp.nth (fillTo s 4 l k) (4 + k) = old at *
      have k0 : (0 : Int) ≤ (k : Int) := by omega
      have k1 : (k : Int) < 8 := by omega
      have k2 : 4 * (k : Int) ≤ 32 := by omega
      have k3 : (0 : Int) ≤ 4 * (k : Int) := by omega
      have k4 : (4 * (k : Int)).toNat = 4 * k := by omega
      have k5 : 4 + (k : Int) < 16 := by omega
      have k6 : (0 : Int) ≤ 4 + (k : Int) := by omega
      have k7 : (4 + (k : Int)).toNat = 4 + k := by omega
      have k8 : ¬ c = 4 * k := by omega
      have k9 : 4 * k < 32 := by omega
      go_wp2
      obtain ⟨m, hm⟩ : ∃ m, 32 - 4 * k = m := ⟨_, rfl⟩
      rw [hm]
      have m0 : (0 : Int) < (m : Int) := by omega
      have m0' : 0 < m := by omega
      have m1 : (1 : Int) < (m : Int) := by omega
      have m2 : (2 : Int) < (m : Int) := by omega
      have m3 : (3 : Int) < (m : Int) := by omega
      clear hm
      have v1 : IntKind.i64.wrap (4 + (k : Int)) = 4 + (k : Int) := i64_id _ (by omega)
      rw [show o + (4 * k + 1) = o + 4 * k + 1 from rfl] at b1
      rw [show o + (4 * k + 2) = o + 4 * k + 2 from rfl] at b2
      rw [show o + (4 * k + 3) = o + 4 * k + 3 from rfl] at b3
      have hgb : g ≠ b := fun e => hbg e.symm
      go_region_held3 (fun w' => w'.cell? ⟨b, o + 4 * k, none⟩ = some (.int .u8 (y0 : Nat)) ∧ w'.cell? ⟨b, o + 4 * k + 1, none⟩ = some (.int .u8 (y1 : Nat)) ∧ w'.cell? ⟨b, o + 4 * k + 2, none⟩ = some (.int .u8 (y2 : Nat)) ∧ w'.cell? ⟨b, o + 4 * k + 3, none⟩ = some (.int .u8 (y3 : Nat))) (go_keep) (fail)
      go_wp2
      rw [HO]
      go_roundw
      case rel => exact ⟨k + 1, by omega, by go_num, HN.out, HGN.out⟩
      case measure => simp [intOf]; omega
    · obtain rfl : k = 8 := by omega
      go_wp2
      go_end0
      exact ⟨rfl, H1.out, G1.out⟩
set_option maxHeartbeats 1000000 in
theorem fill12 (s l : List Nat) (g b o c : Nat) (w : World) (hg : StAt w g s) (hs : s.length = 16) (hl : l.length = 12) (hb : ∀ x ∈ l, x < 256) (hr : w.rangeAt b o (ints .u8 l)) (hbg : b ≠ g) (hc : 12 ≤ c) :
    Calls Tryz.prog 143 #[.pointer (some ⟨g, 0, none⟩), .int .i64 13, .slice (some ⟨b, o, none⟩) 12 c] w fun e w' => e = .returned (.tuple #[]) ∧ StAt w' g (fillTo s 13 l 3) ∧ w.grownBy w' (some g) := by
  have HG : Hid (StAt w g s) := hg
  have HR : Hid (w.rangeAt b o (ints .u8 l)) := hr
  have HL : Hid (l.length = 12) := hl
  have HS : Hid (s.length = 16) := hs
  have HB : Hid (∀ x ∈ l, x < 256) := hb
  clear hg hr hl hs hb
  go_enter Tryz.func143, Tryz.ntmps143
  go_wp2
  go_loopw [11] (fun i wr => ∃ k : Nat, k ≤ 3 ∧ i = .int .i64 k ∧ Hid (StAt wr g (fillTo s 13 l k)) ∧ Hid (w.grownBy wr (some g))) (fun i _ => 3 - (intOf i).toNat)
  case atStart => exact ⟨0, by omega, rfl, HG.out, grownBy_refl _ _⟩
  case round =>
    clear HG
    obtain ⟨k, hk, rfl, H1, G1⟩ := hrel
    by_cases hlt : k < 3
    · have hr1 := rangeAt_grown HR.out G1.out hbg
      have b0 := range_cell hr1 (4 * k) (by rw [HL.out]; omega)
      have b1 := range_cell hr1 (4 * k + 1) (by rw [HL.out]; omega)
      have b2 := range_cell hr1 (4 * k + 2) (by rw [HL.out]; omega)
      have b3 := range_cell hr1 (4 * k + 3) (by rw [HL.out]; omega)
      have x0 : Sp.nth l (4 * k) < 256 := Sp.nth_lt (by decide) HB.out _
      have x1 : Sp.nth l (4 * k + 1) < 256 := Sp.nth_lt (by decide) HB.out _
      have x2 : Sp.nth l (4 * k + 2) < 256 := Sp.nth_lt (by decide) HB.out _
      have x3 : Sp.nth l (4 * k + 3) < 256 := Sp.nth_lt (by decide) HB.out _
      have HW : Hid (Sp.nth l (4 * k) + Sp.nth l (4 * k + 1) * 256 + Sp.nth l (4 * k + 2) * 65536 + Sp.nth l (4 * k + 3) * 16777216 = Ch.word l (4 * k)) := rfl
      have HO := word_or _ _ _ _ x0 x1 x2 x3
      have hf := H1.out.may (13 + k)
      have hcl := H1.out.cell (13 + k) (by rw [fillTo_length, HS.out]; omega)
      have HN : Hid (StAt ((wr.setCell ⟨g, 13 + k, none⟩ (.int .u32 ((Ch.word l (4 * k) : Nat) : Int))).drewN 1) g (fillTo s 13 l (k + 1))) := H1.out.set (13 + k) _
      have HGN : Hid (w.grownBy ((wr.setCell ⟨g, 13 + k, none⟩ (.int .u32 ((Ch.word l (4 * k) : Nat) : Int))).drewN 1) (some g)) := grownBy_drewN (grownBy_set G1.out (13 + k) _) 1
      rw [HW.out] at HO
      clear hr1 H1 G1 HW
      generalize Sp.nth l (4 * k) = y0 at *
      generalize Sp.nth l (4 * k + 1) = y1 at *
      generalize Sp.nth l (4 * k + 2) = y2 at *
      generalize Sp.nth l (4 * k + 3) = y3 at *
      generalize Ch.word l (4 * k) = W at *
      generalize Sp.nth (fillTo s 13 l k) (13 + k) = old at *
      have k0 : (0 : Int) ≤ (k : Int) := by omega
      have k1 : (k : Int) < 3 := by omega
      have k2 : 4 * (k : Int) ≤ 12 := by omega
      have k3 : (0 : Int) ≤ 4 * (k : Int) := by omega
      have k4 : (4 * (k : Int)).toNat = 4 * k := by omega
      have k5 : 13 + (k : Int) < 16 := by omega
      have k6 : (0 : Int) ≤ 13 + (k : Int) := by omega
      have k7 : (13 + (k : Int)).toNat = 13 + k := by omega
      have k8 : ¬ c = 4 * k := by omega
      have k9 : 4 * k < 12 := by omega
      go_wp2
      obtain ⟨m, hm⟩ : ∃ m, 12 - 4 * k = m := ⟨_, rfl⟩
      rw [hm]
      have m0 : (0 : Int) < (m : Int) := by omega
      have m0' : 0 < m := by omega
      have m1 : (1 : Int) < (m : Int) := by omega
      have m2 : (2 : Int) < (m : Int) := by omega
      have m3 : (3 : Int) < (m : Int) := by omega
      clear hm
      have v1 : IntKind.i64.wrap (13 + (k : Int)) = 13 + (k : Int) := i64_id _ (by omega)
      rw [show o + (4 * k + 1) = o + 4 * k + 1 from rfl] at b1
      rw [show o + (4 * k + 2) = o + 4 * k + 2 from rfl] at b2
      rw [show o + (4 * k + 3) = o + 4 * k + 3 from rfl] at b3
      have hgb : g ≠ b := fun e => hbg e.symm
      go_region_held3 (fun w' => w'.cell? ⟨b, o + 4 * k, none⟩ = some (.int .u8 (y0 : Nat)) ∧ w'.cell? ⟨b, o + 4 * k + 1, none⟩ = some (.int .u8 (y1 : Nat)) ∧ w'.cell? ⟨b, o + 4 * k + 2, none⟩ = some (.int .u8 (y2 : Nat)) ∧ w'.cell? ⟨b, o + 4 * k + 3, none⟩ = some (.int .u8 (y3 : Nat))) (go_keep) (fail)
      go_wp2
      rw [HO]
      go_roundw
      case rel => exact ⟨k + 1, by omega, by go_num, HN.out, HGN.out⟩
      case measure => simp [intOf]; omega
    · obtain rfl : k = 3 := by omega
      go_wp2
      go_end0
      exact ⟨rfl, H1.out, G1.out⟩
end Go.Proofs.YtfjdaafckiefdaaGreatDoor.C3
/- The contract of begin. -/
namespace Go.Proofs.YtfjdaafckiefdaaGreatDoor.C3
open Go.RowKit
def init16 : List Nat := [0x61707865, 0x3320646e, 0x79622d32, 0x6b206574, 0, 0, 0, 0, 0, 0, 0, 0, 0, 0, 0, 0]
theorem start_eq (key nonce : List Nat) (c : Nat) : fillTo ((fillTo init16 4 key 8).set 12 c) 13 nonce 3 = Ch.start key c nonce := rfl
/-- The bytes that a slice stands for. -/
def SliceIs (w : World) (b o : Nat) (l : List Nat) : Prop := (∀ x ∈ l, x < 256) ∧ w.rangeAt b o (ints .u8 l)
theorem SliceIs.lt {w : World} {b o : Nat} {l : List Nat} (h : SliceIs w b o l) (h0 : l ≠ []) : b < w.heap.size := by
  obtain ⟨x, m, rfl⟩ := List.exists_cons_of_ne_nil h0
  have := h.2 0 (.int .u8 (x : Nat)) rfl
  exact World.block_lt_of_cell? w _ this
theorem SliceIs.below {w w' : World} {b o : Nat} {l : List Nat} (h : SliceIs w b o l) (hb : Below w.heap.size w w') : SliceIs w' b o l := ⟨h.1, rangeAt_below hb h.2⟩
theorem below_grown {w w1 w2 : World} {g : Nat} (h : Below w.heap.size w w1) (hg : w1.grownBy w2 (some g)) (hgs : w.heap.size ≤ g) : Below w.heap.size w w2 :=
  ⟨hg.os.trans h.os, hg.tape.trans h.tape, hg.output.trans h.output, Nat.le_trans h.size hg.size, fun k hk => by rw [hg.block k (Nat.lt_of_lt_of_le hk h.size) (by simp; omega)]; exact h.block k hk⟩
theorem StAt.grown {w w' : World} {g g' : Nat} {s : List Nat} (h : StAt w g s) (hg : w.grownBy w' (some g')) (hne : g ≠ g') : StAt w' g s := by
  have := hg.block g (Array.getElem?_eq_some_iff.1 h).1 (by simpa using hne)
  exact this.trans h
set_option maxHeartbeats 1000000 in
theorem begin_any (key nonce : List Nat) (bk ok ck bn on cn c : Nat) (w : World) (hk : key.length = 32) (hn : nonce.length = 12) (hK : SliceIs w bk ok key) (hN : SliceIs w bn on nonce) (hc : c < 4294967296) (hck : 32 ≤ ck) (hcn : 12 ≤ cn) :
    Calls Tryz.prog 133 #[.slice (some ⟨bk, ok, none⟩) 32 ck, .int .i64 c, .slice (some ⟨bn, on, none⟩) 12 cn] w fun e w' => e = .returned (.agg (arr .u32 (Ch.start key c nonce))) ∧ Below w.heap.size w w' := by
  have hbk := hK.lt (by intro e; rw [e] at hk; simp at hk)
  have hbn := hN.lt (by intro e; rw [e] at hn; simp at hn)
  have HK : Hid (SliceIs w bk ok key) := hK
  have HN : Hid (SliceIs w bn on nonce) := hN
  have HKL : Hid (key.length = 32) := hk
  have HNL : Hid (nonce.length = 12) := hn
  obtain ⟨S, hS⟩ : ∃ S, Ch.start key c nonce = S := ⟨_, rfl⟩
  rw [hS]
  have HS : Hid (Ch.start key c nonce = S) := hS
  clear hK hN hk hn hS
  have c1 : (c : Int) % 4294967296 = (c : Int) := by omega
  have c2 : IntKind.u32.wrap (c : Int) = (c : Int) := by rw [IntKind.wrap_u32]; omega
  go_enter Tryz.func133, Tryz.ntmps133
  go_wp2_with (first | with_reducible (refine stop_store 179 ?_))
  refine Stop.go ?_
  rw [zeros16_eq]
  with_reducible refine law_store (w.heap.size + 1) 0 (arr .u32 init16) ?sx ?sy ?st ?si (ints_one _ _) ?sk
  case sx => exact rfl
  case sy => exact rfl
  case st => exact there_of_row (mixW_1 w (List.replicate 16 0)) 16 (by simp [zeros16, arr_size])
  case si => exact info41
  have H1 : Hid (StAt (World.setCells ((w.alloc (Obj.cells zeros16 179)).alloc (Obj.cells zeros16 179)) (w.heap.size + 1) 0 (arr .u32 init16).toList) (w.heap.size + 1) init16) := by
    have := heap_setCells (w.heap.size + 1) 179 (ints .u32 init16) 0 (mixW w (List.replicate 16 0)) (ints .u32 (List.replicate 16 0)) (mixW_1 w (List.replicate 16 0)) (by simp [ints_length, init16])
    show _ = _
    rw [arr_list]
    refine Eq.trans this ?_
    rfl
  have HB1 : Hid (Below w.heap.size w (World.setCells ((w.alloc (Obj.cells zeros16 179)).alloc (Obj.cells zeros16 179)) (w.heap.size + 1) 0 (arr .u32 init16).toList)) := Below.setCells _ _ _ (mixW_below w (List.replicate 16 0)) (by omega)
  have HT1 : Hid (StAt (World.setCells ((w.alloc (Obj.cells zeros16 179)).alloc (Obj.cells zeros16 179)) (w.heap.size + 1) 0 (arr .u32 init16).toList) w.heap.size (List.replicate 16 0)) :=
    StAt.grown (mixW_0 w (List.replicate 16 0)) (grownBy_setCells _ _ (grownBy_refl (mixW w (List.replicate 16 0)) _)) (by omega)
  generalize World.setCells ((w.alloc (Obj.cells zeros16 179)).alloc (Obj.cells zeros16 179)) (w.heap.size + 1) 0 (arr .u32 init16).toList = W1 at *
  go_wp2_with fail
  have hK1 := HK.out.below HB1.out
  refine (fill32 init16 key (w.heap.size + 1) bk ok ck W1 H1.out rfl HKL.out hK1.1 hK1.2 (by omega) hck).mono ?_
  rintro e W2 ⟨rfl, h2, g2⟩
  have H2 : Hid (StAt W2 (w.heap.size + 1) (fillTo init16 4 key 8)) := h2
  have HB2 : Hid (Below w.heap.size w W2) := below_grown HB1.out g2 (by omega)
  have HT2 : Hid (StAt W2 w.heap.size (List.replicate 16 0)) := HT1.out.grown g2 (by omega)
  clear h2 g2 H1 HB1 HT1 hK1
  have hf := H2.out.may 12
  have hcl := H2.out.cell 12 (by rw [fillTo_length]; decide)
  have H3 : Hid (StAt (W2.setCell ⟨w.heap.size + 1, 12, none⟩ (.int .u32 (c : Nat))) (w.heap.size + 1) ((fillTo init16 4 key 8).set 12 c)) := H2.out.set 12 c
  have HB3 : Hid (Below w.heap.size w (W2.setCell ⟨w.heap.size + 1, 12, none⟩ (.int .u32 (c : Nat)))) := HB2.out.setCell (by simp) _
  have HT3 : Hid (StAt (W2.setCell ⟨w.heap.size + 1, 12, none⟩ (.int .u32 (c : Nat))) w.heap.size (List.replicate 16 0)) := HT2.out.grown (grownBy_set (grownBy_refl W2 (some (w.heap.size + 1))) 12 _) (by omega)
  generalize Sp.nth (fillTo init16 4 key 8) 12 = old at *
  clear H2 HB2 HT2
  go_wp2_with fail
  generalize W2.setCell ⟨w.heap.size + 1, 12, none⟩ (.int .u32 (c : Nat)) = W3 at *
  have hN1 := HN.out.below HB3.out
  refine (fill12 ((fillTo init16 4 key 8).set 12 c) nonce (w.heap.size + 1) bn on cn W3 H3.out (by rw [List.length_set, fillTo_length]; rfl) HNL.out hN1.1 hN1.2 (by omega) hcn).mono ?_
  rintro e W4 ⟨rfl, h2, g2⟩
  rw [start_eq, HS.out] at h2
  have H4 : Hid (StAt W4 (w.heap.size + 1) S) := h2
  have HB4 : Hid (Below w.heap.size w W4) := below_grown HB3.out g2 (by omega)
  have HT4 : Hid (StAt W4 w.heap.size (List.replicate 16 0)) := HT3.out.grown g2 (by omega)
  have HL : Hid (S.length = 16) := by
    show _ = _
    rw [← HS.out]
    simp [Ch.start, Ch.words_length]
  clear h2 g2 H3 HB3 HT3 hN1 HS
  go_wp2_with (first | with_reducible (refine stop_load 179 ?_))
  refine Stop.go ?_
  with_reducible refine law_load_arr (w.heap.size + 1) 0 .u32 S _ ?lx ?lc under41 rfl ?li ?lk
  case lx => exact rfl
  case lc => exact rangeAt_of_row H4.out
  case li => rw [HL.out]; exact info41
  go_wp2_with (first | with_reducible (refine stop_store 179 ?_))
  refine Stop.go ?_
  with_reducible refine law_store w.heap.size 0 (arr .u32 S) ?tx ?ty ?tt ?ti (ints_one _ _) ?tk
  case tx => exact rfl
  case ty => exact rfl
  case tt => rw [arr_size, HL.out]; exact there_of_row HT4.out 16 (by simp [arr_size])
  case ti => rw [arr_size, HL.out]; exact info41
  go_wp2_with fail
  refine bodyPost_ret (v := .agg (arr .u32 S)) (results_row rfl _ _ w.heap.size 0 (ints .u32 S) _ rfl ?_ under41 rfl ?_) rfl ⟨rfl, ?_⟩
  · exact World.rangeAt_setCells_same _ _ _ _ (by rw [arr_list, ints_length, HL.out]; exact there_of_row HT4.out 16 (by simp [arr_size]))
  · rw [ints_length, HL.out]; exact info41
  · exact Below.setCells _ _ _ HB4.out (by omega)
end Go.Proofs.YtfjdaafckiefdaaGreatDoor.C3
/- The contract of block: the bytes of the block that a state begins. -/
namespace Go.Proofs.YtfjdaafckiefdaaGreatDoor.C3
open Go.RowKit
def zeros64 : Array Value := arr .u8 (List.replicate 64 0)
theorem zeros64_eq : #[Value.int IntKind.u8 0, Value.int IntKind.u8 0, Value.int IntKind.u8 0, Value.int IntKind.u8 0, Value.int IntKind.u8 0, Value.int IntKind.u8 0, Value.int IntKind.u8 0, Value.int IntKind.u8 0, Value.int IntKind.u8 0, Value.int IntKind.u8 0, Value.int IntKind.u8 0, Value.int IntKind.u8 0, Value.int IntKind.u8 0, Value.int IntKind.u8 0, Value.int IntKind.u8 0, Value.int IntKind.u8 0, Value.int IntKind.u8 0, Value.int IntKind.u8 0, Value.int IntKind.u8 0, Value.int IntKind.u8 0, Value.int IntKind.u8 0, Value.int IntKind.u8 0, Value.int IntKind.u8 0, Value.int IntKind.u8 0, Value.int IntKind.u8 0, Value.int IntKind.u8 0, Value.int IntKind.u8 0, Value.int IntKind.u8 0, Value.int IntKind.u8 0, Value.int IntKind.u8 0, Value.int IntKind.u8 0, Value.int IntKind.u8 0, Value.int IntKind.u8 0, Value.int IntKind.u8 0, Value.int IntKind.u8 0, Value.int IntKind.u8 0, Value.int IntKind.u8 0, Value.int IntKind.u8 0, Value.int IntKind.u8 0, Value.int IntKind.u8 0, Value.int IntKind.u8 0, Value.int IntKind.u8 0, Value.int IntKind.u8 0, Value.int IntKind.u8 0, Value.int IntKind.u8 0, Value.int IntKind.u8 0, Value.int IntKind.u8 0, Value.int IntKind.u8 0, Value.int IntKind.u8 0, Value.int IntKind.u8 0, Value.int IntKind.u8 0, Value.int IntKind.u8 0, Value.int IntKind.u8 0, Value.int IntKind.u8 0, Value.int IntKind.u8 0, Value.int IntKind.u8 0, Value.int IntKind.u8 0, Value.int IntKind.u8 0, Value.int IntKind.u8 0, Value.int IntKind.u8 0, Value.int IntKind.u8 0, Value.int IntKind.u8 0, Value.int IntKind.u8 0, Value.int IntKind.u8 0] = zeros64 := rfl
theorem info38 : (Tryz.prog.info? 137).map (·.size) = some 64 := by kernel_rfl
theorem under38 : Tryz.prog.underlying 137 = some (.array 64 5) := by kernel_rfl
/-- At block g lie bytes of an array. -/
def ArAt (w : World) (g : Nat) (l : List Nat) : Prop := w.heap[g]? = some (.cells (arr .u8 l) 137 (0, 0))
section
variable {w : World} {g : Nat} {l : List Nat}
theorem ArAt.cell (h : ArAt w g l) (i : Nat) (hi : i < l.length) : w.cell? ⟨g, i, none⟩ = some (.int .u8 (Sp.nth l i : Nat)) := by
  rw [cell_of_row _ _ _ _ _ _ h]; exact arr_get _ _ _ hi
theorem ArAt.may (h : ArAt w g l) (i : Nat) : w.frozen? ⟨g, i, none⟩ = false := frozen_of_row _ _ _ _ _ h
theorem ArAt.set (h : ArAt w g l) (i x : Nat) : ArAt (w.setCell ⟨g, i, none⟩ (.int .u8 (x : Nat))) g (l.set i x) := by
  have := heap_setCell_same w g i (arr .u8 l) 137 (.int .u8 (x : Nat)) h
  unfold ArAt
  rw [this]
  congr 2
  apply Array.ext'
  simp [arr, ints]
theorem ArAt.grown {w' : World} {g' : Nat} (h : ArAt w g l) (hg : w.grownBy w' (some g')) (hne : g ≠ g') : ArAt w' g l := by
  have := hg.block g (Array.getElem?_eq_some_iff.1 h).1 (by simpa using hne)
  exact this.trans h
end
theorem setCells_size (g : Nat) : ∀ (vs : List Value) (o : Nat) (w : World), (w.setCells g o vs).heap.size = w.heap.size
  | [], _, _ => rfl
  | v :: vs, o, w => by rw [World.setCells, setCells_size g vs (o + 1)]; simp [World.setCell]
/-- Four bytes behind k fours, and noughts behind them. -/
theorem out_set (a : List Nat) (k x0 x1 x2 x3 : Nat) (ha : a.length = 4 * k) (hk : k < 16) :
    ((((a ++ List.replicate (64 - 4 * k) 0).set (4 * k) x0).set (4 * k + 1) x1).set (4 * k + 2) x2).set (4 * k + 3) x3 = a ++ [x0, x1, x2, x3] ++ List.replicate (64 - 4 * (k + 1)) 0 := by
  rw [show 64 - 4 * k = (64 - 4 * (k + 1)) + 1 + 1 + 1 + 1 from by omega]
  simp only [List.replicate_succ]
  rw [List.set_append_right _ _ (by omega), List.set_append_right _ _ (by omega), List.set_append_right _ _ (by omega), List.set_append_right _ _ (by omega), ha]
  rw [show 4 * k - 4 * k = 0 from by omega, show 4 * k + 1 - 4 * k = 1 from by omega, show 4 * k + 2 - 4 * k = 2 from by omega, show 4 * k + 3 - 4 * k = 3 from by omega]
  simp
def blkW (w : World) (s : List Nat) : World := (w.alloc (Obj.cells (arr .u32 s) 179)).alloc (Obj.cells zeros64 137)
theorem blkW_0 (w : World) (s : List Nat) : StAt (blkW w s) w.heap.size s := by
  show ((w.heap.push _).push _)[_]? = _
  rw [Array.getElem?_push_lt (by simp), Array.getElem_push_eq]
theorem blkW_1 (w : World) (s : List Nat) : ArAt (blkW w s) (w.heap.size + 1) (List.replicate 64 0) := by
  show ((w.heap.push _).push _)[_]? = _
  rw [Array.getElem?_push, if_pos (by simp)]
  rfl
theorem blkW_below (w : World) (s : List Nat) : Below w.heap.size w (blkW w s) := ((Below.refl _ _).alloc (Nat.le_refl _) _).alloc (by simp) _
theorem blkW_size (w : World) (s : List Nat) : (blkW w s).heap.size = w.heap.size + 2 := by simp [blkW]
theorem StAt.below {w w' : World} {g B : Nat} {s : List Nat} (h : StAt w g s) (hb : Below B w w') (hg : g < B) : StAt w' g s := (hb.block g hg).trans h
theorem ArAt.below {w w' : World} {g B : Nat} {s : List Nat} (h : ArAt w g s) (hb : Below B w w') (hg : g < B) : ArAt w' g s := (hb.block g hg).trans h
set_option maxHeartbeats 1000000 in
theorem block_any (s : List Nat) (w : World) (hs : Ch.Ok s) :
    Calls Tryz.prog 134 #[.agg (arr .u32 s)] w fun e w' => e = .returned (.agg (arr .u8 (Ch.block s))) ∧ Below w.heap.size w w' := by
  have HS : Hid (Ch.Ok s) := hs
  have hl := hs.1
  have HR : Hid (Ch.Ok (Ch.rounds s 10)) := Ch.rounds_ok hs 10
  have HC : Hid (∀ w, Calls Tryz.prog 144 #[.agg (arr .u32 s)] w fun e w' => e = .returned (.agg (arr .u32 (Ch.rounds s 10))) ∧ Below w.heap.size w w') := fun w => mixed_any s w hs
  have HO : Hid (∀ k, Ch.outTo s (Ch.rounds s 10) (k + 1) = Ch.outTo s (Ch.rounds s 10) k ++ Ch.le4 ((Sp.nth (Ch.rounds s 10) k + Sp.nth s k) % 4294967296)) := Ch.outTo_succ s _
  have HF : Hid (Ch.outTo s (Ch.rounds s 10) 16 = Ch.block s) := rfl
  have hbl := Ch.block_length s
  generalize Ch.block s = B at *
  generalize Ch.rounds s 10 = R at *
  have HBL : Hid (B.length = 64) := hbl
  have HSL : Hid (s.length = 16) := hl
  clear hs hl hbl
  go_enter Tryz.func134, Tryz.ntmps134
  go_wp2_with (first | with_reducible (refine stop_load 179 ?_))
  rw [zeros64_eq]
  refine Stop.go ?_
  rw [show (w.alloc (Obj.cells (arr .u32 s) 179)).alloc (Obj.cells zeros64 137) = blkW w s from rfl]
  with_reducible refine law_load_arr w.heap.size 0 .u32 s _ ?lx ?lc under41 rfl ?li ?lk
  case lx => exact rfl
  case lc => exact rangeAt_of_row (blkW_0 w s)
  case li => rw [HSL.out]; exact info41
  go_wp2_with fail
  refine (HC.out _).mono ?_
  rintro e W1 ⟨rfl, hb1⟩
  have hsz := blkW_size w s
  have HB1 : Hid (Below w.heap.size w W1) := (blkW_below w s).trans (hb1.mono (by omega))
  have HS1 : Hid (StAt W1 w.heap.size s) := (blkW_0 w s).below hb1 (by omega)
  have HA1 : Hid (ArAt W1 (w.heap.size + 1) (List.replicate 64 0)) := (blkW_1 w s).below hb1 (by omega)
  have hs1 : w.heap.size + 2 ≤ W1.heap.size := by rw [← hsz]; exact hb1.size
  clear hb1 hsz HC
  go_wp2_with (first | with_reducible (refine stop_store 179 ?_))
  rw [zeros16_eq]
  refine Stop.go ?_
  have hz0 : StAt (W1.alloc (Obj.cells zeros16 179)) W1.heap.size (List.replicate 16 0) := heap_alloc_new W1 _
  have HRL : Hid (R.length = 16) := HR.out.1
  with_reducible refine law_store W1.heap.size 0 (arr .u32 R) ?sx ?sy ?st ?si (ints_one _ _) ?sk
  case sx => exact rfl
  case sy => exact rfl
  case st => rw [arr_size, HRL.out]; exact there_of_row hz0 16 (by simp [arr_size])
  case si => rw [arr_size, HRL.out]; exact info41
  have hgr : W1.grownBy (World.setCells (W1.alloc (Obj.cells zeros16 179)) W1.heap.size 0 (arr .u32 R).toList) (some W1.heap.size) := grownBy_setCells _ _ (grownBy_alloc W1 _ _)
  have H2 : Hid (StAt (World.setCells (W1.alloc (Obj.cells zeros16 179)) W1.heap.size 0 (arr .u32 R).toList) W1.heap.size R) := by
    have := heap_setCells W1.heap.size 179 (ints .u32 R) 0 (W1.alloc (Obj.cells zeros16 179)) (ints .u32 (List.replicate 16 0)) hz0 (by rw [ints_length, ints_length, HRL.out]; simp)
    show _ = _
    rw [arr_list]
    refine Eq.trans this ?_
    rw [ints_length, HRL.out]
    simp [arr, ints]
  have HS2 : Hid (StAt (World.setCells (W1.alloc (Obj.cells zeros16 179)) W1.heap.size 0 (arr .u32 R).toList) w.heap.size s) := HS1.out.grown hgr (by omega)
  have HA2 : Hid (ArAt (World.setCells (W1.alloc (Obj.cells zeros16 179)) W1.heap.size 0 (arr .u32 R).toList) (w.heap.size + 1) (List.replicate 64 0)) := HA1.out.grown hgr (by omega)
  have HB2 : Hid (Below w.heap.size w (World.setCells (W1.alloc (Obj.cells zeros16 179)) W1.heap.size 0 (arr .u32 R).toList)) := below_grown HB1.out hgr (by omega)
  have hs2 : (World.setCells (W1.alloc (Obj.cells zeros16 179)) W1.heap.size 0 (arr .u32 R).toList).heap.size = W1.heap.size + 1 := by rw [setCells_size]; simp
  clear hgr hz0 HS1 HA1 HB1
  generalize World.setCells (W1.alloc (Obj.cells zeros16 179)) W1.heap.size 0 (arr .u32 R).toList = W2 at *
  generalize W1.heap.size = g3 at *
  go_wp2_with fail
  rw [zeros64_eq]
  have hgr : W2.grownBy (W2.alloc (Obj.cells zeros64 137)) (some W2.heap.size) := grownBy_alloc W2 _ _
  have H3 : Hid (StAt (W2.alloc (Obj.cells zeros64 137)) g3 R) := H2.out.grown hgr (by omega)
  have HS3 : Hid (StAt (W2.alloc (Obj.cells zeros64 137)) w.heap.size s) := HS2.out.grown hgr (by omega)
  have HA3 : Hid (ArAt (W2.alloc (Obj.cells zeros64 137)) (w.heap.size + 1) (List.replicate 64 0)) := HA2.out.grown hgr (by omega)
  have HB3 : Hid (Below w.heap.size w (W2.alloc (Obj.cells zeros64 137))) := below_grown HB2.out hgr (by omega)
  have HZ3 : Hid (ArAt (W2.alloc (Obj.cells zeros64 137)) W2.heap.size (List.replicate 64 0)) := heap_alloc_new W2 _
  clear hgr H2 HS2 HA2 HB2
  generalize W2.alloc (Obj.cells zeros64 137) = W3 at *
  generalize W2.heap.size = g4 at *
  subst hs2
  go_loopw [9] (fun i wr => ∃ k : Nat, k ≤ 16 ∧ i = .int .i64 k ∧ Hid (ArAt wr (g3 + 1) (Ch.outTo s R k ++ List.replicate (64 - 4 * k) 0)) ∧ Hid (W3.grownBy wr (some (g3 + 1)))) (fun i _ => 16 - (intOf i).toNat)
  case atStart => exact ⟨0, by omega, rfl, HZ3.out, grownBy_refl _ _⟩
  case round =>
    clear HZ3
    obtain ⟨k, hk, rfl, H4, G4⟩ := hrel
    by_cases hlt : k < 16
    · have c3 := (H3.out.grown G4.out (by omega)).cell k (by rw [HRL.out]; exact hlt)
      have cs := (HS3.out.grown G4.out (by omega)).cell k (by rw [HSL.out]; exact hlt)
      have k0 : (0 : Int) ≤ (k : Int) := by omega
      have k1 : (k : Int) < 16 := by omega
      have k2 : 4 * (k : Int) < 64 := by omega
      have k3 : 4 * (k : Int) + 1 < 64 := by omega
      have k4 : 4 * (k : Int) + 2 < 64 := by omega
      have k5 : 4 * (k : Int) + 3 < 64 := by omega
      have t0 : (4 * (k : Int)).toNat = 4 * k := by omega
      have t1 : (4 * (k : Int) + 1).toNat = 4 * k + 1 := by omega
      have t2 : (4 * (k : Int) + 2).toNat = 4 * k + 2 := by omega
      have t3 : (4 * (k : Int) + 3).toNat = 4 * k + 3 := by omega
      have HOK : Hid (Ch.outTo s R (k + 1) = _) := HO.out k
      generalize Sp.nth R k = x at *
      generalize Sp.nth s k = y at *
      go_wp2_with fail
      go_quiet (fail)
      obtain ⟨z, hz⟩ : ∃ z, (x + y) % 4294967296 = z := ⟨_, rfl⟩
      have hzi : ((x : Int) + (y : Int)) % 4294967296 = (z : Int) := by omega
      have hz32 : z < 4294967296 := by omega
      rw [hzi]
      rw [hz] at HOK
      clear hz hzi c3 cs
      have hol : (Ch.outTo s R k ++ List.replicate (64 - 4 * k) 0).length = 64 := by rw [List.length_append, Ch.outTo_length, List.length_replicate]; omega
      have e0 := H4.out.cell (4 * k) (by rw [hol]; omega)
      have e1 := H4.out.cell (4 * k + 1) (by rw [hol]; omega)
      have e2 := H4.out.cell (4 * k + 2) (by rw [hol]; omega)
      have e3 := H4.out.cell (4 * k + 3) (by rw [hol]; omega)
      have HN : Hid (ArAt ((((wr.drewN nq).setCell ⟨g3 + 1, 4 * k, none⟩ (.int .u8 ((z % 256 : Nat) : Int))).setCell ⟨g3 + 1, 4 * k + 1, none⟩ (.int .u8 ((z / 256 % 256 : Nat) : Int))).setCell ⟨g3 + 1, 4 * k + 2, none⟩ (.int .u8 ((z / 65536 % 256 : Nat) : Int)) |>.setCell ⟨g3 + 1, 4 * k + 3, none⟩ (.int .u8 ((z / 16777216 : Nat) : Int))) (g3 + 1) (Ch.outTo s R (k + 1) ++ List.replicate (64 - 4 * (k + 1)) 0)) := by
        rw [HOK.out, Ch.le4]
        rw [← out_set _ k _ _ _ _ (Ch.outTo_length s R k) hlt]
        have h4 : ArAt (wr.drewN nq) (g3 + 1) (Ch.outTo s R k ++ List.replicate (64 - 4 * k) 0) := H4.out
        exact (((h4.set (4 * k) _).set (4 * k + 1) _).set (4 * k + 2) _).set (4 * k + 3) _
      have HG : Hid (W3.grownBy ((((wr.drewN nq).setCell ⟨g3 + 1, 4 * k, none⟩ (.int .u8 ((z % 256 : Nat) : Int))).setCell ⟨g3 + 1, 4 * k + 1, none⟩ (.int .u8 ((z / 256 % 256 : Nat) : Int))).setCell ⟨g3 + 1, 4 * k + 2, none⟩ (.int .u8 ((z / 65536 % 256 : Nat) : Int)) |>.setCell ⟨g3 + 1, 4 * k + 3, none⟩ (.int .u8 ((z / 16777216 : Nat) : Int))) (some (g3 + 1))) :=
        grownBy_set (grownBy_set (grownBy_set (grownBy_set (grownBy_drewN G4.out nq) _ _) _ _) _ _) _ _
      have i0 : ((z % 256 : Nat) : Int) = (z : Int) % 256 := by omega
      have i1 : ((z / 256 % 256 : Nat) : Int) = (z : Int) / 256 % 256 := by omega
      have i2 : ((z / 65536 % 256 : Nat) : Int) = (z : Int) / 65536 % 256 := by omega
      have i3 : ((z / 16777216 : Nat) : Int) = (z : Int) / 16777216 := by omega
      rw [i0, i1, i2, i3] at HN HG
      have f0 := H4.out.may (4 * k)
      have f1 := H4.out.may (4 * k + 1)
      have f2 := H4.out.may (4 * k + 2)
      have f3 := H4.out.may (4 * k + 3)
      clear H4 G4 hol HOK i0 i1 i2 i3 HF HO HS HR
      go_wp2_with fail
      go_roundw
      case rel => exact ⟨k + 1, by omega, by go_num, HN.out, HG.out⟩
      case measure => simp [intOf]; omega
    · obtain rfl : k = 16 := by omega
      have h4 := H4.out
      rw [HF.out, show 64 - 4 * 16 = 0 from rfl, List.replicate_zero, List.append_nil] at h4
      have H5 : Hid (ArAt wr (g3 + 1) B) := h4
      have HA4 : Hid (ArAt wr (w.heap.size + 1) (List.replicate 64 0)) := HA3.out.grown G4.out (by omega)
      have HB4 : Hid (Below w.heap.size w wr) := below_grown HB3.out G4.out (by omega)
      clear h4 H4 G4 HO HF HS HR H3 HS3 HA3 HB3
      go_wp2_with (first | with_reducible (refine stop_load 137 ?_))
      refine Stop.go ?_
      with_reducible refine law_load_arr (g3 + 1) 0 .u8 B _ ?ux ?uc under38 rfl ?ui ?uk
      case ux => exact rfl
      case uc => exact rangeAt_of_row H5.out
      case ui => rw [HBL.out]; exact info38
      go_wp2_with (first | with_reducible (refine stop_store 137 ?_))
      refine Stop.go ?_
      with_reducible refine law_store (w.heap.size + 1) 0 (arr .u8 B) ?tx ?ty ?tt ?ti (ints_one _ _) ?tk
      case tx => exact rfl
      case ty => exact rfl
      case tt => rw [arr_size, HBL.out]; exact there_of_row HA4.out 64 (by simp [arr_size])
      case ti => rw [arr_size, HBL.out]; exact info38
      go_wp2_with fail
      refine bodyPost_ret (v := .agg (arr .u8 B)) (results_row rfl _ _ (w.heap.size + 1) 0 (ints .u8 B) _ rfl ?_ under38 rfl ?_) rfl ⟨rfl, ?_⟩
      · exact World.rangeAt_setCells_same _ _ _ _ (by rw [arr_list, ints_length, HBL.out]; exact there_of_row HA4.out 64 (by simp [arr_size]))
      · rw [ints_length, HBL.out]; exact info38
      · exact Below.setCells _ _ _ HB4.out (by omega)
end Go.Proofs.YtfjdaafckiefdaaGreatDoor.C3
/- The contracts of check and Block. -/
namespace Go.Proofs.YtfjdaafckiefdaaGreatDoor.C3
open Go.RowKit
theorem new38 (w : World) (B : List Nat) (h : B.length = 64) : ArAt (World.setCells (w.alloc (Obj.cells zeros64 137)) w.heap.size 0 (arr .u8 B).toList) w.heap.size B ∧
    Below w.heap.size w (World.setCells (w.alloc (Obj.cells zeros64 137)) w.heap.size 0 (arr .u8 B).toList) ∧ (World.setCells (w.alloc (Obj.cells zeros64 137)) w.heap.size 0 (arr .u8 B).toList).heap.size = w.heap.size + 1 := by
  refine ⟨?_, Below.setCells _ _ _ ((Below.refl _ _).alloc (Nat.le_refl _) _) (Nat.le_refl _), by rw [setCells_size]; simp⟩
  have hz0 : ArAt (w.alloc (Obj.cells zeros64 137)) w.heap.size (List.replicate 64 0) := heap_alloc_new w _
  have := heap_setCells w.heap.size 137 (ints .u8 B) 0 (w.alloc (Obj.cells zeros64 137)) (ints .u8 (List.replicate 64 0)) hz0 (by rw [ints_length, ints_length, h]; simp)
  unfold ArAt
  rw [arr_list]
  refine Eq.trans this ?_
  rw [ints_length, h]
  simp [arr, ints]
theorem there38 (w : World) : (w.alloc (Obj.cells zeros64 137)).there w.heap.size 0 64 := there_of_row (heap_alloc_new w (Obj.cells zeros64 137)) 64 (by simp [zeros64, arr_size])
theorem new41 (w : World) (S : List Nat) (h : S.length = 16) : StAt (World.setCells (w.alloc (Obj.cells zeros16 179)) w.heap.size 0 (arr .u32 S).toList) w.heap.size S ∧
    Below w.heap.size w (World.setCells (w.alloc (Obj.cells zeros16 179)) w.heap.size 0 (arr .u32 S).toList) ∧ (World.setCells (w.alloc (Obj.cells zeros16 179)) w.heap.size 0 (arr .u32 S).toList).heap.size = w.heap.size + 1 := by
  refine ⟨?_, Below.setCells _ _ _ ((Below.refl _ _).alloc (Nat.le_refl _) _) (Nat.le_refl _), by rw [setCells_size]; simp⟩
  have hz0 : StAt (w.alloc (Obj.cells zeros16 179)) w.heap.size (List.replicate 16 0) := heap_alloc_new w _
  have := heap_setCells w.heap.size 179 (ints .u32 S) 0 (w.alloc (Obj.cells zeros16 179)) (ints .u32 (List.replicate 16 0)) hz0 (by rw [ints_length, ints_length, h]; simp)
  unfold StAt
  rw [arr_list]
  refine Eq.trans this ?_
  rw [ints_length, h]
  simp [arr, ints]
theorem there41 (w : World) : (w.alloc (Obj.cells zeros16 179)).there w.heap.size 0 16 := there_of_row (heap_alloc_new w (Obj.cells zeros16 179)) 16 (by simp [zeros16, arr_size])
set_option maxHeartbeats 400000 in
theorem check_ok (p q : Option Addr) (c d : Nat) (z : Nat) (w : World) (h : z < 4294967296) :
    Calls Tryz.prog 132 #[.slice p 32 c, .int .i64 z, .slice q 12 d] w fun e w' => e = .returned (.int .i64 0) ∧ w' = w := by
  have h0 : ¬ (z : Int) < 0 := by omega
  have h1 : ¬ 4294967295 < (z : Int) := by omega
  go_enter Tryz.func132, Tryz.ntmps132
  go_wp2
  go_ret
  exact ⟨rfl, rfl⟩
/-- What is wrong: the error's number. -/
def Bad (n m : Nat) (z : Int) (e : Int) : Prop := ((n ≠ 32 ∨ m ≠ 12) ∧ e = 11) ∨ (n = 32 ∧ m = 12 ∧ (z < 0 ∨ 4294967295 < z) ∧ e = 12)
theorem Bad.ne {n m : Nat} {z e : Int} (h : Bad n m z e) : ¬ e = 0 := by
  rcases h with ⟨_, rfl⟩ | ⟨_, _, _, rfl⟩ <;> decide
set_option maxHeartbeats 400000 in
theorem Block_ok (key nonce : List Nat) (bk ok ck bn on cn c : Nat) (w : World) (hk : key.length = 32) (hn : nonce.length = 12) (hK : SliceIs w bk ok key) (hN : SliceIs w bn on nonce) (hc : c < 4294967296) (hck : 32 ≤ ck) (hcn : 12 ≤ cn) :
    Calls Tryz.prog 131 #[.slice (some ⟨bk, ok, none⟩) 32 ck, .int .i64 c, .slice (some ⟨bn, on, none⟩) 12 cn] w fun e w' => ∃ g, e = .returned (.tuple #[.slice (some ⟨g, 0, none⟩) 64 64, .int .i64 0]) ∧ w.heap.size ≤ g ∧ ArAt w' g (Ch.blockOf key c nonce) ∧ Below w.heap.size w w' := by
  have HC : Hid (∀ w', w' = w → Calls Tryz.prog 133 #[.slice (some ⟨bk, ok, none⟩) 32 ck, .int .i64 c, .slice (some ⟨bn, on, none⟩) 12 cn] w' fun e w' => e = .returned (.agg (arr .u32 (Ch.start key c nonce))) ∧ Below w.heap.size w w') := fun w' hw => by
    subst hw
    exact begin_any key nonce bk ok ck bn on cn c w' hk hn hK hN hc hck hcn
  have HS : Hid (Ch.Ok (Ch.start key c nonce)) := Ch.start_ok hK.1 hN.1 hc
  have HE : Hid (Ch.blockOf key c nonce = Ch.block (Ch.start key c nonce)) := rfl
  have HBL : Hid ((Ch.blockOf key c nonce).length = 64) := Ch.block_length _
  generalize Ch.blockOf key c nonce = B at *
  generalize Ch.start key c nonce = S at *
  clear hk hn hK hN
  go_enter Tryz.func131, Tryz.ntmps131
  go_wp2_with fail
  refine (check_ok _ _ ck cn c w hc).mono ?_
  rintro e' w' ⟨rfl, rfl⟩
  go_wp2_with fail
  refine (HC.out _ rfl).mono ?_
  rintro e' w1 ⟨rfl, hb1⟩
  have HB1 : Hid (Below w'.heap.size w' w1) := hb1
  clear hb1
  go_wp2_with fail
  refine (block_any S w1 HS.out).mono ?_
  rintro e' w2 ⟨rfl, hb2⟩
  rw [← HE.out]
  have HB2 : Hid (Below w'.heap.size w' w2) := HB1.out.trans (hb2.mono HB1.out.size)
  clear hb2 HB1 HE
  go_wp2_with (first | with_reducible (refine stop_store 137 ?_))
  rw [zeros64_eq]
  refine Stop.go ?_
  with_reducible refine law_store w2.heap.size 0 (arr .u8 B) ?sx ?sy ?st ?si (ints_one _ _) ?sk
  case sx => exact rfl
  case sy => exact rfl
  case st => rw [arr_size, HBL.out]; exact there38 w2
  case si => rw [arr_size, HBL.out]; exact info38
  obtain ⟨h1, h2, h3⟩ := new38 w2 B HBL.out
  have H1 : Hid (ArAt (World.setCells (w2.alloc (Obj.cells zeros64 137)) w2.heap.size 0 (arr .u8 B).toList) w2.heap.size B) := h1
  have HB3 : Hid (Below w'.heap.size w' (World.setCells (w2.alloc (Obj.cells zeros64 137)) w2.heap.size 0 (arr .u8 B).toList)) := HB2.out.trans (h2.mono HB2.out.size)
  have hs2 := HB2.out.size
  clear h1 h2 h3 HB2
  generalize World.setCells (w2.alloc (Obj.cells zeros64 137)) w2.heap.size 0 (arr .u8 B).toList = w3 at *
  go_wp2_with fail
  refine bodyPost_ret (results_tmp2 rfl _ _ _) rfl ?_
  exact ⟨w2.heap.size, rfl, hs2, H1.out, HB3.out⟩
end Go.Proofs.YtfjdaafckiefdaaGreatDoor.C3
/- The contract of XOR. -/
namespace Go.Proofs.YtfjdaafckiefdaaGreatDoor.C3
open Go.RowKit
theorem info5e : ∃ i, Tryz.prog.info? 5 = some i ∧ i.size = 1 ∧ i.bytes = 1 ∧ i.zero = some (.int .u8 0) := info_of (by kernel_rfl)
theorem make_bytes (l c : Nat) (k : IntKind) (hlc : l ≤ c) (hc : c ≤ 281474976710656) (w : World) :
    (Instr.makeSlice 22 (.int k (l : Int)) (.int k (c : Int))).run Tryz.prog w = .ok (.slice (some ⟨w.heap.size, 0, none⟩) l c) (w.alloc (.cells (arr .u8 (List.replicate c 0)) 5)) := by
  obtain ⟨i, hi, hs, hb, hz⟩ := info5e
  have := run_make (P := Tryz.prog) w 22 5 i _ Tryz.underlying22 hi hz k k (l : Int) (c : Int) (by omega) (by omega) (by rw [hb]; omega) (by omega)
  rw [this, hs, ← made_zeros]
  simp [Value.cells]
/-- A row of bytes in a block of its own. -/
def BRow (w : World) (g : Nat) (l : List Nat) : Prop := w.heap[g]? = some (.cells (arr .u8 l) 5 (0, 0))
section
variable {w : World} {g : Nat} {l : List Nat}
theorem BRow.set (h : BRow w g l) (i x : Nat) : BRow (w.setCell ⟨g, i, none⟩ (.int .u8 (x : Nat))) g (l.set i x) := by
  have := heap_setCell_same w g i (arr .u8 l) 5 (.int .u8 (x : Nat)) h
  unfold BRow
  rw [this]
  congr 2
  apply Array.ext'
  simp [arr, ints]
theorem BRow.cell (h : BRow w g l) (i : Nat) (hi : i < l.length) : w.cell? ⟨g, i, none⟩ = some (.int .u8 (Sp.nth l i : Nat)) := by
  rw [cell_of_row _ _ _ _ _ _ h]; exact arr_get _ _ _ hi
theorem BRow.may (h : BRow w g l) (i : Nat) : w.frozen? ⟨g, i, none⟩ = false := frozen_of_row _ _ _ _ _ h
theorem BRow.grown {w' : World} {g' : Nat} (h : BRow w g l) (hg : w.grownBy w' (some g')) (hne : g ≠ g') : BRow w' g l := by
  have := hg.block g (Array.getElem?_eq_some_iff.1 h).1 (by simpa using hne)
  exact this.trans h
theorem BRow.below {w' : World} {B : Nat} (h : BRow w g l) (hb : Below B w w') (hg : g < B) : BRow w' g l := (hb.block g hg).trans h
theorem BRow.lt (h : BRow w g l) : g < w.heap.size := (Array.getElem?_eq_some_iff.1 h).1
end
theorem StAt.lt {w : World} {g : Nat} {l : List Nat} (h : StAt w g l) : g < w.heap.size := (Array.getElem?_eq_some_iff.1 h).1
theorem ArAt.lt {w : World} {g : Nat} {l : List Nat} (h : ArAt w g l) : g < w.heap.size := (Array.getElem?_eq_some_iff.1 h).1
theorem put_set (a : List Nat) (n x : Nat) (h : a.length < n) : (a ++ List.replicate (n - a.length) 0).set a.length x = a ++ [x] ++ List.replicate (n - (a.length + 1)) 0 := by
  rw [show n - a.length = (n - (a.length + 1)) + 1 from by omega, List.replicate_succ, List.set_append_right _ _ (Nat.le_refl _)]
  simp
/-- The bytes that any slice stands for. -/
def TextIs (w : World) (p : Option Addr) (l : List Nat) : Prop := (∀ x ∈ l, x < 256) ∧ (l ≠ [] → ∃ b o, p = some ⟨b, o, none⟩ ∧ w.rangeAt b o (ints .u8 l))
set_option maxHeartbeats 1000000 in
theorem XOR_ok (key nonce text : List Nat) (bk ok ck bn on cn c n ct : Nat) (pt : Option Addr) (w : World) (hk : key.length = 32) (hn : nonce.length = 12) (hK : SliceIs w bk ok key) (hN : SliceIs w bn on nonce) (hc : c < 4294967296) (hck : 32 ≤ ck) (hcn : 12 ≤ cn)
    (hT : TextIs w pt text) (htl : text.length = n) (hnl : n ≤ 1000000) :
    Calls Tryz.prog 116 #[.slice (some ⟨bk, ok, none⟩) 32 ck, .int .i64 c, .slice (some ⟨bn, on, none⟩) 12 cn, .slice pt n ct] w fun e w' => ∃ g, e = .returned (.tuple #[.slice (some ⟨g, 0, none⟩) n n, .int .i64 0]) ∧ w.heap.size ≤ g ∧ BRow w' g (Ch.xor key c nonce text) ∧ Below w.heap.size w w' := by
  have HC : Hid (∀ w', w' = w → Calls Tryz.prog 133 #[.slice (some ⟨bk, ok, none⟩) 32 ck, .int .i64 c, .slice (some ⟨bn, on, none⟩) 12 cn] w' fun e w' => e = .returned (.agg (arr .u32 (Ch.start key c nonce))) ∧ Below w.heap.size w w') := fun w' hw => by
    subst hw
    exact begin_any key nonce bk ok ck bn on cn c w' hk hn hK hN hc hck hcn
  have HS : Hid (∀ d, d < 4294967296 → Ch.Ok (Ch.start key d nonce)) := fun d hd => Ch.start_ok hK.1 hN.1 hd
  have HT : Hid (TextIs w pt text) := hT
  have HTL : Hid (text.length = n) := htl
  clear hk hn hK hN hT htl
  have n0 : (n : Int) ≤ 1000000 := by omega
  have hmk := fun w => make_bytes n n .i64 (Nat.le_refl _) (by omega) w
  go_enter Tryz.func116, Tryz.ntmps116
  go_wp2_with fail
  refine (check_ok _ _ ck cn c w hc).mono ?_
  rintro e' w' ⟨rfl, rfl⟩
  go_wp2_with fail
  refine (HC.out _ rfl).mono ?_
  rintro e' w1 ⟨rfl, hb1⟩
  have HB1 : Hid (Below w'.heap.size w' w1) := hb1
  clear hb1 HC
  have HSL : Hid ((Ch.start key c nonce).length = 16) := (HS.out c hc).1
  go_wp2_with (first | with_reducible (refine stop_store 179 ?_))
  rw [zeros16_eq]
  refine Stop.go ?_
  with_reducible refine law_store w1.heap.size 0 (arr .u32 (Ch.start key c nonce)) ?sx ?sy ?st ?si (ints_one _ _) ?sk
  case sx => exact rfl
  case sy => exact rfl
  case st => rw [arr_size, HSL.out]; exact there41 w1
  case si => rw [arr_size, HSL.out]; exact info41
  obtain ⟨h1, h2, h3⟩ := new41 w1 _ HSL.out
  have H1 : Hid (StAt (World.setCells (w1.alloc (Obj.cells zeros16 179)) w1.heap.size 0 (arr .u32 (Ch.start key c nonce)).toList) w1.heap.size (Ch.start key c nonce)) := h1
  have HB2 : Hid (Below w'.heap.size w' (World.setCells (w1.alloc (Obj.cells zeros16 179)) w1.heap.size 0 (arr .u32 (Ch.start key c nonce)).toList)) := HB1.out.trans (h2.mono HB1.out.size)
  have hs1 := HB1.out.size
  clear h1 h2 HB1 HSL
  generalize World.setCells (w1.alloc (Obj.cells zeros16 179)) w1.heap.size 0 (arr .u32 (Ch.start key c nonce)).toList = w2 at *
  generalize w1.heap.size = gs at *
  go_wp2_with fail
  have HO0 : Hid (BRow (w2.alloc (Obj.cells (arr .u8 (List.replicate n 0)) 5)) (gs + 1) (List.replicate n 0)) := by
    have := heap_alloc_new w2 (Obj.cells (arr .u8 (List.replicate n 0)) 5)
    rw [h3] at this
    exact this
  have HS0 : Hid (StAt (w2.alloc (Obj.cells (arr .u8 (List.replicate n 0)) 5)) gs (Ch.start key c nonce)) := H1.out.grown (grownBy_alloc w2 _ (some (gs + 1))) (by omega)
  have HB3 : Hid (Below w'.heap.size w' (w2.alloc (Obj.cells (arr .u8 (List.replicate n 0)) 5))) := HB2.out.alloc HB2.out.size _
  clear H1 HB2 h3 hmk
  generalize w2.alloc (Obj.cells (arr .u8 (List.replicate n 0)) 5) = W0 at *
  go_loopw [13] (fun i wr => ∃ k : Nat, 64 * k < n + 64 ∧ i = .int .i64 ((64 * k : Nat) : Int) ∧ Hid (BRow wr (gs + 1) (Ch.xorTo key c nonce text (min (64 * k) n) ++ List.replicate (n - min (64 * k) n) 0)) ∧ Hid (StAt wr gs (Ch.start key ((c + k) % 4294967296) nonce)) ∧ Hid (Below w'.heap.size w' wr)) (fun i _ => n - (intOf i).toNat)
  case atStart =>
    refine ⟨0, by omega, rfl, ?_, ?_, HB3.out⟩
    · have := HO0.out
      rw [show min (64 * 0) n = 0 from by omega]
      exact this
    · rw [show (c + 0) % 4294967296 = c from by omega]
      exact HS0.out
  case round =>
    clear HO0 HS0 HB3
    obtain ⟨k, hk, rfl, HO, HST, HB⟩ := hrel
    by_cases hlt : 64 * k < n
    · obtain ⟨A, hA⟩ : ∃ A, 64 * k = A := ⟨_, rfl⟩
      rw [hA] at hlt hk HO
      rw [hA]
      rw [show min A n = A from by omega] at HO
      obtain ⟨bt, ot, rfl, hrt⟩ := HT.out.2 (by intro e; have := HTL.out; rw [e] at this; simp at this; omega)
      have hbt : bt < w'.heap.size := by
        have := hrt 0 _ (ints_get .u8 text 0 (by rw [HTL.out]; omega))
        exact World.block_lt_of_cell? w' _ this
      have HRT : Hid (w'.rangeAt bt ot (ints .u8 text)) := hrt
      have HTS : Hid (∀ x ∈ text, x < 256) := HT.out.1
      clear hrt HT
      have hd : (c + k) % 4294967296 < 4294967296 := Nat.mod_lt _ (by decide)
      have hok := HS.out _ hd
      have HSL : Hid ((Ch.start key ((c + k) % 4294967296) nonce).length = 16) := hok.1
      have HCB : Hid (∀ w, Calls Tryz.prog 134 #[.agg (arr .u32 (Ch.start key ((c + k) % 4294967296) nonce))] w fun e w' => e = .returned (.agg (arr .u8 (Ch.blockOf key ((c + k) % 4294967296) nonce))) ∧ Below w.heap.size w w') := fun w => block_any _ w hok
      have HBL : Hid ((Ch.blockOf key ((c + k) % 4294967296) nonce).length = 64) := Ch.block_length _
      have HBS : Hid (∀ x ∈ Ch.blockOf key ((c + k) % 4294967296) nonce, x < 256) := Ch.block_lt _
      have HNX : Hid ((Ch.start key ((c + k) % 4294967296) nonce).set 12 (((c + k) % 4294967296 + 1) % 4294967296) = Ch.start key ((c + (k + 1)) % 4294967296) nonce) := by
        rw [show ((c + k) % 4294967296 + 1) % 4294967296 = (c + (k + 1)) % 4294967296 from by omega]
        rfl
      have HNT : Hid (Sp.nth (Ch.start key ((c + k) % 4294967296) nonce) 12 = (c + k) % 4294967296) := rfl
      have HBY : Hid (∀ j, j < 64 → Ch.byteAt key c nonce (A + j) = Sp.nth (Ch.blockOf key ((c + k) % 4294967296) nonce) j) := fun j hj => by
        unfold Ch.byteAt
        rw [show (A + j) / 64 = k from by omega, show (A + j) % 64 = j from by omega]
      clear hok hd
      generalize Ch.blockOf key ((c + k) % 4294967296) nonce = B at *
      generalize Ch.start key ((c + k) % 4294967296) nonce = S at *
      have a0 : (A : Int) < (n : Int) := by omega
      go_wp2_with (first | with_reducible (refine stop_load 179 ?_))
      refine Stop.go ?_
      with_reducible refine law_load_arr gs 0 .u32 S _ ?lx ?lc under41 rfl ?li ?lk
      case lx => exact rfl
      case lc => exact rangeAt_of_row HST.out
      case li => rw [HSL.out]; exact info41
      go_wp2_with fail
      refine (HCB.out _).mono ?_
      rintro e' w3 ⟨rfl, hb3⟩
      have hgo := HO.out.lt
      have HO3 : Hid (BRow w3 (gs + 1) (Ch.xorTo key c nonce text A ++ List.replicate (n - A) 0)) := HO.out.below hb3 HO.out.lt
      have HST3 : Hid (StAt w3 gs S) := HST.out.below hb3 HST.out.lt
      have hsb := HB.out.size
      have HB3 : Hid (Below w'.heap.size w' w3) := HB.out.trans (hb3.mono hsb)
      have hs3 := hb3.size
      clear hb3 HO HST HB HCB
      go_wp2_with (first | with_reducible (refine stop_store 137 ?_))
      rw [zeros64_eq]
      refine Stop.go ?_
      with_reducible refine law_store w3.heap.size 0 (arr .u8 B) ?tx ?ty ?tt ?ti (ints_one _ _) ?tk
      case tx => exact rfl
      case ty => exact rfl
      case tt => rw [arr_size, HBL.out]; exact there38 w3
      case ti => rw [arr_size, HBL.out]; exact info38
      obtain ⟨h1, h2, h3⟩ := new38 w3 B HBL.out
      have HA4 : Hid (ArAt (World.setCells (w3.alloc (Obj.cells zeros64 137)) w3.heap.size 0 (arr .u8 B).toList) w3.heap.size B) := h1
      have HO4 : Hid (BRow (World.setCells (w3.alloc (Obj.cells zeros64 137)) w3.heap.size 0 (arr .u8 B).toList) (gs + 1) (Ch.xorTo key c nonce text A ++ List.replicate (n - A) 0)) := HO3.out.below h2 HO3.out.lt
      have HST4 : Hid (StAt (World.setCells (w3.alloc (Obj.cells zeros64 137)) w3.heap.size 0 (arr .u8 B).toList) gs S) := HST3.out.below h2 HST3.out.lt
      have HB4 : Hid (Below w'.heap.size w' (World.setCells (w3.alloc (Obj.cells zeros64 137)) w3.heap.size 0 (arr .u8 B).toList)) := HB3.out.trans (h2.mono HB3.out.size)
      clear h1 h2 h3 HO3 HST3 HB3
      generalize World.setCells (w3.alloc (Obj.cells zeros64 137)) w3.heap.size 0 (arr .u8 B).toList = W4 at *
      have g4 : gs + 1 < w3.heap.size := by omega
      generalize w3.heap.size = gb at *
      clear hgo hsb hs3
      by_cases h64 : 64 ≤ n - A
      · have h64' : (64 : Int) ≤ (n : Int) - (A : Int) := by omega
        go_wp2_with fail
        go_loopw [43] (fun i wr => ∃ j : Nat, j ≤ 64 ∧ i = .int .i64 j ∧ Hid (BRow wr (gs + 1) (Ch.xorTo key c nonce text (A + j) ++ List.replicate (n - (A + j)) 0)) ∧ Hid (W4.grownBy wr (some (gs + 1)))) (fun i _ => 64 - (intOf i).toNat)
        case atStart => exact ⟨0, by omega, rfl, HO4.out, grownBy_refl _ _⟩
        case round =>
          clear HO4
          obtain ⟨j, hj, rfl, HO5, HG5⟩ := hrel
          by_cases hjl : j < 64
          · have hr5 := rangeAt_grown (rangeAt_below HB4.out HRT.out) HG5.out (show bt ≠ gs + 1 by omega)
            have ct1 := range_cell hr5 (A + j) (by rw [HTL.out]; omega)
            have ca1 := (HA4.out.grown HG5.out (by omega)).cell j (by rw [HBL.out]; omega)
            have hol : (Ch.xorTo key c nonce text (A + j)).length = A + j := Ch.xorTo_length _ _ _ _ _
            have co1 := HO5.out.cell (A + j) (by rw [List.length_append, hol, List.length_replicate]; omega)
            have fo1 := HO5.out.may (A + j)
            have x1 : Sp.nth text (A + j) < 256 := Sp.nth_lt (by decide) HTS.out _
            have x2 : Sp.nth B j < 256 := Sp.nth_lt (by decide) HBS.out _
            have hx := u8_xor_nat _ _ x1 x2
            have hy := HBY.out j (by omega)
            have HN : Hid (BRow ((wr.setCell ⟨gs + 1, A + j, none⟩ (.int .u8 ((Sp.nth text (A + j) ^^^ Sp.nth B j : Nat) : Int))).drewN 1) (gs + 1) (Ch.xorTo key c nonce text (A + (j + 1)) ++ List.replicate (n - (A + (j + 1))) 0)) := by
              have e := put_set (Ch.xorTo key c nonce text (A + j)) n (Sp.nth text (A + j) ^^^ Sp.nth B j) (by rw [hol]; omega)
              rw [hol] at e
              show BRow _ _ (Ch.xorTo key c nonce text (A + j + 1) ++ List.replicate (n - (A + j + 1)) 0)
              rw [Ch.xorTo_succ, hy, ← e]
              exact HO5.out.set (A + j) _
            have HGN : Hid (W4.grownBy ((wr.setCell ⟨gs + 1, A + j, none⟩ (.int .u8 ((Sp.nth text (A + j) ^^^ Sp.nth B j : Nat) : Int))).drewN 1) (some (gs + 1))) := grownBy_drewN (grownBy_set HG5.out _ _) 1
            generalize Sp.nth (Ch.xorTo key c nonce text (A + j) ++ List.replicate (n - (A + j)) 0) (A + j) = old at *
            generalize Sp.nth text (A + j) = y1 at *
            generalize Sp.nth B j = y2 at *
            clear hr5 hol hy HO5 HG5 x1 x2
            have j0 : (0 : Int) ≤ (j : Int) := by omega
            have j1 : (j : Int) < 64 := by omega
            have j2 : (j : Int) < 64 := by omega
            have q0 : (0 : Int) ≤ (A : Int) + (j : Int) := by omega
            have q1 : (A : Int) + (j : Int) < (n : Int) := by omega
            have q2 : ((A : Int) + (j : Int)).toNat = A + j := by omega
            have v1 : IntKind.i64.wrap ((A : Int) + (j : Int)) = (A : Int) + (j : Int) := i64_id _ (by omega)
            have ne1 : gs + 1 ≠ bt := by omega
            have ne2 : gs + 1 ≠ gb := by omega
            go_wp2
            go_region
            go_wp2
            go_roundw
            case rel => exact ⟨j + 1, by omega, by go_num, HN.out, HGN.out⟩
            case measure => simp [intOf]; omega
          · obtain rfl : j = 64 := by omega
            have H6 : Hid (StAt wr gs S) := HST4.out.grown HG5.out (by omega)
            have HB6 : Hid (Below w'.heap.size w' wr) := below_grown HB4.out HG5.out (by omega)
            have c12 := H6.out.cell 12 (by rw [HSL.out]; decide)
            have f12 := H6.out.may 12
            rw [HNT.out] at c12
            have HS7 : Hid (StAt (wr.setCell ⟨gs, 12, none⟩ (.int .u32 ((((c + k) % 4294967296 + 1) % 4294967296 : Nat) : Int))) gs (Ch.start key ((c + (k + 1)) % 4294967296) nonce)) := by
              rw [← HNX.out]
              exact H6.out.set 12 _
            have HB7 : Hid (Below w'.heap.size w' (wr.setCell ⟨gs, 12, none⟩ (.int .u32 ((((c + k) % 4294967296 + 1) % 4294967296 : Nat) : Int)))) := HB6.out.setCell hs1 _
            have HO7 : Hid (BRow (wr.setCell ⟨gs, 12, none⟩ (.int .u32 ((((c + k) % 4294967296 + 1) % 4294967296 : Nat) : Int))) (gs + 1) (Ch.xorTo key c nonce text (A + 64) ++ List.replicate (n - (A + 64)) 0)) :=
              HO5.out.grown (grownBy_set (grownBy_refl wr (some gs)) 12 _) (by omega)
            have ei : ((((c + k) % 4294967296 + 1) % 4294967296 : Nat) : Int) = (((c + k) % 4294967296 : Nat) + 1 : Int) % 4294967296 := by omega
            rw [ei] at HS7 HB7 HO7
            clear H6 HB6 HO5 HG5 HNX HNT HST4 HB4 HBY ei
            generalize (c + k) % 4294967296 = z at *
            have hzz : ((z : Nat) : Int) + 1 = (z : Int) + 1 := rfl
            go_wp2_with fail
            go_roundw
            case rel =>
              refine ⟨k + 1, by omega, by go_num, ?_, HS7.out, HB7.out⟩
              rw [show min (64 * (k + 1)) n = A + 64 from by omega]
              exact HO7.out
            case measure => simp [intOf]; omega
      · have h64' : ¬ (64 : Int) ≤ (n : Int) - (A : Int) := by omega
        obtain ⟨m, hm⟩ : ∃ m, n - A = m := ⟨_, rfl⟩
        have hm' : (n : Int) - (A : Int) = (m : Int) := by omega
        go_wp2_with fail
        go_loopw [43] (fun i wr => ∃ j : Nat, j ≤ m ∧ i = .int .i64 j ∧ Hid (BRow wr (gs + 1) (Ch.xorTo key c nonce text (A + j) ++ List.replicate (n - (A + j)) 0)) ∧ Hid (W4.grownBy wr (some (gs + 1)))) (fun i _ => m - (intOf i).toNat)
        case atStart => exact ⟨0, by omega, rfl, HO4.out, grownBy_refl _ _⟩
        case round =>
          clear HO4
          obtain ⟨j, hj, rfl, HO5, HG5⟩ := hrel
          by_cases hjl : j < m
          · have hr5 := rangeAt_grown (rangeAt_below HB4.out HRT.out) HG5.out (show bt ≠ gs + 1 by omega)
            have ct1 := range_cell hr5 (A + j) (by rw [HTL.out]; omega)
            have ca1 := (HA4.out.grown HG5.out (by omega)).cell j (by rw [HBL.out]; omega)
            have hol : (Ch.xorTo key c nonce text (A + j)).length = A + j := Ch.xorTo_length _ _ _ _ _
            have co1 := HO5.out.cell (A + j) (by rw [List.length_append, hol, List.length_replicate]; omega)
            have fo1 := HO5.out.may (A + j)
            have x1 : Sp.nth text (A + j) < 256 := Sp.nth_lt (by decide) HTS.out _
            have x2 : Sp.nth B j < 256 := Sp.nth_lt (by decide) HBS.out _
            have hx := u8_xor_nat _ _ x1 x2
            have hy := HBY.out j (by omega)
            have HN : Hid (BRow ((wr.setCell ⟨gs + 1, A + j, none⟩ (.int .u8 ((Sp.nth text (A + j) ^^^ Sp.nth B j : Nat) : Int))).drewN 1) (gs + 1) (Ch.xorTo key c nonce text (A + (j + 1)) ++ List.replicate (n - (A + (j + 1))) 0)) := by
              have e := put_set (Ch.xorTo key c nonce text (A + j)) n (Sp.nth text (A + j) ^^^ Sp.nth B j) (by rw [hol]; omega)
              rw [hol] at e
              show BRow _ _ (Ch.xorTo key c nonce text (A + j + 1) ++ List.replicate (n - (A + j + 1)) 0)
              rw [Ch.xorTo_succ, hy, ← e]
              exact HO5.out.set (A + j) _
            have HGN : Hid (W4.grownBy ((wr.setCell ⟨gs + 1, A + j, none⟩ (.int .u8 ((Sp.nth text (A + j) ^^^ Sp.nth B j : Nat) : Int))).drewN 1) (some (gs + 1))) := grownBy_drewN (grownBy_set HG5.out _ _) 1
            generalize Sp.nth (Ch.xorTo key c nonce text (A + j) ++ List.replicate (n - (A + j)) 0) (A + j) = old at *
            generalize Sp.nth text (A + j) = y1 at *
            generalize Sp.nth B j = y2 at *
            clear hr5 hol hy HO5 HG5 x1 x2
            have j0 : (0 : Int) ≤ (j : Int) := by omega
            have j1 : (j : Int) < 64 := by omega
            have j2 : (j : Int) < (m : Int) := by omega
            have q0 : (0 : Int) ≤ (A : Int) + (j : Int) := by omega
            have q1 : (A : Int) + (j : Int) < (n : Int) := by omega
            have q2 : ((A : Int) + (j : Int)).toNat = A + j := by omega
            have v1 : IntKind.i64.wrap ((A : Int) + (j : Int)) = (A : Int) + (j : Int) := i64_id _ (by omega)
            have ne1 : gs + 1 ≠ bt := by omega
            have ne2 : gs + 1 ≠ gb := by omega
            go_wp2
            go_region
            go_wp2
            go_roundw
            case rel => exact ⟨j + 1, by omega, by go_num, HN.out, HGN.out⟩
            case measure => simp [intOf]; omega
          · obtain rfl : j = m := by omega
            have H6 : Hid (StAt wr gs S) := HST4.out.grown HG5.out (by omega)
            have HB6 : Hid (Below w'.heap.size w' wr) := below_grown HB4.out HG5.out (by omega)
            have c12 := H6.out.cell 12 (by rw [HSL.out]; decide)
            have f12 := H6.out.may 12
            rw [HNT.out] at c12
            have HS7 : Hid (StAt (wr.setCell ⟨gs, 12, none⟩ (.int .u32 ((((c + k) % 4294967296 + 1) % 4294967296 : Nat) : Int))) gs (Ch.start key ((c + (k + 1)) % 4294967296) nonce)) := by
              rw [← HNX.out]
              exact H6.out.set 12 _
            have HB7 : Hid (Below w'.heap.size w' (wr.setCell ⟨gs, 12, none⟩ (.int .u32 ((((c + k) % 4294967296 + 1) % 4294967296 : Nat) : Int)))) := HB6.out.setCell hs1 _
            have HO7 : Hid (BRow (wr.setCell ⟨gs, 12, none⟩ (.int .u32 ((((c + k) % 4294967296 + 1) % 4294967296 : Nat) : Int))) (gs + 1) (Ch.xorTo key c nonce text (A + j) ++ List.replicate (n - (A + j)) 0)) :=
              HO5.out.grown (grownBy_set (grownBy_refl wr (some gs)) 12 _) (by omega)
            have ei : ((((c + k) % 4294967296 + 1) % 4294967296 : Nat) : Int) = (((c + k) % 4294967296 : Nat) + 1 : Int) % 4294967296 := by omega
            rw [ei] at HS7 HB7 HO7
            clear H6 HB6 HO5 HG5 HNX HNT HST4 HB4 HBY ei
            generalize (c + k) % 4294967296 = z at *
            have hzz : ((z : Nat) : Int) + 1 = (z : Int) + 1 := rfl
            go_wp2_with fail
            go_roundw
            case rel =>
              refine ⟨k + 1, by omega, by go_num, ?_, HS7.out, HB7.out⟩
              rw [show min (64 * (k + 1)) n = A + j from by omega]
              exact HO7.out
            case measure => simp [intOf]; omega
    · have hO := HO.out
      rw [show min (64 * k) n = n from by omega, Nat.sub_self, List.replicate_zero, List.append_nil] at hO
      have hE : Ch.xorTo key c nonce text n = Ch.xor key c nonce text := by rw [Ch.xor, HTL.out]
      rw [hE] at hO
      have H9 : Hid (BRow wr (gs + 1) (Ch.xor key c nonce text)) := hO
      have l0 : ¬ (((64 * k : Nat) : Int) < (n : Int)) := by omega
      clear hO hE HO HST HS
      generalize ((64 * k : Nat) : Int) = zA at *
      go_wp2_with fail
      refine bodyPost_ret (results_tmp2 rfl _ _ _) rfl ?_
      exact ⟨gs + 1, rfl, by omega, H9.out, HB.out⟩
end Go.Proofs.YtfjdaafckiefdaaGreatDoor.C3
/- Bytes as a string; the document's example by the kernel's own reckoning; the contract of the statements' anchor. -/
namespace Go.Proofs.YtfjdaafckiefdaaGreatDoor.C3
open Go.RowKit
def strB (l : List Nat) : ByteArray := (l.map (fun (n : Nat) => (n : Int))).foldl (fun r n => r.push (UInt8.ofNat n.toNat)) ByteArray.empty
theorem run_conv (w : World) (b o c : Nat) (l : List Nat) (h : w.rangeAt b o (ints .u8 l)) : (convert 22 9 (.slice (some ⟨b, o, none⟩) l.length c)).run Tryz.prog w = .ok (.string (strB l)) w := by
  rw [run_convert_bytes_string w 22 9 5 _ _ _ Tryz.underlying22 Tryz.underlying5 Tryz.underlying9]
  have hl : (loadCells ⟨b, o, none⟩ (ints .u8 l).length).run Tryz.prog w = .ok (ints .u8 l).toArray w :=
    run_loadCells_list (P := Tryz.prog) w ⟨b, o, none⟩ (ints .u8 l) (fun j v hv => by rw [Addr.add_mid]; exact h j v hv)
  rw [ints_length] at hl
  have e : (ints .u8 l) = (l.map (fun (n : Nat) => (n : Int))).map (Value.int .u8) := by simp [ints]
  rw [e] at hl
  exact run_bytesToString w ⟨b, o, none⟩ l.length c _ hl
theorem rangeAt_take {w : World} {b o : Nat} {l : List Nat} (h : w.rangeAt b o (ints .u8 l)) (n : Nat) : w.rangeAt b o (ints .u8 (l.take n)) := fun j v hv => by
  apply h j v
  rw [← hv]
  have hj := (List.getElem?_eq_some_iff.1 hv).1
  simp [ints] at hj ⊢
  rw [List.getElem?_take_of_lt (by omega), List.getElem?_map]
end Go.Proofs.YtfjdaafckiefdaaGreatDoor.C3
/- What the statements over arrays have in common: the two arrays in blocks of their own, XOR and Block over them, texts. -/
namespace Go.Proofs.YtfjdaafckiefdaaGreatDoor.C3
open Go.RowKit
theorem TextIs.below {w w' : World} {p : Option Addr} {l : List Nat} (h : TextIs w p l) (hb : Below w.heap.size w w') : TextIs w' p l :=
  ⟨h.1, fun h0 => by obtain ⟨b, o, rfl, hr⟩ := h.2 h0; exact ⟨b, o, rfl, rangeAt_below hb hr⟩⟩
theorem TextIs.take {w : World} {p : Option Addr} {l : List Nat} (h : TextIs w p l) (n : Nat) : TextIs w p (l.take n) :=
  ⟨fun x hx => h.1 x (List.mem_of_mem_take hx), fun h0 => by
    obtain ⟨b, o, rfl, hr⟩ := h.2 (by intro e; rw [e] at h0; simp at h0)
    exact ⟨b, o, rfl, rangeAt_take hr n⟩⟩
theorem BRow.text {w : World} {g : Nat} {l : List Nat} (h : BRow w g l) (hs : ∀ x ∈ l, x < 256) : TextIs w (some ⟨g, 0, none⟩) l := ⟨hs, fun _ => ⟨g, 0, rfl, rangeAt_of_row h⟩⟩
end Go.Proofs.YtfjdaafckiefdaaGreatDoor.C3
