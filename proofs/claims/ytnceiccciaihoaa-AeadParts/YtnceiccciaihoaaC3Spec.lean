/- The plain mathematics of ChaCha20, over natural numbers: what the walks' contracts speak of. -/
import Derived.Test.YtnceiccciaihoaaLaws
namespace Go.Proofs.Ytnceiccciaihoaa.C3
open Sp
namespace Ch
def rotl (x n : Nat) : Nat := x * 2 ^ n % 4294967296 + x * 2 ^ n / 4294967296
def step (s : List Nat) (a b d n : Nat) : List Nat :=
  (s.set a ((nth s a + nth s b) % 4294967296)).set d (rotl (nth (s.set a ((nth s a + nth s b) % 4294967296)) d ^^^ nth (s.set a ((nth s a + nth s b) % 4294967296)) a) n)
def quarter (s : List Nat) (a b c d : Nat) : List Nat := step (step (step (step s a b d 16) c d b 12) a b d 8) c d b 7
def round (s : List Nat) : List Nat :=
  quarter (quarter (quarter (quarter (quarter (quarter (quarter (quarter s 0 4 8 12) 1 5 9 13) 2 6 10 14) 3 7 11 15) 0 5 10 15) 1 6 11 12) 2 7 8 13) 3 4 9 14
def rounds (s : List Nat) : Nat → List Nat
  | 0 => s
  | n + 1 => round (rounds s n)
/-- Four bytes as a number, the lowest first. -/
def word (b : List Nat) (i : Nat) : Nat := nth b i + nth b (i + 1) * 256 + nth b (i + 2) * 65536 + nth b (i + 3) * 16777216
def words (b : List Nat) (n : Nat) : List Nat := (List.range n).map fun i => word b (4 * i)
/-- The sixteen numbers that a block is made of. -/
def start (key : List Nat) (counter : Nat) (nonce : List Nat) : List Nat :=
  [0x61707865, 0x3320646e, 0x79622d32, 0x6b206574] ++ words key 8 ++ [counter] ++ words nonce 3
/-- A number's four bytes, the lowest first. -/
def le4 (x : Nat) : List Nat := [x % 256, x / 256 % 256, x / 65536 % 256, x / 16777216]
def outTo (s t : List Nat) (k : Nat) : List Nat := (List.range k).flatMap fun i => le4 ((nth t i + nth s i) % 4294967296)
def block (s : List Nat) : List Nat := outTo s (rounds s 10) 16
/-- The block of a key, a counter and a nonce. -/
def blockOf (key : List Nat) (c : Nat) (nonce : List Nat) : List Nat := block (start key c nonce)
/-- The stream's byte at a place. -/
def byteAt (key : List Nat) (c : Nat) (nonce : List Nat) (i : Nat) : Nat := nth (blockOf key ((c + i / 64) % 4294967296) nonce) (i % 64)
/-- The first n bytes of a text, xored. -/
def xorTo (key : List Nat) (c : Nat) (nonce text : List Nat) (n : Nat) : List Nat := (List.range n).map fun i => nth text i ^^^ byteAt key c nonce i
def xor (key : List Nat) (c : Nat) (nonce text : List Nat) : List Nat := xorTo key c nonce text text.length

theorem rotl_lt {x n : Nat} (h : x < 4294967296) (hn : n ≤ 32) : rotl x n < 4294967296 := by
  unfold rotl
  have hp : 0 < 2 ^ n := Nat.two_pow_pos n
  have e : (4294967296 : Nat) = 2 ^ (32 - n) * 2 ^ n := by rw [← Nat.pow_add, Nat.sub_add_cancel hn]
  rw [e, Nat.mul_mod_mul_right, Nat.mul_div_mul_right _ _ hp]
  have h1 : x / 2 ^ (32 - n) < 2 ^ n := by
    apply Nat.div_lt_of_lt_mul
    rw [← e]; exact h
  have h2 : x % 2 ^ (32 - n) < 2 ^ (32 - n) := Nat.mod_lt _ (Nat.two_pow_pos _)
  calc x % 2 ^ (32 - n) * 2 ^ n + x / 2 ^ (32 - n) < x % 2 ^ (32 - n) * 2 ^ n + 2 ^ n := by omega
    _ = (x % 2 ^ (32 - n) + 1) * 2 ^ n := by rw [Nat.add_mul, Nat.one_mul]
    _ ≤ 2 ^ (32 - n) * 2 ^ n := Nat.mul_le_mul_right _ h2
/-- A state: sixteen numbers of 32 bits. -/
def Ok (s : List Nat) : Prop := s.length = 16 ∧ ∀ x ∈ s, x < 4294967296
theorem Ok.lt {s : List Nat} (h : Ok s) (i : Nat) : nth s i < 4294967296 := nth_lt (by decide) h.2 i
theorem Ok.set {s : List Nat} (h : Ok s) (i : Nat) {x : Nat} (hx : x < 4294967296) : Ok (s.set i x) :=
  ⟨by rw [List.length_set]; exact h.1, fun y hy => by rcases List.mem_or_eq_of_mem_set hy with h1 | rfl; exact h.2 _ h1; exact hx⟩
theorem step_ok {s : List Nat} (h : Ok s) (a b d : Nat) {n : Nat} (hn : n ≤ 32) : Ok (step s a b d n) := by
  have h1 := h.set a (Nat.mod_lt (nth s a + nth s b) (show 0 < 4294967296 by decide))
  exact h1.set d (rotl_lt (Nat.xor_lt_two_pow (n := 32) (h1.lt _) (h1.lt _)) hn)
theorem quarter_ok {s : List Nat} (h : Ok s) (a b c d : Nat) : Ok (quarter s a b c d) :=
  step_ok (step_ok (step_ok (step_ok h _ _ _ (by decide)) _ _ _ (by decide)) _ _ _ (by decide)) _ _ _ (by decide)
theorem round_ok {s : List Nat} (h : Ok s) : Ok (round s) :=
  quarter_ok (quarter_ok (quarter_ok (quarter_ok (quarter_ok (quarter_ok (quarter_ok (quarter_ok h _ _ _ _) _ _ _ _) _ _ _ _) _ _ _ _) _ _ _ _) _ _ _ _) _ _ _ _) _ _ _ _
theorem rounds_ok {s : List Nat} (h : Ok s) : ∀ n, Ok (rounds s n)
  | 0 => h
  | n + 1 => round_ok (rounds_ok h n)
theorem word_lt {b : List Nat} (hb : ∀ x ∈ b, x < 256) (i : Nat) : word b i < 4294967296 := by
  have g : ∀ j, nth b j < 256 := nth_lt (by decide) hb
  have h0 := g i; have h1 := g (i+1); have h2 := g (i+2); have h3 := g (i+3)
  unfold word
  omega
theorem words_length (b : List Nat) (n : Nat) : (words b n).length = n := by simp [words]
theorem words_lt {b : List Nat} (hb : ∀ x ∈ b, x < 256) (n : Nat) : ∀ x ∈ words b n, x < 4294967296 := fun x hx => by
  obtain ⟨i, _, rfl⟩ := List.mem_map.1 hx
  exact word_lt hb _
theorem words_succ (b : List Nat) (n : Nat) : words b (n + 1) = words b n ++ [word b (4 * n)] := by simp [words, List.range_succ]
theorem start_ok {key nonce : List Nat} {c : Nat} (hk : ∀ x ∈ key, x < 256) (hn : ∀ x ∈ nonce, x < 256) (hc : c < 4294967296) : Ok (start key c nonce) := by
  refine ⟨by simp [start, words_length], fun x hx => ?_⟩
  unfold start at hx
  rcases List.mem_append.1 hx with h | h
  · rcases List.mem_append.1 h with h | h
    · rcases List.mem_append.1 h with h | h
      · simp at h; omega
      · exact words_lt hk _ x h
    · simp at h; omega
  · exact words_lt hn _ x h
theorem outTo_succ (s t : List Nat) (k : Nat) : outTo s t (k + 1) = outTo s t k ++ le4 ((nth t k + nth s k) % 4294967296) := by simp [outTo, List.range_succ]
theorem outTo_length (s t : List Nat) : ∀ k, (outTo s t k).length = 4 * k
  | 0 => rfl
  | k + 1 => by rw [outTo_succ, List.length_append, outTo_length s t k]; simp [le4]; omega
theorem le4_lt {x : Nat} (h : x < 4294967296) : ∀ y ∈ le4 x, y < 256 := fun y hy => by
  simp [le4] at hy
  omega
theorem outTo_lt (s t : List Nat) (k : Nat) : ∀ x ∈ outTo s t k, x < 256 := fun x hx => by
  obtain ⟨i, _, h⟩ := List.mem_flatMap.1 hx
  exact le4_lt (Nat.mod_lt _ (by decide)) x h
theorem block_length (s : List Nat) : (block s).length = 64 := outTo_length s _ 16
theorem block_lt (s : List Nat) : ∀ x ∈ block s, x < 256 := outTo_lt s _ 16
theorem byteAt_lt (key : List Nat) (c : Nat) (nonce : List Nat) (i : Nat) : byteAt key c nonce i < 256 := nth_lt (by decide) (block_lt _) _
theorem xorTo_succ (key : List Nat) (c : Nat) (nonce text : List Nat) (n : Nat) : xorTo key c nonce text (n + 1) = xorTo key c nonce text n ++ [nth text n ^^^ byteAt key c nonce n] := by simp [xorTo, List.range_succ]
theorem xorTo_length (key : List Nat) (c : Nat) (nonce text : List Nat) (n : Nat) : (xorTo key c nonce text n).length = n := by simp [xorTo]
theorem xor_length (key : List Nat) (c : Nat) (nonce text : List Nat) : (xor key c nonce text).length = text.length := xorTo_length _ _ _ _ _
theorem xor_nth (key : List Nat) (c : Nat) (nonce text : List Nat) {i : Nat} (h : i < text.length) : nth (xor key c nonce text) i = nth text i ^^^ byteAt key c nonce i := by
  simp [xor, xorTo, nth, h]
theorem xor_lt (key : List Nat) (c : Nat) (nonce : List Nat) {text : List Nat} (ht : ∀ x ∈ text, x < 256) : ∀ x ∈ xor key c nonce text, x < 256 := fun x hx => by
  obtain ⟨i, _, rfl⟩ := List.mem_map.1 hx
  exact Nat.xor_lt_two_pow (n := 8) (nth_lt (by decide) ht _) (byteAt_lt _ _ _ _)
theorem ext_nth {l m : List Nat} (hl : l.length = m.length) (h : ∀ i, i < l.length → nth l i = nth m i) : l = m := by
  apply List.ext_getElem hl
  intro i h1 h2
  have := h i h1
  simpa [nth, h1, h2] using this
/-- Twice it is the text. -/
theorem xor_xor (key : List Nat) (c : Nat) (nonce text : List Nat) : xor key c nonce (xor key c nonce text) = text := by
  apply ext_nth
  · rw [xor_length, xor_length]
  · intro i hi
    rw [xor_length, xor_length] at hi
    rw [xor_nth _ _ _ _ (by rw [xor_length]; exact hi), xor_nth _ _ _ _ hi, Nat.xor_assoc, Nat.xor_self, Nat.xor_zero]
/-- The beginning of a text is xored to the beginning of what the text is. -/
theorem xor_take (key : List Nat) (c : Nat) (nonce text : List Nat) (n : Nat) (hn : n ≤ text.length) : xor key c nonce (text.take n) = (xor key c nonce text).take n := by
  apply ext_nth
  · rw [xor_length, List.length_take, List.length_take, xor_length]
  · intro i hi
    rw [xor_length, List.length_take] at hi
    rw [xor_nth _ _ _ _ (by rw [List.length_take]; exact hi), nth_take (by omega), nth_take (by omega), xor_nth _ _ _ _ (by omega)]
/-- Cut at a block's end. -/
theorem xor_cut (key : List Nat) (c : Nat) (nonce text : List Nat) (at_ : Nat) (hn : 64 * at_ ≤ text.length) :
    xor key c nonce text = xor key c nonce (text.take (64 * at_)) ++ xor key ((c + at_) % 4294967296) nonce (text.drop (64 * at_)) := by
  apply ext_nth
  · rw [List.length_append, xor_length, xor_length, xor_length, List.length_take, List.length_drop]; omega
  · intro i hi
    rw [xor_length] at hi
    rw [xor_nth _ _ _ _ hi]
    by_cases h : i < 64 * at_
    · rw [nth_append_left (by rw [xor_length, List.length_take]; omega), xor_nth _ _ _ _ (by rw [List.length_take]; omega), nth_take h]
    · have e := nth_append_right (l := xor key c nonce (text.take (64 * at_))) (m := xor key ((c + at_) % 4294967296) nonce (text.drop (64 * at_))) (i - 64 * at_)
      have el : (xor key c nonce (text.take (64 * at_))).length = 64 * at_ := by rw [xor_length, List.length_take]; omega
      rw [el, show 64 * at_ + (i - 64 * at_) = i from by omega] at e
      rw [e, xor_nth _ _ _ _ (by rw [List.length_drop]; omega), nth_drop, show 64 * at_ + (i - 64 * at_) = i from by omega]
      have hb : byteAt key ((c + at_) % 4294967296) nonce (i - 64 * at_) = byteAt key c nonce i := by
        unfold byteAt
        rw [show ((c + at_) % 4294967296 + (i - 64 * at_) / 64) % 4294967296 = (c + i / 64) % 4294967296 from by omega, show (i - 64 * at_) % 64 = i % 64 from by omega]
      rw [hb]
/-- The first five blocks, one behind the other. -/
theorem blocks_nth (key : List Nat) (c : Nat) (nonce : List Nat) : ∀ (k i : Nat), i < 64 * k → c + k ≤ 4294967296 → nth ((List.range k).flatMap fun j => blockOf key (c + j) nonce) i = byteAt key c nonce i
  | 0, i, h, _ => by omega
  | k + 1, i, h, hc => by
    have hlen : ((List.range k).flatMap fun j => blockOf key (c + j) nonce).length = 64 * k := by
      have : ∀ k, ((List.range k).flatMap fun j => blockOf key (c + j) nonce).length = 64 * k := by
        intro k
        induction k with
        | zero => rfl
        | succ k ih => rw [List.range_succ, List.flatMap_append, List.length_append, ih]; simp [blockOf, block_length]; omega
      exact this k
    rw [List.range_succ, List.flatMap_append]
    by_cases hi : i < 64 * k
    · rw [nth_append_left (by omega)]
      exact blocks_nth key c nonce k i hi (by omega)
    · have e := nth_append_right (l := (List.range k).flatMap fun j => blockOf key (c + j) nonce) (m := [k].flatMap fun j => blockOf key (c + j) nonce) (i - 64 * k)
      rw [hlen, show 64 * k + (i - 64 * k) = i from by omega] at e
      rw [e]
      unfold byteAt
      rw [show (c + i / 64) % 4294967296 = c + k from by omega, show i % 64 = i - 64 * k from by omega]
      simp
end Ch
end Go.Proofs.Ytnceiccciaihoaa.C3
