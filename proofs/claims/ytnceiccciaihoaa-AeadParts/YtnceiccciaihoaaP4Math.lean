/- What the statements need of the tag's mathematics. -/
import Derived.Test.YtnceiccciaihoaaP4Spec
namespace Go.Proofs.Ytnceiccciaihoaa.P4
open Sp
theorem pos_nought (b : Nat) : ∀ n, Po.pos b (List.replicate n 0) = 0
  | 0 => rfl
  | n + 1 => by rw [List.replicate_succ, Po.pos, pos_nought b n]; simp
theorem sOf_append {h s : List Nat} (hh : h.length = 16) : Po.sOf (h ++ s) = Po.pos 256 s := by
  unfold Po.sOf
  rw [← hh, List.drop_left]
theorem clamp_append {h s : List Nat} (hh : h.length = 16) : Po.clamp (h ++ s) = Po.clamp h := by
  unfold Po.clamp
  apply List.map_congr_left
  intro i hi
  rw [nth_append_left (by rw [hh]; exact List.mem_range.1 hi)]
theorem rOf_append {h s : List Nat} (hh : h.length = 16) : Po.rOf (h ++ s) = Po.rOf h := by
  unfold Po.rOf
  rw [clamp_append hh]
theorem acc_zero (text : List Nat) : ∀ k, Po.acc 0 text k = 0
  | 0 => rfl
  | k + 1 => by rw [Po.acc, Nat.mul_zero]; rfl
/-- With a first half of noughts the tag is the second half. -/
theorem tag_nought (s text : List Nat) (hs : s.length = 16) (hb : ∀ x ∈ s, x < 256) : Po.tag (List.replicate 16 0 ++ s) text = s := by
  unfold Po.tag Po.tagN
  rw [rOf_append (by simp), sOf_append (by simp), show Po.rOf (List.replicate 16 0) = 0 from by decide, acc_zero, Nat.zero_add]
  have := Po.digs_pos (b := 256) (by decide) hb 0
  rw [Nat.mul_zero, Nat.add_zero, hs] at this
  exact this
/-- Two rows of bytes added, byte by byte: what is carried at a place. -/
def car (a b : List Nat) (i : Nat) : Nat := (Po.pos 256 (a.take i) + Po.pos 256 (b.take i)) / 256 ^ i
theorem nth_beyond {l : List Nat} {i : Nat} (h : l.length ≤ i) : nth l i = 0 := by simp [nth, h]
theorem pos_take' (l : List Nat) (i : Nat) : Po.pos 256 (l.take (i + 1)) = Po.pos 256 (l.take i) + 256 ^ i * nth l i := by
  by_cases h : i < l.length
  · exact Po.pos_take _ h
  · rw [List.take_of_length_le (by omega), List.take_of_length_le (by omega), nth_beyond (by omega)]
    simp
theorem car_sum (a b : List Nat) (i : Nat) : (Po.pos 256 (a.take (i + 1)) + Po.pos 256 (b.take (i + 1))) / 256 ^ i = car a b i + nth a i + nth b i := by
  have hp : 0 < 256 ^ i := Nat.pow_pos (by decide)
  rw [pos_take', pos_take', show Po.pos 256 (a.take i) + 256 ^ i * nth a i + (Po.pos 256 (b.take i) + 256 ^ i * nth b i) = (Po.pos 256 (a.take i) + Po.pos 256 (b.take i)) + 256 ^ i * (nth a i + nth b i) from by rw [Nat.mul_add]; omega, Nat.add_mul_div_left _ _ hp, car]
  omega
theorem car_succ (a b : List Nat) (i : Nat) : car a b (i + 1) = (car a b i + nth a i + nth b i) / 256 := by
  rw [← car_sum, car, Nat.div_div_eq_div_mul, ← Nat.pow_succ]
theorem take_lt {l : List Nat} (h : ∀ x ∈ l, x < 256) (i : Nat) : Po.pos 256 (l.take i) < 256 ^ i := by
  have h1 := Po.pos_lt (b := 256) (by decide) (l := l.take i) (fun x hx => h x (List.mem_of_mem_take hx))
  exact Nat.lt_of_lt_of_le h1 (Nat.pow_le_pow_right (by decide) (by rw [List.length_take]; omega))
theorem car_le {a b : List Nat} (ha : ∀ x ∈ a, x < 256) (hb : ∀ x ∈ b, x < 256) (i : Nat) : car a b i ≤ 1 := by
  have h1 := take_lt ha i
  have h2 := take_lt hb i
  have : car a b i < 2 := Nat.div_lt_of_lt_mul (by omega)
  omega
theorem pos_split (l : List Nat) (i : Nat) : ∃ q, Po.pos 256 l = Po.pos 256 (l.take i) + 256 ^ i * q := by
  by_cases h : i ≤ l.length
  · refine ⟨Po.pos 256 (l.drop i), ?_⟩
    have := Po.pos_append 256 (l.drop i) (l.take i)
    rw [List.take_append_drop, List.length_take, Nat.min_eq_left h] at this
    exact this
  · exact ⟨0, by rw [List.take_of_length_le (by omega)]; simp⟩
/-- The sum's byte at a place. -/
theorem sum_byte (a b : List Nat) (i : Nat) : (Po.pos 256 a + Po.pos 256 b) / 256 ^ i % 256 = (car a b i + nth a i + nth b i) % 256 := by
  obtain ⟨q, hq⟩ := pos_split a (i + 1)
  obtain ⟨r, hr⟩ := pos_split b (i + 1)
  have hp : 0 < 256 ^ i := Nat.pow_pos (by decide)
  rw [← car_sum, hq, hr, show Po.pos 256 (a.take (i + 1)) + 256 ^ (i + 1) * q + (Po.pos 256 (b.take (i + 1)) + 256 ^ (i + 1) * r) = (Po.pos 256 (a.take (i + 1)) + Po.pos 256 (b.take (i + 1))) + 256 ^ i * (256 * (q + r)) from by
    rw [Nat.pow_succ, ← Nat.mul_assoc, Nat.mul_add]; omega, Nat.add_mul_div_left _ _ hp, Nat.add_mul_mod_self_left]
theorem one_r : Po.rOf (1 :: List.replicate 15 0) = 1 := by decide
theorem tag_one (s text : List Nat) (h1 : 1 ≤ text.length) (h2 : text.length ≤ 15) (hb : ∀ x ∈ text, x < 256) : Po.tagN ((1 :: List.replicate 15 0) ++ s) text = Po.pos 256 (text ++ [1]) + Po.pos 256 s := by
  unfold Po.tagN
  rw [rOf_append (by simp), sOf_append (by simp), one_r, show Po.parts text = 1 from by unfold Po.parts; omega]
  congr 1
  rw [Po.acc, Po.acc, Nat.zero_add, Nat.mul_one, Po.part, Nat.mul_zero, List.drop_zero, List.take_of_length_le (by omega)]
  apply Nat.mod_eq_of_lt
  have h3 := Po.pos_lt (b := 256) (by decide) (l := text ++ [1]) (fun x hx => by
    rcases List.mem_append.1 hx with h | h
    · exact hb x h
    · rw [List.mem_singleton.1 h]; decide)
  have h4 : 256 ^ (text ++ [1]).length ≤ 256 ^ 16 := Nat.pow_le_pow_right (by decide) (by simp; omega)
  have h5 : 256 ^ 16 < Po.P := by decide
  omega
theorem tag_byte (key text : List Nat) (i : Nat) (h : i < 16) : nth (Po.tag key text) i = Po.tagN key text / 256 ^ i % 256 := Po.nth_digs 16 _ i h
/-- Of no text the tag is the second half. -/
theorem tag_empty (h s : List Nat) (hh : h.length = 16) (hs : s.length = 16) (hb : ∀ x ∈ s, x < 256) : Po.tag (h ++ s) [] = s := by
  unfold Po.tag Po.tagN
  rw [sOf_append hh, show Po.parts [] = 0 from by decide, Po.acc, Nat.zero_add]
  have := Po.digs_pos (b := 256) (by decide) hb 0
  rw [Nat.mul_zero, Nat.add_zero, hs] at this
  exact this
/-- Under two keys of one first half the tags differ as the second halves do. -/
theorem tag_two (h a b text : List Nat) (hh : h.length = 16) (i : Nat) (hi : i < 16) :
    (car (Po.tag (h ++ a) text) b i + nth (Po.tag (h ++ a) text) i + nth b i) % 256 = (car (Po.tag (h ++ b) text) a i + nth (Po.tag (h ++ b) text) i + nth a i) % 256 := by
  rw [← sum_byte, ← sum_byte]
  have e1 : Po.pos 256 (Po.tag (h ++ a) text) = (Po.acc (Po.rOf h) text (Po.parts text) + Po.pos 256 a) % 256 ^ 16 := by
    unfold Po.tag Po.tagN
    rw [Po.pos_digs (by decide), rOf_append hh, sOf_append hh]
  have e2 : Po.pos 256 (Po.tag (h ++ b) text) = (Po.acc (Po.rOf h) text (Po.parts text) + Po.pos 256 b) % 256 ^ 16 := by
    unfold Po.tag Po.tagN
    rw [Po.pos_digs (by decide), rOf_append hh, sOf_append hh]
  rw [e1, e2]
  generalize Po.acc (Po.rOf h) text (Po.parts text) = A
  generalize Po.pos 256 a = x
  generalize Po.pos 256 b = y
  have key : ∀ u v : Nat, u % 256 ^ 16 = v % 256 ^ 16 → u / 256 ^ i % 256 = v / 256 ^ i % 256 := fun u v huv => by
    have h1 := Po.nth_digs (b := 256) 16 u i hi
    have h2 := Po.nth_digs (b := 256) 16 v i hi
    rw [← h1, ← h2, ← Po.digs_mod (by decide) 16 u, ← Po.digs_mod (by decide) 16 v, huv]
  have h9 : ((A + x) % 256 ^ 16 + y) % 256 ^ 16 = ((A + y) % 256 ^ 16 + x) % 256 ^ 16 := by
    rw [Nat.mod_add_mod, Nat.mod_add_mod, show A + x + y = A + y + x from by omega]
  exact key _ _ h9
end Go.Proofs.Ytnceiccciaihoaa.P4
