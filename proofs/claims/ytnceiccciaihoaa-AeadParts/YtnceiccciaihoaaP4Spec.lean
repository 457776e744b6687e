/- The plain mathematics of Poly1305, over natural numbers: numbers of digits in any base, and the tag. -/
import Derived.Test.YtnceiccciaihoaaLaws
namespace Go.Proofs.Ytnceiccciaihoaa.P4
open Sp
namespace Po
/-- The number of digits in a base, the lowest first. -/
def pos (b : Nat) : List Nat → Nat
  | [] => 0
  | x :: l => x + b * pos b l
theorem pos_append (b : Nat) (m : List Nat) : ∀ l : List Nat, pos b (l ++ m) = pos b l + b ^ l.length * pos b m
  | [] => by simp [pos]
  | x :: l => by
    rw [List.cons_append, pos, pos, pos_append b m l, List.length_cons, Nat.pow_succ, Nat.mul_add, Nat.mul_comm (b ^ l.length) b, Nat.mul_assoc, Nat.add_assoc]
theorem pos_snoc (b : Nat) (l : List Nat) (x : Nat) : pos b (l ++ [x]) = pos b l + b ^ l.length * x := by rw [pos_append]; simp [pos]
theorem take_succ_nth {l : List Nat} {k : Nat} (h : k < l.length) : l.take (k + 1) = l.take k ++ [nth l k] := by
  rw [List.take_add_one]
  simp [nth, h]
theorem pos_take (b : Nat) {l : List Nat} {k : Nat} (h : k < l.length) : pos b (l.take (k + 1)) = pos b (l.take k) + b ^ k * nth l k := by
  rw [take_succ_nth h, pos_snoc, List.length_take, Nat.min_eq_left (by omega)]
theorem pos_set (b : Nat) : ∀ (l : List Nat) (k y : Nat), k < l.length → pos b (l.set k (nth l k + y)) = pos b l + b ^ k * y
  | [], k, y, h => by simp at h
  | x :: l, 0, y, _ => by simp [pos, nth]; omega
  | x :: l, k + 1, y, h => by
    have := pos_set b l k y (by simpa using h)
    have e : nth (x :: l) (k + 1) = nth l k := rfl
    rw [List.set_cons_succ, pos, pos, e, this, Nat.pow_succ, Nat.mul_add, Nat.mul_comm (b ^ k) b, Nat.mul_assoc, Nat.add_assoc]
theorem pos_lt {b : Nat} (hb : 0 < b) : ∀ {l : List Nat}, (∀ x ∈ l, x < b) → pos b l < b ^ l.length
  | [], _ => by simp [pos]
  | x :: l, h => by
    have h1 := pos_lt hb (l := l) (fun y hy => h y (List.mem_cons_of_mem _ hy))
    have h2 := h x (List.mem_cons_self)
    rw [pos, List.length_cons, Nat.pow_succ, Nat.mul_comm _ b]
    have : b * (pos b l + 1) ≤ b * b ^ l.length := Nat.mul_le_mul_left _ h1
    rw [Nat.mul_add] at this
    omega
/-- The digits of a number, some of them. -/
def digs (b : Nat) : Nat → Nat → List Nat
  | 0, _ => []
  | n + 1, v => v % b :: digs b n (v / b)
theorem digs_length (b : Nat) : ∀ n v, (digs b n v).length = n
  | 0, _ => rfl
  | n + 1, v => by rw [digs, List.length_cons, digs_length b n]
theorem digs_lt {b : Nat} (hb : 0 < b) : ∀ n v, ∀ x ∈ digs b n v, x < b
  | 0, _, x, h => by simp [digs] at h
  | n + 1, v, x, h => by
    rcases List.mem_cons.1 h with rfl | h
    · exact Nat.mod_lt _ hb
    · exact digs_lt hb n _ x h
theorem digs_pos {b : Nat} (hb : 0 < b) : ∀ {l : List Nat}, (∀ x ∈ l, x < b) → ∀ y, digs b l.length (pos b l + b ^ l.length * y) = l
  | [], _, _ => rfl
  | x :: l, h, y => by
    have h2 := h x (List.mem_cons_self)
    rw [List.length_cons, digs, pos, Nat.pow_succ, Nat.mul_comm _ b, Nat.mul_assoc, Nat.add_assoc, ← Nat.mul_add]
    rw [Nat.add_mul_mod_self_left, Nat.mod_eq_of_lt h2, Nat.add_mul_div_left _ _ hb, Nat.div_eq_of_lt h2, Nat.zero_add, digs_pos hb (fun y hy => h y (List.mem_cons_of_mem _ hy))]
theorem pos_digs {b : Nat} (hb : 0 < b) : ∀ n v, pos b (digs b n v) = v % b ^ n
  | 0, v => by simp [digs, pos, Nat.mod_one]
  | n + 1, v => by
    rw [digs, pos, pos_digs hb n, Nat.pow_succ, Nat.mul_comm (b ^ n) b, Nat.mod_mul]
theorem digs_mod {b : Nat} (hb : 0 < b) (n v : Nat) : digs b n (v % b ^ n) = digs b n v := by
  have h := digs_pos hb (digs_lt hb n v) (v / b ^ n)
  have h' := digs_pos hb (digs_lt hb n v) 0
  rw [pos_digs hb, digs_length] at h h'
  rw [Nat.mul_zero, Nat.add_zero] at h'
  rw [h']
/-- Digits of one number, as many, are the same. -/
theorem digs_of {b : Nat} (hb : 0 < b) {l : List Nat} {n v : Nat} (h : ∀ x ∈ l, x < b) (hl : l.length = n) (hv : pos b l = v % b ^ n) : l = digs b n v := by
  have := digs_pos hb h 0
  rw [Nat.mul_zero, Nat.add_zero, hv, hl, digs_mod hb] at this
  exact this.symm
theorem nth_digs {b : Nat} : ∀ n v i, i < n → nth (digs b n v) i = v / b ^ i % b
  | 0, _, _, h => by omega
  | n + 1, v, 0, _ => by simp [digs, nth]
  | n + 1, v, i + 1, h => by
    have := nth_digs (b := b) n (v / b) i (by omega)
    have e : nth (digs b (n + 1) v) (i + 1) = nth (digs b n (v / b)) i := rfl
    rw [e, this, Nat.div_div_eq_div_mul, Nat.pow_succ, Nat.mul_comm b]

abbrev B : Nat := 67108864
abbrev P : Nat := 1361129467683753853853498429727072845819
/-- A byte of the first half, without what r leaves out. -/
def cl (i x : Nat) : Nat := if i % 4 = 3 then x % 16 else if i % 4 = 0 ∧ 0 < i then x / 4 * 4 else x
def clamp (l : List Nat) : List Nat := (List.range 16).map fun i => cl i (nth l i)
def rOf (key : List Nat) : Nat := pos 256 (clamp key)
def sOf (key : List Nat) : Nat := pos 256 (key.drop 16)
/-- A part of a text, with a byte 1 behind it. -/
def part (text : List Nat) (k : Nat) : Nat := pos 256 ((text.drop (16 * k)).take 16 ++ [1])
def acc (r : Nat) (text : List Nat) : Nat → Nat
  | 0 => 0
  | k + 1 => (acc r text k + part text k) * r % P
def parts (text : List Nat) : Nat := (text.length + 15) / 16
def tagN (key text : List Nat) : Nat := acc (rOf key) text (parts text) + sOf key
/-- The tag of a text. -/
def tag (key text : List Nat) : List Nat := digs 256 16 (tagN key text)
theorem tag_length (key text : List Nat) : (tag key text).length = 16 := digs_length _ _ _
theorem tag_lt (key text : List Nat) : ∀ x ∈ tag key text, x < 256 := digs_lt (by decide) _ _
theorem acc_lt (r : Nat) (text : List Nat) : ∀ k, acc r text k < P
  | 0 => by show 0 < P; decide
  | _ + 1 => Nat.mod_lt _ (by decide)
theorem clamp_length (l : List Nat) : (clamp l).length = 16 := by simp [clamp]
theorem cl_lt {x : Nat} (i : Nat) (h : x < 256) : cl i x < 256 := by unfold cl; split <;> (try split) <;> omega
theorem clamp_lt {l : List Nat} (h : ∀ x ∈ l, x < 256) : ∀ x ∈ clamp l, x < 256 := fun x hx => by
  obtain ⟨i, _, rfl⟩ := List.mem_map.1 hx
  exact cl_lt i (nth_lt (by decide) h _)
theorem B5 : B ^ 5 = P + 5 := by decide
/-- What goes over counts five times. -/
theorem fold_mod (x y : Nat) : (x + y * B ^ 5) % P = (x + 5 * y) % P := by
  rw [B5, show x + y * (P + 5) = x + 5 * y + P * y from by rw [Nat.mul_add, Nat.mul_comm y P, Nat.mul_comm y 5]; omega, Nat.add_mul_mod_self_left]
/-- A product's part of i and j. -/
theorem place_mod (x k : Nat) (hk : 5 ≤ k) : (B ^ (k - 5) * (5 * x)) % P = (B ^ k * x) % P := by
  have e : B ^ k * x = 0 + (B ^ (k - 5) * x) * B ^ 5 := by
    rw [Nat.zero_add, Nat.mul_assoc, Nat.mul_comm x, ← Nat.mul_assoc, ← Nat.pow_add, Nat.sub_add_cancel hk]
  rw [e, fold_mod, Nat.zero_add, Nat.mul_left_comm]
end Po
end Go.Proofs.Ytnceiccciaihoaa.P4
