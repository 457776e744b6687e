/- The plain mathematics of buckets. -/
import Derived.Test.YtedbfhbmpeogdaaC8Spec
namespace Go.Proofs.Ytedbfhbmpeogdaa.C8
open Sp (nth)
/-- The bucket of a text of so many bytes; 0: there is none. -/
def bsz (n : Nat) : Nat := if n ≤ 62 then 64 else if n ≤ 126 then 128 else if n ≤ 254 then 256 else if n ≤ 510 then 512 else if n ≤ 1022 then 1024 else if n ≤ 2046 then 2048 else 0
theorem bsz_le {n : Nat} (h : n ≤ 2046) : n + 2 ≤ bsz n ∧ bsz n ≤ 2048 ∧ 64 ≤ bsz n ∧ bsz n < 2 * n + 66 := by
  unfold bsz
  repeat' split
  all_goals omega
theorem bsz_none {n : Nat} (h : 2046 < n) : bsz n = 0 := by
  unfold bsz
  repeat' split
  all_goals omega
theorem bsz_zero {n : Nat} (h : bsz n = 0) : 2046 < n := Nat.lt_of_not_le fun h1 => by
  have := bsz_le h1
  omega
theorem bsz_mono {m n : Nat} (h : m ≤ n) (hn : n ≤ 2046) : bsz m ≤ bsz n := by
  unfold bsz
  repeat' split
  all_goals omega
/-- A bucket that is being looked for. -/
def BAt (n s : Nat) : Prop := (s = 64) ∨ (s = 128 ∧ 62 < n) ∨ (s = 256 ∧ 126 < n) ∨ (s = 512 ∧ 254 < n) ∨ (s = 1024 ∧ 510 < n) ∨ (s = 2048 ∧ 1022 < n)
theorem BAt.end {n s : Nat} (h : BAt n s) (hn : n + 2 ≤ s) : s = bsz n := by
  unfold BAt at h
  unfold bsz
  repeat' split
  all_goals omega
theorem BAt.next {n s : Nat} (h : BAt n s) (hm : n ≤ 2046) (hn : s < n + 2) : BAt n (s * 2) := by
  unfold BAt at *
  omega
theorem BAt.le {n s : Nat} (h : BAt n s) : 64 ≤ s ∧ s ≤ 2048 := by
  unfold BAt at h
  omega
/-- A text in its bucket. -/
def padL (l : List Nat) : List Nat := l.length / 256 :: l.length % 256 :: (l ++ List.replicate (bsz l.length - 2 - l.length) 0)
theorem padL_length {l : List Nat} (h : l.length ≤ 2046) : (padL l).length = bsz l.length := by
  have := bsz_le h
  simp [padL]
  omega
theorem padL_lt {l : List Nat} (h : l.length ≤ 2046) (hs : ∀ x ∈ l, x < 256) : ∀ x ∈ padL l, x < 256 := fun x hx => by
  simp only [padL, List.mem_cons, List.mem_append, List.mem_replicate] at hx
  rcases hx with rfl | rfl | h1 | ⟨_, rfl⟩
  · omega
  · omega
  · exact hs x h1
  · omega
/-- What the first two bytes tell. -/
def cnt (b : List Nat) : Nat := nth b 0 * 256 + nth b 1
theorem cnt_pad (l : List Nat) : cnt (padL l) = l.length := by
  simp [cnt, padL, nth]
  omega
theorem cnt_lt {b : List Nat} (h : ∀ x ∈ b, x < 256) : cnt b < 65536 := by
  have h0 := Sp.nth_lt (l := b) (n := 256) (by decide) h 0
  have h1 := Sp.nth_lt (l := b) (n := 256) (by decide) h 1
  unfold cnt
  omega
/-- The text that the bytes tell, whether or not they are right. -/
def txtL (b : List Nat) : List Nat := (b.drop 2).take (cnt b)
def tailL (b : List Nat) : List Nat := b.drop (2 + cnt b)
def Right (b : List Nat) : Prop := 2 ≤ b.length ∧ bsz (cnt b) = b.length ∧ ∀ x ∈ tailL b, x = 0
theorem txt_pad (l : List Nat) : txtL (padL l) = l := by
  unfold txtL
  rw [cnt_pad]
  simp [padL]
theorem right_pad {l : List Nat} (h : l.length ≤ 2046) : Right (padL l) := by
  have := bsz_le h
  refine ⟨by rw [padL_length h]; omega, by rw [cnt_pad, padL_length h], fun x hx => ?_⟩
  unfold tailL at hx
  rw [cnt_pad] at hx
  have e : (padL l).drop (2 + l.length) = List.replicate (bsz l.length - 2 - l.length) 0 := by
    rw [Nat.add_comm]
    simp [padL]
  rw [e] at hx
  exact (List.mem_replicate.1 hx).2
theorem right_cnt {b : List Nat} (h : Right b) : cnt b ≤ 2046 ∧ cnt b + 2 ≤ b.length ∧ 64 ≤ b.length ∧ b.length ≤ 2048 := by
  obtain ⟨h1, h2, _⟩ := h
  by_cases hc : cnt b ≤ 2046
  · have := bsz_le hc
    omega
  · rw [bsz_none (by omega)] at h2
    omega
theorem txt_length {b : List Nat} (h : cnt b + 2 ≤ b.length) : (txtL b).length = cnt b := by
  simp [txtL]
  omega
theorem two_cons {b : List Nat} (h : 2 ≤ b.length) : ∃ x y r, b = x :: y :: r := by
  cases b with
  | nil => simp at h
  | cons x b => cases b with
    | nil => simp at h
    | cons y r => exact ⟨x, y, r, rfl⟩
theorem take_noughts {r : List Nat} {m n : Nat} (h : ∀ x ∈ r.drop m, x = 0) (hn : r.length = n) : r.take m ++ List.replicate (n - m) 0 = r := by
  have e4 : r.drop m = List.replicate (n - m) 0 := by
    rw [List.eq_replicate_iff]
    exact ⟨by simp [hn], h⟩
  rw [← e4, List.take_append_drop]
/-- Right bytes are their text in its bucket. -/
theorem pad_txt {b : List Nat} (h : Right b) (hs : ∀ x ∈ b, x < 256) : padL (txtL b) = b := by
  obtain ⟨c1, c2, c3, c4⟩ := right_cnt h
  obtain ⟨h1, h2, h3⟩ := h
  have hl := txt_length c2
  obtain ⟨x, y, r, rfl⟩ := two_cons h1
  have hx := hs x (by simp)
  have hy := hs y (by simp)
  unfold padL
  rw [hl, h2]
  obtain ⟨m, hm⟩ : ∃ m, cnt (x :: y :: r) = m := ⟨_, rfl⟩
  have hc : x * 256 + y = m := hm
  unfold txtL
  unfold tailL at h3
  rw [hm] at h3 ⊢
  have e1 : m / 256 = x := by omega
  have e2 : m % 256 = y := by omega
  have e3 : (x :: y :: r).drop (2 + m) = r.drop m := by rw [Nat.add_comm]; rfl
  rw [e3] at h3
  have e5 : (x :: y :: r).length - 2 - m = r.length - m := by simp
  rw [e1, e2, e5]
  have := take_noughts h3 rfl
  rw [show (x :: y :: r).drop 2 = r from rfl, this]
/-- Whoever is a text in its bucket is right. -/
theorem right_of_pad {b t : List Nat} (h : padL t = b) (ht : t.length ≤ 2046) : Right b := h ▸ right_pad ht
end Go.Proofs.Ytedbfhbmpeogdaa.C8
