/- Two suites beside one another; lists of keys; boxes behind them. -/
import Derived.Test.YtfjdaafckiefdaaGreatDoorS7Args
namespace Go.Proofs.YtfjdaafckiefdaaGreatDoor.S7
open Go.RowKit
/-- A list of so many keys. -/
def keysL (j : Nat) : List Su.Thing := List.replicate j (75, [], [], [], [])
theorem keysL_length (j : Nat) : (keysL j).length = j := by simp [keysL]
theorem keysL_succ (j : Nat) : keysL j ++ [(75, [], [], [], [])] = keysL (j + 1) := by
  unfold keysL
  rw [List.replicate_succ']
theorem keysL_no (j : Nat) : ∀ t ∈ keysL j, t.1 ≠ 66 := fun t ht => by
  rw [List.eq_of_mem_replicate ht]
  decide
theorem keysL_short (j : Nat) : ∀ t ∈ keysL j, t.2.2.2.2.length ≤ 50000 := fun t ht => by
  rw [List.eq_of_mem_replicate ht]
  decide
theorem opens_skip (k n o b : List Nat) : ∀ (K M : List Su.Thing) (i : Nat), (∀ t ∈ K, t.1 ≠ 66) → Su.opens k n o b i (K ++ M) = Su.opens k n o b (i + K.length) M
  | [], _, i, _ => by simp
  | t :: K, M, i, h => by
    have h1 := h t (by simp)
    simp only [List.cons_append, Su.opens, List.length_cons]
    rw [if_neg (fun e => h1 e.1), opens_skip k n o b K M (i + 1) (fun u hu => h u (by simp [hu])), show i + 1 + K.length = i + (K.length + 1) from by omega]
theorem opens_own (k n o t : List Nat) (K : List Su.Thing) (h : ∀ u ∈ K, u.1 ≠ 66) : Su.opens k n o (Su.box (K.length + 1) t.length) 0 (K ++ [(66, k, n, o, t)]) = some t := by
  rw [opens_skip k n o _ K _ 0 h, Nat.zero_add]
  simp only [Su.opens]
  rw [if_pos (by simp)]
section
variable {w w' : World} {p q m x C : Nat} {L : List Su.Thing} {bs : List Nat}
theorem SuIs.above (h : SuIs w p q m x L) (ho : Only bs w w') (hb : ∀ y ∈ bs, y < C) (hC : C ≤ p ∧ C ≤ q ∧ C ≤ m ∧ C ≤ x) : SuIs w' p q m x L :=
  h.only ho ⟨fun e => by have := hb p e; omega, fun e => by have := hb q e; omega, fun e => by have := hb m e; omega, fun e => by have := hb x e; omega⟩
theorem SuIs.under (h : SuIs w p q m x L) (ho : Only bs w w') (hb : ∀ y ∈ bs, C ≤ y) (hC : p < C ∧ q < C ∧ m < C ∧ x < C) : SuIs w' p q m x L :=
  h.only ho ⟨fun e => by have := hb p e; omega, fun e => by have := hb q e; omega, fun e => by have := hb m e; omega, fun e => by have := hb x e; omega⟩
end
theorem all_one {p : Nat} {R : Nat → Prop} (h : R p) : ∀ y ∈ [p], R y := fun y hy => by rw [List.mem_singleton.1 hy]; exact h
theorem all_two {p q : Nat} {R : Nat → Prop} (h : R p) (h' : R q) : ∀ y ∈ [p, q], R y := fun y hy => by
  simp at hy
  rcases hy with rfl | rfl
  · exact h
  · exact h'
/-- A key's bytes. -/
theorem key_src {w : World} {B : Nat} {v : Value} {n : Nat} (h : w.ownsRow B 5 1 v 32 (ints .u8 (Su.sign 75 n))) : Src w v (Su.sign 75 n) := Src.own (Su.sign_lt (by decide) n) h
end Go.Proofs.YtfjdaafckiefdaaGreatDoor.S7
