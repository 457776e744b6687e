/- Numbers in a list that grows: what is there stays, and two things have two numbers. -/
import Derived.Test.YtfjdaafckiefdaaGreatDoorMgS
namespace Go.Proofs.YtfjdaafckiefdaaGreatDoor.S7.Su
theorem pos_append (s : Nat) (k t : List Nat) : ∀ (n : Nat) (L M : List Thing), pos s k t n (L ++ M) = (pos s k t n L).or (pos s k t (n + L.length) M)
  | _, [], _ => by simp [pos]
  | n, u :: r, M => by
    simp only [List.cons_append, pos, List.length_cons]
    split
    · rfl
    · rw [pos_append s k t (n + 1) r M, show n + 1 + r.length = n + (r.length + 1) from by omega]
theorem pos_get (s : Nat) (k t : List Nat) : ∀ (n : Nat) (L : List Thing) (i : Nat), pos s k t n L = some i → ∃ u, L[i - n - 1]? = some u ∧ u.1 = s ∧ u.2.1 = k ∧ u.2.2.2.2 = t
  | _, [], _, h => by simp [pos] at h
  | n, u :: r, i, h => by
    simp only [pos] at h
    split at h
    · rename_i hc
      cases h
      exact ⟨u, by simp, hc⟩
    · have hl := pos_le (n + 1) r i h
      obtain ⟨v, h1, h2⟩ := pos_get s k t (n + 1) r i h
      refine ⟨v, ?_, h2⟩
      rw [show i - n - 1 = (i - (n + 1) - 1) + 1 from by omega, List.getElem?_cons_succ]
      exact h1
theorem add_eq (L : List Thing) (s : Nat) (k t : List Nat) : ∃ M, add L s k t = L ++ M := by
  unfold add
  cases pos s k t 0 L with
  | none => exact ⟨_, rfl⟩
  | some i => exact ⟨[], by simp⟩
theorem pos_stays {L M : List Thing} {s i : Nat} {k t : List Nat} (h : pos s k t 0 L = some i) : pos s k t 0 (L ++ M) = some i := by
  rw [pos_append, h]; rfl
theorem pos_add (L : List Thing) (s : Nat) (k t : List Nat) : pos s k t 0 (add L s k t) = some (num L s k t) := by
  unfold add num
  cases h : pos s k t 0 L with
  | some i => simp [h]
  | none =>
    simp only [Option.getD_none]
    rw [pos_append, h]
    simp [pos]
theorem num_of {L : List Thing} {s i : Nat} {k t : List Nat} (h : pos s k t 0 L = some i) : num L s k t = i ∧ add L s k t = L := by
  unfold num add
  rw [h]
  exact ⟨rfl, rfl⟩
/-- Two things of one sort have one number just if they are the same. -/
theorem num_two (L : List Thing) (s : Nat) (k t k' t' : List Nat) : num L s k t = num (add L s k t) s k' t' ↔ k = k' ∧ t = t' := by
  have h1 := pos_add L s k t
  constructor
  · intro h
    obtain ⟨u, e1, _, e2, e3⟩ := pos_get s k t 0 _ _ h1
    cases h2 : pos s k' t' 0 (add L s k t) with
    | some j =>
      obtain ⟨v, f1, _, f2, f3⟩ := pos_get s k' t' 0 _ _ h2
      have hj : num (add L s k t) s k' t' = j := (num_of h2).1
      rw [hj] at h
      rw [h, f1] at e1
      cases e1
      exact ⟨e2.symm.trans f2, e3.symm.trans f3⟩
    | none =>
      have hj : num (add L s k t) s k' t' = (add L s k t).length + 1 := by unfold num; rw [h2]; rfl
      have := pos_le 0 _ _ h1
      omega
  · rintro ⟨rfl, rfl⟩
    exact (num_of h1).1.symm
end Go.Proofs.YtfjdaafckiefdaaGreatDoor.S7.Su
