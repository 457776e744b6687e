/- The document's reader by plain functions of what it has left. -/
import Derived.Test.YtmllecdbedighaaC8Ref2
import Derived.Test.YtmllecdbedighaaE9Rd
namespace Go.Proofs.Ytmllecdbedighaa.E9
open Go.RowKit C8
/-- The document's reader at q over the bytes l, which lie elsewhere. -/
def RfS (w : World) (q : Nat) (sv : Value) (l : List Nat) (s : Sta) : Prop := ∃ a, RfAt w q sv a s.2 ∧ Src w sv l ∧ Off sv [q] ∧ a ≤ l.length ∧ l.length ≤ 100000 ∧ s.1 = if s.2 = true then [] else l.drop a
theorem rnum_any (w : World) (q : Nat) (sv : Value) (l : List Nat) (s s' : Sta) (lo hi n : Int) (h : RfS w q sv l s) (he : rN lo hi s = (n, s')) :
    Calls Try.prog 28 #[.pointer (some ⟨q, 0, none⟩), .int .i64 lo, .int .i64 hi] w fun e w' => e = .returned (.int .i64 n) ∧ RfS w' q sv l s' ∧ Only [q] w w' := by
  obtain ⟨a, h1, h2, h3, h4, h5, h6⟩ := h
  obtain ⟨sl, sb⟩ := s
  simp only at h1 h6
  cases sb with
  | true =>
    simp only [if_true] at h6
    subst h6
    unfold rN at he
    rw [if_pos (.inl (by simp))] at he
    cases he
    refine (RNum_none w q a sv l true lo hi h1 h2 h5 h4 (.inl rfl)).mono ?_
    rintro e w' ⟨rfl, k1, k2⟩
    exact ⟨rfl, ⟨a, k1, h2.only k2 h3, h3, h4, h5, rfl⟩, k2⟩
  | false =>
    simp only [Bool.false_eq_true, if_false] at h6
    subst h6
    unfold rN at he
    simp only [List.length_drop] at he
    split at he
    · rename_i hc
      cases he
      by_cases hk : l.length < a + 6
      · refine (RNum_none w q a sv l false lo hi h1 h2 h5 h4 (.inr hk)).mono ?_
        rintro e w' ⟨rfl, k1, k2⟩
        exact ⟨rfl, ⟨a, k1, h2.only k2 h3, h3, h4, h5, rfl⟩, k2⟩
      · refine (RNum_out w q a sv l lo hi _ h1 h2 h5 (by omega) rfl (by omega)).mono ?_
        rintro e w' ⟨rfl, k1, k2⟩
        exact ⟨rfl, ⟨a + 6, k1, h2.only k2 h3, h3, by omega, h5, rfl⟩, k2⟩
    · rename_i hc
      cases he
      refine (RNum_ok w q a sv l lo hi _ h1 h2 h5 (by omega) rfl (by omega) (by omega)).mono ?_
      rintro e w' ⟨rfl, k1, k2⟩
      exact ⟨rfl, ⟨a + 6, k1, h2.only k2 h3, h3, by omega, h5, by simp [List.drop_drop]⟩, k2⟩
theorem rtext_any (w : World) (q : Nat) (sv : Value) (l : List Nat) (s s' : Sta) (lo hi : Int) (t : List Nat) (h : RfS w q sv l s) (he : rT lo hi s = (t, s')) :
    Calls Try.prog 29 #[.pointer (some ⟨q, 0, none⟩), .int .i64 lo, .int .i64 hi] w fun e w' => ∃ v, e = .returned v ∧ Src w' v t ∧ (v.ownBlock = sv.ownBlock ∨ v = .slice none 0 0) ∧ RfS w' q sv l s' ∧ Only [q] w w' := by
  obtain ⟨a, h1, h2, h3, h4, h5, h6⟩ := h
  obtain ⟨sl, sb⟩ := s
  simp only at h1 h6
  cases sb with
  | true =>
    simp only [if_true] at h6
    subst h6
    unfold rT at he
    rw [if_pos (.inl (by simp))] at he
    cases he
    refine (RText_none w q a sv l true lo hi h1 h2 h5 h4 (.inl rfl)).mono ?_
    rintro e w' ⟨rfl, k1, k2⟩
    exact ⟨_, rfl, Src.nil _, .inr rfl, ⟨a, k1, h2.only k2 h3, h3, h4, h5, rfl⟩, k2⟩
  | false =>
    simp only [Bool.false_eq_true, if_false] at h6
    subst h6
    unfold rT at he
    simp only [List.length_drop] at he
    split at he
    · rename_i hc
      cases he
      by_cases hk : l.length < a + 2
      · refine (RText_none w q a sv l false lo hi h1 h2 h5 h4 (.inr hk)).mono ?_
        rintro e w' ⟨rfl, k1, k2⟩
        exact ⟨_, rfl, Src.nil _, .inr rfl, ⟨a, k1, h2.only k2 h3, h3, h4, h5, rfl⟩, k2⟩
      · refine (RText_out w q a sv l lo hi _ h1 h2 h5 (by omega) rfl (by omega)).mono ?_
        rintro e w' ⟨rfl, k1, k2⟩
        exact ⟨_, rfl, Src.nil _, .inr rfl, ⟨a + 2, k1, h2.only k2 h3, h3, by omega, h5, rfl⟩, k2⟩
    · rename_i hc
      cases he
      refine (RText_ok w q a sv l lo hi _ h1 h2 h3 h5 (by omega) rfl (by omega) (by omega)).mono ?_
      rintro e w' ⟨v, rfl, k0, k1, k2, k3⟩
      exact ⟨v, rfl, by rw [List.drop_drop]; exact k1, .inl k0, ⟨_, k2, h2.only k3 h3, h3, by omega, h5, by simp [List.drop_drop, Nat.add_assoc]⟩, k3⟩
theorem rend_any (w : World) (q : Nat) (sv : Value) (l : List Nat) (s : Sta) (h : RfS w q sv l s) :
    Calls Try.prog 30 #[.pointer (some ⟨q, 0, none⟩)] w fun e w' => e = .returned (.bool (!s.2 && decide (s.1 = []))) ∧ ∃ k, w' = w.drewN k := by
  obtain ⟨a, h1, h2, h3, h4, h5, h6⟩ := h
  refine (REnd_any w q a sv l s.2 h1 h2).mono ?_
  rintro e w' ⟨rfl, k⟩
  refine ⟨?_, k⟩
  congr 2
  obtain ⟨sl, sb⟩ := s
  cases sb with
  | true => rfl
  | false =>
    simp only [Bool.false_eq_true, if_false] at h6
    subst h6
    simp only [Bool.not_false, Bool.true_and, decide_eq_decide, List.drop_eq_nil_iff]
    omega
end Go.Proofs.Ytmllecdbedighaa.E9
