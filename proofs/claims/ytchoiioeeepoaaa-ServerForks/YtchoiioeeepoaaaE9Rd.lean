/- The reader by plain functions of what it has left; the contracts of Decode's closures. -/
import Derived.Test.YtchoiioeeepoaaaE9Dec
import Derived.Test.YtchoiioeeepoaaaE9Leaf
import Derived.Test.YtchoiioeeepoaaaC8Anchor
namespace Go.Proofs.Ytchoiioeeepoaaa.E9
open Go.RowKit C8
/-- A reader at p, whose bytes lie from A on and below B. -/
def RdS (w : World) (p A B : Nat) (s : Sta) : Prop := ∃ g o, RdAt w p g o s.1 s.2 ∧ (s.1 ≠ [] → A ≤ g ∧ g < B) ∧ p < B
/-- A text that was read: it lies from A on and below B, and not at p. -/
def Tx (w : World) (p A B : Nat) (v : Value) (t : List Nat) : Prop := Src w v t ∧ (t ≠ [] → ∃ g, v.ownBlock = some g ∧ A ≤ g ∧ g < B ∧ g ≠ p)
theorem Tx.only {w w' : World} {p A B : Nat} {v : Value} {t : List Nat} (h : Tx w p A B v t) (ho : Only [p] w w') : Tx w' p A B v t := by
  refine ⟨?_, h.2⟩
  by_cases h0 : t = []
  · subst h0
    exact h.1.empty w'
  · obtain ⟨g, hg, _, _, hp⟩ := h.2 h0
    exact h.1.only ho (fun b hb hm => by rw [hg] at hb; cases hb; simp at hm; exact hp hm)
theorem Tx.below {w w' : World} {p A B : Nat} {v : Value} {t : List Nat} (h : Tx w p A B v t) (hb : Below B w w') : Tx w' p A B v t := by
  refine ⟨?_, h.2⟩
  have : Old B w v t := ⟨h.1, fun h0 b hb => by obtain ⟨g, hg, _, hB, _⟩ := h.2 h0; rw [hg] at hb; cases hb; exact hB⟩
  exact (this.keep hb).1
theorem Tx.nil (w : World) (p A B : Nat) : Tx w p A B (.slice none 0 0) [] := ⟨Src.nil w, fun h => absurd rfl h⟩
theorem RdS.below {w w' : World} {p A B : Nat} {s : Sta} (h : RdS w p A B s) (hb : Below B w w') : RdS w' p A B s := by
  obtain ⟨g, o, h1, h2, h3⟩ := h
  refine ⟨g, o, ?_, h2, h3⟩
  obtain ⟨k1, k2, k3, sl, k4, k5⟩ := h1
  refine ⟨k1, k2, k3, sl, (hb.block p h3).trans k4, ?_⟩
  rcases k5 with k5 | ⟨c, k5, k6, k7⟩
  · exact .inl k5
  · refine .inr ⟨c, k5, k6, ?_⟩
    by_cases h0 : s.1 = []
    · rw [h0]
      exact fun j u hu => by simp [ints] at hu
    · exact range_kept k7 (hb.block g (h2 h0).2)
theorem number_any (w : World) (p A B : Nat) (s s' : Sta) (lo hi n : Int) (h : RdS w p A B s) (he : rN lo hi s = (n, s')) :
    Calls Try.prog 36 #[.pointer (some ⟨p, 0, none⟩), .int .i64 lo, .int .i64 hi] w fun e w' => e = .returned (.int .i64 n) ∧ RdS w' p A B s' ∧ Only [p] w w' := by
  obtain ⟨g, o, h1, h2, h3⟩ := h
  unfold rN at he
  split at he
  · rename_i hc
    cases he
    refine (Number_lack w p g o s.1 s.2 lo hi h1 hc).mono ?_
    rintro e w' ⟨rfl, k1, k2⟩
    exact ⟨rfl, ⟨g, o, k1, fun h => absurd rfl h, h3⟩, k2⟩
  · rename_i hc
    cases he
    refine (Number_ok w p g o s.1 s.2 lo hi _ h1 (by omega) rfl (by omega) (by omega)).mono ?_
    rintro e w' ⟨rfl, k1, k2⟩
    exact ⟨rfl, ⟨g, o + 6, k1, fun _ => h2 (fun e => hc (.inl (by rw [e]; decide))), h3⟩, k2⟩
theorem text_any (w : World) (p A B : Nat) (s s' : Sta) (lo hi : Int) (t : List Nat) (h : RdS w p A B s) (he : rT lo hi s = (t, s')) :
    Calls Try.prog 37 #[.pointer (some ⟨p, 0, none⟩), .int .i64 lo, .int .i64 hi] w fun e w' => ∃ tp tc, e = .returned (.slice tp t.length tc) ∧ Tx w' p A B (.slice tp t.length tc) t ∧ RdS w' p A B s' ∧ Only [p] w w' := by
  obtain ⟨g, o, h1, h2, h3⟩ := h
  unfold rT at he
  split at he
  · rename_i hc
    cases he
    refine (Text_lack w p g o s.1 s.2 lo hi h1 hc).mono ?_
    rintro e w' ⟨rfl, k1, k2⟩
    exact ⟨none, 0, rfl, Tx.nil _ _ _ _, ⟨g, o, k1, fun h => absurd rfl h, h3⟩, k2⟩
  · rename_i hc
    cases he
    have hne : s.1 ≠ [] := fun e => hc (.inl (by rw [e]; decide))
    refine (Text_src w p g o s.1 s.2 lo hi _ h1 (by omega) rfl (by omega) (by omega)).mono ?_
    rintro e w' ⟨v, rfl, k0, k1, k2, k3⟩
    obtain ⟨tp, tc, rfl, _⟩ := k1.slice
    refine ⟨tp, tc, rfl, ⟨k1, fun h0 => ?_⟩, ⟨g, _, k2, fun _ => h2 hne, h3⟩, k3⟩
    rcases k0 with ⟨hz, _⟩ | k0
    · rw [hz, List.take_zero] at h0
      exact absurd rfl h0
    · rw [k0]
      exact ⟨g, rfl, (h2 hne).1, (h2 hne).2, fun e => h1.2.2.1 e.symm⟩
theorem end_any (w : World) (p A B : Nat) (s : Sta) (h : RdS w p A B s) : Calls Try.prog 38 #[.pointer (some ⟨p, 0, none⟩)] w fun e w' => e = .returned (.bool (!s.2 && decide (s.1 = []))) ∧ w' = w := by
  obtain ⟨g, o, h1, -, -⟩ := h
  have := End_any w p g o s.1 s.2 h1
  rwa [show decide (s.1.length = 0) = decide (s.1 = []) from by rw [decide_eq_decide]; exact List.length_eq_zero_iff] at this
/-- Read makes such a reader. -/
theorem read_any (sv : Value) (l : List Nat) (w : World) (hs : Src w sv l) (hl : l.length ≤ 900000) :
    Calls Try.prog 35 #[sv] w fun e w' => ∃ p, e = .returned (.pointer (some ⟨p, 0, none⟩)) ∧ RdS w' p w.heap.size w'.heap.size (l, false) ∧ w.heap.size ≤ p ∧ p < w'.heap.size ∧ Below w.heap.size w w' := by
  refine (Read_any sv l w hs hl).mono ?_
  rintro e w' ⟨p, g, o, rfl, h1, h2, h3, h4⟩
  refine ⟨p, rfl, ⟨g, o, h1, fun h0 => ⟨h3, ?_⟩, h1.lt⟩, h2, h1.lt, h4⟩
  obtain ⟨k1, k2, k3, sl, k4, ⟨q, c, _, k5⟩ | ⟨c, k5, k6, k7⟩⟩ := h1
  · exact absurd k5 h0
  · exact range_lt k7 (ints_ne h0)
end Go.Proofs.Ytchoiioeeepoaaa.E9
