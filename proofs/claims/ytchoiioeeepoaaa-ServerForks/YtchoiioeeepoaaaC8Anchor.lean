/- The anchor: the document's example. -/
import Derived.Test.YtchoiioeeepoaaaC8Clone
namespace Go.Proofs.Ytchoiioeeepoaaa.C8
open Go.RowKit
/-- A text that is told holds its bytes. -/
theorem Told.src {w : World} {g o n : Nat} {v : Value} {t : List Nat} (h : Told g o n v) (hs : ∀ x ∈ t, x < 256) (hn : t.length = n) (hr : w.rangeAt g o (ints .u8 t)) : Src w v t := by
  rcases h with ⟨rfl, ad, c, rfl⟩ | rfl
  · have := List.eq_nil_of_length_eq_zero hn
    subst this
    exact ⟨hs, .inr (.inl ⟨ad, c, rfl, rfl⟩)⟩
  · exact Src.row hs (by omega) hr hn
/-- A text that is read, with its bytes. -/
theorem Text_src (w : World) (p g o : Nat) (l : List Nat) (bad : Bool) (least most : Int) (n : Nat) (h : RdAt w p g o l bad) (hl : 2 + n ≤ l.length) (hn : Cd.val (l.take 2) = n) (h1 : least ≤ (n : Int)) (h2 : (n : Int) ≤ most) :
    Calls Try.prog 37 #[.pointer (some ⟨p, 0, none⟩), .int .i64 least, .int .i64 most] w fun e w' => ∃ v, e = .returned v ∧ Told g (o + 2) n v ∧ Src w' v ((l.drop 2).take n) ∧ RdAt w' p g (o + (2 + n)) (l.drop (2 + n)) bad ∧ Only [p] w w' := by
  refine (Text_ok w p g o l bad least most n h hl hn h1 h2).mono ?_
  rintro e w' ⟨v, rfl, ht, hr, ho⟩
  refine ⟨v, rfl, ht, ?_, hr, ho⟩
  obtain ⟨k1, k2, k3, sl, k4, ⟨q, c, rfl, rfl⟩ | ⟨c, rfl, k5, k6⟩⟩ := h
  · exact absurd hl (by simp)
  · refine ht.src (fun x hx => k1 x (List.mem_of_mem_drop (List.mem_of_mem_take hx))) (by rw [List.length_take, List.length_drop]; omega) ?_
    by_cases h0 : n = 0
    · subst h0
      exact fun j u hu => by simp [ints] at hu
    · refine range_take (range_drop (range_kept k6 (ho.block g (range_lt k6 ?_) ?_)) 2) n
      · intro e
        have := congrArg List.length e
        rw [ints_length, List.length_nil] at this
        omega
      · simpa using fun e => k3 e.symm
theorem lit_all : strB [0, 0, 0, 0, 0, 1, 0, 2, 97, 98] = ⟨#[0, 0, 0, 0, 0, 1, 0, 2, 97, 98]⟩ := by rfl
theorem lit_ab : strB [97, 98] = ⟨#[97, 98]⟩ := by rfl
/-- The example's parts. -/
def exPs : List Pt := [⟨false, 1, []⟩, ⟨true, 0, [97, 98]⟩]
theorem ex_err : Cd.err exPs = 0 := by rfl
theorem ex_enc : Cd.enc exPs = [0, 0, 0, 0, 0, 1, 0, 2, 97, 98] := by rfl
theorem ex_is (w : World) : PartsIs (w.alloc (.cells #[.iface 3 (.int .i64 1), .iface 9 (.string ⟨#[97, 98]⟩)] 20)) (w.heap.size + 1) (some ⟨w.heap.size, 0, none⟩) exPs := by
  have h0 := heap_alloc_new w (.cells #[.iface 3 (.int .i64 1), .iface 9 (.string ⟨#[97, 98]⟩)] 20)
  intro j hj
  have hb : w.heap.size < (w.alloc (.cells #[.iface 3 (.int .i64 1), .iface 9 (.string ⟨#[97, 98]⟩)] 20)).heap.size := by simp
  match j, hj with
  | 0, _ => exact ⟨_, _, _, rfl, hb, by rw [cell_of_row _ _ _ _ _ _ h0]; rfl, (fun x hx => by cases hx), .inl ⟨rfl, rfl⟩⟩
  | 1, _ => exact ⟨_, _, _, rfl, hb, by rw [cell_of_row _ _ _ _ _ _ h0]; rfl, (fun x hx => by simp [exPs] at hx; omega), .inr ⟨rfl, by simp [exPs], .inr (by rw [← lit_ab]; rfl)⟩⟩
/-- What a right Put tells. -/
theorem PutSays.ok {base : Nat} {ps : List Pt} {e : Ending} {w w' : World} (h : PutSays base ps e w w') (h0 : Cd.err ps = 0) : ∃ v, e = .returned (.tuple #[v, .int .i64 0]) ∧ w'.ownsRow base 5 1 v (Cd.enc ps).length (ints .u8 (Cd.enc ps)) ∧ Below base w w' := by
  obtain ⟨h1, ⟨_, v, h2, h3⟩ | ⟨h2, _⟩⟩ := h
  · exact ⟨v, h2, h3, h1⟩
  · exact absurd h0 h2
theorem PutSays.bad {base : Nat} {ps : List Pt} {e : Ending} {w w' : World} (h : PutSays base ps e w w') (h0 : Cd.err ps ≠ 0) : e = .returned (.tuple #[.slice none 0 0, .int .i64 (Cd.err ps : Nat)]) ∧ Below base w w' := by
  obtain ⟨h1, ⟨h2, _⟩ | ⟨_, h2⟩⟩ := h
  · exact absurd h2 h0
  · exact ⟨h2, h1⟩
theorem ex_put (w : World) : Calls Try.prog 57 #[.slice (some ⟨w.heap.size, 0, none⟩) 2 2] (w.alloc (.cells #[.iface 3 (.int .i64 1), .iface 9 (.string ⟨#[97, 98]⟩)] 20)) fun e w' => ∃ v, e = .returned (.tuple #[v, .int .i64 0]) ∧ Src w' v [0, 0, 0, 0, 0, 1, 0, 2, 97, 98] ∧ Below w.heap.size w w' := by
  refine (Put_any exPs _ 2 _ (by decide) (by rw [show (w.alloc (.cells #[.iface 3 (.int .i64 1), .iface 9 (.string ⟨#[97, 98]⟩)] 20)).heap.size = w.heap.size + 1 from by simp]; exact ex_is w)).mono ?_
  intro e w' h
  obtain ⟨v, rfl, h1, h2⟩ := h.ok ex_err
  refine ⟨v, rfl, ?_, ((Below.refl _ w).alloc (Nat.le_refl _) _).trans (bel_le h2 (by simp))⟩
  rw [ex_enc] at h1
  exact Src.own (by decide) h1
end Go.Proofs.Ytchoiioeeepoaaa.C8
