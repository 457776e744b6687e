/- Wraps that are read one by one into a row of one's own; the steps of the region in which that is done. -/
import Derived.Test.YtigfiopmochliaaE9D4
import Derived.Test.YtigfiopmochliaaMgB
namespace Go.Proofs.Ytigfiopmochliaa.E9
open Go.RowKit C8
/-- Cells that are wraps, two each. -/
def AreW (w : World) (p A B : Nat) : List Value → List (Int × List Nat) → Prop
  | [], [] => True
  | c1 :: c2 :: xs, x :: ws => (c1 = .int .i64 x.1 ∧ (∃ tp tc, c2 = .slice tp x.2.length tc ∧ Tx w p A B c2 x.2) ∧ x.2.length ≤ 9223372036854775807) ∧ AreW w p A B xs ws
  | [], _ :: _ => False
  | [_], _ => False
  | _ :: _ :: _, [] => False
section
variable {w w' : World} {p A B : Nat}
theorem AreW.turn (ht : ∀ v t, Tx w p A B v t → Tx w' p A B v t) : ∀ {xs : List Value} {ws : List (Int × List Nat)}, AreW w p A B xs ws → AreW w' p A B xs ws
  | [], [], _ => trivial
  | _ :: _ :: _, _ :: _, ⟨⟨h1, ⟨tp, tc, h2, h3⟩, h4⟩, h5⟩ => ⟨⟨h1, ⟨tp, tc, h2, ht _ _ h3⟩, h4⟩, AreW.turn ht h5⟩
theorem AreW.snoc : ∀ {xs : List Value} {ws : List (Int × List Nat)}, AreW w p A B xs ws → ∀ {n : Int} {t : List Nat} {tp : Option Addr} {tc : Nat}, Tx w p A B (.slice tp t.length tc) t → t.length ≤ 9223372036854775807 → AreW w p A B (xs ++ [.int .i64 n, .slice tp t.length tc]) (ws ++ [(n, t)])
  | [], [], _, _, _, tp, tc, h, hl => ⟨⟨rfl, ⟨tp, tc, rfl, h⟩, hl⟩, trivial⟩
  | _ :: _ :: _, _ :: _, h, _, _, _, _, hT, hl => ⟨h.1, AreW.snoc h.2 hT hl⟩
theorem AreW.at : ∀ {xs : List Value} {ws : List (Int × List Nat)}, AreW w p A B xs ws → ∀ j (hj : j < ws.length), ∃ tp tc, xs[j * 2]? = some (.int .i64 ws[j].1) ∧ xs[j * 2 + 1]? = some (.slice tp ws[j].2.length tc) ∧ Tx w p A B (.slice tp ws[j].2.length tc) ws[j].2 ∧ ws[j].2.length ≤ 9223372036854775807
  | [], [], _, j, hj => absurd hj (by simp)
  | _ :: _ :: _, _ :: _, ⟨⟨h1, ⟨tp, tc, h2, h3⟩, h4⟩, _⟩, 0, _ => ⟨tp, tc, by simp [h1], by simp [h2], by subst h2; exact h3, h4⟩
  | _ :: _ :: _, _ :: ws, ⟨_, h5⟩, j + 1, hj => by
    obtain ⟨tp, tc, k1, k2, k3, k4⟩ := AreW.at h5 j (by simpa using hj)
    refine ⟨tp, tc, ?_, ?_, by simpa using k3, by simpa using k4⟩
    · rw [show (j + 1) * 2 = j * 2 + 1 + 1 from by omega]
      simpa using k1
    · rw [show (j + 1) * 2 + 1 = j * 2 + 1 + 1 + 1 from by omega]
      simpa using k2
/-- The row, in any memory that agrees with this one from A on. -/
theorem AreW.row {xs : List Value} {ws : List (Int × List Nat)} {base n c : Nat} {q : Option Addr} (h : AreW w p A B xs ws) (hown : w.ownsRow base 57 2 (.slice q n c) n xs) (hA : A ≤ base) {w2 : World} (ha : Agree A w w2) (hn : ws.length = n) : WrRow w2 q ws := fun j hj => by
  obtain ⟨tp, tc, k1, k2, k3, k4⟩ := h.at j hj
  obtain ⟨hl, ⟨e, h0⟩ | ⟨g, cap, cur, e, hg, hh, hnc, hm, hc, ht⟩⟩ := hown
  · have hj' := (List.getElem?_eq_some_iff.1 k1).1
    omega
  · cases e
    have hgl := (Array.getElem?_eq_some_iff.1 hh).1
    have hh2 := (ha.1 g (Nat.le_trans hA hg) hgl).trans hh
    refine ⟨g, 0, tp, tc, rfl, Nat.lt_of_lt_of_le hgl ha.2, ?_, ?_, k3.agree ha, k4⟩
    · rw [cell_of_row _ _ _ _ _ _ hh2, Nat.zero_add]
      rw [← ht, List.getElem?_take_of_lt (by omega)] at k1
      simpa using k1
    · rw [cell_of_row _ _ _ _ _ _ hh2, Nat.zero_add]
      rw [← ht, List.getElem?_take_of_lt (by omega)] at k2
      simpa using k2
end
theorem info45e : ∃ i, Try.prog.info? 66 = some i ∧ i.size = 2 ∧ i.bytes = 32 ∧ i.zero = some (.agg #[.int .i64 0, .slice none 0 0]) := info_of (by kernel_rfl)
theorem info47e : ∃ i, Try.prog.info? 70 = some i ∧ i.size = 2 ∧ i.bytes = 32 ∧ i.zero = some (.agg #[.int .i64 0, .slice none 0 0]) := info_of (by kernel_rfl)
end Go.Proofs.Ytigfiopmochliaa.E9
