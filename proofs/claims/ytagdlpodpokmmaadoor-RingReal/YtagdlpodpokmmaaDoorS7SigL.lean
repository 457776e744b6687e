/- The document's eight, Sign and box: contracts. -/
import Derived.Test.YtagdlpodpokmmaaDoorS7Leaf
namespace Go.Proofs.YtagdlpodpokmmaaDoor.S7
open Go.RowKit
theorem eight_set (K : Nat) (E : List Nat) (hE : E.length = 8) (i x : Nat) (hi : i < 8) (hx : Sp.nth E i = x) : (List.replicate (K + (i + 1)) 0 ++ E.drop (i + 1)).set (K + i) x = List.replicate (K + i) 0 ++ E.drop i := by
  have h1 : E.drop i = x :: E.drop (i + 1) := by
    rw [List.drop_eq_getElem_cons (by omega), ← hx]
    simp [Sp.nth, hE, hi]
  rw [h1, show K + (i + 1) = (K + i) + 1 from rfl, List.replicate_succ', List.append_assoc, List.set_append_right _ _ (by simp)]
  simp
theorem div_div256 (n k : Nat) : n / 256 ^ k / 256 = n / 256 ^ (k + 1) := by rw [Nat.div_div_eq_div_mul, Nat.pow_succ]
theorem rsign_cells (s : Nat) (l : List Nat) : ((List.replicate 24 0 ++ l).set 0 83).set 1 s = 83 :: s :: (List.replicate 22 0 ++ l) := rfl
theorem rbox_cells (k : Nat) (l : List Nat) : (List.replicate (k + 8) 0 ++ l).set 0 66 = 66 :: (List.replicate (k + 7) 0 ++ l) := by
  rw [show k + 8 = (k + 7) + 1 from rfl, List.replicate_succ]
  rfl
end Go.Proofs.YtagdlpodpokmmaaDoor.S7
