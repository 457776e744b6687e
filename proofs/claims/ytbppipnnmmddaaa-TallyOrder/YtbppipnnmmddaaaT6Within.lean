/- Within, of two tallies. -/
import Derived.Test.YtbppipnnmmddaaaT6Fun
namespace Go.Proofs.Ytbppipnnmmddaaa
open Go.RowKit Ieee
theorem Within_t (a b c d : Nat) (m n p q : Int) (h1 : U a m) (h2 : U b n) (h3 : U c p) (h4 : U d q) (h5 : Rt m n) (h6 : Rt p q) (h : m ≤ p ∧ n ≤ q) (w : World) : Calls Try.prog 18 #[.complex .f64 a b, .complex .f64 c d] w fun e w' => ∃ k, e = .returned (.bool true) ∧ w' = w.drewN k := by
  have := Within_ok a b c d m n p q h1 h2 h3 h4 h5 h6 w
  rwa [decide_eq_true h] at this
theorem Within_f (a b c d : Nat) (m n p q : Int) (h1 : U a m) (h2 : U b n) (h3 : U c p) (h4 : U d q) (h5 : Rt m n) (h6 : Rt p q) (h : ¬ (m ≤ p ∧ n ≤ q)) (w : World) : Calls Try.prog 18 #[.complex .f64 a b, .complex .f64 c d] w fun e w' => ∃ k, e = .returned (.bool false) ∧ w' = w.drewN k := by
  have := Within_ok a b c d m n p q h1 h2 h3 h4 h5 h6 w
  rwa [decide_eq_false h] at this
end Go.Proofs.Ytbppipnnmmddaaa
