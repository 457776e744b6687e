/- PolicyRotates over all that comes in. -/
import Derived.Test.YtmlnbbggfjgacaaP10Ro1
import Derived.Test.YtmlnbbggfjgacaaP10Args
namespace Go.Proofs.Ytmlnbbggfjgacaa.P10
open Go.RowKit C8 E9
theorem rotates_any (a1 : Option Addr) (n c1 : Nat) (ep : Int) (a2 : Option Addr) (m c2 : Nat) (w : World) (h1 : n ≤ 9223372036854775807 ∧ ∃ l : List Int, l.length = n ∧ IntR w a1 l) (h2 : m ≤ 9223372036854775807 ∧ ∃ l : List Int, l.length = m ∧ IntR w a2 l) : Calls Try.prog 8 #[.slice a1 n c1, .int .i64 ep, .slice a2 m c2] w fun x w' => x = .returned (.bool true) ∧ Below w.heap.size w w' := by
  by_cases h : 8 < n ∨ 10 < m ∨ ep < 1 ∨ 16 < ep
  · exact ro_many w a1 n c1 ep a2 m c2 h1.1 h2.1 h
  · obtain ⟨-, l, rfl, hl⟩ := h1
    obtain ⟨-, ws, rfl, hr⟩ := h2
    exact ro_main w a1 l c1 ep a2 ws c2 hl hr (by omega) (by omega) (by omega)
end Go.Proofs.Ytmlnbbggfjgacaa.P10
