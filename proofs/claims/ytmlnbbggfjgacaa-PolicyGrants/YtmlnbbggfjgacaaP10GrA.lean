/- PolicyGrants over all that comes in. -/
import Derived.Test.YtmlnbbggfjgacaaP10Gr1
import Derived.Test.YtmlnbbggfjgacaaP10Args
namespace Go.Proofs.Ytmlnbbggfjgacaa.P10
open Go.RowKit C8 E9
theorem grants_any (a1 : Option Addr) (n c1 : Nat) (a2 : Option Addr) (m c2 : Nat) (w : World) (h1 : n ≤ 9223372036854775807 ∧ ∃ l : List Int, l.length = n ∧ IntR w a1 l) (h2 : m ≤ 9223372036854775807 ∧ ∃ l : List Int, l.length = m ∧ IntR w a2 l) : Calls Try.prog 7 #[.slice a1 n c1, .slice a2 m c2] w fun x w' => x = .returned (.bool true) ∧ Below w.heap.size w w' := by
  by_cases h : 30 < n ∨ 30 < m
  · exact gr_many w a1 n c1 a2 m c2 h1.1 h2.1 h
  · obtain ⟨-, l, rfl, hl⟩ := h1
    obtain ⟨-, rs, rfl, hr⟩ := h2
    exact gr_main w a1 l c1 a2 rs c2 hl hr (by omega) (by omega)
end Go.Proofs.Ytmlnbbggfjgacaa.P10
