/- SuiteSigns of any steps that came in. -/
import Derived.Test.YtbblokikhocdfaaDoorS7SigW
namespace Go.Proofs.YtbblokikhocdfaaDoor.S7
open Go.RowKit
theorem signs_any (a : Option Addr) (n c : Nat) (w : World) (h : n ≤ 9223372036854775807 ∧ ∃ os : List Op7, os.length = n ∧ OpRow w w a os) :
    Calls Tryd.prog 3 #[.slice a n c] w fun e w' => e = .returned (.bool true) ∧ Below w.heap.size w w' := by
  obtain ⟨hn, os, hl, hr⟩ := h
  exact signs_main os a n c w hl hn hr
end Go.Proofs.YtbblokikhocdfaaDoor.S7
