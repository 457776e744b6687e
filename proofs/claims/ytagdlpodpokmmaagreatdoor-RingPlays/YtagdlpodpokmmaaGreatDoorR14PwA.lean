/- RingPlays of any secret and any steps that came in. -/
import Derived.Test.YtagdlpodpokmmaaGreatDoorR14Pw
import Derived.Test.YtagdlpodpokmmaaGreatDoorS7Args
namespace Go.Proofs.YtagdlpodpokmmaaGreatDoor.S7
open Go.RowKit
theorem plays_law (W : World) (a0 a1 : Option Addr) (n0 c0 n1 c1 : Nat) (w0 : RowIs W a0 n0 c0) (w1 : n1 ≤ 9223372036854775807 ∧ ∃ os : List Op5, os.length = n1 ∧ OpRow5 W W a1 os) :
    Calls Tryz.prog 3 #[.slice a0 n0 c0, .slice a1 n1 c1] W fun e w' => e = .returned (.bool true) ∧ Below W.heap.size W w' := by
  obtain ⟨hn, os, hl, hr⟩ := w1
  obtain ⟨sl, _, hs⟩ := Src.of w0
  exact plays_main os a1 n1 c1 a0 n0 c0 sl W hs hl hn w0.max hr
end Go.Proofs.YtagdlpodpokmmaaGreatDoor.S7
