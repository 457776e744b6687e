/- SuiteOnce, its early ways out. -/
import Derived.Test.YtbblokikhocdfaaDoorS7Two
namespace Go.Proofs.YtbblokikhocdfaaDoor.S7
open Go.RowKit
set_option maxHeartbeats 1000000 in
theorem once_early (a b : Option Addr) (n ca m cb : Nat) (w : World) (h : 20 < n ∨ 100 < m) :
    Calls Tryd.prog 8 #[.slice a n ca, .slice b m cb] w fun e w' => e = .returned (.bool true) ∧ Below w.heap.size w w' := by
  by_cases h1 : 20 < n
  · have g1 : (20 : Int) < (n : Int) := by omega
    clear h
    go_enter Tryd.func8, Tryd.ntmps8
    go_wp2_with fail
    refine (anchor_any _).mono ?_
    rintro e w1 ⟨rfl, hb1⟩
    have HB1 : Hid (Below w.heap.size w w1) := hb1
    clear hb1
    go_wp2_with fail
    go_ret
    exact ⟨rfl, HB1.out⟩
  · have g1 : ¬ (20 : Int) < (n : Int) := by omega
    have g2 : (100 : Int) < (m : Int) := by omega
    clear h
    go_enter Tryd.func8, Tryd.ntmps8
    go_wp2_with fail
    refine (anchor_any _).mono ?_
    rintro e w1 ⟨rfl, hb1⟩
    have HB1 : Hid (Below w.heap.size w w1) := hb1
    clear hb1
    go_wp2_with fail
    go_ret
    exact ⟨rfl, HB1.out⟩
end Go.Proofs.YtbblokikhocdfaaDoor.S7
