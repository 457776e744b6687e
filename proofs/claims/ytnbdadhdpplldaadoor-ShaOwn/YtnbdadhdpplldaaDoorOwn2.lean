/- ShaOwn where it answers at once. -/
import Derived.Test.YtnbdadhdpplldaaDoorOwn
namespace Go.Proofs.YtnbdadhdpplldaaDoor
open Go.RowKit
set_option maxHeartbeats 400000 in
theorem shaOwn_early (p q : Option Addr) (n c m d : Nat) (w : World) (hT : Tab w) (h : 300 < n ∨ 300 < m) (_hn : n ≤ 9223372036854775807) (_hm : m ≤ 9223372036854775807) :
    Calls Tryd.prog 6 #[.slice p n c, .slice q m d] w fun e w' => e = .returned (.bool true) ∧ Below w.heap.size w w' := by
  have HT : Hid (Tab w) := hT
  clear hT
  by_cases h1 : 300 < n
  · have n200 : (300 : Int) < (n : Int) := by omega
    go_enter Tryd.func6, Tryd.ntmps6
    go_wp2_with fail
    refine (anchor_any w HT.out).mono ?_
    rintro e w1 ⟨rfl, hb1⟩
    have HB1 : Hid _ := hb1
    clear hb1
    go_wp2_with fail
    go_ret
    exact ⟨rfl, HB1.out⟩
  · have n200 : ¬ (300 : Int) < (n : Int) := by omega
    have hat : (300 : Int) < (m : Int) := by omega
    clear h
    go_enter Tryd.func6, Tryd.ntmps6
    go_wp2_with fail
    refine (anchor_any w HT.out).mono ?_
    rintro e w1 ⟨rfl, hb1⟩
    have HB1 : Hid _ := hb1
    clear hb1
    go_wp2_with fail
    go_ret
    exact ⟨rfl, HB1.out⟩
end Go.Proofs.YtnbdadhdpplldaaDoor
