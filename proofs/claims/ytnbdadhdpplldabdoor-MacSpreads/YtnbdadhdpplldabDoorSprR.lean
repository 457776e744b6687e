/- The walk of MacSpreads. -/
import Derived.Test.YtnbdadhdpplldabDoorSprL
namespace Go.Proofs.YtnbdadhdpplldabDoor
open Go.RowKit
set_option maxHeartbeats 400000 in
theorem expand_refused (p q : Option Addr) (n c m d : Nat) (z : Int) (w : World) (h : z < 0 ∨ 8160 < z) :
    Calls Tryd.prog 13 #[.slice p n c, .slice q m d, .int .i64 z] w fun e w' => e = .returned (.tuple #[.slice none 0 0, .int .i64 11]) ∧ Below w.heap.size w w' := by
  have HH : Hid (z < 0 ∨ 8160 < z) := h
  clear h
  go_enter Tryd.func13, Tryd.ntmps13
  go_wp2_with fail
  all_goals first | (exfalso; have := HH.out; omega) | skip
  all_goals go_ret2
  all_goals exact ⟨rfl, Below.refl _ _⟩
set_option maxHeartbeats 1000000 in
theorem spreads_refused (p q : Option Addr) (n c m d : Nat) (z f : Int) (w : World) (hT : Tab w) (hn : n ≤ 100) (hm : m ≤ 100) (h : z < 0 ∨ 8160 < z) :
    Calls Tryd.prog 5 #[.slice p n c, .slice q m d, .int .i64 z, .int .i64 f] w fun e w' => e = .returned (.bool true) ∧ Below w.heap.size w w' := by
  have HT : Hid (Tab w) := hT
  have HH : Hid (z < 0 ∨ 8160 < z) := h
  clear hT
  have n1 : ¬ (100 : Int) < (n : Int) := by omega
  have n2 : ¬ (100 : Int) < (m : Int) := by omega
  go_enter Tryd.func5, Tryd.ntmps5
  go_wp2_with fail
  refine (anchor_any w HT.out).mono ?_
  rintro e w1 ⟨rfl, hb1⟩
  have HB1 : Hid (Below w.heap.size w w1) := hb1
  clear hb1
  go_wp2_with fail
  all_goals (try (exfalso; have := HH.out; omega))
  all_goals (refine (expand_refused p q n c m d z w1 HH.out).mono ?_; rintro e w2 ⟨rfl, hb2⟩; have HB2 : Hid (Below w.heap.size w w2) := HB1.out.trans (hb2.mono HB1.out.size); clear hb2; go_wp2_with fail)
  all_goals first | (exfalso; have := HH.out; omega) | (go_ret; exact ⟨rfl, HB2.out⟩)
end Go.Proofs.YtnbdadhdpplldabDoor
