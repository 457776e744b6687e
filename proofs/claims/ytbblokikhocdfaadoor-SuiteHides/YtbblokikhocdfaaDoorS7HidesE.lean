/- SuiteHides, its early ways out. -/
import Derived.Test.YtbblokikhocdfaaDoorS7Args
namespace Go.Proofs.YtbblokikhocdfaaDoor.S7
open Go.RowKit
set_option maxHeartbeats 1000000 in
theorem hides_early (a b o : Option Addr) (n ca m cb k co : Nat) (z : Int) (nonce : List Nat) (w : World) (h : n ≠ m ∨ 100 < n ∨ z < 1 ∨ 20 < z ∨ 100 < k) :
    Calls Tryd.prog 6 #[.slice a n ca, .slice b m cb, .int .i64 z, .agg (arr .u8 nonce), .slice o k co] w fun e w' => e = .returned (.bool true) ∧ Below w.heap.size w w' := by
  by_cases h1 : n ≠ m
  · have g1 : ((n : Int) == (m : Int)) = false := by rw [beq_eq_false_iff_ne]; omega
    clear h
    go_enter Tryd.func6, Tryd.ntmps6
    go_wp2_with fail
    refine (anchor_any _).mono ?_
    rintro e w1 ⟨rfl, hb1⟩
    have HB1 : Hid (Below w.heap.size w w1) := ((Below.refl _ _).alloc (Nat.le_refl _) _).trans (hb1.mono (by simp))
    clear hb1
    go_wp2_with fail
    go_ret
    exact ⟨rfl, HB1.out⟩
  · obtain rfl : n = m := by omega
    by_cases h2 : 100 < n
    · have g2 : (100 : Int) < (n : Int) := by omega
      clear h
      go_enter Tryd.func6, Tryd.ntmps6
      go_wp2_with fail
      refine (anchor_any _).mono ?_
      rintro e w1 ⟨rfl, hb1⟩
      have HB1 : Hid (Below w.heap.size w w1) := ((Below.refl _ _).alloc (Nat.le_refl _) _).trans (hb1.mono (by simp))
      clear hb1
      go_wp2_with fail
      go_ret
      exact ⟨rfl, HB1.out⟩
    · have g2 : ¬ (100 : Int) < (n : Int) := by omega
      by_cases h3 : z < 1
      · clear h
        go_enter Tryd.func6, Tryd.ntmps6
        go_wp2_with fail
        refine (anchor_any _).mono ?_
        rintro e w1 ⟨rfl, hb1⟩
        have HB1 : Hid (Below w.heap.size w w1) := ((Below.refl _ _).alloc (Nat.le_refl _) _).trans (hb1.mono (by simp))
        clear hb1
        go_wp2_with fail
        go_ret
        exact ⟨rfl, HB1.out⟩
      · by_cases h4 : 20 < z
        · clear h
          go_enter Tryd.func6, Tryd.ntmps6
          go_wp2_with fail
          refine (anchor_any _).mono ?_
          rintro e w1 ⟨rfl, hb1⟩
          have HB1 : Hid (Below w.heap.size w w1) := ((Below.refl _ _).alloc (Nat.le_refl _) _).trans (hb1.mono (by simp))
          clear hb1
          go_wp2_with fail
          go_ret
          exact ⟨rfl, HB1.out⟩
        · have g5 : (100 : Int) < (k : Int) := by omega
          clear h
          go_enter Tryd.func6, Tryd.ntmps6
          go_wp2_with fail
          refine (anchor_any _).mono ?_
          rintro e w1 ⟨rfl, hb1⟩
          have HB1 : Hid (Below w.heap.size w w1) := ((Below.refl _ _).alloc (Nat.le_refl _) _).trans (hb1.mono (by simp))
          clear hb1
          go_wp2_with fail
          go_ret
          exact ⟨rfl, HB1.out⟩
end Go.Proofs.YtbblokikhocdfaaDoor.S7
