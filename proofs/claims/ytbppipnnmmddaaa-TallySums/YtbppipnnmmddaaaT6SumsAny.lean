/- TallySums over whatever comes in. -/
import Derived.Test.YtbppipnnmmddaaaT6SumsW
namespace Go.Proofs.Ytbppipnnmmddaaa
open Go.RowKit Ieee
set_option maxHeartbeats 2000000 in
theorem sums_early (x y : Int) (p : Option Addr) (n c : Nat) (w : World) (h : ¬ Rt x y) : Calls Try.prog 5 #[.agg #[.int .i64 x, .int .i64 y], .slice p n c] w fun e w' => e = .returned (.bool true) ∧ Below w.heap.size w w' := by
  have HR : Hid (¬ Rt x y) := h
  clear h
  go_enter Try.func5, Try.ntmps5
  go_wp2_with (first
    | (go_at_call 9; refine (anchor_any _).mono ?_; rintro e w1 ⟨rfl, b1⟩; have a1 : At1 w x y w1 := (At1.start w x y).next b1; have c0 := a1.p.c0; have c1 := a1.p.c1; clear b1)
    | (go_at_call 11; refine (right_no x y HR.out _).mono ?_; rintro e w2 ⟨rfl, b1⟩; have a2 : At1 w x y w2 := At1.next (by assumption) b1; clear b1))
  go_ret
  exact ⟨rfl, a2.bel⟩
set_option maxHeartbeats 2000000 in
theorem sums_many (x y : Int) (p : Option Addr) (n c : Nat) (w : World) (h : Rt x y) (hn : 40 < n) (hm : n ≤ 9223372036854775807) : Calls Try.prog 5 #[.agg #[.int .i64 x, .int .i64 y], .slice p n c] w fun e w' => e = .returned (.bool true) ∧ Below w.heap.size w w' := by
  have HR : Hid (Rt x y) := h
  have hn' : (40 : Int) < (n : Int) := by omega
  clear h
  go_enter Try.func5, Try.ntmps5
  go_wp2_with (first
    | (go_at_call 9; refine (anchor_any _).mono ?_; rintro e w1 ⟨rfl, b1⟩; have a1 : At1 w x y w1 := (At1.start w x y).next b1; have c0 := a1.p.c0; have c1 := a1.p.c1; clear b1)
    | (go_at_call 11; refine (right_yes x y HR.out _).mono ?_; rintro e w2 ⟨rfl, b1⟩; have a2 : At1 w x y w2 := At1.next (by assumption) b1; clear b1))
  go_ret
  exact ⟨rfl, a2.bel⟩
theorem sums_any (x y : Int) (p : Option Addr) (n c : Nat) (w : World) (hp : PairsIs w p n) : Calls Try.prog 5 #[.agg #[.int .i64 x, .int .i64 y], .slice p n c] w fun e w' => e = .returned (.bool true) ∧ Below w.heap.size w w' := by
  by_cases h : Rt x y
  · by_cases hn : 40 < n
    · exact sums_many x y p n c w h hn hp.1
    · rcases hp.2 with h0 | ⟨b, o, D, rfl, hD, hb, hc⟩
      · subst h0
        exact sums_main x y [] p 0 c w h (fun j hj => absurd hj (by simp)) rfl (by omega)
      · exact sums_main x y D _ n c w h (fun j hj => ⟨b, o, rfl, hb, (hc j hj).1, by rw [Nat.add_assoc]; exact (hc j hj).2⟩) hD (by omega)
  · exact sums_early x y p n c w h
end Go.Proofs.Ytbppipnnmmddaaa
