/- SuiteOpens, its early ways out; what opens its box. -/
import Derived.Test.YtbblokikhocdfaaDoorS7Two
namespace Go.Proofs.YtbblokikhocdfaaDoor.S7
open Go.RowKit
set_option maxHeartbeats 1000000 in
theorem opens_early (a o : Option Addr) (n ca k co : Nat) (z q x : Int) (nonce : List Nat) (w : World) (h : 100 < n ∨ 100 < k ∨ z < 0 ∨ 4 < z ∨ q < 0 ∨ x = 0) :
    Calls Tryd.prog 7 #[.slice a n ca, .agg (arr .u8 nonce), .slice o k co, .int .i64 z, .int .i64 q, .int .u8 x] w fun e w' => e = .returned (.bool true) ∧ Below w.heap.size w w' := by
  by_cases h1 : 100 < n
  · have g1 : (100 : Int) < (n : Int) := by omega
    clear h
    go_enter Tryd.func7, Tryd.ntmps7
    go_wp2_with fail
    refine (anchor_any _).mono ?_
    rintro e w1 ⟨rfl, hb1⟩
    have HB1 : Hid (Below w.heap.size w w1) := ((Below.refl _ _).alloc (Nat.le_refl _) _).trans (hb1.mono (by simp))
    clear hb1
    go_wp2_with fail
    go_ret
    exact ⟨rfl, HB1.out⟩
  · have g1 : ¬ (100 : Int) < (n : Int) := by omega
    by_cases h2 : 100 < k
    · have g2 : (100 : Int) < (k : Int) := by omega
      clear h
      go_enter Tryd.func7, Tryd.ntmps7
      go_wp2_with fail
      refine (anchor_any _).mono ?_
      rintro e w1 ⟨rfl, hb1⟩
      have HB1 : Hid (Below w.heap.size w w1) := ((Below.refl _ _).alloc (Nat.le_refl _) _).trans (hb1.mono (by simp))
      clear hb1
      go_wp2_with fail
      go_ret
      exact ⟨rfl, HB1.out⟩
    · have g2 : ¬ (100 : Int) < (k : Int) := by omega
      by_cases h3 : z < 0
      · clear h
        go_enter Tryd.func7, Tryd.ntmps7
        go_wp2_with fail
        refine (anchor_any _).mono ?_
        rintro e w1 ⟨rfl, hb1⟩
        have HB1 : Hid (Below w.heap.size w w1) := ((Below.refl _ _).alloc (Nat.le_refl _) _).trans (hb1.mono (by simp))
        clear hb1
        go_wp2_with fail
        go_ret
        exact ⟨rfl, HB1.out⟩
      · by_cases h4 : 4 < z
        · clear h
          go_enter Tryd.func7, Tryd.ntmps7
          go_wp2_with fail
          refine (anchor_any _).mono ?_
          rintro e w1 ⟨rfl, hb1⟩
          have HB1 : Hid (Below w.heap.size w w1) := ((Below.refl _ _).alloc (Nat.le_refl _) _).trans (hb1.mono (by simp))
          clear hb1
          go_wp2_with fail
          go_ret
          exact ⟨rfl, HB1.out⟩
        · by_cases h5 : q < 0
          · clear h
            go_enter Tryd.func7, Tryd.ntmps7
            go_wp2_with fail
            refine (anchor_any _).mono ?_
            rintro e w1 ⟨rfl, hb1⟩
            have HB1 : Hid (Below w.heap.size w w1) := ((Below.refl _ _).alloc (Nat.le_refl _) _).trans (hb1.mono (by simp))
            clear hb1
            go_wp2_with fail
            go_ret
            exact ⟨rfl, HB1.out⟩
          · obtain rfl : x = 0 := by omega
            clear h
            go_enter Tryd.func7, Tryd.ntmps7
            go_wp2_with fail
            refine (anchor_any _).mono ?_
            rintro e w1 ⟨rfl, hb1⟩
            have HB1 : Hid (Below w.heap.size w w1) := ((Below.refl _ _).alloc (Nat.le_refl _) _).trans (hb1.mono (by simp))
            clear hb1
            go_wp2_with fail
            go_ret
            exact ⟨rfl, HB1.out⟩
theorem opens_pair (k n o t k1 n1 o1 b1 : List Nat) : Su.opens k1 n1 o1 b1 0 [(75, [], [], [], []), (66, k, n, o, t)] = if Su.box 2 t.length = b1 ∧ k = k1 ∧ n = n1 ∧ o = o1 then some t else none := by
  simp only [Su.opens]
  rw [if_neg (fun e => absurd e.1 (by decide))]
  by_cases h : Su.box 2 t.length = b1 ∧ k = k1 ∧ n = n1 ∧ o = o1
  · rw [if_pos h, if_pos ⟨trivial, h⟩]
  · rw [if_neg h, if_neg (fun e => h e.2)]
theorem xor_ne {y x : Nat} (h : 0 < x) : y ^^^ x ≠ y := fun e => by
  have : y ^^^ (y ^^^ x) = y ^^^ y := by rw [e]
  rw [← Nat.xor_assoc, Nat.xor_self, Nat.zero_xor] at this
  omega
theorem set_ne {l : List Nat} {i y : Nat} (hi : i < l.length) (h : y ≠ Sp.nth l i) : l.set i y ≠ l := fun e => by
  apply h
  have h1 : Sp.nth (l.set i y) i = Sp.nth l i := by rw [e]
  rw [← h1]
  simp [Sp.nth, hi]
theorem set_lt {l : List Nat} {i y : Nat} (hl : ∀ z ∈ l, z < 256) (hy : y < 256) : ∀ z ∈ l.set i y, z < 256 := fun z hz => by
  rcases List.mem_or_eq_of_mem_set hz with h | h
  · exact hl z h
  · rw [h]; exact hy
theorem xor_u8 {y x : Nat} (hy : y < 256) (hx : x < 256) : bits BinOp.xor .u8 (y : Int) (x : Int) = ((y ^^^ x : Nat) : Int) := u8_xor_nat _ _ hy hx
theorem own_empty (w : World) : (w.alloc (.cells #[] 5)).ownsRow w.heap.size 5 1 (.slice (some ⟨w.heap.size, 0, none⟩) 0 0) 0 (ints .u8 []) :=
  ⟨rfl, .inr ⟨w.heap.size, 0, #[], rfl, Nat.le_refl _, heap_alloc_new w _, Nat.le_refl _, by unfold maxLen; decide, rfl, rfl⟩⟩
end Go.Proofs.YtbblokikhocdfaaDoor.S7
