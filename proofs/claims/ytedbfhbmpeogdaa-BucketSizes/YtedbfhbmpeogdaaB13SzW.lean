/- The walk of BucketSizes. -/
import Derived.Test.YtedbfhbmpeogdaaB13Anc
import Derived.Test.YtedbfhbmpeogdaaB13RS
namespace Go.Proofs.Ytedbfhbmpeogdaa.C8
open Go.RowKit
/-- What Size tells of a number, in one. -/
theorem Size_all (i : Int) (w : World) : Calls Try.prog 14 #[.int .i64 i] w fun e w' => e = .returned (.tuple #[.int .i64 (rsz i : Nat), .int .i64 (if rsz i = 0 then 11 else 0)]) ∧ w' = w := by
  by_cases h : i < 0 ∨ 2046 < i
  · have e : rsz i = 0 := by
      unfold rsz
      split
      · exact bsz_none (by omega)
      · rfl
    rw [e]
    exact Size_bad i w h
  · obtain ⟨n, rfl⟩ := Int.eq_ofNat_of_zero_le (show 0 ≤ i by omega)
    have hn : n ≤ 2046 := by omega
    have := bsz_le hn
    rw [rsz_nat, if_neg (by omega)]
    exact Size_ok n w hn
theorem rsz_pos {i : Int} (h : 0 < rsz i) : 0 ≤ i ∧ i ≤ 2046 ∧ i + 2 ≤ (rsz i : Int) ∧ (rsz i : Int) < 2 * i + 66 ∧ rsz i ≤ 2048 := by
  by_cases h0 : 0 ≤ i
  · obtain ⟨n, rfl⟩ := Int.eq_ofNat_of_zero_le h0
    rw [rsz_nat] at *
    by_cases hn : n ≤ 2046
    · have := bsz_le hn
      omega
    · rw [bsz_none (by omega)] at h
      omega
  · simp [rsz, h0] at h
theorem rsz_mono {i j : Int} (h : i ≤ j) (hi : 0 < rsz i) (hj : 0 < rsz j) : rsz i ≤ rsz j := by
  obtain ⟨a1, a2, _⟩ := rsz_pos hi
  obtain ⟨b1, b2, _⟩ := rsz_pos hj
  obtain ⟨n, rfl⟩ := Int.eq_ofNat_of_zero_le a1
  obtain ⟨m, rfl⟩ := Int.eq_ofNat_of_zero_le b1
  rw [rsz_nat, rsz_nat]
  exact bsz_mono (by omega) (by omega)
set_option maxHeartbeats 4000000 in
theorem sizes_any (i j : Int) (w : World) (hi : -9223372036854775808 ≤ i ∧ i ≤ 9223372036854775807) (hj : -9223372036854775808 ≤ j ∧ j ≤ 9223372036854775807) :
    Calls Try.prog 5 #[.int .i64 i, .int .i64 j] w fun e w' => e = .returned (.bool true) ∧ Below w.heap.size w w' := by
  have HI : Hid (∀ W, Calls Try.prog 14 #[.int .i64 i] W fun e w' => e = .returned (.tuple #[.int .i64 (rsz i : Nat), .int .i64 (if rsz i = 0 then 11 else 0)]) ∧ w' = W) := fun W => Size_all i W
  have HJ : Hid (∀ W, Calls Try.prog 14 #[.int .i64 j] W fun e w' => e = .returned (.tuple #[.int .i64 (rsz j : Nat), .int .i64 (if rsz j = 0 then 11 else 0)]) ∧ w' = W) := fun W => Size_all j W
  have HRI : Hid (∀ W, Calls Try.prog 15 #[.int .i64 i] W fun e w' => e = .returned (.int .i64 (rsz i : Nat)) ∧ Below W.heap.size W w') := fun W => RSize_any i W hi
  have HRJ : Hid (∀ W, Calls Try.prog 15 #[.int .i64 j] W fun e w' => e = .returned (.int .i64 (rsz j : Nat)) ∧ Below W.heap.size W w') := fun W => RSize_any j W hj
  have HP : Hid (0 < rsz i → 0 ≤ i ∧ i ≤ 2046 ∧ i + 2 ≤ (rsz i : Int) ∧ (rsz i : Int) < 2 * i + 66 ∧ rsz i ≤ 2048) := fun h => rsz_pos h
  have HQ : Hid (0 < rsz i → 0 < rsz j → i ≤ j → (rsz i : Int) ≤ (rsz j : Int)) := fun h1 h2 h3 => by have := rsz_mono h3 h1 h2; omega
  have HPJ : Hid (0 < rsz j → (2 : Int) ≤ (rsz j : Int)) := fun h => by have := rsz_pos h; omega
  generalize rsz i = a at *
  generalize rsz j = b at *
  obtain ⟨i1, i2⟩ := hi
  obtain ⟨j1, j2⟩ := hj
  have hfirst : ∀ (A B : Int), Hid (∀ W, Calls Try.prog 14 #[.int .i64 i] W fun e w' => e = .returned (.tuple #[.int .i64 (a : Int), .int .i64 A]) ∧ w' = W) → Hid (∀ W, Calls Try.prog 14 #[.int .i64 j] W fun e w' => e = .returned (.tuple #[.int .i64 (b : Int), .int .i64 B]) ∧ w' = W) →
      (A = 0 ∧ 0 < (a : Int) ∨ A = 11 ∧ (a : Int) = 0) → (B = 0 ∧ 0 < (b : Int) ∨ B = 11 ∧ (b : Int) = 0) → Calls Try.prog 5 #[.int .i64 i, .int .i64 j] w fun e w' => e = .returned (.bool true) ∧ Below w.heap.size w w' := by
    intro A B HA HB hA hB
    clear HI HJ
    rcases hA with ⟨rfl, ha⟩ | ⟨rfl, ha⟩
    · have hp := HP.out (by omega)
      have p1 : 0 ≤ i := hp.1
      have p2 : i ≤ 2046 := hp.2.1
      have p3 : i + 2 ≤ (a : Int) := hp.2.2.1
      have p4 : (a : Int) < 2 * i + 66 := hp.2.2.2.1
      have a0 : ¬ (a : Int) = 0 := by omega
      clear hp
      rcases hB with ⟨rfl, hb⟩ | ⟨rfl, hb⟩
      · have hq := HQ.out (by omega) (by omega)
        have b1 := HPJ.out (by omega)
        have b2 : 0 < b := by omega
        by_cases hij : i ≤ j
        · have q1 := hq hij
          clear hq
          go_enter Try.func5, Try.ntmps5
          go_wp2_with fail
          refine (anchor_any _).mono ?_
          rintro e w0 ⟨rfl, b0⟩
          have B0 : Hid (Below w.heap.size w w0) := b0
          clear b0
          go_wp2_with fail
          refine (HA.out _).mono ?_
          rintro e w1 ⟨rfl, hw⟩
          rw [hw]
          clear hw w1
          go_wp2_with fail
          refine (HB.out _).mono ?_
          rintro e w1 ⟨rfl, hw⟩
          rw [hw]
          clear hw w1
          go_wp2_with fail
          refine (HRI.out _).mono ?_
          rintro e w2 ⟨rfl, b2⟩
          have B2 : Hid (Below w.heap.size w w2) := B0.out.trans (b2.mono B0.out.size)
          clear b2
          go_wp2_with fail
          refine (HRJ.out _).mono ?_
          rintro e w3 ⟨rfl, b3⟩
          have B3 : Hid (Below w.heap.size w w3) := B2.out.trans (b3.mono B2.out.size)
          clear b3
          go_wp2_with fail
          go_ret
          exact ⟨rfl, B3.out⟩
        · have hij2 : j < i := by omega
          clear hq hij
          go_enter Try.func5, Try.ntmps5
          go_wp2_with fail
          refine (anchor_any _).mono ?_
          rintro e w0 ⟨rfl, b0⟩
          have B0 : Hid (Below w.heap.size w w0) := b0
          clear b0
          go_wp2_with fail
          refine (HA.out _).mono ?_
          rintro e w1 ⟨rfl, hw⟩
          rw [hw]
          clear hw w1
          go_wp2_with fail
          refine (HB.out _).mono ?_
          rintro e w1 ⟨rfl, hw⟩
          rw [hw]
          clear hw w1
          go_wp2_with fail
          refine (HRI.out _).mono ?_
          rintro e w2 ⟨rfl, b2⟩
          have B2 : Hid (Below w.heap.size w w2) := B0.out.trans (b2.mono B0.out.size)
          clear b2
          go_wp2_with fail
          refine (HRJ.out _).mono ?_
          rintro e w3 ⟨rfl, b3⟩
          have B3 : Hid (Below w.heap.size w w3) := B2.out.trans (b3.mono B2.out.size)
          clear b3
          go_wp2_with fail
          go_ret
          exact ⟨rfl, B3.out⟩
      · have b0' : ¬ 0 < (b : Int) := by omega
        go_enter Try.func5, Try.ntmps5
        go_wp2_with fail
        refine (anchor_any _).mono ?_
        rintro e w0 ⟨rfl, b0⟩
        have B0 : Hid (Below w.heap.size w w0) := b0
        clear b0
        go_wp2_with fail
        refine (HA.out _).mono ?_
        rintro e w1 ⟨rfl, hw⟩
        rw [hw]
        clear hw w1
        go_wp2_with fail
        refine (HB.out _).mono ?_
        rintro e w1 ⟨rfl, hw⟩
        rw [hw]
        clear hw w1
        go_wp2_with fail
        refine (HRI.out _).mono ?_
        rintro e w2 ⟨rfl, b2⟩
        have B2 : Hid (Below w.heap.size w w2) := B0.out.trans (b2.mono B0.out.size)
        clear b2
        go_wp2_with fail
        refine (HRJ.out _).mono ?_
        rintro e w3 ⟨rfl, b3⟩
        have B3 : Hid (Below w.heap.size w w3) := B2.out.trans (b3.mono B2.out.size)
        clear b3
        go_wp2_with fail
        go_ret
        exact ⟨rfl, B3.out⟩
    · have a0 : ¬ 0 < (a : Int) := by omega
      rcases hB with ⟨rfl, hb⟩ | ⟨rfl, hb⟩
      · have b0' : ¬ (b : Int) = 0 := by omega
        have b1 := HPJ.out (by omega)
        have b2 : 0 < b := by omega
        go_enter Try.func5, Try.ntmps5
        go_wp2_with fail
        refine (anchor_any _).mono ?_
        rintro e w0 ⟨rfl, b0⟩
        have B0 : Hid (Below w.heap.size w w0) := b0
        clear b0
        go_wp2_with fail
        refine (HA.out _).mono ?_
        rintro e w1 ⟨rfl, hw⟩
        rw [hw]
        clear hw w1
        go_wp2_with fail
        refine (HB.out _).mono ?_
        rintro e w1 ⟨rfl, hw⟩
        rw [hw]
        clear hw w1
        go_wp2_with fail
        refine (HRI.out _).mono ?_
        rintro e w2 ⟨rfl, b2⟩
        have B2 : Hid (Below w.heap.size w w2) := B0.out.trans (b2.mono B0.out.size)
        clear b2
        go_wp2_with fail
        refine (HRJ.out _).mono ?_
        rintro e w3 ⟨rfl, b3⟩
        have B3 : Hid (Below w.heap.size w w3) := B2.out.trans (b3.mono B2.out.size)
        clear b3
        go_wp2_with fail
        go_ret
        exact ⟨rfl, B3.out⟩
      · have b0' : ¬ 0 < (b : Int) := by omega
        go_enter Try.func5, Try.ntmps5
        go_wp2_with fail
        refine (anchor_any _).mono ?_
        rintro e w0 ⟨rfl, b0⟩
        have B0 : Hid (Below w.heap.size w w0) := b0
        clear b0
        go_wp2_with fail
        refine (HA.out _).mono ?_
        rintro e w1 ⟨rfl, hw⟩
        rw [hw]
        clear hw w1
        go_wp2_with fail
        refine (HB.out _).mono ?_
        rintro e w1 ⟨rfl, hw⟩
        rw [hw]
        clear hw w1
        go_wp2_with fail
        refine (HRI.out _).mono ?_
        rintro e w2 ⟨rfl, b2⟩
        have B2 : Hid (Below w.heap.size w w2) := B0.out.trans (b2.mono B0.out.size)
        clear b2
        go_wp2_with fail
        refine (HRJ.out _).mono ?_
        rintro e w3 ⟨rfl, b3⟩
        have B3 : Hid (Below w.heap.size w w3) := B2.out.trans (b3.mono B2.out.size)
        clear b3
        go_wp2_with fail
        go_ret
        exact ⟨rfl, B3.out⟩
  by_cases ha : a = 0 <;> by_cases hb : b = 0
  · rw [if_pos ha] at HI; rw [if_pos hb] at HJ
    exact hfirst 11 11 HI HJ (.inr ⟨rfl, by omega⟩) (.inr ⟨rfl, by omega⟩)
  · rw [if_pos ha] at HI; rw [if_neg hb] at HJ
    exact hfirst 11 0 HI HJ (.inr ⟨rfl, by omega⟩) (.inl ⟨rfl, by omega⟩)
  · rw [if_neg ha] at HI; rw [if_pos hb] at HJ
    exact hfirst 0 11 HI HJ (.inl ⟨rfl, by omega⟩) (.inr ⟨rfl, by omega⟩)
  · rw [if_neg ha] at HI; rw [if_neg hb] at HJ
    exact hfirst 0 0 HI HJ (.inl ⟨rfl, by omega⟩) (.inl ⟨rfl, by omega⟩)
end Go.Proofs.Ytedbfhbmpeogdaa.C8
