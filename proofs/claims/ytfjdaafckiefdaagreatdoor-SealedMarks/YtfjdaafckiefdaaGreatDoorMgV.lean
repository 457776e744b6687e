/- The contract of the document's Size. -/
import Derived.Test.YtfjdaafckiefdaaGreatDoorMgB
namespace Go.Proofs.YtfjdaafckiefdaaGreatDoor.C8
open Go.RowKit
def rsz (i : Int) : Nat := if 0 ≤ i then bsz i.toNat else 0
theorem rsz_nat (n : Nat) : rsz (n : Int) = bsz n := by simp [rsz]
def sz (j : Nat) : Nat := [64, 128, 256, 512, 1024, 2048].getD j 0
theorem sz_le {j : Nat} (h : j < 6) : 64 ≤ sz j ∧ sz j ≤ 2048 := by
  have : j = 0 ∨ j = 1 ∨ j = 2 ∨ j = 3 ∨ j = 4 ∨ j = 5 := by omega
  rcases this with rfl | rfl | rfl | rfl | rfl | rfl <;> decide
theorem sz_in {j : Nat} (h : j < 6) {i : Int} (h0 : 0 ≤ i) (h1 : i ≤ (sz j : Int) - 2) (hb : ∀ k, k < j → ¬ i ≤ (sz k : Int) - 2) : sz j = rsz i := by
  obtain ⟨n, rfl⟩ := Int.eq_ofNat_of_zero_le h0
  rw [rsz_nat]
  have : j = 0 ∨ j = 1 ∨ j = 2 ∨ j = 3 ∨ j = 4 ∨ j = 5 := by omega
  have s0 : sz 0 = 64 := rfl
  have s1 : sz 1 = 128 := rfl
  have s2 : sz 2 = 256 := rfl
  have s3 : sz 3 = 512 := rfl
  have s4 : sz 4 = 1024 := rfl
  have s5 : sz 5 = 2048 := rfl
  unfold bsz
  rcases this with rfl | rfl | rfl | rfl | rfl | rfl
  · repeat' split
    all_goals omega
  · have b0 := hb 0 (by omega)
    repeat' split
    all_goals omega
  · have b0 := hb 1 (by omega)
    repeat' split
    all_goals omega
  · have b0 := hb 2 (by omega)
    repeat' split
    all_goals omega
  · have b0 := hb 3 (by omega)
    repeat' split
    all_goals omega
  · have b0 := hb 4 (by omega)
    repeat' split
    all_goals omega
theorem sz_out {i : Int} (hb : 0 ≤ i → ¬ i ≤ (sz 5 : Int) - 2) : rsz i = 0 := by
  have s5 : sz 5 = 2048 := rfl
  unfold rsz
  split
  · rename_i h
    have := hb h
    exact bsz_none (by omega)
  · rfl
def six : Array Value := #[.int .i64 64, .int .i64 128, .int .i64 256, .int .i64 512, .int .i64 1024, .int .i64 2048]
theorem six_get {j : Nat} (h : j < 6) : six[j]? = some (.int .i64 (sz j : Nat)) := by
  have : j = 0 ∨ j = 1 ∨ j = 2 ∨ j = 3 ∨ j = 4 ∨ j = 5 := by omega
  rcases this with rfl | rfl | rfl | rfl | rfl | rfl <;> rfl
set_option maxHeartbeats 1000000 in
theorem RSize_any (i : Int) (w : World) (hi : -9223372036854775808 ≤ i ∧ i ≤ 9223372036854775807) : Calls Tryz.prog 35 #[.int .i64 i] w fun e w' => e = .returned (.int .i64 (rsz i : Nat)) ∧ Below w.heap.size w w' := by
  obtain ⟨R, hR⟩ : ∃ R, rsz i = R := ⟨_, rfl⟩
  rw [hR]
  have HI : Hid (∀ j, j < 6 → 0 ≤ i → i ≤ (sz j : Int) - 2 → (∀ k, k < j → (sz k : Int) - 2 < i) → sz j = R) := fun j h h0 h1 h2 => hR ▸ sz_in h h0 h1 (fun k hk => by have := h2 k hk; omega)
  have HO : Hid ((0 ≤ i → (sz 5 : Int) - 2 < i) → R = 0) := fun h => hR ▸ sz_out (fun h0 => by have := h h0; omega)
  clear hR
  obtain ⟨i1, i2⟩ := hi
  go_enter Tryz.func35, Tryz.ntmps35
  go_wp2_with fail
  go_loopw [4] (fun x wr => ∃ j : Nat, j ≤ 6 ∧ x = .int .i64 j ∧ Hid (∀ k, k < j → 0 ≤ i → (sz k : Int) - 2 < i) ∧ Hid (wr.heap[w.heap.size]? = some (.cells six 124 (0, 0))) ∧ Hid (Below w.heap.size w wr)) (fun x _ => 6 - (intOf x).toNat)
  case atStart =>
    refine ⟨0, by omega, rfl, fun k hk => by omega, ?_, ?_⟩
    · exact heap_alloc_new w _
    · exact (Below.refl _ _).alloc (Nat.le_refl _) _
  case round =>
    obtain ⟨j, hj, rfl, HB, HC, HW⟩ := hrel
    by_cases hlt : j < 6
    · have hc : wr.cell? ⟨w.heap.size, j, none⟩ = some (.int .i64 (sz j : Nat)) := by
        rw [cell_of_row _ _ _ _ _ _ HC.out]
        exact six_get hlt
      have hs := sz_le hlt
      have j1 : (j : Int) < 6 := by omega
      have j0 : (0 : Int) ≤ (j : Int) := by omega
      have s1 : (64 : Int) ≤ (sz j : Int) := by omega
      have s2 : (sz j : Int) ≤ 2048 := by omega
      have HSJ : Hid (0 ≤ i → i ≤ (sz j : Int) - 2 → sz j = R) := fun h0 h1 => HI.out j hlt h0 h1 (fun k hk => HB.out k hk h0)
      have HNX : Hid ((0 ≤ i → (sz j : Int) - 2 < i) → ∀ k, k < j + 1 → 0 ≤ i → (sz k : Int) - 2 < i) := fun h k hk h0 => by
        by_cases hk2 : k < j
        · exact HB.out k hk2 h0
        · rw [show k = j by omega]; exact h h0
      clear HB hs
      generalize sz j = s at *
      by_cases h0 : 0 ≤ i
      · by_cases h1 : i ≤ (s : Int) - 2
        · have := HSJ.out h0 h1
          clear HSJ HNX
          go_wp2_with fail
          go_ret
          exact ⟨by rw [← this]; rfl, HW.out⟩
        · have HN2 := HNX.out (fun _ => by omega)
          have HN3 : Hid (∀ k, k < j + 1 → 0 ≤ i → (sz k : Int) - 2 < i) := HN2
          clear HSJ HNX HN2
          go_wp2_with fail
          go_roundw
          case rel => exact ⟨j + 1, by omega, by go_num, HN3.out, HC.out, HW.out⟩
          case measure => simp [intOf]; omega
      · have HN2 := HNX.out (fun h => absurd h h0)
        have HN3 : Hid (∀ k, k < j + 1 → 0 ≤ i → (sz k : Int) - 2 < i) := HN2
        have h0' : i < 0 := by omega
        clear HSJ HNX HN2
        go_wp2_with fail
        go_roundw
        case rel => exact ⟨j + 1, by omega, by go_num, HN3.out, HC.out, HW.out⟩
        case measure => simp [intOf]; omega
    · obtain rfl : j = 6 := by omega
      have := HO.out (fun h => HB.out 5 (by omega) h)
      subst this
      clear HB
      go_wp2_with fail
      go_ret
      exact ⟨rfl, HW.out⟩
end Go.Proofs.YtfjdaafckiefdaaGreatDoor.C8
