/- The document's answer: high. -/
import Derived.Test.YtnceiccciaihoaaP4RTimes
namespace Go.Proofs.Ytnceiccciaihoaa.P4
open Go.RowKit
theorem pos_all_zero {b : Nat} : ∀ {l : List Nat}, (∀ i, Sp.nth l i = 0) → Po.pos b l = 0
  | [], _ => rfl
  | x :: l, h => by
    have h0 : x = 0 := h 0
    have h1 : ∀ i, Sp.nth l i = 0 := fun i => h (i + 1)
    rw [Po.pos, pos_all_zero h1, h0]
    simp
theorem low_of {a : List Nat} (ha : ∀ x ∈ a, x < 256) (h : ∀ i, 17 ≤ i → Sp.nth a i = 0) (h16 : Sp.nth a 16 ≤ 3) : Po.pos 256 a < Po.B ^ 5 := by
  have h1 : Po.pos 256 a = Po.pos 256 (a.take 17) := by
    by_cases hl : 17 ≤ a.length
    · have e := Po.pos_append 256 (a.drop 17) (a.take 17)
      rw [List.take_append_drop, pos_all_zero (l := a.drop 17) (fun i => by rw [Sp.nth_drop]; exact h _ (by omega))] at e
      simpa using e
    · rw [List.take_of_length_le (by omega)]
  rw [h1, pos_take']
  have h2 := take_lt ha 16
  have h3 : 256 ^ 16 * Sp.nth a 16 ≤ 256 ^ 16 * 3 := Nat.mul_le_mul_left _ h16
  have h4 : Po.B ^ 5 = 256 ^ 16 * 4 := by decide
  rw [h4]
  omega
theorem high_at {a : List Nat} {i : Nat} (hi : 17 ≤ i) (hl : i < a.length) (h : 0 < Sp.nth a i) : 256 ^ 17 ≤ Po.pos 256 a := by
  have h1 := nth_last (b := 256) hl
  have h2 : 256 ^ i * 1 ≤ 256 ^ i * Sp.nth a i := Nat.mul_le_mul_left _ h
  have h3 : 256 ^ 17 ≤ 256 ^ i := Nat.pow_le_pow_right (by decide) hi
  omega
theorem high_16 {a : List Nat} (hl : 16 < a.length) (h : 3 < Sp.nth a 16) : Po.B ^ 5 ≤ Po.pos 256 a := by
  have h1 := nth_last (b := 256) hl
  have h2 : 256 ^ 16 * 4 ≤ 256 ^ 16 * Sp.nth a 16 := Nat.mul_le_mul_left _ h
  have h4 : Po.B ^ 5 = 256 ^ 16 * 4 := by decide
  rw [h4]
  omega
/-- What high answers. -/
def HighSays (a : List Nat) (e : Ending) : Prop := (e = .returned (.bool true) ∧ Po.B ^ 5 ≤ Po.pos 256 a) ∨ (e = .returned (.bool false) ∧ Po.pos 256 a < Po.B ^ 5)
theorem big17 : Po.B ^ 5 + 5 < 256 ^ 17 := by decide
set_option maxHeartbeats 1000000 in
theorem high_any (a : List Nat) (va : Value) (w : World) (hva : NumIs w va a) (ha : ∀ x ∈ a, x < 256) (hal : a.length ≤ 1000) :
    Calls Try.prog 52 #[va] w fun e w' => HighSays a e ∧ w' = w := by
  obtain ⟨pa, ca, rfl, hca, hra⟩ := hva
  have HRA : Hid (a ≠ [] → ∃ b o, pa = some ⟨b, o, none⟩ ∧ w.rangeAt b o (ints .i64 a)) := hra
  have HA : Hid (∀ x ∈ a, x < 256) := ha
  obtain ⟨la, hla⟩ : ∃ la, a.length = la := ⟨_, rfl⟩
  have HLA : Hid (a.length = la) := hla
  rw [hla] at hal hca ⊢
  clear hra ha hla
  go_enter Try.func52, Try.ntmps52
  go_wp2_with fail
  go_loopw [3] (fun u wr => ∃ i : Nat, 17 ≤ i ∧ (i ≤ la ∨ i = 17) ∧ u = .int .i64 i ∧ wr = w ∧ Hid (∀ j, 17 ≤ j → j < i → Sp.nth a j = 0)) (fun u _ => la - (intOf u).toNat)
  case atStart => exact ⟨17, by omega, .inr rfl, rfl, rfl, fun j _ _ => by omega⟩
  case round =>
    obtain ⟨i, hi, hil, rfl, rfl, HZ⟩ := hrel
    by_cases hlt : i < la
    · obtain ⟨ba, oa, rfl, hr1⟩ := HRA.out (by intro e; have := HLA.out; rw [e] at this; simp at this; omega)
      have c1 := range_cell hr1 i (by rw [HLA.out]; exact hlt)
      have g1 : (i : Int) < (la : Int) := by omega
      have i0 : (0 : Int) ≤ (i : Int) := by omega
      clear hr1
      by_cases hz : 0 < Sp.nth a i
      · have HH : Hid (Po.B ^ 5 ≤ Po.pos 256 a) := by
          have h1 := high_at hi (by rw [HLA.out]; exact hlt) hz
          have h2 := big17
          show _ ≤ _
          omega
        have hz' : (0 : Int) < ((Sp.nth a i : Nat) : Int) := by omega
        generalize Sp.nth a i = y at *
        go_wp2_with fail
        go_ret
        exact ⟨.inl ⟨rfl, HH.out⟩, rfl⟩
      · have hz0 : Sp.nth a i = 0 := by omega
        rw [hz0] at c1
        have HZ2 : Hid (∀ j, 17 ≤ j → j < i + 1 → Sp.nth a j = 0) := fun j h1 h2 => by
          by_cases h : j = i
          · rw [h]; exact hz0
          · exact HZ.out j h1 (by omega)
        clear hz hz0 HZ
        go_wp2_with fail
        go_roundw
        case rel => exact ⟨i + 1, by omega, .inl (by omega), by go_num, trivial, HZ2.out⟩
        case measure => simp [intOf]; omega
    · have g1 : ¬ (i : Int) < (la : Int) := by omega
      have HZA : Hid (∀ j, 17 ≤ j → Sp.nth a j = 0) := fun j h1 => by
        by_cases h : j < i
        · exact HZ.out j h1 h
        · exact nth_beyond (by rw [HLA.out]; omega)
      clear HZ
      by_cases h16 : 16 < la
      · obtain ⟨ba, oa, rfl, hr1⟩ := HRA.out (by intro e; have := HLA.out; rw [e] at this; simp at this; omega)
        have c1 := range_cell hr1 16 (by rw [HLA.out]; exact h16)
        have g2 : (16 : Int) < (la : Int) := by omega
        have x16 : Sp.nth a 16 < 256 := Sp.nth_lt (by decide) HA.out 16
        have HIF : Hid ((3 < Sp.nth a 16) ↔ Po.B ^ 5 ≤ Po.pos 256 a) := ⟨fun h => high_16 (by rw [HLA.out]; exact h16) h, fun h => by
          apply Decidable.byContradiction
          intro hn
          have := low_of HA.out HZA.out (by omega)
          omega⟩
        clear hr1 HZA
        generalize Sp.nth a 16 = y at *
        by_cases h3 : 3 < y
        · have h3' : (3 : Int) < (y : Int) := by omega
          go_wp2_with fail
          go_ret
          exact ⟨.inl ⟨rfl, HIF.out.1 h3⟩, rfl⟩
        · have h3' : ¬ (3 : Int) < (y : Int) := by omega
          go_wp2_with fail
          go_ret
          exact ⟨.inr ⟨rfl, Nat.lt_of_not_le fun h => h3 (HIF.out.2 h)⟩, rfl⟩
      · have g2 : ¬ (16 : Int) < (la : Int) := by omega
        have HNN : Hid (¬ Po.B ^ 5 ≤ Po.pos 256 a) := by
          have := low_of HA.out HZA.out (by rw [nth_beyond (by rw [HLA.out]; omega)]; omega)
          show ¬ _
          omega
        clear HZA
        go_wp2_with fail
        go_ret
        exact ⟨.inr ⟨rfl, Nat.lt_of_not_le HNN.out⟩, rfl⟩
end Go.Proofs.Ytnceiccciaihoaa.P4
