/- mac: Equal, with nothing of sha beneath it (to be carried to other seats). -/
import Derived.Test.YtfjdaafckiefdaaGreatDoorProg
import Derived.Test.YtfjdaafckiefdaaGreatDoorMgL
import Derived.BigRegion
import Derived.Deep.RegionHeld3
import Derived.WalkMore
namespace Go.Proofs.YtfjdaafckiefdaaGreatDoor.M2
open Go.RowKit
theorem or_zero (u z : Nat) : u ||| z = 0 ↔ u = 0 ∧ z = 0 := Nat.or_eq_zero_iff
theorem xor_zero (x y : Nat) : x ^^^ y = 0 ↔ x = y := by
  constructor
  · intro h
    have : x ^^^ y ^^^ y = 0 ^^^ y := by rw [h]
    rwa [Nat.xor_assoc, Nat.xor_self, Nat.xor_zero, Nat.zero_xor] at this
  · rintro rfl
    exact Nat.xor_self x
theorem take_eq_succ {la lb : List Nat} {k : Nat} (ha : k < la.length) (hb : k < lb.length) : la.take (k + 1) = lb.take (k + 1) ↔ la.take k = lb.take k ∧ Sp.nth la k = Sp.nth lb k := by
  rw [List.take_add_one, List.take_add_one, Sp.nth_of ha, Sp.nth_of hb]
  constructor
  · intro h
    have h1 := congrArg List.length h
    have := List.append_inj h (by simp; omega)
    exact ⟨this.1, by simpa using this.2⟩
  · rintro ⟨h1, h2⟩
    rw [h1, h2]
set_option maxHeartbeats 1000000 in
theorem equal_any (la lb : List Nat) (p q : Option Addr) (n c m d : Nat) (w : World) (hal : la.length = n) (hbl : lb.length = m) (hA : (∀ x ∈ la, x < 256) ∧ (la ≠ [] → ∃ b o, p = some ⟨b, o, none⟩ ∧ w.rangeAt b o (ints .u8 la))) (hB : (∀ x ∈ lb, x < 256) ∧ (lb ≠ [] → ∃ b o, q = some ⟨b, o, none⟩ ∧ w.rangeAt b o (ints .u8 lb))) (hn : n ≤ 9223372036854775807) (hm : m ≤ 9223372036854775807) :
    Calls Tryz.prog 69 #[.slice p n c, .slice q m d] w fun e w' => e = .returned (.bool (decide (la = lb))) ∧ w' = w := by
  have ha := hA.2
  have hb := hB.2
  have HAS : Hid (∀ x ∈ la, x < 256) := hA.1
  have HBS : Hid (∀ x ∈ lb, x < 256) := hB.1
  have HA : Hid (la ≠ [] → ∃ b o, p = some ⟨b, o, none⟩ ∧ w.rangeAt b o (ints .u8 la)) := ha
  have HB : Hid (lb ≠ [] → ∃ b o, q = some ⟨b, o, none⟩ ∧ w.rangeAt b o (ints .u8 lb)) := hb
  have HAL : Hid (la.length = n) := hal
  have HBL : Hid (lb.length = m) := hbl
  clear hA hB ha hb hal hbl
  by_cases hnm : n = m
  · subst hnm
    obtain ⟨R, hR⟩ : ∃ R, decide (la = lb) = R := ⟨_, rfl⟩
    rw [hR]
    have HR : Hid (decide (la = lb) = R) := hR
    clear hR
    go_enter Tryz.func69, Tryz.ntmps69
    go_wp2_with fail
    go_loopw [5, 15] (fun u i wr => ∃ k z : Nat, k ≤ n ∧ i = .int .i64 k ∧ u = .int .u8 z ∧ z < 256 ∧ Hid (z = 0 ↔ la.take k = lb.take k) ∧ Hid (wr = w)) (fun _ i _ => n - (intOf i).toNat)
    case atStart => exact ⟨0, 0, by omega, rfl, rfl, by decide, (by show _ ↔ _; simp), rfl⟩
    case round =>
      obtain ⟨k, z, hk, rfl, rfl, hz, HZ, HW⟩ := hrel
      have hw := HW.out
      subst hw
      clear HW
      by_cases hlt : k < n
      · obtain ⟨ba, oa, rfl, hra⟩ := HA.out (by intro e; have := HAL.out; rw [e] at this; simp at this; omega)
        obtain ⟨bb, ob, rfl, hrb⟩ := HB.out (by intro e; have := HBL.out; rw [e] at this; simp at this; omega)
        have e1 := hra k _ (ints_get .u8 la k (by rw [HAL.out]; exact hlt))
        have e2 := hrb k _ (ints_get .u8 lb k (by rw [HBL.out]; exact hlt))
        have x1 : Sp.nth la k < 256 := Sp.nth_lt (by decide) HAS.out _
        have x2 : Sp.nth lb k < 256 := Sp.nth_lt (by decide) HBS.out _
        have HN : Hid ((z ||| (Sp.nth la k ^^^ Sp.nth lb k)) = 0 ↔ la.take (k + 1) = lb.take (k + 1)) := by
          show _ ↔ _
          rw [or_zero, xor_zero, take_eq_succ (by rw [HAL.out]; exact hlt) (by rw [HBL.out]; exact hlt), HZ.out]
        generalize Sp.nth la k = y1 at *
        generalize Sp.nth lb k = y2 at *
        have x3 : y1 ^^^ y2 < 256 := Nat.xor_lt_two_pow (n := 8) x1 x2
        have x4 : z ||| (y1 ^^^ y2) < 256 := Nat.or_lt_two_pow (n := 8) hz x3
        have hx := u8_xor_nat _ _ x1 x2
        have ho := u8_or_nat _ _ hz x3
        have k0 : (0 : Int) ≤ (k : Int) := by omega
        have k1 : (k : Int) < (n : Int) := by omega
        clear hra hrb HZ x1 x2 x3
        go_wp2_with fail
        go_roundw
        case rel => exact ⟨k + 1, z ||| (y1 ^^^ y2), by omega, by go_num, rfl, x4, HN.out, trivial⟩
        case measure => simp [intOf]; omega
      · obtain rfl : k = n := by omega
        have hzz := HZ.out
        rw [List.take_of_length_le (by rw [HAL.out]; exact Nat.le_refl _), List.take_of_length_le (by rw [HBL.out]; exact Nat.le_refl _)] at hzz
        have HF : Hid (((z : Int) == 0) = R) := by
          show _ = _
          rw [← HR.out, show ((z : Int) == 0) = decide ((z : Int) = 0) from rfl]
          apply decide_eq_decide.2
          rw [← hzz]
          omega
        clear hzz HZ
        go_wp2_with fail
        go_ret
        exact ⟨by show Ending.returned (.bool ((z : Int) == 0)) = _; rw [HF.out], rfl⟩
  · have hne : la ≠ lb := fun e => hnm (by rw [← HAL.out, ← HBL.out, e])
    have h1 : ¬ (n : Int) = (m : Int) := by omega
    rw [decide_eq_false hne]
    clear hne
    go_enter Tryz.func69, Tryz.ntmps69
    go_wp2_with fail
    go_ret
    exact ⟨rfl, rfl⟩
end Go.Proofs.YtfjdaafckiefdaaGreatDoor.M2
