/- The contract of the document's root. -/
import Derived.Test.YtnbdadhdpplldabDoorRefTimes
namespace Go.Proofs.YtnbdadhdpplldabDoor
open Go.RowKit
namespace Rf
open Sp (nth)
theorem whole_goes {cube : Bool} {p x : Nat} (h : wholeGoes cube p x = true) (hx : x + 1 ≤ p) : whole cube p (p - x) x = whole cube p (p - (x + 1)) (x + 1) := by
  obtain ⟨f, hf⟩ : ∃ f, p - x = f + 1 := ⟨p - x - 1, by omega⟩
  rw [hf, show p - (x + 1) = f from by omega, whole, if_pos h]
theorem whole_stops {cube : Bool} {p x : Nat} (h : wholeGoes cube p x = false) : whole cube p (p - x) x = x := by
  cases hf : p - x with
  | zero => rfl
  | succ f => rw [whole, if_neg (by simp [h])]
theorem times33 (a b c d e f : Nat) : times [a, b, c] [d, e, f] = carry 4 [a * d, a * e + b * d, a * f + b * e + c * d, b * f + c * e, c * f] := by
  simp [times, mulTo, mulRow, mulStep, nth]
theorem times33_le {a b c d e f : Nat} (ha : a ≤ 65536) (hb : b ≤ 65536) (hc : c ≤ 65536) (hd : d ≤ 65536) (he : e ≤ 65536) (hf : f ≤ 65536) (i : Nat) : nth (times [a, b, c] [d, e, f]) i ≤ 137438953472 := by
  rw [times33]
  have p1 := Nat.mul_le_mul ha hd
  have p2 := Nat.mul_le_mul ha he
  have p3 := Nat.mul_le_mul hb hd
  have p4 := Nat.mul_le_mul ha hf
  have p5 := Nat.mul_le_mul hb he
  have p6 := Nat.mul_le_mul hc hd
  have p7 := Nat.mul_le_mul hb hf
  have p8 := Nat.mul_le_mul hc he
  have p9 := Nat.mul_le_mul hc hf
  generalize a * d = x1 at *
  generalize a * e = x2 at *
  generalize b * d = x3 at *
  generalize a * f = x4 at *
  generalize b * e = x5 at *
  generalize c * d = x6 at *
  generalize b * f = x7 at *
  generalize c * e = x8 at *
  generalize c * f = x9 at *
  simp [carry, carryStep, nth]
  match i with
  | 0 => simp; omega
  | 1 => simp; omega
  | 2 => simp; omega
  | 3 => simp; omega
  | 4 => simp; omega
  | i + 5 => simp
theorem three_le {wh y : Nat} (hw : wh ≤ 65536) (hy : y ≤ 4294967296) (i : Nat) : nth (three wh y) i ≤ 65536 := by
  match i with
  | 0 => exact hw
  | 1 => show y / 65536 ≤ 65536; omega
  | 2 => show y % 65536 ≤ 65536; omega
  | i + 3 => simp [three, nth]
theorem three_sq {wh y : Nat} (hw : wh ≤ 65536) (hy : y ≤ 4294967296) (i : Nat) : nth (times (three wh y) (three wh y)) i ≤ 137438953472 :=
  times33_le hw (three_le hw hy 1) (three_le hw hy 2) hw (three_le hw hy 1) (three_le hw hy 2) i
end Rf
theorem intsAt_row {w : World} {g c : Nat} {l : List Nat} (h : RowOf w g l) : IntsAt w (.slice (some ⟨g, 0, none⟩) l.length c) l := ⟨g, c, rfl, rangeAt_of_row h⟩
set_option maxHeartbeats 1000000 in
theorem root_false (p : Nat) (w : World) (hp : 2 ≤ p) (hp2 : p ≤ 400) :
    Calls Tryd.prog 32 #[.int .i64 p, .bool false] w fun e w' => e = .returned (.int .i64 (Rf.root p false : Nat)) ∧ Below w.heap.size w w' := by
  obtain ⟨W, hW⟩ : ∃ W, Rf.whole false p (p - 1) 1 = W := ⟨_, rfl⟩
  obtain ⟨R, hR⟩ : ∃ R, Rf.root p false = R := ⟨_, rfl⟩
  have hR2 : Rf.bitsTo false p W 32 0 = R := by rw [← hR, ← hW]; rfl
  rw [hR]
  have HW : Hid (Rf.whole false p (p - 1) 1 = W) := hW
  have HR : Hid (Rf.bitsTo false p W 32 0 = R) := hR2
  clear hW hR hR2
  go_enter Tryd.func32, Tryd.ntmps32
  go_wp2
  go_loop [5] (fun i => ∃ x : Nat, 1 ≤ x ∧ x ≤ p ∧ i = .int .i64 x ∧ Hid (Rf.whole false p (p - x) x = W)) (fun i => p - (intOf i).toNat)
  case atStart => exact ⟨1, by omega, by omega, rfl, HW.out⟩
  case round =>
    obtain ⟨x, hx1, hx2, rfl, HX⟩ := hrel
    obtain ⟨s, hs⟩ : ∃ s, (x + 1) * (x + 1) = s := ⟨_, rfl⟩
    have hsb : s ≤ 160801 := by rw [← hs]; exact Nat.mul_le_mul (show x + 1 ≤ 401 by omega) (show x + 1 ≤ 401 by omega)
    have hsx : x + 1 ≤ s := by rw [← hs]; exact Nat.le_mul_of_pos_right _ (by omega)
    have hsi : ((x : Int) + 1) * ((x : Int) + 1) = (s : Int) := by rw [← hs]; simp
    have HG : Hid (Rf.wholeGoes false p x = decide (s ≤ p)) := by rw [← hs]; simp [Rf.wholeGoes, Hid]
    clear hs
    by_cases hg : s ≤ p
    · have hgI : (s : Int) ≤ (p : Int) := by omega
      go_wp2
      go_round
      case rel =>
        have h1 := Rf.whole_goes (by rw [HG.out]; simp [hg]) (show x + 1 ≤ p by omega)
        exact ⟨x + 1, by omega, by omega, by go_num, by rw [← h1]; exact HX.out⟩
      case measure => simp [intOf]; omega
    · have hgI : ¬ (s : Int) ≤ (p : Int) := by omega
      have hxW : x = W := by rw [← HX.out]; exact (Rf.whole_stops (by rw [HG.out]; simp [hg])).symm
      subst hxW
      clear HX HG HW
      go_wp2
      go_loopw [6, 7] (fun xv i wr => ∃ (k y : Nat), k ≤ 32 ∧ i = .int .i64 ((k : Int) - 1) ∧ xv = .int .i64 y ∧ Hid (y + 2 ^ k ≤ 4294967296) ∧ Hid (Rf.bitsTo false p x k y = R) ∧ Hid (Below w.heap.size w wr)) (fun _ i _ => (intOf i + 1).toNat)
      case atStart => exact ⟨32, 0, by omega, rfl, rfl, Nat.le_refl _, HR.out, Below.refl _ _⟩
      case round =>
        clear HR
        obtain ⟨k, y, hk, rfl, rfl, HY, HR, HB⟩ := hrel
        by_cases hk0 : 0 < k
        · obtain ⟨j, rfl⟩ : ∃ j, k = j + 1 := ⟨k - 1, by omega⟩
          obtain ⟨P, hP⟩ : ∃ P, 2 ^ j = P := ⟨_, rfl⟩
          have hPI : (2 : Int) ^ j = (P : Int) := by rw [← hP]; simp
          have hy := HY.out
          rw [Nat.pow_succ, hP] at hy
          have hP1 : 1 ≤ P := by rw [← hP]; exact Nat.two_pow_pos j
          have HP : Hid (2 ^ j = P) := hP
          have HJ : Hid (Rf.bitsTo false p x j (if Rf.small false p x (y + P) then y + P else y) = R) := by
            have := HR.out
            rw [Rf.bitsTo, hP] at this
            exact this
          have ej : ((j + 1 : Nat) : Int) - 1 = (j : Int) := by omega
          rw [ej]
          clear hP HY HR ej
          have j0 : (0 : Int) ≤ (j : Int) := by omega
          have j1 : (j : Int) < 64 := by omega
          go_wp2_with fail
          obtain ⟨Y, hY⟩ : ∃ Y, y + P = Y := ⟨_, rfl⟩
          have hYI : (y : Int) + (P : Int) = (Y : Int) := by omega
          rw [hYI]
          rw [hY] at HJ
          have hY2 : Y ≤ 4294967296 := by omega
          have hrow : RowOf (wr.alloc (.cells #[.int .i64 x, .int .i64 ((Y : Int) / 65536), .int .i64 ((Y : Int) % 65536)] 3)) wr.heap.size (Rf.three x Y) := by
            show _ = _
            rw [heap_alloc_new]
            simp [arr, ints, Rf.three]
          have hbA : Below w.heap.size w (wr.alloc (.cells #[.int .i64 x, .int .i64 ((Y : Int) / 65536), .int .i64 ((Y : Int) % 65536)] 3)) := HB.out.alloc HB.out.size _
          have hszA : wr.heap.size < (wr.alloc (.cells #[.int .i64 x, .int .i64 ((Y : Int) / 65536), .int .i64 ((Y : Int) % 65536)] 3)).heap.size := by simp
          have hx3 : x ≤ 65536 := by omega
          generalize wr.alloc (.cells #[.int .i64 x, .int .i64 ((Y : Int) / 65536), .int .i64 ((Y : Int) % 65536)] 3) = wA at *
          refine (times_any (Rf.three x Y) (Rf.three x Y) (.slice (some ⟨wr.heap.size, 0, none⟩) 3 3) (.slice (some ⟨wr.heap.size, 0, none⟩) 3 3) wA (intsAt_row hrow) (intsAt_row hrow) (fun i => Nat.le_trans (Rf.three_le hx3 hY2 i) (by decide)) (Rf.three_le hx3 hY2) (by show 1 ≤ 3; decide) (by show 3 ≤ 5; decide) rfl).mono ?_
          rintro e w2 ⟨g2, rfl, hg2, hr2, hb2⟩
          have hbB : Below w.heap.size w w2 := hbA.trans (hb2.mono hbA.size)
          have hrowB : RowOf w2 wr.heap.size (Rf.three x Y) := (hb2.block _ hszA).trans hrow
          have HBB : Hid (Below w.heap.size w w2) := hbB
          have HRB : Hid (RowOf w2 wr.heap.size (Rf.three x Y)) := hrowB
          have HR2 : Hid (RowOf w2 g2 (Rf.times (Rf.three x Y) (Rf.three x Y))) := hr2
          have hlen : (Rf.times (Rf.three x Y) (Rf.three x Y)).length = 5 := by rw [Rf.times_length]; rfl
          rw [hlen]
          have HLEN : Hid ((Rf.times (Rf.three x Y) (Rf.three x Y)).length = 5) := hlen
          clear hrow hbA hszA hg2 hr2 hb2 hbB hrowB HB hlen
          go_wp2_with fail
          refine (below_any (Rf.times (Rf.three x Y) (Rf.three x Y)) p (.slice (some ⟨g2, 0, none⟩) 5 5) w2 (by have := intsAt_row (c := 5) HR2.out; rw [HLEN.out] at this; exact this) (by rw [HLEN.out]; decide) (by rw [HLEN.out]; decide)).mono ?_
          rintro e w4 ⟨rfl, rfl⟩
          have hsm : Rf.below (Rf.times (Rf.three x Y) (Rf.three x Y)) p = Rf.small false p x Y := by simp [Rf.small]
          have HBX := HBB
          rw [hsm]
          clear hsm
          by_cases hs : Rf.small false p x Y = true
          · have HJ' : Hid (Rf.bitsTo false p x j Y = R) := by
              have := HJ.out
              rw [if_pos hs] at this
              exact this
            rw [hs]
            clear hs HJ
            go_wp2
            go_roundw
            case rel => exact ⟨j, Y, by omega, by go_num, rfl, (by have := HP.out; omega : Y + 2 ^ j ≤ 4294967296), HJ'.out, HBX.out⟩
            case measure => simp [intOf]
          · have hs' : Rf.small false p x Y = false := by simpa using hs
            have HJ' : Hid (Rf.bitsTo false p x j y = R) := by
              have := HJ.out
              rw [if_neg hs] at this
              exact this
            rw [hs']
            clear hs hs' HJ
            go_wp2
            go_roundw
            case rel => exact ⟨j, y, by omega, by go_num, rfl, (by have := HP.out; omega : y + 2 ^ j ≤ 4294967296), HJ'.out, HBX.out⟩
            case measure => simp [intOf]
        · obtain rfl : k = 0 := by omega
          have hyR : y = R := HR.out
          subst hyR
          go_wp2
          go_ret
          exact ⟨rfl, HB.out⟩
set_option maxHeartbeats 1000000 in
theorem root_true (p : Nat) (w : World) (hp : 2 ≤ p) (hp2 : p ≤ 400) :
    Calls Tryd.prog 32 #[.int .i64 p, .bool true] w fun e w' => e = .returned (.int .i64 (Rf.root p true : Nat)) ∧ Below w.heap.size w w' := by
  obtain ⟨W, hW⟩ : ∃ W, Rf.whole true p (p - 1) 1 = W := ⟨_, rfl⟩
  obtain ⟨R, hR⟩ : ∃ R, Rf.root p true = R := ⟨_, rfl⟩
  have hR2 : Rf.bitsTo true p W 32 0 = R := by rw [← hR, ← hW]; rfl
  rw [hR]
  have HW : Hid (Rf.whole true p (p - 1) 1 = W) := hW
  have HR : Hid (Rf.bitsTo true p W 32 0 = R) := hR2
  clear hW hR hR2
  go_enter Tryd.func32, Tryd.ntmps32
  go_wp2
  go_loop [5] (fun i => ∃ x : Nat, 1 ≤ x ∧ x ≤ p ∧ i = .int .i64 x ∧ Hid (Rf.whole true p (p - x) x = W)) (fun i => p - (intOf i).toNat)
  case atStart => exact ⟨1, by omega, by omega, rfl, HW.out⟩
  case round =>
    obtain ⟨x, hx1, hx2, rfl, HX⟩ := hrel
    obtain ⟨s, hs⟩ : ∃ s, (x + 1) * (x + 1) * (x + 1) = s := ⟨_, rfl⟩
    obtain ⟨r, hr⟩ : ∃ r, (x + 1) * (x + 1) = r := ⟨_, rfl⟩
    have hrb : r ≤ 160801 := by rw [← hr]; exact Nat.mul_le_mul (show x + 1 ≤ 401 by omega) (show x + 1 ≤ 401 by omega)
    have hrx : x + 1 ≤ r := by rw [← hr]; exact Nat.le_mul_of_pos_right _ (by omega)
    have hsr : r * (x + 1) = s := by rw [← hr]; exact hs
    have hsb : s ≤ 64481201 := by rw [← hsr]; exact Nat.mul_le_mul hrb (show x + 1 ≤ 401 by omega)
    have hsx : x + 1 ≤ s := by rw [← hsr]; exact Nat.le_mul_of_pos_left _ (by omega)
    have hri : ((x : Int) + 1) * ((x : Int) + 1) = (r : Int) := by rw [← hr]; simp
    have hsi : (r : Int) * ((x : Int) + 1) = (s : Int) := by rw [← hsr]; simp
    have HG : Hid (Rf.wholeGoes true p x = decide (s ≤ p)) := by rw [← hs]; simp [Rf.wholeGoes, Hid]
    clear hs hr hsr
    by_cases hg : s ≤ p
    · have hgI : (s : Int) ≤ (p : Int) := by omega
      go_wp2
      go_round
      case rel =>
        have h1 := Rf.whole_goes (by rw [HG.out]; simp [hg]) (show x + 1 ≤ p by omega)
        exact ⟨x + 1, by omega, by omega, by go_num, by rw [← h1]; exact HX.out⟩
      case measure => simp [intOf]; omega
    · have hgI : ¬ (s : Int) ≤ (p : Int) := by omega
      have hxW : x = W := by rw [← HX.out]; exact (Rf.whole_stops (by rw [HG.out]; simp [hg])).symm
      subst hxW
      clear HX HG HW
      go_wp2
      go_loopw [6, 7] (fun xv i wr => ∃ (k y : Nat), k ≤ 32 ∧ i = .int .i64 ((k : Int) - 1) ∧ xv = .int .i64 y ∧ Hid (y + 2 ^ k ≤ 4294967296) ∧ Hid (Rf.bitsTo true p x k y = R) ∧ Hid (Below w.heap.size w wr)) (fun _ i _ => (intOf i + 1).toNat)
      case atStart => exact ⟨32, 0, by omega, rfl, rfl, Nat.le_refl _, HR.out, Below.refl _ _⟩
      case round =>
        clear HR
        obtain ⟨k, y, hk, rfl, rfl, HY, HR, HB⟩ := hrel
        by_cases hk0 : 0 < k
        · obtain ⟨j, rfl⟩ : ∃ j, k = j + 1 := ⟨k - 1, by omega⟩
          obtain ⟨P, hP⟩ : ∃ P, 2 ^ j = P := ⟨_, rfl⟩
          have hPI : (2 : Int) ^ j = (P : Int) := by rw [← hP]; simp
          have hy := HY.out
          rw [Nat.pow_succ, hP] at hy
          have hP1 : 1 ≤ P := by rw [← hP]; exact Nat.two_pow_pos j
          have HP : Hid (2 ^ j = P) := hP
          have HJ : Hid (Rf.bitsTo true p x j (if Rf.small true p x (y + P) then y + P else y) = R) := by
            have := HR.out
            rw [Rf.bitsTo, hP] at this
            exact this
          have ej : ((j + 1 : Nat) : Int) - 1 = (j : Int) := by omega
          rw [ej]
          clear hP HY HR ej
          have j0 : (0 : Int) ≤ (j : Int) := by omega
          have j1 : (j : Int) < 64 := by omega
          go_wp2_with fail
          obtain ⟨Y, hY⟩ : ∃ Y, y + P = Y := ⟨_, rfl⟩
          have hYI : (y : Int) + (P : Int) = (Y : Int) := by omega
          rw [hYI]
          rw [hY] at HJ
          have hY2 : Y ≤ 4294967296 := by omega
          have hrow : RowOf (wr.alloc (.cells #[.int .i64 x, .int .i64 ((Y : Int) / 65536), .int .i64 ((Y : Int) % 65536)] 3)) wr.heap.size (Rf.three x Y) := by
            show _ = _
            rw [heap_alloc_new]
            simp [arr, ints, Rf.three]
          have hbA : Below w.heap.size w (wr.alloc (.cells #[.int .i64 x, .int .i64 ((Y : Int) / 65536), .int .i64 ((Y : Int) % 65536)] 3)) := HB.out.alloc HB.out.size _
          have hszA : wr.heap.size < (wr.alloc (.cells #[.int .i64 x, .int .i64 ((Y : Int) / 65536), .int .i64 ((Y : Int) % 65536)] 3)).heap.size := by simp
          have hx3 : x ≤ 65536 := by omega
          generalize wr.alloc (.cells #[.int .i64 x, .int .i64 ((Y : Int) / 65536), .int .i64 ((Y : Int) % 65536)] 3) = wA at *
          refine (times_any (Rf.three x Y) (Rf.three x Y) (.slice (some ⟨wr.heap.size, 0, none⟩) 3 3) (.slice (some ⟨wr.heap.size, 0, none⟩) 3 3) wA (intsAt_row hrow) (intsAt_row hrow) (fun i => Nat.le_trans (Rf.three_le hx3 hY2 i) (by decide)) (Rf.three_le hx3 hY2) (by show 1 ≤ 3; decide) (by show 3 ≤ 5; decide) rfl).mono ?_
          rintro e w2 ⟨g2, rfl, hg2, hr2, hb2⟩
          have hbB : Below w.heap.size w w2 := hbA.trans (hb2.mono hbA.size)
          have hrowB : RowOf w2 wr.heap.size (Rf.three x Y) := (hb2.block _ hszA).trans hrow
          have HBB : Hid (Below w.heap.size w w2) := hbB
          have HRB : Hid (RowOf w2 wr.heap.size (Rf.three x Y)) := hrowB
          have HR2 : Hid (RowOf w2 g2 (Rf.times (Rf.three x Y) (Rf.three x Y))) := hr2
          have hlen : (Rf.times (Rf.three x Y) (Rf.three x Y)).length = 5 := by rw [Rf.times_length]; rfl
          rw [hlen]
          have HLEN : Hid ((Rf.times (Rf.three x Y) (Rf.three x Y)).length = 5) := hlen
          clear hrow hbA hszA hg2 hr2 hb2 hbB hrowB HB hlen
          go_wp2_with fail
          refine (times_any (Rf.times (Rf.three x Y) (Rf.three x Y)) (Rf.three x Y) (.slice (some ⟨g2, 0, none⟩) 5 5) (.slice (some ⟨wr.heap.size, 0, none⟩) 3 3) w2 (by have := intsAt_row (c := 5) HR2.out; rw [HLEN.out] at this; exact this) (intsAt_row HRB.out) (Rf.three_sq hx3 hY2) (Rf.three_le hx3 hY2) (by rw [HLEN.out]; decide) (by rw [HLEN.out]; decide) rfl).mono ?_
          rintro e w3 ⟨g3, rfl, hg3, hr3, hb3⟩
          have hbC : Below w.heap.size w w3 := HBB.out.trans (hb3.mono HBB.out.size)
          have hlen3 : (Rf.times (Rf.times (Rf.three x Y) (Rf.three x Y)) (Rf.three x Y)).length = 7 := by rw [Rf.times_length, HLEN.out]; rfl
          rw [hlen3]
          have HBC : Hid (Below w.heap.size w w3) := hbC
          have HR3 : Hid (RowOf w3 g3 (Rf.times (Rf.times (Rf.three x Y) (Rf.three x Y)) (Rf.three x Y))) := hr3
          have HLEN3 : Hid ((Rf.times (Rf.times (Rf.three x Y) (Rf.three x Y)) (Rf.three x Y)).length = 7) := hlen3
          clear hg3 hr3 hb3 hbC hlen3 HBB HRB HR2 HLEN
          go_wp2_with fail
          refine (below_any (Rf.times (Rf.times (Rf.three x Y) (Rf.three x Y)) (Rf.three x Y)) p (.slice (some ⟨g3, 0, none⟩) 7 7) w3 (by have := intsAt_row (c := 7) HR3.out; rw [HLEN3.out] at this; exact this) (by rw [HLEN3.out]; decide) (by rw [HLEN3.out]; decide)).mono ?_
          rintro e w4 ⟨rfl, rfl⟩
          have hsm : Rf.below (Rf.times (Rf.times (Rf.three x Y) (Rf.three x Y)) (Rf.three x Y)) p = Rf.small true p x Y := by simp [Rf.small]
          have HBX := HBC
          rw [hsm]
          clear hsm
          by_cases hs : Rf.small true p x Y = true
          · have HJ' : Hid (Rf.bitsTo true p x j Y = R) := by
              have := HJ.out
              rw [if_pos hs] at this
              exact this
            rw [hs]
            clear hs HJ
            go_wp2
            go_roundw
            case rel => exact ⟨j, Y, by omega, by go_num, rfl, (by have := HP.out; omega : Y + 2 ^ j ≤ 4294967296), HJ'.out, HBX.out⟩
            case measure => simp [intOf]
          · have hs' : Rf.small true p x Y = false := by simpa using hs
            have HJ' : Hid (Rf.bitsTo true p x j y = R) := by
              have := HJ.out
              rw [if_neg hs] at this
              exact this
            rw [hs']
            clear hs hs' HJ
            go_wp2
            go_roundw
            case rel => exact ⟨j, y, by omega, by go_num, rfl, (by have := HP.out; omega : y + 2 ^ j ≤ 4294967296), HJ'.out, HBX.out⟩
            case measure => simp [intOf]
        · obtain rfl : k = 0 := by omega
          have hyR : y = R := HR.out
          subst hyR
          go_wp2
          go_ret
          exact ⟨rfl, HB.out⟩
end Go.Proofs.YtnbdadhdpplldabDoor
