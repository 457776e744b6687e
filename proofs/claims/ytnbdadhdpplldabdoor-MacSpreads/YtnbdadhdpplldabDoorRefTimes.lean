/- The contract of the document's times. -/
import Derived.Test.YtnbdadhdpplldabDoorRefLeaf
import Derived.Test.YtnbdadhdpplldabDoorSums
import Derived.BigRegion
namespace Go.Proofs.YtnbdadhdpplldabDoor
open Go.RowKit
theorem info3e : ∃ i, Tryd.prog.info? 3 = some i ∧ i.size = 1 ∧ i.bytes = 8 ∧ i.zero = some (.int .i64 0) := info_of (by kernel_rfl)
theorem make_ints (l : Nat) (hc : l ≤ 1000000) (w : World) :
    (Instr.makeSlice 47 (.int .i64 (l : Int)) (.int .i64 (l : Int))).run Tryd.prog w = .ok (.slice (some ⟨w.heap.size, 0, none⟩) l l) (w.alloc (.cells (arr .i64 (List.replicate l 0)) 3)) := by
  obtain ⟨i, hi, hs, hb, hz⟩ := info3e
  have := run_make (P := Tryd.prog) w 47 3 i _ Tryd.underlying47 hi hz .i64 .i64 (l : Int) (l : Int) (by omega) (by omega) (by rw [hb]; omega) (by omega)
  rw [this, hs, ← made_zeros]
  simp [Value.cells]
/-- A row of numbers in a block of its own. -/
def RowOf (w : World) (g : Nat) (l : List Nat) : Prop := w.heap[g]? = some (.cells (arr .i64 l) 3 (0, 0))
theorem RowOf.cell {w : World} {g : Nat} {l : List Nat} (h : RowOf w g l) (i : Nat) (hi : i < l.length) : w.cell? ⟨g, i, none⟩ = some (.int .i64 (Sp.nth l i : Nat)) := by
  rw [cell_of_row _ _ _ _ _ _ h]; exact arr_get _ _ _ hi
theorem RowOf.may {w : World} {g : Nat} {l : List Nat} (h : RowOf w g l) (i : Nat) : w.frozen? ⟨g, i, none⟩ = false := frozen_of_row _ _ _ _ _ h
theorem RowOf.set {w : World} {g : Nat} {l : List Nat} (h : RowOf w g l) (i x : Nat) : RowOf (w.setCell ⟨g, i, none⟩ (.int .i64 (x : Nat))) g (l.set i x) := by
  have := heap_setCell_same w g i (arr .i64 l) 3 (.int .i64 (x : Nat)) h
  unfold RowOf
  rw [this]
  congr 2
  apply Array.ext'
  simp [arr, ints]
theorem RowOf.drewN {w : World} {g : Nat} {l : List Nat} (h : RowOf w g l) (n : Nat) : RowOf (w.drewN n) g l := h
namespace Rf
open Sp (nth)
theorem mulRow_length (a b o : List Nat) (i : Nat) : ∀ k, (mulRow a b i o k).length = o.length
  | 0 => rfl
  | k + 1 => by simp [mulRow, mulStep, mulRow_length a b o i k]
theorem mulTo_length (a b : List Nat) : ∀ i, (mulTo a b i).length = a.length + b.length - 1
  | 0 => by simp [mulTo]
  | i + 1 => by simp [mulTo, mulRow_length, mulTo_length a b i]
theorem nth_set (l : List Nat) (i j x : Nat) : nth (l.set i x) j ≤ max (nth l j) x ∧ (i ≠ j → nth (l.set i x) j = nth l j) := by
  unfold nth
  rw [List.getD_eq_getElem?_getD, List.getD_eq_getElem?_getD, List.getElem?_set]
  by_cases h : i = j
  · subst h
    by_cases h2 : i < l.length
    · simp [h2]; omega
    · simp [h2]
  · simp [h]; omega
theorem mul_le {x y : Nat} (hx : x ≤ 137438953472) (hy : y ≤ 65536) : x * y ≤ 9007199254740992 := Nat.mul_le_mul hx hy
theorem carryStep_length (o : List Nat) (i : Nat) : (carryStep o i).length = o.length := by simp [carryStep]
theorem carry_length : ∀ i o, (carry i o).length = o.length
  | 0, _ => rfl
  | i + 1, o => by rw [carry, carry_length i, carryStep_length]
theorem times_length (a b : List Nat) : (times a b).length = a.length + b.length - 1 := by rw [times, carry_length, mulTo_length]
end Rf
set_option maxHeartbeats 1000000 in
theorem times_any (a b : List Nat) (va vb : Value) (w : World) (hva : IntsAt w va a) (hvb : IntsAt w vb b) (ha : ∀ i, Sp.nth a i ≤ 137438953472) (hb : ∀ i, Sp.nth b i ≤ 65536) (ha1 : 1 ≤ a.length) (ha5 : a.length ≤ 5) (hb3 : b.length = 3) :
    Calls Tryd.prog 36 #[va, vb] w fun e w' => ∃ g, e = .returned (.slice (some ⟨g, 0, none⟩) (Rf.times a b).length (Rf.times a b).length) ∧ w.heap.size ≤ g ∧ RowOf w' g (Rf.times a b) ∧ Below w.heap.size w w' := by
  obtain ⟨ga, ca, rfl, hra⟩ := hva
  obtain ⟨gb, cb, rfl, hrb⟩ := hvb
  have HRA : Hid (w.rangeAt ga 0 (ints .i64 a)) := hra
  have HRB : Hid (w.rangeAt gb 0 (ints .i64 b)) := hrb
  have HA : Hid (∀ i, Sp.nth a i ≤ 137438953472) := ha
  have HB : Hid (∀ i, Sp.nth b i ≤ 65536) := hb
  have HB3 : Hid (b.length = 3) := hb3
  obtain ⟨n, hn⟩ : ∃ n, a.length = n := ⟨_, rfl⟩
  have HN : Hid (a.length = n) := hn
  rw [hb3, hn]
  rw [hn] at ha1 ha5
  clear hra hrb ha hb hb3 hn
  have hmk : ∀ w, (Instr.makeSlice 47 (.int .i64 ((n : Int) + 3 - 1)) (.int .i64 ((n : Int) + 3 - 1))).run Tryd.prog w = .ok (.slice (some ⟨w.heap.size, 0, none⟩) (n + 2) (n + 2)) (w.alloc (.cells (arr .i64 (List.replicate (n + 2) 0)) 3)) := fun w => by
    have := make_ints (n + 2) (by omega) w
    rw [show ((n + 2 : Nat) : Int) = (n : Int) + 3 - 1 from by omega] at this
    exact this
  obtain ⟨T, hT⟩ : ∃ T, Rf.times a b = T := ⟨_, rfl⟩
  have hfin : T = Rf.carry (n + 1) (Rf.mulTo a b n) := by rw [← hT, Rf.times, HN.out, HB3.out]; rfl
  have hTl : T.length = n + 2 := by rw [← hT, Rf.times_length, HN.out, HB3.out]; omega
  rw [hT, hTl]
  have HF : Hid (T = Rf.carry (n + 1) (Rf.mulTo a b n)) := hfin
  clear hfin hTl hT
  go_enter Tryd.func36, Tryd.ntmps36
  go_wp2
  go_loopw [6] (fun i wr => ∃ k : Nat, k ≤ n ∧ i = .int .i64 k ∧ Hid (RowOf wr w.heap.size (Rf.mulTo a b k)) ∧ Hid (Below w.heap.size w wr) ∧ Hid (∀ j, Sp.nth (Rf.mulTo a b k) j ≤ 3 * k * 9007199254740992)) (fun i _ => n - (intOf i).toNat)
  case atStart =>
    refine ⟨0, by omega, rfl, ?_, (Below.refl _ _).alloc (Nat.le_refl _) _, fun j => ?_⟩
    · have := heap_alloc_new w (.cells (arr .i64 (List.replicate (n + 2) 0)) 3)
      show _ = _
      rw [this]
      simp [Rf.mulTo, HN.out, HB3.out]
    · simp [Rf.mulTo, Sp.nth, List.getElem?_replicate]
      split <;> rfl
  case round =>
    obtain ⟨k, hk, rfl, HO, HW, HM⟩ := hrel
    by_cases hlt : k < n
    · have k0 : (0 : Int) ≤ (k : Int) := by omega
      have k1 : (k : Int) < (n : Int) := by omega
      go_wp2
      go_loopw [7] (fun i wr => ∃ q : Nat, q ≤ 3 ∧ i = .int .i64 q ∧ Hid (RowOf wr w.heap.size (Rf.mulRow a b k (Rf.mulTo a b k) q)) ∧ Hid (Below w.heap.size w wr) ∧ Hid (∀ j, Sp.nth (Rf.mulRow a b k (Rf.mulTo a b k) q) j ≤ (3 * k + q) * 9007199254740992)) (fun i _ => 3 - (intOf i).toNat)
      case atStart => exact ⟨0, by omega, rfl, HO.out, HW.out, HM.out⟩
      case round =>
        clear HO HW HM
        obtain ⟨q, hq, rfl, HO, HW, HM⟩ := hrel
        by_cases hqt : q < 3
        · obtain ⟨o, ho⟩ : ∃ o, Rf.mulRow a b k (Rf.mulTo a b k) q = o := ⟨_, rfl⟩
          have hol : o.length = n + 2 := by rw [← ho, Rf.mulRow_length, Rf.mulTo_length, HN.out, HB3.out]; omega
          have hst : Rf.mulRow a b k (Rf.mulTo a b k) (q + 1) = Rf.mulStep a b o k q := by rw [← ho]; rfl
          rw [ho] at HO HM
          have HST : Hid (Rf.mulRow a b k (Rf.mulTo a b k) (q + 1) = Rf.mulStep a b o k q) := hst
          have ca := range_cell (rangeAt_below HW.out HRA.out) k (by rw [HN.out]; exact hlt)
          have cb := range_cell (rangeAt_below HW.out HRB.out) q (by rw [HB3.out]; exact hqt)
          rw [Nat.zero_add] at ca cb
          have co := HO.out.cell (k + q) (by omega)
          have cf := HO.out.may (k + q)
          have bx := HA.out k
          have bY := HB.out q
          have bz := HM.out (k + q)
          have bp := Rf.mul_le bx bY
          have hms : Rf.mulStep a b o k q = o.set (k + q) (Sp.nth o (k + q) + Sp.nth a k * Sp.nth b q) := rfl
          have HMS : Hid (Rf.mulStep a b o k q = o.set (k + q) (Sp.nth o (k + q) + Sp.nth a k * Sp.nth b q)) := hms
          clear ho hst hms hol
          generalize Sp.nth a k = x at *
          generalize Sp.nth b q = y at *
          generalize hzz : Sp.nth o (k + q) = z at *
          have HZ : Hid (Sp.nth o (k + q) = z) := hzz
          clear hzz
          have bp0 : (0 : Int) ≤ (x : Int) * (y : Int) := Int.mul_nonneg (by omega) (by omega)
          have bp1 : (x : Int) * (y : Int) ≤ 9007199254740992 := by
            rw [← Int.natCast_mul]; omega
          have bz1 : (z : Int) ≤ 135107988821114880 := by omega
          have q0 : (0 : Int) ≤ (q : Int) := by omega
          have q1 : (q : Int) < 3 := by omega
          have kq : (k : Int) + (q : Int) < (n : Int) + 2 := by omega
          have kq0 : (0 : Int) ≤ (k : Int) + (q : Int) := by omega
          go_wp2
          go_region
          go_wp2
          go_roundw
          case rel =>
            refine ⟨q + 1, by omega, by go_num, ?_, below_drewN (HW.out.setCell (Nat.le_refl _) _) 1, ?_⟩
            · rw [HST.out, HMS.out]
              have := RowOf.set HO.out (k + q) (z + x * y)
              rw [Int.natCast_add, Int.natCast_mul] at this
              exact this
            · rw [HST.out, HMS.out]
              intro j
              have h1 := (Rf.nth_set o (k + q) j (z + x * y)).1
              have h2 := HM.out j
              have h3 := HM.out (k + q)
              rw [HZ.out] at h3
              omega
          case measure => simp [intOf]; omega
        · obtain rfl : q = 3 := by omega
          have hto : Rf.mulTo a b (k + 1) = Rf.mulRow a b k (Rf.mulTo a b k) 3 := by rw [Rf.mulTo, HB3.out]
          have HTO : Hid (Rf.mulTo a b (k + 1) = Rf.mulRow a b k (Rf.mulTo a b k) 3) := hto
          clear hto
          go_wp2
          go_roundw
          case rel => exact ⟨k + 1, by omega, by go_num, by rw [HTO.out]; exact HO.out, HW.out, by rw [HTO.out]; exact fun j => by have := HM.out j; omega⟩
          case measure => simp [intOf]; omega
    · obtain rfl : k = n := by omega
      have hol : (Rf.mulTo a b k).length = k + 2 := by rw [Rf.mulTo_length, HN.out, HB3.out]; omega
      have HOL : Hid ((Rf.mulTo a b k).length = k + 2) := hol
      clear hol
      go_wp2
      go_loopw [8] (fun i wr => ∃ (q : Nat) (o : List Nat), q ≤ k + 1 ∧ i = .int .i64 q ∧ Hid (o.length = k + 2) ∧ Hid (T = Rf.carry q o) ∧ Hid (RowOf wr w.heap.size o) ∧ Hid (Below w.heap.size w wr) ∧ Hid (∀ j, (j < q → Sp.nth o j ≤ 135107988821114880) ∧ (j = q → Sp.nth o j ≤ 288230376151711744))) (fun i _ => (intOf i).toNat)
      case atStart =>
        refine ⟨k + 1, Rf.mulTo a b k, by omega, by go_num, HOL.out, HF.out, HO.out, HW.out, fun j => ?_⟩
        have := HM.out j
        omega
      case round =>
        clear HO HW HM HOL HF
        obtain ⟨q, o, hq, rfl, HOL, HF, HO, HW, HM⟩ := hrel
        by_cases hq0 : 0 < q
        · have c1 := HO.out.cell (q - 1) (by rw [HOL.out]; omega)
          have c2 := HO.out.cell q (by rw [HOL.out]; omega)
          have cf1 := HO.out.may (q - 1)
          have cf2 := HO.out.may q
          have b1 := (HM.out (q - 1)).1 (by omega)
          have b2 := (HM.out q).2 rfl
          have hcs : Rf.carryStep o q = (o.set (q - 1) (Sp.nth o (q - 1) + Sp.nth o q / 65536)).set q (Sp.nth o q % 65536) := rfl
          have HCS : Hid (Rf.carryStep o q = (o.set (q - 1) (Sp.nth o (q - 1) + Sp.nth o q / 65536)).set q (Sp.nth o q % 65536)) := hcs
          clear hcs
          generalize Sp.nth o (q - 1) = y at *
          generalize hxx : Sp.nth o q = x at *
          have HX : Hid (Sp.nth o q = x) := hxx
          clear hxx
          have q0 : (0 : Int) < (q : Int) := by omega
          have q00 : (0 : Int) ≤ (q : Int) - 1 := by omega
          have q1 : (q : Int) < (k : Int) + 2 := by omega
          have q2 : (q : Int) - 1 < (k : Int) + 2 := by omega
          have q3 : ((q : Int) - 1).toNat = q - 1 := by omega
          have hx2 : Sp.nth (o.set (q - 1) (y + x / 65536)) q = x := by rw [(Rf.nth_set _ _ _ _).2 (by omega)]; exact HX.out
          have R2 := RowOf.set HO.out (q - 1) (y + x / 65536)
          have hi2 : ((y + x / 65536 : Nat) : Int) = (y : Int) + (x : Int) / 65536 := by omega
          rw [hi2] at R2
          have c3 := R2.cell q (by simp [HOL.out]; omega)
          rw [hx2] at c3
          have B2 := below_drewN (HW.out.setCell (p := ⟨w.heap.size, q - 1, none⟩) (Nat.le_refl _) (.int .i64 ((y : Int) + (x : Int) / 65536))) 1
          have R2H : Hid (RowOf (wr.setCell ⟨w.heap.size, q - 1, none⟩ (.int .i64 ((y : Int) + (x : Int) / 65536))) w.heap.size (o.set (q - 1) (y + x / 65536))) := R2
          have B2H : Hid (Below w.heap.size w ((wr.setCell ⟨w.heap.size, q - 1, none⟩ (.int .i64 ((y : Int) + (x : Int) / 65536))).drewN 1)) := B2
          have cf3 := R2.may q
          clear R2 B2 hx2 hi2
          go_wp2
          go_region
          generalize wr.setCell ⟨w.heap.size, q - 1, none⟩ (.int .i64 ((y : Int) + (x : Int) / 65536)) = w2 at *
          go_wp2
          go_roundw
          case rel =>
            have R3 := RowOf.set R2H.out q (x % 65536)
            have hi3 : ((x % 65536 : Nat) : Int) = (x : Int) % 65536 := by omega
            rw [hi3, ← HCS.out] at R3
            have hq1 : q = (q - 1) + 1 := by omega
            refine ⟨q - 1, Rf.carryStep o q, by omega, by go_num, by rw [Rf.carryStep_length]; exact HOL.out, ?_, R3, ?_, fun j => ⟨fun hj => ?_, fun hj => ?_⟩⟩
            · show T = _
              have := HF.out
              rw [hq1, Rf.carry, ← hq1] at this
              exact this
            · exact B2H.out.setCell (Nat.le_refl _) _
            · rw [HCS.out, (Rf.nth_set _ _ _ _).2 (by omega), (Rf.nth_set _ _ _ _).2 (by omega)]
              exact (HM.out j).1 (by omega)
            · subst hj
              rw [HCS.out, (Rf.nth_set _ _ _ _).2 (by omega)]
              have h1 := (Rf.nth_set o (q - 1) (q - 1) (y + x / 65536)).1
              have h2 := (HM.out (q - 1)).1 (by omega)
              omega
          case measure => simp [intOf]; omega
        · obtain rfl : q = 0 := by omega
          have hTo : T = o := HF.out
          subst hTo
          go_wp2
          go_ret
          exact ⟨w.heap.size, rfl, Nat.le_refl _, HO.out, HW.out⟩
end Go.Proofs.YtnbdadhdpplldabDoor
