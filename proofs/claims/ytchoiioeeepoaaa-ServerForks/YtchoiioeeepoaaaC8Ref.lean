/- The contracts of the document's reader: get, Num, Text, End. -/
import Derived.Test.YtchoiioeeepoaaaC8Args
import Derived.Deep.QuietTactic
import Derived.BigQuiet
namespace Go.Proofs.Ytchoiioeeepoaaa.C8
open Go.RowKit
/-- The document's reader. -/
def RfAt (w : World) (q : Nat) (sv : Value) (at_ : Nat) (bad : Bool) : Prop := w.heap[q]? = some (.cells #[sv, .int .i64 (at_ : Int), .bool bad] 85 (0, 0))
section
variable {w w' : World} {q at_ : Nat} {sv : Value} {bad : Bool}
theorem RfAt.lt (h : RfAt w q sv at_ bad) : q < w.heap.size := (Array.getElem?_eq_some_iff.1 h).1
theorem RfAt.below (h : RfAt w q sv at_ bad) (hb : Below w.heap.size w w') : RfAt w' q sv at_ bad := (hb.block q h.lt).trans h
theorem RfAt.only {bs : List Nat} (h : RfAt w q sv at_ bad) (hb : Only bs w w') (hq : q ∉ bs) : RfAt w' q sv at_ bad := (hb.block q h.lt hq).trans h
theorem RfAt.cells (h : RfAt w q sv at_ bad) : w.cell? ⟨q, 0, none⟩ = some sv ∧ w.cell? ⟨q, 1, none⟩ = some (.int .i64 (at_ : Int)) ∧ w.cell? ⟨q, 2, none⟩ = some (.bool bad) ∧ w.frozen? ⟨q, 1, none⟩ = false ∧ w.frozen? ⟨q, 2, none⟩ = false :=
  ⟨by rw [cell_of_row _ _ _ _ _ _ h]; rfl, by rw [cell_of_row _ _ _ _ _ _ h]; rfl, by rw [cell_of_row _ _ _ _ _ _ h]; rfl, frozen_of_row _ _ _ _ _ h, frozen_of_row _ _ _ _ _ h⟩
theorem RfAt.spoil (h : RfAt w q sv at_ bad) : RfAt (w.setCell ⟨q, 2, none⟩ (.bool true)) q sv at_ true := heap_setCell_same w q 2 _ 85 (.bool true) h
theorem RfAt.move (h : RfAt w q sv at_ bad) (n : Nat) : RfAt (w.setCell ⟨q, 1, none⟩ (.int .i64 (n : Int))) q sv n bad := heap_setCell_same w q 1 _ 85 (.int .i64 (n : Int)) h
theorem RfAt.drewN (h : RfAt w q sv at_ bad) (k : Nat) : RfAt (w.drewN k) q sv at_ bad := h
end
set_option maxHeartbeats 2000000 in
theorem get_bad (w : World) (q at_ k : Nat) (pa : Option Addr) (m c : Nat) (h : RfAt w q (.slice pa m c) at_ true) :
    Calls Try.prog 56 #[.pointer (some ⟨q, 0, none⟩), .int .i64 (k : Int)] w fun e w' => e = .returned (.int .i64 0) ∧ RfAt w' q (.slice pa m c) at_ true ∧ Only [q] w w' := by
  have HR : Hid (RfAt w q (.slice pa m c) at_ true) := h
  obtain ⟨c0, c1, c2, f1, f2⟩ := h.cells
  clear h
  go_enter Try.func56, Try.ntmps56
  go_wp2_with fail
  go_quiet (fail)
  go_wp2_with fail
  go_ret
  exact ⟨rfl, (HR.out.drewN nq).spoil, (Only.drewN nq w [q]).trans (Only.setCell _ _ _ (by simp))⟩
set_option maxHeartbeats 2000000 in
theorem get_lack (w : World) (q at_ k : Nat) (pa : Option Addr) (m c : Nat) (h : RfAt w q (.slice pa m c) at_ false) (hm : m ≤ 100000) (ha : at_ ≤ m) (hk : m < at_ + k) (hk6 : k ≤ 6) :
    Calls Try.prog 56 #[.pointer (some ⟨q, 0, none⟩), .int .i64 (k : Int)] w fun e w' => e = .returned (.int .i64 0) ∧ RfAt w' q (.slice pa m c) at_ true ∧ Only [q] w w' := by
  have HR : Hid (RfAt w q (.slice pa m c) at_ false) := h
  obtain ⟨c0, c1, c2, f1, f2⟩ := h.cells
  have hd : decide ((m : Int) - (at_ : Int) < (k : Int)) = true := by simp; omega
  have m1 : (m : Int) ≤ 100000 := by omega
  have m2 : (at_ : Int) ≤ (m : Int) := by omega
  clear h
  go_enter Try.func56, Try.ntmps56
  go_wp2_with fail
  go_quiet (fail)
  go_wp2_with fail
  go_ret
  exact ⟨rfl, (HR.out.drewN nq).spoil, (Only.drewN nq w [q]).trans (Only.setCell _ _ _ (by simp))⟩
theorem mul_byte {a x : Nat} : (256 : Int) * (a : Int) + (x : Int) = ((a * 256 + x : Nat) : Int) := by omega
set_option maxHeartbeats 4000000 in
theorem get_ok (w : World) (q at_ k : Nat) (b o m c : Nat) (l : List Nat) (h : RfAt w q (.slice (some ⟨b, o, none⟩) m c) at_ false) (hl : l.length = m) (hs : ∀ x ∈ l, x < 256) (hr : w.rangeAt b o (ints .u8 l)) (hm : m ≤ 100000) (hk : at_ + k ≤ m) (hk6 : k ≤ 6) :
    Calls Try.prog 56 #[.pointer (some ⟨q, 0, none⟩), .int .i64 (k : Int)] w fun e w' => e = .returned (.int .i64 (Cd.val ((l.drop at_).take k) : Nat)) ∧ RfAt w' q (.slice (some ⟨b, o, none⟩) m c) (at_ + k) false ∧ Only [q] w w' := by
  have HR : Hid (RfAt w q (.slice (some ⟨b, o, none⟩) m c) at_ false) := h
  obtain ⟨c0, c1, c2, f1, f2⟩ := h.cells
  obtain ⟨d, HD⟩ : ∃ d, Hid ((l.drop at_).take k = d) := ⟨_, rfl⟩
  rw [HD.out]
  have hdl : d.length = k := by rw [← HD.out, List.length_take, List.length_drop]; omega
  have hds : ∀ x ∈ d, x < 256 := fun x hx => hs x (List.mem_of_mem_drop (List.mem_of_mem_take (by rw [HD.out]; exact hx)))
  have HV : Hid (∀ j, j < k → Cd.val (d.take (j + 1)) = Cd.val (d.take j) * 256 + Sp.nth d j) := fun j hj => val_take (by omega)
  have HL : Hid (∀ j, j < k → Cd.val (d.take j) < 36028797018963968) := fun j hj => by
    have h1 := Cd.val_lt (d.take j) (fun x hx => hds x (List.mem_of_mem_take hx))
    have h2 : (d.take j).length ≤ 5 := by rw [List.length_take]; omega
    exact Nat.lt_of_lt_of_le h1 (Nat.le_trans (Nat.pow_le_pow_right (by decide) h2) (by decide))
  have HC : Hid (∀ j, j < k → w.cell? ⟨b, o + (at_ + j), none⟩ = some (.int .u8 (Sp.nth d j : Nat))) := fun j hj => by
    have h1 := hr (at_ + j) _ (ints_get .u8 l (at_ + j) (by omega))
    rw [h1]
    have e : Sp.nth d j = Sp.nth l (at_ + j) := by rw [← HD.out, Sp.nth_take hj, Sp.nth_drop]
    rw [e]
  have HX : Hid (∀ j, j < k → Sp.nth d j < 256) := fun j _ => Sp.nth_lt (by decide) hds j
  have HE : Hid (d.take k = d) := List.take_of_length_le (by omega)
  have H0 : Hid (Cd.val (d.take 0) = 0) := rfl
  have hd : decide ((m : Int) - (at_ : Int) < (k : Int)) = false := by simp; omega
  have m1 : (m : Int) ≤ 100000 := by omega
  have m2 : (at_ : Int) + (k : Int) ≤ (m : Int) := by omega
  have m3 : (at_ : Int) ≤ (m : Int) := by omega
  have k6 : (k : Int) ≤ 6 := by omega
  clear h hl hs hr hdl hds
  go_enter Try.func56, Try.ntmps56
  go_wp2_with fail
  go_quiet (fail)
  go_wp2_with fail
  clear hd
  go_loopw [5, 6] (fun v i wr => ∃ j : Nat, j ≤ k ∧ i = .int .i64 j ∧ v = .int .i64 (Cd.val (d.take j) : Nat) ∧ ∃ nn, wr = w.drewN nn) (fun _ i _ => k - (intOf i).toNat)
  case atStart => exact ⟨0, by omega, rfl, by rw [H0.out]; rfl, nq, rfl⟩
  case round =>
    obtain ⟨j, hj, rfl, rfl, nn, rfl⟩ := hrel
    by_cases hlt : j < k
    · have hx := HX.out j hlt
      have hcell := HC.out j hlt
      have hv := HL.out j hlt
      have HNH : Hid (Cd.val (d.take (j + 1)) = Cd.val (d.take j) * 256 + Sp.nth d j) := HV.out j hlt
      generalize Cd.val (d.take j) = a at *
      generalize Sp.nth d j = x at *
      have k1 : (j : Int) < (k : Int) := by omega
      have k0 : (0 : Int) ≤ (j : Int) := by omega
      have k2 : (at_ : Int) + (j : Int) < (m : Int) := by omega
      have t0 : ((at_ : Int) + (j : Int)).toNat = at_ + j := by omega
      have a1 : (a : Int) < 36028797018963968 := by omega
      have x1 : (x : Int) < 256 := by omega
      go_wp2_with fail
      go_quiet (fail)
      go_wp2_with fail
      go_roundw
      case rel =>
        exact ⟨j + 1, by omega, by go_num, by rw [HNH.out, mul_byte], nn + nq, by first | rfl | simp⟩
      case measure => simp [intOf]; omega
    · obtain rfl : j = k := by omega
      have k1 : ¬ (j : Int) < (j : Int) := by omega
      rw [HE.out]
      clear HE HV HL H0 HX HC
      go_wp2_with fail
      go_ret
      refine ⟨rfl, ?_, (Only.drewN nn w [q]).trans (Only.setCell _ _ _ (by simp))⟩
      exact (HR.out.drewN nn).move (at_ + j)
end Go.Proofs.Ytchoiioeeepoaaa.C8
