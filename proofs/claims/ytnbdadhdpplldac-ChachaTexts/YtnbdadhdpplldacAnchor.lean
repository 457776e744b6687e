/- Bytes as a string; the document's example by the kernel's own reckoning; the contract of the statements' anchor. -/
import Derived.Test.YtnbdadhdpplldacXorW
namespace Go.Proofs.Ytnbdadhdpplldac
open Go.RowKit
def strB (l : List Nat) : ByteArray := (l.map (fun (n : Nat) => (n : Int))).foldl (fun r n => r.push (UInt8.ofNat n.toNat)) ByteArray.empty
theorem run_conv (w : World) (b o c : Nat) (l : List Nat) (h : w.rangeAt b o (ints .u8 l)) : (convert 22 9 (.slice (some ⟨b, o, none⟩) l.length c)).run Try.prog w = .ok (.string (strB l)) w := by
  rw [run_convert_bytes_string w 22 9 5 _ _ _ Try.underlying22 Try.underlying5 Try.underlying9]
  have hl : (loadCells ⟨b, o, none⟩ (ints .u8 l).length).run Try.prog w = .ok (ints .u8 l).toArray w :=
    run_loadCells_list (P := Try.prog) w ⟨b, o, none⟩ (ints .u8 l) (fun j v hv => by rw [Addr.add_mid]; exact h j v hv)
  rw [ints_length] at hl
  have e : (ints .u8 l) = (l.map (fun (n : Nat) => (n : Int))).map (Value.int .u8) := by simp [ints]
  rw [e] at hl
  exact run_bytesToString w ⟨b, o, none⟩ l.length c _ hl
theorem conv_of {w : World} {b o : Nat} {l : List Nat} {n : Nat} (c : Nat) (hl : l.length = n) (h : w.rangeAt b o (ints .u8 l)) : (convert 22 9 (.slice (some ⟨b, o, none⟩) n c)).run Try.prog w = .ok (.string (strB l)) w := by
  subst hl
  exact run_conv w b o c l h
def exKey : List Nat := List.range 32
def exNonce : List Nat := [0, 0, 0, 9, 0, 0, 0, 74, 0, 0, 0, 0]
theorem ex_block : (Ch.blockOf exKey 1 exNonce).take 8 = [16, 241, 231, 228, 209, 59, 89, 21] := by decide +kernel
theorem ex_ends : Ending.returned (.bool ((strB [16, 241, 231, 228, 209, 59, 89, 21]).toList == [16, 241, 231, 228, 209, 59, 89, 21])) = Ending.returned (.bool true) := by kernel_rfl
theorem rangeAt_take {w : World} {b o : Nat} {l : List Nat} (h : w.rangeAt b o (ints .u8 l)) (n : Nat) : w.rangeAt b o (ints .u8 (l.take n)) := fun j v hv => by
  apply h j v
  rw [← hv]
  have hj := (List.getElem?_eq_some_iff.1 hv).1
  simp [ints] at hj ⊢
  rw [List.getElem?_take_of_lt (by omega), List.getElem?_map]
theorem range_succ_set (k : Nat) (h : k < 32) : (List.range k ++ List.replicate (32 - k) 0).set k k = List.range (k + 1) ++ List.replicate (32 - (k + 1)) 0 := by
  rw [show 32 - k = (32 - (k + 1)) + 1 from by omega, List.replicate_succ, List.set_append_right _ _ (by simp), List.range_succ]
  simp
set_option maxHeartbeats 1000000 in
theorem anchor_any (w : World) : Calls Try.prog 9 #[] w fun e w' => e = .returned (.bool true) ∧ Below w.heap.size w w' := by
  have hmk : ∀ w, (Instr.makeSlice 22 (.int .i64 32) (.int .i64 32)).run Try.prog w = .ok (.slice (some ⟨w.heap.size, 0, none⟩) 32 32) (w.alloc (.cells (arr .u8 (List.replicate 32 0)) 5)) := fun w => make_bytes 32 32 .i64 (by decide) (by decide) w
  go_enter Try.func9, Try.ntmps9
  go_wp2_with fail
  go_loopw [8] (fun i wr => ∃ k : Nat, k ≤ 32 ∧ i = .int .i64 k ∧ Hid (BRow wr w.heap.size (List.range k ++ List.replicate (32 - k) 0)) ∧ Hid (Below w.heap.size w wr)) (fun i _ => 32 - (intOf i).toNat)
  case atStart => exact ⟨0, by omega, rfl, heap_alloc_new w _, (Below.refl _ _).alloc (Nat.le_refl _) _⟩
  case round =>
    clear hmk
    obtain ⟨k, hk, rfl, HR, HB⟩ := hrel
    by_cases hlt : k < 32
    · have k0 : (0 : Int) ≤ (k : Int) := by omega
      have k1 : (k : Int) < 32 := by omega
      have k2 : (k : Int) % 256 = (k : Int) := by omega
      have hcell := HR.out.cell k (by simp; omega)
      have hfr := HR.out.may k
      have HRN : Hid (BRow (wr.setCell ⟨w.heap.size, k, none⟩ (.int .u8 (k : Nat))) w.heap.size (List.range (k + 1) ++ List.replicate (32 - (k + 1)) 0)) := by
        rw [← range_succ_set k hlt]
        exact HR.out.set k k
      have HBN : Hid (Below w.heap.size w (wr.setCell ⟨w.heap.size, k, none⟩ (.int .u8 (k : Nat)))) := HB.out.setCell (Nat.le_refl _) _
      generalize Sp.nth (List.range k ++ List.replicate (32 - k) 0) k = z at *
      go_wp2_with fail
      go_roundw
      case rel => exact ⟨k + 1, by omega, by go_num, HRN.out, HBN.out⟩
      case measure => simp [intOf]; omega
    · obtain rfl : k = 32 := by omega
      have hR : BRow wr w.heap.size exKey := HR.out
      have HK : Hid (SliceIs wr w.heap.size 0 exKey) := ⟨by decide, rangeAt_of_row hR⟩
      clear hR HR
      go_wp2_with fail
      have hN : SliceIs (wr.alloc (Obj.cells (arr .u8 exNonce) 5)) wr.heap.size 0 exNonce := ⟨by decide, rangeAt_of_row (heap_alloc_new wr _)⟩
      have hbA : Below wr.heap.size wr (wr.alloc (Obj.cells (arr .u8 exNonce) 5)) := (Below.refl _ _).alloc (Nat.le_refl _) _
      refine (Block_ok exKey exNonce w.heap.size 0 32 wr.heap.size 0 12 1 (wr.alloc (Obj.cells (arr .u8 exNonce) 5)) (by decide) rfl (HK.out.below hbA) hN (by decide) (by decide) (by decide)).mono ?_
      rintro e w2 ⟨g, rfl, hg, hA, hb2⟩
      have HB2 : Hid (Below w.heap.size w w2) := HB.out.trans ((hbA.trans (hb2.mono hbA.size)).mono HB.out.size)
      have hcs := conv_of 64 (n := 8) (l := (Ch.blockOf exKey 1 exNonce).take 8) (by rw [ex_block]; rfl) (rangeAt_take (rangeAt_of_row hA) 8)
      rw [ex_block] at hcs
      clear hN hbA hg hA hb2 HK HB
      go_wp2_with fail
      go_ret
      exact ⟨ex_ends, HB2.out⟩
end Go.Proofs.Ytnbdadhdpplldac
