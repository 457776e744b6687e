/- Bytes as a string; the document's example by the kernel's own reckoning; the contract of the statements' anchor. -/
import Derived.Test.YtnceiccciaihoaaC3XorW
namespace Go.Proofs.Ytnceiccciaihoaa.C3
open Go.RowKit
def strB (l : List Nat) : ByteArray := (l.map (fun (n : Nat) => (n : Int))).foldl (fun r n => r.push (UInt8.ofNat n.toNat)) ByteArray.empty
theorem run_conv (w : World) (b o c : Nat) (l : List Nat) (h : w.rangeAt b o (ints .u8 l)) : (convert 22 9 (.slice (some ⟨b, o, none⟩) l.length c)).run Try.prog w = .ok (.string (strB l)) w := by
  rw [run_convert_bytes_string w 22 9 5 _ _ _ Try.underlying22 Try.underlying5 Try.underlying9]
  have hl : (loadCells ⟨b, o, none⟩ (ints .u8 l).length).run Try.prog w = .ok (ints .u8 l).toArray w :=
    run_loadCells_list (P := Try.prog) w ⟨b, o, none⟩ (ints .u8 l) (fun j v hv => by rw [Addr.add_mid]; exact h j v hv)
  rw [ints_length] at hl
  have e : (ints .u8 l) = (l.map (fun (n : Nat) => (n : Int))).map (Value.int .u8) := by simp [ints]
  rw [e] at hl
  exact run_bytesToString w ⟨b, o, none⟩ l.length c _ hl
theorem conv_of {w : World} {b o : Nat} {l : List Nat} {n : Nat} (c : Nat) (hl : l.length = n) (h : w.rangeAt b o (ints .u8 l)) : (convert 22 9 (.slice (some ⟨b, o, none⟩) n c)).run Try.prog w = .ok (.string (strB l)) w := by
  subst hl
  exact run_conv w b o c l h
def exKey : List Nat := List.range 32
def exNonce : List Nat := [0, 0, 0, 9, 0, 0, 0, 74, 0, 0, 0, 0]
theorem ex_block : (Ch.blockOf exKey 1 exNonce).take 8 = [16, 241, 231, 228, 209, 59, 89, 21] := by decide +kernel
theorem ex_ends : Ending.returned (.bool ((strB [16, 241, 231, 228, 209, 59, 89, 21]).toList == [16, 241, 231, 228, 209, 59, 89, 21])) = Ending.returned (.bool true) := by kernel_rfl
theorem rangeAt_take {w : World} {b o : Nat} {l : List Nat} (h : w.rangeAt b o (ints .u8 l)) (n : Nat) : w.rangeAt b o (ints .u8 (l.take n)) := fun j v hv => by
  apply h j v
  rw [← hv]
  have hj := (List.getElem?_eq_some_iff.1 hv).1
  simp [ints] at hj ⊢
  rw [List.getElem?_take_of_lt (by omega), List.getElem?_map]
theorem range_succ_set (k : Nat) (h : k < 32) : (List.range k ++ List.replicate (32 - k) 0).set k k = List.range (k + 1) ++ List.replicate (32 - (k + 1)) 0 := by
  rw [show 32 - k = (32 - (k + 1)) + 1 from by omega, List.replicate_succ, List.set_append_right _ _ (by simp), List.range_succ]
  simp
end Go.Proofs.Ytnceiccciaihoaa.C3
