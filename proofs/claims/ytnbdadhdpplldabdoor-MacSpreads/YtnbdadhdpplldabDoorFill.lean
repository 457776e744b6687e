/- mac: a key filled up, masked; the plain mathematics of HMAC. -/
import Derived.Test.YtnbdadhdpplldabDoorConv
import Derived.WalkMore
namespace Go.Proofs.YtnbdadhdpplldabDoor
open Go.RowKit
namespace Mk
/-- A key that is longer than a block stands for its sum. -/
def short (key : List Nat) : List Nat := if 64 < key.length then Sp.sum key else key
def fill (key : List Nat) : List Nat := short key ++ List.replicate (64 - (short key).length) 0
def mask (k : List Nat) (x : Nat) : List Nat := k.map fun y => y ^^^ x
def code (key m : List Nat) : List Nat := Sp.sum (mask (fill key) 92 ++ Sp.sum (mask (fill key) 54 ++ m))
theorem short_le (key : List Nat) : (short key).length ≤ 64 := by
  unfold short
  split
  · rw [sum_length]; decide
  · omega
theorem fill_length (key : List Nat) : (fill key).length = 64 := by
  have := short_le key
  simp [fill]
  omega
theorem sum_small (m : List Nat) : ∀ x ∈ Sp.sum m, x < 256 := fun x hx => by
  unfold Sp.sum Sp.bytesTo at hx
  obtain ⟨y, _, hy⟩ := List.mem_flatMap.1 hx
  simp [Sp.bytes4] at hy
  omega
theorem short_small {key : List Nat} (h : ∀ x ∈ key, x < 256) : ∀ x ∈ short key, x < 256 := by
  unfold short
  split
  · exact sum_small key
  · exact h
theorem fill_small {key : List Nat} (h : ∀ x ∈ key, x < 256) : ∀ x ∈ fill key, x < 256 := fun x hx => by
  rcases List.mem_append.1 hx with h1 | h1
  · exact short_small h x h1
  · have := (List.mem_replicate.1 h1).2
    omega
theorem mask_length (k : List Nat) (x : Nat) : (mask k x).length = k.length := by simp [mask]
theorem mask_small {k : List Nat} (h : ∀ x ∈ k, x < 256) {x : Nat} (hx : x < 256) : ∀ y ∈ mask k x, y < 256 := fun y hy => by
  obtain ⟨z, hz, rfl⟩ := List.mem_map.1 hy
  exact Nat.xor_lt_two_pow (n := 8) (h z hz) hx
theorem mask_set (k : List Nat) (x j : Nat) (h : j < k.length) : (mask (k.take j) x ++ k.drop j).set j (Sp.nth k j ^^^ x) = mask (k.take (j + 1)) x ++ k.drop (j + 1) := by
  have e : k.drop j = Sp.nth k j :: k.drop (j + 1) := by
    rw [List.drop_eq_getElem_cons h]
    simp [Sp.nth, h]
  have e2 : k.take (j + 1) = k.take j ++ [Sp.nth k j] := by rw [List.take_add_one, Sp.nth_of h]; rfl
  rw [e, e2, List.set_append_right _ _ (by simp [mask]; omega)]
  simp [mask, Nat.min_eq_left (Nat.le_of_lt h)]
theorem code_small (key m : List Nat) : ∀ x ∈ code key m, x < 256 := sum_small _
theorem code_length (key m : List Nat) : (code key m).length = 32 := sum_length _
end Mk
theorem info39 : (Tryd.prog.info? 39).map (·.size) = some 64 := by kernel_rfl
theorem under39 : Tryd.prog.underlying 39 = some (.array 64 5) := by kernel_rfl
def zeroK : Array Value := arr .u8 (List.replicate 64 0)
theorem zeroK_eq : #[Value.int IntKind.u8 0, Value.int IntKind.u8 0, Value.int IntKind.u8 0, Value.int IntKind.u8 0, Value.int IntKind.u8 0, Value.int IntKind.u8 0, Value.int IntKind.u8 0, Value.int IntKind.u8 0, Value.int IntKind.u8 0, Value.int IntKind.u8 0, Value.int IntKind.u8 0, Value.int IntKind.u8 0, Value.int IntKind.u8 0, Value.int IntKind.u8 0, Value.int IntKind.u8 0, Value.int IntKind.u8 0, Value.int IntKind.u8 0, Value.int IntKind.u8 0, Value.int IntKind.u8 0, Value.int IntKind.u8 0, Value.int IntKind.u8 0, Value.int IntKind.u8 0, Value.int IntKind.u8 0, Value.int IntKind.u8 0, Value.int IntKind.u8 0, Value.int IntKind.u8 0, Value.int IntKind.u8 0, Value.int IntKind.u8 0, Value.int IntKind.u8 0, Value.int IntKind.u8 0, Value.int IntKind.u8 0, Value.int IntKind.u8 0, Value.int IntKind.u8 0, Value.int IntKind.u8 0, Value.int IntKind.u8 0, Value.int IntKind.u8 0, Value.int IntKind.u8 0, Value.int IntKind.u8 0, Value.int IntKind.u8 0, Value.int IntKind.u8 0, Value.int IntKind.u8 0, Value.int IntKind.u8 0, Value.int IntKind.u8 0, Value.int IntKind.u8 0, Value.int IntKind.u8 0, Value.int IntKind.u8 0, Value.int IntKind.u8 0, Value.int IntKind.u8 0, Value.int IntKind.u8 0, Value.int IntKind.u8 0, Value.int IntKind.u8 0, Value.int IntKind.u8 0, Value.int IntKind.u8 0, Value.int IntKind.u8 0, Value.int IntKind.u8 0, Value.int IntKind.u8 0, Value.int IntKind.u8 0, Value.int IntKind.u8 0, Value.int IntKind.u8 0, Value.int IntKind.u8 0, Value.int IntKind.u8 0, Value.int IntKind.u8 0, Value.int IntKind.u8 0, Value.int IntKind.u8 0] = zeroK := rfl
/-- At block g lie bytes of a block's key. -/
def KeyAt (w : World) (g : Nat) (l : List Nat) : Prop := w.heap[g]? = some (.cells (arr .u8 l) 39 (0, 0))
section
variable {w : World} {g : Nat} {l : List Nat}
theorem KeyAt.cell (h : KeyAt w g l) (i : Nat) (hi : i < l.length) : w.cell? ⟨g, i, none⟩ = some (.int .u8 (Sp.nth l i : Nat)) := by
  rw [cell_of_row _ _ _ _ _ _ h]; exact arr_get _ _ _ hi
theorem KeyAt.may (h : KeyAt w g l) (i : Nat) : w.frozen? ⟨g, i, none⟩ = false := frozen_of_row _ _ _ _ _ h
theorem KeyAt.set (h : KeyAt w g l) (i x : Nat) : KeyAt (w.setCell ⟨g, i, none⟩ (.int .u8 (x : Nat))) g (l.set i x) := by
  have := heap_setCell_same w g i (arr .u8 l) 39 (.int .u8 (x : Nat)) h
  unfold KeyAt
  rw [this]
  congr 2
  apply Array.ext'
  simp [arr, ints]
theorem KeyAt.below {w' : World} {B : Nat} (h : KeyAt w g l) (hb : Below B w w') (hg : g < B) : KeyAt w' g l := (hb.block g hg).trans h
theorem KeyAt.grown {w' : World} {g' : Nat} (h : KeyAt w g l) (hg : w.grownBy w' (some g')) (hne : g ≠ g') : KeyAt w' g l := by
  have := hg.block g (Array.getElem?_eq_some_iff.1 h).1 (by simpa using hne)
  exact this.trans h
theorem KeyAt.lt (h : KeyAt w g l) : g < w.heap.size := (Array.getElem?_eq_some_iff.1 h).1
end
theorem key_new (w : World) (l : List Nat) : KeyAt (w.alloc (.cells (arr .u8 l) 39)) w.heap.size l := heap_alloc_new w _
set_option maxHeartbeats 1000000 in
theorem masked_any (k : List Nat) (x : Nat) (w : World) (hl : k.length = 64) (hs : ∀ y ∈ k, y < 256) (hx : x < 256) :
    Calls Tryd.prog 21 #[.agg (arr .u8 k), .int .u8 x] w fun e w' => e = .returned (.slice (some ⟨w.heap.size, 0, none⟩) 64 64) ∧ KeyAt w' w.heap.size (Mk.mask k x) ∧ Below w.heap.size w w' := by
  have HL : Hid (k.length = 64) := hl
  have HS : Hid (∀ y ∈ k, y < 256) := hs
  clear hl hs
  go_enter Tryd.func21, Tryd.ntmps21
  go_wp2_with fail
  go_loopw [6] (fun i wr => ∃ j : Nat, j ≤ 64 ∧ i = .int .i64 j ∧ Hid (KeyAt wr w.heap.size (Mk.mask (k.take j) x ++ k.drop j)) ∧ Hid (Below w.heap.size w wr)) (fun i _ => 64 - (intOf i).toNat)
  case atStart => exact ⟨0, by omega, rfl, key_new w k, (Below.refl _ _).alloc (Nat.le_refl _) _⟩
  case round =>
    obtain ⟨j, hj, rfl, HR, HB⟩ := hrel
    by_cases hlt : j < 64
    · have j0 : (0 : Int) ≤ (j : Int) := by omega
      have j1 : (j : Int) < 64 := by omega
      have hc := HR.out.cell j (by rw [List.length_append, Mk.mask_length, List.length_take, List.length_drop, HL.out]; omega)
      have e1 : Sp.nth (Mk.mask (k.take j) x ++ k.drop j) j = Sp.nth k j := by
        have e := Sp.nth_append_right (l := Mk.mask (k.take j) x) (m := k.drop j) 0
        rw [Mk.mask_length, List.length_take, HL.out, Nat.min_eq_left hj, Nat.add_zero, Sp.nth_drop, Nat.add_zero] at e
        exact e
      rw [e1] at hc
      have hf := HR.out.may j
      have hy : Sp.nth k j < 256 := Sp.nth_lt (by decide) HS.out _
      have hxx := u8_xor_nat _ _ hy hx
      have HN : Hid (KeyAt (wr.setCell ⟨w.heap.size, j, none⟩ (.int .u8 ((Sp.nth k j ^^^ x : Nat) : Int))) w.heap.size (Mk.mask (k.take (j + 1)) x ++ k.drop (j + 1))) := by
        rw [← Mk.mask_set k x j (by rw [HL.out]; exact hlt)]
        exact HR.out.set j _
      have HBN : Hid (Below w.heap.size w (wr.setCell ⟨w.heap.size, j, none⟩ (.int .u8 ((Sp.nth k j ^^^ x : Nat) : Int)))) := HB.out.setCell (Nat.le_refl _) _
      clear e1 HR HB
      generalize Sp.nth k j = y at *
      go_wp2_with fail
      go_roundw
      case rel => exact ⟨j + 1, by omega, by go_num, HN.out, HBN.out⟩
      case measure => simp [intOf]; omega
    · obtain rfl : j = 64 := by omega
      have hR := HR.out
      rw [List.take_of_length_le (by rw [HL.out]; omega), List.drop_eq_nil_of_le (by rw [HL.out]; omega), List.append_nil] at hR
      have HF : Hid (KeyAt wr w.heap.size (Mk.mask k x)) := hR
      clear hR HR
      go_wp2_with fail
      go_ret
      exact ⟨rfl, HF.out, HB.out⟩
end Go.Proofs.YtnbdadhdpplldabDoor
