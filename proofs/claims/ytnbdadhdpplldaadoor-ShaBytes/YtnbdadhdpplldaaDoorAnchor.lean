/- Bytes as a string; the contract of the statements' anchor. -/
import Derived.Test.YtnbdadhdpplldaaDoorSums
import Derived.Test.YtnbdadhdpplldaaDoorAbc
namespace Go.Proofs.YtnbdadhdpplldaaDoor
open Go.RowKit
def strB (l : List Nat) : ByteArray := (l.map (fun (n : Nat) => (n : Int))).foldl (fun r n => r.push (UInt8.ofNat n.toNat)) ByteArray.empty
theorem run_conv (w : World) (b o c : Nat) (l : List Nat) (h : w.rangeAt b o (ints .u8 l)) : (convert 22 9 (.slice (some ⟨b, o, none⟩) l.length c)).run Tryd.prog w = .ok (.string (strB l)) w := by
  rw [run_convert_bytes_string w 22 9 5 _ _ _ Tryd.underlying22 Tryd.underlying5 Tryd.underlying9]
  have hl : (loadCells ⟨b, o, none⟩ (ints .u8 l).length).run Tryd.prog w = .ok (ints .u8 l).toArray w :=
    run_loadCells_list (P := Tryd.prog) w ⟨b, o, none⟩ (ints .u8 l) (fun j v hv => by rw [Addr.add_mid]; exact h j v hv)
  rw [ints_length] at hl
  have e : (ints .u8 l) = (l.map (fun (n : Nat) => (n : Int))).map (Value.int .u8) := by simp [ints]
  rw [e] at hl
  exact run_bytesToString w ⟨b, o, none⟩ l.length c _ hl
theorem conv_row {w : World} {b : Nat} {l : List Nat} {n : Nat} (c : Nat) (hl : l.length = n) (h : w.heap[b]? = some (.cells (arr .u8 l) 5 (0, 0))) : (convert 22 9 (.slice (some ⟨b, 0, none⟩) n c)).run Tryd.prog w = .ok (.string (strB l)) w := by
  subst hl
  exact run_conv w b 0 c l (rangeAt_of_row h)
theorem sum_length (m : List Nat) : (Sp.sum m).length = 32 := by
  unfold Sp.sum
  rw [Sp.bytesTo_length _ 8 (by show 8 ≤ 8; omega)]
theorem partsAt_one {w : World} {v : Value} {l : List Nat} {b c : Nat} (h : BytesAt w v l) (hc : w.cell? ⟨b, 0, none⟩ = some v) : PartsAt w (.slice (some ⟨b, 0, none⟩) 1 c) [l] := by
  refine .inr ⟨b, 0, c, [v], rfl, by simp, fun j u hu => ?_, fun i l' hl => ?_⟩
  · cases j with
    | zero => simp at hu; subst hu; exact hc
    | succ j => simp at hu
  · cases i with
    | zero => simp at hl; subst hl; exact ⟨v, rfl, h⟩
    | succ i => simp at hl
theorem abc_ends : Ending.returned (.bool ((strB (Sp.sum [97, 98, 99])).toList == [186, 120, 22, 191, 143, 1, 207, 234, 65, 65, 64, 222, 93, 174, 34, 35, 176, 3, 97, 163, 150, 23, 122, 156, 180, 16, 255, 97, 242, 0, 21, 173])) = Ending.returned (.bool true) := by
  rw [Sp.sum_abc]
  kernel_rfl
theorem heap_freeze_same (w : World) (g o n : Nat) (cs : Array Value) (t : TypeId) (fr : Nat × Nat) (h : w.heap[g]? = some (.cells cs t fr)) : ∃ fr', (w.freeze ⟨g, o, none⟩ n).heap[g]? = some (.cells cs t fr') := by
  unfold World.freeze
  split
  · exact ⟨fr, h⟩
  · obtain ⟨lo, hi⟩ := fr
    apply Exists.intro
    simp only [Array.getElem?_modify, if_true, h, Option.map_some]
    rfl
theorem heap_freeze_other (w : World) (g o n k : Nat) (h : k ≠ g) : (w.freeze ⟨g, o, none⟩ n).heap[k]? = w.heap[k]? := by
  unfold World.freeze
  split
  · rfl
  · simp only [Array.getElem?_modify]
    rw [if_neg (fun e => h e.symm)]
theorem size_freeze (w : World) (a : Addr) (n : Nat) : (w.freeze a n).heap.size = w.heap.size := by
  unfold World.freeze
  split <;> simp
theorem freeze_keeps (w : World) (a : Addr) (n : Nat) : (w.freeze a n).os = w.os ∧ (w.freeze a n).tape = w.tape ∧ (w.freeze a n).output = w.output := by
  unfold World.freeze
  split <;> exact ⟨rfl, rfl, rfl⟩
theorem conv_lit (w : World) (cs : Array Value) : ∃ w1, (convert 22 22 (.slice (some ⟨w.heap.size, 0, none⟩) cs.size cs.size)).run Tryd.prog (w.alloc (.cells cs 5)) = .ok (.slice (some ⟨w.heap.size, 0, none⟩) cs.size cs.size) w1 ∧
    (∃ fr, w1.heap[w.heap.size]? = some (.cells cs 5 fr)) ∧ Below w.heap.size w w1 ∧ w1.heap.size = w.heap.size + 1 := by
  have h0 := heap_alloc_new w (.cells cs 5)
  have hsh : (w.alloc (.cells cs 5)).shape? w.heap.size = some (5, cs.size) := by
    unfold World.shape?
    rw [h0]
  refine ⟨(w.alloc (.cells cs 5)).freeze ⟨w.heap.size, cs.size, none⟩ 1, ?_, heap_freeze_same _ _ _ _ _ _ _ h0, ?_, ?_⟩
  · simp [convert, run_underlying Tryd.underlying22, run_underlying Tryd.underlying5, markStringish, hsh]
  · obtain ⟨e1, e2, e3⟩ := freeze_keeps (w.alloc (.cells cs 5)) ⟨w.heap.size, cs.size, none⟩ 1
    refine ⟨e1, e2, e3, by rw [size_freeze]; simp, fun k hk => ?_⟩
    rw [heap_freeze_other _ _ _ _ _ (by omega)]
    exact Below.heap_alloc w _ k hk
  · rw [size_freeze]; simp
set_option maxHeartbeats 400000 in
theorem anchor_any (w : World) (hT : Tab w) : Calls Tryd.prog 9 #[] w fun e w' => e = .returned (.bool true) ∧ Below w.heap.size w w' := by
  have HT : Hid (Tab w) := hT
  clear hT
  obtain ⟨w1, hcv, ⟨fr, h1⟩, hb1, hsz⟩ := conv_lit w #[.int .u8 97, .int .u8 98, .int .u8 99]
  have hcv' : (convert 22 22 (.slice (some ⟨w.heap.size, 0, none⟩) 3 3)).run Tryd.prog (w.alloc (.cells #[.int .u8 97, .int .u8 98, .int .u8 99] 5)) = .ok (.slice (some ⟨w.heap.size, 0, none⟩) 3 3) w1 := hcv
  have H1 : Hid _ := h1
  have HS : Hid _ := hsz
  clear hcv h1 hsz
  go_enter Tryd.func9, Tryd.ntmps9
  go_wp2_with fail
  clear hcv'
  have hb0 : Below w.heap.size w (w1.alloc (.cells #[.slice (some ⟨w.heap.size, 0, none⟩) 3 3] 22)) := hb1.alloc hb1.size _
  have hbb : BytesAt (w1.alloc (.cells #[.slice (some ⟨w.heap.size, 0, none⟩) 3 3] 22)) (.slice (some ⟨w.heap.size, 0, none⟩) 3 3) [97, 98, 99] :=
    ⟨by decide, .inr ⟨w.heap.size, 0, 3, rfl, by decide, rangeAt_of_row (cs := ints .u8 [97, 98, 99]) ((Below.heap_alloc w1 _ _ (by rw [HS.out]; omega)).trans H1.out)⟩⟩
  have hcc : (w1.alloc (.cells #[.slice (some ⟨w.heap.size, 0, none⟩) 3 3] 22)).cell? ⟨w1.heap.size, 0, none⟩ = some (.slice (some ⟨w.heap.size, 0, none⟩) 3 3) := by
    rw [cell_of_row _ _ _ _ _ _ (heap_alloc_new w1 _)]; rfl
  have hpa := partsAt_one (c := 1) hbb hcc
  refine (sum_any [[97, 98, 99]] _ _ hpa (tab_below HT.out hb0) (by decide)).mono ?_
  rintro e w2 ⟨g2, rfl, hg2, hr2, hb2⟩
  have hcs := conv_row 32 (sum_length [97, 98, 99]) hr2
  have hb3 : Below w.heap.size w w2 := hb0.trans (hb2.mono hb0.size)
  have HB : Hid _ := hb3
  clear hb0 hbb hcc hpa hr2 hb2 hb3 hb1
  go_wp2_with fail
  go_ret
  exact ⟨abc_ends, HB.out⟩
end Go.Proofs.YtnbdadhdpplldaaDoor
