/- Bytes as a string, and literals of bytes. -/
import Derived.Test.YtncnckiknhhbjaaTag
namespace Go.Proofs.Ytncnckiknhhbjaa
open Go.RowKit
def strB (l : List Nat) : ByteArray := (l.map (fun (n : Nat) => (n : Int))).foldl (fun r n => r.push (UInt8.ofNat n.toNat)) ByteArray.empty
theorem run_conv (w : World) (b o c : Nat) (l : List Nat) (h : w.rangeAt b o (ints .u8 l)) : (convert 22 9 (.slice (some ⟨b, o, none⟩) l.length c)).run Try.prog w = .ok (.string (strB l)) w := by
  rw [run_convert_bytes_string w 22 9 5 _ _ _ Try.underlying22 Try.underlying5 Try.underlying9]
  have hl : (loadCells ⟨b, o, none⟩ (ints .u8 l).length).run Try.prog w = .ok (ints .u8 l).toArray w :=
    run_loadCells_list (P := Try.prog) w ⟨b, o, none⟩ (ints .u8 l) (fun j v hv => by rw [Addr.add_mid]; exact h j v hv)
  rw [ints_length] at hl
  have e : (ints .u8 l) = (l.map (fun (n : Nat) => (n : Int))).map (Value.int .u8) := by simp [ints]
  rw [e] at hl
  exact run_bytesToString w ⟨b, o, none⟩ l.length c _ hl
theorem conv_of {w : World} {b o : Nat} {l : List Nat} {n : Nat} (c : Nat) (hl : l.length = n) (h : w.rangeAt b o (ints .u8 l)) : (convert 22 9 (.slice (some ⟨b, o, none⟩) n c)).run Try.prog w = .ok (.string (strB l)) w := by
  subst hl
  exact run_conv w b o c l h
theorem strB_eq (l : List Nat) : ((strB l).toList == (strB l).toList) = true := by simp
theorem heap_freeze_same (w : World) (g o n : Nat) (cs : Array Value) (t : TypeId) (fr : Nat × Nat) (h : w.heap[g]? = some (.cells cs t fr)) : ∃ fr', (w.freeze ⟨g, o, none⟩ n).heap[g]? = some (.cells cs t fr') := by
  unfold World.freeze
  split
  · exact ⟨fr, h⟩
  · obtain ⟨lo, hi⟩ := fr
    apply Exists.intro
    simp only [Array.getElem?_modify, if_true, h, Option.map_some]
    rfl
theorem heap_freeze_other (w : World) (g o n k : Nat) (h : k ≠ g) : (w.freeze ⟨g, o, none⟩ n).heap[k]? = w.heap[k]? := by
  unfold World.freeze
  split
  · rfl
  · simp only [Array.getElem?_modify]
    rw [if_neg (fun e => h e.symm)]
theorem size_freeze (w : World) (a : Addr) (n : Nat) : (w.freeze a n).heap.size = w.heap.size := by
  unfold World.freeze
  split <;> simp
theorem freeze_keeps (w : World) (a : Addr) (n : Nat) : (w.freeze a n).os = w.os ∧ (w.freeze a n).tape = w.tape ∧ (w.freeze a n).output = w.output := by
  unfold World.freeze
  split <;> exact ⟨rfl, rfl, rfl⟩
theorem conv_lit (w : World) (cs : Array Value) : ∃ w1, (convert 22 22 (.slice (some ⟨w.heap.size, 0, none⟩) cs.size cs.size)).run Try.prog (w.alloc (.cells cs 5)) = .ok (.slice (some ⟨w.heap.size, 0, none⟩) cs.size cs.size) w1 ∧
    (∃ fr, w1.heap[w.heap.size]? = some (.cells cs 5 fr)) ∧ Below w.heap.size w w1 ∧ w1.heap.size = w.heap.size + 1 := by
  have h0 := heap_alloc_new w (.cells cs 5)
  have hsh : (w.alloc (.cells cs 5)).shape? w.heap.size = some (5, cs.size) := by
    unfold World.shape?
    rw [h0]
  refine ⟨(w.alloc (.cells cs 5)).freeze ⟨w.heap.size, cs.size, none⟩ 1, ?_, heap_freeze_same _ _ _ _ _ _ _ h0, ?_, ?_⟩
  · simp [convert, run_underlying Try.underlying22, run_underlying Try.underlying5, markStringish, hsh]
  · obtain ⟨e1, e2, e3⟩ := freeze_keeps (w.alloc (.cells cs 5)) ⟨w.heap.size, cs.size, none⟩ 1
    refine ⟨e1, e2, e3, by rw [size_freeze]; simp, fun k hk => ?_⟩
    rw [heap_freeze_other _ _ _ _ _ (by omega)]
    exact Below.heap_alloc w _ k hk
  · rw [size_freeze]; simp
end Go.Proofs.Ytncnckiknhhbjaa
