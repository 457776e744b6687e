/- The contract of the statements' anchor. -/
import Derived.Test.YtedbfhbmpeogdaaB13Pd
namespace Go.Proofs.Ytedbfhbmpeogdaa.C8
open Go.RowKit
theorem heap_freeze_same (w : World) (g o n : Nat) (cs : Array Value) (t : TypeId) (fr : Nat × Nat) (h : w.heap[g]? = some (.cells cs t fr)) : ∃ fr', (w.freeze ⟨g, o, none⟩ n).heap[g]? = some (.cells cs t fr') := by
  unfold World.freeze
  split
  · exact ⟨fr, h⟩
  · obtain ⟨lo, hi⟩ := fr
    apply Exists.intro
    simp only [Array.getElem?_modify, if_true, h, Option.map_some]
    rfl
theorem heap_freeze_other (w : World) (g o n k : Nat) (h : k ≠ g) : (w.freeze ⟨g, o, none⟩ n).heap[k]? = w.heap[k]? := by
  unfold World.freeze
  split
  · rfl
  · simp only [Array.getElem?_modify]
    rw [if_neg (fun e => h e.symm)]
theorem size_freeze (w : World) (a : Addr) (n : Nat) : (w.freeze a n).heap.size = w.heap.size := by
  unfold World.freeze
  split <;> simp
theorem freeze_keeps (w : World) (a : Addr) (n : Nat) : (w.freeze a n).os = w.os ∧ (w.freeze a n).tape = w.tape ∧ (w.freeze a n).output = w.output := by
  unfold World.freeze
  split <;> exact ⟨rfl, rfl, rfl⟩
theorem conv_lit (w : World) (cs : Array Value) : ∃ w1, (convert 22 22 (.slice (some ⟨w.heap.size, 0, none⟩) cs.size cs.size)).run Try.prog (w.alloc (.cells cs 5)) = .ok (.slice (some ⟨w.heap.size, 0, none⟩) cs.size cs.size) w1 ∧
    (∃ fr, w1.heap[w.heap.size]? = some (.cells cs 5 fr)) ∧ Below w.heap.size w w1 ∧ w1.heap.size = w.heap.size + 1 := by
  have h0 := heap_alloc_new w (.cells cs 5)
  have hsh : (w.alloc (.cells cs 5)).shape? w.heap.size = some (5, cs.size) := by
    unfold World.shape?
    rw [h0]
  refine ⟨(w.alloc (.cells cs 5)).freeze ⟨w.heap.size, cs.size, none⟩ 1, ?_, heap_freeze_same _ _ _ _ _ _ _ h0, ?_, ?_⟩
  · simp [convert, run_underlying Try.underlying22, run_underlying Try.underlying5, markStringish, hsh]
  · obtain ⟨e1, e2, e3⟩ := freeze_keeps (w.alloc (.cells cs 5)) ⟨w.heap.size, cs.size, none⟩ 1
    refine ⟨e1, e2, e3, by rw [size_freeze]; simp, fun k hk => ?_⟩
    rw [heap_freeze_other _ _ _ _ _ (by omega)]
    exact Below.heap_alloc w _ k hk
  · rw [size_freeze]; simp
set_option maxHeartbeats 2000000 in
theorem anchor_any (w : World) : Calls Try.prog 9 #[] w fun e w' => e = .returned (.bool true) ∧ Below w.heap.size w w' := by
  obtain ⟨w1, hcv, ⟨fr, hh⟩, hb1, hz1⟩ := conv_lit w #[.int .u8 120]
  have hcv' : (convert 22 22 (.slice (some ⟨w.heap.size, 0, none⟩) 1 1)).run Try.prog (w.alloc (.cells #[.int .u8 120] 5)) = .ok (.slice (some ⟨w.heap.size, 0, none⟩) 1 1) w1 := hcv
  have hx : Src w1 (.slice (some ⟨w.heap.size, 0, none⟩) 1 1) [120] := Src.row (fun y hy => by rw [List.mem_singleton.1 hy]; decide) (Nat.le_refl 1) (rangeAt_of_row (t := 5) (fr := fr) hh) rfl
  have HP : Hid (Calls Try.prog 10 #[.slice (some ⟨w.heap.size, 0, none⟩) 1 1] w1 fun e w' => ∃ g, e = .returned (.tuple #[.slice (some ⟨g, 0, none⟩) 64 64, .int .i64 0]) ∧ w'.cell? ⟨g, 1, none⟩ = some (.int .u8 1) ∧ w'.cell? ⟨g, 2, none⟩ = some (.int .u8 120) ∧ Hid (Below w.heap.size w w')) := by
    refine (Pad_ok (some ⟨w.heap.size, 0, none⟩) 1 1 _ hx rfl (by decide)).mono ?_
    rintro e w' ⟨rfl, ho, hb⟩
    refine ⟨_, rfl, own_at ho 1 (by decide), own_at ho 2 (by decide), ?_⟩
    exact hb1.trans (hb.mono hb1.size)
  clear hx hcv hh hb1 hz1
  go_enter Try.func9, Try.ntmps9
  go_wp2_with fail
  refine (Size_ok 62 w (by decide)).mono ?_
  rintro e w0 ⟨rfl, hw0⟩
  rw [hw0, show bsz 62 = 64 from rfl]
  clear hw0 w0
  go_wp2_with fail
  refine (Size_ok 63 w (by decide)).mono ?_
  rintro e w0 ⟨rfl, hw0⟩
  rw [hw0, show bsz 63 = 128 from rfl]
  clear hw0 w0
  go_wp2_with fail
  refine HP.out.mono ?_
  rintro e w2 ⟨g, rfl, c1, c2, HB⟩
  go_wp2_with fail
  go_ret
  exact ⟨rfl, HB.out⟩
end Go.Proofs.Ytedbfhbmpeogdaa.C8
