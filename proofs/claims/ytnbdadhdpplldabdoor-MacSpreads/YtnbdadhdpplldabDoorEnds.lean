/- The contracts of sha.sumBytes and sha.ending. -/
import Derived.Test.YtnbdadhdpplldabDoorLeaves
import Derived.Deep.DeepAppendRoom
namespace Go.Proofs.YtnbdadhdpplldabDoor
open Go.RowKit
set_option maxHeartbeats 400000 in
theorem sumBytes_any (s : List Nat) (w : World) (hl : s.length = 8) :
    Calls Tryd.prog 31 #[.agg (arr .u32 s)] w fun e w' => ∃ g, e = .returned (.slice (some ⟨g, 0, none⟩) 32 32) ∧ w.heap.size ≤ g ∧ w'.heap[g]? = some (.cells (arr .u8 (Sp.bytesTo s 8)) 5 (0, 0)) ∧ Below w.heap.size w w' := by
  have hix := fun k hk w => run_index_arr (P := Tryd.prog) 54 52 8 .u32 s k under54 Tryd.underlying52 info52 hl hk w
  have HI := (show Hid _ from hix)
  clear hix
  have hmk : ∀ w, (Instr.makeSlice 22 (.int .i64 0) (.int .i64 32)).run Tryd.prog w = .ok (.slice (some ⟨w.heap.size, 0, none⟩) 0 32) (w.alloc (.cells (arr .u8 (List.replicate 32 0)) 5)) := fun _ => by kernel_rfl
  go_enter Tryd.func31, Tryd.ntmps31
  go_wp2_with (with_reducible (refine stop_load 54 ?_))
  refine Stop.go ?_
  with_reducible refine law_load_arr w.heap.size 0 .u32 s (.array 8 52) ?lx ?lc under54 rfl ?li ?lk
  case lx => exact rfl
  case lc => exact rangeAt_of_row (heap_alloc2_old w _ _)
  case li => rw [hl]; exact info54
  go_wp2
  go_loopw [3, 8] (fun sl i wr => ∃ k : Nat, k ≤ 8 ∧ i = .int .i64 k ∧ sl = .slice (some ⟨w.heap.size + 1, 0, none⟩) (4 * k) 32 ∧ wr.ownsRow w.heap.size 5 1 (.slice (some ⟨w.heap.size + 1, 0, none⟩) (4 * k) 32) (4 * k) (ints .u8 (Sp.bytesTo s k)) ∧ Below w.heap.size w wr) (fun _ i _ => 8 - (intOf i).toNat)
  case atStart =>
    refine ⟨0, by omega, rfl, rfl, ⟨rfl, .inr ⟨w.heap.size + 1, 32, _, rfl, by omega, heap_alloc2_new w _ _, by omega, by decide, rfl, rfl⟩⟩, ?_⟩
    exact ((Below.refl _ _).alloc (Nat.le_refl _) _).alloc (by simp) _
  case round =>
    obtain ⟨k, hk, rfl, rfl, hown, hb⟩ := hrel
    by_cases hlt : k < 8
    · have hix := HI.out k hlt
      obtain ⟨i5, hi5, hs5, _, _⟩ := info5e
      have H5 : Hid _ := hi5
      have HS5 : Hid _ := hs5
      clear hi5 hs5
      have HO : Hid _ := hown
      clear hown
      go_wp2_with (with_reducible (refine stop_builtin .append ?_))
      refine Stop.go ?_
      refine wpList_append_own_spare _ rfl (.tmp 11) (.tmp 23) 22 rfl w.heap.size 5 i5 1 Tryd.underlying22 H5.out HS5.out (w.heap.size + 1) (4 * k) 32 (ints .u8 (Sp.bytesTo s k)) rfl (ownsRow_alloc HO.out _) ⟨wr.heap.size, 0, none⟩ 4 4 (ints .u8 (Sp.bytes4 (Sp.nth s k))) rfl rfl (cells_new wr _ 5) ?_ (by omega) ?_
      · intro u hu
        obtain ⟨q, _, rfl⟩ := List.mem_map.1 hu
        rfl
      · intro w1 hown1 hg1
        rw [← ints_append, ← Sp.bytesTo_succ s k (by omega), show 4 * k + 4 = 4 * (k + 1) from by omega] at hown1
        have hb1 : Below w.heap.size w w1 := (hb.alloc hb.size _).grown hg1 (by have := hb.size; simp; omega) (fun q hq => by cases hq; omega)
        have HO1 : Hid _ := hown1
        clear hown1 hg1
        go_wp2
        go_roundw
        case rel => exact ⟨k + 1, by omega, by go_num, by rw [show 4 * (k + 1) = 4 * k + 4 from by omega], HO1.out, hb1⟩
        case measure => simp [intOf]; omega
    · obtain rfl : k = 8 := by omega
      go_wp2
      go_ret
      obtain ⟨h1, h2 | ⟨g, cap, cur, hv, hg, hh, _, _, hcs, htk⟩⟩ := hown
      · cases h2.1
      · cases hv
        refine ⟨w.heap.size + 1, rfl, by omega, ?_, hb⟩
        rw [hh]
        have e : cur = arr .u8 (Sp.bytesTo s 8) := by
          apply Array.ext'
          rw [← List.take_of_length_le (l := cur.toList) (i := 4 * 8 * 1) (by simp [hcs]), htk]
          rfl
        rw [e]
theorem ending_small (n : Nat) : ∀ x ∈ Sp.ending n, x < 256 := fun x hx => by
  simp only [Sp.ending, Sp.endingTo, List.cons_append, List.mem_cons, List.mem_append, List.mem_replicate] at hx
  rcases hx with rfl | ⟨_, rfl⟩ | h
  · decide
  · decide
  · obtain ⟨j, _, rfl⟩ := List.mem_map.1 h
    exact Nat.mod_lt _ (by decide)
theorem make_bytes (l c : Nat) (k : IntKind) (hlc : l ≤ c) (hc : c ≤ 281474976710656) (w : World) :
    (Instr.makeSlice 22 (.int k (l : Int)) (.int k (c : Int))).run Tryd.prog w = .ok (.slice (some ⟨w.heap.size, 0, none⟩) l c) (w.alloc (.cells (arr .u8 (List.replicate c 0)) 5)) := by
  obtain ⟨i, hi, hs, hb, hz⟩ := info5e
  have := run_make (P := Tryd.prog) w 22 5 i _ Tryd.underlying22 hi hz k k (l : Int) (c : Int) (by omega) (by omega) (by rw [hb]; omega) (by omega)
  rw [this, hs, ← made_zeros]
  simp [Value.cells]
theorem zeros_cell (w : World) (c : Nat) (h : 0 < c) : (w.alloc (.cells (arr .u8 (List.replicate c 0)) 5)).cell? ⟨w.heap.size, 0, none⟩ = some (.int .u8 0) := by
  rw [cell_of_row _ _ _ _ _ _ (heap_alloc_new w _), arr_get _ _ _ (by simpa using h)]
  simp [Sp.nth, h]
theorem start_row (m c : Nat) (hm : 1 ≤ m) : (((arr .u8 (List.replicate (m + c) 0)).setIfInBounds 0 (.int .u8 128)).toList.take m) = ints .u8 (128 :: List.replicate (m - 1) 0) := by
  obtain ⟨q, rfl⟩ : ∃ q, m = q + 1 := ⟨m - 1, by omega⟩
  rw [show q + 1 + c = (q + c) + 1 from by omega, List.replicate_succ]
  simp [arr, ints, List.take_replicate]
set_option maxHeartbeats 400000 in
theorem ending_any (n : Nat) (w : World) (hn : n < 1152921504606846976) :
    Calls Tryd.prog 30 #[.int .u64 n] w fun e w' => ∃ g, e = .returned (.slice (some ⟨g, 0, none⟩) (Sp.ending n).length (Sp.ending n).length) ∧ w.heap.size ≤ g ∧ w'.heap[g]? = some (.cells (arr .u8 (Sp.ending n)) 5 (0, 0)) ∧ Below w.heap.size w w' := by
  obtain ⟨m, hm⟩ : ∃ m, Sp.marked n = m := ⟨_, rfl⟩
  have hm1 := Sp.marked_pos n
  have e1 : (64 : Int) - ((n : Int) + 8) % 64 = (m : Int) := by unfold Sp.marked at hm; omega
  rw [hm] at hm1
  obtain ⟨hm1, hm2⟩ := hm1
  have HM : Hid (Sp.marked n = m) := hm
  clear hm
  have hmk := fun w => make_bytes m (m + 8) .u64 (by omega) (by omega) w
  simp only [Int.natCast_add, Int.cast_ofNat_Int] at hmk
  have hz := fun w => zeros_cell w (m + 8) (by omega)
  have hm0 : (0 : Int) < (m : Int) := by omega
  go_enter Tryd.func30, Tryd.ntmps30
  go_wp2
  go_loopw [4, 6] (fun sl i wr => ∃ k : Nat, k ≤ 8 ∧ i = .int .i64 (56 - 8 * (k : Int)) ∧ sl = .slice (some ⟨w.heap.size, 0, none⟩) (m + k) (m + 8) ∧ wr.ownsRow w.heap.size 5 1 (.slice (some ⟨w.heap.size, 0, none⟩) (m + k) (m + 8)) (m + k) (ints .u8 (Sp.endingTo n k)) ∧ Below w.heap.size w wr) (fun _ i _ => (64 + intOf i).toNat)
  case atStart =>
    refine ⟨0, by omega, rfl, rfl, ?_, ?_⟩
    · refine ⟨by rw [ints_length, Sp.endingTo_length, HM.out]; omega, .inr ⟨w.heap.size, m + 8, _, rfl, Nat.le_refl _, heap_alloc_new w _, by omega, by unfold maxLen; omega, by simp [arr_size], ?_⟩⟩
      rw [Nat.mul_one, Nat.add_zero, start_row m 8 hm1]
      unfold Sp.endingTo
      rw [HM.out]
      simp [Sp.be8To]
    · exact (Below.refl _ _).alloc (Nat.le_refl _) _
  case round =>
    obtain ⟨k, hk, rfl, rfl, hown, hb⟩ := hrel
    by_cases hlt : k < 8
    · obtain ⟨i5, hi5, hs5, _, _⟩ := info5e
      have H5 : Hid _ := hi5
      have HS5 : Hid _ := hs5
      clear hi5 hs5
      have HO : Hid _ := hown
      clear hown
      have q0 : (0 : Int) ≤ 56 - 8 * (k : Int) := by omega
      have q1 : (8 : Int) * (k : Int) ≤ 56 := by omega
      go_wp2_with (with_reducible (refine stop_builtin .append ?_))
      refine Stop.go ?_
      have ev : [Value.int IntKind.u8 ((n : Int) * 8 / 2 ^ (56 - 8 * k) % 256)] = ints .u8 [n * 8 / 2 ^ (56 - 8 * k) % 256] := by simp [ints]
      rw [show #[Value.int IntKind.u8 ((n : Int) * 8 / 2 ^ (56 - 8 * k) % 256)] = (ints .u8 [n * 8 / 2 ^ (56 - 8 * k) % 256]).toArray from by rw [← ev]]
      refine wpList_append_own_spare _ rfl (.tmp 23) (.tmp 28) 22 rfl w.heap.size 5 i5 1 Tryd.underlying22 H5.out HS5.out w.heap.size (m + k) (m + 8) (ints .u8 (Sp.endingTo n k)) rfl (ownsRow_alloc HO.out _) ⟨wr.heap.size, 0, none⟩ 1 1 (ints .u8 [n * 8 / 2 ^ (56 - 8 * k) % 256]) rfl rfl (cells_new wr _ 5) ?_ (by omega) ?_
      · intro u hu
        obtain ⟨q, _, rfl⟩ := List.mem_map.1 hu
        rfl
      · intro w1 hown1 hg1
        rw [← ints_append, ← Sp.endingTo_succ] at hown1
        have hb1 : Below w.heap.size w w1 := (hb.alloc hb.size _).grown hg1 (by have := hb.size; simp; omega) (fun q hq => by cases hq; omega)
        have HO1 : Hid _ := hown1
        clear hown1 hg1 ev
        go_wp2
        go_roundw
        case rel => exact ⟨k + 1, by omega, by go_num, rfl, HO1.out, hb1⟩
        case measure => simp [intOf]; omega
    · obtain rfl : k = 8 := by omega
      go_wp2
      go_ret
      obtain ⟨h1, h2 | ⟨g, cap, cur, hv, hg, hh, _, _, hcs, htk⟩⟩ := hown
      · cases h2.1
      · cases hv
        have hlen : (Sp.ending n).length = m + 8 := by unfold Sp.ending; rw [Sp.endingTo_length, HM.out]
        rw [hlen]
        refine ⟨w.heap.size, rfl, Nat.le_refl _, ?_, hb⟩
        rw [hh]
        have e : cur = arr .u8 (Sp.ending n) := by
          apply Array.ext'
          rw [← List.take_of_length_le (l := cur.toList) (i := (m + 8) * 1) (by simp [hcs]), htk]
          rfl
        rw [e]
end Go.Proofs.YtnbdadhdpplldabDoor
