/- The contracts of a hash's Sum and of sha.Sum. -/
import Derived.Test.YtnbdadhdpplldabDoorWrite
import Derived.Test.YtnbdadhdpplldabDoorEnds
namespace Go.Proofs.YtnbdadhdpplldabDoor
open Go.RowKit
theorem bytesAt_row {w : World} {g c : Nat} {l : List Nat} (hs : ∀ x ∈ l, x < 256) (hc : l.length ≤ c) (h : w.heap[g]? = some (.cells (arr .u8 l) 5 (0, 0))) : BytesAt w (.slice (some ⟨g, 0, none⟩) l.length c) l :=
  ⟨hs, .inr ⟨g, 0, c, rfl, hc, rangeAt_of_row h⟩⟩
theorem hashAt_below {w w' : World} {g : Nat} {m : List Nat} (h : HashAt w g m) (hb : w'.heap[g]? = w.heap[g]?) : HashAt w' g m :=
  let ⟨st, blk, h1, h2⟩ := h
  ⟨st, blk, h1, hb.trans h2⟩
theorem tab_below {w w' : World} (hT : Tab w) (hb : Below w.heap.size w w') : Tab w' := fun i hi => by
  have h1 := hT i hi
  rw [← h1]
  exact hb.cell (World.block_lt_of_cell? w ⟨0, i, none⟩ h1)
theorem tab_pos {w : World} (hT : Tab w) : 0 < w.heap.size := World.block_lt_of_cell? w ⟨0, 0, none⟩ (hT 0 (by decide))
theorem below_grown {B : Nat} {a w w' : World} {g : Nat} (h : Below B a w) (hg : w.grownBy w' (some g)) (hB : B ≤ w.heap.size) (hgB : B ≤ g) : Below B a w' :=
  h.grown hg hB (fun k hk => by cases hk; exact hgB)
def zero73 : Array Value := (hashV (List.replicate 8 0) (List.replicate 64 0) 0).toArray
theorem zero73_run (w : World) : (zeroValue 57).run Tryd.prog w = .ok (.agg zero73) w := by kernel_rfl
theorem hashV_one (st blk : List Nat) (n : Nat) : (hashV st blk n).toArray.all (·.oneCell') = true := all_oneCell_toArray (fun v hv => by
  unfold hashV at hv
  simp only [List.mem_append, List.mem_singleton] at hv
  rcases hv with h | h | h
  · obtain ⟨n, _, rfl⟩ := List.mem_map.1 h; rfl
  · obtain ⟨n, _, rfl⟩ := List.mem_map.1 h; rfl
  · subst h; rfl)
set_option maxHeartbeats 400000 in
theorem hsum_any (g : Nat) (m : List Nat) (w : World) (hh : HashAt w g m) (hT : Tab w) (hn : m.length < 576460752303423488) :
    Calls Tryd.prog 23 #[.pointer (some ⟨g, 0, none⟩)] w fun e w' => ∃ b, e = .returned (.slice (some ⟨b, 0, none⟩) 32 32) ∧ w.heap.size ≤ b ∧ w'.heap[b]? = some (.cells (arr .u8 (Sp.sum m)) 5 (0, 0)) ∧ Below w.heap.size w w' := by
  have hh' := hh
  obtain ⟨st, blk, hi, hheap⟩ := hh'
  have hst := isHash_st hi
  have hbl := hi.len
  have c72 := cell72 hst hbl hheap
  have hlt : g < w.heap.size := (Array.getElem?_eq_some_iff.1 hheap).1
  have HH : Hid _ := hheap
  have HA : Hid _ := hh
  have HI : Hid _ := hi
  clear hheap hh hi
  have hz := zero73_run
  have e73 : (hashV st blk m.length).toArray.size = 73 := by simp [hashV_length hst hbl]
  have E73 : Hid _ := e73
  clear e73
  go_enter Tryd.func23, Tryd.ntmps23
  go_wp2_with (with_reducible (refine stop_load 57 ?_))
  refine Stop.go ?_
  with_reducible refine law_load g 0 (hashV st blk m.length) _ ?lx (rangeAt_of_row HH.out) Tryd.underlying57 rfl ?li ?lk
  case lx => exact rfl
  case li => rw [hashV_length hst hbl]; exact info57
  go_wp2_with (with_reducible (refine stop_store 57 ?_))
  refine Stop.go ?_
  with_reducible refine law_store w.heap.size 0 (hashV st blk m.length).toArray ?sx ?sy ?st ?si ?s1 ?sk
  case sx => exact rfl
  case sy => exact rfl
  case st => rw [E73.out]; exact there_of_row (heap_alloc_new w _) 73 (Nat.le_of_eq (by kernel_rfl))
  case si => rw [E73.out]; exact info57
  case s1 => exact hashV_one _ _ _
  have h1 := heap_setCells w.heap.size 57 (hashV st blk m.length) 0 (w.alloc (.cells zero73 57)) (hashV (List.replicate 8 0) (List.replicate 64 0) 0) (heap_alloc_new w _) (by rw [hashV_length hst hbl, hashV_length (by simp) (by simp)]; omega)
  rw [List.take_zero, List.nil_append, List.drop_eq_nil_of_le (by rw [hashV_length hst hbl, hashV_length (by simp) (by simp)]; omega), List.append_nil] at h1
  have hb1 : Below w.heap.size w ((w.alloc (.cells zero73 57)).setCells w.heap.size 0 (hashV st blk m.length)) := Below.setCells _ _ _ ((Below.refl _ _).alloc (Nat.le_refl _) _) (Nat.le_refl _)
  have hlt1 := (Array.getElem?_eq_some_iff.1 h1).1
  have c72b : ((w.alloc (.cells zero73 57)).setCells w.heap.size 0 (hashV st blk m.length)).cell? ⟨g, 72, none⟩ = some (.int .u64 (m.length : Int)) := by rw [hb1.cell hlt]; exact c72
  simp only
  generalize (w.alloc (.cells zero73 57)).setCells w.heap.size 0 (hashV st blk m.length) = w1 at *
  have hA1 : HashAt w1 w.heap.size m := ⟨st, blk, HI.out, h1⟩
  clear h1 hz c72
  go_wp2_with fail
  refine (ending_any m.length _ (by omega)).mono ?_
  rintro e w2 ⟨g2, rfl, hg2, hr2, hb2⟩
  have hA2 := hashAt_below hA1 (hb2.block _ hlt1)
  have hb2' : Below w.heap.size w w2 := hb1.trans (hb2.mono hb1.size)
  have HA2 : Hid _ := hA2
  have HB2 : Hid _ := hb2'
  have HR2 : Hid _ := hr2
  have hpos := tab_pos hT
  have hls : w1.heap.size ≤ w2.heap.size := hb2.size
  have hle : (Sp.ending m.length).length ≤ 72 := by
    have := Sp.marked_pos m.length
    unfold Sp.ending
    rw [Sp.endingTo_length]
    omega
  have HT : Hid _ := hT
  clear hA1 hA2 hb1 hb2 hb2' hr2 hT
  go_wp2_with fail
  refine (write_any w.heap.size m (Sp.ending m.length) _ _ HA2.out (bytesAt_row (ending_small _) (Nat.le_refl _) HR2.out) (fun _ e => by have := Option.some.inj e; simp at this; omega) (tab_below HT.out HB2.out) (by omega) (by omega)).mono ?_
  rintro e w3 ⟨rfl, ⟨st3, blk3, hi3, hh3⟩, hg3⟩
  have hb3 : Below w.heap.size w w3 := below_grown HB2.out hg3 HB2.out.size (Nat.le_refl _)
  have hst3 := isHash_st hi3
  have hs3 : Sp.bytesTo st3 8 = Sp.sum m := by
    rw [hi3.st]
    unfold Sp.sum
    rw [List.length_append]
  have HI3 : Hid _ := hs3
  have HH3 : Hid _ := hh3
  have HB3 : Hid _ := hb3
  clear hi3 hh3 hb3 hs3 hg3
  go_wp2_with (with_reducible (refine stop_load 54 ?_))
  refine Stop.go ?_
  with_reducible refine law_load_arr w.heap.size 0 .u32 st3 _ ?mx (hash_range0 HH3.out) Tryd.underlying54 rfl ?mi ?mk
  case mx => exact rfl
  case mi => rw [hst3]; exact info54
  go_wp2_with fail
  refine (sumBytes_any st3 _ hst3).mono ?_
  rintro e w4 ⟨g4, rfl, hg4, hr4, hb4⟩
  go_wp2_with fail
  go_ret
  have hsz := HB3.out.size
  refine ⟨g4, rfl, by omega, ?_, HB3.out.trans (hb4.mono hsz)⟩
  rw [hr4, HI3.out]
theorem bytesAt_below {w w' : World} {v : Value} {l : List Nat} (h : BytesAt w v l) (hb : Below w.heap.size w w') : BytesAt w' v l := by
  obtain ⟨hs, h | ⟨b, o, c, rfl, hc, hr⟩⟩ := h
  · exact ⟨hs, .inl h⟩
  · exact ⟨hs, .inr ⟨b, o, c, rfl, hc, rangeAt_below hb hr⟩⟩
theorem bytesAt_block {w : World} {v : Value} {l : List Nat} (h : BytesAt w v l) (hl : l ≠ []) (g : Nat) (hg : w.heap.size ≤ g) : v.ownBlock ≠ some g := by
  obtain ⟨hs, ⟨p, c, rfl, rfl⟩ | ⟨b, o, c, rfl, hc, hr⟩⟩ := h
  · exact absurd rfl hl
  · intro e
    have e1 : b = g := Option.some.inj e
    cases l with
    | nil => exact absurd rfl hl
    | cons x y =>
      have := World.block_lt_of_cell? w _ (hr 0 (.int .u8 (x : Int)) rfl)
      simp at this
      omega
/-- The parts that a slice of slices stands for. -/
def PartsAt (w : World) (v : Value) (ls : List (List Nat)) : Prop :=
  (∃ p c, v = .slice p 0 c ∧ ls = []) ∨ ∃ b o c vs, v = .slice (some ⟨b, o, none⟩) ls.length c ∧ ls.length ≤ 9223372036854775807 ∧ w.rangeAt b o vs ∧ ∀ (i : Nat) (l : List Nat), ls[i]? = some l → ∃ u, vs[i]? = some u ∧ BytesAt w u l
theorem flatten_take (ls : List (List Nat)) (k : Nat) (l : List Nat) (h : ls[k]? = some l) : (ls.take (k + 1)).flatten = (ls.take k).flatten ++ l := by
  rw [List.take_add_one, h]
  simp
theorem flatten_le (ls : List (List Nat)) (k : Nat) : (ls.take k).flatten.length ≤ ls.flatten.length := by
  have : ls.flatten = (ls.take k).flatten ++ (ls.drop k).flatten := by rw [← List.flatten_append, List.take_append_drop]
  rw [this]
  simp
set_option maxHeartbeats 400000 in
theorem sum_any (ls : List (List Nat)) (v : Value) (w : World) (hv : PartsAt w v ls) (hT : Tab w) (hn : ls.flatten.length < 576460752303423488) :
    Calls Tryd.prog 22 #[v] w fun e w' => ∃ b, e = .returned (.slice (some ⟨b, 0, none⟩) 32 32) ∧ w.heap.size ≤ b ∧ w'.heap[b]? = some (.cells (arr .u8 (Sp.sum ls.flatten)) 5 (0, 0)) ∧ Below w.heap.size w w' := by
  have HT : Hid _ := hT
  have hpos := tab_pos hT
  clear hT
  rcases hv with ⟨p, c, rfl, rfl⟩ | ⟨b, o, c, vs, rfl, hmax, hr, hel⟩
  · go_enter Tryd.func22, Tryd.ntmps22
    go_wp2_with (first | (go_at_call 19; refine (new_any _).mono ?_; rintro e w' ⟨rfl, rfl⟩))
    go_loopw [9] (fun i wr => i = .int .i64 0 ∧ Hid (HashAt wr w.heap.size []) ∧ Hid (Below w.heap.size w wr)) (fun _ _ => 0)
    case atStart => exact ⟨rfl, hashAt_new w, (Below.refl _ _).alloc (Nat.le_refl _) _⟩
    case round =>
      obtain ⟨rfl, HA, HB⟩ := hrel
      go_wp2_with fail
      refine (hsum_any w.heap.size [] _ HA.out (tab_below HT.out HB.out) (by simp)).mono ?_
      rintro e w4 ⟨g4, rfl, hg4, hr4, hb4⟩
      go_wp2_with fail
      go_ret
      have hsz := HB.out.size
      exact ⟨g4, rfl, by omega, hr4, HB.out.trans (hb4.mono hsz)⟩
  · have HR : Hid _ := hr
    have HE : Hid _ := hel
    clear hr hel
    go_enter Tryd.func22, Tryd.ntmps22
    go_wp2_with (first | (go_at_call 19; refine (new_any _).mono ?_; rintro e w' ⟨rfl, rfl⟩))
    go_loopw [9] (fun i wr => ∃ k : Nat, k ≤ ls.length ∧ i = .int .i64 k ∧ Hid (HashAt wr w.heap.size (ls.take k).flatten) ∧ Hid (Below w.heap.size w wr)) (fun i _ => ls.length - (intOf i).toNat)
    case atStart => exact ⟨0, by omega, rfl, hashAt_new w, (Below.refl _ _).alloc (Nat.le_refl _) _⟩
    case round =>
      obtain ⟨k, hk, rfl, HA, HB⟩ := hrel
      by_cases hlt : k < ls.length
      · obtain ⟨l, hl⟩ : ∃ l, ls[k]? = some l := ⟨_, List.getElem?_eq_getElem hlt⟩
        obtain ⟨u, hu, hbu⟩ := HE.out k l hl
        have hcell := HR.out k u hu
        have hcell' : wr.cell? ⟨b, o + k, none⟩ = some u := by
          rw [HB.out.cell (World.block_lt_of_cell? w _ hcell)]; exact hcell
        have hfl := flatten_take ls k l hl
        have hle := flatten_le ls (k + 1)
        rw [hfl, List.length_append] at hle
        have HF : Hid _ := hfl
        have HBU : Hid _ := hbu
        clear hcell hfl hbu hu hl
        go_wp2_with fail
        refine (write_any w.heap.size _ l u _ HA.out (bytesAt_below HBU.out HB.out) (fun hl => bytesAt_block HBU.out hl _ (Nat.le_refl _)) (tab_below HT.out HB.out) (by omega) (by omega)).mono ?_
        rintro e w3 ⟨rfl, hA3, hg3⟩
        have hb3 : Below w.heap.size w w3 := below_grown HB.out hg3 HB.out.size (Nat.le_refl _)
        have HA3 : Hid _ := hA3
        have HB3 : Hid _ := hb3
        clear hA3 hb3 hg3
        go_wp2_with fail
        go_roundw
        case rel => exact ⟨k + 1, by omega, by go_num, by rw [HF.out]; exact HA3.out, HB3.out⟩
        case measure => simp [intOf]; omega
      · obtain rfl : k = ls.length := by omega
        have hA := HA.out
        rw [List.take_of_length_le (Nat.le_refl _)] at hA
        have HA' : Hid _ := hA
        clear hA
        go_wp2_with fail
        refine (hsum_any w.heap.size ls.flatten _ HA'.out (tab_below HT.out HB.out) hn).mono ?_
        rintro e w4 ⟨g4, rfl, hg4, hr4, hb4⟩
        go_wp2_with fail
        go_ret
        have hsz := HB.out.size
        exact ⟨g4, rfl, by omega, hr4, HB.out.trans (hb4.mono hsz)⟩
end Go.Proofs.YtnbdadhdpplldabDoor
