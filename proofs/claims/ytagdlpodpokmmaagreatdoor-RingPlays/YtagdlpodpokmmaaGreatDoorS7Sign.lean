/- The contract of signOf. -/
import Derived.Test.YtagdlpodpokmmaaGreatDoorS7Maps
import Derived.Deep.RegionLaw
namespace Go.Proofs.YtagdlpodpokmmaaGreatDoor.S7
open Go.RowKit
set_option maxHeartbeats 1000000 in
theorem signOf_old (s : Nat) (k t : List Nat) (p q m x i : Nat) (L : List Su.Thing) (w : World) (h : SuIs w p q m x L) (hs : s = 72 ∨ s = 77) (hk : ∀ y ∈ k, y < 256) (ht : ∀ y ∈ t, y < 256) (hl : L.length < 1000000) (hi : Su.pos s k t 0 L = some i) :
    Calls Tryz.prog 60 #[.pointer (some ⟨p, 0, none⟩), thingV s k t] w fun e w' => ∃ v, e = .returned v ∧ w'.ownsRow w.heap.size 5 1 v 32 (ints .u8 (Su.sign s i)) ∧ Below w.heap.size w w' := by
  have hw : Below w.heap.size w (w.alloc (.cells #[.int .u8 (s : Int), .string (strB k), .string (strB t)] 106)) := (Below.refl _ _).alloc (Nat.le_refl _) _
  have h0 := h.below hw
  obtain ⟨_, _, c2, _⟩ := cells3 h0.box
  obtain ⟨d0, d1⟩ := cells2 h0.signs
  have hlk : ∀ n, (Instr.lookup 58 (.map (some m)) (thingV s k t) true).run Tryz.prog ((w.alloc (.cells #[.int .u8 (s : Int), .string (strB k), .string (strB t)] 106)).drewN n) = .ok (.tuple #[.int .i64 (i : Int), .bool true]) ((w.alloc (.cells #[.int .u8 (s : Int), .string (strB k), .string (strB t)] 106)).drewN n) := fun n => by
    have h1 := h0.below (below_drewN n _ _)
    have h2 := lookup_nums h1.nums h1.fine hs hk ht
    rw [hi] at h2
    exact h2
  have hi2 : i ≤ 1000000 := by have := Su.pos_le 0 L i hi; omega
  have HSG : Hid (∀ w1 : World, Calls Tryz.prog 42 #[.int .u8 (s : Int), .int .i64 (i : Int)] w1 fun e w' => ∃ v, e = .returned v ∧ w'.ownsRow w1.heap.size 5 1 v 32 (ints .u8 (Su.sign s i)) ∧ Below w1.heap.size w1 w') := fun w1 => sign_any s i w1 (by omega)
  have HW : Hid (Below w.heap.size w (w.alloc (.cells #[.int .u8 (s : Int), .string (strB k), .string (strB t)] 106))) := hw
  unfold thingV at hlk ⊢
  clear h h0 hw hi hs hk ht
  go_enter Tryz.func60, Tryz.ntmps60
  go_wp2_with fail
  go_quiet (fail)
  go_wp2_with fail
  refine (HSG.out _).mono ?_
  rintro e w1 ⟨v, rfl, ho, hb⟩
  have HO : Hid (w1.ownsRow w.heap.size 5 1 v 32 (ints .u8 (Su.sign s i))) := by
    obtain ⟨h1, h2 | ⟨g, cap, cur, e1, e2, e3⟩⟩ := ho
    · exact ⟨h1, .inl h2⟩
    · refine ⟨h1, .inr ⟨g, cap, cur, e1, ?_, e3⟩⟩
      simp at e2
      omega
  have HB : Hid (Below w.heap.size w w1) := by
    refine HW.out.trans ((below_drewN nq _ _).trans (hb.mono ?_))
    simp
  clear ho hb
  go_wp2_with fail
  go_ret
  exact ⟨_, rfl, HO.out, HB.out⟩
set_option maxHeartbeats 1000000 in
theorem signOf_new (s : Nat) (k t : List Nat) (p q m x : Nat) (L : List Su.Thing) (w : World) (h : SuIs w p q m x L) (hs : s = 72 ∨ s = 77) (hk : ∀ y ∈ k, y < 256) (ht : ∀ y ∈ t, y < 256) (hl : L.length < 1000000) (hi : Su.pos s k t 0 L = none) :
    Calls Tryz.prog 60 #[.pointer (some ⟨p, 0, none⟩), thingV s k t] w fun e w' => ∃ v, e = .returned v ∧ w'.ownsRow w.heap.size 5 1 v 32 (ints .u8 (Su.sign s (L.length + 1))) ∧ SuIs w' p q m x (L ++ [(s, k, [], [], t)]) ∧ Only [p, m] w w' := by
  have hw : Below w.heap.size w (w.alloc (.cells #[.int .u8 (s : Int), .string (strB k), .string (strB t)] 106)) := (Below.refl _ _).alloc (Nat.le_refl _) _
  have h0 := h.below hw
  have hlt := h.lt
  obtain ⟨_, _, c2, _⟩ := cells3 h0.box
  obtain ⟨d0, d1⟩ := cells2 h0.signs
  have hlk : ∀ n, (Instr.lookup 58 (.map (some m)) (thingV s k t) true).run Tryz.prog ((w.alloc (.cells #[.int .u8 (s : Int), .string (strB k), .string (strB t)] 106)).drewN n) = .ok (.tuple #[.int .i64 0, .bool false]) ((w.alloc (.cells #[.int .u8 (s : Int), .string (strB k), .string (strB t)] 106)).drewN n) := fun n => by
    have h1 := h0.below (below_drewN n _ _)
    have h2 := lookup_nums h1.nums h1.fine hs hk ht
    rw [hi] at h2
    exact h2
  have HSG : Hid (∀ w1 : World, Calls Tryz.prog 42 #[.int .u8 (s : Int), .int .i64 ((L.length : Int) + 1)] w1 fun e w' => ∃ v, e = .returned v ∧ w'.ownsRow w1.heap.size 5 1 v 32 (ints .u8 (Su.sign s (L.length + 1))) ∧ Below w1.heap.size w1 w') := fun w1 => by
    have := sign_any s (L.length + 1) w1 (by omega)
    exact this
  have HW : Hid (Below w.heap.size w (w.alloc (.cells #[.int .u8 (s : Int), .string (strB k), .string (strB t)] 106))) := hw
  have HH : Hid (SuIs w p q m x L) := h
  have HI : Hid (Su.pos s k t 0 L = none) := hi
  have HS : Hid (s = 72 ∨ s = 77) := hs
  have HK : Hid (∀ y ∈ k, y < 256) := hk
  have HT : Hid (∀ y ∈ t, y < 256) := ht
  have HLL : Hid (L.length < 1000000) := hl
  have HLT : Hid (p < w.heap.size ∧ q < w.heap.size ∧ m < w.heap.size ∧ x < w.heap.size) := hlt
  unfold thingV at hlk ⊢
  clear h h0 hw hi hs hk ht hlt hl
  go_enter Tryz.func60, Tryz.ntmps60
  go_wp2_with fail
  go_quiet (fail)
  go_wp2_with fail
  clear c2 d0 d1 hlk
  have hB1 : Below w.heap.size w ((w.alloc (.cells #[.int .u8 (s : Int), .string (strB k), .string (strB t)] 106)).drewN nq) := HW.out.trans (below_drewN nq _ _)
  have hT1 : ((w.alloc (.cells #[.int .u8 (s : Int), .string (strB k), .string (strB t)] 106)).drewN nq).heap[w.heap.size]? = some (.cells #[.int .u8 (s : Int), .string (strB k), .string (strB t)] 106 (0, 0)) := heap_alloc_new w _
  generalize (w.alloc (.cells #[.int .u8 (s : Int), .string (strB k), .string (strB t)] 106)).drewN nq = w1 at *
  have h1 := HH.out.below hB1
  refine (next_any p L.length _ _ w1 h1.box (by have := HLL.out; omega)).mono ?_
  rintro e w2 ⟨rfl, hw2⟩
  have h2 : Only [p, m] w w2 := by rw [hw2]; exact (Only.of_below hB1 _).trans (Only.setCell _ _ _ (by simp))
  have hp2 : w2.heap[p]? = some (.cells #[.slice none 0 0, .int .i64 ((L.length : Int) + 1), .pointer (some ⟨q, 0, none⟩)] 63 (0, 0)) := by
    rw [hw2]; exact heap_setCell_same w1 p 1 _ 63 _ h1.box
  have ho2 : ∀ b, b ≠ p → w2.heap[b]? = w1.heap[b]? := fun b hb => by rw [hw2]; exact Below.heap_setCell _ _ _ _ (fun e => hb e)
  have hq2 : w2.heap[q]? = some (.cells #[.map (some m), .map (some x)] 61 (0, 0)) := (ho2 q (Ne.symm HH.out.ne.1)).trans h1.signs
  have hm2 : MapIs w2 m (nums 0 L) := h1.nums.kept (ho2 m (Ne.symm HH.out.ne.2.1))
  have hx2 : MapIs w2 x (boxes 0 L) := h1.boxes.kept (ho2 x (Ne.symm HH.out.ne.2.2.1))
  have ht2 : w2.heap[w.heap.size]? = some (.cells #[.int .u8 (s : Int), .string (strB k), .string (strB t)] 106 (0, 0)) := (ho2 _ (by have := HLT.out; omega)).trans hT1
  clear hw2 h1 hB1 hT1 ho2
  obtain ⟨_, _, c2, _⟩ := cells3 hp2
  obtain ⟨d0, d1⟩ := cells2 hq2
  obtain ⟨t0, t1, t2, _⟩ := cells3 ht2
  obtain ⟨w3, hput, hm3, hg3⟩ := put_nums (w := w2.drew) (val := .int .i64 ((L.length : Int) + 1)) (show MapIs w2.drew m (nums 0 L) from hm2) HH.out.fine HS.out HK.out HT.out HI.out
  unfold thingV at hput
  have ho3 : ∀ b, b < w2.heap.size → b ≠ m → w3.heap[b]? = w2.heap[b]? := fun b hb hn => hg3.block b hb (fun e => hn (Option.some.inj e))
  have hlt2 : p < w2.heap.size ∧ q < w2.heap.size ∧ m < w2.heap.size ∧ x < w2.heap.size ∧ w.heap.size < w2.heap.size := ⟨(Array.getElem?_eq_some_iff.1 hp2).1, (Array.getElem?_eq_some_iff.1 hq2).1, hm2.lt, hx2.lt, (Array.getElem?_eq_some_iff.1 ht2).1⟩
  have HSU : Hid (SuIs w3 p q m x (L ++ [(s, k, [], [], t)])) := by
    have hne := HH.out.ne
    refine ⟨?_, (ho3 q hlt2.2.1 hne.2.2.2.1).trans hq2, ?_, ?_, hne, ?_⟩
    · rw [ho3 p hlt2.1 hne.2.1, hp2]
      simp
    · rw [nums_append]
      have e1 : nums (0 + L.length) [(s, k, [], [], t)] = [(thingV s k t, .int .i64 ((L.length : Int) + 1))] := by
        simp only [nums]
        rw [if_pos HS.out]
        simp
      rw [e1]
      exact hm3
    · rw [boxes_append]
      have e1 : boxes (0 + L.length) [(s, k, [], [], t)] = [] := by
        simp only [boxes]
        rw [if_neg]
        have := HS.out
        omega
      rw [e1, List.append_nil]
      exact hx2.kept (ho3 x hlt2.2.2.2.1 (Ne.symm hne.2.2.2.2.2))
    · intro u hu
      rcases List.mem_append.1 hu with h | h
      · exact HH.out.fine u h
      · rw [List.mem_singleton.1 h]
        exact ⟨HK.out, fun y hy => by simp at hy, fun y hy => by simp at hy, HT.out⟩
  have HON : Hid (Only [p, m] w w3) := h2.trans (Only.of_grown (w := w2) ⟨hg3.os, hg3.tape, hg3.output, hg3.size, hg3.block⟩ (fun y hy => by cases hy; simp))
  have HT3 : w3.heap[w.heap.size]? = some (.cells #[.int .u8 (s : Int), .string (strB k), .string (strB t)] 106 (0, 0)) := (ho3 _ hlt2.2.2.2.2 (by have := HLT.out; omega)).trans ht2
  obtain ⟨u0, _, _, _⟩ := cells3 HT3
  have HZ3 : Hid (w.heap.size ≤ w3.heap.size) := HON.out.size
  clear hm2 hx2 hm3 hg3 ho3 hp2 hq2 ht2 h2 hlt2 HT3
  go_wp2_with fail
  go_region
  go_wp2_with fail
  refine (HSG.out _).mono ?_
  rintro e w4 ⟨v, rfl, ho, hb⟩
  have HO : Hid (w4.ownsRow w.heap.size 5 1 v 32 (ints .u8 (Su.sign s (L.length + 1)))) := by
    obtain ⟨h1, h2 | ⟨g, cap, cur, e1, e2, e3⟩⟩ := ho
    · exact ⟨h1, .inl h2⟩
    · exact ⟨h1, .inr ⟨g, cap, cur, e1, Nat.le_trans HZ3.out e2, e3⟩⟩
  have HS4 : Hid (SuIs w4 p q m x (L ++ [(s, k, [], [], t)])) := HSU.out.below hb
  have HN4 : Hid (Only [p, m] w w4) := HON.out.trans (Only.of_below hb _)
  clear ho hb
  go_wp2_with fail
  go_ret
  exact ⟨_, rfl, HO.out, HS4.out, HN4.out⟩
/-- signOf: the sign of a thing's number, which is new just if the list hasn't it yet. -/
theorem signOf_any (s : Nat) (k t : List Nat) (p q m x : Nat) (L : List Su.Thing) (w : World) (h : SuIs w p q m x L) (hs : s = 72 ∨ s = 77) (hk : ∀ y ∈ k, y < 256) (ht : ∀ y ∈ t, y < 256) (hl : L.length < 1000000) :
    Calls Tryz.prog 60 #[.pointer (some ⟨p, 0, none⟩), thingV s k t] w fun e w' => ∃ v, e = .returned v ∧ w'.ownsRow w.heap.size 5 1 v 32 (ints .u8 (Su.sign s (Su.num L s k t))) ∧ SuIs w' p q m x (Su.add L s k t) ∧ Only [p, m] w w' := by
  cases hi : Su.pos s k t 0 L with
  | none =>
    have e1 : Su.num L s k t = L.length + 1 := by unfold Su.num; rw [hi]; rfl
    have e2 : Su.add L s k t = L ++ [(s, k, [], [], t)] := by unfold Su.add; rw [hi]
    rw [e1, e2]
    exact signOf_new s k t p q m x L w h hs hk ht hl hi
  | some i =>
    have e1 : Su.num L s k t = i := by unfold Su.num; rw [hi]; rfl
    have e2 : Su.add L s k t = L := by unfold Su.add; rw [hi]
    rw [e1, e2]
    refine (signOf_old s k t p q m x i L w h hs hk ht hl hi).mono ?_
    rintro e w' ⟨v, rfl, ho, hb⟩
    exact ⟨v, rfl, ho, h.below hb, Only.of_below hb _⟩
end Go.Proofs.YtagdlpodpokmmaaGreatDoor.S7
