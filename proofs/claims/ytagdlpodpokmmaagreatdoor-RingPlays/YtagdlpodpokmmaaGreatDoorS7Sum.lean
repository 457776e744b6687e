/- The contracts of Sum, Code and Key of a suite of signs. -/
import Derived.Test.YtagdlpodpokmmaaGreatDoorS7Sign
namespace Go.Proofs.YtagdlpodpokmmaaGreatDoor.S7
open Go.RowKit
theorem own_older {w : World} {base base' : Nat} {v : Value} {e size n : Nat} {xs : List Value} (h : w.ownsRow base e size v n xs) (hb : base' ≤ base) : w.ownsRow base' e size v n xs := by
  obtain ⟨h1, h2 | ⟨g, cap, cur, e1, e2, e3⟩⟩ := h
  · exact ⟨h1, .inl h2⟩
  · exact ⟨h1, .inr ⟨g, cap, cur, e1, Nat.le_trans hb e2, e3⟩⟩
set_option maxHeartbeats 1000000 in
theorem Key_signs (p q m x : Nat) (L : List Su.Thing) (w : World) (h : SuIs w p q m x L) (hL : L.length < 1000000) :
    Calls Tryz.prog 23 #[.pointer (some ⟨p, 0, none⟩)] w fun e w' => ∃ v, e = .returned v ∧ w'.ownsRow w.heap.size 5 1 v 32 (ints .u8 (Su.sign 75 (L.length + 1))) ∧ SuIs w' p q m x (L ++ [(75, [], [], [], [])]) ∧ Only [p] w w' := by
  have HSG : Hid (∀ w1 : World, Calls Tryz.prog 42 #[.int .u8 75, .int .i64 ((L.length : Int) + 1)] w1 fun e w' => ∃ v, e = .returned v ∧ w'.ownsRow w1.heap.size 5 1 v 32 (ints .u8 (Su.sign 75 (L.length + 1))) ∧ Below w1.heap.size w1 w') := fun w1 => sign_any 75 (L.length + 1) w1 (by omega)
  have HH : Hid (SuIs w p q m x L) := h
  have HL : Hid (L.length < 1000000) := hL
  clear h hL
  go_enter Tryz.func23, Tryz.ntmps23
  go_wp2_with fail
  refine (next_any p L.length _ _ w HH.out.box (by have := HL.out; omega)).mono ?_
  rintro e w2 ⟨rfl, hw2⟩
  have h2 : Only [p] w w2 := by rw [hw2]; exact Only.setCell _ _ _ (by simp)
  have hp2 : w2.heap[p]? = some (.cells #[.slice none 0 0, .int .i64 ((L.length : Int) + 1), .pointer (some ⟨q, 0, none⟩)] 63 (0, 0)) := by
    rw [hw2]; exact heap_setCell_same w p 1 _ 63 _ HH.out.box
  have ho2 : ∀ b, b ≠ p → w2.heap[b]? = w.heap[b]? := fun b hb => by rw [hw2]; exact Below.heap_setCell _ _ _ _ (fun e => hb e)
  have hz2 : w.heap.size ≤ w2.heap.size := h2.size
  have HSU : Hid (SuIs w2 p q m x (L ++ [(75, [], [], [], [])])) := by
    have hne := HH.out.ne
    refine ⟨?_, (ho2 q (Ne.symm hne.1)).trans HH.out.signs, ?_, ?_, hne, ?_⟩
    · rw [hp2]; simp
    · rw [nums_append]
      have e1 : nums (0 + L.length) [(75, [], [], [], [])] = [] := by simp [nums]
      rw [e1, List.append_nil]
      exact HH.out.nums.kept (ho2 m (Ne.symm hne.2.1))
    · rw [boxes_append]
      have e1 : boxes (0 + L.length) [(75, [], [], [], [])] = [] := by simp [boxes]
      rw [e1, List.append_nil]
      exact HH.out.boxes.kept (ho2 x (Ne.symm hne.2.2.1))
    · intro u hu
      rcases List.mem_append.1 hu with h | h
      · exact HH.out.fine u h
      · rw [List.mem_singleton.1 h]
        exact ⟨fun y hy => by simp at hy, fun y hy => by simp at hy, fun y hy => by simp at hy, fun y hy => by simp at hy⟩
  obtain ⟨_, _, c2, _⟩ := cells3 hp2
  have HON : Hid (Only [p] w w2) := h2
  have HZ : Hid (w.heap.size ≤ w2.heap.size) := hz2
  clear hw2 hp2 ho2 h2 hz2
  go_wp2_with fail
  refine (HSG.out w2).mono ?_
  rintro e w4 ⟨v, rfl, ho, hb⟩
  have HO : Hid (w4.ownsRow w.heap.size 5 1 v 32 (ints .u8 (Su.sign 75 (L.length + 1)))) := own_older ho HZ.out
  have HS4 : Hid (SuIs w4 p q m x (L ++ [(75, [], [], [], [])])) := HSU.out.below hb
  have HN4 : Hid (Only [p] w w4) := HON.out.trans (Only.of_below hb _)
  clear ho hb c2
  go_wp2_with fail
  go_ret
  exact ⟨_, rfl, HO.out, HS4.out, HN4.out⟩
end Go.Proofs.YtagdlpodpokmmaaGreatDoor.S7
