/- The document's nonce. -/
import Derived.Test.YtfjdaafckiefdaaGreatDoorMgY
import Derived.Test.YtfjdaafckiefdaaGreatDoorMgF
namespace Go.Proofs.YtfjdaafckiefdaaGreatDoor.S7
open Go.RowKit
set_option maxHeartbeats 1000000 in
theorem rNonce2_any (w : World) (a b : Nat) (ha : a ≤ 1099511627776) (hb0 : b ≤ 1099511627776) : Calls Tryz.prog 29 #[.int .i64 (a : Int), .int .i64 (b : Int)] w fun e w' => ∃ v, e = .returned v ∧ w'.ownsRow w.heap.size 5 1 v 12 (ints .u8 (non a b)) ∧ Below w.heap.size w w' := by
  have HA : Hid (∀ w1, Calls Tryz.prog 73 #[.int .i64 (a : Int)] w1 fun e w' => ∃ v, e = .returned v ∧ w'.ownsRow w1.heap.size 5 1 v 6 (ints .u8 (six a)) ∧ Below w1.heap.size w1 w') := fun w1 => C8.RefNum_any a w1 ha
  have HB : Hid (∀ w1, Calls Tryz.prog 73 #[.int .i64 (b : Int)] w1 fun e w' => ∃ v, e = .returned v ∧ w'.ownsRow w1.heap.size 5 1 v 6 (ints .u8 (six b)) ∧ Below w1.heap.size w1 w') := fun w1 => C8.RefNum_any b w1 hb0
  clear ha hb0
  go_enter Tryz.func29, Tryz.ntmps29
  go_wp2_with fail
  have hb5 : Below w.heap.size w (w.alloc (.cells #[] 5)) := (Below.refl _ _).alloc (Nat.le_refl _) _
  have he : (w.alloc (.cells #[] 5)).ownsRow w.heap.size 5 1 (.slice (some ⟨w.heap.size, 0, none⟩) 0 0) 0 (ints .u8 []) :=
    ⟨rfl, .inr ⟨w.heap.size, 0, #[], rfl, Nat.le_refl _, heap_alloc_new w _, Nat.le_refl _, by unfold maxLen; decide, rfl, rfl⟩⟩
  have H0 : Hid (Below w.heap.size w (w.alloc (.cells #[] 5)) ∧ (w.alloc (.cells #[] 5)).ownsRow w.heap.size 5 1 (.slice (some ⟨w.heap.size, 0, none⟩) 0 0) 0 (ints .u8 [])) := ⟨hb5, he⟩
  clear hb5 he
  refine (HA.out _).mono ?_
  rintro e w1 ⟨v, rfl, ho, hb⟩
  have H1 : Hid (Src w1 v (six a) ∧ w1.ownsRow w.heap.size 5 1 (.slice (some ⟨w.heap.size, 0, none⟩) 0 0) 0 (ints .u8 []) ∧ Below w.heap.size w w1) := ⟨Src.own (six_small a) ho, C8.own_below H0.out.2 hb, H0.out.1.trans (hb.mono H0.out.1.size)⟩
  clear ho hb H0 HA
  go_wp2_with (first | with_reducible (refine stop_builtin .append ?_))
  refine Stop.go ?_
  refine law_append_src w.heap.size _ 0 [] _ (six a) rfl rfl H1.out.2.1 H1.out.1 (by rw [six_length]; decide) H1.out.2.2.size ?_
  intro u w2 ho hg
  have H2 : Hid (w2.ownsRow w.heap.size 5 1 u 6 (ints .u8 (six a)) ∧ Below w.heap.size w w2) := ⟨by rw [six_length] at ho; exact ho, H1.out.2.2.trans (below_append H1.out.2.1 hg H1.out.2.2.size)⟩
  clear ho hg H1
  go_wp2_with fail
  refine (HB.out _).mono ?_
  rintro e w3 ⟨v3, rfl, ho, hb⟩
  have H3 : Hid (Src w3 v3 (six b) ∧ w3.ownsRow w.heap.size 5 1 u 6 (ints .u8 (six a)) ∧ Below w.heap.size w w3) := ⟨Src.own (six_small b) ho, C8.own_below H2.out.1 hb, H2.out.2.trans (hb.mono H2.out.2.size)⟩
  clear ho hb H2 HB
  go_wp2_with (first | with_reducible (refine stop_builtin .append ?_))
  refine Stop.go ?_
  refine law_append_src w.heap.size u 6 (six a) _ (six b) rfl rfl H3.out.2.1 H3.out.1 (by rw [six_length]; decide) H3.out.2.2.size ?_
  intro u4 w4 ho hg
  have H4 : Hid (w4.ownsRow w.heap.size 5 1 u4 12 (ints .u8 (non a b)) ∧ Below w.heap.size w w4) := ⟨by rw [six_length] at ho; exact ho, H3.out.2.2.trans (below_append H3.out.2.1 hg H3.out.2.2.size)⟩
  clear ho hg H3
  go_wp2_with fail
  go_ret
  exact ⟨_, rfl, H4.out⟩
end Go.Proofs.YtfjdaafckiefdaaGreatDoor.S7
