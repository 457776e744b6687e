/- The contracts of Clone and Read. -/
import Derived.Test.YtchoiioeeepoaaaC8Text
import Derived.Lib.SmallJoins
namespace Go.Proofs.Ytchoiioeeepoaaa.C8
open Go.RowKit
theorem own_built (w : World) : (w.alloc (.cells #[] 5)).ownsRow w.heap.size 5 1 (.slice (some ⟨w.heap.size, 0, none⟩) 0 0) 0 (ints .u8 []) :=
  ⟨rfl, .inr ⟨w.heap.size, 0, #[], rfl, Nat.le_refl _, heap_alloc_new w _, Nat.le_refl _, by unfold maxLen; omega, rfl, rfl⟩⟩
theorem Src.cases {w : World} {v : Value} {l : List Nat} (h : Src w v l) : (v = .slice none 0 0 ∧ l = []) ∨ ∃ ad c, v = .slice (some ad) l.length c := by
  obtain ⟨_, h1 | ⟨ad, c, rfl, rfl⟩ | ⟨b, o, c, rfl, _⟩⟩ := h
  · exact .inl h1
  · exact .inr ⟨_, _, rfl⟩
  · exact .inr ⟨_, _, rfl⟩
set_option maxHeartbeats 1000000 in
theorem Clone_any (sv : Value) (l : List Nat) (w : World) (hs : Src w sv l) (hl : l.length ≤ 900000) :
    Calls Try.prog 47 #[sv] w fun e w' => ∃ v, e = .returned v ∧ w'.ownsRow w.heap.size 5 1 v l.length (ints .u8 l) ∧ Below w.heap.size w w' := by
  rcases hs.cases with ⟨rfl, rfl⟩ | ⟨ad, c, rfl⟩
  · have hnil : (binOp .eql 32 (.slice none 0 0) (.slice none 0 0)).run Try.prog w = .ok (.bool true) w := Lib.run_eql_slice_nil w 32 5 none 0 0 0 0 Try.underlying32
    go_enter Try.func47, Try.ntmps47
    go_wp2_with fail
    go_ret
    exact ⟨_, rfl, own_none _ _ _ _, Below.refl _ _⟩
  · have HS : Hid (Src w (.slice (some ad) l.length c) l) := hs
    have hnil : (binOp .eql 32 (.slice (some ad) l.length c) (.slice none 0 0)).run Try.prog w = .ok (.bool false) w := Lib.run_eql_slice_nil w 32 5 (some ad) l.length c 0 0 Try.underlying32
    clear hs
    go_enter Try.func47, Try.ntmps47
    go_wp2_with (first | with_reducible (refine stop_builtin .append ?_))
    refine Stop.go ?_
    have hs1 : Src (w.alloc (.cells #[] 5)) (.slice (some ad) l.length c) l := HS.out.below ((Below.refl _ w).alloc (Nat.le_refl _) _)
    refine law_append_grow w.heap.size (.slice (some ⟨w.heap.size, 0, none⟩) 0 0) 0 [] _ l rfl rfl (own_built w) hs1 (by omega) (by simp) ?_
    intro v w1 h1 h2
    have HO : Hid (w1.ownsRow w.heap.size 5 1 v l.length (ints .u8 l)) := by
      rw [Nat.zero_add] at h1
      exact h1
    have HB : Hid (Below w.heap.size w w1) := ((Below.refl _ w).alloc (Nat.le_refl _) _).trans (h2.below (own_built w) (by simp))
    clear h1 h2 hs1
    go_wp2_with fail
    go_ret
    exact ⟨_, rfl, HO.out, HB.out⟩
/-- A row of one's own, as a reader has it. -/
theorem RdAt.new {w : World} {base : Nat} {v : Value} {l : List Nat} (h : w.ownsRow base 5 1 v l.length (ints .u8 l)) (hs : ∀ x ∈ l, x < 256) (hl : l.length ≤ 1000000) : ∃ g o, base ≤ g ∧ RdAt (w.alloc (.cells #[v, .bool false] 87)) w.heap.size g o l false := by
  have h0 := heap_alloc_new w (.cells #[v, .bool false] 87)
  by_cases hn : l.length = 0
  · obtain ⟨q, c, rfl⟩ := own_slice h
    refine ⟨base + w.heap.size + 1, 0, by omega, hs, hl, by omega, _, h0, .inl ⟨q, c, by rw [hn], List.eq_nil_of_length_eq_zero hn⟩⟩
  · obtain ⟨g, c, rfl, h1, h2, h3, h4⟩ := own_cell h (by omega)
    exact ⟨g, 0, h1, hs, hl, by omega, _, h0, .inr ⟨c, rfl, h3, range_kept h4 (Below.heap_alloc w _ g h2)⟩⟩
set_option maxHeartbeats 1000000 in
theorem Read_any (sv : Value) (l : List Nat) (w : World) (hs : Src w sv l) (hl : l.length ≤ 900000) :
    Calls Try.prog 35 #[sv] w fun e w' => ∃ p g o, e = .returned (.pointer (some ⟨p, 0, none⟩)) ∧ RdAt w' p g o l false ∧ w.heap.size ≤ p ∧ w.heap.size ≤ g ∧ Below w.heap.size w w' := by
  have HSM : Hid (∀ x ∈ l, x < 256) := hs.small
  have HC : ∀ W, W = w → Calls Try.prog 47 #[sv] W fun e w' => ∃ v, e = .returned v ∧ Hid (w'.ownsRow w.heap.size 5 1 v l.length (ints .u8 l)) ∧ Hid (Below w.heap.size w w') := by
    rintro W rfl
    exact Clone_any sv l W hs hl
  clear hs
  go_enter Try.func35, Try.ntmps35
  go_wp2_with (first | (go_at_call 47; refine (HC _ rfl).mono ?_; rintro e w1 ⟨v, rfl, HO, HB⟩; obtain ⟨q, c, rfl⟩ := own_slice HO.out))
  go_ret
  obtain ⟨g, o, h1, h2⟩ := RdAt.new HO.out HSM.out (by omega)
  exact ⟨_, g, o, rfl, h2, HB.out.size, h1, HB.out.alloc HB.out.size _⟩
end Go.Proofs.Ytchoiioeeepoaaa.C8
