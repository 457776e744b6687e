/- The contract of the document's Text, and how a part is read. -/
import Derived.Test.YtchoiioeeepoaaaC8RNum
import Derived.Test.YtchoiioeeepoaaaC8St
namespace Go.Proofs.Ytchoiioeeepoaaa.C8
open Go.RowKit
theorem own_two (w : World) (x y : Nat) : (w.alloc (.cells #[.int .u8 (x : Int), .int .u8 (y : Int)] 5)).ownsRow w.heap.size 5 1 (.slice (some ⟨w.heap.size, 0, none⟩) 2 2) 2 (ints .u8 [x, y]) :=
  ⟨rfl, .inr ⟨w.heap.size, 2, _, rfl, Nat.le_refl _, heap_alloc_new w _, Nat.le_refl _, by unfold maxLen; omega, rfl, rfl⟩⟩
theorem be2 (n : Nat) (h : n < 65536) : Cd.be 2 n = [n / 256, n % 256] := by
  simp [Cd.be]
  omega
set_option maxHeartbeats 1000000 in
theorem RefText_any (sv : Value) (t : List Nat) (w : World) (hs : Src w sv t) (ht : t.length ≤ 4096) :
    Calls Try.prog 24 #[sv] w fun e w' => ∃ v, e = .returned v ∧ w'.ownsRow w.heap.size 5 1 v (2 + t.length) (ints .u8 (Cd.be 2 t.length ++ t)) ∧ Below w.heap.size w w' := by
  have HS : Hid (Src w sv t) := hs
  obtain ⟨q, c, rfl, -⟩ := hs.slice
  obtain ⟨n, HN⟩ : ∃ n, Hid (t.length = n) := ⟨_, rfl⟩
  have HE : Hid (Cd.be 2 t.length = [n / 256, n % 256]) := by show _ = _; rw [HN.out] at ht ⊢; exact be2 n (by omega)
  rw [HE.out]
  rw [HN.out] at ht HS ⊢
  obtain ⟨x, HX⟩ : ∃ x, Hid (n / 256 = x) := ⟨_, rfl⟩
  obtain ⟨y, HY⟩ : ∃ y, Hid (n % 256 = y) := ⟨_, rfl⟩
  rw [HX.out, HY.out]
  have x1 : (n : Int) / 256 = (x : Int) := by rw [← HX.out]; omega
  have y1 : (n : Int) % 256 = (y : Int) := by rw [← HY.out]; omega
  have x2 : (x : Int) < 256 := by rw [← HX.out]; omega
  have y2 : (y : Int) < 256 := by rw [← HY.out]; omega
  have n1 : (n : Int) ≤ 4096 := by omega
  clear hs HE HX HY
  go_enter Try.func24, Try.ntmps24
  go_wp2_with (first | with_reducible (refine stop_builtin .append ?_))
  refine Stop.go ?_
  have hs0 : Src (w.alloc (.cells #[.int .u8 (x : Int), .int .u8 (y : Int)] 5)) (.slice q n c) t := HS.out.below ((Below.refl _ w).alloc (Nat.le_refl _) _)
  refine law_append_grow w.heap.size (.slice (some ⟨w.heap.size, 0, none⟩) 2 2) 2 [x, y] (.slice q n c) t rfl rfl (own_two w x y) hs0 (by rw [HN.out]; omega) (by simp) ?_
  intro v w1 h1 h2
  have HO : Hid (w1.ownsRow w.heap.size 5 1 v (2 + n) (ints .u8 ([x, y] ++ t))) := by
    rw [HN.out] at h1
    exact h1
  have HB : Hid (Below w.heap.size w w1) := ((Below.refl _ w).alloc (Nat.le_refl _) _).trans (h2.below (own_two w x y) (by simp))
  clear h1 h2 hs0
  go_wp2_with fail
  go_ret
  exact ⟨_, rfl, HO.out, HB.out⟩
theorem val2 {n : Nat} (l : List Nat) (h : n < 65536) : Cd.val ((Cd.be 2 n ++ l).take 2) = n := by
  rw [List.take_append_of_le_length (by rw [Cd.be_length]; omega), List.take_of_length_le (by rw [Cd.be_length]; omega), Cd.val_be, Nat.mod_eq_of_lt h]
theorem val6' {n : Nat} (l : List Nat) (h : n < 281474976710656) : Cd.val ((Cd.be 6 n ++ l).take 6) = n := by
  rw [List.take_append_of_le_length (by rw [Cd.be_length]; omega), List.take_of_length_le (by rw [Cd.be_length]; omega), Cd.val_be, Nat.mod_eq_of_lt h]
theorem dropk (k n : Nat) (l : List Nat) : (Cd.be k n ++ l).drop k = l := by
  have := List.drop_left (l₁ := Cd.be k n) (l₂ := l)
  rwa [Cd.be_length] at this
/-- A right text part is read. -/
theorem part_text (w : World) (p g o : Nat) (pt : Pt) (rest : List Nat) (h : RdAt w p g o (Cd.one pt ++ rest) false) (ht : pt.isText = true) (hw : Cd.wrong pt = 0) :
    Calls Try.prog 37 #[.pointer (some ⟨p, 0, none⟩), .int .i64 0, .int .i64 4096] w fun e w' => ∃ v, e = .returned v ∧ SrcV [p] pt.text v w' ∧ RdAt w' p g (o + (2 + pt.text.length)) rest false ∧ Only [p] w w' := by
  have hl : pt.text.length ≤ 4096 := by
    unfold Cd.wrong at hw
    rw [if_pos ht] at hw
    split at hw <;> omega
  have e1 : Cd.one pt = Cd.be 2 pt.text.length ++ pt.text := by unfold Cd.one; rw [if_pos ht]
  rw [e1, List.append_assoc] at h
  refine (Text_src w p g o _ false 0 4096 pt.text.length h (by simp [Cd.be_length] <;> omega) (val2 _ (by omega)) (by omega) (by omega)).mono ?_
  rintro e w' ⟨v, rfl, h3, h4, h5, h6⟩
  rw [dropk, List.take_left] at h4
  have e2 : (Cd.be 2 pt.text.length ++ (pt.text ++ rest)).drop (2 + pt.text.length) = rest := by
    rw [← List.drop_drop, dropk, List.drop_left]
  rw [e2] at h5
  refine ⟨v, rfl, ⟨h4, fun h0 => ?_⟩, h5, h6⟩
  rcases h3 with ⟨h7, _⟩ | rfl
  · exact absurd (List.eq_nil_of_length_eq_zero h7) h0
  · exact Off.at (ad := ⟨g, o + 2, none⟩) (by have := h.2.2.1; simp; omega)
/-- A right number part is read. -/
theorem part_num (w : World) (p g o : Nat) (pt : Pt) (rest : List Nat) (h : RdAt w p g o (Cd.one pt ++ rest) false) (ht : pt.isText = false) (hw : Cd.wrong pt = 0) :
    Calls Try.prog 36 #[.pointer (some ⟨p, 0, none⟩), .int .i64 0, .int .i64 1099511627776] w fun e w' => e = .returned (.int .i64 pt.n) ∧ RdAt w' p g (o + 6) rest false ∧ Only [p] w w' := by
  have hl : 0 ≤ pt.n ∧ pt.n ≤ 1099511627776 := by
    unfold Cd.wrong at hw
    rw [if_neg (by simp [ht])] at hw
    split at hw <;> omega
  have e1 : Cd.one pt = Cd.be 6 pt.n.toNat := by unfold Cd.one; rw [if_neg (by simp [ht])]
  rw [e1] at h
  have := Number_ok w p g o _ false 0 1099511627776 pt.n.toNat h (by simp [Cd.be_length]) (val6' _ (by omega)) (by omega) (by omega)
  rw [dropk, show ((pt.n.toNat : Nat) : Int) = pt.n from by omega] at this
  exact this
end Go.Proofs.Ytchoiioeeepoaaa.C8
