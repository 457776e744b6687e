/- The document's answer: word, Block. -/
import Derived.Test.YtnceiccciaihoaaC3RefQ
namespace Go.Proofs.Ytnceiccciaihoaa.C3
open Go.RowKit
set_option maxHeartbeats 400000 in
theorem word32 (b : List Nat) (g o c i : Nat) (w : World) (hs : ∀ x ∈ b, x < 256) (hr : w.rangeAt g o (ints .u8 b)) (hl : b.length = 32) (hi : i + 3 < 32) :
    Calls Try.prog 43 #[.slice (some ⟨g, o, none⟩) 32 c, .int .i64 i] w fun e w' => e = .returned (.int .i64 (Ch.word b i : Nat)) ∧ ∃ n, w' = w.drewN n := by
  have c0 := range_cell hr i (by omega)
  have c1 := range_cell hr (i + 1) (by omega)
  have c2 := range_cell hr (i + 2) (by omega)
  have c3 := range_cell hr (i + 3) (by omega)
  have s0 := Sp.nth_lt (by decide) hs i
  have s1 := Sp.nth_lt (by decide) hs (i + 1)
  have s2 := Sp.nth_lt (by decide) hs (i + 2)
  have s3 := Sp.nth_lt (by decide) hs (i + 3)
  have HE : Hid (Ch.word b i = Sp.nth b i + Sp.nth b (i + 1) * 256 + Sp.nth b (i + 2) * 65536 + Sp.nth b (i + 3) * 16777216) := rfl
  clear hr hs hl
  generalize Sp.nth b i = x0 at *
  generalize Sp.nth b (i + 1) = x1 at *
  generalize Sp.nth b (i + 2) = x2 at *
  generalize Sp.nth b (i + 3) = x3 at *
  have i0 : (0 : Int) ≤ (i : Int) := by omega
  have l3 : (i : Int) + 3 < 32 := by omega
  have l0 : (i : Int) < 32 := by omega
  have l1 : (i : Int) + 1 < 32 := by omega
  have l2 : (i : Int) + 2 < 32 := by omega
  go_enter Try.func43, Try.ntmps43
  go_wp2_with fail
  go_quiet (fail)
  go_wp2
  go_ret
  refine ⟨ret_int ?_, nq, rfl⟩
  rw [HE.out]
  omega
set_option maxHeartbeats 400000 in
theorem word12 (b : List Nat) (g o c i : Nat) (w : World) (hs : ∀ x ∈ b, x < 256) (hr : w.rangeAt g o (ints .u8 b)) (hl : b.length = 12) (hi : i + 3 < 12) :
    Calls Try.prog 43 #[.slice (some ⟨g, o, none⟩) 12 c, .int .i64 i] w fun e w' => e = .returned (.int .i64 (Ch.word b i : Nat)) ∧ ∃ n, w' = w.drewN n := by
  have c0 := range_cell hr i (by omega)
  have c1 := range_cell hr (i + 1) (by omega)
  have c2 := range_cell hr (i + 2) (by omega)
  have c3 := range_cell hr (i + 3) (by omega)
  have s0 := Sp.nth_lt (by decide) hs i
  have s1 := Sp.nth_lt (by decide) hs (i + 1)
  have s2 := Sp.nth_lt (by decide) hs (i + 2)
  have s3 := Sp.nth_lt (by decide) hs (i + 3)
  have HE : Hid (Ch.word b i = Sp.nth b i + Sp.nth b (i + 1) * 256 + Sp.nth b (i + 2) * 65536 + Sp.nth b (i + 3) * 16777216) := rfl
  clear hr hs hl
  generalize Sp.nth b i = x0 at *
  generalize Sp.nth b (i + 1) = x1 at *
  generalize Sp.nth b (i + 2) = x2 at *
  generalize Sp.nth b (i + 3) = x3 at *
  have i0 : (0 : Int) ≤ (i : Int) := by omega
  have l3 : (i : Int) + 3 < 12 := by omega
  have l0 : (i : Int) < 12 := by omega
  have l1 : (i : Int) + 1 < 12 := by omega
  have l2 : (i : Int) + 2 < 12 := by omega
  go_enter Try.func43, Try.ntmps43
  go_wp2_with fail
  go_quiet (fail)
  go_wp2
  go_ret
  refine ⟨ret_int ?_, nq, rfl⟩
  rw [HE.out]
  omega
def c4 : List Nat := [1634760805, 857760878, 2036477234, 1797285236]
theorem start_c4 (key nonce : List Nat) (c : Nat) : c4 ++ Ch.words key 8 ++ [c] ++ Ch.words nonce 3 = Ch.start key c nonce := rfl
theorem own_new (w : World) (k : IntKind) (e : TypeId) (l : List Nat) (hl : l.length ≤ 100000) : (w.alloc (.cells (arr k l) e)).ownsRow w.heap.size e 1 (.slice (some ⟨w.heap.size, 0, none⟩) l.length l.length) l.length (ints k l) :=
  ⟨by rw [ints_length]; omega, .inr ⟨w.heap.size, l.length, arr k l, rfl, Nat.le_refl _, heap_alloc_new w _, Nat.le_refl _, by unfold maxLen; omega, by rw [arr_size]; omega, by rw [arr_list, Nat.mul_one]; exact List.take_of_length_le (by rw [ints_length]; exact Nat.le_refl _)⟩⟩
theorem own_row {w : World} {base : Nat} {v : Value} {n : Nat} {s : List Nat} (h : w.ownsRow base 3 1 v n (ints .i64 s)) (hn : 0 < n) : ∃ g c tl, v = .slice (some ⟨g, 0, none⟩) n c ∧ base ≤ g ∧ g < w.heap.size ∧ RowT w g s tl := by
  obtain ⟨hl, ⟨rfl, h0⟩ | ⟨g, cap, cur, rfl, hg, hh, hn, hm, hc, ht⟩⟩ := h
  · omega
  · refine ⟨g, cap, cur.toList.drop (n * 1), rfl, hg, (Array.getElem?_eq_some_iff.1 hh).1, ?_⟩
    unfold RowT
    rw [hh, ← ht, List.take_append_drop]
theorem RowT.range {w : World} {g : Nat} {s : List Nat} {tl : List Value} (h : RowT w g s tl) : w.rangeAt g 0 (ints .i64 s) := fun j v hv => by
  rw [cell_of_row _ _ _ _ _ _ h, Nat.zero_add, List.getElem?_toArray, List.getElem?_append_left (List.getElem?_eq_some_iff.1 hv).1]
  exact hv
theorem RowT.grown {w w' : World} {g g' : Nat} {s : List Nat} {tl : List Value} (h : RowT w g s tl) (hg : w.grownBy w' (some g')) (hne : g ≠ g') : RowT w' g s tl := by
  have := hg.block g (Array.getElem?_eq_some_iff.1 h).1 (by simpa using hne)
  exact this.trans h
theorem RowT.below {w w' : World} {g B : Nat} {s : List Nat} {tl : List Value} (h : RowT w g s tl) (hb : Below B w w') (hg : g < B) : RowT w' g s tl := (hb.block g hg).trans h
theorem RowT.lt {w : World} {g : Nat} {s : List Nat} {tl : List Value} (h : RowT w g s tl) : g < w.heap.size := (Array.getElem?_eq_some_iff.1 h).1
theorem rq_0_4 (s : List Nat) (tl : List Value) (g cap : Nat) (w : World) (hs : Ch.Ok s) (hg : RowT w g s tl) :
    Calls Try.prog 44 #[.slice (some ⟨g, 0, none⟩) 16 cap, .int .i64 0, .int .i64 4, .int .i64 8, .int .i64 12] w fun e w' => e = .returned (.tuple #[]) ∧ RowT w' g (Ch.quarter s 0 4 8 12) tl ∧ w.grownBy w' (some g) :=
  rquarter_any s tl g cap 0 4 8 12 w hs hg (by decide) (by decide) (by decide) (by decide)
theorem rq_1_5 (s : List Nat) (tl : List Value) (g cap : Nat) (w : World) (hs : Ch.Ok s) (hg : RowT w g s tl) :
    Calls Try.prog 44 #[.slice (some ⟨g, 0, none⟩) 16 cap, .int .i64 1, .int .i64 5, .int .i64 9, .int .i64 13] w fun e w' => e = .returned (.tuple #[]) ∧ RowT w' g (Ch.quarter s 1 5 9 13) tl ∧ w.grownBy w' (some g) :=
  rquarter_any s tl g cap 1 5 9 13 w hs hg (by decide) (by decide) (by decide) (by decide)
theorem rq_2_6 (s : List Nat) (tl : List Value) (g cap : Nat) (w : World) (hs : Ch.Ok s) (hg : RowT w g s tl) :
    Calls Try.prog 44 #[.slice (some ⟨g, 0, none⟩) 16 cap, .int .i64 2, .int .i64 6, .int .i64 10, .int .i64 14] w fun e w' => e = .returned (.tuple #[]) ∧ RowT w' g (Ch.quarter s 2 6 10 14) tl ∧ w.grownBy w' (some g) :=
  rquarter_any s tl g cap 2 6 10 14 w hs hg (by decide) (by decide) (by decide) (by decide)
theorem rq_3_7 (s : List Nat) (tl : List Value) (g cap : Nat) (w : World) (hs : Ch.Ok s) (hg : RowT w g s tl) :
    Calls Try.prog 44 #[.slice (some ⟨g, 0, none⟩) 16 cap, .int .i64 3, .int .i64 7, .int .i64 11, .int .i64 15] w fun e w' => e = .returned (.tuple #[]) ∧ RowT w' g (Ch.quarter s 3 7 11 15) tl ∧ w.grownBy w' (some g) :=
  rquarter_any s tl g cap 3 7 11 15 w hs hg (by decide) (by decide) (by decide) (by decide)
theorem rq_0_5 (s : List Nat) (tl : List Value) (g cap : Nat) (w : World) (hs : Ch.Ok s) (hg : RowT w g s tl) :
    Calls Try.prog 44 #[.slice (some ⟨g, 0, none⟩) 16 cap, .int .i64 0, .int .i64 5, .int .i64 10, .int .i64 15] w fun e w' => e = .returned (.tuple #[]) ∧ RowT w' g (Ch.quarter s 0 5 10 15) tl ∧ w.grownBy w' (some g) :=
  rquarter_any s tl g cap 0 5 10 15 w hs hg (by decide) (by decide) (by decide) (by decide)
theorem rq_1_6 (s : List Nat) (tl : List Value) (g cap : Nat) (w : World) (hs : Ch.Ok s) (hg : RowT w g s tl) :
    Calls Try.prog 44 #[.slice (some ⟨g, 0, none⟩) 16 cap, .int .i64 1, .int .i64 6, .int .i64 11, .int .i64 12] w fun e w' => e = .returned (.tuple #[]) ∧ RowT w' g (Ch.quarter s 1 6 11 12) tl ∧ w.grownBy w' (some g) :=
  rquarter_any s tl g cap 1 6 11 12 w hs hg (by decide) (by decide) (by decide) (by decide)
theorem rq_2_7 (s : List Nat) (tl : List Value) (g cap : Nat) (w : World) (hs : Ch.Ok s) (hg : RowT w g s tl) :
    Calls Try.prog 44 #[.slice (some ⟨g, 0, none⟩) 16 cap, .int .i64 2, .int .i64 7, .int .i64 8, .int .i64 13] w fun e w' => e = .returned (.tuple #[]) ∧ RowT w' g (Ch.quarter s 2 7 8 13) tl ∧ w.grownBy w' (some g) :=
  rquarter_any s tl g cap 2 7 8 13 w hs hg (by decide) (by decide) (by decide) (by decide)
theorem rq_3_4 (s : List Nat) (tl : List Value) (g cap : Nat) (w : World) (hs : Ch.Ok s) (hg : RowT w g s tl) :
    Calls Try.prog 44 #[.slice (some ⟨g, 0, none⟩) 16 cap, .int .i64 3, .int .i64 4, .int .i64 9, .int .i64 14] w fun e w' => e = .returned (.tuple #[]) ∧ RowT w' g (Ch.quarter s 3 4 9 14) tl ∧ w.grownBy w' (some g) :=
  rquarter_any s tl g cap 3 4 9 14 w hs hg (by decide) (by decide) (by decide) (by decide)
end Go.Proofs.Ytnceiccciaihoaa.C3
