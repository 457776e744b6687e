/- The contracts of the small functions: sign, boxOf, next, Count, rightSizes, lockOf, Equal, Join of one part, joined, Signs. -/
import Derived.Test.YtagdlpodpokmmaaDoorS7Num
namespace Go.Proofs.YtagdlpodpokmmaaDoor.S7
open Go.RowKit
theorem law_make {ops : Array Oper} {rest : List Oper} {dst : Option Tmp} {T : TypeId} {pos : String} {after : Array Edge} {a : Act} {w : World} {Q : Exit → Act → World → Prop} {lo co : Operand}
    (base n c : Nat) (hl : a.eval lo = .int .i64 (n : Int)) (hc : a.eval co = .int .i64 (c : Int)) (hnc : n ≤ c) (hm : c ≤ 100000) (hbase : base ≤ w.heap.size)
    (h : ∀ w', w'.ownsRow base 5 1 (.slice (some ⟨w.heap.size, 0, none⟩) n c) n (ints .u8 (List.replicate n 0)) → w.grownBy w' none → wpList Tryd.prog ops Q rest (a.put dst (.slice (some ⟨w.heap.size, 0, none⟩) n c)) w') :
    wpList Tryd.prog ops Q ({ dst := dst, op := .makeSlice 22 lo co, type := T, pos := pos, after := after, guard := none } :: rest) a w := by
  obtain ⟨i, hi, hsz, hby, hz⟩ := info5e
  have hr := run_make (P := Tryd.prog) w 22 5 i _ Tryd.underlying22 hi hz .i64 .i64 (n : Int) (c : Int) (by omega) (by omega) (by rw [hby]; omega) (by omega)
  simp only [Int.toNat_natCast, hsz, Nat.mul_one] at hr
  have e : (Value.int IntKind.u8 0).cells = #[.int .u8 0] := rfl
  rw [e, made_zeros] at hr
  have hw := h (w.alloc (.cells (arr .u8 (List.replicate c 0)) 5)) ⟨by simp [ints], .inr ⟨w.heap.size, c, arr .u8 (List.replicate c 0), rfl, hbase, heap_alloc_new w _, hnc, by unfold maxLen; omega, by rw [arr_size, List.length_replicate, Nat.mul_one], by
    rw [arr_list, Nat.mul_one]
    simp [ints, Nat.min_eq_left hnc]⟩⟩ (grownBy_alloc w _ none)
  refine wpList_plain rfl fun K' hK' => ?_
  unfold Oper.wp
  simp [execOp, hl, hc, hr, Result.andThen]
  exact hK' _ _ hw
theorem stop_make {P : Program} {ops : Array Oper} {rest : List Oper} {dst : Option Tmp} {T : TypeId} {pos : String} {after : Array Edge} {a : Act} {w : World} {Q : Exit → Act → World → Prop} (ty : TypeId) {x y : Operand}
    (h : Stop (wpList P ops Q ({ dst := dst, op := .makeSlice ty x y, type := T, pos := pos, after := after, guard := none } :: rest) a w)) :
    wpList P ops Q ({ dst := dst, op := .makeSlice ty x y, type := T, pos := pos, after := after, guard := none } :: rest) a w := h
/-- A byte of a row of one's own is set. -/
theorem own_set {w : World} {base g n c i y : Nat} {l : List Nat} (h : w.ownsRow base 5 1 (.slice (some ⟨g, 0, none⟩) n c) n (ints .u8 l)) : (w.setCell ⟨g, i, none⟩ (.int .u8 (y : Nat))).ownsRow base 5 1 (.slice (some ⟨g, 0, none⟩) n c) n (ints .u8 (l.set i y)) := by
  obtain ⟨h1, ⟨e, _⟩ | ⟨g', cap, cur, e, hb, hh, hn, hm, hs, ht⟩⟩ := h
  · cases e
  · cases e
    have hset := heap_setCell_same w g i cur 5 (.int .u8 (y : Nat)) hh
    refine ⟨by simpa [ints] using h1, .inr ⟨g, c, cur.setIfInBounds i (.int .u8 (y : Nat)), rfl, hb, hset, hn, hm, by simpa using hs, ?_⟩⟩
    rw [Array.toList_setIfInBounds, List.take_set, ht]
    simp [ints]
theorem own_may {w : World} {base g n c : Nat} {xs : List Value} (h : w.ownsRow base 5 1 (.slice (some ⟨g, 0, none⟩) n c) n xs) (i : Nat) : w.frozen? ⟨g, i, none⟩ = false := by
  obtain ⟨_, ⟨e, _⟩ | ⟨g', cap, cur, e, _, hh, _⟩⟩ := h
  · cases e
  · cases e
    exact frozen_of_row _ _ _ _ _ hh
theorem own_at {w : World} {base g n c : Nat} {l : List Nat} (h : w.ownsRow base 5 1 (.slice (some ⟨g, 0, none⟩) n c) n (ints .u8 l)) (i : Nat) (hi : i < n) : w.cell? ⟨g, i, none⟩ = some (.int .u8 (Sp.nth l i : Nat)) := by
  have hl : l.length = n := by have := h.1; rw [ints_length] at this; omega
  obtain ⟨g', c', e, _, _, _, hr⟩ := own_cell h (by omega)
  cases e
  have := hr i _ (ints_get .u8 l i (by omega))
  rwa [Nat.zero_add] at this
theorem own_lt {w : World} {base g n c : Nat} {xs : List Value} (h : w.ownsRow base 5 1 (.slice (some ⟨g, 0, none⟩) n c) n xs) : g < w.heap.size := by
  obtain ⟨_, ⟨e, _⟩ | ⟨g', cap, cur, e, _, hh, _⟩⟩ := h
  · cases e
  · cases e
    exact (Array.getElem?_eq_some_iff.1 hh).1
theorem sign_cells (s : Nat) : ((List.replicate 24 0).set 0 83).set 1 s = 83 :: s :: List.replicate 22 0 := rfl
set_option maxHeartbeats 1000000 in
theorem sign_any (s n : Nat) (w : World) (hn : n < 4611686018427387904) :
    Calls Tryd.prog 36 #[.int .u8 (s : Int), .int .i64 (n : Int)] w fun e w' => ∃ v, e = .returned v ∧ w'.ownsRow w.heap.size 5 1 v 32 (ints .u8 (Su.sign s n)) ∧ Below w.heap.size w w' := by
  have HN : Hid (n < 4611686018427387904) := hn
  clear hn
  go_enter Tryd.func36, Tryd.ntmps36
  go_wp2_with (first | with_reducible (refine stop_make 22 ?_))
  refine Stop.go ?_
  refine law_make w.heap.size 24 32 rfl rfl (by decide) (by decide) (Nat.le_refl _) ?_
  intro w1 ho1 hg1
  have c0 := own_at ho1 0 (by decide)
  have c1 := own_at ho1 1 (by decide)
  have f0 := own_may ho1 0
  have f1 := own_may ho1 1
  have HO1 : Hid (w1.ownsRow w.heap.size 5 1 (.slice (some ⟨w.heap.size, 0, none⟩) 24 32) 24 (ints .u8 (List.replicate 24 0))) := ho1
  have HG1 : Hid (w.grownBy w1 none) := hg1
  clear ho1 hg1
  go_wp2_with fail
  clear c0 c1 f0 f1
  have HO2 : Hid (((w1.setCell ⟨w.heap.size, 0, none⟩ (.int .u8 83)).setCell ⟨w.heap.size, 1, none⟩ (.int .u8 (s : Int))).ownsRow w.heap.size 5 1 (.slice (some ⟨w.heap.size, 0, none⟩) 24 32) 24 (ints .u8 (83 :: s :: List.replicate 22 0))) := by
    have h1 := own_set (i := 1) (y := s) (own_set (i := 0) (y := 83) HO1.out)
    rw [sign_cells] at h1
    exact h1
  have HB2 : Hid (Below w.heap.size w ((w1.setCell ⟨w.heap.size, 0, none⟩ (.int .u8 83)).setCell ⟨w.heap.size, 1, none⟩ (.int .u8 (s : Int)))) :=
    (((Below.refl w.heap.size w).grown HG1.out (Nat.le_refl _) (fun k hk => by cases hk)).setCell (Nat.le_refl _) _).setCell (Nat.le_refl _) _
  clear HO1 HG1
  generalize (w1.setCell ⟨w.heap.size, 0, none⟩ (.int .u8 83)).setCell ⟨w.heap.size, 1, none⟩ (.int .u8 (s : Int)) = w2 at *
  refine (appendNumber_any _ _ 24 w.heap.size n w2 HO2.out (by decide) HB2.out.size HN.out).mono ?_
  rintro e w3 ⟨v, rfl, ho3, hb3⟩
  have HO3 : Hid (w3.ownsRow w.heap.size 5 1 v 32 (ints .u8 (Su.sign s n))) := ho3
  have HB3 : Hid (Below w.heap.size w w3) := HB2.out.trans hb3
  clear ho3 hb3 HO2 HB2
  go_wp2_with fail
  go_ret
  exact ⟨_, rfl, HO3.out, HB3.out⟩
theorem box_cells (k : Nat) : (List.replicate (k + 8) 0).set 0 66 = 66 :: List.replicate (k + 7) 0 := by
  rw [show k + 8 = (k + 7) + 1 from rfl, List.replicate_succ]
  rfl
set_option maxHeartbeats 1000000 in
theorem boxOf_any (n k : Nat) (w : World) (hk : k ≤ 50000) (hn : n < 4611686018427387904) :
    Calls Tryd.prog 42 #[.int .i64 (n : Int), .int .i64 (k : Int)] w fun e w' => ∃ v, e = .returned v ∧ w'.ownsRow w.heap.size 5 1 v (k + 16) (ints .u8 (Su.box n k)) ∧ Below w.heap.size w w' := by
  have HN : Hid (n < 4611686018427387904) := hn
  have k0 : (0 : Int) ≤ (k : Int) := by omega
  have k1 : (k : Int) ≤ 50000 := by omega
  clear hn
  go_enter Tryd.func42, Tryd.ntmps42
  go_wp2_with (first | with_reducible (refine stop_make 22 ?_))
  refine Stop.go ?_
  refine law_make w.heap.size (k + 8) (k + 16) ?h1 ?h2 (by omega) (by omega) (Nat.le_refl _) ?_
  case h1 => show Value.int .i64 _ = _; congr 1; omega
  case h2 => show Value.int .i64 _ = _; congr 1
  intro w1 ho1 hg1
  have c0 := own_at ho1 0 (by omega)
  have f0 := own_may ho1 0
  have HO1 : Hid (w1.ownsRow w.heap.size 5 1 (.slice (some ⟨w.heap.size, 0, none⟩) (k + 8) (k + 16)) (k + 8) (ints .u8 (List.replicate (k + 8) 0))) := ho1
  have HG1 : Hid (w.grownBy w1 none) := hg1
  clear ho1 hg1
  go_wp2_with fail
  clear c0 f0
  have HO2 : Hid ((w1.setCell ⟨w.heap.size, 0, none⟩ (.int .u8 66)).ownsRow w.heap.size 5 1 (.slice (some ⟨w.heap.size, 0, none⟩) (k + 8) (k + 16)) (k + 8) (ints .u8 (66 :: List.replicate (k + 7) 0))) := by
    have h1 := own_set (i := 0) (y := 66) HO1.out
    rw [box_cells] at h1
    exact h1
  have HB2 : Hid (Below w.heap.size w (w1.setCell ⟨w.heap.size, 0, none⟩ (.int .u8 66))) :=
    ((Below.refl w.heap.size w).grown HG1.out (Nat.le_refl _) (fun k hk => by cases hk)).setCell (Nat.le_refl _) _
  clear HO1 HG1
  generalize w1.setCell ⟨w.heap.size, 0, none⟩ (.int .u8 66) = w2 at *
  refine (appendNumber_any _ _ (k + 8) w.heap.size n w2 HO2.out (by omega) HB2.out.size HN.out).mono ?_
  rintro e w3 ⟨v, rfl, ho3, hb3⟩
  have HO3 : Hid (w3.ownsRow w.heap.size 5 1 v (k + 16) (ints .u8 (Su.box n k))) := ho3
  have HB3 : Hid (Below w.heap.size w w3) := HB2.out.trans hb3
  clear ho3 hb3 HO2 HB2
  go_wp2_with fail
  go_ret
  exact ⟨_, rfl, HO3.out, HB3.out⟩
end Go.Proofs.YtagdlpodpokmmaaDoor.S7
