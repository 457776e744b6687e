/- The contracts of the document's reader: get, Num, Text, End. -/
import Derived.Test.YtfjdaafckiefdabGreatDoorMgC
import Derived.Deep.QuietTactic
import Derived.BigQuiet
import Derived.Laws.MakeOwn
namespace Go.Proofs.YtfjdaafckiefdabGreatDoor.C8
open Go.RowKit

section
variable {w w' : World} {q at_ : Nat} {sv : Value} {bad : Bool}
end
theorem mul_byte {a x : Nat} : (256 : Int) * (a : Int) + (x : Int) = ((a * 256 + x : Nat) : Int) := by omega
end Go.Proofs.YtfjdaafckiefdabGreatDoor.C8
/- The contracts of the document's reader: Num, Text, End. -/
namespace Go.Proofs.YtfjdaafckiefdabGreatDoor.C8
open Go.RowKit
theorem Src.full {w : World} {v : Value} {l : List Nat} (h : Src w v l) (h0 : 0 < l.length) : ∃ b o c, v = .slice (some ⟨b, o, none⟩) l.length c ∧ l.length ≤ c ∧ w.rangeAt b o (ints .u8 l) := by
  obtain ⟨_, ⟨_, rfl⟩ | ⟨_, _, _, rfl⟩ | h1⟩ := h
  · exact absurd h0 (by simp)
  · exact absurd h0 (by simp)
  · exact h1
end Go.Proofs.YtfjdaafckiefdabGreatDoor.C8
/- The contracts of the document's Num and Text, and how a part is read. -/
namespace Go.Proofs.YtfjdaafckiefdabGreatDoor.C8
open Go.RowKit
theorem law_make {ops : Array Oper} {rest : List Oper} {dst : Option Tmp} {T : TypeId} {pos : String} {after : Array Edge} {a : Act} {w : World} {Q : Exit → Act → World → Prop} {lo co : Operand}
    (base n c : Nat) (hl : a.eval lo = .int .i64 (n : Int)) (hc : a.eval co = .int .i64 (c : Int)) (hnc : n ≤ c) (hm : c ≤ 100000) (hbase : base ≤ w.heap.size)
    (h : ∀ w', w'.ownsRow base 5 1 (.slice (some ⟨w.heap.size, 0, none⟩) n c) n (ints .u8 (List.replicate n 0)) → w.grownBy w' none → wpList Tryz.prog ops Q rest (a.put dst (.slice (some ⟨w.heap.size, 0, none⟩) n c)) w') :
    wpList Tryz.prog ops Q ({ dst := dst, op := .makeSlice 22 lo co, type := T, pos := pos, after := after, guard := none } :: rest) a w := by
  obtain ⟨i, hi, hsz, hby, hz⟩ := info5e
  have hr := run_make (P := Tryz.prog) w 22 5 i _ Tryz.underlying22 hi hz .i64 .i64 (n : Int) (c : Int) (by omega) (by omega) (by rw [hby]; omega) (by omega)
  simp only [Int.toNat_natCast, hsz, Nat.mul_one] at hr
  have e : (Value.int IntKind.u8 0).cells = #[.int .u8 0] := rfl
  rw [e, made_zeros] at hr
  have hw := h (w.alloc (.cells (arr .u8 (List.replicate c 0)) 5)) ⟨by simp [ints], .inr ⟨w.heap.size, c, arr .u8 (List.replicate c 0), rfl, hbase, heap_alloc_new w _, hnc, by unfold maxLen; omega, by rw [arr_size, List.length_replicate, Nat.mul_one], by
    rw [arr_list, Nat.mul_one]
    simp [ints, Nat.min_eq_left hnc]⟩⟩ (grownBy_alloc w _ none)
  refine wpList_plain rfl fun K' hK' => ?_
  unfold Oper.wp
  simp [execOp, hl, hc, hr, Result.andThen]
  exact hK' _ _ hw
theorem stop_make {P : Program} {ops : Array Oper} {rest : List Oper} {dst : Option Tmp} {T : TypeId} {pos : String} {after : Array Edge} {a : Act} {w : World} {Q : Exit → Act → World → Prop} (ty : TypeId) {x y : Operand}
    (h : Stop (wpList P ops Q ({ dst := dst, op := .makeSlice ty x y, type := T, pos := pos, after := after, guard := none } :: rest) a w)) :
    wpList P ops Q ({ dst := dst, op := .makeSlice ty x y, type := T, pos := pos, after := after, guard := none } :: rest) a w := h
theorem own_set {w : World} {base g n c i y : Nat} {l : List Nat} (h : w.ownsRow base 5 1 (.slice (some ⟨g, 0, none⟩) n c) n (ints .u8 l)) : (w.setCell ⟨g, i, none⟩ (.int .u8 (y : Nat))).ownsRow base 5 1 (.slice (some ⟨g, 0, none⟩) n c) n (ints .u8 (l.set i y)) := by
  obtain ⟨h1, ⟨e, _⟩ | ⟨g', cap, cur, e, hb, hh, hn, hm, hs, ht⟩⟩ := h
  · cases e
  · cases e
    have hset := heap_setCell_same w g i cur 5 (.int .u8 (y : Nat)) hh
    refine ⟨by simpa [ints] using h1, .inr ⟨g, c, cur.setIfInBounds i (.int .u8 (y : Nat)), rfl, hb, hset, hn, hm, by simpa using hs, ?_⟩⟩
    rw [Array.toList_setIfInBounds, List.take_set, ht]
    simp [ints]
theorem own_may {w : World} {base g n c : Nat} {xs : List Value} (h : w.ownsRow base 5 1 (.slice (some ⟨g, 0, none⟩) n c) n xs) (i : Nat) : w.frozen? ⟨g, i, none⟩ = false := by
  obtain ⟨_, ⟨e, _⟩ | ⟨g', cap, cur, e, _, hh, _⟩⟩ := h
  · cases e
  · cases e
    exact frozen_of_row _ _ _ _ _ hh
theorem own_at {w : World} {base g n c : Nat} {l : List Nat} (h : w.ownsRow base 5 1 (.slice (some ⟨g, 0, none⟩) n c) n (ints .u8 l)) (i : Nat) (hi : i < n) : w.cell? ⟨g, i, none⟩ = some (.int .u8 (Sp.nth l i : Nat)) := by
  have hl : l.length = n := by have := h.1; rw [ints_length] at this; omega
  obtain ⟨g', c', e, _, _, _, hr⟩ := own_cell h (by omega)
  cases e
  have := hr i _ (ints_get .u8 l i (by omega))
  rwa [Nat.zero_add] at this
theorem num_set (E : List Nat) (hE : E.length = 6) (i x : Nat) (hi : i < 6) (hx : Sp.nth E i = x) : (List.replicate (i + 1) 0 ++ E.drop (i + 1)).set i x = List.replicate i 0 ++ E.drop i := by
  have h1 : E.drop i = x :: E.drop (i + 1) := by
    rw [List.drop_eq_getElem_cons (by omega), ← hx]
    simp [Sp.nth, hE, hi]
  rw [h1, List.replicate_succ', List.append_assoc, List.set_append_right _ _ (by simp)]
  simp
theorem div_div256 (n k : Nat) : n / 256 ^ k / 256 = n / 256 ^ (k + 1) := by rw [Nat.div_div_eq_div_mul, Nat.pow_succ]
end Go.Proofs.YtfjdaafckiefdabGreatDoor.C8
