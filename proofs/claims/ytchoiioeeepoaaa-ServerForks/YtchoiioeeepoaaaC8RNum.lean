/- The contracts of the document's Num and Text, and how a part is read. -/
import Derived.Test.YtchoiioeeepoaaaC8Put2
import Derived.Test.YtchoiioeeepoaaaC8Ref2
import Derived.Test.YtchoiioeeepoaaaC8Text
import Derived.Test.YtchoiioeeepoaaaC8St
import Derived.Laws.MakeOwn
namespace Go.Proofs.Ytchoiioeeepoaaa.C8
open Go.RowKit
theorem law_make {ops : Array Oper} {rest : List Oper} {dst : Option Tmp} {T : TypeId} {pos : String} {after : Array Edge} {a : Act} {w : World} {Q : Exit → Act → World → Prop} {lo co : Operand}
    (base n c : Nat) (hl : a.eval lo = .int .i64 (n : Int)) (hc : a.eval co = .int .i64 (c : Int)) (hnc : n ≤ c) (hm : c ≤ 100000) (hbase : base ≤ w.heap.size)
    (h : ∀ w', w'.ownsRow base 5 1 (.slice (some ⟨w.heap.size, 0, none⟩) n c) n (ints .u8 (List.replicate n 0)) → w.grownBy w' none → wpList Try.prog ops Q rest (a.put dst (.slice (some ⟨w.heap.size, 0, none⟩) n c)) w') :
    wpList Try.prog ops Q ({ dst := dst, op := .makeSlice 32 lo co, type := T, pos := pos, after := after, guard := none } :: rest) a w := by
  obtain ⟨i, hi, hsz, hby, hz⟩ := info5e
  have hr := run_make (P := Try.prog) w 32 5 i _ Try.underlying32 hi hz .i64 .i64 (n : Int) (c : Int) (by omega) (by omega) (by rw [hby]; omega) (by omega)
  simp only [Int.toNat_natCast, hsz, Nat.mul_one] at hr
  have e : (Value.int IntKind.u8 0).cells = #[.int .u8 0] := rfl
  rw [e, made_zeros] at hr
  have hw := h (w.alloc (.cells (arr .u8 (List.replicate c 0)) 5)) ⟨by simp [ints], .inr ⟨w.heap.size, c, arr .u8 (List.replicate c 0), rfl, hbase, heap_alloc_new w _, hnc, by unfold maxLen; omega, by rw [arr_size, List.length_replicate, Nat.mul_one], by
    rw [arr_list, Nat.mul_one]
    simp [ints, Nat.min_eq_left hnc]⟩⟩ (grownBy_alloc w _ none)
  refine wpList_plain rfl fun K' hK' => ?_
  unfold Oper.wp
  simp [execOp, hl, hc, hr, Result.andThen]
  exact hK' _ _ hw
theorem stop_make {P : Program} {ops : Array Oper} {rest : List Oper} {dst : Option Tmp} {T : TypeId} {pos : String} {after : Array Edge} {a : Act} {w : World} {Q : Exit → Act → World → Prop} (ty : TypeId) {x y : Operand}
    (h : Stop (wpList P ops Q ({ dst := dst, op := .makeSlice ty x y, type := T, pos := pos, after := after, guard := none } :: rest) a w)) :
    wpList P ops Q ({ dst := dst, op := .makeSlice ty x y, type := T, pos := pos, after := after, guard := none } :: rest) a w := h
theorem own_set {w : World} {base g n c i y : Nat} {l : List Nat} (h : w.ownsRow base 5 1 (.slice (some ⟨g, 0, none⟩) n c) n (ints .u8 l)) : (w.setCell ⟨g, i, none⟩ (.int .u8 (y : Nat))).ownsRow base 5 1 (.slice (some ⟨g, 0, none⟩) n c) n (ints .u8 (l.set i y)) := by
  obtain ⟨h1, ⟨e, _⟩ | ⟨g', cap, cur, e, hb, hh, hn, hm, hs, ht⟩⟩ := h
  · cases e
  · cases e
    have hset := heap_setCell_same w g i cur 5 (.int .u8 (y : Nat)) hh
    refine ⟨by simpa [ints] using h1, .inr ⟨g, c, cur.setIfInBounds i (.int .u8 (y : Nat)), rfl, hb, hset, hn, hm, by simpa using hs, ?_⟩⟩
    rw [Array.toList_setIfInBounds, List.take_set, ht]
    simp [ints]
theorem own_may {w : World} {base g n c : Nat} {xs : List Value} (h : w.ownsRow base 5 1 (.slice (some ⟨g, 0, none⟩) n c) n xs) (i : Nat) : w.frozen? ⟨g, i, none⟩ = false := by
  obtain ⟨_, ⟨e, _⟩ | ⟨g', cap, cur, e, _, hh, _⟩⟩ := h
  · cases e
  · cases e
    exact frozen_of_row _ _ _ _ _ hh
theorem own_at {w : World} {base g n c : Nat} {l : List Nat} (h : w.ownsRow base 5 1 (.slice (some ⟨g, 0, none⟩) n c) n (ints .u8 l)) (i : Nat) (hi : i < n) : w.cell? ⟨g, i, none⟩ = some (.int .u8 (Sp.nth l i : Nat)) := by
  have hl : l.length = n := by have := h.1; rw [ints_length] at this; omega
  obtain ⟨g', c', e, _, _, _, hr⟩ := own_cell h (by omega)
  cases e
  have := hr i _ (ints_get .u8 l i (by omega))
  rwa [Nat.zero_add] at this
theorem num_set (E : List Nat) (hE : E.length = 6) (i x : Nat) (hi : i < 6) (hx : Sp.nth E i = x) : (List.replicate (i + 1) 0 ++ E.drop (i + 1)).set i x = List.replicate i 0 ++ E.drop i := by
  have h1 : E.drop i = x :: E.drop (i + 1) := by
    rw [List.drop_eq_getElem_cons (by omega), ← hx]
    simp [Sp.nth, hE, hi]
  rw [h1, List.replicate_succ', List.append_assoc, List.set_append_right _ _ (by simp)]
  simp
theorem div_div256 (n k : Nat) : n / 256 ^ k / 256 = n / 256 ^ (k + 1) := by rw [Nat.div_div_eq_div_mul, Nat.pow_succ]
set_option maxHeartbeats 2000000 in
theorem RefNum_any (n : Nat) (w : World) (hn : n ≤ 1099511627776) :
    Calls Try.prog 23 #[.int .i64 (n : Int)] w fun e w' => ∃ v, e = .returned v ∧ w'.ownsRow w.heap.size 5 1 v 6 (ints .u8 (Cd.be 6 n)) ∧ Below w.heap.size w w' := by
  have HEL : Hid ((Cd.be 6 n).length = 6) := Cd.be_length 6 n
  have HEN : Hid (∀ i, i < 6 → Sp.nth (Cd.be 6 n) i = n / 256 ^ (5 - i) % 256) := fun i hi => be_nth 6 i n hi
  obtain ⟨E, HE⟩ : ∃ E, Hid (Cd.be 6 n = E) := ⟨_, rfl⟩
  rw [HE.out] at HEL HEN ⊢
  have HLE : Hid (∀ k, n / 256 ^ k ≤ 1099511627776) := fun k => Nat.le_trans (Nat.div_le_self _ _) hn
  clear HE
  go_enter Try.func23, Try.ntmps23
  go_wp2_with (first | with_reducible (refine stop_make 32 ?_))
  refine Stop.go ?_
  refine law_make w.heap.size 6 6 rfl rfl (by decide) (by decide) (Nat.le_refl _) ?_
  intro w1 ho1 hg1
  have HO1 : Hid (w1.ownsRow w.heap.size 5 1 (.slice (some ⟨w.heap.size, 0, none⟩) 6 6) 6 (ints .u8 (List.replicate 6 0))) := ho1
  have HB1 : Hid (Below w.heap.size w w1) := (Below.refl w.heap.size w).grown hg1 (Nat.le_refl _) (fun k hk => by cases hk)
  clear ho1 hg1
  go_wp2_with fail
  go_loopw [0, 4] (fun m i wr => ∃ k : Nat, k ≤ 6 ∧ i = .int .i64 (5 - (k : Int)) ∧ m = .int .i64 ((n / 256 ^ k : Nat) : Int) ∧ Hid (wr.ownsRow w.heap.size 5 1 (.slice (some ⟨w.heap.size, 0, none⟩) 6 6) 6 (ints .u8 (List.replicate (6 - k) 0 ++ E.drop (6 - k)))) ∧ Hid (Below w.heap.size w wr)) (fun _ i _ => (intOf i + 1).toNat)
  case atStart =>
    have h0 : w1.ownsRow w.heap.size 5 1 (.slice (some ⟨w.heap.size, 0, none⟩) 6 6) 6 (ints .u8 (List.replicate (6 - 0) 0 ++ E.drop (6 - 0))) := by
      rw [List.drop_eq_nil_of_le (by rw [HEL.out]; omega), List.append_nil]
      exact HO1.out
    exact ⟨0, by omega, by simp, by simp, h0, HB1.out⟩
  case round =>
    obtain ⟨k, hk, rfl, rfl, HO, HB⟩ := hrel
    by_cases hlt : k < 6
    · obtain ⟨i, HI⟩ : ∃ i : Nat, Hid (i + k = 5) := ⟨5 - k, by show _ = _; omega⟩
      have ei : 5 - (k : Int) = (i : Int) := by have := HI.out; omega
      rw [ei]
      have hm := HLE.out k
      obtain ⟨x, HXX⟩ : ∃ x, Hid (n / 256 ^ k % 256 = x) := ⟨_, rfl⟩
      have HX : Hid (Sp.nth E i = x) := by
        have := HEN.out i (by have := HI.out; omega)
        rw [show 5 - i = k from by have := HI.out; omega, HXX.out] at this
        exact this
      have hxi : ((n / 256 ^ k : Nat) : Int) % 256 = (x : Int) := by rw [← HXX.out]; omega
      have HD : Hid (n / 256 ^ k / 256 = n / 256 ^ (k + 1)) := div_div256 n k
      have i5 : (i : Int) < 6 := by have := HI.out; omega
      have i0 : (0 : Int) ≤ (i : Int) := by omega
      have hc := own_at HO.out i (by have := HI.out; omega)
      have hf := own_may HO.out i
      have HEI : Hid ((i : Int) - 1 = 5 - ((k + 1 : Nat) : Int)) := by show _ = _; have := HI.out; omega
      have HO2 : Hid ((wr.setCell ⟨w.heap.size, i, none⟩ (.int .u8 (x : Int))).ownsRow w.heap.size 5 1 (.slice (some ⟨w.heap.size, 0, none⟩) 6 6) 6 (ints .u8 (List.replicate (6 - (k + 1)) 0 ++ E.drop (6 - (k + 1))))) := by
        have h1 := own_set (i := i) (y := x) HO.out
        rw [show 6 - k = i + 1 from by have := HI.out; omega, num_set E HEL.out i _ (by have := HI.out; omega) HX.out] at h1
        rw [show 6 - (k + 1) = i from by have := HI.out; omega]
        exact h1
      have HB2 : Hid (Below w.heap.size w (wr.setCell ⟨w.heap.size, i, none⟩ (.int .u8 (x : Int)))) := HB.out.setCell (Nat.le_refl _) _
      generalize n / 256 ^ k = m at *
      have HD2 : Hid (((m : Int) / 256) = ((n / 256 ^ (k + 1) : Nat) : Int)) := by show _ = _; rw [← HD.out]; omega
      clear HO HB HX HD ei HXX
      have m0 : (0 : Int) ≤ (m : Int) := by omega
      have m1 : (m : Int) ≤ 1099511627776 := by omega
      go_wp2_with fail
      go_roundw
      case rel =>
        first
          | exact ⟨k + 1, by omega, by rw [← HEI.out], by rw [← HD2.out], HO2.out, HB2.out⟩
          | ((repeat apply Exists.intro)
             refine ⟨⟨k + 1, by omega, ?_, ?_, HO2.out, HB2.out⟩, rfl⟩
             · rw [← HEI.out]
             · rw [← HD2.out])
      case measure => simp [intOf]
    · obtain rfl : k = 6 := by omega
      have HO6 : Hid (wr.ownsRow w.heap.size 5 1 (.slice (some ⟨w.heap.size, 0, none⟩) 6 6) 6 (ints .u8 E)) := HO.out
      clear HO
      have e0 : 5 - ((6 : Nat) : Int) = -1 := by omega
      rw [e0]
      clear e0
      go_wp2_with fail
      go_ret
      exact ⟨_, rfl, HO6.out, HB.out⟩
end Go.Proofs.Ytchoiioeeepoaaa.C8
