/- Members that are sorted, and that are looked at two by two: the contracts of byWho, sameWho, SortFunc, SortStableFunc, CompactFunc, Clone. -/
import Derived.Test.YtmlnbbggfjgacaaP10Leaf
namespace Go.Proofs.Ytmlnbbggfjgacaa.P10
open Go.RowKit C8 E9 Go.Sort Go.Shelf Go.Lib
def encM (x : Int × Int) : List Value := [.int .i64 x.1, .int .i64 x.2]
def cfM (x y : Int × Int) : Int := Lib.compareInt x.1 y.1
set_option maxHeartbeats 1000000 in
theorem isNaN_any (x : Int) (w : World) : Calls Try.prog 62 #[.int .i64 x] w fun e w' => e = .returned (.bool false) ∧ w' = w := by
  have hx : (x != x) = false := by simp
  go_enter Try.func62, Try.ntmps62
  go_wp2_with fail
  go_ret
  exact ⟨rfl, rfl⟩
set_option maxHeartbeats 1000000 in
theorem Compare_any (x y : Int) (w : World) : Calls Try.prog 44 #[.int .i64 x, .int .i64 y] w fun e w' => e = .returned (.int .i64 (Lib.compareInt x y)) ∧ w' = w := by
  have HX : ∀ W, Calls Try.prog 62 #[.int .i64 x] W fun e w' => e = .returned (.bool false) ∧ w' = W := fun W => isNaN_any x W
  have HY : ∀ W, Calls Try.prog 62 #[.int .i64 y] W fun e w' => e = .returned (.bool false) ∧ w' = W := fun W => isNaN_any y W
  by_cases h1 : x < y
  · rw [show Lib.compareInt x y = -1 from by unfold Lib.compareInt; rw [if_pos h1]]
    go_enter Try.func44, Try.ntmps44
    go_wp2_with (first | (go_at_call 62; with_reducible refine (HX _).mono ?_; rintro e w1 ⟨rfl, rfl⟩) | (go_at_call 62; with_reducible refine (HY _).mono ?_; rintro e w1 ⟨rfl, rfl⟩))
    go_ret
    exact ⟨rfl, rfl⟩
  · by_cases h2 : y < x
    · rw [show Lib.compareInt x y = 1 from by unfold Lib.compareInt; rw [if_neg h1, if_pos h2]]
      go_enter Try.func44, Try.ntmps44
      go_wp2_with (first | (go_at_call 62; with_reducible refine (HX _).mono ?_; rintro e w1 ⟨rfl, rfl⟩) | (go_at_call 62; with_reducible refine (HY _).mono ?_; rintro e w1 ⟨rfl, rfl⟩))
      go_ret
      exact ⟨rfl, rfl⟩
    · rw [show Lib.compareInt x y = 0 from by unfold Lib.compareInt; rw [if_neg h1, if_neg h2]]
      go_enter Try.func44, Try.ntmps44
      go_wp2_with (first | (go_at_call 62; with_reducible refine (HX _).mono ?_; rintro e w1 ⟨rfl, rfl⟩) | (go_at_call 62; with_reducible refine (HY _).mono ?_; rintro e w1 ⟨rfl, rfl⟩))
      go_ret
      exact ⟨rfl, rfl⟩
set_option maxHeartbeats 1000000 in
theorem byWho_any (x y : Int × Int) (W : World) : Calls Try.prog 28 #[.agg #[.int .i64 x.1, .int .i64 x.2], .agg #[.int .i64 y.1, .int .i64 y.2]] W fun e w' => e = .returned (.int .i64 (cfM x y)) ∧ ∃ q os', w' = grow (W.drewN q) os' := by
  have hcon := fun W' => Compare_any x.1 y.1 W'
  unfold cfM
  generalize Lib.compareInt x.1 y.1 = r at hcon ⊢
  go_enter Try.func28, Try.ntmps28
  go_wp2_with (go_at_call 44; refine (hcon _).mono ?_; rintro e w' ⟨rfl, rfl⟩)
  go_ret
  exact ⟨rfl, 0, _, by rw [alloc_eq_grow, alloc_eq_grow, grow_grow]; rfl⟩
set_option maxHeartbeats 1000000 in
theorem sameWho_no (x y : Int × Int) (W : World) (h : x.1 ≠ y.1) : Calls Try.prog 37 #[.agg #[.int .i64 x.1, .int .i64 x.2], .agg #[.int .i64 y.1, .int .i64 y.2]] W fun e w' => e = .returned (.bool false) ∧ ∃ q os', w' = grow (W.drewN q) os' := by
  have hh : (x.1 == y.1) = false := by simp [h]
  go_enter Try.func37, Try.ntmps37
  go_wp2_with fail
  go_ret
  exact ⟨rfl, 0, _, by rw [alloc_eq_grow, alloc_eq_grow, grow_grow]; rfl⟩
theorem cmpLays28 (blk off size : Nat) (w : World) : CmpLays Try.prog 28 #[] encM 2 cfM blk off size w :=
  fun _ _ _ _ x y => byWho_any x y _
theorem ltM (x y : Int × Int) : ltOf cfM x y = decide (x.1 < y.1) := by
  unfold ltOf cfM Lib.compareInt
  by_cases h1 : x.1 < y.1
  · simp [h1]
  · by_cases h2 : y.1 < x.1 <;> simp [h1, h2]
theorem swoM : SWO (ltOf cfM) where
  irrefl x := by rw [ltM]; simp
  trans x y z h1 h2 := by rw [ltM] at *; simp at *; omega
  ntrans x y z h1 h2 := by rw [ltM] at *; simp at *; omega
/-- The cells of members. -/
def flatM : List (Int × Int) → List Value
  | [] => []
  | m :: r => .int .i64 m.1 :: .int .i64 m.2 :: flatM r
theorem flatM_len : ∀ ms, (flatM ms).length = ms.length * 2
  | [] => rfl
  | m :: r => by rw [flatM, List.length_cons, List.length_cons, flatM_len r, List.length_cons]; omega
theorem flatM_append : ∀ a b, flatM (a ++ b) = flatM a ++ flatM b
  | [], _ => rfl
  | m :: r, b => by rw [List.cons_append, flatM, flatM, flatM_append r b]; rfl
theorem flatM_at : ∀ (ms : List (Int × Int)) (j : Nat) (h : j < ms.length), (flatM ms)[j * 2]? = some (.int .i64 ms[j].1) ∧ (flatM ms)[j * 2 + 1]? = some (.int .i64 ms[j].2)
  | [], j, h => absurd h (by simp)
  | m :: r, 0, _ => ⟨rfl, rfl⟩
  | m :: r, j + 1, h => by
    have := flatM_at r j (by simpa using h)
    rw [show (j + 1) * 2 = j * 2 + 1 + 1 from by omega, flatM]
    simpa using this
/-- Members in a row of one's own, from B on. -/
def MbOwn (B : Nat) (w : World) (v : Value) (ms : List (Int × Int)) : Prop :=
  ∃ q c, v = .slice q ms.length c ∧ (ms = [] ∨ ∃ g, q = some ⟨g, 0, none⟩ ∧ B ≤ g ∧ g < w.heap.size ∧ HoldsK encM 2 w g 0 ms.toArray)
theorem holds_flat {w : World} {g : Nat} {ms : List (Int × Int)} (h : ∀ t x, (flatM ms)[t]? = some x → w.cell? ⟨g, t, none⟩ = some x ∧ w.frozen? ⟨g, t, none⟩ = false) : HoldsK encM 2 w g 0 ms.toArray := by
  intro t ht
  have ht' : t < ms.length * 2 := by simpa using ht
  have hj : t / 2 < ms.length := by omega
  rw [get_flatK _ _ _ t (by simpa using ht'), Nat.zero_add]
  have e := flatM_at ms (t / 2) hj
  have hd : (ms.toArray)[t / 2]! = ms[t / 2] := by rw [getElem!_pos _ _ (by simpa using hj)]; simp
  rw [hd]
  rcases Nat.mod_two_eq_zero_or_one t with h0 | h0
  · rw [h0]
    have := h t _ (by rw [← e.1]; congr 1; omega)
    exact this
  · rw [h0]
    have := h t _ (by rw [← e.2]; congr 1; omega)
    exact this
theorem MbOwn.of_own {w : World} {B n : Nat} {v : Value} {ms : List (Int × Int)} (h : w.ownsRow B 50 2 v n (flatM ms)) (hn : ms.length = n) : MbOwn B w v ms := by
  subst hn
  obtain ⟨hl, ⟨rfl, h0⟩ | ⟨g, cap, cur, rfl, hg, hh, hnc, hm, hc, ht⟩⟩ := h
  · exact ⟨none, 0, by rw [h0], .inl (List.eq_nil_of_length_eq_zero h0)⟩
  · refine ⟨_, cap, rfl, ?_⟩
    by_cases h0 : ms = []
    · exact .inl h0
    · refine .inr ⟨g, rfl, hg, (Array.getElem?_eq_some_iff.1 hh).1, holds_flat (fun t x hx => ?_)⟩
      have hlt := (List.getElem?_eq_some_iff.1 hx).1
      rw [flatM_len] at hlt
      refine ⟨?_, frozen_of_row _ _ _ _ _ hh⟩
      rw [cell_of_row _ _ _ _ _ _ hh]
      rw [← ht, List.getElem?_take_of_lt (by omega)] at hx
      simpa using hx
theorem MbOwn.mb {w : World} {B : Nat} {q : Option Addr} {n c : Nat} {ms : List (Int × Int)} (h : MbOwn B w (.slice q n c) ms) : n = ms.length ∧ Mb w q ms := by
  obtain ⟨q', c', e, h⟩ := h
  cases e
  refine ⟨rfl, fun j hj => ?_⟩
  rcases h with rfl | ⟨g, rfl, hg, hl, hh⟩
  · cases hj
  · have c0 := (hh.cell (i := j) (c := 0) (by simpa using hj) (by omega)).1
    have c1 := (hh.cell (i := j) (c := 1) (by simpa using hj) (by omega)).1
    have hd : (ms.toArray)[j]! = ms[j] := by rw [getElem!_pos _ _ (by simpa using hj)]; simp
    rw [hd] at c0 c1
    refine ⟨g, 0, rfl, hl, ?_, ?_⟩
    · simpa [encM] using c0
    · simpa [encM] using c1
theorem sortW_only {w : World} {g n : Nat} {d : Array (Int × Int)} {os : Array Obj} : Only [g] w (sortWorldK encM 2 w g 0 n d os) := by
  refine ⟨rfl, rfl, rfl, ?_, fun k hk hn => ?_⟩
  · simp [sortWorldK, putRowK, putRow, mapBlock, grow, Sort.ahead]
  · have hk' : k ≠ g := by simpa using hn
    simp only [sortWorldK, putRowK, putRow, mapBlock, grow, Sort.ahead]
    rw [Array.getElem?_append_left (by simpa using hk), Array.getElem?_modify, if_neg (Ne.symm hk')]
set_option maxHeartbeats 1000000 in
theorem sort_any (B : Nat) (q : Option Addr) (n c : Nat) (ms : List (Int × Int)) (w : World) (h : MbOwn B w (.slice q n c) ms) (h0 : ms ≠ []) (hl : ms.length ≤ 1000) :
    Calls Try.prog 27 #[.slice q n c, .func (.func 28) #[] #[]] w fun e w' => e = .returned (.tuple #[]) ∧ ∃ ms' g, q = some ⟨g, 0, none⟩ ∧ MbOwn B w' (.slice q n c) ms' ∧ ms'.Perm ms ∧ (∀ i j, i < j → (hj : j < ms'.length) → (hi : i < ms'.length) → ms'[i].1 ≤ ms'[j].1) ∧ Only [g] w w' ∧ B ≤ g := by
  obtain ⟨q', c', e, h⟩ := h
  cases e
  rcases h with h | ⟨g, rfl, hg, hlt, hh⟩
  · exact absurd h h0
  have eg : ∀ args w, (callFunc 28 args).run Try.prog w = .ok (.enter 28 args) w := enters_of Try.func28 (by kernel_rfl) rfl
  have hsz : ms.toArray.size = ms.length := by simp
  have hcon := AnyQ.slices_SortFunc Try.sortMb 2 Try.isAgg50 Try.sizeOf50 encM (fun _ => rfl) (fun x v hv => by simp [encM] at hv; rcases hv with rfl | rfl <;> rfl) cfM swoM 28 #[] g 0 c ms.toArray w eg (cmpLays28 g 0 _ w) hh hlt (by omega)
  rw [hsz] at hcon
  refine Calls.mono (show Calls Try.prog 27 _ _ _ from hcon) ?_
  rintro e w' ⟨rfl, d', n', os, hp, hs, rfl⟩
  refine ⟨rfl, d'.toList, g, rfl, ⟨_, c, ?_, .inr ⟨g, rfl, hg, ?_, ?_⟩⟩, ?_, ?_, sortW_only, hg⟩
  · rw [show d'.toList.length = ms.length from by rw [Array.length_toList, hp.1]; simp]
  · exact Nat.lt_of_lt_of_le hlt (sortW_only (w := w) (g := g) (n := n') (d := d') (os := os)).size
  · have hz : d'.size = ms.toArray.size := hp.1
    have h1 : HoldsK encM 2 (putRowK encM 2 (Sort.ahead w n') g 0 d') g 0 d' := holdsK_putRowK encM 2 _ g 0 ms.toArray d' hh hz
    have h2 := holdsK_grow encM 2 _ os g 0 d' (by simpa [putRowK, putRow, mapBlock, Sort.ahead] using hlt) h1
    simpa [sortWorldK] using h2
  · have h3 := hp.2.2
    have e1 : (d'.extract 0 ms.length).toList = d'.toList := by
      rw [Array.extract_eq_self_of_le (by rw [hp.1]; simp)]
    have e2 : (ms.toArray.extract 0 ms.length).toList = ms := by
      rw [Array.extract_eq_self_of_le (by simp)]
    rw [e1, e2] at h3
    exact h3
  · intro i j hij hj hi
    have hz : d'.size = ms.length := by rw [hp.1]; simp
    have hj' : j < d'.size := by simpa using hj
    have hi' : i < d'.size := by simpa using hi
    have := hs i j (Nat.zero_le _) hij (by omega)
    rw [ltM, getElem!_pos d' j hj', getElem!_pos d' i hi'] at this
    simp only [decide_eq_false_iff_not] at this
    simp only [Array.getElem_toList]
    omega
end Go.Proofs.Ytmlnbbggfjgacaa.P10
