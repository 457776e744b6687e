/- The contracts of SortStableFunc and CompactFunc over members that rise, and of Clone. -/
import Derived.Test.YtmlnbbggfjgacaaP10Sort
namespace Go.Proofs.Ytmlnbbggfjgacaa.P10
open Go.RowKit C8 E9 Go.Sort Go.Shelf Go.Lib
/-- Members rise. -/
def Rise (ms : List (Int × Int)) : Prop := ∀ i j, i < j → (hj : j < ms.length) → (hi : i < ms.length) → ms[i].1 < ms[j].1
set_option maxHeartbeats 1000000 in
theorem insert_any (B : Nat) (q : Option Addr) (n c : Nat) (ms : List (Int × Int)) (w : World) (h : MbOwn B w (.slice q n c) ms) (h0 : ms ≠ []) (hl : ms.length ≤ 1000) :
    Calls Try.prog 52 #[.slice q n c, .int .i64 0, .int .i64 n, .func (.func 28) #[] #[]] w fun e w' => e = .returned (.tuple #[]) ∧ ∃ ms' g, q = some ⟨g, 0, none⟩ ∧ MbOwn B w' (.slice q n c) ms' ∧ ms'.Perm ms ∧ (∀ i j, i < j → (hj : j < ms'.length) → (hi : i < ms'.length) → ms'[i].1 ≤ ms'[j].1) ∧ Only [g] w w' ∧ B ≤ g := by
  obtain ⟨q', c', e, h⟩ := h
  cases e
  rcases h with h | ⟨g, rfl, hg, hlt, hh⟩
  · exact absurd h h0
  have eg : ∀ args w, (callFunc 28 args).run Try.prog w = .ok (.enter 28 args) w := enters_of Try.func28 (by kernel_rfl) rfl
  have hsz : ms.toArray.size = ms.length := by simp
  have hcon := AnyQ.insertionSortCmpFunc { Try.sortMb with } 2 Try.isAgg50 Try.sizeOf50 encM (fun _ => rfl) (fun x v hv => by simp [encM] at hv; rcases hv with rfl | rfl <;> rfl) cfM 28 #[] g 0 c 0 ms.length ms.toArray w eg (cmpLays28 g 0 _ w) hh hlt (Nat.zero_le _) (by omega) (by omega)
  rw [hsz] at hcon
  refine Calls.mono (show Calls Try.prog 52 _ _ _ from hcon) ?_
  rintro e w' ⟨rfl, n', os, rfl⟩
  obtain ⟨hp, hs⟩ := insertionSort_holds (lt := ltOf cfM) swoM ms.toArray 0 ms.length (Nat.zero_le _) (by omega)
  generalize Sort.insertionSort (ltOf cfM) ms.toArray 0 ms.length = d' at hp hs ⊢
  refine ⟨rfl, d'.toList, g, rfl, ⟨_, c, ?_, .inr ⟨g, rfl, hg, ?_, ?_⟩⟩, ?_, ?_, sortW_only, hg⟩
  · rw [show d'.toList.length = ms.length from by rw [Array.length_toList, hp.1]; simp]
  · exact Nat.lt_of_lt_of_le hlt (sortW_only (w := w) (g := g) (n := n') (d := d') (os := os)).size
  · have hz : d'.size = ms.toArray.size := hp.1
    have h1 : HoldsK encM 2 (putRowK encM 2 (Sort.ahead w n') g 0 d') g 0 d' := holdsK_putRowK encM 2 _ g 0 ms.toArray d' hh hz
    have h2 := holdsK_grow encM 2 _ os g 0 d' (by simpa [putRowK, putRow, mapBlock, Sort.ahead] using hlt) h1
    simpa [sortWorldK] using h2
  · have h3 := hp.2.2
    have e1 : (d'.extract 0 ms.length).toList = d'.toList := by
      rw [Array.extract_eq_self_of_le (by rw [hp.1]; simp)]
    have e2 : (ms.toArray.extract 0 ms.length).toList = ms := by
      rw [Array.extract_eq_self_of_le (by simp)]
    rw [e1, e2] at h3
    exact h3
  · intro i j hij hj hi
    have hz : d'.size = ms.length := by rw [hp.1]; simp
    have hj' : j < d'.size := by simpa using hj
    have hi' : i < d'.size := by simpa using hi
    have := hs i j (Nat.zero_le _) hij (by omega)
    rw [ltM, getElem!_pos d' j hj', getElem!_pos d' i hi'] at this
    simp only [decide_eq_false_iff_not] at this
    simp only [Array.getElem_toList]
    omega
/-- A list that is sorted by its numbers and has the same members as one that rises is that one. -/
theorem rise_cons {m : Int × Int} {r : List (Int × Int)} (h : Rise (m :: r)) : Rise r ∧ ∀ x ∈ r, m.1 < x.1 := by
  refine ⟨fun i j hij hj hi => ?_, fun x hx => ?_⟩
  · exact h (i + 1) (j + 1) (by omega) (by simpa using hj) (by simpa using hi)
  · obtain ⟨j, hj, rfl⟩ := List.getElem_of_mem hx
    exact h 0 (j + 1) (by omega) (by simpa using hj) (by simp)
theorem sorted_cons {m : Int × Int} {r : List (Int × Int)} (h : ∀ i j, i < j → (hj : j < (m :: r).length) → (hi : i < (m :: r).length) → (m :: r)[i].1 ≤ (m :: r)[j].1) : (∀ i j, i < j → (hj : j < r.length) → (hi : i < r.length) → r[i].1 ≤ r[j].1) ∧ ∀ x ∈ r, m.1 ≤ x.1 := by
  refine ⟨fun i j hij hj hi => ?_, fun x hx => ?_⟩
  · exact h (i + 1) (j + 1) (by omega) (by simpa using hj) (by simpa using hi)
  · obtain ⟨j, hj, rfl⟩ := List.getElem_of_mem hx
    exact h 0 (j + 1) (by omega) (by simpa using hj) (by simp)
theorem rise_same : ∀ {a b : List (Int × Int)}, Rise b → a.Perm b → (∀ i j, i < j → (hj : j < a.length) → (hi : i < a.length) → a[i].1 ≤ a[j].1) → a = b
  | [], b, _, hp, _ => (List.Perm.eq_nil hp.symm).symm
  | x :: a, [], _, hp, _ => absurd hp.eq_nil (by simp)
  | x :: a, y :: b, hb, hp, hs => by
    obtain ⟨hb1, hb2⟩ := rise_cons hb
    obtain ⟨hs1, hs2⟩ := sorted_cons hs
    have hx : x = y := by
      rcases List.mem_cons.1 (hp.mem_iff.1 List.mem_cons_self) with h | h
      · exact h
      · rcases List.mem_cons.1 (hp.mem_iff.2 (List.mem_cons_self (a := y) (l := b))) with h' | h'
        · exact h'.symm
        · have := hb2 x h
          have := hs2 y h'
          omega
    subst hx
    rw [rise_same hb1 (List.Perm.cons_inv hp) hs1]
set_option maxHeartbeats 4000000 in
theorem stable_any (B : Nat) (q : Option Addr) (n c : Nat) (ms : List (Int × Int)) (w : World) (h : MbOwn B w (.slice q n c) ms) (h0 : ms ≠ []) (hr : Rise ms) (hl : ms.length ≤ 16) :
    Calls Try.prog 35 #[.slice q n c, .func (.func 28) #[] #[]] w fun e w' => e = .returned (.tuple #[]) ∧ MbOwn B w' (.slice q n c) ms ∧ Below B w w' := by
  have hn : n = ms.length := h.mb.1
  have hB : B ≤ w.heap.size := by
    obtain ⟨q', c', e, h⟩ := h
    rcases h with h | ⟨g, _, hg, hlt, _⟩
    · exact absurd h h0
    · omega
  have HI : ∀ W, W = w → Calls Try.prog 52 #[.slice q n c, .int .i64 0, .int .i64 n, .func (.func 28) #[] #[]] W fun e w' => e = .returned (.tuple #[]) ∧ Hid (MbOwn B w' (.slice q n c) ms ∧ Below B w w') := by
    rintro W rfl
    refine (insert_any B q n c ms W h h0 (by omega)).mono ?_
    rintro e w' ⟨rfl, ms', g, rfl, h1, h2, h3, h4, h5⟩
    rw [rise_same hr h2 h3] at h1
    exact ⟨rfl, h1, h4.below hB (by simp; omega)⟩
  have n1 : (n : Int) ≤ 16 := by omega
  clear h h0 hr hB hn hl
  have H47 : Calls Try.prog 47 #[.slice q n c, .int .i64 n, .func (.func 28) #[] #[]] w fun e w' => e = .returned (.tuple #[]) ∧ Hid (MbOwn B w' (.slice q n c) ms ∧ Below B w w') := by
    go_enter Try.func47, Try.ntmps47
    go_wp2_with fail
    go_loopw [7, 8] (fun a b wr => a = .int .i64 0 ∧ b = .int .i64 20 ∧ Hid (wr = w)) (fun _ _ _ => 0)
    case atStart => exact ⟨rfl, rfl, rfl⟩
    case round =>
      obtain ⟨rfl, rfl, HW⟩ := hrel
      have n2 : ¬ (20 : Int) ≤ (n : Int) := by omega
      go_wp2_with fail
      refine (HI _ HW.out).mono ?_
      rintro e w1 ⟨rfl, S1⟩
      go_wp2_with fail
      go_loopw [6, 7, 8, 9] (fun a b d f wr => a = .int .i64 20 ∧ Hid (MbOwn B wr (.slice q n c) ms ∧ Below B w wr)) (fun _ _ _ _ _ => 0)
      case atStart => exact ⟨rfl, S1⟩
      case round =>
        obtain ⟨rfl, S2⟩ := hrel
        have n3 : ¬ (20 : Int) < (n : Int) := by omega
        go_wp2_with fail
        go_end0
        exact ⟨rfl, S2⟩
  go_enter Try.func35, Try.ntmps35
  go_wp2_with (first | (go_at_call 47; refine H47.mono ?_; rintro e w1 ⟨rfl, S1⟩))
  go_end0
  exact ⟨rfl, S1.out⟩
end Go.Proofs.Ytmlnbbggfjgacaa.P10
