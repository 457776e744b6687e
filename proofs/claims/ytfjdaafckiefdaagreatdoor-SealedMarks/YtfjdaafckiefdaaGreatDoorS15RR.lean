/- The document's Numbers and Right of records. -/
import Derived.Test.YtfjdaafckiefdaaGreatDoorS15Same
namespace Go.Proofs.YtfjdaafckiefdaaGreatDoor.S15
open Go.RowKit C8 E9
set_option maxHeartbeats 2000000 in
theorem rNumbers_any (r : Rec) (q : Option Addr) (c : Nat) (w : World) : Calls Tryz.prog 28 #[.agg (RecV r q c)] w fun e w' => e = .returned (.bool (rnum r)) ∧ Below w.heap.size w w' := by
  obtain ⟨a1, a2, a3, a4, a5⟩ := r
  have HB : Hid (∀ o1, Below w.heap.size w (w.alloc o1)) := fun o1 => (Below.refl _ w).alloc (Nat.le_refl _) o1
  obtain ⟨R, HR⟩ : ∃ R, Hid (rnum ⟨a1, a2, a3, a4, a5⟩ = R) := ⟨_, rfl⟩
  show Calls Tryz.prog _ _ w fun e w' => e = .returned (.bool (rnum ⟨a1, a2, a3, a4, a5⟩)) ∧ _
  rw [HR.out]
  have HI := hid (rnum_iff ⟨a1, a2, a3, a4, a5⟩)
  show Calls Tryz.prog _ #[.agg #[.int .i64 a1, .int .i64 a2, .int .i64 a3, .int .i64 a4, .slice q a5.length c]] w _
  generalize a5.length = n5 at *
  by_cases h0 : 1 ≤ a1
  case neg =>
    obtain rfl : R = false := by
      rw [← HR.out, Bool.eq_false_iff]
      intro h
      have := HI.out.1 h
      simp only at this
      omega
    clear HI HR
    go_enter Tryz.func28, Tryz.ntmps28
    go_wp2_with fail
    go_ret
    exact ⟨rfl, HB.out _⟩
  by_cases h1 : a1 ≤ 1099511627776
  case neg =>
    obtain rfl : R = false := by
      rw [← HR.out, Bool.eq_false_iff]
      intro h
      have := HI.out.1 h
      simp only at this
      omega
    clear HI HR
    go_enter Tryz.func28, Tryz.ntmps28
    go_wp2_with fail
    go_ret
    exact ⟨rfl, HB.out _⟩
  by_cases h2 : 0 ≤ a2
  case neg =>
    obtain rfl : R = false := by
      rw [← HR.out, Bool.eq_false_iff]
      intro h
      have := HI.out.1 h
      simp only at this
      omega
    clear HI HR
    go_enter Tryz.func28, Tryz.ntmps28
    go_wp2_with fail
    go_ret
    exact ⟨rfl, HB.out _⟩
  by_cases h3 : a2 ≤ 16
  case neg =>
    obtain rfl : R = false := by
      rw [← HR.out, Bool.eq_false_iff]
      intro h
      have := HI.out.1 h
      simp only at this
      omega
    clear HI HR
    go_enter Tryz.func28, Tryz.ntmps28
    go_wp2_with fail
    go_ret
    exact ⟨rfl, HB.out _⟩
  by_cases h4 : 1 ≤ a3
  case neg =>
    obtain rfl : R = false := by
      rw [← HR.out, Bool.eq_false_iff]
      intro h
      have := HI.out.1 h
      simp only at this
      omega
    clear HI HR
    go_enter Tryz.func28, Tryz.ntmps28
    go_wp2_with fail
    go_ret
    exact ⟨rfl, HB.out _⟩
  by_cases h5 : a3 ≤ 16
  case neg =>
    obtain rfl : R = false := by
      rw [← HR.out, Bool.eq_false_iff]
      intro h
      have := HI.out.1 h
      simp only at this
      omega
    clear HI HR
    go_enter Tryz.func28, Tryz.ntmps28
    go_wp2_with fail
    go_ret
    exact ⟨rfl, HB.out _⟩
  by_cases h6 : 1 ≤ a4
  case neg =>
    obtain rfl : R = false := by
      rw [← HR.out, Bool.eq_false_iff]
      intro h
      have := HI.out.1 h
      simp only at this
      omega
    clear HI HR
    go_enter Tryz.func28, Tryz.ntmps28
    go_wp2_with fail
    go_ret
    exact ⟨rfl, HB.out _⟩
  by_cases h7 : a4 ≤ 1099511627776
  case neg =>
    obtain rfl : R = false := by
      rw [← HR.out, Bool.eq_false_iff]
      intro h
      have := HI.out.1 h
      simp only at this
      omega
    clear HI HR
    go_enter Tryz.func28, Tryz.ntmps28
    go_wp2_with fail
    go_ret
    exact ⟨rfl, HB.out _⟩
  obtain rfl : R = true := by rw [← HR.out]; exact HI.out.2 ⟨⟨h0, h1⟩, ⟨h2, h3⟩, ⟨h4, h5⟩, h6, h7⟩
  clear HI HR
  go_enter Tryz.func28, Tryz.ntmps28
  go_wp2_with fail
  go_ret
  exact ⟨rfl, HB.out _⟩
set_option maxHeartbeats 2000000 in
theorem rRight_any (r : Rec) (q : Option Addr) (c : Nat) (w : World) : Calls Tryz.prog 12 #[.agg (RecV r q c)] w fun e w' => e = .returned (.bool (rright r)) ∧ Below w.heap.size w w' := by
  have HN : Hid (∀ w1, Calls Tryz.prog 28 #[.agg #[.int .i64 r.coll, .int .i64 r.epoch, .int .i64 r.writer, .int .i64 r.count, .slice q r.box.length c]] w1 fun e w' => e = .returned (.bool (rnum r)) ∧ Below w1.heap.size w1 w') := fun w1 => rNumbers_any r q c w1
  obtain ⟨R, HR⟩ : ∃ R, Hid (rright r = R) := ⟨_, rfl⟩
  obtain ⟨b1, H1⟩ : ∃ b, Hid (rnum r = b) := ⟨_, rfl⟩
  have HQ : Hid (R = (b1 && decide (80 ≤ r.box.length ∧ r.box.length ≤ 2064))) := by
    show R = _
    rw [← HR.out, ← H1.out]
    rfl
  rw [HR.out]
  rw [H1.out] at HN
  clear HR H1
  show Calls Tryz.prog _ #[.agg #[.int .i64 r.coll, .int .i64 r.epoch, .int .i64 r.writer, .int .i64 r.count, .slice q r.box.length c]] w _
  generalize r.box.length = n5 at *
  generalize r.coll = a1 at *
  generalize r.epoch = a2 at *
  generalize r.writer = a3 at *
  generalize r.count = a4 at *
  have HB : Hid (∀ o1 w', Below (w.alloc o1).heap.size (w.alloc o1) w' → Below w.heap.size w w') := fun o1 w' hb => ((Below.refl _ w).alloc (Nat.le_refl _) o1).trans (hb.mono (by simp))
  have HC : Hid (∀ cs w', Below (w.alloc (.cells cs 26)).heap.size (w.alloc (.cells cs 26)) w' → w'.heap[w.heap.size]? = some (.cells cs 26 (0, 0))) := fun cs w' hb => (hb.block w.heap.size (by simp)).trans (heap_alloc_new w _)
  cases b1 with
  | false =>
    go_enter Tryz.func12, Tryz.ntmps12
    go_wp2_with fail
    refine (HN.out _).mono ?_
    rintro e w1 ⟨rfl, hb⟩
    have HZ : Hid (Below w.heap.size w w1) := HB.out _ _ hb
    clear hb HN HC HB
    go_wp2_with fail
    go_ret
    exact ⟨by rw [HQ.out]; rfl, HZ.out⟩
  | true =>
    by_cases h1 : 80 ≤ (n5 : Int)
    · by_cases h2 : (n5 : Int) ≤ 2064
      · obtain rfl : R = true := by rw [HQ.out]; simp; omega
        go_enter Tryz.func12, Tryz.ntmps12
        go_wp2_with fail
        refine (HN.out _).mono ?_
        rintro e w1 ⟨rfl, hb⟩
        have c4 : w1.cell? ⟨w.heap.size, 4, none⟩ = some (.slice q n5 c) := by rw [cell_of_row _ _ _ _ _ _ (HC.out _ _ hb)]; rfl
        have HZ : Hid (Below w.heap.size w w1) := HB.out _ _ hb
        clear hb HN HC HB HQ
        go_wp2_with fail
        go_ret
        exact ⟨rfl, HZ.out⟩
      · obtain rfl : R = false := by rw [HQ.out]; simp; omega
        go_enter Tryz.func12, Tryz.ntmps12
        go_wp2_with fail
        refine (HN.out _).mono ?_
        rintro e w1 ⟨rfl, hb⟩
        have c4 : w1.cell? ⟨w.heap.size, 4, none⟩ = some (.slice q n5 c) := by rw [cell_of_row _ _ _ _ _ _ (HC.out _ _ hb)]; rfl
        have HZ : Hid (Below w.heap.size w w1) := HB.out _ _ hb
        clear hb HN HC HB HQ
        go_wp2_with fail
        go_ret
        exact ⟨by show Ending.returned (.bool (decide ((n5 : Int) ≤ 2064))) = _; rw [decide_eq_false (by omega)], HZ.out⟩
    · obtain rfl : R = false := by rw [HQ.out]; simp; omega
      go_enter Tryz.func12, Tryz.ntmps12
      go_wp2_with fail
      refine (HN.out _).mono ?_
      rintro e w1 ⟨rfl, hb⟩
      have c4 : w1.cell? ⟨w.heap.size, 4, none⟩ = some (.slice q n5 c) := by rw [cell_of_row _ _ _ _ _ _ (HC.out _ _ hb)]; rfl
      have HZ : Hid (Below w.heap.size w w1) := HB.out _ _ hb
      clear hb HN HC HB HQ
      go_wp2_with fail
      go_ret
      exact ⟨rfl, HZ.out⟩
end Go.Proofs.YtfjdaafckiefdaaGreatDoor.S15
