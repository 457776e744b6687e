/- The contract of without. -/
import Derived.Test.YtmlnbbggfjgacaaP10Readers
namespace Go.Proofs.Ytmlnbbggfjgacaa.P10
open Go.RowKit C8 E9
/-- All members but one. -/
def wout (ms : List (Int × Int)) (who : Int) : List (Int × Int) := ms.filter (fun m => decide (m.1 ≠ who))
theorem wout_take {ms : List (Int × Int)} {who : Int} {j : Nat} (h : j < ms.length) : wout (ms.take (j + 1)) who = wout (ms.take j) who ++ (if ms[j].1 ≠ who then [ms[j]] else []) := by
  unfold wout
  rw [List.take_succ_eq_append_getElem h, List.filter_append]
  congr 1
  by_cases h2 : ms[j].1 = who
  · simp [h2]
  · simp [h2]
theorem wout_le (ms : List (Int × Int)) (who : Int) : (wout ms who).length ≤ ms.length := List.length_filter_le _ _
set_option maxHeartbeats 4000000 in
theorem without_any (ms : List (Int × Int)) (q : Option Addr) (c : Nat) (who : Int) (w : World) (h : Mb w q ms) (hl : ms.length ≤ 1000) :
    Calls Try.prog 26 #[.slice q ms.length c, .int .i64 who] w fun e w' => ∃ v, e = .returned v ∧ w'.ownsRow w.heap.size 50 2 v (wout ms who).length (flatM (wout ms who)) ∧ Below w.heap.size w w' := by
  have HA : Hid (Mb w q ms) := h
  obtain ⟨n, HN⟩ : ∃ n, Hid (ms.length = n) := ⟨_, rfl⟩
  rw [HN.out] at hl
  rw [HN.out]
  clear h
  have l1 : (n : Int) ≤ 1000 := by omega
  go_enter Try.func26, Try.ntmps26
  go_wp2_with fail
  go_loopw [5, 10] (fun s i wr => ∃ (j : Nat) (qr : Option Addr) (nr cr : Nat), j ≤ n ∧ i = .int .i64 j ∧ s = .slice qr nr cr ∧ Hid (Below w.heap.size w wr ∧ nr = (wout (ms.take j) who).length ∧ wr.ownsRow w.heap.size 50 2 (.slice qr nr cr) nr (flatM (wout (ms.take j) who)))) (fun _ i _ => n - (intOf i).toNat)
  case atStart => exact ⟨0, none, 0, 0, by omega, rfl, rfl, Below.refl _ _, rfl, own_none _ _ _ _⟩
  case round =>
    obtain ⟨j, qr, nr, cr, hj, rfl, rfl, HJ⟩ := hrel
    by_cases hlt : j < n
    · have ja : j < ms.length := by rw [HN.out]; exact hlt
      obtain ⟨b, o, rfl, k2, k3, k4⟩ := HA.out j ja
      have d0 := (HJ.out.1.cell (p := ⟨b, o + j * 2, none⟩) k2).trans k3
      have d1 := (HJ.out.1.cell (p := ⟨b, o + j * 2 + 1, none⟩) k2).trans k4
      have j1 : (j : Int) < (n : Int) := by omega
      have j0 : (0 : Int) ≤ (j : Int) := by omega
      have HTK : Hid (wout (ms.take (j + 1)) who = wout (ms.take j) who ++ (if ms[j].1 ≠ who then [ms[j]] else [])) := wout_take ja
      have HNR : Hid (nr ≤ 1000) := by have := wout_le (ms.take j) who; have h2 := HJ.out.2.1; rw [List.length_take] at this; show nr ≤ 1000; omega
      have HBA : Hid (∀ ob, Below wr.heap.size wr (wr.alloc ob)) := fun ob => bel_alloc (Nat.le_refl _) ob
      clear k3 k4
      generalize ms[j] = x at *
      obtain ⟨x1, x2⟩ := x
      simp only at d0 d1 HTK
      clear ja
      by_cases hx : x1 = who
      · have hy2 : (x1 != who) = false := by simp [hx]
        rw [if_neg (by simp [hx]), List.append_nil] at HTK
        clear hx
        have HJ2 : Hid (∀ ob, Below w.heap.size w (wr.alloc ob) ∧ nr = (wout (ms.take (j + 1)) who).length ∧ (wr.alloc ob).ownsRow w.heap.size 50 2 (.slice qr nr cr) nr (flatM (wout (ms.take (j + 1)) who))) := fun ob => by
          rw [HTK.out]
          exact ⟨HJ.out.1.trans (bel_le (HBA.out ob) HJ.out.1.size), HJ.out.2.1, own_below HJ.out.2.2 (HBA.out ob)⟩
        clear HJ HTK HBA HNR
        go_wp2_with fail
        refine ⟨⟨j + 1, qr, nr, cr, by omega, by simp, rfl, HJ2.out _⟩, ?_⟩
        simp only [intOf]
        omega
      · have hy2 : (x1 != who) = true := by simp [hx]
        rw [if_pos hx] at HTK
        clear hx
        go_wp2_with (first | with_reducible (refine stop_builtin .append ?_))
        refine Stop.go ?_
        have hA : ∀ o1 o2, Below wr.heap.size wr ((wr.alloc o1).alloc o2) := fun o1 o2 => (bel_alloc (Nat.le_refl _) o1).trans (bel_alloc (by simp) o2)
        refine law_append_mb w.heap.size (.slice qr nr cr) nr (flatM (wout (ms.take j) who)) (wr.heap.size + 1) [.int .i64 x1, .int .i64 x2] rfl rfl rfl (own_below HJ.out.2.2 (hA _ _)) ?hr (by simp; exact ⟨rfl, rfl⟩) (by have := HNR.out; omega) (Nat.le_trans HJ.out.1.size (hA _ _).size) ?_
        case hr =>
          have hr0 := range_last (wr.alloc (.cells #[.int .i64 x1, .int .i64 x2] 50)) [.int .i64 x1, .int .i64 x2] 50
          rw [show (wr.alloc (.cells #[.int .i64 x1, .int .i64 x2] 50)).heap.size = wr.heap.size + 1 from by simp] at hr0
          exact hr0
        intro v2 w5 h1 h2
        obtain ⟨q5, c5, rfl⟩ := own_slice h1
        have hb5 := below_append (own_below HJ.out.2.2 (hA _ _)) h2 (Nat.le_trans HJ.out.1.size (hA _ _).size)
        have HJ2 : Hid (Below w.heap.size w w5 ∧ nr + 1 = (wout (ms.take (j + 1)) who).length ∧ w5.ownsRow w.heap.size 50 2 (.slice q5 (nr + 1) c5) (nr + 1) (flatM (wout (ms.take (j + 1)) who))) := by
          refine ⟨HJ.out.1.trans ((bel_le (hA _ _) HJ.out.1.size).trans hb5), ?_, ?_⟩
          · rw [HTK.out, List.length_append, ← HJ.out.2.1]; rfl
          · rw [HTK.out, flatM_append]
            exact h1
        clear h1 h2 hA hb5 HJ HTK HBA HNR
        go_wp2_with fail
        refine ⟨⟨j + 1, q5, nr + 1, c5, by omega, by simp, rfl, HJ2⟩, ?_⟩
        simp only [intOf]
        omega
    · obtain rfl : j = n := by omega
      have j1 : ¬ (j : Int) < (j : Int) := by omega
      have HF : Hid (∃ v, Value.slice qr nr cr = v ∧ wr.ownsRow w.heap.size 50 2 v (wout ms who).length (flatM (wout ms who)) ∧ Below w.heap.size w wr) := by
        have h1 := HJ.out
        rw [List.take_of_length_le (by rw [HN.out]; omega)] at h1
        refine ⟨_, rfl, ?_, h1.1⟩
        rw [← h1.2.1]
        exact h1.2.2
      clear HJ
      go_wp2_with fail
      go_ret
      obtain ⟨v, rfl, h1, h2⟩ := HF.out
      exact ⟨_, rfl, h1, h2⟩
end Go.Proofs.Ytmlnbbggfjgacaa.P10
