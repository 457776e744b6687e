/- The contract of SmallEntry. -/
import Derived.Test.YtigfiopmochliaaE9Eq
namespace Go.Proofs.Ytigfiopmochliaa.E9
open Go.RowKit C8
/-- It can be gone through with. -/
def small (e : En) : Bool := e.wraps.all (fun x => decide (x.2.length ≤ 100)) && (decide (e.name.length ≤ 100) && (decide (e.value.length ≤ 600) && decide (e.wraps.length ≤ 20)))
theorem small_of {e : En} (h : small e = true) : (∀ x ∈ e.wraps, x.2.length ≤ 100) ∧ e.name.length ≤ 100 ∧ e.value.length ≤ 600 ∧ e.wraps.length ≤ 20 := by
  unfold small at h
  simp only [Bool.and_eq_true, decide_eq_true_eq, List.all_eq_true] at h
  exact h
set_option maxHeartbeats 4000000 in
theorem small_any (a : En) (va : Value) (w : World) (ha : EnIs w va a) : Calls Try.prog 10 #[va] w fun e w' => e = .returned (.bool (small a)) ∧ Below w.heap.size w w' := by
  obtain ⟨np, nc, vp, vc, q, c, rfl, ha⟩ := ha
  have HA : Hid (WrRow w q a.wraps) := ha.wraps
  have ln := ha.ln
  have lv := ha.lv
  have lw := ha.lw
  clear ha
  obtain ⟨res, HR⟩ : ∃ res, Hid (small a = res) := ⟨_, rfl⟩
  rw [HR.out]
  replace HR : Hid ((a.wraps.all (fun x => decide (x.2.length ≤ 100)) && (decide (a.name.length ≤ 100) && (decide (a.value.length ≤ 600) && decide (a.wraps.length ≤ 20)))) = res) := HR.out
  obtain ⟨a1, a2, a3, a4, a5, a6, a7, a8, ws⟩ := a
  simp only [EnV] at HA ln lv lw HR ⊢
  obtain ⟨n9, HN⟩ : ∃ n, Hid (ws.length = n) := ⟨_, rfl⟩
  rw [HN.out] at lw HR ⊢
  generalize a4.length = n4 at *
  generalize a5.length = n5 at *
  have l1 : (n9 : Int) ≤ 9223372036854775807 := by omega
  have HB0 : Hid (Below w.heap.size w (w.alloc (.cells #[.int .i64 a1, .int .i64 a2, .int .i64 a3, .slice np n4 nc, .slice vp n5 vc, .int .i64 a6, .int .i64 a7, .int .i64 a8, .slice q n9 c] 30))) := bel_alloc (Nat.le_refl _) _
  have HX : Hid (∀ wr, Below (w.heap.size + 1) (w.alloc (.cells #[.int .i64 a1, .int .i64 a2, .int .i64 a3, .slice np n4 nc, .slice vp n5 vc, .int .i64 a6, .int .i64 a7, .int .i64 a8, .slice q n9 c] 30)) wr → wr.heap[w.heap.size]? = some (.cells #[.int .i64 a1, .int .i64 a2, .int .i64 a3, .slice np n4 nc, .slice vp n5 vc, .int .i64 a6, .int .i64 a7, .int .i64 a8, .slice q n9 c] 30 (0, 0))) := fun wr hb => (hb.block _ (Nat.lt_succ_self _)).trans (heap_alloc_new w _)
  go_enter Try.func10, Try.ntmps10
  go_wp2_with fail
  go_loopw [8] (fun i wr => ∃ j : Nat, j ≤ n9 ∧ i = .int .i64 j ∧ Hid (Below (w.heap.size + 1) (w.alloc (.cells #[.int .i64 a1, .int .i64 a2, .int .i64 a3, .slice np n4 nc, .slice vp n5 vc, .int .i64 a6, .int .i64 a7, .int .i64 a8, .slice q n9 c] 30)) wr) ∧ Hid ((ws.take j).all (fun x => decide (x.2.length ≤ 100)) = true)) (fun i _ => n9 - (intOf i).toNat)
  case atStart => exact ⟨0, by omega, rfl, Below.refl _ _, rfl⟩
  case round =>
    obtain ⟨j, hj, rfl, HBX, HE⟩ := hrel
    have HB : Hid (Below w.heap.size w wr) := HB0.out.trans (bel_le HBX.out (Nat.le_succ _))
    have HZ : Hid (w.heap.size + 1 ≤ wr.heap.size) := by have := HBX.out.size; simp at this; exact this
    by_cases hlt : j < n9
    · have ja : j < ws.length := by rw [HN.out]; exact hlt
      have HBA : Hid (∀ ob, Below (w.heap.size + 1) (w.alloc (.cells #[.int .i64 a1, .int .i64 a2, .int .i64 a3, .slice np n4 nc, .slice vp n5 vc, .int .i64 a6, .int .i64 a7, .int .i64 a8, .slice q n9 c] 30)) (wr.alloc ob)) := fun ob => HBX.out.trans (bel_alloc HZ.out ob)
      obtain ⟨b, o, bp, bc, rfl, k2, k3, k4, k5, k6⟩ := HA.out j ja
      have d0 := (HB.out.cell (p := ⟨b, o + j * 2, none⟩) k2).trans k3
      have d1 := (HB.out.cell (p := ⟨b, o + j * 2 + 1, none⟩) k2).trans k4
      have j1 : (j : Int) < (n9 : Int) := by omega
      have j0 : (0 : Int) ≤ (j : Int) := by omega
      have HBB : Hid (∀ ob, Below w.heap.size w (wr.alloc ob)) := fun ob => HB.out.trans (bel_alloc HB.out.size ob)
      have HT : Hid ((ws.take (j + 1)).all (fun x => decide (x.2.length ≤ 100)) = decide (ws[j].2.length ≤ 100)) := by
        show _ = _
        rw [List.take_succ_eq_append_getElem ja, List.all_append, HE.out]
        simp
      have HL : Hid (decide (ws[j].2.length ≤ 100) = false → res = false) := fun h => by
        rw [← HR.out]
        have : ws.all (fun x => decide (x.2.length ≤ 100)) = false := by
          rw [List.all_eq_false]
          exact ⟨ws[j], List.getElem_mem ja, by simpa using h⟩
        rw [this]
        rfl
      clear k3 k4 k5 HE HR
      generalize ws[j] = x at *
      obtain ⟨x1, x2⟩ := x
      simp only at d0 d1 HT HL k6
      generalize x2.length = xl at *
      clear ja
      by_cases hx : 100 < xl
      · have hx1 : (100 : Int) < (xl : Int) := by omega
        have HF : Hid (res = false) := HL.out (by simp; omega)
        clear HT HL HX
        go_wp2_with fail
        go_ret
        exact ⟨by rw [HF.out]; rfl, HBB.out _⟩
      · have hx1 : (xl : Int) ≤ 100 := by omega
        have HT2 : Hid ((ws.take (j + 1)).all (fun x => decide (x.2.length ≤ 100)) = true) := by show _ = _; rw [HT.out]; simp; omega
        clear HT HL HX
        go_wp2_with fail
        refine ⟨⟨j + 1, by omega, by simp, HBA.out _, HT2⟩, ?_⟩
        simp only [intOf]
        omega
    · obtain rfl : j = n9 := by omega
      have j1 : ¬ (j : Int) < (j : Int) := by omega
      have hh := HX.out wr HBX.out
      have d3 : wr.cell? ⟨w.heap.size, 3, none⟩ = some (.slice np n4 nc) := by rw [cell_of_row _ _ _ _ _ _ hh]; rfl
      have d4 : wr.cell? ⟨w.heap.size, 4, none⟩ = some (.slice vp n5 vc) := by rw [cell_of_row _ _ _ _ _ _ hh]; rfl
      have d8 : wr.cell? ⟨w.heap.size, 8, none⟩ = some (.slice q j c) := by rw [cell_of_row _ _ _ _ _ _ hh]; rfl
      replace HR : Hid ((decide (n4 ≤ 100) && (decide (n5 ≤ 600) && decide (j ≤ 20))) = res) := by
        have h1 := HE.out
        rw [List.take_of_length_le (by rw [HN.out]; omega)] at h1
        have := HR.out
        rw [h1] at this
        show _ = _
        simpa using this
      clear HE HX hh HN HA
      by_cases h4 : n4 ≤ 100
      · have h4i : (n4 : Int) ≤ 100 := by omega
        by_cases h5 : n5 ≤ 600
        · have h5i : (n5 : Int) ≤ 600 := by omega
          have HF : Hid (res = decide ((j : Int) ≤ 20)) := by
            show _ = _
            rw [← HR.out, decide_eq_true h4, decide_eq_true h5]
            simp
            omega
          clear HR
          go_wp2_with fail
          go_ret
          exact ⟨by rw [HF.out]; rfl, HB.out⟩
        · have h5i : ¬ (n5 : Int) ≤ 600 := by omega
          have HF : Hid (res = false) := by show _ = _; rw [← HR.out, decide_eq_false h5]; simp
          clear HR
          go_wp2_with fail
          go_ret
          exact ⟨by rw [HF.out]; rfl, HB.out⟩
      · have h4i : ¬ (n4 : Int) ≤ 100 := by omega
        have HF : Hid (res = false) := by show _ = _; rw [← HR.out, decide_eq_false h4]; simp
        clear HR
        go_wp2_with fail
        go_ret
        exact ⟨by rw [HF.out]; rfl, HB.out⟩
end Go.Proofs.Ytigfiopmochliaa.E9
