/- The contract of the document's Same. -/
import Derived.Test.YtigfiopmochliaaD11Ref
import Derived.Deep.QuietTactic
import Derived.BigQuiet
namespace Go.Proofs.Ytigfiopmochliaa.D11
open Go.RowKit C8 E9
def RsSays (w : World) (L M : Col) (e : Ending) (w' : World) : Prop := e = .returned (.bool (decide (L = M))) ∧ Below w.heap.size w w'
theorem take_snoc_eq {L M : Col} {j : Nat} (h1 : j < L.length) (h2 : j < M.length) (h : L.take j = M.take j) (e1 : L[j].1 = M[j].1) (e2 : L[j].2 = M[j].2) : L.take (j + 1) = M.take (j + 1) := by
  rw [List.take_succ_eq_append_getElem h1, List.take_succ_eq_append_getElem h2, h, Prod.ext e1 e2]
set_option maxHeartbeats 8000000 in
theorem rSame_any (w : World) (q q' : Option Addr) (n m c c' : Nat) (L M : Col) (h : DkRow w q L) (h' : DkRow w q' M) (hn : L.length = n) (hm : M.length = m) (hf : n ≤ 1000000) (hg : m ≤ 1000000) :
    Calls Try.prog 16 #[.slice q n c, .slice q' m c'] w fun e w' => RsSays w L M e w' := by
  by_cases hnm : n = m
  · subst hnm
    have HA : Hid (DkRow w q L) := h
    have HA' : Hid (DkRow w q' M) := h'
    have HN : Hid (L.length = n) := hn
    have HM : Hid (M.length = n) := hm
    have hnb : (n : Int) ≤ 1000000 := by omega
    have hn0 : (0 : Int) ≤ (n : Int) := by omega
    have HRF : Hid (∀ w', L ≠ M → Below w.heap.size w w' → RsSays w L M (.returned (.bool false)) w') := fun w' hne hb => ⟨by rw [decide_eq_false hne], hb⟩
    have HRT : Hid (∀ w', L = M → Below w.heap.size w w' → RsSays w L M (.returned (.bool true)) w') := fun w' he hb => ⟨by rw [decide_eq_true he], hb⟩
    clear h h' hn hm hg
    go_enter Try.func16, Try.ntmps16
    go_wp2_with fail
    go_loopw [5] (fun i wr => ∃ j : Nat, j ≤ n ∧ i = .int .i64 j ∧ Hid (Below w.heap.size w wr) ∧ Hid (L.take j = M.take j)) (fun i _ => n - (intOf i).toNat)
    case atStart => exact ⟨0, by omega, rfl, Below.refl _ _, rfl⟩
    case round =>
      obtain ⟨j, hj, rfl, HB, HI⟩ := hrel
      by_cases hlt : j < n
      · have ja : j < L.length := by rw [HN.out]; exact hlt
        have jb : j < M.length := by rw [HM.out]; exact hlt
        obtain ⟨b, o, np, nc, vp, vc, rfl, k2, k3, k4, k5, k6⟩ := HA.out j ja
        obtain ⟨b', o', np', nc', vp', vc', rfl, k2', k3', k4', k5', k6'⟩ := HA'.out j jb
        have d0 := (HB.out.cell (p := ⟨b, o + j * 2, none⟩) k2).trans k3
        have d1 := (HB.out.cell (p := ⟨b, o + j * 2 + 1, none⟩) k2).trans k4
        have d0' := (HB.out.cell (p := ⟨b', o' + j * 2, none⟩) k2').trans k3'
        have d1' := (HB.out.cell (p := ⟨b', o' + j * 2 + 1, none⟩) k2').trans k4'
        have j1 : (j : Int) < (n : Int) := by omega
        have j0 : (0 : Int) ≤ (j : Int) := by omega
        have hx1 := conv_src (w := wr.drew) (show Src wr _ _ from k5.below HB.out)
        have hx2 := conv_src (w := wr.drew) (show Src wr _ _ from k5'.below HB.out)
        have hx3 := conv_src (w := wr.drew) (show Src wr _ _ from k6.below HB.out)
        have hx4 := conv_src (w := wr.drew) (show Src wr _ _ from k6'.below HB.out)
        have hq1 := strB_beqL k5.small k5'.small
        have hq2 := strB_beqL k6.small k6'.small
        have HB2 : Hid (Below w.heap.size w wr.drew) := HB.out.trans (C8.below_drewN 1 wr _)
        by_cases he : L[j].1 = M[j].1
        · by_cases he2 : L[j].2 = M[j].2
          · have HI2 : Hid (L.take (j + 1) = M.take (j + 1)) := take_snoc_eq ja jb HI.out he he2
            rw [decide_eq_true he] at hq1
            rw [decide_eq_true he2] at hq2
            clear k3 k4 k5 k6 k3' k4' k5' k6' he he2
            generalize strB L[j].1 = s1 at *
            generalize strB M[j].1 = s2 at *
            generalize strB L[j].2 = s3 at *
            generalize strB M[j].2 = s4 at *
            generalize L[j].1.length = l1 at *
            generalize M[j].1.length = l2 at *
            generalize L[j].2.length = l3 at *
            generalize M[j].2.length = l4 at *
            clear ja jb
            go_wp2_with fail
            go_region
            all_goals go_wp2_with fail
            all_goals refine ⟨⟨j + 1, by omega, by simp, HB2, HI2⟩, ?_⟩
            all_goals simp only [intOf]
            all_goals omega
          · have HE : Hid (L ≠ M) := fun e => he2 (by subst e; rfl)
            rw [decide_eq_true he] at hq1
            rw [decide_eq_false he2] at hq2
            clear k3 k4 k5 k6 k3' k4' k5' k6' he he2
            generalize strB L[j].1 = s1 at *
            generalize strB M[j].1 = s2 at *
            generalize strB L[j].2 = s3 at *
            generalize strB M[j].2 = s4 at *
            generalize L[j].1.length = l1 at *
            generalize M[j].1.length = l2 at *
            generalize L[j].2.length = l3 at *
            generalize M[j].2.length = l4 at *
            clear ja jb
            go_wp2_with fail
            go_region
            all_goals go_wp2_with fail
            all_goals go_ret
            all_goals exact HRF.out _ HE.out HB2.out
        · have HE : Hid (L ≠ M) := fun e => he (by subst e; rfl)
          rw [decide_eq_false he] at hq1
          clear k3 k4 k5 k6 k3' k4' k5' k6' he hq2
          generalize strB L[j].1 = s1 at *
          generalize strB M[j].1 = s2 at *
          generalize strB L[j].2 = s3 at *
          generalize strB M[j].2 = s4 at *
          generalize L[j].1.length = l1 at *
          generalize M[j].1.length = l2 at *
          generalize L[j].2.length = l3 at *
          generalize M[j].2.length = l4 at *
          clear ja jb
          go_wp2_with fail
          go_region
          all_goals go_wp2_with fail
          all_goals go_ret
          all_goals exact HRF.out _ HE.out HB2.out
      · obtain rfl : j = n := by omega
        have j1 : ¬ (j : Int) < (j : Int) := by omega
        have HE : Hid (L = M) := by
          have := HI.out
          rw [List.take_of_length_le (by rw [HN.out]; omega), List.take_of_length_le (by rw [HM.out]; omega)] at this
          exact this
        go_wp2_with fail
        go_ret
        exact HRT.out _ HE.out HB.out
  · have hne : ¬ ((n : Int) = (m : Int)) := by omega
    have HR : Hid (RsSays w L M (.returned (.bool false)) w) := ⟨by rw [decide_eq_false (fun e => hnm (by rw [← hn, ← hm, e]))], Below.refl _ _⟩
    clear h h' hn hm hf hg hnm
    go_enter Try.func16, Try.ntmps16
    go_wp2_with fail
    go_ret
    exact HR.out
end Go.Proofs.Ytigfiopmochliaa.D11
