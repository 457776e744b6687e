/- The document's Same. -/
import Derived.Test.YtchoiioeeepoaaaF17Leaf
import Derived.Deep.QuietTactic
import Derived.BigQuiet
import Derived.BigRegion
namespace Go.Proofs.Ytchoiioeeepoaaa.F17
open Go.RowKit C8 E9
set_option maxHeartbeats 4000000 in
theorem rs_no1 (w : World) (a b : Fr) (q : Option Addr) (c : Nat) (sp : Option Addr) (sc : Nat) (q' : Option Addr) (c' : Nat) (sp' : Option Addr) (sc' : Nat)  (hn : ¬ a.kind = b.kind) : Calls Try.prog 32 #[.agg (FrV a q c sp sc), .agg (FrV b q' c' sp' sc')] w fun e w' => e = .returned (.bool false) ∧ Below w.heap.size w w' := by
  have HB : Hid (∀ o1 o2, Below w.heap.size w ((w.alloc o1).alloc o2)) := fun o1 o2 => (bel_alloc (Nat.le_refl _) o1).trans (bel_alloc (by simp) o2)
  obtain ⟨a1, a2, a3, a4, a5⟩ := a
  obtain ⟨b1, b2, b3, b4, b5⟩ := b
  simp only [FrV] at *
  have z : (a1 == b1) = false := by simp [hn]
  generalize a4.length = n3 at *
  generalize b4.length = m3 at *
  generalize a5.length = n4 at *
  generalize b5.length = m4 at *
  go_enter Try.func32, Try.ntmps32
  go_wp2_with fail
  go_ret
  exact ⟨rfl, HB.out _ _⟩
set_option maxHeartbeats 4000000 in
theorem rs_no2 (w : World) (a b : Fr) (q : Option Addr) (c : Nat) (sp : Option Addr) (sc : Nat) (q' : Option Addr) (c' : Nat) (sp' : Option Addr) (sc' : Nat) (h1 : a.kind = b.kind) (hn : ¬ a.coll = b.coll) : Calls Try.prog 32 #[.agg (FrV a q c sp sc), .agg (FrV b q' c' sp' sc')] w fun e w' => e = .returned (.bool false) ∧ Below w.heap.size w w' := by
  have HB : Hid (∀ o1 o2, Below w.heap.size w ((w.alloc o1).alloc o2)) := fun o1 o2 => (bel_alloc (Nat.le_refl _) o1).trans (bel_alloc (by simp) o2)
  obtain ⟨a1, a2, a3, a4, a5⟩ := a
  obtain ⟨b1, b2, b3, b4, b5⟩ := b
  simp only [FrV] at *
  subst h1
  have z : (a2 == b2) = false := by simp [hn]
  generalize a4.length = n3 at *
  generalize b4.length = m3 at *
  generalize a5.length = n4 at *
  generalize b5.length = m4 at *
  go_enter Try.func32, Try.ntmps32
  go_wp2_with fail
  go_ret
  exact ⟨rfl, HB.out _ _⟩
set_option maxHeartbeats 4000000 in
theorem rs_no3 (w : World) (a b : Fr) (q : Option Addr) (c : Nat) (sp : Option Addr) (sc : Nat) (q' : Option Addr) (c' : Nat) (sp' : Option Addr) (sc' : Nat) (h1 : a.kind = b.kind) (h2 : a.coll = b.coll) (hn : ¬ a.idx = b.idx) : Calls Try.prog 32 #[.agg (FrV a q c sp sc), .agg (FrV b q' c' sp' sc')] w fun e w' => e = .returned (.bool false) ∧ Below w.heap.size w w' := by
  have HB : Hid (∀ o1 o2, Below w.heap.size w ((w.alloc o1).alloc o2)) := fun o1 o2 => (bel_alloc (Nat.le_refl _) o1).trans (bel_alloc (by simp) o2)
  obtain ⟨a1, a2, a3, a4, a5⟩ := a
  obtain ⟨b1, b2, b3, b4, b5⟩ := b
  simp only [FrV] at *
  subst h1 h2
  have z : (a3 == b3) = false := by simp [hn]
  generalize a4.length = n3 at *
  generalize b4.length = m3 at *
  generalize a5.length = n4 at *
  generalize b5.length = m4 at *
  go_enter Try.func32, Try.ntmps32
  go_wp2_with fail
  go_ret
  exact ⟨rfl, HB.out _ _⟩
set_option maxHeartbeats 4000000 in
theorem rs_no4 (w : World) (a b : Fr) (q : Option Addr) (c : Nat) (sp : Option Addr) (sc : Nat) (q' : Option Addr) (c' : Nat) (sp' : Option Addr) (sc' : Nat) (ha : FrAt w a q sp sc) (hb : FrAt w b q' sp' sc') (h1 : a.kind = b.kind) (h2 : a.coll = b.coll) (h3 : a.idx = b.idx) (hn : ¬ a.sum = b.sum) : Calls Try.prog 32 #[.agg (FrV a q c sp sc), .agg (FrV b q' c' sp' sc')] w fun e w' => e = .returned (.bool false) ∧ Below w.heap.size w w' := by
  have HB : Hid (∀ o1 o2, Below w.heap.size w ((w.alloc o1).alloc o2)) := fun o1 o2 => (bel_alloc (Nat.le_refl _) o1).trans (bel_alloc (by simp) o2)
  have cv1 : ∀ o1 o2, (convert 32 9 (.slice sp a.sum.length sc)).run Try.prog ((w.alloc o1).alloc o2) = .ok (.string (strB a.sum)) ((w.alloc o1).alloc o2) := fun o1 o2 => conv_src (ha.sum.below (HB.out o1 o2))
  have cv2 : ∀ o1 o2, (convert 32 9 (.slice sp' b.sum.length sc')).run Try.prog ((w.alloc o1).alloc o2) = .ok (.string (strB b.sum)) ((w.alloc o1).alloc o2) := fun o1 o2 => conv_src (hb.sum.below (HB.out o1 o2))
  have hq : ((strB a.sum).toList == (strB b.sum).toList) = decide (a.sum = b.sum) := strB_beqL ha.sum.small hb.sum.small
  clear ha hb
  rw [decide_eq_false hn] at hq
  obtain ⟨a1, a2, a3, a4, a5⟩ := a
  obtain ⟨b1, b2, b3, b4, b5⟩ := b
  simp only [FrV] at *
  subst h1 h2 h3
  clear hn
  generalize a4.length = n3 at *
  generalize b4.length = m3 at *
  generalize strB a5 = sa at *
  generalize strB b5 = sb at *
  generalize a5.length = n4 at *
  generalize b5.length = m4 at *
  go_enter Try.func32, Try.ntmps32
  go_wp2_with fail
  go_ret
  exact ⟨rfl, HB.out _ _⟩
set_option maxHeartbeats 4000000 in
theorem rs_no5 (w : World) (a b : Fr) (q : Option Addr) (c : Nat) (sp : Option Addr) (sc : Nat) (q' : Option Addr) (c' : Nat) (sp' : Option Addr) (sc' : Nat) (ha : FrAt w a q sp sc) (hb : FrAt w b q' sp' sc') (h1 : a.kind = b.kind) (h2 : a.coll = b.coll) (h3 : a.idx = b.idx) (h4 : a.sum = b.sum) (hn : ¬ a.links.length = b.links.length) : Calls Try.prog 32 #[.agg (FrV a q c sp sc), .agg (FrV b q' c' sp' sc')] w fun e w' => e = .returned (.bool false) ∧ Below w.heap.size w w' := by
  have HB : Hid (∀ o1 o2, Below w.heap.size w ((w.alloc o1).alloc o2)) := fun o1 o2 => (bel_alloc (Nat.le_refl _) o1).trans (bel_alloc (by simp) o2)
  have cv1 : ∀ o1 o2, (convert 32 9 (.slice sp a.sum.length sc)).run Try.prog ((w.alloc o1).alloc o2) = .ok (.string (strB a.sum)) ((w.alloc o1).alloc o2) := fun o1 o2 => conv_src (ha.sum.below (HB.out o1 o2))
  have cv2 : ∀ o1 o2, (convert 32 9 (.slice sp' b.sum.length sc')).run Try.prog ((w.alloc o1).alloc o2) = .ok (.string (strB b.sum)) ((w.alloc o1).alloc o2) := fun o1 o2 => conv_src (hb.sum.below (HB.out o1 o2))
  have hq : ((strB a.sum).toList == (strB b.sum).toList) = decide (a.sum = b.sum) := strB_beqL ha.sum.small hb.sum.small
  clear ha hb
  rw [decide_eq_true h4] at hq
  obtain ⟨a1, a2, a3, a4, a5⟩ := a
  obtain ⟨b1, b2, b3, b4, b5⟩ := b
  simp only [FrV] at *
  subst h1 h2 h3
  clear h4
  have z1 : ¬ (a4.length : Int) = (b4.length : Int) := by omega
  have z2 : ((a4.length : Int) == (b4.length : Int)) = false := by simp; omega
  clear hn
  generalize a4.length = n3 at *
  generalize b4.length = m3 at *
  generalize strB a5 = sa at *
  generalize strB b5 = sb at *
  generalize a5.length = n4 at *
  generalize b5.length = m4 at *
  go_enter Try.func32, Try.ntmps32
  go_wp2_with fail
  go_ret
  exact ⟨rfl, HB.out _ _⟩
set_option maxHeartbeats 8000000 in
theorem rs_loop (w : World) (a b : Fr) (q : Option Addr) (c : Nat) (sp : Option Addr) (sc : Nat) (q' : Option Addr) (c' : Nat) (sp' : Option Addr) (sc' : Nat) (ha : FrAt w a q sp sc) (hb : FrAt w b q' sp' sc') (h1 : a.kind = b.kind) (h2 : a.coll = b.coll) (h3 : a.idx = b.idx) (h4 : a.sum = b.sum) (h5 : a.links.length = b.links.length) : Calls Try.prog 32 #[.agg (FrV a q c sp sc), .agg (FrV b q' c' sp' sc')] w fun e w' => e = .returned (.bool (decide (a.links = b.links))) ∧ Below w.heap.size w w' := by
  have HB : Hid (∀ o1 o2, Below w.heap.size w ((w.alloc o1).alloc o2)) := fun o1 o2 => (bel_alloc (Nat.le_refl _) o1).trans (bel_alloc (by simp) o2)
  have cv1 : ∀ o1 o2, (convert 32 9 (.slice sp a.sum.length sc)).run Try.prog ((w.alloc o1).alloc o2) = .ok (.string (strB a.sum)) ((w.alloc o1).alloc o2) := fun o1 o2 => conv_src (ha.sum.below (HB.out o1 o2))
  have cv2 : ∀ o1 o2, (convert 32 9 (.slice sp' b.sum.length sc')).run Try.prog ((w.alloc o1).alloc o2) = .ok (.string (strB b.sum)) ((w.alloc o1).alloc o2) := fun o1 o2 => conv_src (hb.sum.below (HB.out o1 o2))
  have hq : ((strB a.sum).toList == (strB b.sum).toList) = decide (a.sum = b.sum) := strB_beqL ha.sum.small hb.sum.small
  have HA : Hid (LkRow w q a.links) := ha.links
  have HBR : Hid (LkRow w q' b.links) := hb.links
  have lw := ha.ll
  rw [decide_eq_true h4] at hq
  clear ha hb h4
  obtain ⟨a1, a2, a3, wa, a5⟩ := a
  obtain ⟨b1, b2, b3, wb, b5⟩ := b
  simp only [FrV] at *
  subst h1 h2 h3
  obtain ⟨res, HR⟩ : ∃ res, Hid (decide (wa = wb) = res) := ⟨_, rfl⟩
  obtain ⟨n, HN⟩ : ∃ n, Hid (wa.length = n) := ⟨_, rfl⟩
  have HM : Hid (wb.length = n) := h5.symm.trans HN.out
  rw [HN.out] at lw
  rw [HR.out, HN.out, HM.out]
  clear h5
  have l1 : (n : Int) ≤ 9223372036854775807 := by omega
  generalize strB a5 = sa at *
  generalize strB b5 = sb at *
  generalize a5.length = n4 at *
  generalize b5.length = m4 at *
  have HC2 : Hid (((w.alloc (.cells #[.int .i64 a1, .int .i64 a2, .int .i64 a3, .slice q n c, .slice sp n4 sc] 37)).alloc (.cells #[.int .i64 a1, .int .i64 a2, .int .i64 a3, .slice q' n c', .slice sp' m4 sc'] 37)).heap[w.heap.size]? = some (.cells #[.int .i64 a1, .int .i64 a2, .int .i64 a3, .slice q n c, .slice sp n4 sc] 37 (0, 0))) := heap_alloc2_old w _ _
  have HC3 : Hid (((w.alloc (.cells #[.int .i64 a1, .int .i64 a2, .int .i64 a3, .slice q n c, .slice sp n4 sc] 37)).alloc (.cells #[.int .i64 a1, .int .i64 a2, .int .i64 a3, .slice q' n c', .slice sp' m4 sc'] 37)).heap[w.heap.size + 1]? = some (.cells #[.int .i64 a1, .int .i64 a2, .int .i64 a3, .slice q' n c', .slice sp' m4 sc'] 37 (0, 0))) := heap_alloc2_new w _ _
  have HB2 : Hid (Below w.heap.size w ((w.alloc (.cells #[.int .i64 a1, .int .i64 a2, .int .i64 a3, .slice q n c, .slice sp n4 sc] 37)).alloc (.cells #[.int .i64 a1, .int .i64 a2, .int .i64 a3, .slice q' n c', .slice sp' m4 sc'] 37))) := HB.out _ _
  go_enter Try.func32, Try.ntmps32
  go_wp2_with fail
  obtain ⟨W2, HW2⟩ : ∃ W2, Hid (((w.alloc (.cells #[.int .i64 a1, .int .i64 a2, .int .i64 a3, .slice q n c, .slice sp n4 sc] 37)).alloc (.cells #[.int .i64 a1, .int .i64 a2, .int .i64 a3, .slice q' n c', .slice sp' m4 sc'] 37)) = W2) := ⟨_, rfl⟩
  rw [HW2.out] at HC2 HC3 HB2
  try rw [HW2.out]
  clear HW2 cv1 cv2 hq HB
  obtain ⟨p2, HP2⟩ : ∃ p2, Hid (w.heap.size = p2) := ⟨_, rfl⟩
  obtain ⟨p3, HP3⟩ : ∃ p3, Hid (w.heap.size + 1 = p3) := ⟨_, rfl⟩
  rw [HP3.out] at HC3
  try rw [HP3.out]
  rw [HP2.out] at HC2
  generalize hww : Value.pointer (some ⟨w.heap.size, 0, none⟩) = P2
  rw [HP2.out] at hww
  subst hww
  go_loopw [5] (fun i wr => ∃ j : Nat, j ≤ n ∧ i = .int .i64 j ∧ Hid (Below W2.heap.size W2 wr) ∧ Hid (wa.take j = wb.take j)) (fun i _ => n - (intOf i).toNat)
  case atStart => exact ⟨0, by omega, rfl, Below.refl _ _, rfl⟩
  case round =>
    obtain ⟨j, hj, rfl, HBL, HE⟩ := hrel
    have HBW : Hid (Below w.heap.size w wr) := HB2.out.trans (bel_le HBL.out HB2.out.size)
    have kA := (HBL.out.block p2 (Array.getElem?_eq_some_iff.1 HC2.out).1).trans HC2.out
    have kB := (HBL.out.block p3 (Array.getElem?_eq_some_iff.1 HC3.out).1).trans HC3.out
    have e2 : wr.cell? ⟨p2, 3, none⟩ = some (.slice q n c) := by rw [cell_of_row _ _ _ _ _ _ kA]; rfl
    have e3 : wr.cell? ⟨p3, 3, none⟩ = some (.slice q' n c') := by rw [cell_of_row _ _ _ _ _ _ kB]; rfl
    by_cases hlt : j < n
    · have ja : j < wa.length := by rw [HN.out]; exact hlt
      have jb : j < wb.length := by rw [HM.out]; exact hlt
      obtain ⟨ba, oa, bp, bc, rfl, k2, k3, k4, k5⟩ := HA.out j ja
      obtain ⟨bb, ob, bp', bc', rfl, m2, m3, m4', m5⟩ := HBR.out j jb
      have d0 := (HBW.out.cell (p := ⟨ba, oa + j, none⟩) k2).trans k3
      have d1 := (HBW.out.cell (p := ⟨bb, ob + j, none⟩) m2).trans m3
      have j1 : (j : Int) < (n : Int) := by omega
      have j0 : (0 : Int) ≤ (j : Int) := by omega
      have hx1 := conv_src (w := wr.drew) (show Src wr _ _ from k4.below HBW.out)
      have hx2 := conv_src (w := wr.drew) (show Src wr _ _ from m4'.below HBW.out)
      have hq1 := strB_beqL k4.small m4'.small
      have HFIN : Hid (Below w.heap.size w wr.drew) := HBW.out.trans (C8.below_drewN 1 wr _)
      have HFB : Hid (Below W2.heap.size W2 wr.drew) := HBL.out.trans (C8.below_drewN 1 wr _)
      by_cases he : wa[j] = wb[j]
      · have HT : Hid (wa.take (j + 1) = wb.take (j + 1)) := take_ext ja jb HE.out he
        rw [decide_eq_true he] at hq1
        clear k3 k4 k5 m3 m4' m5 kA kB HE he
        generalize wa[j] = x at *
        generalize wb[j] = y at *
        generalize strB x = s1 at *
        generalize strB y = s2 at *
        generalize x.length = xl at *
        generalize y.length = yl at *
        clear ja jb
        go_wp2_with fail
        go_region
        all_goals go_wp2_with fail
        all_goals refine ⟨⟨j + 1, by omega, by simp, HFB, HT⟩, ?_⟩
        all_goals simp only [intOf]
        all_goals omega
      · have HF : Hid (res = false) := by
          show _ = _
          rw [← HR.out]
          apply decide_eq_false
          rintro rfl
          exact he rfl
        rw [decide_eq_false he] at hq1
        clear k3 k4 k5 m3 m4' m5 kA kB HE he
        generalize wa[j] = x at *
        generalize wb[j] = y at *
        generalize strB x = s1 at *
        generalize strB y = s2 at *
        generalize x.length = xl at *
        generalize y.length = yl at *
        clear ja jb
        go_wp2_with fail
        go_region
        all_goals go_wp2_with fail
        all_goals go_ret
        all_goals exact ⟨by rw [HF.out]; rfl, HFIN.out⟩
    · obtain rfl : j = n := by omega
      have j1 : ¬ (j : Int) < (j : Int) := by omega
      have HT : Hid (res = true) := by
        show _ = _
        rw [← HR.out]
        apply decide_eq_true
        have := HE.out
        rwa [List.take_of_length_le (by rw [HN.out]; omega), List.take_of_length_le (by rw [HM.out]; omega)] at this
      clear HE kA kB
      go_wp2_with fail
      go_ret
      exact ⟨by rw [HT.out]; rfl, HBW.out⟩
theorem rSame_any (a b : Fr) (va vb : Value) (w : World) (ha : FrIs w va a) (hb : FrIs w vb b) : Calls Try.prog 32 #[va, vb] w fun e w' => e = .returned (.bool (same a b)) ∧ Below w.heap.size w w' := by
  obtain ⟨q, c, sp, sc, rfl, ha⟩ := ha
  obtain ⟨q', c', sp', sc', rfl, hb⟩ := hb
  by_cases h1 : a.kind = b.kind
  rotate_left
  · rw [show same a b = false from decide_eq_false (fun h => h1 h.1)]
    exact rs_no1 w a b q c sp sc q' c' sp' sc' h1
  by_cases h2 : a.coll = b.coll
  rotate_left
  · rw [show same a b = false from decide_eq_false (fun h => h2 h.2.1)]
    exact rs_no2 w a b q c sp sc q' c' sp' sc' h1 h2
  by_cases h3 : a.idx = b.idx
  rotate_left
  · rw [show same a b = false from decide_eq_false (fun h => h3 h.2.2.1)]
    exact rs_no3 w a b q c sp sc q' c' sp' sc' h1 h2 h3
  by_cases h4 : a.sum = b.sum
  rotate_left
  · rw [show same a b = false from decide_eq_false (fun h => h4 h.2.2.2.2)]
    exact rs_no4 w a b q c sp sc q' c' sp' sc' ha hb h1 h2 h3 h4
  by_cases h5 : a.links.length = b.links.length
  rotate_left
  · rw [show same a b = false from decide_eq_false (fun h => h5 (by rw [h.2.2.2.1]))]
    exact rs_no5 w a b q c sp sc q' c' sp' sc' ha hb h1 h2 h3 h4 h5
  rw [show same a b = decide (a.links = b.links) from by unfold same; rw [decide_eq_decide]; simp [h1, h2, h3, h4]]
  exact rs_loop w a b q c sp sc q' c' sp' sc' ha hb h1 h2 h3 h4 h5
end Go.Proofs.Ytchoiioeeepoaaa.F17
