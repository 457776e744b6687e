/- The document's Same of records. -/
import Derived.Test.YtfjdaafckiefdaaGreatDoorMgY
import Derived.Test.YtfjdaafckiefdaaGreatDoorE9RWL
namespace Go.Proofs.YtfjdaafckiefdaaGreatDoor.S15
open Go.RowKit C8 E9
set_option maxHeartbeats 2000000 in
theorem rsm1 (w : World) (a b : Rec) (q q' : Option Addr) (c c' : Nat) (ha : Src w (.slice q a.box.length c) a.box) (hb : Src w (.slice q' b.box.length c') b.box)  (hn : ¬ a.coll = b.coll) :
    Calls Tryz.prog 15 #[.agg (RecV a q c), .agg (RecV b q' c')] w fun e w' => e = .returned (.bool false) ∧ Below w.heap.size w w' := by
  have HB : Hid (∀ o1 o2, Below w.heap.size w ((w.alloc o1).alloc o2)) := fun o1 o2 => (bel_alloc (Nat.le_refl _) o1).trans (bel_alloc (by simp) o2)
  have cv1 : ∀ o1 o2, (convert 22 9 (.slice q a.box.length c)).run Tryz.prog ((w.alloc o1).alloc o2) = .ok (.string (strB a.box)) ((w.alloc o1).alloc o2) := fun o1 o2 => conv_src (ha.below (HB.out o1 o2))
  have cv2 : ∀ o1 o2, (convert 22 9 (.slice q' b.box.length c')).run Tryz.prog ((w.alloc o1).alloc o2) = .ok (.string (strB b.box)) ((w.alloc o1).alloc o2) := fun o1 o2 => conv_src (hb.below (HB.out o1 o2))
  have hq5 : ((strB a.box).toList == (strB b.box).toList) = decide (a.box = b.box) := strB_beqL ha.small hb.small
  clear ha hb
  generalize decide (a.box = b.box) = r5 at *
  obtain ⟨a1, a2, a3, a4, a5⟩ := a
  obtain ⟨b1, b2, b3, b4, b5⟩ := b
  simp only [RecV] at *
  have z1 : (a1 == b1) = false := by simp [hn]
  generalize strB a5 = sa5 at *
  generalize strB b5 = sb5 at *
  generalize a5.length = la5 at *
  generalize b5.length = lb5 at *
  clear cv1 cv2 hq5
  go_enter Tryz.func15, Tryz.ntmps15
  go_wp2_with fail
  go_ret
  exact ⟨rfl, HB.out _ _⟩
set_option maxHeartbeats 2000000 in
theorem rsm2 (w : World) (a b : Rec) (q q' : Option Addr) (c c' : Nat) (ha : Src w (.slice q a.box.length c) a.box) (hb : Src w (.slice q' b.box.length c') b.box) (h1 : a.coll = b.coll) (hn : ¬ a.epoch = b.epoch) :
    Calls Tryz.prog 15 #[.agg (RecV a q c), .agg (RecV b q' c')] w fun e w' => e = .returned (.bool false) ∧ Below w.heap.size w w' := by
  have HB : Hid (∀ o1 o2, Below w.heap.size w ((w.alloc o1).alloc o2)) := fun o1 o2 => (bel_alloc (Nat.le_refl _) o1).trans (bel_alloc (by simp) o2)
  have cv1 : ∀ o1 o2, (convert 22 9 (.slice q a.box.length c)).run Tryz.prog ((w.alloc o1).alloc o2) = .ok (.string (strB a.box)) ((w.alloc o1).alloc o2) := fun o1 o2 => conv_src (ha.below (HB.out o1 o2))
  have cv2 : ∀ o1 o2, (convert 22 9 (.slice q' b.box.length c')).run Tryz.prog ((w.alloc o1).alloc o2) = .ok (.string (strB b.box)) ((w.alloc o1).alloc o2) := fun o1 o2 => conv_src (hb.below (HB.out o1 o2))
  have hq5 : ((strB a.box).toList == (strB b.box).toList) = decide (a.box = b.box) := strB_beqL ha.small hb.small
  clear ha hb
  generalize decide (a.box = b.box) = r5 at *
  obtain ⟨a1, a2, a3, a4, a5⟩ := a
  obtain ⟨b1, b2, b3, b4, b5⟩ := b
  simp only [RecV] at *
  subst h1
  have z2 : (a2 == b2) = false := by simp [hn]
  generalize strB a5 = sa5 at *
  generalize strB b5 = sb5 at *
  generalize a5.length = la5 at *
  generalize b5.length = lb5 at *
  clear cv1 cv2 hq5
  go_enter Tryz.func15, Tryz.ntmps15
  go_wp2_with fail
  go_ret
  exact ⟨rfl, HB.out _ _⟩
set_option maxHeartbeats 2000000 in
theorem rsm3 (w : World) (a b : Rec) (q q' : Option Addr) (c c' : Nat) (ha : Src w (.slice q a.box.length c) a.box) (hb : Src w (.slice q' b.box.length c') b.box) (h1 : a.coll = b.coll) (h2 : a.epoch = b.epoch) (hn : ¬ a.writer = b.writer) :
    Calls Tryz.prog 15 #[.agg (RecV a q c), .agg (RecV b q' c')] w fun e w' => e = .returned (.bool false) ∧ Below w.heap.size w w' := by
  have HB : Hid (∀ o1 o2, Below w.heap.size w ((w.alloc o1).alloc o2)) := fun o1 o2 => (bel_alloc (Nat.le_refl _) o1).trans (bel_alloc (by simp) o2)
  have cv1 : ∀ o1 o2, (convert 22 9 (.slice q a.box.length c)).run Tryz.prog ((w.alloc o1).alloc o2) = .ok (.string (strB a.box)) ((w.alloc o1).alloc o2) := fun o1 o2 => conv_src (ha.below (HB.out o1 o2))
  have cv2 : ∀ o1 o2, (convert 22 9 (.slice q' b.box.length c')).run Tryz.prog ((w.alloc o1).alloc o2) = .ok (.string (strB b.box)) ((w.alloc o1).alloc o2) := fun o1 o2 => conv_src (hb.below (HB.out o1 o2))
  have hq5 : ((strB a.box).toList == (strB b.box).toList) = decide (a.box = b.box) := strB_beqL ha.small hb.small
  clear ha hb
  generalize decide (a.box = b.box) = r5 at *
  obtain ⟨a1, a2, a3, a4, a5⟩ := a
  obtain ⟨b1, b2, b3, b4, b5⟩ := b
  simp only [RecV] at *
  subst h1 h2
  have z3 : (a3 == b3) = false := by simp [hn]
  generalize strB a5 = sa5 at *
  generalize strB b5 = sb5 at *
  generalize a5.length = la5 at *
  generalize b5.length = lb5 at *
  clear cv1 cv2 hq5
  go_enter Tryz.func15, Tryz.ntmps15
  go_wp2_with fail
  go_ret
  exact ⟨rfl, HB.out _ _⟩
set_option maxHeartbeats 2000000 in
theorem rsm4 (w : World) (a b : Rec) (q q' : Option Addr) (c c' : Nat) (ha : Src w (.slice q a.box.length c) a.box) (hb : Src w (.slice q' b.box.length c') b.box) (h1 : a.coll = b.coll) (h2 : a.epoch = b.epoch) (h3 : a.writer = b.writer) (hn : ¬ a.count = b.count) :
    Calls Tryz.prog 15 #[.agg (RecV a q c), .agg (RecV b q' c')] w fun e w' => e = .returned (.bool false) ∧ Below w.heap.size w w' := by
  have HB : Hid (∀ o1 o2, Below w.heap.size w ((w.alloc o1).alloc o2)) := fun o1 o2 => (bel_alloc (Nat.le_refl _) o1).trans (bel_alloc (by simp) o2)
  have cv1 : ∀ o1 o2, (convert 22 9 (.slice q a.box.length c)).run Tryz.prog ((w.alloc o1).alloc o2) = .ok (.string (strB a.box)) ((w.alloc o1).alloc o2) := fun o1 o2 => conv_src (ha.below (HB.out o1 o2))
  have cv2 : ∀ o1 o2, (convert 22 9 (.slice q' b.box.length c')).run Tryz.prog ((w.alloc o1).alloc o2) = .ok (.string (strB b.box)) ((w.alloc o1).alloc o2) := fun o1 o2 => conv_src (hb.below (HB.out o1 o2))
  have hq5 : ((strB a.box).toList == (strB b.box).toList) = decide (a.box = b.box) := strB_beqL ha.small hb.small
  clear ha hb
  generalize decide (a.box = b.box) = r5 at *
  obtain ⟨a1, a2, a3, a4, a5⟩ := a
  obtain ⟨b1, b2, b3, b4, b5⟩ := b
  simp only [RecV] at *
  subst h1 h2 h3
  have z4 : (a4 == b4) = false := by simp [hn]
  generalize strB a5 = sa5 at *
  generalize strB b5 = sb5 at *
  generalize a5.length = la5 at *
  generalize b5.length = lb5 at *
  clear cv1 cv2 hq5
  go_enter Tryz.func15, Tryz.ntmps15
  go_wp2_with fail
  go_ret
  exact ⟨rfl, HB.out _ _⟩
set_option maxHeartbeats 2000000 in
theorem rsm5 (w : World) (a b : Rec) (q q' : Option Addr) (c c' : Nat) (ha : Src w (.slice q a.box.length c) a.box) (hb : Src w (.slice q' b.box.length c') b.box) (h1 : a.coll = b.coll) (h2 : a.epoch = b.epoch) (h3 : a.writer = b.writer) (h4 : a.count = b.count)  :
    Calls Tryz.prog 15 #[.agg (RecV a q c), .agg (RecV b q' c')] w fun e w' => e = .returned (.bool (decide (a.box = b.box))) ∧ Below w.heap.size w w' := by
  have HB : Hid (∀ o1 o2, Below w.heap.size w ((w.alloc o1).alloc o2)) := fun o1 o2 => (bel_alloc (Nat.le_refl _) o1).trans (bel_alloc (by simp) o2)
  have cv1 : ∀ o1 o2, (convert 22 9 (.slice q a.box.length c)).run Tryz.prog ((w.alloc o1).alloc o2) = .ok (.string (strB a.box)) ((w.alloc o1).alloc o2) := fun o1 o2 => conv_src (ha.below (HB.out o1 o2))
  have cv2 : ∀ o1 o2, (convert 22 9 (.slice q' b.box.length c')).run Tryz.prog ((w.alloc o1).alloc o2) = .ok (.string (strB b.box)) ((w.alloc o1).alloc o2) := fun o1 o2 => conv_src (hb.below (HB.out o1 o2))
  have hq5 : ((strB a.box).toList == (strB b.box).toList) = decide (a.box = b.box) := strB_beqL ha.small hb.small
  clear ha hb
  generalize decide (a.box = b.box) = r5 at *
  obtain ⟨a1, a2, a3, a4, a5⟩ := a
  obtain ⟨b1, b2, b3, b4, b5⟩ := b
  simp only [RecV] at *
  subst h1 h2 h3 h4
  generalize strB a5 = sa5 at *
  generalize strB b5 = sb5 at *
  generalize a5.length = la5 at *
  generalize b5.length = lb5 at *
  go_enter Tryz.func15, Tryz.ntmps15
  go_wp2_with fail
  go_ret
  exact ⟨rfl, HB.out _ _⟩
theorem rsame_any (w : World) (a b : Rec) (q q' : Option Addr) (c c' : Nat) (ha : Src w (.slice q a.box.length c) a.box) (hb : Src w (.slice q' b.box.length c') b.box) :
    Calls Tryz.prog 15 #[.agg (RecV a q c), .agg (RecV b q' c')] w fun e w' => e = .returned (.bool (rsame a b)) ∧ Below w.heap.size w w' := by
  unfold rsame
  by_cases h1 : a.coll = b.coll
  · by_cases h2 : a.epoch = b.epoch
    · by_cases h3 : a.writer = b.writer
      · by_cases h4 : a.count = b.count
        · simp only [h1, h2, h3, h4, true_and]
          exact rsm5 w a b q q' c c' ha hb h1 h2 h3 h4
        · simp only [h4, false_and, and_false, decide_false]
          exact rsm4 w a b q q' c c' ha hb h1 h2 h3 h4
      · simp only [h3, false_and, and_false, decide_false]
        exact rsm3 w a b q q' c c' ha hb h1 h2 h3
    · simp only [h2, false_and, and_false, decide_false]
      exact rsm2 w a b q q' c c' ha hb h1 h2
  · simp only [h1, false_and, decide_false]
    exact rsm1 w a b q q' c c' ha hb h1
end Go.Proofs.YtfjdaafckiefdaaGreatDoor.S15
