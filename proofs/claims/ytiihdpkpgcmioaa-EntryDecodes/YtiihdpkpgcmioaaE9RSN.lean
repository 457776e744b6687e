/- The document's Same, where two differ ahead of their wraps. -/
import Derived.Test.YtiihdpkpgcmioaaE9RSN1
import Derived.Test.YtiihdpkpgcmioaaE9RSN2
namespace Go.Proofs.Ytiihdpkpgcmioaa.E9
open Go.RowKit C8
set_option maxHeartbeats 8000000 in
theorem rsn5 (w : World) (a b : En) (np : Option Addr) (nc : Nat) (vp : Option Addr) (vc : Nat) (q : Option Addr) (c : Nat) (np' : Option Addr) (nc' : Nat) (vp' : Option Addr) (vc' : Nat) (q' : Option Addr) (c' : Nat) (ha : EnAt w a np nc vp vc q) (hb : EnAt w b np' nc' vp' vc' q') (h1 : a.kind = b.kind) (h2 : a.writer = b.writer) (h3 : a.seq = b.seq) (h4 : a.name = b.name) (hn : ¬ a.value = b.value) :
    Calls Try.prog 17 #[.agg (EnV a np nc vp vc q c), .agg (EnV b np' nc' vp' vc' q' c')] w fun e w' => e = .returned (.bool false) ∧ Below w.heap.size w w' := by
  have HB : Hid (∀ o1 o2, Below w.heap.size w ((w.alloc o1).alloc o2)) := fun o1 o2 => (bel_alloc (Nat.le_refl _) o1).trans (bel_alloc (by simp) o2)
  have cv1 : ∀ o1 o2, (convert 22 9 (.slice np a.name.length nc)).run Try.prog ((w.alloc o1).alloc o2) = .ok (.string (strB a.name)) ((w.alloc o1).alloc o2) := fun o1 o2 => conv_src (ha.name.below (HB.out o1 o2))
  have cv2 : ∀ o1 o2, (convert 22 9 (.slice np' b.name.length nc')).run Try.prog ((w.alloc o1).alloc o2) = .ok (.string (strB b.name)) ((w.alloc o1).alloc o2) := fun o1 o2 => conv_src (hb.name.below (HB.out o1 o2))
  have cv3 : ∀ o1 o2, (convert 22 9 (.slice vp a.value.length vc)).run Try.prog ((w.alloc o1).alloc o2) = .ok (.string (strB a.value)) ((w.alloc o1).alloc o2) := fun o1 o2 => conv_src (ha.value.below (HB.out o1 o2))
  have cv4 : ∀ o1 o2, (convert 22 9 (.slice vp' b.value.length vc')).run Try.prog ((w.alloc o1).alloc o2) = .ok (.string (strB b.value)) ((w.alloc o1).alloc o2) := fun o1 o2 => conv_src (hb.value.below (HB.out o1 o2))
  have hq4 : ((strB a.name).toList == (strB b.name).toList) = decide (a.name = b.name) := strB_beqL ha.name.small hb.name.small
  have hq5 : ((strB a.value).toList == (strB b.value).toList) = decide (a.value = b.value) := strB_beqL ha.value.small hb.value.small
  clear ha hb
  rw [decide_eq_true h4] at hq4
  clear h4
  rw [decide_eq_false hn] at hq5
  obtain ⟨a1, a2, a3, a4, a5, a6, a7, a8, a9⟩ := a
  obtain ⟨b1, b2, b3, b4, b5, b6, b7, b8, b9⟩ := b
  simp only [EnV] at *
  subst h1 h2 h3
  clear hn
  generalize strB a4 = sa4 at *
  generalize strB b4 = sb4 at *
  generalize strB a5 = sa5 at *
  generalize strB b5 = sb5 at *
  generalize a4.length = la4 at *
  generalize b4.length = lb4 at *
  generalize a5.length = la5 at *
  generalize b5.length = lb5 at *
  generalize a9.length = la9 at *
  generalize b9.length = lb9 at *
  go_enter Try.func17, Try.ntmps17
  go_wp2_with fail
  go_ret
  exact ⟨rfl, HB.out _ _⟩
set_option maxHeartbeats 8000000 in
theorem rsn6 (w : World) (a b : En) (np : Option Addr) (nc : Nat) (vp : Option Addr) (vc : Nat) (q : Option Addr) (c : Nat) (np' : Option Addr) (nc' : Nat) (vp' : Option Addr) (vc' : Nat) (q' : Option Addr) (c' : Nat) (ha : EnAt w a np nc vp vc q) (hb : EnAt w b np' nc' vp' vc' q') (h1 : a.kind = b.kind) (h2 : a.writer = b.writer) (h3 : a.seq = b.seq) (h4 : a.name = b.name) (h5 : a.value = b.value) (hn : ¬ a.who = b.who) :
    Calls Try.prog 17 #[.agg (EnV a np nc vp vc q c), .agg (EnV b np' nc' vp' vc' q' c')] w fun e w' => e = .returned (.bool false) ∧ Below w.heap.size w w' := by
  have HB : Hid (∀ o1 o2, Below w.heap.size w ((w.alloc o1).alloc o2)) := fun o1 o2 => (bel_alloc (Nat.le_refl _) o1).trans (bel_alloc (by simp) o2)
  have cv1 : ∀ o1 o2, (convert 22 9 (.slice np a.name.length nc)).run Try.prog ((w.alloc o1).alloc o2) = .ok (.string (strB a.name)) ((w.alloc o1).alloc o2) := fun o1 o2 => conv_src (ha.name.below (HB.out o1 o2))
  have cv2 : ∀ o1 o2, (convert 22 9 (.slice np' b.name.length nc')).run Try.prog ((w.alloc o1).alloc o2) = .ok (.string (strB b.name)) ((w.alloc o1).alloc o2) := fun o1 o2 => conv_src (hb.name.below (HB.out o1 o2))
  have cv3 : ∀ o1 o2, (convert 22 9 (.slice vp a.value.length vc)).run Try.prog ((w.alloc o1).alloc o2) = .ok (.string (strB a.value)) ((w.alloc o1).alloc o2) := fun o1 o2 => conv_src (ha.value.below (HB.out o1 o2))
  have cv4 : ∀ o1 o2, (convert 22 9 (.slice vp' b.value.length vc')).run Try.prog ((w.alloc o1).alloc o2) = .ok (.string (strB b.value)) ((w.alloc o1).alloc o2) := fun o1 o2 => conv_src (hb.value.below (HB.out o1 o2))
  have hq4 : ((strB a.name).toList == (strB b.name).toList) = decide (a.name = b.name) := strB_beqL ha.name.small hb.name.small
  have hq5 : ((strB a.value).toList == (strB b.value).toList) = decide (a.value = b.value) := strB_beqL ha.value.small hb.value.small
  clear ha hb
  rw [decide_eq_true h4] at hq4
  clear h4
  rw [decide_eq_true h5] at hq5
  clear h5
  obtain ⟨a1, a2, a3, a4, a5, a6, a7, a8, a9⟩ := a
  obtain ⟨b1, b2, b3, b4, b5, b6, b7, b8, b9⟩ := b
  simp only [EnV] at *
  subst h1 h2 h3
  have z6 : (a6 == b6) = false := by simp [hn]
  generalize strB a4 = sa4 at *
  generalize strB b4 = sb4 at *
  generalize strB a5 = sa5 at *
  generalize strB b5 = sb5 at *
  generalize a4.length = la4 at *
  generalize b4.length = lb4 at *
  generalize a5.length = la5 at *
  generalize b5.length = lb5 at *
  generalize a9.length = la9 at *
  generalize b9.length = lb9 at *
  go_enter Try.func17, Try.ntmps17
  go_wp2_with fail
  go_ret
  exact ⟨rfl, HB.out _ _⟩
set_option maxHeartbeats 8000000 in
theorem rsn7 (w : World) (a b : En) (np : Option Addr) (nc : Nat) (vp : Option Addr) (vc : Nat) (q : Option Addr) (c : Nat) (np' : Option Addr) (nc' : Nat) (vp' : Option Addr) (vc' : Nat) (q' : Option Addr) (c' : Nat) (ha : EnAt w a np nc vp vc q) (hb : EnAt w b np' nc' vp' vc' q') (h1 : a.kind = b.kind) (h2 : a.writer = b.writer) (h3 : a.seq = b.seq) (h4 : a.name = b.name) (h5 : a.value = b.value) (h6 : a.who = b.who) (hn : ¬ a.rights = b.rights) :
    Calls Try.prog 17 #[.agg (EnV a np nc vp vc q c), .agg (EnV b np' nc' vp' vc' q' c')] w fun e w' => e = .returned (.bool false) ∧ Below w.heap.size w w' := by
  have HB : Hid (∀ o1 o2, Below w.heap.size w ((w.alloc o1).alloc o2)) := fun o1 o2 => (bel_alloc (Nat.le_refl _) o1).trans (bel_alloc (by simp) o2)
  have cv1 : ∀ o1 o2, (convert 22 9 (.slice np a.name.length nc)).run Try.prog ((w.alloc o1).alloc o2) = .ok (.string (strB a.name)) ((w.alloc o1).alloc o2) := fun o1 o2 => conv_src (ha.name.below (HB.out o1 o2))
  have cv2 : ∀ o1 o2, (convert 22 9 (.slice np' b.name.length nc')).run Try.prog ((w.alloc o1).alloc o2) = .ok (.string (strB b.name)) ((w.alloc o1).alloc o2) := fun o1 o2 => conv_src (hb.name.below (HB.out o1 o2))
  have cv3 : ∀ o1 o2, (convert 22 9 (.slice vp a.value.length vc)).run Try.prog ((w.alloc o1).alloc o2) = .ok (.string (strB a.value)) ((w.alloc o1).alloc o2) := fun o1 o2 => conv_src (ha.value.below (HB.out o1 o2))
  have cv4 : ∀ o1 o2, (convert 22 9 (.slice vp' b.value.length vc')).run Try.prog ((w.alloc o1).alloc o2) = .ok (.string (strB b.value)) ((w.alloc o1).alloc o2) := fun o1 o2 => conv_src (hb.value.below (HB.out o1 o2))
  have hq4 : ((strB a.name).toList == (strB b.name).toList) = decide (a.name = b.name) := strB_beqL ha.name.small hb.name.small
  have hq5 : ((strB a.value).toList == (strB b.value).toList) = decide (a.value = b.value) := strB_beqL ha.value.small hb.value.small
  clear ha hb
  rw [decide_eq_true h4] at hq4
  clear h4
  rw [decide_eq_true h5] at hq5
  clear h5
  obtain ⟨a1, a2, a3, a4, a5, a6, a7, a8, a9⟩ := a
  obtain ⟨b1, b2, b3, b4, b5, b6, b7, b8, b9⟩ := b
  simp only [EnV] at *
  subst h1 h2 h3 h6
  have z7 : (a7 == b7) = false := by simp [hn]
  generalize strB a4 = sa4 at *
  generalize strB b4 = sb4 at *
  generalize strB a5 = sa5 at *
  generalize strB b5 = sb5 at *
  generalize a4.length = la4 at *
  generalize b4.length = lb4 at *
  generalize a5.length = la5 at *
  generalize b5.length = lb5 at *
  generalize a9.length = la9 at *
  generalize b9.length = lb9 at *
  go_enter Try.func17, Try.ntmps17
  go_wp2_with fail
  go_ret
  exact ⟨rfl, HB.out _ _⟩
set_option maxHeartbeats 8000000 in
theorem rsn8 (w : World) (a b : En) (np : Option Addr) (nc : Nat) (vp : Option Addr) (vc : Nat) (q : Option Addr) (c : Nat) (np' : Option Addr) (nc' : Nat) (vp' : Option Addr) (vc' : Nat) (q' : Option Addr) (c' : Nat) (ha : EnAt w a np nc vp vc q) (hb : EnAt w b np' nc' vp' vc' q') (h1 : a.kind = b.kind) (h2 : a.writer = b.writer) (h3 : a.seq = b.seq) (h4 : a.name = b.name) (h5 : a.value = b.value) (h6 : a.who = b.who) (h7 : a.rights = b.rights) (hn : ¬ a.epoch = b.epoch) :
    Calls Try.prog 17 #[.agg (EnV a np nc vp vc q c), .agg (EnV b np' nc' vp' vc' q' c')] w fun e w' => e = .returned (.bool false) ∧ Below w.heap.size w w' := by
  have HB : Hid (∀ o1 o2, Below w.heap.size w ((w.alloc o1).alloc o2)) := fun o1 o2 => (bel_alloc (Nat.le_refl _) o1).trans (bel_alloc (by simp) o2)
  have cv1 : ∀ o1 o2, (convert 22 9 (.slice np a.name.length nc)).run Try.prog ((w.alloc o1).alloc o2) = .ok (.string (strB a.name)) ((w.alloc o1).alloc o2) := fun o1 o2 => conv_src (ha.name.below (HB.out o1 o2))
  have cv2 : ∀ o1 o2, (convert 22 9 (.slice np' b.name.length nc')).run Try.prog ((w.alloc o1).alloc o2) = .ok (.string (strB b.name)) ((w.alloc o1).alloc o2) := fun o1 o2 => conv_src (hb.name.below (HB.out o1 o2))
  have cv3 : ∀ o1 o2, (convert 22 9 (.slice vp a.value.length vc)).run Try.prog ((w.alloc o1).alloc o2) = .ok (.string (strB a.value)) ((w.alloc o1).alloc o2) := fun o1 o2 => conv_src (ha.value.below (HB.out o1 o2))
  have cv4 : ∀ o1 o2, (convert 22 9 (.slice vp' b.value.length vc')).run Try.prog ((w.alloc o1).alloc o2) = .ok (.string (strB b.value)) ((w.alloc o1).alloc o2) := fun o1 o2 => conv_src (hb.value.below (HB.out o1 o2))
  have hq4 : ((strB a.name).toList == (strB b.name).toList) = decide (a.name = b.name) := strB_beqL ha.name.small hb.name.small
  have hq5 : ((strB a.value).toList == (strB b.value).toList) = decide (a.value = b.value) := strB_beqL ha.value.small hb.value.small
  clear ha hb
  rw [decide_eq_true h4] at hq4
  clear h4
  rw [decide_eq_true h5] at hq5
  clear h5
  obtain ⟨a1, a2, a3, a4, a5, a6, a7, a8, a9⟩ := a
  obtain ⟨b1, b2, b3, b4, b5, b6, b7, b8, b9⟩ := b
  simp only [EnV] at *
  subst h1 h2 h3 h6 h7
  have z8 : (a8 == b8) = false := by simp [hn]
  generalize strB a4 = sa4 at *
  generalize strB b4 = sb4 at *
  generalize strB a5 = sa5 at *
  generalize strB b5 = sb5 at *
  generalize a4.length = la4 at *
  generalize b4.length = lb4 at *
  generalize a5.length = la5 at *
  generalize b5.length = lb5 at *
  generalize a9.length = la9 at *
  generalize b9.length = lb9 at *
  go_enter Try.func17, Try.ntmps17
  go_wp2_with fail
  go_ret
  exact ⟨rfl, HB.out _ _⟩
set_option maxHeartbeats 8000000 in
theorem rsn9 (w : World) (a b : En) (np : Option Addr) (nc : Nat) (vp : Option Addr) (vc : Nat) (q : Option Addr) (c : Nat) (np' : Option Addr) (nc' : Nat) (vp' : Option Addr) (vc' : Nat) (q' : Option Addr) (c' : Nat) (ha : EnAt w a np nc vp vc q) (hb : EnAt w b np' nc' vp' vc' q') (h1 : a.kind = b.kind) (h2 : a.writer = b.writer) (h3 : a.seq = b.seq) (h4 : a.name = b.name) (h5 : a.value = b.value) (h6 : a.who = b.who) (h7 : a.rights = b.rights) (h8 : a.epoch = b.epoch) (hn : ¬ a.wraps.length = b.wraps.length) :
    Calls Try.prog 17 #[.agg (EnV a np nc vp vc q c), .agg (EnV b np' nc' vp' vc' q' c')] w fun e w' => e = .returned (.bool false) ∧ Below w.heap.size w w' := by
  have HB : Hid (∀ o1 o2, Below w.heap.size w ((w.alloc o1).alloc o2)) := fun o1 o2 => (bel_alloc (Nat.le_refl _) o1).trans (bel_alloc (by simp) o2)
  have cv1 : ∀ o1 o2, (convert 22 9 (.slice np a.name.length nc)).run Try.prog ((w.alloc o1).alloc o2) = .ok (.string (strB a.name)) ((w.alloc o1).alloc o2) := fun o1 o2 => conv_src (ha.name.below (HB.out o1 o2))
  have cv2 : ∀ o1 o2, (convert 22 9 (.slice np' b.name.length nc')).run Try.prog ((w.alloc o1).alloc o2) = .ok (.string (strB b.name)) ((w.alloc o1).alloc o2) := fun o1 o2 => conv_src (hb.name.below (HB.out o1 o2))
  have cv3 : ∀ o1 o2, (convert 22 9 (.slice vp a.value.length vc)).run Try.prog ((w.alloc o1).alloc o2) = .ok (.string (strB a.value)) ((w.alloc o1).alloc o2) := fun o1 o2 => conv_src (ha.value.below (HB.out o1 o2))
  have cv4 : ∀ o1 o2, (convert 22 9 (.slice vp' b.value.length vc')).run Try.prog ((w.alloc o1).alloc o2) = .ok (.string (strB b.value)) ((w.alloc o1).alloc o2) := fun o1 o2 => conv_src (hb.value.below (HB.out o1 o2))
  have hq4 : ((strB a.name).toList == (strB b.name).toList) = decide (a.name = b.name) := strB_beqL ha.name.small hb.name.small
  have hq5 : ((strB a.value).toList == (strB b.value).toList) = decide (a.value = b.value) := strB_beqL ha.value.small hb.value.small
  clear ha hb
  rw [decide_eq_true h4] at hq4
  clear h4
  rw [decide_eq_true h5] at hq5
  clear h5
  obtain ⟨a1, a2, a3, a4, a5, a6, a7, a8, a9⟩ := a
  obtain ⟨b1, b2, b3, b4, b5, b6, b7, b8, b9⟩ := b
  simp only [EnV] at *
  subst h1 h2 h3 h6 h7 h8
  have z9 : ((a9.length : Int) == (b9.length : Int)) = false := by simp; omega
  have zi : ¬ (a9.length : Int) = (b9.length : Int) := by omega
  clear hn
  generalize strB a4 = sa4 at *
  generalize strB b4 = sb4 at *
  generalize strB a5 = sa5 at *
  generalize strB b5 = sb5 at *
  generalize a4.length = la4 at *
  generalize b4.length = lb4 at *
  generalize a5.length = la5 at *
  generalize b5.length = lb5 at *
  generalize a9.length = la9 at *
  generalize b9.length = lb9 at *
  go_enter Try.func17, Try.ntmps17
  go_wp2_with fail
  go_ret
  exact ⟨rfl, HB.out _ _⟩
theorem rsame_no (w : World) (a b : En) (np : Option Addr) (nc : Nat) (vp : Option Addr) (vc : Nat) (q : Option Addr) (c : Nat) (np' : Option Addr) (nc' : Nat) (vp' : Option Addr) (vc' : Nat) (q' : Option Addr) (c' : Nat) (ha : EnAt w a np nc vp vc q) (hb : EnAt w b np' nc' vp' vc' q') (hn : ¬ (a.kind = b.kind ∧ a.writer = b.writer ∧ a.seq = b.seq ∧ a.name = b.name ∧ a.value = b.value ∧ a.who = b.who ∧ a.rights = b.rights ∧ a.epoch = b.epoch ∧ a.wraps.length = b.wraps.length)) :
    Calls Try.prog 17 #[.agg (EnV a np nc vp vc q c), .agg (EnV b np' nc' vp' vc' q' c')] w fun e w' => e = .returned (.bool false) ∧ Below w.heap.size w w' := by
  by_cases h1 : a.kind = b.kind
  rotate_left
  · exact rsn1 w a b np nc vp vc q c np' nc' vp' vc' q' c' ha hb h1
  by_cases h2 : a.writer = b.writer
  rotate_left
  · exact rsn2 w a b np nc vp vc q c np' nc' vp' vc' q' c' ha hb h1 h2
  by_cases h3 : a.seq = b.seq
  rotate_left
  · exact rsn3 w a b np nc vp vc q c np' nc' vp' vc' q' c' ha hb h1 h2 h3
  by_cases h4 : a.name = b.name
  rotate_left
  · exact rsn4 w a b np nc vp vc q c np' nc' vp' vc' q' c' ha hb h1 h2 h3 h4
  by_cases h5 : a.value = b.value
  rotate_left
  · exact rsn5 w a b np nc vp vc q c np' nc' vp' vc' q' c' ha hb h1 h2 h3 h4 h5
  by_cases h6 : a.who = b.who
  rotate_left
  · exact rsn6 w a b np nc vp vc q c np' nc' vp' vc' q' c' ha hb h1 h2 h3 h4 h5 h6
  by_cases h7 : a.rights = b.rights
  rotate_left
  · exact rsn7 w a b np nc vp vc q c np' nc' vp' vc' q' c' ha hb h1 h2 h3 h4 h5 h6 h7
  by_cases h8 : a.epoch = b.epoch
  rotate_left
  · exact rsn8 w a b np nc vp vc q c np' nc' vp' vc' q' c' ha hb h1 h2 h3 h4 h5 h6 h7 h8
  by_cases h9 : a.wraps.length = b.wraps.length
  rotate_left
  · exact rsn9 w a b np nc vp vc q c np' nc' vp' vc' q' c' ha hb h1 h2 h3 h4 h5 h6 h7 h8 h9
  exact absurd ⟨h1, h2, h3, h4, h5, h6, h7, h8, h9⟩ hn
end Go.Proofs.Ytiihdpkpgcmioaa.E9
