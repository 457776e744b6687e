/- The document's Same, where two differ in what stands next. -/
import Derived.Test.YtiihdpkpgcmioaaE9Eq
namespace Go.Proofs.Ytiihdpkpgcmioaa.E9
open Go.RowKit C8
set_option maxHeartbeats 8000000 in
theorem rsn3 (w : World) (a b : En) (np : Option Addr) (nc : Nat) (vp : Option Addr) (vc : Nat) (q : Option Addr) (c : Nat) (np' : Option Addr) (nc' : Nat) (vp' : Option Addr) (vc' : Nat) (q' : Option Addr) (c' : Nat) (ha : EnAt w a np nc vp vc q) (hb : EnAt w b np' nc' vp' vc' q') (h1 : a.kind = b.kind) (h2 : a.writer = b.writer) (hn : ¬ a.seq = b.seq) :
    Calls Try.prog 17 #[.agg (EnV a np nc vp vc q c), .agg (EnV b np' nc' vp' vc' q' c')] w fun e w' => e = .returned (.bool false) ∧ Below w.heap.size w w' := by
  have HB : Hid (∀ o1 o2, Below w.heap.size w ((w.alloc o1).alloc o2)) := fun o1 o2 => (bel_alloc (Nat.le_refl _) o1).trans (bel_alloc (by simp) o2)
  have cv1 : ∀ o1 o2, (convert 22 9 (.slice np a.name.length nc)).run Try.prog ((w.alloc o1).alloc o2) = .ok (.string (strB a.name)) ((w.alloc o1).alloc o2) := fun o1 o2 => conv_src (ha.name.below (HB.out o1 o2))
  have cv2 : ∀ o1 o2, (convert 22 9 (.slice np' b.name.length nc')).run Try.prog ((w.alloc o1).alloc o2) = .ok (.string (strB b.name)) ((w.alloc o1).alloc o2) := fun o1 o2 => conv_src (hb.name.below (HB.out o1 o2))
  have cv3 : ∀ o1 o2, (convert 22 9 (.slice vp a.value.length vc)).run Try.prog ((w.alloc o1).alloc o2) = .ok (.string (strB a.value)) ((w.alloc o1).alloc o2) := fun o1 o2 => conv_src (ha.value.below (HB.out o1 o2))
  have cv4 : ∀ o1 o2, (convert 22 9 (.slice vp' b.value.length vc')).run Try.prog ((w.alloc o1).alloc o2) = .ok (.string (strB b.value)) ((w.alloc o1).alloc o2) := fun o1 o2 => conv_src (hb.value.below (HB.out o1 o2))
  have hq4 : ((strB a.name).toList == (strB b.name).toList) = decide (a.name = b.name) := strB_beqL ha.name.small hb.name.small
  have hq5 : ((strB a.value).toList == (strB b.value).toList) = decide (a.value = b.value) := strB_beqL ha.value.small hb.value.small
  clear ha hb
  clear hq4
  clear hq5
  clear cv1 cv2
  clear cv3 cv4
  obtain ⟨a1, a2, a3, a4, a5, a6, a7, a8, a9⟩ := a
  obtain ⟨b1, b2, b3, b4, b5, b6, b7, b8, b9⟩ := b
  simp only [EnV] at *
  subst h1 h2
  have z3 : (a3 == b3) = false := by simp [hn]
  generalize a4.length = la4 at *
  generalize b4.length = lb4 at *
  generalize a5.length = la5 at *
  generalize b5.length = lb5 at *
  generalize a9.length = la9 at *
  generalize b9.length = lb9 at *
  go_enter Try.func17, Try.ntmps17
  go_wp2_with fail
  go_ret
  exact ⟨rfl, HB.out _ _⟩
set_option maxHeartbeats 8000000 in
theorem rsn4 (w : World) (a b : En) (np : Option Addr) (nc : Nat) (vp : Option Addr) (vc : Nat) (q : Option Addr) (c : Nat) (np' : Option Addr) (nc' : Nat) (vp' : Option Addr) (vc' : Nat) (q' : Option Addr) (c' : Nat) (ha : EnAt w a np nc vp vc q) (hb : EnAt w b np' nc' vp' vc' q') (h1 : a.kind = b.kind) (h2 : a.writer = b.writer) (h3 : a.seq = b.seq) (hn : ¬ a.name = b.name) :
    Calls Try.prog 17 #[.agg (EnV a np nc vp vc q c), .agg (EnV b np' nc' vp' vc' q' c')] w fun e w' => e = .returned (.bool false) ∧ Below w.heap.size w w' := by
  have HB : Hid (∀ o1 o2, Below w.heap.size w ((w.alloc o1).alloc o2)) := fun o1 o2 => (bel_alloc (Nat.le_refl _) o1).trans (bel_alloc (by simp) o2)
  have cv1 : ∀ o1 o2, (convert 22 9 (.slice np a.name.length nc)).run Try.prog ((w.alloc o1).alloc o2) = .ok (.string (strB a.name)) ((w.alloc o1).alloc o2) := fun o1 o2 => conv_src (ha.name.below (HB.out o1 o2))
  have cv2 : ∀ o1 o2, (convert 22 9 (.slice np' b.name.length nc')).run Try.prog ((w.alloc o1).alloc o2) = .ok (.string (strB b.name)) ((w.alloc o1).alloc o2) := fun o1 o2 => conv_src (hb.name.below (HB.out o1 o2))
  have cv3 : ∀ o1 o2, (convert 22 9 (.slice vp a.value.length vc)).run Try.prog ((w.alloc o1).alloc o2) = .ok (.string (strB a.value)) ((w.alloc o1).alloc o2) := fun o1 o2 => conv_src (ha.value.below (HB.out o1 o2))
  have cv4 : ∀ o1 o2, (convert 22 9 (.slice vp' b.value.length vc')).run Try.prog ((w.alloc o1).alloc o2) = .ok (.string (strB b.value)) ((w.alloc o1).alloc o2) := fun o1 o2 => conv_src (hb.value.below (HB.out o1 o2))
  have hq4 : ((strB a.name).toList == (strB b.name).toList) = decide (a.name = b.name) := strB_beqL ha.name.small hb.name.small
  have hq5 : ((strB a.value).toList == (strB b.value).toList) = decide (a.value = b.value) := strB_beqL ha.value.small hb.value.small
  clear ha hb
  rw [decide_eq_false hn] at hq4
  clear hq5
  clear cv3 cv4
  obtain ⟨a1, a2, a3, a4, a5, a6, a7, a8, a9⟩ := a
  obtain ⟨b1, b2, b3, b4, b5, b6, b7, b8, b9⟩ := b
  simp only [EnV] at *
  subst h1 h2 h3
  clear hn
  generalize strB a4 = sa4 at *
  generalize strB b4 = sb4 at *
  generalize a4.length = la4 at *
  generalize b4.length = lb4 at *
  generalize a5.length = la5 at *
  generalize b5.length = lb5 at *
  generalize a9.length = la9 at *
  generalize b9.length = lb9 at *
  go_enter Try.func17, Try.ntmps17
  go_wp2_with fail
  go_ret
  exact ⟨rfl, HB.out _ _⟩
end Go.Proofs.Ytiihdpkpgcmioaa.E9
