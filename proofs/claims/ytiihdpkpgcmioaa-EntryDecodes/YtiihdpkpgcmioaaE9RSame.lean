/- The contract of the document's Same. -/
import Derived.Test.YtiihdpkpgcmioaaE9RSN
import Derived.Test.YtiihdpkpgcmioaaE9RSL
namespace Go.Proofs.Ytiihdpkpgcmioaa.E9
open Go.RowKit C8
theorem rSame_any (a b : En) (va vb : Value) (w : World) (ha : EnIs w va a) (hb : EnIs w vb b) : Calls Try.prog 17 #[va, vb] w fun e w' => e = .returned (.bool (same a b)) ∧ Below w.heap.size w w' := by
  obtain ⟨np, nc, vp, vc, q, c, rfl, ha⟩ := ha
  obtain ⟨np', nc', vp', vc', q', c', rfl, hb⟩ := hb
  by_cases h : a.kind = b.kind ∧ a.writer = b.writer ∧ a.seq = b.seq ∧ a.name = b.name ∧ a.value = b.value ∧ a.who = b.who ∧ a.rights = b.rights ∧ a.epoch = b.epoch ∧ a.wraps.length = b.wraps.length
  · obtain ⟨h1, h2, h3, h4, h5, h6, h7, h8, h9⟩ := h
    have e : same a b = decide (a.wraps = b.wraps) := by unfold same; rw [decide_eq_decide]; simp [h1, h2, h3, h4, h5, h6, h7, h8]
    rw [e]
    exact rsame_loop w a b np nc vp vc q c np' nc' vp' vc' q' c' ha hb h1 h2 h3 h4 h5 h6 h7 h8 h9
  · have e : same a b = false := by
      unfold same
      apply decide_eq_false
      rintro ⟨h1, h2, h3, h4, h5, h6, h7, h8, h9⟩
      exact h ⟨h1, h2, h3, h4, h5, h6, h7, h8, by rw [h9]⟩
    rw [e]
    exact rsame_no w a b np nc vp vc q c np' nc' vp' vc' q' c' ha hb h
end Go.Proofs.Ytiihdpkpgcmioaa.E9
