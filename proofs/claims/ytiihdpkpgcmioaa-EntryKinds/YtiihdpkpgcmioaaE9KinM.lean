/- What each other thing makes of a right entry. -/
import Derived.Test.YtiihdpkpgcmioaaE9Spec
namespace Go.Proofs.Ytiihdpkpgcmioaa.E9
open Go.RowKit C8
theorem kin0 {a : En} (hr : right a = true) : right ⟨a.kind, a.writer, a.seq, [110], a.value, a.who, a.rights, a.epoch, a.wraps⟩ = decide (a.kind ≤ 2) := by
  obtain ⟨hw, hs, h⟩ := (right_iff a).1 hr
  rw [Bool.eq_iff_iff, right_iff, decide_eq_true_eq]
  simp only
  obtain ⟨a1, a2, a3, a4, a5, a6, a7, a8, a9⟩ := a
  simp only at hw hs h ⊢
  rcases h with ⟨rfl, h1, h2, rfl, rfl, rfl, rfl⟩ | ⟨rfl, h1, rfl, rfl, rfl, rfl, rfl⟩ | ⟨rfl, rfl, rfl, h1, h2, rfl, rfl⟩ | ⟨rfl, rfl, rfl, h1, rfl, rfl, rfl⟩ | ⟨rfl, rfl, rfl, rfl, rfl, h1, h2⟩ <;> simp_all [wok]
theorem kin1 {a : En} (hr : right a = true) : right ⟨a.kind, a.writer, a.seq, a.name, [118], a.who, a.rights, a.epoch, a.wraps⟩ = decide (a.kind = 1) := by
  obtain ⟨hw, hs, h⟩ := (right_iff a).1 hr
  rw [Bool.eq_iff_iff, right_iff, decide_eq_true_eq]
  simp only
  obtain ⟨a1, a2, a3, a4, a5, a6, a7, a8, a9⟩ := a
  simp only at hw hs h ⊢
  rcases h with ⟨rfl, h1, h2, rfl, rfl, rfl, rfl⟩ | ⟨rfl, h1, rfl, rfl, rfl, rfl, rfl⟩ | ⟨rfl, rfl, rfl, h1, h2, rfl, rfl⟩ | ⟨rfl, rfl, rfl, h1, rfl, rfl, rfl⟩ | ⟨rfl, rfl, rfl, rfl, rfl, h1, h2⟩ <;> simp_all [wok]
theorem kin2 {a : En} (hr : right a = true) : right ⟨a.kind, a.writer, a.seq, a.name, a.value, 1, a.rights, a.epoch, a.wraps⟩ = decide (a.kind = 3 ∨ a.kind = 4) := by
  obtain ⟨hw, hs, h⟩ := (right_iff a).1 hr
  rw [Bool.eq_iff_iff, right_iff, decide_eq_true_eq]
  simp only
  obtain ⟨a1, a2, a3, a4, a5, a6, a7, a8, a9⟩ := a
  simp only at hw hs h ⊢
  rcases h with ⟨rfl, h1, h2, rfl, rfl, rfl, rfl⟩ | ⟨rfl, h1, rfl, rfl, rfl, rfl, rfl⟩ | ⟨rfl, rfl, rfl, h1, h2, rfl, rfl⟩ | ⟨rfl, rfl, rfl, h1, rfl, rfl, rfl⟩ | ⟨rfl, rfl, rfl, rfl, rfl, h1, h2⟩ <;> simp_all [wok]
theorem kin3 {a : En} (hr : right a = true) : right ⟨a.kind, a.writer, a.seq, a.name, a.value, a.who, 1, a.epoch, a.wraps⟩ = decide (a.kind = 3) := by
  obtain ⟨hw, hs, h⟩ := (right_iff a).1 hr
  rw [Bool.eq_iff_iff, right_iff, decide_eq_true_eq]
  simp only
  obtain ⟨a1, a2, a3, a4, a5, a6, a7, a8, a9⟩ := a
  simp only at hw hs h ⊢
  rcases h with ⟨rfl, h1, h2, rfl, rfl, rfl, rfl⟩ | ⟨rfl, h1, rfl, rfl, rfl, rfl, rfl⟩ | ⟨rfl, rfl, rfl, h1, h2, rfl, rfl⟩ | ⟨rfl, rfl, rfl, h1, rfl, rfl, rfl⟩ | ⟨rfl, rfl, rfl, rfl, rfl, h1, h2⟩ <;> simp_all [wok]
theorem kin4 {a : En} (hr : right a = true) : right ⟨a.kind, a.writer, a.seq, a.name, a.value, a.who, a.rights, 1, a.wraps⟩ = decide (a.kind = 5) := by
  obtain ⟨hw, hs, h⟩ := (right_iff a).1 hr
  rw [Bool.eq_iff_iff, right_iff, decide_eq_true_eq]
  simp only
  obtain ⟨a1, a2, a3, a4, a5, a6, a7, a8, a9⟩ := a
  simp only at hw hs h ⊢
  rcases h with ⟨rfl, h1, h2, rfl, rfl, rfl, rfl⟩ | ⟨rfl, h1, rfl, rfl, rfl, rfl, rfl⟩ | ⟨rfl, rfl, rfl, h1, h2, rfl, rfl⟩ | ⟨rfl, rfl, rfl, h1, rfl, rfl, rfl⟩ | ⟨rfl, rfl, rfl, rfl, rfl, h1, h2⟩ <;> simp_all [wok]
theorem kin5 {a : En} (hr : right a = true) : right ⟨a.kind, a.writer, a.seq, a.name, a.value, a.who, a.rights, a.epoch, [(1, List.replicate 48 0)]⟩ = decide (a.kind = 5) := by
  obtain ⟨hw, hs, h⟩ := (right_iff a).1 hr
  rw [Bool.eq_iff_iff, right_iff, decide_eq_true_eq]
  simp only
  obtain ⟨a1, a2, a3, a4, a5, a6, a7, a8, a9⟩ := a
  simp only at hw hs h ⊢
  rcases h with ⟨rfl, h1, h2, rfl, rfl, rfl, rfl⟩ | ⟨rfl, h1, rfl, rfl, rfl, rfl, rfl⟩ | ⟨rfl, rfl, rfl, h1, h2, rfl, rfl⟩ | ⟨rfl, rfl, rfl, h1, rfl, rfl, rfl⟩ | ⟨rfl, rfl, rfl, rfl, rfl, h1, h2⟩ <;> simp_all [wok]
end Go.Proofs.Ytiihdpkpgcmioaa.E9
