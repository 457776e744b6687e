/- A slice of bytes that came in, as the walks want it. -/
import Derived.Test.YtnbdadhdpplldaaDoorAnchor
import Derived.OpenShut
namespace Go.Proofs.YtnbdadhdpplldaaDoor
open Go.RowKit
/-- A slice of bytes that came in: it is empty with no room; or it leads to a row of bytes. -/
def RowIs (w : World) (a : Option Addr) (len cap : Nat) : Prop :=
  (len = 0 ∧ cap = 0) ∨ ∃ b o l, a = some ⟨b, o, none⟩ ∧ l.length = len ∧ len ≤ cap ∧ cap ≤ 9223372036854775807 ∧ (∀ x ∈ l, x < 256) ∧ w.rangeAt b o (ints .u8 l) ∧ b < w.heap.size
theorem rowIs_nil (w : World) (a : Option Addr) : RowIs w a 0 0 := .inl ⟨rfl, rfl⟩
theorem rowIs_of {w : World} {x : Addr} {len cap : Nat} {zs : List Int} (hl : len ≤ cap) (hm : cap ≤ maxLen) (hz : zs.length = cap)
    (hcell : ∀ i, i < zs.length → w.cell? (x.add i) = some (.int .u8 (zs.getD i 0))) (hwz : ∀ n ∈ zs, (Lit.int .u8 n).wf = true) : RowIs w (some x) len cap := by
  by_cases hc : cap = 0
  · exact .inl ⟨by omega, hc⟩
  · have h0 := hcell 0 (by omega)
    have hx0 : x.add 0 = x := by obtain ⟨b, o, s⟩ := x; unfold Addr.add; split <;> simp_all
    have hsp : x.spot = none := by
      rw [hx0] at h0
      cases hs : x.spot with
      | none => rfl
      | some q =>
        unfold World.cell? at h0
        split at h0
        · simp [hs] at h0
        · cases h0
    obtain ⟨b, o, s⟩ := x
    simp only at hsp
    subst hsp
    have hbd : ∀ n ∈ zs, 0 ≤ n ∧ n ≤ 255 := fun n hn => by
      have := hwz n hn
      simp [Lit.wf, IntKind.min, IntKind.max, IntKind.bits, IntKind.signed] at this
      omega
    refine .inr ⟨b, o, (zs.take len).map Int.toNat, rfl, by simp; omega, hl, by unfold maxLen at hm; omega, fun y hy => ?_, fun j v hv => ?_, ?_⟩
    · obtain ⟨n, hn, rfl⟩ := List.mem_map.1 hy
      have := hbd n (List.mem_of_mem_take hn)
      omega
    · have hj : j < len := by
        have := (List.getElem?_eq_some_iff.1 hv).1
        simp [ints] at this
        omega
      have hj' : j < zs.length := by omega
      have h1 := hcell j hj'
      rw [Addr.add_mid] at h1
      rw [h1, ← hv]
      have := hbd zs[j] (List.getElem_mem hj')
      simp [ints, hj, hj']
      omega
    · have := World.block_lt_of_cell? w _ (by rw [hx0] at h0; exact h0)
      exact this
theorem Tryd.wf_i64 {n : Int} (h : (Lit.int .i64 n).wf = true) : -9223372036854775808 ≤ n ∧ n ≤ 9223372036854775807 := by
  simp [Lit.wf, IntKind.min, IntKind.max, IntKind.bits, IntKind.signed] at h
  omega
end Go.Proofs.YtnbdadhdpplldaaDoor
