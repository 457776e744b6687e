/- ChainFull: all ways. -/
import Derived.Test.YtkiohhkmlpgdoaaDoorC12Full
namespace Go.Proofs.YtkiohhkmlpgdoaaDoor.S7
open Go.RowKit
theorem byte_nat {z : Int} (h : (Lit.int .u8 z).wf = true) : ∃ k : Nat, z = (k : Int) ∧ k < 256 := by
  simp [Lit.wf, IntKind.min, IntKind.max, IntKind.signed, IntKind.bits] at h
  exact ⟨z.toNat, by omega, by omega⟩
theorem full_any (w : World) (n b : Int) (hb : (Lit.int .u8 b).wf = true) : Calls Tryd.prog 8 #[.int .i64 n, .int .u8 b] w fun e w' => e = .returned (.bool true) ∧ Below w.heap.size w w' := by
  by_cases h : n < 0 ∨ 80 < n
  · exact full_out w n b h
  obtain ⟨k, rfl, hk⟩ := byte_nat hb
  obtain ⟨n', rfl⟩ : ∃ n' : Nat, n = (n' : Int) := ⟨n.toNat, by omega⟩
  exact full_main w n' k (by omega) hk
end Go.Proofs.YtkiohhkmlpgdoaaDoor.S7
