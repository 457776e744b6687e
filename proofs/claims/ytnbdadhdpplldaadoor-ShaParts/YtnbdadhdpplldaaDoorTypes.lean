/- Closed facts on the program's types. -/
import Derived.Test.YtnbdadhdpplldaaDoorProg
import Derived.Test.YtnbdadhdpplldaaDoorLaws
namespace Go.Proofs.YtnbdadhdpplldaaDoor
theorem info43 : (Tryd.prog.info? 43).map (·.size) = some 8 := by kernel_rfl
theorem info50 : (Tryd.prog.info? 50).map (·.size) = some 64 := by kernel_rfl
theorem Tryd.underlying50' : Tryd.prog.underlying 50 = some (.array 64 41) := by kernel_rfl
theorem info5 : (Tryd.prog.info? 5).map (·.size) = some 1 := by kernel_rfl
theorem info41 : (Tryd.prog.info? 41).map (·.size) = some 1 := by kernel_rfl
theorem under43 : Tryd.prog.underlying 43 = some (.array 8 41) := by kernel_rfl
theorem info5e : ∃ i, Tryd.prog.info? 5 = some i ∧ i.size = 1 ∧ i.bytes = 1 ∧ i.zero = some (.int .u8 0) := info_of (by kernel_rfl)
theorem under44 : Tryd.prog.underlying 44 = some (.array 64 5) := by kernel_rfl
theorem info44 : (Tryd.prog.info? 44).map (·.size) = some 64 := by kernel_rfl
theorem info47 : (Tryd.prog.info? 47).map (·.size) = some 73 := by kernel_rfl
end Go.Proofs.YtnbdadhdpplldaaDoor
