/- Closed facts on the program's types. -/
import Derived.Test.YtnbdadhdpplldabDoorProg
import Derived.Test.YtnbdadhdpplldabDoorLaws
namespace Go.Proofs.YtnbdadhdpplldabDoor
theorem info54 : (Tryd.prog.info? 54).map (·.size) = some 8 := by kernel_rfl
theorem info60 : (Tryd.prog.info? 60).map (·.size) = some 64 := by kernel_rfl
theorem Tryd.underlying60' : Tryd.prog.underlying 60 = some (.array 64 52) := by kernel_rfl
theorem info5 : (Tryd.prog.info? 5).map (·.size) = some 1 := by kernel_rfl
theorem info52 : (Tryd.prog.info? 52).map (·.size) = some 1 := by kernel_rfl
theorem under54 : Tryd.prog.underlying 54 = some (.array 8 52) := by kernel_rfl
theorem info5e : ∃ i, Tryd.prog.info? 5 = some i ∧ i.size = 1 ∧ i.bytes = 1 ∧ i.zero = some (.int .u8 0) := info_of (by kernel_rfl)
theorem under38 : Tryd.prog.underlying 38 = some (.array 64 5) := by kernel_rfl
theorem info38 : (Tryd.prog.info? 38).map (·.size) = some 64 := by kernel_rfl
theorem info57 : (Tryd.prog.info? 57).map (·.size) = some 73 := by kernel_rfl
end Go.Proofs.YtnbdadhdpplldabDoor
