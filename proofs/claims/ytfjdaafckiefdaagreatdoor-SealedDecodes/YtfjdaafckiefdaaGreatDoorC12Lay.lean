/- bytes.Join of this program, as the library's contract asks for it. -/
import Derived.Shelf.Bytes.SlJoin
import Derived.Test.YtfjdaafckiefdaaGreatDoorProg
namespace Go.Proofs.YtfjdaafckiefdaaGreatDoor
open Go.Shelf
def Tryz.joinA_ren : Go.Shelf.Ren := ⟨fun | 14 => 142 | 15 => 156 | n => n, fun | 22 => 22 | 26 => 136 | n => n, fun | n => n⟩
theorem Tryz.joinA : Go.Proofs.SlLaysJ.n14 Tryz.prog Tryz.joinA_ren := {
  mixed := by kernel_rfl,
  f14 := Tryz.func142.trans (congrArg some (by kernel_rfl)),
  f15 := Tryz.func156.trans (congrArg some (by kernel_rfl)),
  t0 := Tryz.underlying0,
  a0 := Tryz.isAgg0,
  z0 := Tryz.sizeOf0,
  v0 := Tryz.zeroValue0,
  t3 := Tryz.underlying3,
  a3 := Tryz.isAgg3,
  z3 := Tryz.sizeOf3,
  v3 := Tryz.zeroValue3,
  t4 := Tryz.underlying4,
  a4 := Tryz.isAgg4,
  z4 := Tryz.sizeOf4,
  v4 := Tryz.zeroValue4,
  t9 := Tryz.underlying9,
  a9 := Tryz.isAgg9,
  z9 := Tryz.sizeOf9,
  v9 := Tryz.zeroValue9,
  t20 := Tryz.underlying20,
  a20 := Tryz.isAgg20,
  z20 := Tryz.sizeOf20,
  v20 := Tryz.zeroValue20,
  t22 := Tryz.underlying22,
  a22 := Tryz.isAgg22,
  z22 := Tryz.sizeOf22,
  v22 := Tryz.zeroValue22,
  t26 := Tryz.underlying136,
  a26 := Tryz.isAgg136,
  z26 := Tryz.sizeOf136,
  v26 := Tryz.zeroValue136,
  t5 := Tryz.underlying5,
  z5 := Tryz.sizeOf5,
  i5 := by kernel_rfl }
end Go.Proofs.YtfjdaafckiefdaaGreatDoor
