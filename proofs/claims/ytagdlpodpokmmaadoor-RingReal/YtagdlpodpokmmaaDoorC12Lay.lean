/- bytes.Join of this program, as the library's contract asks for it. -/
import Derived.Shelf.Bytes.SlJoin
import Derived.Test.YtagdlpodpokmmaaDoorProg
namespace Go.Proofs.YtagdlpodpokmmaaDoor
open Go.Shelf
def Tryd.joinA_ren : Go.Shelf.Ren := ⟨fun | 14 => 84 | 15 => 98 | n => n, fun | 22 => 22 | 26 => 87 | n => n, fun | n => n⟩
theorem Tryd.joinA : Go.Proofs.SlLaysJ.n14 Tryd.prog Tryd.joinA_ren := {
  mixed := by kernel_rfl,
  f14 := Tryd.func84.trans (congrArg some (by kernel_rfl)),
  f15 := Tryd.func98.trans (congrArg some (by kernel_rfl)),
  t0 := Tryd.underlying0,
  a0 := Tryd.isAgg0,
  z0 := Tryd.sizeOf0,
  v0 := Tryd.zeroValue0,
  t3 := Tryd.underlying3,
  a3 := Tryd.isAgg3,
  z3 := Tryd.sizeOf3,
  v3 := Tryd.zeroValue3,
  t4 := Tryd.underlying4,
  a4 := Tryd.isAgg4,
  z4 := Tryd.sizeOf4,
  v4 := Tryd.zeroValue4,
  t9 := Tryd.underlying9,
  a9 := Tryd.isAgg9,
  z9 := Tryd.sizeOf9,
  v9 := Tryd.zeroValue9,
  t20 := Tryd.underlying20,
  a20 := Tryd.isAgg20,
  z20 := Tryd.sizeOf20,
  v20 := Tryd.zeroValue20,
  t22 := Tryd.underlying22,
  a22 := Tryd.isAgg22,
  z22 := Tryd.sizeOf22,
  v22 := Tryd.zeroValue22,
  t26 := Tryd.underlying87,
  a26 := Tryd.isAgg87,
  z26 := Tryd.sizeOf87,
  v26 := Tryd.zeroValue87,
  t5 := Tryd.underlying5,
  z5 := Tryd.sizeOf5,
  i5 := by kernel_rfl }
end Go.Proofs.YtagdlpodpokmmaaDoor
