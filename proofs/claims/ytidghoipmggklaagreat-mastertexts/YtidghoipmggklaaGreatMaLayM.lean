import Derived.Shelf.SlicesG.Clone
import Derived.Shelf.SortM.Plain
import Derived.Shelf.SortM.SortNone
import Derived.Shelf.SlicesG.CompactI
import Derived.Shelf.SlIterI.Nil
import Derived.Shelf.SlIterI.Sorted
import Derived.Shelf.SlGeneric
import Derived.Test.YtidghoipmggklaaGreatProg
/- The library's maps.Keys at a map of ints to ints. -/
namespace Go.Proofs.YtidghoipmggklaaGreat
open Go.Shelf Go.Proofs
def layKeysW_ren : Go.Shelf.Ren := ⟨fun | 7 => 86 | 10 => 142 | n => n, fun | 23 => 90 | 26 => 3 | 3 => 3 | 28 => 174 | 0 => 0 | 27 => 173 | 33 => 161 | 4 => 4 | n => n, fun | n => n⟩
theorem layKeysW : Go.Proofs.SlLaysZI.n7 Tryz.prog layKeysW_ren := {
  mixed := by kernel_rfl,
  f7 := ⟨Tryz.f86.name, by decide, Tryz.func86.trans (congrArg some (by kernel_rfl))⟩,
  f10 := ⟨Tryz.f142.name, by decide, Tryz.func142.trans (congrArg some (by kernel_rfl))⟩,
  t0 := Tryz.underlying0,
  a0 := Tryz.isAgg0,
  z0 := Tryz.sizeOf0,
  v0 := Tryz.zeroValue0,
  t4 := Tryz.underlying4,
  a4 := Tryz.isAgg4,
  z4 := Tryz.sizeOf4,
  v4 := Tryz.zeroValue4,
  t23 := Tryz.underlying90,
  a23 := Tryz.isAgg90,
  z23 := Tryz.sizeOf90,
  v23 := Tryz.zeroValue90,
  t26 := Tryz.underlying3,
  a26 := Tryz.isAgg3,
  z26 := Tryz.sizeOf3,
  v26 := Tryz.zeroValue3,
  t27 := Tryz.underlying173,
  a27 := Tryz.isAgg173,
  z27 := Tryz.sizeOf173,
  v27 := Tryz.zeroValue173,
  t28 := Tryz.underlying174,
  a28 := Tryz.isAgg174,
  z28 := Tryz.sizeOf174,
  v28 := Tryz.zeroValue174,
  t33 := Tryz.underlying161,
  a33 := Tryz.isAgg161,
  z33 := Tryz.sizeOf161,
  v33 := Tryz.zeroValue161 }
end Go.Proofs.YtidghoipmggklaaGreat
