import Derived.Shelf.SlicesE.IndexFunc
import Derived.Shelf.SlGeneric
import Derived.Test.YtcfbmgbhpihdcaaProg
/- The library's sort, compact and search at numbers: which of the program's functions are the library's. -/
namespace Go.Proofs.Ytcfbmgbhpihdcaa
open Go.Shelf Go.Proofs
def layContI_ren : Go.Shelf.Ren := ⟨fun | 8 => 52 | 6 => 80 | n => n, fun | 22 => 98 | 23 => 3 | 25 => 102 | 4 => 4 | 3 => 3 | 0 => 0 | n => n, fun | n => n⟩
theorem layContI : Go.Proofs.SlLaysH.n8 Try.prog layContI_ren := {
  mixed := by kernel_rfl,
  f6 := ⟨Try.f80.name, by decide, Try.func80.trans (congrArg some (by kernel_rfl))⟩,
  f8 := ⟨Try.f52.name, by decide, Try.func52.trans (congrArg some (by kernel_rfl))⟩,
  t0 := Try.underlying0,
  a0 := Try.isAgg0,
  z0 := Try.sizeOf0,
  v0 := Try.zeroValue0,
  t3 := Try.underlying3,
  a3 := Try.isAgg3,
  z3 := Try.sizeOf3,
  v3 := Try.zeroValue3,
  t4 := Try.underlying4,
  a4 := Try.isAgg4,
  z4 := Try.sizeOf4,
  v4 := Try.zeroValue4,
  t22 := Try.underlying98,
  a22 := Try.isAgg98,
  z22 := Try.sizeOf98,
  v22 := Try.zeroValue98,
  a23 := Try.isAgg3,
  z23 := Try.sizeOf3,
  t25 := Try.underlying102,
  a25 := Try.isAgg102,
  z25 := Try.sizeOf102,
  v25 := Try.zeroValue102 }
end Go.Proofs.Ytcfbmgbhpihdcaa
