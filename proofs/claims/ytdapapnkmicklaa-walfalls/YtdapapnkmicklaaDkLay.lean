/- The library's functions at the disk's types: which of the program's functions are the library's. -/
import Derived.Shelf.SlMaps.Clone
import Derived.Shelf.SlGeneric
import Derived.Test.YtdapapnkmicklaaProg
namespace Go.Proofs.Ytdapapnkmicklaa
open Go.Shelf Go.Proofs
def layMClone_ren : Go.Shelf.Ren := ⟨fun | 5 => 66 | 7 => 86 | n => n, fun | 23 => 66 | 25 => 9 | 3 => 112 | 4 => 4 | 20 => 20 | n => n, fun | n => n⟩
theorem layMClone : Go.Proofs.SlLaysW.n5 Try.prog layMClone_ren := {
  mixed := by kernel_rfl,
  f5 := ⟨Try.f66.name, by decide, Try.func66.trans (congrArg some (by kernel_rfl))⟩,
  f7 := Try.func86.trans (congrArg some (by kernel_rfl)),
  t4 := Try.underlying4,
  a4 := Try.isAgg4,
  z4 := Try.sizeOf4,
  v4 := Try.zeroValue4,
  t20 := Try.underlying20,
  a20 := Try.isAgg20,
  z20 := Try.sizeOf20,
  v20 := Try.zeroValue20,
  t23 := Try.underlying66,
  a23 := Try.isAgg66,
  z23 := Try.sizeOf66,
  v23 := Try.zeroValue66 }
end Go.Proofs.Ytdapapnkmicklaa
