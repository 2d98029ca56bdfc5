/- The library's builder of texts, and clones of rows of texts: which of the program's functions are the library's. -/
import Derived.Shelf.Strings.Builder1
import Derived.Shelf.SlicesG.Clone
import Derived.Shelf.SlGeneric
import Derived.Test.YtdapapnkmicklaaProg
namespace Go.Proofs.Ytdapapnkmicklaa
open Go.Shelf Go.Proofs
def layBS_ren : Go.Shelf.Ren := ⟨fun | 169 => 76 | n => n, fun | 70 => 129 | 9 => 9 | 0 => 0 | 72 => 132 | 37 => 130 | 127 => 155 | 3 => 3 | 5 => 5 | n => n, fun | n => n⟩
theorem layBS : Go.Proofs.Lays.n169 Try.prog layBS_ren := {
  mixed := by kernel_rfl,
  f169 := Try.func76.trans (congrArg some (by kernel_rfl)),
  t0 := Try.underlying0,
  a0 := Try.isAgg0,
  z0 := Try.sizeOf0,
  v0 := Try.zeroValue0,
  t3 := Try.underlying3,
  a3 := Try.isAgg3,
  z3 := Try.sizeOf3,
  v3 := Try.zeroValue3,
  t9 := Try.underlying9,
  a9 := Try.isAgg9,
  z9 := Try.sizeOf9,
  v9 := Try.zeroValue9,
  t37 := Try.underlying130,
  a37 := Try.isAgg130,
  z37 := Try.sizeOf130,
  v37 := Try.zeroValue130,
  t70 := Try.underlying129,
  a70 := Try.isAgg129,
  z70 := Try.sizeOf129,
  v70 := Try.zeroValue129,
  t72 := Try.underlying132,
  a72 := Try.isAgg132,
  z72 := Try.sizeOf132,
  v72 := Try.zeroValue132,
  t127 := Try.underlying155,
  a127 := Try.isAgg155,
  z127 := Try.sizeOf155,
  v127 := Try.zeroValue155}
def layCloneS_ren : Go.Shelf.Ren := ⟨fun | 42 => 45 | n => n, fun | 25 => 45 | 26 => 9 | 4 => 4 | n => n, fun | n => n⟩
theorem layCloneS : Go.Proofs.SlLaysN.n42 Try.prog layCloneS_ren := {
  mixed := by kernel_rfl,
  f42 := ⟨Try.f45.name, by decide, Try.func45.trans (congrArg some (by kernel_rfl))⟩,
  t4 := Try.underlying4,
  a4 := Try.isAgg4,
  z4 := Try.sizeOf4,
  v4 := Try.zeroValue4,
  t25 := Try.underlying45,
  a25 := Try.isAgg45,
  z25 := Try.sizeOf45,
  v25 := Try.zeroValue45,
  t26 := Try.underlying9,
  a26 := Try.isAgg9,
  z26 := Try.sizeOf9,
  v26 := Try.zeroValue9,
  i26 := by kernel_rfl}
end Go.Proofs.Ytdapapnkmicklaa
