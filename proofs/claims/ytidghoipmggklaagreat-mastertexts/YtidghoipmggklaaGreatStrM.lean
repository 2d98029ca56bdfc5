import Derived.Below
import Derived.Laws.Strings
import Derived.Laws.Concat
/- Texts as lists of bytes. -/
namespace Go.Proofs.YtidghoipmggklaaGreat
/-- A text of bytes. -/
def str (l : List UInt8) : ByteArray := ⟨l.toArray⟩
theorem str_size (l : List UInt8) : (str l).size = l.length := rfl
theorem str_list (l : List UInt8) : (str l).data.toList = l := rfl
end Go.Proofs.YtidghoipmggklaaGreat
