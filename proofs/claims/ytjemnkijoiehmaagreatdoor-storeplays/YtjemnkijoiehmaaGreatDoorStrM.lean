import Derived.Below
import Derived.Laws.Strings
import Derived.Laws.Concat
/- Texts as lists of bytes. -/
namespace Go.Proofs.YtjemnkijoiehmaaGreatDoor
/-- A text of bytes. -/
def str (l : List UInt8) : ByteArray := ⟨l.toArray⟩
theorem str_size (l : List UInt8) : (str l).size = l.length := rfl
theorem str_data (s : ByteArray) : str s.data.toList = s := rfl
theorem str_toList (l : List UInt8) : (str l).toList = l := ByteArray.toList_mk l
theorem str_list (l : List UInt8) : (str l).data.toList = l := rfl
theorem str_append (a b : List UInt8) : str a ++ str b = str (a ++ b) := ByteArray.mk_append_mk a b
end Go.Proofs.YtjemnkijoiehmaaGreatDoor
