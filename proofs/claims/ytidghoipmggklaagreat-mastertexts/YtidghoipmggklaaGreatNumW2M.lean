import Derived.Test.YtidghoipmggklaaGreatNumWM
import Derived.Test.YtidghoipmggklaaGreatStrM
import Derived.Lib.SlBytesRow
import Derived.Deep.RegionWith
/- What Number returns: the number's bytes, in the program and in the document's words. -/
namespace Go.Proofs.YtidghoipmggklaaGreat
open Go.RowKit
theorem conv_own {w : World} {base : Nat} {v : Value} {l : List UInt8} (h : w.ownsRow base 5 1 v l.length (bc l)) : (convert 118 9 v).run Tryz.prog w = .ok (.string (str l)) w := by
  rcases h.2 with ⟨rfl, h0⟩ | ⟨g, cap, cur, rfl, hb, hg, _⟩
  · have : l = [] := List.eq_nil_of_length_eq_zero h0
    subst this
    rw [run_convert_bytes_string w 118 9 5 none 0 0 Tryz.underlying118 Tryz.underlying5 Tryz.underlying9]
    rfl
  · have hc : Lib.Bytes w g 0 (str l) := by
      intro i hi
      have := h.cells (g := g) rfl i (.int .u8 ((str l)[i].toNat : Int)) (by
        have hi' : i < l.length := hi
        unfold bc
        rw [List.getElem?_map, List.getElem?_eq_getElem hi']
        rfl)
      have ha : (⟨g, 0, none⟩ : Addr).add i = ⟨g, 0 + i, none⟩ := by unfold Addr.add; split <;> simp_all
      rw [ha] at this
      exact this
    exact Lib.run_convert_whole w 118 5 9 Tryz.underlying118 Tryz.underlying5 Tryz.underlying9 g 0 (str l) hc cap

theorem below_c {w w1 : World} (h : Below w.drew.heap.size w.drew w1) : Below w.heap.size w w1 := ((Below.refl w.heap.size w).drew).trans h
end Go.Proofs.YtidghoipmggklaaGreat
