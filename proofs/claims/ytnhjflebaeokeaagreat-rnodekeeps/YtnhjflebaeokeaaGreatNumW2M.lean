import Derived.Test.YtnhjflebaeokeaaGreatNumWM
import Derived.Test.YtnhjflebaeokeaaGreatStrM
import Derived.Lib.SlBytesRow
import Derived.Deep.RegionWith
/- What Number returns: the number's bytes, in the program and in the document's words. -/
namespace Go.Proofs.YtnhjflebaeokeaaGreat
open Go.RowKit
theorem conv_own {w : World} {base : Nat} {v : Value} {l : List UInt8} (h : w.ownsRow base 5 1 v l.length (bc l)) : (convert 55 9 v).run Tryz.prog w = .ok (.string (str l)) w := by
  rcases h.2 with ⟨rfl, h0⟩ | ⟨g, cap, cur, rfl, hb, hg, _⟩
  · have : l = [] := List.eq_nil_of_length_eq_zero h0
    subst this
    rw [run_convert_bytes_string w 55 9 5 none 0 0 Tryz.underlying55 Tryz.underlying5 Tryz.underlying9]
    rfl
  · have hc : Lib.Bytes w g 0 (str l) := by
      intro i hi
      have := h.cells (g := g) rfl i (.int .u8 ((str l)[i].toNat : Int)) (by
        have hi' : i < l.length := hi
        unfold bc
        rw [List.getElem?_map, List.getElem?_eq_getElem hi']
        rfl)
      have ha : (⟨g, 0, none⟩ : Addr).add i = ⟨g, 0 + i, none⟩ := by unfold Addr.add; split <;> simp_all
      rw [ha] at this
      exact this
    exact Lib.run_convert_whole w 55 5 9 Tryz.underlying55 Tryz.underlying5 Tryz.underlying9 g 0 (str l) hc cap

theorem conv_blk {W : World} {b : Nat} {x : Int} (h0 : 0 ≤ x) (h1 : x < 256) (h : W.heap[b]? = some (.cells #[.int .u8 x] 5 (0, 0))) : (convert 55 9 (.slice (some ⟨b, 0, none⟩) 1 1)).run Tryz.prog W = .ok (.string (str [UInt8.ofNat x.toNat])) W := by
  refine conv_own (base := 0) (l := [UInt8.ofNat x.toNat]) ⟨rfl, Or.inr ⟨b, 1, #[.int .u8 x], rfl, Nat.zero_le _, h, Nat.le_refl _, by decide, rfl, ?_⟩⟩
  simp [bc]
  omega
theorem conv_new (W : World) (x : Int) (h0 : 0 ≤ x) (h1 : x < 256) : (convert 55 9 (.slice (some ⟨W.heap.size, 0, none⟩) 1 1)).run Tryz.prog (W.alloc (.cells #[.int .u8 x] 5)) = .ok (.string (str [UInt8.ofNat x.toNat])) (W.alloc (.cells #[.int .u8 x] 5)) :=
  conv_blk h0 h1 (heap_alloc_new _ _)
end Go.Proofs.YtnhjflebaeokeaaGreat
