/- What Number returns: the number's bytes, in the program and in the document's words. -/
import Derived.Test.YthlmohbpedcmfabNumW
import Derived.Lib.SlBytesRow
import Derived.Deep.RegionWith
namespace Go.Proofs.Ythlmohbpedcmfab
open Go.RowKit
/-- A text of bytes. -/
def str (l : List UInt8) : ByteArray := ⟨l.toArray⟩
theorem str_size (l : List UInt8) : (str l).size = l.length := rfl
theorem str_data (s : ByteArray) : str s.data.toList = s := rfl
theorem str_toList (l : List UInt8) : (str l).toList = l := ByteArray.toList_mk l
theorem str_list (l : List UInt8) : (str l).data.toList = l := rfl
theorem str_append (a b : List UInt8) : str a ++ str b = str (a ++ b) := ByteArray.mk_append_mk a b

theorem conv_own {w : World} {base : Nat} {v : Value} {l : List UInt8} (h : w.ownsRow base 5 1 v l.length (bc l)) : (convert 24 9 v).run Try.prog w = .ok (.string (str l)) w := by
  rcases h.2 with ⟨rfl, h0⟩ | ⟨g, cap, cur, rfl, hb, hg, _⟩
  · have : l = [] := List.eq_nil_of_length_eq_zero h0
    subst this
    rw [run_convert_bytes_string w 24 9 5 none 0 0 Try.underlying24 Try.underlying5 Try.underlying9]
    rfl
  · have hc : Lib.Bytes w g 0 (str l) := by
      intro i hi
      have := h.cells (g := g) rfl i (.int .u8 ((str l)[i].toNat : Int)) (by
        have hi' : i < l.length := hi
        unfold bc
        rw [List.getElem?_map, List.getElem?_eq_getElem hi']
        rfl)
      have ha : (⟨g, 0, none⟩ : Addr).add i = ⟨g, 0 + i, none⟩ := by unfold Addr.add; split <;> simp_all
      rw [ha] at this
      exact this
    exact Lib.run_convert_whole w 24 5 9 Try.underlying24 Try.underlying5 Try.underlying9 g 0 (str l) hc cap

set_option maxRecDepth 100000 in
theorem number_any (n : Nat) (w : World) (hn : n < 18446744073709551616) :
    Calls Try.prog 6 #[.int .u64 n] w fun e w' => e = .returned (.string (str (numB n))) ∧ Below w.heap.size w w' := by
  go_enter Try.func6, Try.ntmps6
  go_wp2_with (go_at_call 7; refine (append_number w.heap.size (.slice none 0 0) [] n w hn (World.ownsRow_nil _ _ _ _) (Nat.le_refl _) (by decide)).mono ?_; rintro e w1 ⟨v', rfl, hown, hfr, hrow⟩; have hc := conv_own hown)
  go_ret
  exact ⟨rfl, hfr.below (Nat.le_refl _) (fun k hk => by cases hk)⟩

theorem conv_blk {W : World} {b : Nat} {x : Int} (h0 : 0 ≤ x) (h1 : x < 256) (h : W.heap[b]? = some (.cells #[.int .u8 x] 5 (0, 0))) : (convert 24 9 (.slice (some ⟨b, 0, none⟩) 1 1)).run Try.prog W = .ok (.string (str [UInt8.ofNat x.toNat])) W := by
  refine conv_own (base := 0) (l := [UInt8.ofNat x.toNat]) ⟨rfl, Or.inr ⟨b, 1, #[.int .u8 x], rfl, Nat.zero_le _, h, Nat.le_refl _, by decide, rfl, ?_⟩⟩
  simp [bc]
  omega
theorem conv_new (W : World) (x : Int) (h0 : 0 ≤ x) (h1 : x < 256) : (convert 24 9 (.slice (some ⟨W.heap.size, 0, none⟩) 1 1)).run Try.prog (W.alloc (.cells #[.int .u8 x] 5)) = .ok (.string (str [UInt8.ofNat x.toNat])) (W.alloc (.cells #[.int .u8 x] 5)) :=
  conv_blk h0 h1 (heap_alloc_new _ _)
theorem conv_newd (W : World) (x : Int) (h0 : 0 ≤ x) (h1 : x < 256) : (convert 24 9 (.slice (some ⟨W.heap.size, 0, none⟩) 1 1)).run Try.prog (W.alloc (.cells #[.int .u8 x] 5)).drew = .ok (.string (str [UInt8.ofNat x.toNat])) (W.alloc (.cells #[.int .u8 x] 5)).drew :=
  conv_blk h0 h1 (heap_alloc_new _ _)
theorem conv_later {W w1 : World} (x : Int) (h0 : 0 ≤ x) (h1 : x < 256) (hb : Below (W.alloc (.cells #[.int .u8 x] 5)).drew.heap.size (W.alloc (.cells #[.int .u8 x] 5)).drew w1) : (convert 24 9 (.slice (some ⟨W.heap.size, 0, none⟩) 1 1)).run Try.prog w1 = .ok (.string (str [UInt8.ofNat x.toNat])) w1 :=
  conv_blk h0 h1 ((hb.block W.heap.size (by show _ < (W.alloc _).heap.size; simp)).trans (heap_alloc_new _ _))

theorem below_a {w w1 : World} {o : Obj} (h : Below (w.alloc o).drew.heap.size (w.alloc o).drew w1) : Below w.heap.size w w1 :=
  (((Below.refl w.heap.size w).alloc (Nat.le_refl _) o).drew).trans (h.mono (by show _ ≤ (w.alloc o).heap.size; simp))
theorem below_c {w w1 : World} (h : Below w.drew.heap.size w.drew w1) : Below w.heap.size w w1 := ((Below.refl w.heap.size w).drew).trans h
theorem below_b {w w1 : World} (h : Below w.drew.heap.size w.drew w1) (o : Obj) : Below w.heap.size w (w1.alloc o) := (below_c h).alloc (below_c h).size o
theorem num_join {n q : Nat} {x : Int} (hlo : ¬ n < 128) (hx : x = n % 128 + 128) (hq : q = n / 128) : Ending.returned (.string (str [UInt8.ofNat x.toNat] ++ str (numB q))) = .returned (.string (str (numB n))) := by
  have : x.toNat = n % 128 + 128 := by omega
  rw [str_append, numB_hi hlo, this, hq]; rfl

end Go.Proofs.Ythlmohbpedcmfab
