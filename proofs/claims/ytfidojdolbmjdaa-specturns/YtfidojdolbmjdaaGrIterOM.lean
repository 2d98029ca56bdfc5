import Derived.Test.YtfidojdolbmjdaaRfTM
import Derived.Test.YtfidojdolbmjdaaGrDataM
/- What an iterator that leaves the rounds' blocks alone keeps. -/
namespace Go.Proofs.Ytfidojdolbmjdaa
open Go.RowKit
/-- The iterator's own blocks lie as they lay, and are not the rounds'. -/
structure Ow (W wr : World) (O T : Nat → Prop) : Prop where
  fr : Fr W wr (fun k => ¬ O k)
  off : ∀ k, O k → ¬ T k
  inn : ∀ k, T k → k < wr.heap.size
section
variable {W wr w' : World} {O T T' : Nat → Prop}
theorem Ow.new (h : Ow W wr O T) (hb : Below wr.heap.size wr w') : Ow W w' O T := ⟨h.fr.trans (Fr.ofBelow hb (fun _ => False)) (fun _ _ h => h.elim), h.off, fun k hk => Nat.lt_of_lt_of_le (h.inn k hk) hb.size⟩
theorem Ow.round (h : Ow W wr O T) (hO : ∀ k, O k → k < W.heap.size) (f : Fr wr w' T) (g : Grows wr w' T T') : Ow W w' O T' :=
  ⟨h.fr.trans f (fun k _ ht ho => h.off k ho ht), fun k ho ht => (g k ht).elim (h.off k ho) (fun hk => by have := hO k ho; have := h.fr.size; omega), fun k hk => (g k hk).elim (fun h' => Nat.lt_of_lt_of_le (h.inn k h') f.size) (fun h' => h'.2)⟩
theorem Ow.cell (h : Ow W wr O T) {b o : Nat} {u : Value} (hb : O b) (hc : W.cell? ⟨b, o, none⟩ = some u) : wr.cell? ⟨b, o, none⟩ = some u := fr_cell h.fr (fun hn => hn hb) hc
/-- A block of the iterator's own stays behind a round. -/
theorem Ow.keep {b : Nat} {o : Obj} (hb : wr.heap[b]? = some o) (hT : ¬ T b) (f : Fr wr w' T) (g : Grows wr w' T T') : w'.heap[b]? = some o ∧ ¬ T' b :=
  ⟨(f.block b (Array.getElem?_eq_some_iff.1 hb).1 hT).trans hb, fun h => (g b h).elim hT (fun h' => by have := (Array.getElem?_eq_some_iff.1 hb).1; omega)⟩
end
end Go.Proofs.Ytfidojdolbmjdaa
