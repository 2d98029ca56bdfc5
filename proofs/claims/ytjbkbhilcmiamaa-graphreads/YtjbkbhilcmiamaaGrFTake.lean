/- The document's TakeVertex, Take and Decode. -/
import Derived.Test.YtjbkbhilcmiamaaGrRound
import Derived.Test.YtjbkbhilcmiamaaGrRefK
import Derived.Test.YtjbkbhilcmiamaaGrRef
namespace Go.Proofs.Ytjbkbhilcmiamaa
open Go.RowKit
theorem fsg_to {s : ByteArray} {a t a1 : Nat} {e e1 : Int} (w : World) (hs : s.size ≤ maxLen) (ha : a ≤ s.size) (h : rdNum s a e = (t, a1, e1)) :
    Calls Try.prog 22 #[.agg #[.string s, .int .i64 a, .int .i64 e]] w fun r w' =>
      r = .returned (.tuple #[.agg #[.string s, .int .i64 a1, .int .i64 e1], .int .i64 (unfoldN t)]) ∧ Below w.heap.size w w' := by
  have := fsigned_any (e := e) w hs ha; rw [h] at this; exact this
theorem fct_to {s : ByteArray} {a n a1 most : Nat} {e e1 : Int} (w : World) (hs : s.size ≤ maxLen) (ha : a ≤ s.size) (hm : most ≤ 9223372036854775807) (h : rdCount s a e most = (n, a1, e1)) :
    Calls Try.prog 74 #[.agg #[.string s, .int .i64 a, .int .i64 e], .int .i64 most] w fun r w' =>
      r = .returned (.tuple #[.agg #[.string s, .int .i64 a1, .int .i64 e1], .int .i64 n]) ∧ Below w.heap.size w w' := by
  have := fcount_any (e := e) (most := most) w hs ha (by omega); rw [h] at this; exact this
theorem set3_0 {w : World} {b : Nat} {t : TypeId} {u0 u1 u2 : Value} (h : w.heap[b]? = some (.cells #[u0, u1, u2] t (0, 0))) (u : Value) : (w.setCell ⟨b, 0, none⟩ u).heap[b]? = some (.cells #[u, u1, u2] t (0, 0)) := by
  have hlt := lt_of_block h
  have h' : w.heap[b] = .cells #[u0, u1, u2] t (0, 0) := by simpa [Array.getElem?_eq_getElem hlt] using h
  show (w.heap.modify b _)[b]? = _
  rw [Array.getElem?_eq_getElem (by simpa using hlt), Array.getElem_modify_self, h']
  rfl
theorem set3_1 {w : World} {b : Nat} {t : TypeId} {u0 u1 u2 : Value} (h : w.heap[b]? = some (.cells #[u0, u1, u2] t (0, 0))) (u : Value) : (w.setCell ⟨b, 1, none⟩ u).heap[b]? = some (.cells #[u0, u, u2] t (0, 0)) := by
  have hlt := lt_of_block h
  have h' : w.heap[b] = .cells #[u0, u1, u2] t (0, 0) := by simpa [Array.getElem?_eq_getElem hlt] using h
  show (w.heap.modify b _)[b]? = _
  rw [Array.getElem?_eq_getElem (by simpa using hlt), Array.getElem_modify_self, h']
  rfl
/-- Between two edges of the document's TakeVertex: the reader's box, the results' boxes, the vertex's box, the edges so far. -/
structure FV (w wr : World) (s : ByteArray) (x : Nat) (y i v : Int) (sv : Value) (L : List Ed) : Prop where
  low : Below w.heap.size w wr
  rb : wr.heap[w.heap.size]? = some (.cells #[.string s, .int .i64 x, .int .i64 y] 51 (0, 0))
  q1 : wr.heap[w.heap.size + 1]? = some (.cells #[.string ByteArray.empty, .int .i64 0, .int .i64 0] 51 (0, 0))
  q2 : wr.heap[w.heap.size + 1 + 1]? = some (.cells #[.int .i64 0, .int .i64 0, .slice none 0 0] 115 (0, 0))
  vb : wr.heap[w.heap.size + 1 + 1 + 1]? = some (.cells #[.int .i64 i, .int .i64 v, sv] 115 (0, 0))
  own : wr.ownsRow (w.heap.size + 1 + 1 + 1 + 1) 116 2 sv L.length (ecs L)
section
variable {w wr : World} {s : ByteArray} {x : Nat} {y i v : Int} {sv : Value} {L : List Ed}
theorem FV.new (h : FV w wr s x y i v sv L) {w1 : World} (hb : Below wr.heap.size wr w1) : FV w w1 s x y i v sv L :=
  ⟨h.low.trans (hb.mono h.low.size), (hb.block _ (lt_of_block h.rb)).trans h.rb, (hb.block _ (lt_of_block h.q1)).trans h.q1, (hb.block _ (lt_of_block h.q2)).trans h.q2, (hb.block _ (lt_of_block h.vb)).trans h.vb, own_new h.own hb⟩
theorem FV.al (h : FV w wr s x y i v sv L) (o : Obj) : FV w (wr.alloc o) s x y i v sv L := h.new (one_new _ _)
theorem FV.ne (h : FV w wr s x y i v sv L) {b : Nat} (hb : b ≤ w.heap.size + 1 + 1 + 1) : sv.ownBlock ≠ some b := fun e => by have := (h.own.lt b e).1; omega
theorem FV.ne' (h : FV w wr s x y i v sv L) {b : Nat} (hb : wr.heap.size ≤ b) : sv.ownBlock ≠ some b := fun e => by have := (h.own.lt b e).2; omega
theorem low_set (h : Below w.heap.size w wr) {b o : Nat} (u : Value) (hb : w.heap.size ≤ b) : Below w.heap.size w (wr.setCell ⟨b, o, none⟩ u) :=
  h.trans ((Fr.setCell (S := fun k => k = b) wr ⟨b, o, none⟩ u rfl).below h.size (fun k hk => by omega))
theorem blk_set {W : World} {b o k : Nat} {u : Value} {ob : Obj} (h : W.heap[k]? = some ob) (hn : k ≠ b) : (W.setCell ⟨b, o, none⟩ u).heap[k]? = some ob := (Below.heap_setCell W ⟨b, o, none⟩ u k hn).trans h
theorem FV.r0 (h : FV w wr s x y i v sv L) (s' : ByteArray) (x' : Nat) (y' : Int) : FV w (((wr.setCell ⟨w.heap.size, 0, none⟩ (.string s')).setCell ⟨w.heap.size, 1, none⟩ (.int .i64 x')).setCell ⟨w.heap.size, 2, none⟩ (.int .i64 y')) s' x' y' i v sv L := by
  refine ⟨low_set (low_set (low_set h.low _ (Nat.le_refl _)) _ (Nat.le_refl _)) _ (Nat.le_refl _), set3_2 (set3_1 (set3_0 h.rb _) _) _, blk_set (blk_set (blk_set h.q1 (by omega)) (by omega)) (by omega), blk_set (blk_set (blk_set h.q2 (by omega)) (by omega)) (by omega), blk_set (blk_set (blk_set h.vb (by omega)) (by omega)) (by omega), ?_⟩
  have hn := h.ne (b := w.heap.size) (by omega)
  exact ownsRow_setCell_other (ownsRow_setCell_other (ownsRow_setCell_other h.own hn _) hn _) hn _
theorem FV.v0 (h : FV w wr s x y i v sv L) (i' : Int) : FV w (wr.setCell ⟨w.heap.size + 1 + 1 + 1, 0, none⟩ (.int .i64 i')) s x y i' v sv L :=
  ⟨low_set h.low _ (by omega), blk_set h.rb (by omega), blk_set h.q1 (by omega), blk_set h.q2 (by omega), set3_0 h.vb _, ownsRow_setCell_other h.own (h.ne (Nat.le_refl _)) _⟩
theorem FV.v1 (h : FV w wr s x y i v sv L) (i' : Int) : FV w (wr.setCell ⟨w.heap.size + 1 + 1 + 1, 1, none⟩ (.int .i64 i')) s x y i i' sv L :=
  ⟨low_set h.low _ (by omega), blk_set h.rb (by omega), blk_set h.q1 (by omega), blk_set h.q2 (by omega), set3_1 h.vb _, ownsRow_setCell_other h.own (h.ne (Nat.le_refl _)) _⟩
theorem FV.oth (h : FV w wr s x y i v sv L) {b o : Nat} (u : Value) (hb : w.heap.size + 1 + 1 + 1 < b) (hn : sv.ownBlock ≠ some b) : FV w (wr.setCell ⟨b, o, none⟩ u) s x y i v sv L :=
  ⟨low_set h.low _ (by omega), blk_set h.rb (by omega), blk_set h.q1 (by omega), blk_set h.q2 (by omega), blk_set h.vb (by omega), ownsRow_setCell_other h.own hn _⟩
theorem FV.app (h : FV w wr s x y i v sv L) {w1 : World} {sv' : Value} {p q : Int} (ho : w1.ownsRow (w.heap.size + 1 + 1 + 1 + 1) 116 2 sv' (L.length + 1) (ecs L ++ [.int .i64 p, .int .i64 q])) (hg : wr.grownBy w1 sv.ownBlock) : FV w (w1.setCell ⟨w.heap.size + 1 + 1 + 1, 2, none⟩ sv') s x y i v sv' (L ++ [⟨p, q⟩]) := by
  have f1 : Fr wr w1 (fun k => sv.ownBlock = some k) := Fr.grown hg (fun k hk => hk)
  have hk : ∀ k, k ≤ w.heap.size + 1 + 1 + 1 → ¬ sv.ownBlock = some k := fun k hk => h.ne hk
  have hl : Below w.heap.size w w1 := h.low.trans (f1.below h.low.size (fun k hk => by have := (h.own.lt k hk).1; omega))
  refine ⟨low_set hl _ (by omega), blk_set ((f1.block _ (lt_of_block h.rb) (hk _ (by omega))).trans h.rb) (by omega), blk_set ((f1.block _ (lt_of_block h.q1) (hk _ (by omega))).trans h.q1) (by omega), blk_set ((f1.block _ (lt_of_block h.q2) (hk _ (by omega))).trans h.q2) (by omega), set3_2 ((f1.block _ (lt_of_block h.vb) (hk _ (by omega))).trans h.vb) _, ?_⟩
  rw [ecs_snoc, List.length_append]
  exact ownsRow_setCell_other ho (fun e => Nat.lt_irrefl (w.heap.size + 1 + 1 + 1) (ho.lt (w.heap.size + 1 + 1 + 1) e).1) _
theorem FV.grew (h : FV w wr s x y i v sv L) {w1 : World} (hg : wr.grownBy w1 sv.ownBlock) : w1.cell? ⟨w.heap.size + 1 + 1 + 1, 2, none⟩ = some sv ∧ w1.frozen? ⟨w.heap.size + 1 + 1 + 1, 2, none⟩ = false := by
  have f1 : Fr wr w1 (fun k => sv.ownBlock = some k) := Fr.grown hg (fun k hk => hk)
  have hxb := (f1.block _ (lt_of_block h.vb) (h.ne (Nat.le_refl _))).trans h.vb
  exact ⟨(box3 hxb).2.2, froz hxb⟩
theorem FV.rf (h : FV w wr s x y i v sv L) : wr.cell? ⟨w.heap.size, 0, none⟩ = some (.string s) ∧ wr.cell? ⟨w.heap.size, 1, none⟩ = some (.int .i64 x) ∧ wr.cell? ⟨w.heap.size, 2, none⟩ = some (.int .i64 y) ∧ wr.frozen? ⟨w.heap.size, 0, none⟩ = false ∧ wr.frozen? ⟨w.heap.size, 1, none⟩ = false ∧ wr.frozen? ⟨w.heap.size, 2, none⟩ = false := by
  obtain ⟨a0, a1, a2⟩ := box3 h.rb
  exact ⟨a0, a1, a2, froz h.rb, froz h.rb, froz h.rb⟩
theorem FV.vf (h : FV w wr s x y i v sv L) : wr.cell? ⟨w.heap.size + 1 + 1 + 1, 0, none⟩ = some (.int .i64 i) ∧ wr.cell? ⟨w.heap.size + 1 + 1 + 1, 1, none⟩ = some (.int .i64 v) ∧ wr.cell? ⟨w.heap.size + 1 + 1 + 1, 2, none⟩ = some sv ∧ wr.frozen? ⟨w.heap.size + 1 + 1 + 1, 0, none⟩ = false ∧ wr.frozen? ⟨w.heap.size + 1 + 1 + 1, 1, none⟩ = false ∧ wr.frozen? ⟨w.heap.size + 1 + 1 + 1, 2, none⟩ = false ∧ w.heap.size + 1 + 1 + 1 < wr.heap.size := by
  obtain ⟨a0, a1, a2⟩ := box3 h.vb
  exact ⟨a0, a1, a2, froz h.vb, froz h.vb, froz h.vb, lt_of_block h.vb⟩
theorem blk_al {W : World} {k : Nat} {ob : Obj} (o : Obj) (h : W.heap[k]? = some ob) : (W.alloc o).heap[k]? = some ob := ((one_new W o).block k (lt_of_block h)).trans h
theorem FV.start (w : World) (s : ByteArray) (a : Nat) (e : Int) : FV w ((((w.alloc (.cells #[.string s, .int .i64 a, .int .i64 e] 51)).alloc (.cells #[.string ByteArray.empty, .int .i64 0, .int .i64 0] 51)).alloc (.cells #[.int .i64 0, .int .i64 0, .slice none 0 0] 115)).alloc (.cells #[.int .i64 0, .int .i64 0, .slice none 0 0] 115)) s a e 0 0 (.slice none 0 0) [] := by
  refine ⟨(one_new w _).trans (((one_new _ _).trans (((one_new _ _).trans ((one_new _ _).mono (by simp))).mono (by simp))).mono (by simp)), blk_al _ (blk_al _ (blk_al _ (heap_alloc_new _ _))), blk_al _ (blk_al _ ?_), blk_al _ ?_, ?_, World.ownsRow_nil _ _ _ _⟩
  · have := heap_alloc_new (w.alloc (.cells #[.string s, .int .i64 a, .int .i64 e] 51)) (.cells #[.string ByteArray.empty, .int .i64 0, .int .i64 0] 51)
    rw [World.size_alloc] at this
    exact this
  · have := heap_alloc_new ((w.alloc (.cells #[.string s, .int .i64 a, .int .i64 e] 51)).alloc (.cells #[.string ByteArray.empty, .int .i64 0, .int .i64 0] 51)) (.cells #[.int .i64 0, .int .i64 0, .slice none 0 0] 115)
    rw [World.size_alloc, World.size_alloc] at this
    exact this
  · have := heap_alloc_new (((w.alloc (.cells #[.string s, .int .i64 a, .int .i64 e] 51)).alloc (.cells #[.string ByteArray.empty, .int .i64 0, .int .i64 0] 51)).alloc (.cells #[.int .i64 0, .int .i64 0, .slice none 0 0] 115)) (.cells #[.int .i64 0, .int .i64 0, .slice none 0 0] 115)
    rw [World.size_alloc, World.size_alloc, World.size_alloc] at this
    exact this
end
end Go.Proofs.Ytjbkbhilcmiamaa
