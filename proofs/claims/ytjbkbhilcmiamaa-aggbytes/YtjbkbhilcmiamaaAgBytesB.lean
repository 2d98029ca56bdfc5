/- AggBytes: its boxes, readers and writer. -/
import Derived.Test.YtjbkbhilcmiamaaAgBytesM
import Derived.Test.YtjbkbhilcmiamaaAgXY
import Derived.Deep.CutBlock
import Derived.Test.YtjbkbhilcmiamaaGrVB
import Derived.Test.YtjbkbhilcmiamaaRefReader2
namespace Go.Proofs.Ytjbkbhilcmiamaa
open Go.RowKit
/-- The aggregate's box and the writer. -/
structure EA (w wr : World) (g p base : Nat) (v : Value) (l : List UInt8) (x : Nat → Option Int) : Prop where
  x5 : wr.heap[g]? = some (.cells (AOc x) 26 (0, 0))
  wt : Wr wr base p v l
  low : Below w.heap.size w wr
theorem EA.new {w wr w' : World} {g p base : Nat} {v : Value} {l : List UInt8} {x : Nat → Option Int} (h : EA w wr g p base v l x) (hb : Below wr.heap.size wr w') : EA w w' g p base v l x := by
  have f : Fr wr w' (fun k => wr.heap.size ≤ k) := ⟨hb.os, hb.tape, hb.output, hb.size, fun k _ hn => hb.block k (by omega)⟩
  exact ⟨(hb.block _ (lt_of_block h.x5)).trans h.x5, h.wt.kept f (by have := h.wt.lt; omega) (fun k hk => by have := h.wt.olt k hk; omega), h.low.trans (hb.mono h.low.size)⟩
/-- All that lies ahead of a mark: the aggregate, the writer, two readers, what they gave. -/
structure BE (w wr : World) (N g p base pr gy pq gz : Nat) (v : Value) (l : List UInt8) (x zz : Nat → Option Int) (S s : ByteArray) (n1 aq : Nat) (eq : Int) : Prop where
  x5 : wr.heap[g]? = some (.cells (AOc x) 26 (0, 0))
  wt : Wr wr base p v l
  r1 : Rd wr pr S n1 0
  y1 : wr.heap[gy]? = some (.cells (AOc x) 26 (0, 0))
  q1 : Rd wr pq s aq eq
  z1 : wr.heap[gz]? = some (.cells (AOc zz) 26 (0, 0))
  low : Below w.heap.size w wr
  n0 : w.heap.size ≤ N
  ns : N ≤ wr.heap.size
  h1 : g < N
  h2 : p < N
  h3 : ∀ k, v.ownBlock = some k → k < N
  h4 : pr < N
  h5 : gy < N
  h6 : pq < N
  h7 : gz < N
section
variable {w wr w' : World} {N g p base pr gy pq gz : Nat} {v : Value} {l : List UInt8} {x zz : Nat → Option Int} {S s : ByteArray} {n1 aq : Nat} {eq : Int}
theorem BE.kept (h : BE w wr N g p base pr gy pq gz v l x zz S s n1 aq eq) {T : Nat → Prop} (f : Fr wr w' T) (hT : ∀ k, T k → N ≤ k) : BE w w' N g p base pr gy pq gz v l x zz S s n1 aq eq := by
  have hn : ∀ k, k < N → ¬ T k := fun k hk ht => by have := hT k ht; omega
  refine ⟨(f.block _ (lt_of_block h.x5) (hn _ h.h1)).trans h.x5, h.wt.kept f (hn _ h.h2) (fun k hk => hn _ (h.h3 k hk)), h.r1.kept f (hn _ h.h4), (f.block _ (lt_of_block h.y1) (hn _ h.h5)).trans h.y1, h.q1.kept f (hn _ h.h6), (f.block _ (lt_of_block h.z1) (hn _ h.h7)).trans h.z1, h.low.trans (f.below h.low.size (fun k hk => Nat.le_trans h.n0 (hT k hk))), h.n0, Nat.le_trans h.ns f.size, h.h1, h.h2, h.h3, h.h4, h.h5, h.h6, h.h7⟩
theorem BE.new (h : BE w wr N g p base pr gy pq gz v l x zz S s n1 aq eq) (hb : Below wr.heap.size wr w') : BE w w' N g p base pr gy pq gz v l x zz S s n1 aq eq := by
  have f : Fr wr w' (fun k => wr.heap.size ≤ k) := ⟨hb.os, hb.tape, hb.output, hb.size, fun k _ hn => hb.block k (by omega)⟩
  exact h.kept f (fun k hk => Nat.le_trans h.ns hk)
end
theorem BE.start {w wr w5 w6 w7 w8 : World} {g p base n1 aq : Nat} {v : Value} {l : List UInt8} {x zz : Nat → Option Int} {S s : ByteArray} {eq : Int} (hA : EA w wr g p base v l x) (b5 : Below wr.heap.size wr w5) (r6 : Rd w6 wr.heap.size S n1 0) (f6 : Fr w5 w6 (fun k => k = wr.heap.size))
    (b7 : Below (w6.alloc (.cells (AOc x) 26)).heap.size (w6.alloc (.cells (AOc x) 26)) w7) (r8 : Rd w8 (w6.heap.size + 1) s aq eq) (f8 : Fr w7 w8 (fun k => k = w6.heap.size + 1)) :
    BE w (w8.alloc (.cells (AOc zz) 26)) (w8.heap.size + 1) g p base wr.heap.size w6.heap.size (w6.heap.size + 1) w8.heap.size v l x zz S s n1 aq eq := by
  have a5 := hA.new b5
  have lg := lt_of_block hA.x5
  have lp := hA.wt.lt
  have lo := hA.wt.olt
  have s5 := b5.size
  have s6 := f6.size
  have b7' := below_al b7
  have s7 := b7'.size
  have s8 := f8.size
  have lr := hA.low.size
  have f7 : Fr w6 w7 (fun k => w6.heap.size ≤ k) := ⟨b7'.os, b7'.tape, b7'.output, b7'.size, fun k _ hn => b7'.block k (by omega)⟩
  have f68 : Fr w6 w8 (fun k => w6.heap.size ≤ k) := f7.trans f8 (fun k _ e => by omega)
  have x6 := (f6.block g (by omega) (by omega)).trans a5.x5
  have x8 := (f68.block g (by omega) (by omega)).trans x6
  have t6 := a5.wt.kept f6 (by omega) (fun k hk => by have := lo k hk; omega)
  have t8 := t6.kept f68 (by omega) (fun k hk => by have := lo k hk; omega)
  have r1 := r6.kept f68 (by have := r6.lt; omega)
  have y7 := new_at b7
  have y8 := (f8.block _ (lt_of_block y7) (by omega)).trans y7
  have l6 : Below w.heap.size w w6 := a5.low.trans (f6.below a5.low.size (fun k hk => by omega))
  have l8 : Below w.heap.size w w8 := l6.trans (f68.below l6.size (fun k hk => by omega))
  have lr6 := r6.lt
  have fz := Fr.alloc w8 (.cells (AOc zz) 26) (fun _ => False)
  exact ⟨blk_al' _ x8, t8.kept fz (fun h => h) (fun _ _ h => h), r1.kept fz (fun h => h), blk_al' _ y8, r8.kept fz (fun h => h), heap_alloc_new _ _, l8.alloc l8.size _, by omega, by rw [World.size_alloc]; omega, by omega, by omega, fun k hk => by have := lo k hk; omega, by omega, by omega, by have := lt_of_block y7; omega, by omega⟩
/-- The same with the document's reader and aggregate behind the mark. -/
structure BF (w wr : World) (N g p base pr gy pq gz : Nat) (v : Value) (l : List UInt8) (x zz : Nat → Option Int) (S s : ByteArray) (n1 aq : Nat) (eq : Int) (o : Nat → Option Int) (a : Nat) (e : Int) : Prop where
  be : BE w wr N g p base pr gy pq gz v l x zz S s n1 aq eq
  bm : wr.heap[N]? = some (.cells #[.string s, .int .i64 a, .int .i64 e] 51 (0, 0))
  bk : wr.heap[N + 1]? = some (.cells (AOc o) 26 (0, 0))
section
variable {w wr w' : World} {N g p base pr gy pq gz : Nat} {v : Value} {l : List UInt8} {x zz : Nat → Option Int} {S s : ByteArray} {n1 aq : Nat} {eq : Int} {o o' : Nat → Option Int} {a a' : Nat} {e e' : Int}
theorem BF.new (h : BF w wr N g p base pr gy pq gz v l x zz S s n1 aq eq o a e) (hb : Below wr.heap.size wr w') : BF w w' N g p base pr gy pq gz v l x zz S s n1 aq eq o a e :=
  ⟨h.be.new hb, (hb.block _ (lt_of_block h.bm)).trans h.bm, (hb.block _ (lt_of_block h.bk)).trans h.bk⟩
theorem BF.al (h : BF w wr N g p base pr gy pq gz v l x zz S s n1 aq eq o a e) (ob : Obj) : BF w (wr.alloc ob) N g p base pr gy pq gz v l x zz S s n1 aq eq o a e := h.new (one_new' _ _)
theorem BF.setm (h : BF w wr N g p base pr gy pq gz v l x zz S s n1 aq eq o a e) (a' : Nat) (e' : Int) : BF w (((wr.setCell ⟨N, 0, none⟩ (.string s)).setCell ⟨N, 1, none⟩ (.int .i64 a')).setCell ⟨N, 2, none⟩ (.int .i64 e')) N g p base pr gy pq gz v l x zz S s n1 aq eq o a' e' := by
  have f : Fr wr (((wr.setCell ⟨N, 0, none⟩ (.string s)).setCell ⟨N, 1, none⟩ (.int .i64 a')).setCell ⟨N, 2, none⟩ (.int .i64 e')) (fun k => k = N) :=
    ((Fr.setCell (S := fun k => k = N) wr ⟨N, 0, none⟩ _ rfl).trans (Fr.setCell (S := fun k => k = N) _ ⟨N, 1, none⟩ _ rfl) (fun _ _ h => h)).trans (Fr.setCell (S := fun k => k = N) _ ⟨N, 2, none⟩ _ rfl) (fun _ _ h => h)
  exact ⟨h.be.kept f (fun k hk => by omega), blk_set0 _ (blk_set0 _ (blk_set0 _ h.bm)), (f.block _ (lt_of_block h.bk) (by omega)).trans h.bk⟩
theorem BF.setk (h : BF w wr N g p base pr gy pq gz v l x zz S s n1 aq eq o a e) (i j : Nat) {u u' : Value} (ho : ((AOc o).setIfInBounds i u).setIfInBounds j u' = AOc o') : BF w ((wr.setCell ⟨N + 1, i, none⟩ u).setCell ⟨N + 1, j, none⟩ u') N g p base pr gy pq gz v l x zz S s n1 aq eq o' a e := by
  have f : Fr wr ((wr.setCell ⟨N + 1, i, none⟩ u).setCell ⟨N + 1, j, none⟩ u') (fun k => k = N + 1) :=
    (Fr.setCell (S := fun k => k = N + 1) wr ⟨N + 1, i, none⟩ u rfl).trans (Fr.setCell (S := fun k => k = N + 1) _ ⟨N + 1, j, none⟩ u' rfl) (fun _ _ h => h)
  refine ⟨h.be.kept f (fun k hk => by omega), (f.block _ (lt_of_block h.bm) (by omega)).trans h.bm, ?_⟩
  rw [← ho]
  exact blk_set0 u' (blk_set0 u h.bk)
theorem BF.putk (h : BF w wr N g p base pr gy pq gz v l x zz S s n1 aq eq o a e) (f : Fr wr w' (fun k => k = N + 1)) (hn : w'.heap[N + 1]? = some (.cells (AOc o') 26 (0, 0))) : BF w w' N g p base pr gy pq gz v l x zz S s n1 aq eq o' a e :=
  ⟨h.be.kept f (fun k hk => by omega), (f.block _ (lt_of_block h.bm) (by omega)).trans h.bm, hn⟩
theorem BF.start (h : BE w wr N g p base pr gy pq gz v l x zz S s n1 aq eq) (hN : wr.heap.size = N) : BF w ((wr.alloc (.cells #[.string s, .int .i64 0, .int .i64 0] 51)).alloc (.cells zc 26)) N g p base pr gy pq gz v l x zz S s n1 aq eq (fun _ => none) 0 0 := by
  subst hN
  exact ⟨(h.new (one_new' _ _)).new (one_new' _ _), blk_al2 _ _ _, heap_alloc_new2 _ _ _⟩
theorem BF.mcells (h : BF w wr N g p base pr gy pq gz v l x zz S s n1 aq eq o a e) : wr.cell? ⟨N, 0, none⟩ = some (.string s) ∧ wr.cell? ⟨N, 1, none⟩ = some (.int .i64 a) ∧ wr.cell? ⟨N, 2, none⟩ = some (.int .i64 e) ∧ wr.frozen? ⟨N, 0, none⟩ = false ∧ wr.frozen? ⟨N, 1, none⟩ = false ∧ wr.frozen? ⟨N, 2, none⟩ = false ∧ N < wr.heap.size := by
  refine ⟨?_, ?_, ?_, froz10 h.bm 0, froz10 h.bm 1, froz10 h.bm 2, lt_of_block h.bm⟩ <;> simp [World.cell?, h.bm]
end
theorem fbo_to {s : ByteArray} {a a' : Nat} {b : Bool} {e e' : Int} (w : World) (hs : s.size ≤ maxLen) (ha : a ≤ s.size) (hq : rdBool s a e = (b, a', e')) :
    Calls Try.prog 21 #[.agg #[.string s, .int .i64 a, .int .i64 e]] w fun r w' => r = .returned (.tuple #[.agg #[.string s, .int .i64 a', .int .i64 e'], .bool b]) ∧ Below w.heap.size w w' := by
  have := fbool_any (e := e) w hs ha; rw [hq] at this; exact this
theorem fso_to {s : ByteArray} {a n a' : Nat} {e e' : Int} (w : World) (hs : s.size ≤ maxLen) (ha : a ≤ s.size) (hq : rdNum s a e = (n, a', e')) :
    Calls Try.prog 22 #[.agg #[.string s, .int .i64 a, .int .i64 e]] w fun r w' => r = .returned (.tuple #[.agg #[.string s, .int .i64 a', .int .i64 e'], .int .i64 (unfoldN n)]) ∧ Below w.heap.size w w' := by
  have := fsigned_any (e := e) w hs ha; rw [hq] at this; exact this
end Go.Proofs.Ytjbkbhilcmiamaa
