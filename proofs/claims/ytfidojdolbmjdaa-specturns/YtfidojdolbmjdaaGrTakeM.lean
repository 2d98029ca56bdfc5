import Derived.Test.YtfidojdolbmjdaaReadSpecM
import Derived.Test.YtfidojdolbmjdaaGrBytesM
import Derived.Test.YtfidojdolbmjdaaReader1M
import Derived.Test.YtfidojdolbmjdaaProg
import Derived.Laws.BitsAllLaws
import Derived.WalkKit
import Derived.WalkSpells
import Derived.WalkLawsBesides
import Derived.Test.YtfidojdolbmjdaaGrCheckM
/- What TakeVertex takes off a reader. -/
namespace Go.Proofs.Ytfidojdolbmjdaa
open Go.RowKit
theorem own_kept {w w' : World} {base : Nat} {e : TypeId} {size : Nat} {v : Value} {n : Nat} {xs : List Value} {S : Nat → Prop} (h : w.ownsRow base e size v n xs) (f : Fr w w' S) (hS : ∀ k, v.ownBlock = some k → ¬ S k) : w'.ownsRow base e size v n xs := by
  refine ⟨h.1, ?_⟩
  rcases h.2 with hn | ⟨g, cap, cur, rfl, hb, hgg, rest⟩
  · exact Or.inl hn
  · exact Or.inr ⟨g, cap, cur, rfl, hb, (f.block g (lt_of_block hgg) (hS g rfl)).trans hgg, rest⟩
/-- Edges, as cells. -/
def ecs (L : List Ed) : List Value := L.flatMap fun e => [.int .i64 e.t, .int .i64 e.w]
theorem ecs_snoc (L : List Ed) (e : Ed) : ecs (L ++ [e]) = ecs L ++ [.int .i64 e.t, .int .i64 e.w] := by simp [ecs]
theorem ecs_at : ∀ (L : List Ed) (j : Nat) (h : j < L.length), (ecs L)[j * 2]? = some (.int .i64 L[j].t) ∧ (ecs L)[j * 2 + 1]? = some (.int .i64 L[j].w)
  | [], j, h => absurd h (by simp)
  | e :: L, 0, _ => ⟨rfl, rfl⟩
  | e :: L, j + 1, h => by
    have := ecs_at L j (by simpa using h)
    rw [show (j + 1) * 2 = j * 2 + 1 + 1 by omega]
    exact this
/-- A row of edges of the call's own. -/
theorem own_eds {w : World} {base : Nat} {t : TypeId} {ao : Option Addr} {n c : Nat} {L : List Ed} (h : w.ownsRow base t 2 (.slice ao n c) L.length (ecs L)) : n = L.length ∧ EdAt w (fun k => base ≤ k ∧ (Value.slice ao n c).ownBlock = some k) ao L := by
  rcases h.2 with ⟨h1, h2⟩ | ⟨g, cap, cur, h1, hb, hg, hn, hc, hcs, ht⟩
  · cases h1
    exact ⟨h2.symm, fun hl => by omega⟩
  · cases h1
    refine ⟨rfl, fun hl => ⟨g, 0, rfl, ⟨hb, rfl⟩, fun j hj => ?_⟩⟩
    have hcell : ∀ i (u : Value), (ecs L)[i]? = some u → w.cell? ⟨g, i, none⟩ = some u := fun i u hu => by
      have := h.cells (g := g) rfl i u hu
      have hadd : (⟨g, 0, none⟩ : Addr).add i = ⟨g, i, none⟩ := by unfold Addr.add; split <;> simp_all
      rw [hadd] at this
      exact this
    have := ecs_at L j hj
    rw [Nat.zero_add]
    exact ⟨hcell _ _ this.1, hcell _ _ this.2⟩
theorem infoEdge : (Try.prog.info? 53).map (fun i => (i.zero, i.size, i.bytes)) = some (some (.agg #[.int .i64 0, .int .i64 0]), 2, 16) := by kernel_rfl
theorem two_new {W : World} {b : Nat} {t : TypeId} {x y : Value} (h : W.heap[b]? = some (.cells #[x, y] t (0, 0))) : ∀ (j : Nat) (u : Value), [x, y][j]? = some u → W.cell? ((⟨b, 0, none⟩ : Addr).add j) = some u := by
  intro j u hu
  have hadd : (⟨b, 0, none⟩ : Addr).add j = ⟨b, j, none⟩ := by unfold Addr.add; split <;> simp_all
  rw [hadd]
  simp [World.cell?, h]
  simpa using hu
theorem set3_2 {w : World} {b : Nat} {t : TypeId} {u0 u1 u2 : Value} (h : w.heap[b]? = some (.cells #[u0, u1, u2] t (0, 0))) (u : Value) : (w.setCell ⟨b, 2, none⟩ u).heap[b]? = some (.cells #[u0, u1, u] t (0, 0)) := by
  have hlt := lt_of_block h
  have h' : w.heap[b] = .cells #[u0, u1, u2] t (0, 0) := by simpa [Array.getElem?_eq_getElem hlt] using h
  show (w.heap.modify b _)[b]? = _
  rw [Array.getElem?_eq_getElem (by simpa using hlt), Array.getElem_modify_self, h']
  rfl
theorem froz {w : World} {b o : Nat} {t : TypeId} {c : Array Value} (h : w.heap[b]? = some (.cells c t (0, 0))) : w.frozen? ⟨b, o, none⟩ = false := by simp [World.frozen?, h]
/-- Between two edges: the reader, the vertex's box, the result's box, the edges so far. -/
structure TV (w wr : World) (p bv : Nat) (s : ByteArray) (i v : Int) (sv : Value) (L : List Ed) (a : Nat) (e : Int) : Prop where
  rd : Rd wr p s a e
  fr : Fr w wr (fun k => k = p)
  vb : wr.heap[bv]? = some (.cells #[.int .i64 i, .int .i64 v, sv] 56 (0, 0))
  rb : wr.heap[w.heap.size]? = some (.cells #[.int .i64 0, .int .i64 0, .slice none 0 0] 56 (0, 0))
  own : wr.ownsRow (bv + 1) 53 2 sv L.length (ecs L)
  lt : w.heap.size < bv
  hp : p < w.heap.size
section
variable {w wr : World} {p bv : Nat} {s : ByteArray} {i v : Int} {sv : Value} {L : List Ed} {a : Nat} {e : Int}
theorem TV.step (h : TV w wr p bv s i v sv L a e) {w1 : World} {a' : Nat} {e' : Int} (f : Fr wr w1 (fun k => k = p)) (hr : Rd w1 p s a' e') : TV w w1 p bv s i v sv L a' e' := by
  have h1 := h.lt
  have h2 := h.hp
  exact ⟨hr, h.fr.trans f (fun _ _ h => h), (f.block bv (lt_of_block h.vb) (by omega)).trans h.vb, (f.block _ (lt_of_block h.rb) (by omega)).trans h.rb, own_kept h.own f (fun k hk => by have := (h.own.lt k hk).1; omega), h.lt, h.hp⟩
theorem TV.al (h : TV w wr p bv s i v sv L a e) (o : Obj) : TV w (wr.alloc o) p bv s i v sv L a e := h.step (Fr.alloc wr o _) (h.rd.kept (Fr.alloc wr o (fun _ => False)) (fun h => h))
theorem TV.app (h : TV w wr p bv s i v sv L a e) {w1 : World} {sv' : Value} {x y : Int} (ho : w1.ownsRow (bv + 1) 53 2 sv' (L.length + 1) (ecs L ++ [.int .i64 x, .int .i64 y])) (hg : wr.grownBy w1 sv.ownBlock) : TV w (w1.setCell ⟨bv, 2, none⟩ sv') p bv s i v sv' (L ++ [⟨x, y⟩]) a e := by
  have h1 := h.lt
  have h2 := h.hp
  have f1 : Fr wr w1 (fun k => sv.ownBlock = some k) := Fr.grown hg (fun k hk => hk)
  have f2 : Fr w1 (w1.setCell ⟨bv, 2, none⟩ sv') (fun k => k = bv) := Fr.setCell (S := fun k => k = bv) w1 ⟨bv, 2, none⟩ sv' rfl
  have f : Fr wr (w1.setCell ⟨bv, 2, none⟩ sv') (fun k => bv ≤ k) := (f1.mono (T := fun k => bv ≤ k) (fun k _ hk => by have := (h.own.lt k hk).1; omega)).trans f2 (fun k _ hk => Nat.le_of_eq hk.symm)
  have hvb := (f1.block bv (lt_of_block h.vb) (fun hk => by have := (h.own.lt _ hk).1; omega)).trans h.vb
  refine ⟨h.rd.kept f (by omega), h.fr.trans f (fun k hk hb => by omega), set3_2 hvb _, (f.block _ (lt_of_block h.rb) (by omega)).trans h.rb, ?_, h.lt, h.hp⟩
  rw [ecs_snoc, List.length_append]
  exact ownsRow_setCell_other ho (fun e => Nat.lt_irrefl bv (ho.lt bv e).1) _
theorem TV.grew (h : TV w wr p bv s i v sv L a e) {w1 : World} (hg : wr.grownBy w1 sv.ownBlock) : w1.cell? ⟨bv, 2, none⟩ = some sv ∧ w1.frozen? ⟨bv, 2, none⟩ = false := by
  have f1 : Fr wr w1 (fun k => sv.ownBlock = some k) := Fr.grown hg (fun k hk => hk)
  have hvb := (f1.block bv (lt_of_block h.vb) (fun hk => by have := (h.own.lt _ hk).1; omega)).trans h.vb
  exact ⟨(box3 hvb).2.2, froz hvb⟩
theorem TV.facts (h : TV w wr p bv s i v sv L a e) : wr.cell? ⟨bv, 0, none⟩ = some (.int .i64 i) ∧ wr.cell? ⟨bv, 1, none⟩ = some (.int .i64 v) ∧ wr.cell? ⟨bv, 2, none⟩ = some sv ∧ wr.frozen? ⟨bv, 2, none⟩ = false ∧ bv < wr.heap.size := by
  obtain ⟨h0, h1, h2⟩ := box3 h.vb
  exact ⟨h0, h1, h2, froz h.vb, lt_of_block h.vb⟩
theorem TV.done {ao : Option Addr} {n c : Nat} (h : TV w wr p bv s i v (.slice ao n c) L a e) (u0 u1 u2 : Value) : n = L.length ∧ EdAt (((wr.setCell ⟨w.heap.size, 0, none⟩ u0).setCell ⟨w.heap.size, 1, none⟩ u1).setCell ⟨w.heap.size, 2, none⟩ u2) (fun k => w.heap.size ≤ k) ao L ∧
    Rd (((wr.setCell ⟨w.heap.size, 0, none⟩ u0).setCell ⟨w.heap.size, 1, none⟩ u1).setCell ⟨w.heap.size, 2, none⟩ u2) p s a e ∧ Fr w (((wr.setCell ⟨w.heap.size, 0, none⟩ u0).setCell ⟨w.heap.size, 1, none⟩ u1).setCell ⟨w.heap.size, 2, none⟩ u2) (fun k => k = p) := by
  have h1 := h.lt
  have h2 := h.hp
  have f : Fr wr (((wr.setCell ⟨w.heap.size, 0, none⟩ u0).setCell ⟨w.heap.size, 1, none⟩ u1).setCell ⟨w.heap.size, 2, none⟩ u2) (fun k => k = w.heap.size) :=
    ((Fr.setCell (S := fun k => k = w.heap.size) wr ⟨w.heap.size, 0, none⟩ u0 rfl).trans (Fr.setCell (S := fun k => k = w.heap.size) _ ⟨w.heap.size, 1, none⟩ u1 rfl) (fun _ _ h => h)).trans (Fr.setCell (S := fun k => k = w.heap.size) _ ⟨w.heap.size, 2, none⟩ u2 rfl) (fun _ _ h => h)
  obtain ⟨hn, he⟩ := own_eds h.own
  exact ⟨hn, he.kept f (fun k _ hk => ⟨by omega, by omega⟩), h.rd.kept f (by omega), h.fr.trans f (fun k hk hb => by omega)⟩
end

end Go.Proofs.Ytfidojdolbmjdaa
