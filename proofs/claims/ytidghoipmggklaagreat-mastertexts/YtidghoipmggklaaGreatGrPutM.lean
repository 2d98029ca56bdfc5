import Derived.Test.YtidghoipmggklaaGreatGrWalk2M
import Derived.Test.YtidghoipmggklaaGreatGrTakeMM
import Derived.Test.YtidghoipmggklaaGreatReader2M
import Derived.Test.YtidghoipmggklaaGreatGrBytesM
import Derived.Test.YtidghoipmggklaaGreatWriterWM
section
/- What Check returns. -/
namespace Go.Proofs.YtidghoipmggklaaGreat
open Go.RowKit
theorem wlt {w : World} {P : Nat → Prop} {ao : Option Addr} {G : List Vx} (h : VxAt w P ao G) : VxAt w (fun k => k < w.heap.size) ao G := h.mono (fun _ hk _ => hk)
theorem one_new (w : World) (o : Obj) : Below w.heap.size w (w.alloc o) := (Below.refl _ _).alloc (Nat.le_refl _) _
theorem alloc_then {w w1 : World} {o : Obj} (h : Below (w.alloc o).heap.size (w.alloc o) w1) : Below w.heap.size w w1 := (one_new w o).trans (h.mono (by simp))

set_option maxRecDepth 100000 in
set_option maxHeartbeats 2000000 in
theorem check_any {w : World} {P : Nat → Prop} {ao : Option Addr} {G : List Vx} (cap : Nat) (h : VxAt w P ao G) (hl : G.length ≤ 9223372036854775807) (hok : ∀ v ∈ G, v.ok) :
    Calls Tryz.prog 101 #[.agg #[.slice ao G.length cap]] w fun r w' => r = .returned (.int .i64 (chk G)) ∧ Below w.heap.size w w' := by
  have hN := fun o => (wlt h).new (one_new w o)
  by_cases hlen : 256 < G.length
  · have HC : Hid (chk G = 30) := if_pos (Or.inl hlen)
    go_enter Tryz.func101, Tryz.ntmps101
    go_wp2
    go_ret
    exact ⟨by rw [HC.out]; rfl, one_new _ _⟩
  · have hR := fun o => rising_v cap (hN o) hl
    cases hrb : riseB (ids G) with
    | false =>
      have HC : Hid (chk G = 30) := if_pos (Or.inr hrb)
      rw [hrb] at hR
      go_enter Tryz.func101, Tryz.ntmps101
      go_wp2_with (go_at_call 149; refine (hR _).mono ?_; rintro r w1 ⟨rfl, hb1⟩)
      go_ret
      exact ⟨by rw [HC.out]; rfl, alloc_then hb1⟩
    | true =>
      rw [hrb] at hR
      have hrise := (riseB_iff _).1 hrb
      have H1 : Hid (∀ o w1, Below (w.alloc o).heap.size (w.alloc o) w1 → VxAt w1 (fun k => k < w.heap.size) ao G) := fun o w1 hb => ((hN o).new hb)
      have HC : Hid (chk G = if 2048 < sumE G ∨ risesE G = false ∨ thereE G = false then 31 else 0) := if_neg (by rw [hrb]; simp; omega)
      have HR : Hid (Rise (ids G)) := hrise
      have HO : Hid (∀ v ∈ G, v.ok) := hok
      clear hrise hok
      by_cases hs : 2048 < sumE G
      · go_enter Tryz.func101, Tryz.ntmps101
        go_wp2_with (first
          | (go_at_call 149; refine (hR _).mono ?_; rintro r w1 ⟨rfl, hb1⟩; have c1 := (hb1.cell (p := ⟨w.heap.size, 0, none⟩) (by simp)))
          | (go_at_call 151; refine (edges_any cap (H1.out _ _ hb1) hl).mono ?_; rintro r w2 ⟨rfl, hb2⟩))
        go_ret
        exact ⟨by rw [HC.out, if_pos (Or.inl hs)]; rfl, (alloc_then hb1).trans (hb2.mono (alloc_then hb1).size)⟩
      · have hE := fun w1 (v : VxAt w1 (fun k => k < w.heap.size) ao G) => endsrise_any cap v hl HO.out
        cases he : risesE G with
        | false =>
          simp only [he] at hE
          go_enter Tryz.func101, Tryz.ntmps101
          go_wp2_with (first
            | (go_at_call 149; refine (hR _).mono ?_; rintro r w1 ⟨rfl, hb1⟩; have c1 := (hb1.cell (p := ⟨w.heap.size, 0, none⟩) (by simp)); have z1 : w.heap.size < w1.heap.size := by have := hb1.size; simp at this; omega)
            | (go_at_call 151; refine (edges_any cap (H1.out _ _ hb1) hl).mono ?_; rintro r w2 ⟨rfl, hb2⟩; have c2 := (hb2.cell (p := ⟨w.heap.size, 0, none⟩) z1); have z2 : w.heap.size < w2.heap.size := Nat.lt_of_lt_of_le z1 hb2.size; have v2 := (H1.out _ _ hb1).new hb2)
            | (go_at_call 152; refine (hE _ v2).mono ?_; rintro r w3 ⟨rfl, hb3⟩; have c3 := (hb3.cell (p := ⟨w.heap.size, 0, none⟩) z2); have v3 := v2.new hb3))
          go_ret
          exact ⟨by rw [HC.out, if_pos (Or.inr (Or.inl he))]; rfl, ((alloc_then hb1).trans (hb2.mono (alloc_then hb1).size)).trans (hb3.mono (by have := z2; omega))⟩
        | true =>
          simp only [he] at hE
          have hT := fun w1 (v : VxAt w1 (fun k => k < w.heap.size) ao G) => there_any cap (wlt v) (by omega) HR.out HO.out
          cases ht : thereE G with
          | false =>
            simp only [ht] at hT
            go_enter Tryz.func101, Tryz.ntmps101
            go_wp2_with (first
              | (go_at_call 149; refine (hR _).mono ?_; rintro r w1 ⟨rfl, hb1⟩; have c1 := (hb1.cell (p := ⟨w.heap.size, 0, none⟩) (by simp)); have z1 : w.heap.size < w1.heap.size := by have := hb1.size; simp at this; omega)
              | (go_at_call 151; refine (edges_any cap (H1.out _ _ hb1) hl).mono ?_; rintro r w2 ⟨rfl, hb2⟩; have c2 := (hb2.cell (p := ⟨w.heap.size, 0, none⟩) z1); have z2 : w.heap.size < w2.heap.size := Nat.lt_of_lt_of_le z1 hb2.size; have v2 := (H1.out _ _ hb1).new hb2)
              | (go_at_call 152; refine (hE _ v2).mono ?_; rintro r w3 ⟨rfl, hb3⟩; have c3 := (hb3.cell (p := ⟨w.heap.size, 0, none⟩) z2); have v3 := v2.new hb3)
              | (go_at_call 153; refine (hT _ v3).mono ?_; rintro r w4 ⟨rfl, hb4⟩))
            go_ret
            exact ⟨by rw [HC.out, if_pos (Or.inr (Or.inr ht))]; rfl, (((alloc_then hb1).trans (hb2.mono (alloc_then hb1).size)).trans (hb3.mono (by have := z2; omega))).trans (hb4.mono (by have := hb3.size; omega))⟩
          | true =>
            simp only [ht] at hT
            go_enter Tryz.func101, Tryz.ntmps101
            go_wp2_with (first
              | (go_at_call 149; refine (hR _).mono ?_; rintro r w1 ⟨rfl, hb1⟩; have c1 := (hb1.cell (p := ⟨w.heap.size, 0, none⟩) (by simp)); have z1 : w.heap.size < w1.heap.size := by have := hb1.size; simp at this; omega)
              | (go_at_call 151; refine (edges_any cap (H1.out _ _ hb1) hl).mono ?_; rintro r w2 ⟨rfl, hb2⟩; have c2 := (hb2.cell (p := ⟨w.heap.size, 0, none⟩) z1); have z2 : w.heap.size < w2.heap.size := Nat.lt_of_lt_of_le z1 hb2.size; have v2 := (H1.out _ _ hb1).new hb2)
              | (go_at_call 152; refine (hE _ v2).mono ?_; rintro r w3 ⟨rfl, hb3⟩; have c3 := (hb3.cell (p := ⟨w.heap.size, 0, none⟩) z2); have v3 := v2.new hb3)
              | (go_at_call 153; refine (hT _ v3).mono ?_; rintro r w4 ⟨rfl, hb4⟩))
            go_ret
            exact ⟨by rw [HC.out, if_neg (by rw [he, ht]; simp; omega)]; rfl, (((alloc_then hb1).trans (hb2.mono (alloc_then hb1).size)).trans (hb3.mono (by have := z2; omega))).trans (hb4.mono (by have := hb3.size; omega))⟩
end Go.Proofs.YtidghoipmggklaaGreat
end

section
/- What TakeVertex takes off a reader. -/
namespace Go.Proofs.YtidghoipmggklaaGreat
open Go.RowKit
theorem rsg_to {w : World} {p : Nat} {s : ByteArray} {a n a' : Nat} {e e' : Int} (h : Rd w p s a e) (hs : s.size ≤ maxLen) (ha : a ≤ s.size) (hq : rdNum s a e = (n, a', e')) :
    Calls Tryz.prog 119 #[.pointer (some ⟨p, 0, none⟩)] w fun r w' => r = .returned (.int .i64 (unfoldN n)) ∧ Rd w' p s a' e' ∧ Fr w w' (fun k => k = p) := by
  have := rsigned_any h hs ha; rw [hq] at this; exact this
theorem rct_to {w : World} {p : Nat} {s : ByteArray} {a n a' : Nat} {e e' most : Int} (h : Rd w p s a e) (hs : s.size ≤ maxLen) (ha : a ≤ s.size) (hm : most ≤ 9223372036854775807) (hq : rdCount s a e most = (n, a', e')) :
    Calls Tryz.prog 56 #[.pointer (some ⟨p, 0, none⟩), .int .i64 most] w fun r w' => r = .returned (.int .i64 n) ∧ Rd w' p s a' e' ∧ Fr w w' (fun k => k = p) := by
  have := rcount_any h hs ha hm; rw [hq] at this; exact this
theorem own_kept {w w' : World} {base : Nat} {e : TypeId} {size : Nat} {v : Value} {n : Nat} {xs : List Value} {S : Nat → Prop} (h : w.ownsRow base e size v n xs) (f : Fr w w' S) (hS : ∀ k, v.ownBlock = some k → ¬ S k) : w'.ownsRow base e size v n xs := by
  refine ⟨h.1, ?_⟩
  rcases h.2 with hn | ⟨g, cap, cur, rfl, hb, hgg, rest⟩
  · exact Or.inl hn
  · exact Or.inr ⟨g, cap, cur, rfl, hb, (f.block g (lt_of_block hgg) (hS g rfl)).trans hgg, rest⟩
/-- Edges, as cells. -/
def ecs (L : List Ed) : List Value := L.flatMap fun e => [.int .i64 e.t, .int .i64 e.w]
theorem ecs_snoc (L : List Ed) (e : Ed) : ecs (L ++ [e]) = ecs L ++ [.int .i64 e.t, .int .i64 e.w] := by simp [ecs]
theorem ecs_at : ∀ (L : List Ed) (j : Nat) (h : j < L.length), (ecs L)[j * 2]? = some (.int .i64 L[j].t) ∧ (ecs L)[j * 2 + 1]? = some (.int .i64 L[j].w)
  | [], j, h => absurd h (by simp)
  | e :: L, 0, _ => ⟨rfl, rfl⟩
  | e :: L, j + 1, h => by
    have := ecs_at L j (by simpa using h)
    rw [show (j + 1) * 2 = j * 2 + 1 + 1 by omega]
    exact this
/-- A row of edges of the call's own. -/
theorem own_eds {w : World} {base : Nat} {t : TypeId} {ao : Option Addr} {n c : Nat} {L : List Ed} (h : w.ownsRow base t 2 (.slice ao n c) L.length (ecs L)) : n = L.length ∧ EdAt w (fun k => base ≤ k ∧ (Value.slice ao n c).ownBlock = some k) ao L := by
  rcases h.2 with ⟨h1, h2⟩ | ⟨g, cap, cur, h1, hb, hg, hn, hc, hcs, ht⟩
  · cases h1
    exact ⟨h2.symm, fun hl => by omega⟩
  · cases h1
    refine ⟨rfl, fun hl => ⟨g, 0, rfl, ⟨hb, rfl⟩, fun j hj => ?_⟩⟩
    have hcell : ∀ i (u : Value), (ecs L)[i]? = some u → w.cell? ⟨g, i, none⟩ = some u := fun i u hu => by
      have := h.cells (g := g) rfl i u hu
      have hadd : (⟨g, 0, none⟩ : Addr).add i = ⟨g, i, none⟩ := by unfold Addr.add; split <;> simp_all
      rw [hadd] at this
      exact this
    have := ecs_at L j hj
    rw [Nat.zero_add]
    exact ⟨hcell _ _ this.1, hcell _ _ this.2⟩
theorem infoEdge : (Tryz.prog.info? 111).map (fun i => (i.zero, i.size, i.bytes)) = some (some (.agg #[.int .i64 0, .int .i64 0]), 2, 16) := by kernel_rfl
theorem two_new {W : World} {b : Nat} {t : TypeId} {x y : Value} (h : W.heap[b]? = some (.cells #[x, y] t (0, 0))) : ∀ (j : Nat) (u : Value), [x, y][j]? = some u → W.cell? ((⟨b, 0, none⟩ : Addr).add j) = some u := by
  intro j u hu
  have hadd : (⟨b, 0, none⟩ : Addr).add j = ⟨b, j, none⟩ := by unfold Addr.add; split <;> simp_all
  rw [hadd]
  simp [World.cell?, h]
  simpa using hu
theorem set3_2 {w : World} {b : Nat} {t : TypeId} {u0 u1 u2 : Value} (h : w.heap[b]? = some (.cells #[u0, u1, u2] t (0, 0))) (u : Value) : (w.setCell ⟨b, 2, none⟩ u).heap[b]? = some (.cells #[u0, u1, u] t (0, 0)) := by
  have hlt := lt_of_block h
  have h' : w.heap[b] = .cells #[u0, u1, u2] t (0, 0) := by simpa [Array.getElem?_eq_getElem hlt] using h
  show (w.heap.modify b _)[b]? = _
  rw [Array.getElem?_eq_getElem (by simpa using hlt), Array.getElem_modify_self, h']
  rfl
theorem froz {w : World} {b o : Nat} {t : TypeId} {c : Array Value} (h : w.heap[b]? = some (.cells c t (0, 0))) : w.frozen? ⟨b, o, none⟩ = false := by simp [World.frozen?, h]
/-- Between two edges: the reader, the vertex's box, the result's box, the edges so far. -/
structure TV (w wr : World) (p bv : Nat) (s : ByteArray) (i v : Int) (sv : Value) (L : List Ed) (a : Nat) (e : Int) : Prop where
  rd : Rd wr p s a e
  fr : Fr w wr (fun k => k = p)
  vb : wr.heap[bv]? = some (.cells #[.int .i64 i, .int .i64 v, sv] 114 (0, 0))
  rb : wr.heap[w.heap.size]? = some (.cells #[.int .i64 0, .int .i64 0, .slice none 0 0] 114 (0, 0))
  own : wr.ownsRow (bv + 1) 111 2 sv L.length (ecs L)
  lt : w.heap.size < bv
  hp : p < w.heap.size
section
variable {w wr : World} {p bv : Nat} {s : ByteArray} {i v : Int} {sv : Value} {L : List Ed} {a : Nat} {e : Int}
theorem TV.step (h : TV w wr p bv s i v sv L a e) {w1 : World} {a' : Nat} {e' : Int} (f : Fr wr w1 (fun k => k = p)) (hr : Rd w1 p s a' e') : TV w w1 p bv s i v sv L a' e' := by
  have h1 := h.lt
  have h2 := h.hp
  exact ⟨hr, h.fr.trans f (fun _ _ h => h), (f.block bv (lt_of_block h.vb) (by omega)).trans h.vb, (f.block _ (lt_of_block h.rb) (by omega)).trans h.rb, own_kept h.own f (fun k hk => by have := (h.own.lt k hk).1; omega), h.lt, h.hp⟩
theorem TV.al (h : TV w wr p bv s i v sv L a e) (o : Obj) : TV w (wr.alloc o) p bv s i v sv L a e := h.step (Fr.alloc wr o _) (h.rd.kept (Fr.alloc wr o (fun _ => False)) (fun h => h))
theorem TV.app (h : TV w wr p bv s i v sv L a e) {w1 : World} {sv' : Value} {x y : Int} (ho : w1.ownsRow (bv + 1) 111 2 sv' (L.length + 1) (ecs L ++ [.int .i64 x, .int .i64 y])) (hg : wr.grownBy w1 sv.ownBlock) : TV w (w1.setCell ⟨bv, 2, none⟩ sv') p bv s i v sv' (L ++ [⟨x, y⟩]) a e := by
  have h1 := h.lt
  have h2 := h.hp
  have f1 : Fr wr w1 (fun k => sv.ownBlock = some k) := Fr.grown hg (fun k hk => hk)
  have f2 : Fr w1 (w1.setCell ⟨bv, 2, none⟩ sv') (fun k => k = bv) := Fr.setCell (S := fun k => k = bv) w1 ⟨bv, 2, none⟩ sv' rfl
  have f : Fr wr (w1.setCell ⟨bv, 2, none⟩ sv') (fun k => bv ≤ k) := (f1.mono (T := fun k => bv ≤ k) (fun k _ hk => by have := (h.own.lt k hk).1; omega)).trans f2 (fun k _ hk => Nat.le_of_eq hk.symm)
  have hvb := (f1.block bv (lt_of_block h.vb) (fun hk => by have := (h.own.lt _ hk).1; omega)).trans h.vb
  refine ⟨h.rd.kept f (by omega), h.fr.trans f (fun k hk hb => by omega), set3_2 hvb _, (f.block _ (lt_of_block h.rb) (by omega)).trans h.rb, ?_, h.lt, h.hp⟩
  rw [ecs_snoc, List.length_append]
  exact ownsRow_setCell_other ho (fun e => Nat.lt_irrefl bv (ho.lt bv e).1) _
theorem TV.grew (h : TV w wr p bv s i v sv L a e) {w1 : World} (hg : wr.grownBy w1 sv.ownBlock) : w1.cell? ⟨bv, 2, none⟩ = some sv ∧ w1.frozen? ⟨bv, 2, none⟩ = false := by
  have f1 : Fr wr w1 (fun k => sv.ownBlock = some k) := Fr.grown hg (fun k hk => hk)
  have hvb := (f1.block bv (lt_of_block h.vb) (fun hk => by have := (h.own.lt _ hk).1; omega)).trans h.vb
  exact ⟨(box3 hvb).2.2, froz hvb⟩
theorem TV.facts (h : TV w wr p bv s i v sv L a e) : wr.cell? ⟨bv, 0, none⟩ = some (.int .i64 i) ∧ wr.cell? ⟨bv, 1, none⟩ = some (.int .i64 v) ∧ wr.cell? ⟨bv, 2, none⟩ = some sv ∧ wr.frozen? ⟨bv, 2, none⟩ = false ∧ bv < wr.heap.size := by
  obtain ⟨h0, h1, h2⟩ := box3 h.vb
  exact ⟨h0, h1, h2, froz h.vb, lt_of_block h.vb⟩
theorem TV.res (h : TV w wr p bv s i v sv L a e) : wr.cell? ⟨w.heap.size, 0, none⟩ = some (.int .i64 0) ∧ wr.cell? ⟨w.heap.size, 1, none⟩ = some (.int .i64 0) ∧ wr.cell? ⟨w.heap.size, 2, none⟩ = some (.slice none 0 0) ∧ wr.frozen? ⟨w.heap.size, 0, none⟩ = false ∧ wr.frozen? ⟨w.heap.size, 1, none⟩ = false ∧ wr.frozen? ⟨w.heap.size, 2, none⟩ = false := by
  obtain ⟨h0, h1, h2⟩ := box3 h.rb
  exact ⟨h0, h1, h2, froz h.rb, froz h.rb, froz h.rb⟩
theorem TV.done {ao : Option Addr} {n c : Nat} (h : TV w wr p bv s i v (.slice ao n c) L a e) (u0 u1 u2 : Value) : n = L.length ∧ EdAt (((wr.setCell ⟨w.heap.size, 0, none⟩ u0).setCell ⟨w.heap.size, 1, none⟩ u1).setCell ⟨w.heap.size, 2, none⟩ u2) (fun k => w.heap.size ≤ k) ao L ∧
    Rd (((wr.setCell ⟨w.heap.size, 0, none⟩ u0).setCell ⟨w.heap.size, 1, none⟩ u1).setCell ⟨w.heap.size, 2, none⟩ u2) p s a e ∧ Fr w (((wr.setCell ⟨w.heap.size, 0, none⟩ u0).setCell ⟨w.heap.size, 1, none⟩ u1).setCell ⟨w.heap.size, 2, none⟩ u2) (fun k => k = p) := by
  have h1 := h.lt
  have h2 := h.hp
  have f : Fr wr (((wr.setCell ⟨w.heap.size, 0, none⟩ u0).setCell ⟨w.heap.size, 1, none⟩ u1).setCell ⟨w.heap.size, 2, none⟩ u2) (fun k => k = w.heap.size) :=
    ((Fr.setCell (S := fun k => k = w.heap.size) wr ⟨w.heap.size, 0, none⟩ u0 rfl).trans (Fr.setCell (S := fun k => k = w.heap.size) _ ⟨w.heap.size, 1, none⟩ u1 rfl) (fun _ _ h => h)).trans (Fr.setCell (S := fun k => k = w.heap.size) _ ⟨w.heap.size, 2, none⟩ u2 rfl) (fun _ _ h => h)
  obtain ⟨hn, he⟩ := own_eds h.own
  exact ⟨hn, he.kept f (fun k _ hk => ⟨by omega, by omega⟩), h.rd.kept f (by omega), h.fr.trans f (fun k hk hb => by omega)⟩
end

set_option maxRecDepth 100000 in
set_option maxHeartbeats 4000000 in
theorem takevertex_any {w : World} {p : Nat} {s : ByteArray} {a : Nat} {e : Int} (h : Rd w p s a e) (hs : s.size ≤ maxLen) (ha : a ≤ s.size) :
    Calls Tryz.prog 118 #[.pointer (some ⟨p, 0, none⟩)] w fun r w' => ∃ eo ec, r = .returned (.agg #[.int .i64 (rdV s a e).1.id, .int .i64 (rdV s a e).1.val, .slice eo (rdV s a e).1.es.length ec]) ∧ EdAt w' (fun k => w.heap.size ≤ k) eo (rdV s a e).1.es ∧ Rd w' p s (rdV s a e).2.1 (rdV s a e).2.2 ∧ Fr w w' (fun k => k = p) := by
  obtain ⟨i0, hi, hz0, hz1, hz2⟩ := info_parts infoEdge
  obtain ⟨⟨t, a1, e1⟩, h1⟩ : ∃ q, rdNum s a e = q := ⟨_, rfl⟩
  obtain ⟨⟨u, a2, e2⟩, h2⟩ : ∃ q, rdNum s a1 e1 = q := ⟨_, rfl⟩
  obtain ⟨⟨n, a3, e3⟩, h3⟩ : ∃ q, rdCount s a2 e2 2048 = q := ⟨_, rfl⟩
  have g1 := rdNum_to ha h1
  have g2 := rdNum_to g1.1 h2
  have g3 := rdCount_to (most := 2048) g2.1 h3
  have HV : Hid (rdV s a e = (⟨unfoldN t, unfoldN u, (rdEs s n a3 e3).1⟩, (rdEs s n a3 e3).2)) := by
    show _ = _
    unfold rdV; simp only [h1, h2, h3]
  have H1 : Hid _ := h1
  have H2 : Hid _ := h2
  have H3 : Hid _ := h3
  have hn := g3.2.1
  have G1 : Hid _ := g1
  have G2 : Hid _ := g2
  have G3 : Hid _ := g3
  rw [HV.out]
  have hlt := h.lt
  have HA : Hid (∀ o, Rd (w.alloc o) p s a e) := fun o => h.kept (Fr.alloc w o (fun _ => False)) (fun h => h)
  clear h1 h2 h3 g1 g2 g3 h
  go_enter Tryz.func118, Tryz.ntmps118
  go_wp2_with (first
    | (go_at_call 119; refine (rsg_to (by first | exact hr1 | exact HA.out _) hs (by first | exact ha | exact G1.out.1) (by first | exact H1.out | exact H2.out)).mono ?_; rintro r w1 ⟨rfl, hr1, hf⟩; first | (have hf2 := hf1.trans hf (fun _ _ h => h)) | (have hf1 := hf))
    | (go_at_call 56; refine (rct_to (hr1.kept (Fr.alloc w1 _ (fun _ => False)) (fun h => h)) hs G2.out.1 (by decide) H3.out).mono ?_; rintro r w3 ⟨rfl, hr3, hf3⟩))
  have hbv : w.heap.size < w1.heap.size := by have := hf2.size; simp at this; omega
  have hTV : TV w w3 p w1.heap.size s (unfoldN t) (unfoldN u) (.slice none 0 0) [] a3 e3 := by
    have hfA : Fr w w3 (fun k => k = p) := (((Fr.alloc w _ _).trans hf2 (fun _ _ h => h)).trans (Fr.alloc w1 _ _) (fun _ _ h => h)).trans hf3 (fun _ _ h => h)
    refine ⟨hr3, hfA, (hf3.block _ (by simp) (by omega)).trans (heap_alloc_new _ _), ?_, World.ownsRow_nil _ _ _ _, hbv, hlt⟩
    exact (hf3.block _ (by simp; omega) (by omega)).trans ((Below.heap_alloc w1 _ _ hbv).trans ((hf2.block _ (by simp) (by omega)).trans (heap_alloc_new _ _)))
  obtain ⟨bv, hbe⟩ : ∃ bv, w1.heap.size = bv := ⟨_, rfl⟩
  rw [hbe] at hTV ⊢
  clear hr1 hf hf1 hf2 hr3 hf3 hbv
  go_loopw [4, 12] (fun _ i wr => ∃ (j : Nat) (sv : Value) (L : List Ed) (x : Nat) (y : Int), j ≤ n ∧ i = .int .i64 j ∧ Hid (rdEs s n a3 e3 = (L ++ (rdEs s (n - j) x y).1, (rdEs s (n - j) x y).2)) ∧ Hid (x ≤ s.size ∧ L.length = j ∧ (j < n → y = 0)) ∧ TV w wr p bv s (unfoldN t) (unfoldN u) sv L x y) (fun _ i _ => n - (intOf i).toNat)
  case atStart => exact ⟨0, _, [], a3, e3, Nat.zero_le _, rfl, (by simp : rdEs s n a3 e3 = ([] ++ (rdEs s (n - 0) a3 e3).1, (rdEs s (n - 0) a3 e3).2)), ⟨G3.out.1, rfl, G3.out.2.2.2⟩, hTV⟩
  case round =>
    obtain ⟨j, sv, L, x, y, hj, rfl, HS, HX, hT⟩ := hrel
    obtain ⟨ao, m, c, rfl⟩ := own_any hT.own
    by_cases hjn : j < n
    · obtain rfl : y = 0 := HX.out.2.2 hjn
      obtain ⟨⟨t1, x1, y1⟩, q1⟩ : ∃ q, rdNum s x 0 = q := ⟨_, rfl⟩
      obtain ⟨⟨t2, x2, y2⟩, q2⟩ : ∃ q, rdNum s x1 y1 = q := ⟨_, rfl⟩
      have g1 := rdNum_to HX.out.1 q1
      have g2 := rdNum_to g1.1 q2
      have Q1 : Hid _ := q1
      have Q2 : Hid _ := q2
      have GG1 : Hid _ := g1
      have GG2 : Hid _ := g2
      by_cases hy : y2 = 0
      · subst hy
        have HN : Hid (rdEs s (n - j) x 0 = (⟨unfoldN t1, unfoldN t2⟩ :: (rdEs s (n - (j + 1)) x2 0).1, (rdEs s (n - (j + 1)) x2 0).2)) := by
          show _ = _
          rw [show n - j = (n - (j + 1)) + 1 by omega, rdEs_go q1 q2]
        clear q1 q2 g1 g2
        go_wp2_with (first
          | (go_at_call 119; refine (rsg_to (by first | exact hr1 | exact hT.rd) hs (by first | exact HX.out.1 | exact GG1.out.1) (by first | exact Q1.out | exact Q2.out)).mono ?_; rintro r w1 ⟨rfl, hr1, hf⟩; first | (have hT2 := hT1.step hf hr1; obtain ⟨b0, b1, b2, b3, b4⟩ := hT2.facts) | (have hT1 := hT.step hf hr1))
          | (go_at_call 58; refine (err_any (hT2.al _).rd).mono ?_; rintro r w3 ⟨rfl, rfl⟩)
          | (at_builtin; refine wpList_append_own_at _ rfl _ _ 112 rfl (bv + 1) 111 i0 (.agg #[.int .i64 0, .int .i64 0]) 2 16 Tryz.underlying112 hi hz0 hz1 hz2 rfl (by decide) _ _ _ rfl ((hT2.al _).al _).own ⟨w1.heap.size + 1, 0, none⟩ 1 1 [.int .i64 (unfoldN t1), .int .i64 (unfoldN t2)] rfl rfl ?c1 ?c2 ?c3 ?c4 ?c5 ?_))
        case c1 => exact two_new (by have := heap_alloc_new (w1.alloc (.cells #[.int .i64 (unfoldN t1), .int .i64 (unfoldN t2)] 111)) (.cells #[.int .i64 (unfoldN t1), .int .i64 (unfoldN t2)] 111); rw [World.size_alloc] at this; exact this)
        case c2 => intro u hu; simp at hu; rcases hu with rfl | rfl <;> rfl
        case c3 => have := HX.out.2.1; unfold maxLen; omega
        case c4 => have := HX.out.2.1; omega
        case c5 => simp; omega
        · intro v' w4 hown' hgrow _ _
          have hT4 := ((hT2.al _).al _).app hown' hgrow
          obtain ⟨k2, k3⟩ := ((hT2.al _).al _).grew hgrow
          obtain ⟨ao', m', c', rfl⟩ := own_any hown'
          have HT : Hid _ := hT4
          clear hT4 hT2 hT1 hT hown' hgrow
          go_wp2
          go_roundw
          case rel => exact ⟨j + 1, _, _, x2, 0, by omega, by go_num, (by rw [HS.out, HN.out]; simp : rdEs s n a3 e3 = ((L ++ [⟨unfoldN t1, unfoldN t2⟩]) ++ (rdEs s (n - (j + 1)) x2 0).1, (rdEs s (n - (j + 1)) x2 0).2)), ⟨GG2.out.1, by have := HX.out.2.1; simp; omega, fun _ => rfl⟩, HT.out⟩
          case measure => simp [intOf]; omega
      · have HN : Hid (rdEs s n a3 e3 = (L, x2, y2)) := by
          show _ = _
          rw [HS.out, show n - j = (n - (j + 1)) + 1 by omega, rdEs_bad q1 q2 hy]; simp
        have hy0 : (y2 == 0) = false := by rw [beq_eq_false_iff_ne]; exact hy
        clear q1 q2 g1 g2
        go_wp2_with (first
          | (go_at_call 119; refine (rsg_to (by first | exact hr1 | exact hT.rd) hs (by first | exact HX.out.1 | exact GG1.out.1) (by first | exact Q1.out | exact Q2.out)).mono ?_; rintro r w1 ⟨rfl, hr1, hf⟩; first | (have hT2 := hT1.step hf hr1; obtain ⟨b0, b1, b2, b3, b4⟩ := hT2.facts; obtain ⟨z0, z1, z2, z3, z4, z5⟩ := hT2.res; have b5 : w.heap.size < w1.heap.size := Nat.lt_trans hT2.lt b4) | (have hT1 := hT.step hf hr1))
          | (go_at_call 58; refine (err_any (hT2.al _).rd).mono ?_; rintro r w3 ⟨rfl, rfl⟩))
        obtain ⟨hm, d1, d2, d3⟩ := hT2.done (.int .i64 (unfoldN t)) (.int .i64 (unfoldN u)) (.slice ao m c)
        subst hm
        refine bodyPost_ret (v := .agg #[.int .i64 (unfoldN t), .int .i64 (unfoldN u), .slice ao L.length c]) (by simp [results, Tryz.results118, go_sem, z0, z1, z2, b5]) rfl ?_
        rw [HN.out]
        exact ⟨ao, c, rfl, d1.new (one_new _ _), d2.kept (Fr.alloc _ _ (fun _ => False)) (fun h => h), d3.trans (Fr.alloc _ _ (fun _ => False)) (fun _ _ h => h.elim)⟩
    · have HN : Hid (rdEs s n a3 e3 = (L, x, y)) := by
        show _ = _
        rw [HS.out, show n - j = 0 by omega]; simp [rdEs]
      obtain ⟨b0, b1, b2, b3, b4⟩ := hT.facts
      obtain ⟨z0, z1, z2, z3, z4, z5⟩ := hT.res
      go_wp2
      obtain ⟨hm, d1, d2, d3⟩ := hT.done (.int .i64 (unfoldN t)) (.int .i64 (unfoldN u)) (.slice ao m c)
      subst hm
      refine bodyPost_ret (v := .agg #[.int .i64 (unfoldN t), .int .i64 (unfoldN u), .slice ao L.length c]) (by simp [results, Tryz.results118, go_sem, z0, z1, z2]) rfl ?_
      rw [HN.out]
      exact ⟨ao, c, rfl, d1, d2, d3⟩
end Go.Proofs.YtidghoipmggklaaGreat
end

section
/- What Take takes off a reader, and what Decode returns. -/
namespace Go.Proofs.YtidghoipmggklaaGreat
open Go.RowKit
/-- Vertices, as cells, with where their edges lie. -/
def vcs : List Vx → List (Option Addr × Nat) → List Value
  | v :: G, m :: M => .int .i64 v.id :: .int .i64 v.val :: .slice m.1 v.es.length m.2 :: vcs G M
  | _, _ => []
theorem vcs_snoc : ∀ (G : List Vx) (M : List (Option Addr × Nat)) (v : Vx) (m : Option Addr × Nat), G.length = M.length → vcs (G ++ [v]) (M ++ [m]) = vcs G M ++ [.int .i64 v.id, .int .i64 v.val, .slice m.1 v.es.length m.2]
  | [], [], v, m, _ => rfl
  | [], _ :: _, _, _, h => by simp at h
  | _ :: _, [], _, _, h => by simp at h
  | g :: G, k :: M, v, m, h => by
    have := vcs_snoc G M v m (by simpa using h)
    simp only [List.cons_append, vcs, this]
theorem vcs_at : ∀ (G : List Vx) (M : List (Option Addr × Nat)) (j : Nat) (h : j < G.length) (h' : j < M.length), (vcs G M)[j * 3]? = some (.int .i64 G[j].id) ∧ (vcs G M)[j * 3 + 1]? = some (.int .i64 G[j].val) ∧ (vcs G M)[j * 3 + 2]? = some (.slice M[j].1 G[j].es.length M[j].2)
  | [], _, j, h, _ => absurd h (by simp)
  | _ :: _, [], j, _, h => absurd h (by simp)
  | v :: G, m :: M, 0, _, _ => ⟨rfl, rfl, rfl⟩
  | v :: G, m :: M, j + 1, h, h' => by
    have := vcs_at G M j (by simpa using h) (by simpa using h')
    rw [show (j + 1) * 3 = j * 3 + 1 + 1 + 1 by omega]
    exact this
/-- A row of vertices of the call's own; their edges lie elsewhere. -/
structure VRow (w : World) (base : Nat) (t : TypeId) (sv : Value) (G : List Vx) : Prop where
  row : ∃ M : List (Option Addr × Nat), G.length = M.length ∧ w.ownsRow base t 3 sv G.length (vcs G M) ∧ ∀ j (h : j < G.length) (h' : j < M.length), EdAt w (fun k => base ≤ k ∧ sv.ownBlock ≠ some k) M[j].1 G[j].es
theorem VRow.nil (w : World) (base : Nat) (t : TypeId) : VRow w base t (.slice none 0 0) [] := ⟨[], rfl, World.ownsRow_nil _ _ _ _, fun j h => absurd h (by simp)⟩
section
variable {w : World} {base : Nat} {t : TypeId} {sv : Value} {G : List Vx}
theorem VRow.any (h : VRow w base t sv G) : ∃ ao m c, sv = .slice ao m c := by
  obtain ⟨M, _, ho, _⟩ := h.row
  exact own_any ho
theorem VRow.lt (h : VRow w base t sv G) : ∀ k, sv.ownBlock = some k → base ≤ k ∧ k < w.heap.size := by
  obtain ⟨M, _, ho, _⟩ := h.row
  exact ho.lt
theorem VRow.kept (h : VRow w base t sv G) {w' : World} {S : Nat → Prop} (f : Fr w w' S) (hS : ∀ k, base ≤ k → ¬ S k) : VRow w' base t sv G := by
  obtain ⟨M, hl, ho, he⟩ := h.row
  exact ⟨M, hl, own_kept ho f (fun k hk => hS k (ho.lt k hk).1), fun j h h' => (he j h h').kept f (fun k _ hk => ⟨hS k hk.1, hk⟩)⟩
theorem VRow.at_ {ao : Option Addr} {m c : Nat} (h : VRow w base t (.slice ao m c) G) : m = G.length ∧ VxAt w (fun k => base ≤ k) ao G := by
  obtain ⟨M, hl, ho, he⟩ := h.row
  rcases ho.2 with ⟨h1, h2⟩ | ⟨g, cap, cur, h1, hb, hg, hn, hc, hcs, ht⟩
  · cases h1
    exact ⟨h2.symm, fun hl => by omega⟩
  · cases h1
    refine ⟨rfl, fun hl' => ⟨g, 0, rfl, hb, fun j hj => ?_⟩⟩
    have hcell : ∀ i (u : Value), (vcs G M)[i]? = some u → w.cell? ⟨g, i, none⟩ = some u := fun i u hu => by
      have := ho.cells (g := g) rfl i u hu
      have hadd : (⟨g, 0, none⟩ : Addr).add i = ⟨g, i, none⟩ := by unfold Addr.add; split <;> simp_all
      rw [hadd] at this
      exact this
    have := vcs_at G M j hj (by omega)
    rw [Nat.zero_add]
    exact ⟨_, _, hcell _ _ this.1, hcell _ _ this.2.1, hcell _ _ this.2.2, (he j hj (by omega)).mono (fun k _ hk => hk.1)⟩
/-- Behind the append of one vertex. -/
theorem VRow.app (h : VRow w base t sv G) {v : Vx} {eo : Option Addr} {ec : Nat} (hE : EdAt w (fun k => base ≤ k ∧ sv.ownBlock ≠ some k) eo v.es) : ∃ M, w.ownsRow base t 3 sv G.length (vcs G M) ∧
    ∀ (w1 : World) (sv' : Value), w1.ownsRow base t 3 sv' (G.length + 1) (vcs G M ++ [.int .i64 v.id, .int .i64 v.val, .slice eo v.es.length ec]) → w.grownBy w1 sv.ownBlock → (sv'.ownBlock = sv.ownBlock ∨ sv'.ownBlock = some w.heap.size) → VRow w1 base t sv' (G ++ [v]) := by
  obtain ⟨M, hl, ho, he⟩ := h.row
  refine ⟨M, ho, fun w1 sv' ho' hg hat => ⟨M ++ [(eo, ec)], by simp [hl], by rw [vcs_snoc G M v (eo, ec) hl, List.length_append]; exact ho', fun j h1 h2 => ?_⟩⟩
  have f : Fr w w1 (fun k => sv.ownBlock = some k) := Fr.grown hg (fun k hk => hk)
  have hS : ∀ k, k < w.heap.size → base ≤ k ∧ sv.ownBlock ≠ some k → ¬ sv.ownBlock = some k ∧ (base ≤ k ∧ sv'.ownBlock ≠ some k) := fun k hk hp => ⟨hp.2, hp.1, fun e => by
    rcases hat with e' | e'
    · rw [e'] at e; exact hp.2 e
    · rw [e'] at e; cases e; omega⟩
  by_cases hj : j < G.length
  · have := (he j hj (by omega)).kept f hS
    rw [List.getElem_append_left (by omega), List.getElem_append_left hj]
    exact this
  · obtain rfl : j = G.length := by simp at h1; omega
    have := hE.kept f hS
    rw [List.getElem_append_right (by omega), List.getElem_append_right (by omega)]
    simpa [hl] using this
end
theorem infoVx : (Tryz.prog.info? 114).map (fun i => (i.zero, i.size, i.bytes)) = some (some (.agg #[.int .i64 0, .int .i64 0, .slice none 0 0]), 3, 40) := by kernel_rfl
theorem three_new {W : World} {b : Nat} {t : TypeId} {x y z : Value} (h : W.heap[b]? = some (.cells #[x, y, z] t (0, 0))) : ∀ (j : Nat) (u : Value), [x, y, z][j]? = some u → W.cell? ((⟨b, 0, none⟩ : Addr).add j) = some u := by
  intro j u hu
  have hadd : (⟨b, 0, none⟩ : Addr).add j = ⟨b, j, none⟩ := by unfold Addr.add; split <;> simp_all
  rw [hadd]
  simp [World.cell?, h]
  simpa using hu
end Go.Proofs.YtidghoipmggklaaGreat
end

section
/- What Take takes off a reader, and what Decode returns. -/
namespace Go.Proofs.YtidghoipmggklaaGreat
open Go.RowKit
/-- Between two vertices: the reader, the graph's box, the result's box, the vertices so far. -/
structure TG (w wr : World) (p : Nat) (s : ByteArray) (sv : Value) (G : List Vx) (a : Nat) (e : Int) : Prop where
  rd : Rd wr p s a e
  fr : Fr w wr (fun k => k = p)
  gb : wr.heap[w.heap.size + 1]? = some (.cells #[sv] 24 (0, 0))
  rb : wr.heap[w.heap.size]? = some (.cells #[.slice none 0 0] 24 (0, 0))
  row : VRow wr (w.heap.size + 2) 114 sv G
  hp : p < w.heap.size
section
variable {w wr : World} {p : Nat} {s : ByteArray} {sv : Value} {G : List Vx} {a : Nat} {e : Int}
theorem TG.step (h : TG w wr p s sv G a e) {w1 : World} {a' : Nat} {e' : Int} (f : Fr wr w1 (fun k => k = p)) (hr : Rd w1 p s a' e') : TG w w1 p s sv G a' e' := by
  have h2 := h.hp
  exact ⟨hr, h.fr.trans f (fun _ _ h => h), (f.block _ (lt_of_block h.gb) (by omega)).trans h.gb, (f.block _ (lt_of_block h.rb) (by omega)).trans h.rb, h.row.kept f (fun k hk => by omega), h.hp⟩
theorem TG.al (h : TG w wr p s sv G a e) (o : Obj) : TG w (wr.alloc o) p s sv G a e := h.step (Fr.alloc wr o _) (h.rd.kept (Fr.alloc wr o (fun _ => False)) (fun h => h))
theorem TG.below (h : TG w wr p s sv G a e) {w1 : World} (hb : Below wr.heap.size wr w1) : TG w w1 p s sv G a e := h.step (Fr.ofBelow hb _) (h.rd.below hb)
theorem TG.app (h : TG w wr p s sv G a e) {w1 : World} {sv' : Value} {G' : List Vx} (hg : wr.grownBy w1 sv.ownBlock) (hr : VRow w1 (w.heap.size + 2) 114 sv' G') : TG w (w1.setCell ⟨w.heap.size + 1, 0, none⟩ sv') p s sv' G' a e := by
  have h2 := h.hp
  have f1 : Fr wr w1 (fun k => sv.ownBlock = some k) := Fr.grown hg (fun k hk => hk)
  have f2 : Fr w1 (w1.setCell ⟨w.heap.size + 1, 0, none⟩ sv') (fun k => k = w.heap.size + 1) := Fr.setCell (S := fun k => k = w.heap.size + 1) w1 ⟨w.heap.size + 1, 0, none⟩ sv' rfl
  have f : Fr wr (w1.setCell ⟨w.heap.size + 1, 0, none⟩ sv') (fun k => w.heap.size + 1 ≤ k) := (f1.mono (T := fun k => w.heap.size + 1 ≤ k) (fun k _ hk => by have := (h.row.lt k hk).1; omega)).trans f2 (fun k _ hk => Nat.le_of_eq hk.symm)
  have hgb := (f1.block _ (lt_of_block h.gb) (fun hk => by have := (h.row.lt _ hk).1; omega)).trans h.gb
  exact ⟨h.rd.kept f (by omega), h.fr.trans f (fun k hk hb => by omega), one_setCell hgb, (f.block _ (lt_of_block h.rb) (by omega)).trans h.rb, hr.kept f2 (fun k hk => by omega), h.hp⟩
theorem TG.grew (h : TG w wr p s sv G a e) {w1 : World} (hg : wr.grownBy w1 sv.ownBlock) : w1.cell? ⟨w.heap.size + 1, 0, none⟩ = some sv ∧ w1.frozen? ⟨w.heap.size + 1, 0, none⟩ = false := by
  have f1 : Fr wr w1 (fun k => sv.ownBlock = some k) := Fr.grown hg (fun k hk => hk)
  have hgb := (f1.block _ (lt_of_block h.gb) (fun hk => by have := (h.row.lt _ hk).1; omega)).trans h.gb
  exact ⟨cell_of_one hgb, free_of_one hgb⟩
theorem TG.facts (h : TG w wr p s sv G a e) : wr.cell? ⟨w.heap.size + 1, 0, none⟩ = some sv ∧ wr.frozen? ⟨w.heap.size + 1, 0, none⟩ = false ∧ wr.cell? ⟨w.heap.size, 0, none⟩ = some (.slice none 0 0) ∧ wr.frozen? ⟨w.heap.size, 0, none⟩ = false ∧ w.heap.size + 1 < wr.heap.size ∧ w.heap.size < wr.heap.size :=
  ⟨cell_of_one h.gb, free_of_one h.gb, cell_of_one h.rb, free_of_one h.rb, lt_of_block h.gb, lt_of_block h.rb⟩
/-- Where nothing is told: the reader's state, and what stands. -/
theorem TG.none_ (h : TG w wr p s sv G a e) (u : Value) : Rd (wr.setCell ⟨w.heap.size, 0, none⟩ u) p s a e ∧ Fr w (wr.setCell ⟨w.heap.size, 0, none⟩ u) (fun k => k = p) := by
  have h2 := h.hp
  have f := Fr.setCell (S := fun k => k = w.heap.size) wr ⟨w.heap.size, 0, none⟩ u rfl
  exact ⟨h.rd.kept f (by omega), h.fr.trans f (fun k hk hb => by omega)⟩
theorem TG.done {ao : Option Addr} {n c : Nat} (h : TG w wr p s (.slice ao n c) G a e) (u : Value) : n = G.length ∧ VxAt (wr.setCell ⟨w.heap.size, 0, none⟩ u) (fun k => w.heap.size ≤ k) ao G := by
  have f := Fr.setCell (S := fun k => k = w.heap.size) wr ⟨w.heap.size, 0, none⟩ u rfl
  obtain ⟨hn, he⟩ := h.row.at_
  exact ⟨hn, he.kept f (fun k _ hk => ⟨by omega, by omega⟩)⟩
end
theorem rdVs_go {s : ByteArray} {n a x : Nat} {v : Vx} (h : rdV s a 0 = (v, x, 0)) : rdVs s (n + 1) a 0 = (v :: (rdVs s n x 0).1, (rdVs s n x 0).2) := by
  simp only [rdVs, h, if_true]
theorem rdVs_bad {s : ByteArray} {n a x : Nat} {v : Vx} {y : Int} (h : rdV s a 0 = (v, x, y)) (hy : y ≠ 0) : rdVs s (n + 1) a 0 = ([], x, y) := by
  simp only [rdVs, h, if_neg hy]
theorem takev_to {w : World} {p : Nat} {s : ByteArray} {a x : Nat} {e y : Int} {v : Vx} (h : Rd w p s a e) (hs : s.size ≤ maxLen) (ha : a ≤ s.size) (hq : rdV s a e = (v, x, y)) :
    Calls Tryz.prog 118 #[.pointer (some ⟨p, 0, none⟩)] w fun r w' => ∃ eo ec, r = .returned (.agg #[.int .i64 v.id, .int .i64 v.val, .slice eo v.es.length ec]) ∧ EdAt w' (fun k => w.heap.size ≤ k) eo v.es ∧ Rd w' p s x y ∧ Fr w w' (fun k => k = p) := by
  have := takevertex_any h hs ha; rw [hq] at this; exact this
theorem rdG_bad {s : ByteArray} {a x : Nat} {e y : Int} {G : List Vx} (h : rdGs s a e = (G, x, y)) (hy : y ≠ 0) : rdG s a e = ([], x, y) := by
  unfold rdG; rw [h]; simp [hy]
theorem rdG_chk {s : ByteArray} {a x : Nat} {e : Int} {G : List Vx} (h : rdGs s a e = (G, x, 0)) (hc : chk G ≠ 0) : rdG s a e = ([], x, chk G) := by
  unfold rdG; rw [h]; simp [hc]
theorem rdG_ok {s : ByteArray} {a x : Nat} {e : Int} {G : List Vx} (h : rdGs s a e = (G, x, 0)) (hc : chk G = 0) : rdG s a e = (G, x, 0) := by
  unfold rdG; rw [h]; simp [hc]

set_option maxRecDepth 100000 in
set_option maxHeartbeats 1000000 in
theorem take_any {w : World} {p : Nat} {s : ByteArray} {a : Nat} {e : Int} (h : Rd w p s a e) (hs : s.size ≤ maxLen) (ha : a ≤ s.size) :
    Calls Tryz.prog 54 #[.pointer (some ⟨p, 0, none⟩)] w fun r w' => ∃ ao cap, r = .returned (.agg #[.slice ao (rdG s a e).1.length cap]) ∧ VxAt w' (fun k => w.heap.size ≤ k) ao (rdG s a e).1 ∧ Rd w' p s (rdG s a e).2.1 (rdG s a e).2.2 ∧ Fr w w' (fun k => k = p) := by
  obtain ⟨i0, hi, hz0, hz1, hz2⟩ := info_parts infoVx
  obtain ⟨⟨n, a1, e1⟩, h1⟩ : ∃ q, rdCount s a e 256 = q := ⟨_, rfl⟩
  have g1 := rdCount_to (most := 256) ha h1
  have HG : Hid (rdGs s a e = rdVs s n a1 e1) := by show _ = _; unfold rdGs; simp only [h1]
  have H1 : Hid _ := h1
  have hn := g1.2.1
  have G1 : Hid _ := g1
  have hlt := h.lt
  have HA : Hid (∀ o1 o2, Rd ((w.alloc o1).alloc o2) p s a e) := fun o1 o2 => (h.kept (Fr.alloc w o1 (fun _ => False)) (fun h => h)).kept (Fr.alloc _ o2 (fun _ => False)) (fun h => h)
  clear h1 g1 h
  go_enter Tryz.func54, Tryz.ntmps54
  go_wp2_with (go_at_call 56; refine (rct_to (HA.out _ _) hs ha (by decide) H1.out).mono ?_; rintro r w3 ⟨rfl, hr3, hf3⟩)
  have hTG : TG w w3 p s (.slice none 0 0) [] a1 e1 := by
    have hfA : Fr w w3 (fun k => k = p) := ((Fr.alloc w _ _).trans (Fr.alloc _ _ _) (fun _ _ h => h)).trans hf3 (fun _ _ h => h)
    refine ⟨hr3, hfA, (hf3.block _ (by simp) (by omega)).trans ?_, (hf3.block _ (by simp; omega) (by omega)).trans ((Below.heap_alloc _ _ _ (by simp)).trans (heap_alloc_new _ _)), VRow.nil _ _ _, hlt⟩
    have := heap_alloc_new (w.alloc (.cells #[.slice none 0 0] 24)) (.cells #[.slice none 0 0] 24)
    rw [World.size_alloc] at this
    exact this
  clear hr3 hf3
  go_loopw [4, 8] (fun _ i wr => ∃ (j : Nat) (sv : Value) (G : List Vx) (x : Nat) (y : Int), j ≤ n ∧ i = .int .i64 j ∧ Hid (rdVs s n a1 e1 = (G ++ (rdVs s (n - j) x y).1, (rdVs s (n - j) x y).2)) ∧ Hid (x ≤ s.size ∧ G.length = j ∧ (j < n → y = 0) ∧ ∀ v ∈ G, v.ok) ∧ TG w wr p s sv G x y) (fun _ i _ => n - (intOf i).toNat)
  case atStart => exact ⟨0, _, [], a1, e1, Nat.zero_le _, rfl, (by simp : rdVs s n a1 e1 = ([] ++ (rdVs s (n - 0) a1 e1).1, (rdVs s (n - 0) a1 e1).2)), ⟨G1.out.1, rfl, G1.out.2.2.2, fun v hv => by cases hv⟩, hTG⟩
  case round =>
    obtain ⟨j, sv, G, x, y, hj, rfl, HS, HX, hT⟩ := hrel
    obtain ⟨ao, m, c, rfl⟩ := hT.row.any
    by_cases hjn : j < n
    · obtain rfl : y = 0 := HX.out.2.2.1 hjn
      obtain ⟨⟨v, x1, y1⟩, q1⟩ : ∃ q, rdV s x 0 = q := ⟨_, rfl⟩
      have g1 := rdV_to (e := 0) HX.out.1
      rw [q1] at g1
      have Q1 : Hid _ := q1
      have GG : Hid _ := g1
      by_cases hy : y1 = 0
      · subst hy
        have HN : Hid (rdVs s (n - j) x 0 = (v :: (rdVs s (n - (j + 1)) x1 0).1, (rdVs s (n - (j + 1)) x1 0).2)) := by
          show _ = _
          rw [show n - j = (n - (j + 1)) + 1 by omega, rdVs_go q1]
        clear q1 g1
        have HB : Hid (w.heap.size + 2 ≤ wr.heap.size) := by have := lt_of_block hT.gb; show _ ≤ _; omega
        have HL : Hid (∀ k, (Value.slice ao m c).ownBlock = some k → k < wr.heap.size) := fun k hk => (hT.row.lt k hk).2
        go_wp2_with (first
          | (go_at_call 118; refine (takev_to hT.rd hs HX.out.1 Q1.out).mono ?_; rintro r w1 ⟨eo, ec, rfl, hE1, hr1, hf1⟩; have hT1 := hT.step hf1 hr1; obtain ⟨k0, k1, k2, k3, k4, k5⟩ := hT1.facts; have hsz1 := hf1.size)
          | (go_at_call 58; refine (err_any (hT1.al _).rd).mono ?_; rintro r w3 ⟨rfl, rfl⟩; have hE2 : EdAt ((w1.alloc (.cells #[.int .i64 v.id, .int .i64 v.val, .slice eo v.es.length ec] 114)).alloc (.cells #[.int .i64 v.id, .int .i64 v.val, .slice eo v.es.length ec] 114)) (fun k => w.heap.size + 2 ≤ k ∧ (Value.slice ao m c).ownBlock ≠ some k) eo v.es := (hE1.new (b2 w1 _ _)).mono (fun k _ hk => ⟨Nat.le_trans HB.out hk, fun e => by have := HL.out k e; omega⟩); obtain ⟨M, ho, hgo⟩ := ((hT1.al (.cells #[.int .i64 v.id, .int .i64 v.val, .slice eo v.es.length ec] 114)).al (.cells #[.int .i64 v.id, .int .i64 v.val, .slice eo v.es.length ec] 114)).row.app (ec := ec) hE2)
          | (at_builtin; refine wpList_append_own_at _ rfl _ _ 22 rfl (w.heap.size + 2) 114 i0 (.agg #[.int .i64 0, .int .i64 0, .slice none 0 0]) 3 40 Tryz.underlying22 hi hz0 hz1 hz2 rfl (by decide) _ _ _ rfl ho ⟨w1.heap.size + 1, 0, none⟩ 1 1 [.int .i64 v.id, .int .i64 v.val, .slice eo v.es.length ec] rfl rfl ?c1 ?c2 ?c3 ?c4 ?c5 ?_))
        case c1 => exact three_new (by have := heap_alloc_new (w1.alloc (.cells #[.int .i64 v.id, .int .i64 v.val, .slice eo v.es.length ec] 114)) (.cells #[.int .i64 v.id, .int .i64 v.val, .slice eo v.es.length ec] 114); rw [World.size_alloc] at this; exact this)
        case c2 => intro u hu; simp at hu; rcases hu with rfl | rfl | rfl <;> rfl
        case c3 => have := HX.out.2.1; unfold maxLen; omega
        case c4 => have := HX.out.2.1; omega
        case c5 => have := HB.out; simp; omega
        · intro v' w4 hown' hgrow _ hat
          have hR := hgo w4 v' hown' hgrow (by simpa using hat)
          have hT4 := ((hT1.al _).al _).app hgrow hR
          obtain ⟨q2, q3⟩ := ((hT1.al _).al _).grew hgrow
          obtain ⟨ao', m', c', rfl⟩ := own_any hown'
          have HT : Hid _ := hT4
          clear hT4 hT1 hT hown' hgrow hR hgo ho hE1 hE2
          go_wp2
          go_roundw
          case rel => exact ⟨j + 1, _, _, x1, 0, by omega, by go_num, (by rw [HS.out, HN.out]; simp : rdVs s n a1 e1 = ((G ++ [v]) ++ (rdVs s (n - (j + 1)) x1 0).1, (rdVs s (n - (j + 1)) x1 0).2)), ⟨GG.out.1, by have := HX.out.2.1; simp; omega, fun _ => rfl, fun z hz => by
            rcases List.mem_append.1 hz with hz | hz
            · exact HX.out.2.2.2 z hz
            · obtain rfl : z = v := by simpa using hz
              exact GG.out.2.2⟩, HT.out⟩
          case measure => simp [intOf]; omega
      · have HN : Hid (rdGs s a e = (G, x1, y1)) := by
          show _ = _
          rw [HG.out, HS.out, show n - j = (n - (j + 1)) + 1 by omega, rdVs_bad q1 hy]; simp
        have HR : Hid _ := rdG_bad HN.out hy
        have hy0 : (y1 == 0) = false := by rw [beq_eq_false_iff_ne]; exact hy
        clear q1 g1
        go_wp2_with (first
          | (go_at_call 118; refine (takev_to hT.rd hs HX.out.1 Q1.out).mono ?_; rintro r w1 ⟨eo, ec, rfl, hE1, hr1, hf1⟩; have hT1 := hT.step hf1 hr1; obtain ⟨k0, k1, k2, k3, k4, k5⟩ := hT1.facts; have hsz1 := hf1.size)
          | (go_at_call 58; refine (err_any (hT1.al _).rd).mono ?_; rintro r w3 ⟨rfl, rfl⟩))
        obtain ⟨d2, d3⟩ := hT1.none_ (.slice none 0 0)
        refine bodyPost_ret (v := .agg #[.slice none 0 0]) (by simp [results, Tryz.results54, go_sem, k2, k5]) rfl ?_
        rw [HR.out]
        exact ⟨none, 0, rfl, fun h => absurd h (by simp), d2.kept (Fr.alloc _ _ (fun _ => False)) (fun h => h), d3.trans (Fr.alloc _ _ (fun _ => False)) (fun _ _ h => h.elim)⟩
    · have HN : Hid (rdGs s a e = (G, x, y)) := by
        show _ = _
        rw [HG.out, HS.out, show n - j = 0 by omega]; simp [rdVs]
      obtain ⟨hm, hV⟩ := hT.row.at_
      have hGl : G.length ≤ 9223372036854775807 := by have := HX.out.2.1; omega
      have hC := check_any c hV hGl HX.out.2.2.2
      rw [← hm] at hC
      have HM : Hid (m = G.length) := hm
      clear hm
      obtain ⟨k0, k1, k2, k3, k4, k5⟩ := hT.facts
      by_cases hy : y = 0
      · subst hy
        by_cases hc : chk G = 0
        · have HR : Hid _ := rdG_ok HN.out hc
          rw [hc] at hC
          clear hc
          go_wp2_with (first
            | (go_at_call 101; refine hC.mono ?_; rintro r w1 ⟨rfl, hb1⟩; have hT1 := hT.below hb1)
            | (go_at_call 57; refine (rfail_any hT1.rd).mono ?_; rintro r w2 ⟨rfl, hr2, hf2⟩; rw [rdFail_0] at hr2; have hT2 := hT1.step hf2 hr2; obtain ⟨p0, p1, p2, p3, p4, p5⟩ := hT2.facts)
            | (go_at_call 58; refine (err_any hT2.rd).mono ?_; rintro r w3 ⟨rfl, rfl⟩))
          obtain ⟨d2, d3⟩ := hT2.none_ (.slice ao m c)
          obtain ⟨_, d4⟩ := hT2.done (.slice ao m c)
          refine bodyPost_ret (v := .agg #[.slice ao m c]) (by simp [results, Tryz.results54, go_sem, p2]) rfl ?_
          rw [HR.out]
          exact ⟨ao, c, by rw [HM.out], d4, d2, d3⟩
        · have HR : Hid _ := rdG_chk HN.out hc
          have hc0 : (chk G == 0) = false := by rw [beq_eq_false_iff_ne]; exact hc
          go_wp2_with (first
            | (go_at_call 101; refine hC.mono ?_; rintro r w1 ⟨rfl, hb1⟩; have hT1 := hT.below hb1)
            | (go_at_call 57; refine (rfail_any hT1.rd).mono ?_; rintro r w2 ⟨rfl, hr2, hf2⟩; rw [rdFail_0] at hr2; have hT2 := hT1.step hf2 hr2; obtain ⟨p0, p1, p2, p3, p4, p5⟩ := hT2.facts)
            | (go_at_call 58; refine (err_any hT2.rd).mono ?_; rintro r w3 ⟨rfl, rfl⟩))
          obtain ⟨d2, d3⟩ := hT2.none_ (.slice none 0 0)
          refine bodyPost_ret (v := .agg #[.slice none 0 0]) (by simp [results, Tryz.results54, go_sem, p2]) rfl ?_
          rw [HR.out]
          exact ⟨none, 0, rfl, fun h => absurd h (by simp), d2, d3⟩
      · have HR : Hid _ := rdG_bad HN.out hy
        have hy0 : (y == 0) = false := by rw [beq_eq_false_iff_ne]; exact hy
        have HF : Hid _ := rdFail_e hy (chk G)
        go_wp2_with (first
          | (go_at_call 101; refine hC.mono ?_; rintro r w1 ⟨rfl, hb1⟩; have hT1 := hT.below hb1)
          | (go_at_call 57; refine (rfail_any hT1.rd).mono ?_; rintro r w2 ⟨rfl, hr2, hf2⟩; rw [HF.out] at hr2; have hT2 := hT1.step hf2 hr2; obtain ⟨p0, p1, p2, p3, p4, p5⟩ := hT2.facts)
          | (go_at_call 58; refine (err_any hT2.rd).mono ?_; rintro r w3 ⟨rfl, rfl⟩))
        obtain ⟨d2, d3⟩ := hT2.none_ (.slice none 0 0)
        refine bodyPost_ret (v := .agg #[.slice none 0 0]) (by simp [results, Tryz.results54, go_sem, p2]) rfl ?_
        rw [HR.out]
        exact ⟨none, 0, rfl, fun h => absurd h (by simp), d2, d3⟩
end Go.Proofs.YtidghoipmggklaaGreat
end

section
/- A writer carried through several calls. -/
namespace Go.Proofs.YtidghoipmggklaaGreat
open Go.RowKit

/-- The writer's bytes are so many; nothing else has turned. -/
def WTo (w w' : World) (base p : Nat) (v : Value) (l' : List UInt8) : Prop := ∃ v', Wr w' base p v' l' ∧ Fr w w' (fun k => k = p ∨ v.ownBlock = some k) ∧ Row w v v'
theorem WTo.refl {w : World} {base p : Nat} {v : Value} {l : List UInt8} (h : Wr w base p v l) : WTo w w base p v l := ⟨v, h, Fr.refl _ _, Row.refl _ _⟩
theorem WTo.alloc {w w' : World} {base p : Nat} {v : Value} {l : List UInt8} (h : WTo w w' base p v l) (o : Obj) : WTo w (w'.alloc o) base p v l := by
  obtain ⟨v', hw, hf, hr⟩ := h
  exact ⟨v', hw.kept (Fr.alloc w' o (fun _ => False)) (fun h => h) (fun _ _ h => h), hf.trans (Fr.alloc w' o (fun _ => False)) (fun _ _ h => h.elim), hr⟩
theorem WTo.then {w w1 w2 : World} {base p : Nat} {v v1 : Value} {l' : List UInt8} (h1 : Fr w w1 (fun k => k = p ∨ v.ownBlock = some k)) (hr : Row w v v1) (h2 : WTo w1 w2 base p v1 l') : WTo w w2 base p v l' := by
  obtain ⟨v', hw, hf, hr'⟩ := h2
  exact ⟨v', hw, h1.frame2 hr hf, hr.trans hr' h1.size⟩
/-- A block that was there, and is neither the writer's nor its row's, stands. -/
theorem WTo.cell {w w' : World} {base p : Nat} {v : Value} {l : List UInt8} (h : WTo w w' base p v l) {b o : Nat} {u : Value} (hb : b ≠ p) (hv : v.ownBlock ≠ some b) (hc : w.cell? ⟨b, o, none⟩ = some u) : w'.cell? ⟨b, o, none⟩ = some u := by
  obtain ⟨v', _, hf, _⟩ := h
  exact fr_cell hf (by rintro (e | e); exact hb e; exact hv e) hc
theorem Wr.al {w : World} {base p : Nat} {v : Value} {l : List UInt8} (h : Wr w base p v l) (o : Obj) : Wr (w.alloc o) base p v l := h.kept (Fr.alloc w o (fun _ => False)) (fun h => h) (fun _ _ h => h)
theorem Wr.olt {w : World} {base p : Nat} {v : Value} {l : List UInt8} (h : Wr w base p v l) : ∀ k, v.ownBlock = some k → k < w.heap.size := fun k hk => (h.own.lt k hk).2
theorem wsigned_w {w0 w : World} {base p : Nat} {v : Value} {l : List UInt8} (k : Int) (h : WTo w0 w base p v l) (hk : I64 k) (hroom : l.length + 10 ≤ 140737488355328) :
    Calls Tryz.prog 52 #[.pointer (some ⟨p, 0, none⟩), .int .i64 k] w fun r w' => r = .returned (.tuple #[]) ∧ WTo w0 w' base p v (l ++ sgB k) := by
  obtain ⟨v1, hw, hf, hr⟩ := h
  exact (wsigned_any k hw hk.1 hk.2 hroom).mono fun r w' ⟨h1, h2⟩ => ⟨h1, WTo.then hf hr h2⟩
theorem wcount_w {w0 w : World} {base p : Nat} {v : Value} {l : List UInt8} (n : Nat) (h : WTo w0 w base p v l) (hn : n ≤ 9223372036854775807) (hroom : l.length + 10 ≤ 140737488355328) :
    Calls Tryz.prog 51 #[.pointer (some ⟨p, 0, none⟩), .int .i64 n] w fun r w' => r = .returned (.tuple #[]) ∧ WTo w0 w' base p v (l ++ numB n) := by
  obtain ⟨v1, hw, hf, hr⟩ := h
  have := wcount_any (n : Int) hw (by omega) hroom
  rw [Int.toNat_natCast] at this
  exact this.mono fun r w' ⟨h1, h2⟩ => ⟨h1, WTo.then hf hr h2⟩
theorem WTo.fromAlloc {w w' : World} {base p : Nat} {v : Value} {l : List UInt8} {o : Obj} (h : WTo (w.alloc o) w' base p v l) : WTo w w' base p v l := by
  obtain ⟨v', hw, hf, hr⟩ := h
  refine ⟨v', hw, (Fr.alloc w o (fun _ => False)).mono (fun _ _ h => h.elim) |>.trans hf (fun _ _ h => h), ?_⟩
  rcases hr with e | ⟨g, e, hg⟩
  · exact Or.inl e
  · exact Or.inr ⟨g, e, by simp at hg; omega⟩
end Go.Proofs.YtidghoipmggklaaGreat
end

section
/- What PutVertex and Put do to a writer. -/
namespace Go.Proofs.YtidghoipmggklaaGreat
open Go.RowKit

theorem vx_len1 {l : List UInt8} {x : Vx} (hok : x.ok) (hroom : l.length + (30 + 20 * x.es.length) ≤ 140737488355328) : l.length + 10 ≤ 140737488355328 ∧ (l ++ sgB x.id).length + 10 ≤ 140737488355328 ∧ (l ++ sgB x.id ++ sgB x.val).length + 10 ≤ 140737488355328 ∧
    ∀ j (h : j < x.es.length), (l ++ sgB x.id ++ sgB x.val ++ numB x.es.length ++ (x.es.take j).flatMap edB).length + 10 ≤ 140737488355328 ∧ (l ++ sgB x.id ++ sgB x.val ++ numB x.es.length ++ (x.es.take j).flatMap edB ++ sgB x.es[j].t).length + 10 ≤ 140737488355328 := by
  have h1 := sgB_len hok.id
  have h2 := sgB_len hok.val
  have h3 := numB_len10 (n := x.es.length) (by have := hok.len; omega)
  refine ⟨by omega, by rw [List.length_append]; omega, by simp only [List.length_append]; omega, fun j h => ?_⟩
  have h4 := edsB_len (x.es.take j) (fun e he => hok.es e (List.mem_of_mem_take he))
  have h5 := sgB_len (hok.es _ (List.getElem_mem h)).t
  rw [List.length_take] at h4
  simp only [List.length_append]
  omega

set_option maxRecDepth 100000 in
set_option maxHeartbeats 2000000 in
theorem putvertex_any {w : World} {base p : Nat} {v : Value} {l : List UInt8} {eo : Option Addr} (x : Vx) (ec : Nat) (h : Wr w base p v l) (hE : EdAt w (fun k => k ≠ p ∧ v.ownBlock ≠ some k) eo x.es) (hok : x.ok) (hroom : l.length + (30 + 20 * x.es.length) ≤ 140737488355328) :
    Calls Tryz.prog 114 #[.pointer (some ⟨p, 0, none⟩), .agg #[.int .i64 x.id, .int .i64 x.val, .slice eo x.es.length ec]] w fun r w' => r = .returned (.tuple #[]) ∧ WTo w w' base p v (l ++ vxB x) := by
  have hbp : w.heap.size ≠ p := by have := h.lt; omega
  have hbv : v.ownBlock ≠ some w.heap.size := fun e => by have := h.olt _ e; omega
  obtain ⟨W0, hW0⟩ : ∃ W0, w.alloc (.cells #[.int .i64 x.id, .int .i64 x.val, .slice eo x.es.length ec] 114) = W0 := ⟨_, rfl⟩
  have hT0 : WTo W0 W0 base p v l := by rw [← hW0]; exact WTo.refl (h.al _)
  have hE0 : EdAt W0 (fun k => k ≠ p ∧ v.ownBlock ≠ some k) eo x.es := by rw [← hW0]; exact hE.new (one_new _ _)
  obtain ⟨k0, k1, k2⟩ := box3 (show W0.heap[w.heap.size]? = _ by rw [← hW0]; exact heap_alloc_new _ _)
  have HF : Hid (∀ w' l', WTo W0 w' base p v l' → WTo w w' base p v l') := fun w' l' h' => by rw [← hW0] at h'; exact h'.fromAlloc
  obtain ⟨r0, r1, r2, r3⟩ := vx_len1 hok hroom
  have H0 : Hid _ := r0
  have H1 : Hid _ := r1
  have H2 : Hid _ := r2
  have H3 : Hid _ := r3
  have HB : Hid (l ++ vxB x = l ++ sgB x.id ++ sgB x.val ++ numB x.es.length ++ x.es.flatMap edB) := by show _ = _; unfold vxB; simp only [List.append_assoc]
  have HI : Hid (I64 x.id ∧ I64 x.val) := ⟨hok.id, hok.val⟩
  have HO : Hid (∀ e ∈ x.es, e.ok) := hok.es
  have hxl : x.es.length ≤ 9223372036854775807 := Nat.le_trans hok.len (by decide)
  clear r0 r1 r2 r3 hroom hok h hE
  go_enter Tryz.func114, Tryz.ntmps114
  go_wp2_with (first
    | (go_at_call 52; refine (wsigned_w _ (by first | exact hT | exact hT0) (by first | exact HI.out.1 | exact HI.out.2) (by first | exact H0.out | exact H1.out)).mono ?_; rintro r w1 ⟨rfl, hT⟩; have c0 := hT.cell hbp hbv k0; have c1 := hT.cell hbp hbv k1; have c2 := hT.cell hbp hbv k2)
    | (go_at_call 51; refine (wcount_w _ hT hxl H2.out).mono ?_; rintro r w1 ⟨rfl, hT⟩; have c0 := hT.cell hbp hbv k0; have c1 := hT.cell hbp hbv k1; have c2 := hT.cell hbp hbv k2))
  go_loopw [5, 22] (fun _ i wr => ∃ j : Nat, j ≤ x.es.length ∧ i = .int .i64 j ∧ WTo W0 wr base p v (l ++ sgB x.id ++ sgB x.val ++ numB x.es.length ++ (x.es.take j).flatMap edB)) (fun _ i _ => x.es.length - (intOf i).toNat)
  case atStart => exact ⟨0, Nat.zero_le _, rfl, by simpa using hT⟩
  case round =>
    obtain ⟨j, hj, rfl, hTj⟩ := hrel
    by_cases hlt : j < x.es.length
    · obtain ⟨b, off, rfl, hP, hc⟩ := hE0 (by omega)
      have d0 := hTj.cell hP.1 hP.2 (hc j hlt).1
      have d1 := hTj.cell hP.1 hP.2 (hc j hlt).2
      have HR : Hid _ := H3.out j hlt
      have HZ : Hid (x.es[j].ok) := HO.out _ (List.getElem_mem hlt)
      have HS : Hid _ := eds_snoc x.es j hlt
      generalize x.es[j] = z at d0 d1 HR HZ HS
      obtain ⟨vj, hwj, hfj, hrj⟩ := hTj
      have hbj : wr.heap.size ≠ p := by have := hwj.lt; omega
      have hvj : vj.ownBlock ≠ some wr.heap.size := fun e => by have := hwj.olt _ e; omega
      obtain ⟨Wj, hWj⟩ : ∃ Wj, wr.alloc (.cells #[.int .i64 z.t, .int .i64 z.w] 111) = Wj := ⟨_, rfl⟩
      have hTT := WTo.refl (hwj.al (.cells #[.int .i64 z.t, .int .i64 z.w] 111))
      obtain ⟨q0, q1⟩ := box2 (show Wj.heap[wr.heap.size]? = _ by rw [← hWj]; exact heap_alloc_new _ _)
      rw [hWj] at hTT
      have HG : Hid (∀ w' l', WTo Wj w' base p vj l' → WTo W0 w' base p v l') := fun w' l' h' => by rw [← hWj] at h'; exact WTo.then hfj hrj h'.fromAlloc
      clear hc hT hwj hfj hrj
      go_wp2_with (go_at_call 52; refine (wsigned_w _ (by first | exact hT | exact hTT) (by first | exact HZ.out.t | exact HZ.out.w) (by first | exact HR.out.1 | exact HR.out.2)).mono ?_; rintro r w1 ⟨rfl, hT⟩; have c0 := hT.cell hbj hvj q0; have c1 := hT.cell hbj hvj q1)
      go_roundw
      case rel => exact ⟨j + 1, by omega, by go_num, HG.out _ _ (by rw [HS.out, show edB z = sgB z.t ++ sgB z.w from rfl]; simpa only [List.append_assoc] using hT)⟩
      case measure => simp [intOf]; omega
    · obtain rfl : j = x.es.length := by omega
      go_wp2
      go_end0
      exact ⟨rfl, HF.out _ _ (by rw [HB.out]; simpa using hTj)⟩
theorem put_rooms {l : List UInt8} {G : List Vx} (hok : ∀ v ∈ G, v.ok) (hl : G.length ≤ 9223372036854775807) (hroom : l.length + 10 + room G ≤ 140737488355328) : l.length + 10 ≤ 140737488355328 ∧
    ∀ j (h : j < G.length), (l ++ numB G.length ++ (G.take j).flatMap vxB).length + (30 + 20 * G[j].es.length) ≤ 140737488355328 := by
  refine ⟨by omega, fun j h => ?_⟩
  have h1 := numB_len10 (n := G.length) (by omega)
  have h2 := vxsB_len (G.take j) (fun v hv => hok v (List.mem_of_mem_take hv))
  have h3 := room_at h
  simp only [List.length_append]
  omega

set_option maxRecDepth 100000 in
set_option maxHeartbeats 2000000 in
theorem put_any {w : World} {base p : Nat} {v : Value} {l : List UInt8} {ao : Option Addr} (G : List Vx) (cap : Nat) (h : Wr w base p v l) (hG : VxAt w (fun k => k ≠ p ∧ v.ownBlock ≠ some k) ao G) (hok : ∀ v ∈ G, v.ok) (hl : G.length ≤ 9223372036854775807) (hroom : l.length + 10 + room G ≤ 140737488355328) :
    Calls Tryz.prog 50 #[.pointer (some ⟨p, 0, none⟩), .agg #[.slice ao G.length cap]] w fun r w' => r = .returned (.tuple #[]) ∧ WTo w w' base p v (l ++ grB G) := by
  have hbp : w.heap.size ≠ p := by have := h.lt; omega
  have hbv : v.ownBlock ≠ some w.heap.size := fun e => by have := h.olt _ e; omega
  obtain ⟨W0, hW0⟩ : ∃ W0, w.alloc (.cells #[.slice ao G.length cap] 24) = W0 := ⟨_, rfl⟩
  have hT0 : WTo W0 W0 base p v l := by rw [← hW0]; exact WTo.refl (h.al _)
  have hG0 : VxAt W0 (fun k => k ≠ p ∧ v.ownBlock ≠ some k) ao G := by rw [← hW0]; exact hG.new (one_new _ _)
  have k0 : W0.cell? ⟨w.heap.size, 0, none⟩ = some (.slice ao G.length cap) := by rw [← hW0]; exact cell_of_one (heap_alloc_new _ _)
  have HF : Hid (∀ w' l', WTo W0 w' base p v l' → WTo w w' base p v l') := fun w' l' h' => by rw [← hW0] at h'; exact h'.fromAlloc
  obtain ⟨r0, r1⟩ := put_rooms hok hl hroom
  have H0 : Hid _ := r0
  have H1 : Hid _ := r1
  have HB : Hid (l ++ grB G = l ++ numB G.length ++ G.flatMap vxB) := by show _ = _; unfold grB; simp only [List.append_assoc]
  have HO : Hid (∀ v ∈ G, v.ok) := hok
  clear r0 r1 hroom hok h hG
  go_enter Tryz.func50, Tryz.ntmps50
  go_wp2_with (go_at_call 51; refine (wcount_w _ hT0 hl H0.out).mono ?_; rintro r w1 ⟨rfl, hT⟩; have c0 := hT.cell hbp hbv k0)
  go_loopw [5, 14] (fun _ i wr => ∃ j : Nat, j ≤ G.length ∧ i = .int .i64 j ∧ WTo W0 wr base p v (l ++ numB G.length ++ (G.take j).flatMap vxB)) (fun _ i _ => G.length - (intOf i).toNat)
  case atStart => exact ⟨0, Nat.zero_le _, rfl, by simpa using hT⟩
  case round =>
    obtain ⟨j, hj, rfl, hTj⟩ := hrel
    by_cases hlt : j < G.length
    · obtain ⟨b, off, rfl, hP, hc⟩ := hG0 (by omega)
      obtain ⟨eo, ec, e0, e1, e2, e3⟩ := hc j hlt
      have d0 := hTj.cell hP.1 hP.2 e0
      have d1 := hTj.cell hP.1 hP.2 e1
      have d2 := hTj.cell hP.1 hP.2 e2
      have HR : Hid _ := H1.out j hlt
      have HZ : Hid (G[j].ok) := HO.out _ (List.getElem_mem hlt)
      have HS : Hid _ := vxs_snoc G j hlt
      obtain ⟨vj, hwj, hfj, hrj⟩ := hTj
      have hsz := hfj.size
      have e4 : EdAt wr (fun k => k ≠ p ∧ vj.ownBlock ≠ some k) eo G[j].es := e3.kept hfj (fun k hk hp => ⟨by rintro (e | e); exact hp.1 e; exact hp.2 e, hp.1, fun e => by
        rcases hrj with e' | ⟨g, e', hg⟩
        · rw [e'] at e; exact hp.2 e
        · rw [e'] at e; cases e; omega⟩)
      generalize G[j] = z at d0 d1 d2 HR HZ HS e4
      have hPV := fun o => putvertex_any z ec (hwj.al o) (e4.new (one_new wr o)) HZ.out HR.out
      have HG : Hid (∀ o w' l', WTo (wr.alloc o) w' base p vj l' → WTo W0 w' base p v l') := fun o w' l' h' => WTo.then hfj hrj h'.fromAlloc
      clear hc hT hwj hfj hrj e0 e1 e2 e3 e4
      go_wp2_with (go_at_call 114; refine (hPV _).mono ?_; rintro r w1 ⟨rfl, hT⟩)
      go_roundw
      case rel => exact ⟨j + 1, by omega, by go_num, HG.out _ _ _ (by rw [HS.out]; simpa only [List.append_assoc] using hT)⟩
      case measure => simp [intOf]; omega
    · obtain rfl : j = G.length := by omega
      go_wp2
      go_end0
      exact ⟨rfl, HF.out _ _ (by rw [HB.out]; simpa using hTj)⟩
theorem WTo.new {w w1 w2 : World} {B base p : Nat} {v : Value} {l l' : List UInt8} (hb : Below B w w1) (hw : Wr w1 base p v l) (h : WTo w1 w2 base p v l') (hp : B ≤ p) (hB : B ≤ base) : Below B w w2 := by
  obtain ⟨v', _, hf, _⟩ := h
  exact hb.trans (hf.below (Nat.le_trans hp (Nat.le_of_lt hw.lt)) (fun k hk => by
    rcases hk with rfl | hk
    · exact hp
    · exact Nat.le_trans hB (hw.own.lt k hk).1))

end Go.Proofs.YtidghoipmggklaaGreat
end
