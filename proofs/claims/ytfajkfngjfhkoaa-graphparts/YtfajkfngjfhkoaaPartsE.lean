/- GraphParts: the boxes of its second half. -/
import Derived.Test.YtfajkfngjfhkoaaPartsM
import Derived.Test.YtfajkfngjfhkoaaOrdL
namespace Go.Proofs.Ytfajkfngjfhkoaa
open Go.RowKit
theorem infoI64 : (Try.prog.info? 2).map (fun i => (i.zero, i.size, i.bytes)) = some (some (.int .i64 0), 1, 8) := by kernel_rfl
def wcs (E : List (Int × Ed)) : List Value := E.map fun x => .int .i64 x.1
theorem wcs_snoc (E : List (Int × Ed)) (x : Int × Ed) : wcs (E ++ [x]) = wcs E ++ [.int .i64 x.1] := by simp [wcs]
def es2 (E : List (Int × Ed)) : List Ed := E.map (·.2)
theorem ecs_snoc2 (E : List (Int × Ed)) (x : Int × Ed) : ecs (es2 (E ++ [x])) = ecs (es2 E) ++ [.int .i64 x.2.t, .int .i64 x.2.w] := by
  unfold es2 ecs
  simp
theorem own_ne {w : World} {base : Nat} {e t : TypeId} {size n b : Nat} {v : Value} {xs : List Value} {cs : Array Value} {f : Nat × Nat} (h : w.ownsRow base e size v n xs) (hb : w.heap[b]? = some (.cells cs t f)) (hn : e ≠ t) : v.ownBlock ≠ some b := by
  intro hv
  rcases h.2 with ⟨rfl, _⟩ | ⟨g, cap, cur, rfl, _, hg, _⟩
  · cases hv
  · simp only [Value.ownBlock, Option.some.injEq] at hv
    subst hv
    rw [hb] at hg
    cases hg
    exact hn rfl
theorem own_ne2 {w : World} {base base' : Nat} {e t : TypeId} {size size' n n' : Nat} {v v' : Value} {xs xs' : List Value} (h : w.ownsRow base e size v n xs) (h' : w.ownsRow base' t size' v' n' xs') (hn : e ≠ t) : ∀ k, v'.ownBlock = some k → v.ownBlock ≠ some k := by
  intro k hk
  rcases h'.2 with ⟨rfl, _⟩ | ⟨g, cap, cur, rfl, _, hg, _⟩
  · cases hk
  · simp only [Value.ownBlock, Option.some.injEq] at hk
    subst hk
    exact own_ne h hg hn
/-- The boxes: the graph's, the bound, the answer; the count; the two lists. -/
structure PE (w wr : World) (b0 bn bw be : Nat) (ao : Option Addr) (n cap : Nat) (stop nv : Int) (o1 : Option Addr) (m1 c1 : Nat) (o2 : Option Addr) (m2 c2 : Nat) (E : List (Int × Ed)) : Prop where
  pb : PB w wr b0 ao n cap stop
  nb : wr.heap[bn]? = some (.cells #[.int .i64 nv] 3 (0, 0))
  wb : wr.heap[bw]? = some (.cells #[.slice o1 m1 c1] 43 (0, 0))
  eb : wr.heap[be]? = some (.cells #[.slice o2 m2 c2] 37 (0, 0))
  wrow : wr.ownsRow w.heap.size 2 1 (.slice o1 m1 c1) E.length (wcs E)
  erow : wr.ownsRow w.heap.size 45 2 (.slice o2 m2 c2) E.length (ecs (es2 E))
  h1 : b0 + 1 + 1 < bn
  h2 : bn < bw
  h3 : bw < be
section
variable {w wr : World} {b0 bn bw be n cap m1 c1 m2 c2 : Nat} {ao o1 o2 : Option Addr} {stop nv : Int} {E : List (Int × Ed)}
theorem PE.new {w' : World} (h : PE w wr b0 bn bw be ao n cap stop nv o1 m1 c1 o2 m2 c2 E) (hb : Below wr.heap.size wr w') : PE w w' b0 bn bw be ao n cap stop nv o1 m1 c1 o2 m2 c2 E :=
  ⟨h.pb.new hb, (hb.block _ (lt_of_block h.nb)).trans h.nb, (hb.block _ (lt_of_block h.wb)).trans h.wb, (hb.block _ (lt_of_block h.eb)).trans h.eb, own_new h.wrow hb, own_new h.erow hb, h.h1, h.h2, h.h3⟩
/-- Blocks that are none of its own are written. -/
theorem PE.fr {w' : World} {S : Nat → Prop} (h : PE w wr b0 bn bw be ao n cap stop nv o1 m1 c1 o2 m2 c2 E) (f : Fr wr w' S) (hS : ∀ k, S k → w.heap.size ≤ k ∧ k ≠ b0 ∧ k ≠ b0 + 1 ∧ k ≠ b0 + 1 + 1 ∧ k ≠ bn ∧ k ≠ bw ∧ k ≠ be ∧ (Value.slice o1 m1 c1).ownBlock ≠ some k ∧ (Value.slice o2 m2 c2).ownBlock ≠ some k) : PE w w' b0 bn bw be ao n cap stop nv o1 m1 c1 o2 m2 c2 E :=
  ⟨⟨(f.block _ (lt_of_block h.pb.gb) (fun hk => (hS _ hk).2.1 rfl)).trans h.pb.gb, (f.block _ (lt_of_block h.pb.sb) (fun hk => (hS _ hk).2.2.1 rfl)).trans h.pb.sb, (f.block _ (lt_of_block h.pb.rb) (fun hk => (hS _ hk).2.2.2.1 rfl)).trans h.pb.rb, h.pb.low.trans (f.below h.pb.low.size (fun k hk => (hS k hk).1)), h.pb.lo⟩,
    (f.block _ (lt_of_block h.nb) (fun hk => (hS _ hk).2.2.2.2.1 rfl)).trans h.nb, (f.block _ (lt_of_block h.wb) (fun hk => (hS _ hk).2.2.2.2.2.1 rfl)).trans h.wb, (f.block _ (lt_of_block h.eb) (fun hk => (hS _ hk).2.2.2.2.2.2.1 rfl)).trans h.eb,
    own_kept h.wrow f (fun k hk hs => (hS k hs).2.2.2.2.2.2.2.1 hk), own_kept h.erow f (fun k hk hs => (hS k hs).2.2.2.2.2.2.2.2 hk), h.h1, h.h2, h.h3⟩
/-- An edge more in both lists. -/
theorem PE.push {X0 w1 X1 w2 : World} {p1 p2 : Option Addr} {k1 d1 k2 d2 : Nat} {x : Int × Ed} (h : PE w wr b0 bn bw be ao n cap stop nv o1 m1 c1 o2 m2 c2 E)
    (f0 : Below wr.heap.size wr X0) (g1 : X0.grownBy w1 (Value.slice o1 m1 c1).ownBlock) (r1 : w1.ownsRow w.heap.size 2 1 (.slice p1 k1 d1) (E.length + 1) (wcs E ++ [.int .i64 x.1]))
    (f1 : Below w1.heap.size w1 X1) (g2 : X1.grownBy w2 (Value.slice o2 m2 c2).ownBlock) (r2 : w2.ownsRow w.heap.size 45 2 (.slice p2 k2 d2) (E.length + 1) (ecs (es2 E) ++ [.int .i64 x.2.t, .int .i64 x.2.w])) :
    PE w ((w2.setCell ⟨bw, 0, none⟩ (.slice p1 k1 d1)).setCell ⟨be, 0, none⟩ (.slice p2 k2 d2)) b0 bn bw be ao n cap stop nv p1 k1 d1 p2 k2 d2 (E ++ [x]) := by
  have F1 : Fr wr X0 (fun _ => False) := Fr.ofBelow f0 _
  have F2 : Fr X0 w1 (fun k => (Value.slice o1 m1 c1).ownBlock = some k) := Fr.grown g1 (fun k hk => hk)
  have F3 : Fr w1 X1 (fun _ => False) := Fr.ofBelow f1 _
  have F4 : Fr X1 w2 (fun k => (Value.slice o2 m2 c2).ownBlock = some k) := Fr.grown g2 (fun k hk => hk)
  have F : Fr wr w2 (fun k => (Value.slice o1 m1 c1).ownBlock = some k ∨ (Value.slice o2 m2 c2).ownBlock = some k) := (((F1.mono (fun _ _ h => h.elim)).trans F2 (fun _ _ h => .inl h)).trans F3 (fun _ _ h => h.elim)).trans F4 (fun _ _ h => .inr h)
  have nn : ∀ {b : Nat} {cs : Array Value} {t : TypeId}, wr.heap[b]? = some (.cells cs t (0, 0)) → 2 ≠ t → 45 ≠ t → w2.heap[b]? = some (.cells cs t (0, 0)) := fun hb n1 n2 =>
    (F.block _ (lt_of_block hb) (fun hk => hk.elim (own_ne h.wrow hb n1) (own_ne h.erow hb n2))).trans hb
  have q0 := nn h.pb.gb (by decide) (by decide)
  have q1 := nn h.pb.sb (by decide) (by decide)
  have q2 := nn h.pb.rb (by decide) (by decide)
  have q3 := nn h.nb (by decide) (by decide)
  have q4 := nn h.wb (by decide) (by decide)
  have q5 := nn h.eb (by decide) (by decide)
  have z1 := h.h1
  have z2 := h.h2
  have z3 := h.h3
  have G1 : Fr w2 (w2.setCell ⟨bw, 0, none⟩ (.slice p1 k1 d1)) (fun k => k = bw) := Fr.setCell (S := fun k => k = bw) w2 ⟨bw, 0, none⟩ _ rfl
  have G2 : Fr (w2.setCell ⟨bw, 0, none⟩ (.slice p1 k1 d1)) ((w2.setCell ⟨bw, 0, none⟩ (.slice p1 k1 d1)).setCell ⟨be, 0, none⟩ (.slice p2 k2 d2)) (fun k => k = be) := Fr.setCell (S := fun k => k = be) _ ⟨be, 0, none⟩ _ rfl
  have G : Fr w2 ((w2.setCell ⟨bw, 0, none⟩ (.slice p1 k1 d1)).setCell ⟨be, 0, none⟩ (.slice p2 k2 d2)) (fun k => k = bw ∨ k = be) := (G1.mono (fun _ _ h => .inl h)).trans G2 (fun _ _ h => .inr h)
  have low2 : Below w.heap.size w w2 := h.pb.low.trans (F.below h.pb.low.size (fun k hk => hk.elim (fun e => (h.wrow.lt k e).1) (fun e => (h.erow.lt k e).1)))
  have r1' : w2.ownsRow w.heap.size 2 1 (.slice p1 k1 d1) (E.length + 1) (wcs E ++ [.int .i64 x.1]) := own_kept (own_kept r1 F3 (fun _ _ h => h)) F4 (fun k hk hs => by
    have e1 := own_kept r1 F3 (fun _ _ h => h)
    have e2 : X1.ownsRow w.heap.size 45 2 (.slice o2 m2 c2) E.length (ecs (es2 E)) := own_kept (own_kept (own_new h.erow f0) F2 (fun q hq hs' => own_ne2 (own_new h.wrow f0) (own_new h.erow f0) (by decide) q hq hs')) F3 (fun _ _ h => h)
    exact own_ne2 e2 e1 (by decide) k hk hs)
  refine ⟨⟨(G.block _ (lt_of_block q0) (by omega)).trans q0, (G.block _ (lt_of_block q1) (by omega)).trans q1, (G.block _ (lt_of_block q2) (by omega)).trans q2, low2.trans (G.below low2.size (fun k hk => by have := h.pb.lo; omega)), h.pb.lo⟩, (G.block _ (lt_of_block q3) (by omega)).trans q3, ?_, cl_set1 ((G1.block _ (lt_of_block q5) (by omega)).trans q5) _, ?_, ?_, z1, z2, z3⟩
  · exact (G2.block _ (by have := lt_of_block q4; have := G1.size; omega) (by omega)).trans (cl_set1 q4 _)
  · rw [wcs_snoc, List.length_append]
    exact own_kept r1' G (fun k hk hs => hs.elim (fun e => own_ne r1' q4 (by decide) (e ▸ hk)) (fun e => own_ne r1' q5 (by decide) (e ▸ hk)))
  · rw [ecs_snoc2, List.length_append]
    exact own_kept r2 G (fun k hk hs => hs.elim (fun e => own_ne r2 q4 (by decide) (e ▸ hk)) (fun e => own_ne r2 q5 (by decide) (e ▸ hk)))
end
end Go.Proofs.Ytfajkfngjfhkoaa
