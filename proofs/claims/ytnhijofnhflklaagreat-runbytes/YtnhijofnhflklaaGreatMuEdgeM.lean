import Derived.Test.YtnhijofnhflklaaGreatGrTakeM
import Derived.Deep.RegionLaw
import Derived.BigRegion
import Derived.Test.YtnhijofnhflklaaGreatMuDoM
import Derived.Deep.RegionHeld
import Derived.Deep.RegionHeldLaw
import Derived.Deep.Cut
import Derived.Deep.DeepCutAuto
section
/- What Take takes off a reader, and what Decode returns. -/
namespace Go.Proofs.YtnhijofnhflklaaGreat
open Go.RowKit
/-- Vertices, as cells, with where their edges lie. -/
def vcs : List Vx → List (Option Addr × Nat) → List Value
  | v :: G, m :: M => .int .i64 v.id :: .int .i64 v.val :: .slice m.1 v.es.length m.2 :: vcs G M
  | _, _ => []
theorem vcs_snoc : ∀ (G : List Vx) (M : List (Option Addr × Nat)) (v : Vx) (m : Option Addr × Nat), G.length = M.length → vcs (G ++ [v]) (M ++ [m]) = vcs G M ++ [.int .i64 v.id, .int .i64 v.val, .slice m.1 v.es.length m.2]
  | [], [], v, m, _ => rfl
  | [], _ :: _, _, _, h => by simp at h
  | _ :: _, [], _, _, h => by simp at h
  | g :: G, k :: M, v, m, h => by
    have := vcs_snoc G M v m (by simpa using h)
    simp only [List.cons_append, vcs, this]
theorem vcs_at : ∀ (G : List Vx) (M : List (Option Addr × Nat)) (j : Nat) (h : j < G.length) (h' : j < M.length), (vcs G M)[j * 3]? = some (.int .i64 G[j].id) ∧ (vcs G M)[j * 3 + 1]? = some (.int .i64 G[j].val) ∧ (vcs G M)[j * 3 + 2]? = some (.slice M[j].1 G[j].es.length M[j].2)
  | [], _, j, h, _ => absurd h (by simp)
  | _ :: _, [], j, _, h => absurd h (by simp)
  | v :: G, m :: M, 0, _, _ => ⟨rfl, rfl, rfl⟩
  | v :: G, m :: M, j + 1, h, h' => by
    have := vcs_at G M j (by simpa using h) (by simpa using h')
    rw [show (j + 1) * 3 = j * 3 + 1 + 1 + 1 by omega]
    exact this
/-- A row of vertices of the call's own; their edges lie elsewhere. -/
structure VRow (w : World) (base : Nat) (t : TypeId) (sv : Value) (G : List Vx) : Prop where
  row : ∃ M : List (Option Addr × Nat), G.length = M.length ∧ w.ownsRow base t 3 sv G.length (vcs G M) ∧ ∀ j (h : j < G.length) (h' : j < M.length), EdAt w (fun k => base ≤ k ∧ sv.ownBlock ≠ some k) M[j].1 G[j].es
theorem VRow.nil (w : World) (base : Nat) (t : TypeId) : VRow w base t (.slice none 0 0) [] := ⟨[], rfl, World.ownsRow_nil _ _ _ _, fun j h => absurd h (by simp)⟩
section
variable {w : World} {base : Nat} {t : TypeId} {sv : Value} {G : List Vx}
theorem VRow.any (h : VRow w base t sv G) : ∃ ao m c, sv = .slice ao m c := by
  obtain ⟨M, _, ho, _⟩ := h.row
  exact own_any ho
theorem VRow.lt (h : VRow w base t sv G) : ∀ k, sv.ownBlock = some k → base ≤ k ∧ k < w.heap.size := by
  obtain ⟨M, _, ho, _⟩ := h.row
  exact ho.lt
theorem VRow.kept (h : VRow w base t sv G) {w' : World} {S : Nat → Prop} (f : Fr w w' S) (hS : ∀ k, base ≤ k → ¬ S k) : VRow w' base t sv G := by
  obtain ⟨M, hl, ho, he⟩ := h.row
  exact ⟨M, hl, own_kept ho f (fun k hk => hS k (ho.lt k hk).1), fun j h h' => (he j h h').kept f (fun k _ hk => ⟨hS k hk.1, hk⟩)⟩
theorem VRow.at_ {ao : Option Addr} {m c : Nat} (h : VRow w base t (.slice ao m c) G) : m = G.length ∧ VxAt w (fun k => base ≤ k) ao G := by
  obtain ⟨M, hl, ho, he⟩ := h.row
  rcases ho.2 with ⟨h1, h2⟩ | ⟨g, cap, cur, h1, hb, hg, hn, hc, hcs, ht⟩
  · cases h1
    exact ⟨h2.symm, fun hl => by omega⟩
  · cases h1
    refine ⟨rfl, fun hl' => ⟨g, 0, rfl, hb, fun j hj => ?_⟩⟩
    have hcell : ∀ i (u : Value), (vcs G M)[i]? = some u → w.cell? ⟨g, i, none⟩ = some u := fun i u hu => by
      have := ho.cells (g := g) rfl i u hu
      have hadd : (⟨g, 0, none⟩ : Addr).add i = ⟨g, i, none⟩ := by unfold Addr.add; split <;> simp_all
      rw [hadd] at this
      exact this
    have := vcs_at G M j hj (by omega)
    rw [Nat.zero_add]
    exact ⟨_, _, hcell _ _ this.1, hcell _ _ this.2.1, hcell _ _ this.2.2, (he j hj (by omega)).mono (fun k _ hk => hk.1)⟩
/-- Behind the append of one vertex. -/
theorem VRow.app (h : VRow w base t sv G) {v : Vx} {eo : Option Addr} {ec : Nat} (hE : EdAt w (fun k => base ≤ k ∧ sv.ownBlock ≠ some k) eo v.es) : ∃ M, w.ownsRow base t 3 sv G.length (vcs G M) ∧
    ∀ (w1 : World) (sv' : Value), w1.ownsRow base t 3 sv' (G.length + 1) (vcs G M ++ [.int .i64 v.id, .int .i64 v.val, .slice eo v.es.length ec]) → w.grownBy w1 sv.ownBlock → (sv'.ownBlock = sv.ownBlock ∨ sv'.ownBlock = some w.heap.size) → VRow w1 base t sv' (G ++ [v]) := by
  obtain ⟨M, hl, ho, he⟩ := h.row
  refine ⟨M, ho, fun w1 sv' ho' hg hat => ⟨M ++ [(eo, ec)], by simp [hl], by rw [vcs_snoc G M v (eo, ec) hl, List.length_append]; exact ho', fun j h1 h2 => ?_⟩⟩
  have f : Fr w w1 (fun k => sv.ownBlock = some k) := Fr.grown hg (fun k hk => hk)
  have hS : ∀ k, k < w.heap.size → base ≤ k ∧ sv.ownBlock ≠ some k → ¬ sv.ownBlock = some k ∧ (base ≤ k ∧ sv'.ownBlock ≠ some k) := fun k hk hp => ⟨hp.2, hp.1, fun e => by
    rcases hat with e' | e'
    · rw [e'] at e; exact hp.2 e
    · rw [e'] at e; cases e; omega⟩
  by_cases hj : j < G.length
  · have := (he j hj (by omega)).kept f hS
    rw [List.getElem_append_left (by omega), List.getElem_append_left hj]
    exact this
  · obtain rfl : j = G.length := by simp at h1; omega
    have := hE.kept f hS
    rw [List.getElem_append_right (by omega), List.getElem_append_right (by omega)]
    simpa [hl] using this
end
theorem infoVx : (Tryz.prog.info? 82).map (fun i => (i.zero, i.size, i.bytes)) = some (some (.agg #[.int .i64 0, .int .i64 0, .slice none 0 0]), 3, 40) := by kernel_rfl
theorem three_new {W : World} {b : Nat} {t : TypeId} {x y z : Value} (h : W.heap[b]? = some (.cells #[x, y, z] t (0, 0))) : ∀ (j : Nat) (u : Value), [x, y, z][j]? = some u → W.cell? ((⟨b, 0, none⟩ : Addr).add j) = some u := by
  intro j u hu
  have hadd : (⟨b, 0, none⟩ : Addr).add j = ⟨b, j, none⟩ := by unfold Addr.add; split <;> simp_all
  rw [hadd]
  simp [World.cell?, h]
  simpa using hu
end Go.Proofs.YtnhijofnhflklaaGreat
end

section
/- What Ref returns: the same graph, in new memory. -/
namespace Go.Proofs.YtnhijofnhflklaaGreat
open Go.RowKit

theorem own_new {w w' : World} {base : Nat} {e : TypeId} {size : Nat} {v : Value} {n : Nat} {xs : List Value} (h : w.ownsRow base e size v n xs) (hb : Below w.heap.size w w') : w'.ownsRow base e size v n xs := by
  refine ⟨h.1, ?_⟩
  rcases h.2 with hn | ⟨g, cap, cur, rfl, hbs, hgg, rest⟩
  · exact Or.inl hn
  · exact Or.inr ⟨g, cap, cur, rfl, hbs, (hb.block g (lt_of_block hgg)).trans hgg, rest⟩
theorem VRow.new {w w' : World} {base : Nat} {t : TypeId} {sv : Value} {G : List Vx} (h : VRow w base t sv G) (hb : Below w.heap.size w w') : VRow w' base t sv G := by
  obtain ⟨M, hl, ho, he⟩ := h.row
  exact ⟨M, hl, own_new ho hb, fun j h h' => (he j h h').new hb⟩
theorem own_empty {w : World} {base : Nat} {t : TypeId} {size : Nat} (hb : base ≤ w.heap.size) : (w.alloc (.cells #[] t)).ownsRow base t size (.slice (some ⟨w.heap.size, 0, none⟩) 0 0) 0 [] := World.ownsRow_made w #[] 0 hb (by decide) (by simp)
theorem VRow.empty {w : World} {base : Nat} {t : TypeId} (hb : base ≤ w.heap.size) : VRow (w.alloc (.cells #[] t)) base t (.slice (some ⟨w.heap.size, 0, none⟩) 0 0) [] := ⟨[], rfl, own_empty hb, fun j h => absurd h (by simp)⟩
/-- Between two edges of a vertex. -/
structure RI (wo wx : World) (bv bx : Nat) (y : Vx) (eo : Option Addr) (ec : Nat) (ev : Value) (L : List Ed) : Prop where
  low : Below wo.heap.size wo wx
  vb : wx.heap[bv]? = some (.cells #[.int .i64 y.id, .int .i64 y.val, .slice eo y.es.length ec] 82 (0, 0))
  xb : wx.heap[bx]? = some (.cells #[.int .i64 y.id, .int .i64 y.val, ev] 104 (0, 0))
  own : wx.ownsRow (bx + 1) 186 2 ev L.length (ecs L)
  h1 : wo.heap.size ≤ bv
  h2 : bv < bx
section
variable {wo wx : World} {bv bx : Nat} {y : Vx} {eo : Option Addr} {ec : Nat} {ev : Value} {L : List Ed}
theorem RI.new (h : RI wo wx bv bx y eo ec ev L) {w1 : World} (hb : Below wx.heap.size wx w1) : RI wo w1 bv bx y eo ec ev L :=
  ⟨h.low.trans (hb.mono h.low.size), (hb.block _ (lt_of_block h.vb)).trans h.vb, (hb.block _ (lt_of_block h.xb)).trans h.xb, own_new h.own hb, h.h1, h.h2⟩
theorem RI.app (h : RI wo wx bv bx y eo ec ev L) {w1 : World} {ev' : Value} {x z : Int} (ho : w1.ownsRow (bx + 1) 186 2 ev' (L.length + 1) (ecs L ++ [.int .i64 x, .int .i64 z])) (hg : wx.grownBy w1 ev.ownBlock) : RI wo (w1.setCell ⟨bx, 2, none⟩ ev') bv bx y eo ec ev' (L ++ [⟨x, z⟩]) := by
  have h1 := h.h1
  have h2 := h.h2
  have f1 : Fr wx w1 (fun k => ev.ownBlock = some k) := Fr.grown hg (fun k hk => hk)
  have f2 : Fr w1 (w1.setCell ⟨bx, 2, none⟩ ev') (fun k => k = bx) := Fr.setCell (S := fun k => k = bx) w1 ⟨bx, 2, none⟩ ev' rfl
  have f : Fr wx (w1.setCell ⟨bx, 2, none⟩ ev') (fun k => bx ≤ k) := (f1.mono (T := fun k => bx ≤ k) (fun k _ hk => by have := (h.own.lt k hk).1; omega)).trans f2 (fun k _ hk => Nat.le_of_eq hk.symm)
  have hxb := (f1.block bx (lt_of_block h.xb) (fun hk => by have := (h.own.lt _ hk).1; omega)).trans h.xb
  refine ⟨h.low.trans (f.below (B := wo.heap.size) h.low.size (fun k hk => by omega)), (f.block bv (lt_of_block h.vb) (by omega)).trans h.vb, set3_2 hxb _, ?_, h.h1, h.h2⟩
  rw [ecs_snoc, List.length_append]
  exact ownsRow_setCell_other ho (fun e => Nat.lt_irrefl bx (ho.lt bx e).1) _
end

end Go.Proofs.YtnhijofnhflklaaGreat
end

section
/- graph.Part, the document's Part, and copies: slices.Clone of edges, cloneVertex, graph.Clone. -/
namespace Go.Proofs.YtnhijofnhflklaaGreat
open Go.RowKit
/-- A block of plain cells, none of them frozen. -/
def Soft (w : World) (k : Nat) : Prop := ∃ cs t, w.heap[k]? = some (.cells cs t (0, 0))
theorem Soft.keep {w w' : World} {k : Nat} {S : Nat → Prop} (h : Soft w k) (f : Fr w w' S) (hn : ¬ S k) : Soft w' k := by
  obtain ⟨cs, t, h⟩ := h
  exact ⟨cs, t, (f.block k (lt_of_block h) hn).trans h⟩
theorem Soft.new {w w' : World} {k : Nat} (h : Soft w k) (hb : Below w.heap.size w w') : Soft w' k := by
  obtain ⟨cs, t, h⟩ := h
  exact ⟨cs, t, (hb.block k (lt_of_block h)).trans h⟩
theorem soft_own {w : World} {base : Nat} {e : TypeId} {size : Nat} {v : Value} {n k : Nat} {xs : List Value} (h : w.ownsRow base e size v n xs) (hk : v.ownBlock = some k) : Soft w k := by
  rcases h.2 with ⟨h1, _⟩ | ⟨g, cap, cur, h1, _, hg, _⟩
  · rw [h1] at hk; cases hk
  · rw [h1] at hk
    cases hk
    exact ⟨cur, e, hg⟩
theorem ecs_len (L : List Ed) : (ecs L).length = L.length * 2 := by
  induction L with
  | nil => rfl
  | cons y L ih => simp only [ecs, List.flatMap_cons, List.length_append, List.length_cons] at *; simp at *; omega
theorem ecs_one (L : List Ed) : ∀ u ∈ ecs L, u.oneCell' = true := by
  intro u hu
  unfold ecs at hu
  obtain ⟨y, _, hy⟩ := List.mem_flatMap.1 hu
  simp at hy
  rcases hy with rfl | rfl <;> rfl
theorem ecs_cell {w : World} {P : Nat → Prop} {ad : Addr} {L : List Ed} (h : EdAt w P (some ad) L) : ∀ j u, (ecs L)[j]? = some u → w.cell? (ad.add j) = some u := by
  intro j u hu
  have hj : j < (ecs L).length := (List.getElem?_eq_some_iff.1 hu).1
  rw [ecs_len] at hj
  obtain ⟨b, off, e, _, hc⟩ := h (by omega)
  cases e
  have hadd : (⟨b, off, none⟩ : Addr).add j = ⟨b, off + j, none⟩ := by unfold Addr.add; split <;> simp_all
  rw [hadd]
  have hi : j / 2 < L.length := by omega
  have h1 := ecs_at L (j / 2) hi
  have h2 := hc (j / 2) hi
  rcases Nat.mod_two_eq_zero_or_one j with h0 | h0
  · rw [show j / 2 * 2 = j by omega] at h1 h2
    rw [h1.1] at hu
    cases hu
    exact h2.1
  · rw [show j / 2 * 2 + 1 = j by omega] at h1
    rw [show off + j / 2 * 2 + 1 = off + j by omega] at h2
    rw [h1.2] at hu
    cases hu
    exact h2.2
theorem nil_eq (w : World) (n c : Nat) : (binOp .eql 80 (.slice none n c) (.slice none 0 0)).run Tryz.prog w = .ok (.bool true) w := by
  have h : (Op.equalIn 10000 80 (.slice none n c) (.slice none 0 0)).run Tryz.prog w = .ok true w := by
    unfold Op.equalIn
    simp [run_underlying Tryz.underlying80]
  simp only [binOp]
  simp [Op.equal, Op.maxDepth, h]
theorem nil_ne (w : World) (ad : Addr) (n c : Nat) : (binOp .eql 80 (.slice (some ad) n c) (.slice none 0 0)).run Tryz.prog w = .ok (.bool false) w := by
  have h : (Op.equalIn 10000 80 (.slice (some ad) n c) (.slice none 0 0)).run Tryz.prog w = .ok false w := by
    unfold Op.equalIn
    simp [run_underlying Tryz.underlying80]
  simp only [binOp]
  simp [Op.equal, Op.maxDepth, h]
set_option maxRecDepth 100000 in
theorem clones_any {w : World} {P : Nat → Prop} {ao : Option Addr} (L : List Ed) (cap : Nat) (h : EdAt w P ao L) (hl : L.length ≤ 8796093022208) :
    Calls Tryz.prog 154 #[.slice ao L.length cap] w fun r w' => ∃ bo c, r = .returned (.slice bo L.length c) ∧ EdAt w' (fun k => w.heap.size ≤ k ∧ Soft w' k) bo L ∧ Below w.heap.size w w' := by
  obtain ⟨i0, hi, hz0, hz1, hz2⟩ := info_parts infoEdge
  cases ao with
  | none =>
    have hL : L = [] := List.eq_nil_of_length_eq_zero (Nat.eq_zero_of_not_pos (fun hp => by obtain ⟨b, off, e, _⟩ := h hp; cases e))
    subst hL
    have hq := nil_eq
    go_enter Tryz.func154, Tryz.ntmps154
    go_wp2
    go_ret
    exact ⟨none, 0, rfl, fun hp => absurd hp (by simp), Below.refl _ _⟩
  | some ad =>
    have HN : Hid (∀ j u, (ecs L)[j]? = some u → (w.alloc (.cells #[] 106)).cell? (ad.add j) = some u) := ecs_cell (h.new (one_new _ _))
    have HO : Hid _ := own_empty (w := w) (base := w.heap.size) (t := 106) (size := 2) (Nat.le_refl _)
    clear h
    have hq := nil_ne
    go_enter Tryz.func154, Tryz.ntmps154
    go_wp2_with (at_builtin; refine wpList_append_own_at _ rfl _ _ 80 rfl w.heap.size 106 i0 (.agg #[.int .i64 0, .int .i64 0]) 2 16 Tryz.underlying80 hi hz0 hz1 hz2 rfl (by decide) _ _ _ rfl HO.out ad L.length cap (ecs L) rfl (ecs_len L) HN.out (ecs_one L) (by unfold maxLen; omega) (by omega) (by simp) ?_)
    intro v' w1 hown hgrow _ _
    obtain ⟨bo, m, c, rfl⟩ := own_any hown
    obtain ⟨hm, hE⟩ := own_eds hown
    subst hm
    have hb : Below w.heap.size w w1 := (one_new w _).trans ((Fr.grown (S := fun k => k = w.heap.size) hgrow (fun k hk => by cases hk; rfl)).below (by simp) (fun k hk => by omega))
    go_wp2
    go_ret
    exact ⟨bo, c, rfl, hE.mono (fun k _ hk => ⟨hk.1, soft_own hown hk.2⟩), hb⟩
theorem cl_set3 {w : World} {b : Nat} {t : TypeId} {u0 u1 u2 : Value} (h : w.heap[b]? = some (.cells #[u0, u1, u2] t (0, 0))) (x y z : Value) : (((w.setCell ⟨b, 0, none⟩ x).setCell ⟨b, 1, none⟩ y).setCell ⟨b, 2, none⟩ z).heap[b]? = some (.cells #[x, y, z] t (0, 0)) := by
  have hs : ∀ {w : World} {i : Nat} {cs : Array Value} (v : Value), w.heap[b]? = some (.cells cs t (0, 0)) → (w.setCell ⟨b, i, none⟩ v).heap[b]? = some (.cells (cs.setIfInBounds i v) t (0, 0)) := by
    intro w i cs v h
    have hlt := lt_of_block h
    have h' : w.heap[b] = .cells cs t (0, 0) := by simpa [Array.getElem?_eq_getElem hlt] using h
    show (w.heap.modify b _)[b]? = _
    rw [Array.getElem?_eq_getElem (by simpa using hlt), Array.getElem_modify_self, h']
    rfl
  exact hs z (hs y (hs x h))
theorem sizeVx : (Tryz.prog.info? 82).map (·.size) = some 3 := by kernel_rfl
set_option maxRecDepth 100000 in
theorem clonev_any {w : World} {P : Nat → Prop} {eo : Option Addr} (x : Vx) (ec : Nat) (h : EdAt w P eo x.es) (hl : x.es.length ≤ 8796093022208) :
    Calls Tryz.prog 117 #[.agg #[.int .i64 x.id, .int .i64 x.val, .slice eo x.es.length ec]] w fun r w' => ∃ bo c, r = .returned (.agg #[.int .i64 x.id, .int .i64 x.val, .slice bo x.es.length c]) ∧ EdAt w' (fun k => w.heap.size ≤ k ∧ Soft w' k) bo x.es ∧ Below w.heap.size w w' := by
  have HE : Hid (∀ W, Below w.heap.size w W → EdAt W P eo x.es) := fun W hb => h.new hb
  have HB : Hid (Below w.heap.size w ((w.alloc (.cells #[.int .i64 x.id, .int .i64 x.val, .slice eo x.es.length ec] 82)).alloc (.cells #[.int .i64 0, .int .i64 0, .slice none 0 0] 82))) := b2 _ _ _
  have X1 : Hid (((w.alloc (.cells #[.int .i64 x.id, .int .i64 x.val, .slice eo x.es.length ec] 82)).alloc (.cells #[.int .i64 0, .int .i64 0, .slice none 0 0] 82)).heap[w.heap.size]? = some (.cells #[.int .i64 x.id, .int .i64 x.val, .slice eo x.es.length ec] 82 (0, 0))) := (Below.heap_alloc _ _ _ (by simp)).trans (heap_alloc_new _ _)
  have X2 : Hid (((w.alloc (.cells #[.int .i64 x.id, .int .i64 x.val, .slice eo x.es.length ec] 82)).alloc (.cells #[.int .i64 0, .int .i64 0, .slice none 0 0] 82)).heap[w.heap.size + 1]? = some (.cells #[.int .i64 0, .int .i64 0, .slice none 0 0] 82 (0, 0))) := by
    have := heap_alloc_new (w.alloc (.cells #[.int .i64 x.id, .int .i64 x.val, .slice eo x.es.length ec] 82)) (.cells #[.int .i64 0, .int .i64 0, .slice none 0 0] 82)
    rw [World.size_alloc] at this
    exact this
  clear h
  go_enter Tryz.func117, Tryz.ntmps117
  go_wp2_with (go_at_call 154; refine (clones_any x.es ec (HE.out _ HB.out) hl).mono ?_; rintro r w1 ⟨bo, c, rfl, hE1, hb1⟩; have y1 := (hb1.block _ (lt_of_block X1.out)).trans X1.out; have y2 := (hb1.block _ (lt_of_block X2.out)).trans X2.out; obtain ⟨p0, p1, p2⟩ := box3 y1; have p3 := froz (o := 2) y1; obtain ⟨q0, q1, q2⟩ := box3 y2; have q3 := froz (o := 0) y2; have q4 := froz (o := 1) y2; have q5 := froz (o := 2) y2; have Y1 : Hid _ := y1; have Y2 : Hid _ := y2; clear y1 y2)
  have hB1 : Below w.heap.size w w1 := HB.out.trans (hb1.mono HB.out.size)
  generalize hW : World.setCell _ _ _ = W
  have f1 : Fr w1 W (fun k => k = w.heap.size ∨ k = w.heap.size + 1) := by
    rw [← hW]
    have hs1 : ∀ (w' : World) (o : Nat) (u : Value), Fr w' (w'.setCell ⟨w.heap.size, o, none⟩ u) (fun k => k = w.heap.size ∨ k = w.heap.size + 1) := fun w' o u => Fr.setCell (S := fun k => k = w.heap.size ∨ k = w.heap.size + 1) w' ⟨w.heap.size, o, none⟩ u (Or.inl rfl)
    have hs2 : ∀ (w' : World) (o : Nat) (u : Value), Fr w' (w'.setCell ⟨w.heap.size + 1, o, none⟩ u) (fun k => k = w.heap.size ∨ k = w.heap.size + 1) := fun w' o u => Fr.setCell (S := fun k => k = w.heap.size ∨ k = w.heap.size + 1) w' ⟨w.heap.size + 1, o, none⟩ u (Or.inr rfl)
    exact (((hs1 _ _ _).trans (hs2 _ _ _) (fun _ _ h => h)).trans (hs2 _ _ _) (fun _ _ h => h)).trans (hs2 _ _ _) (fun _ _ h => h)
  have b1 : W.heap[w.heap.size + 1]? = some (.cells #[.int .i64 x.id, .int .i64 x.val, .slice bo x.es.length c] 82 (0, 0)) := by
    rw [← hW]
    have h0 : (w1.setCell ⟨w.heap.size, 2, none⟩ (.slice bo x.es.length c)).heap[w.heap.size + 1]? = some (.cells #[.int .i64 0, .int .i64 0, .slice none 0 0] 82 (0, 0)) := (Below.heap_setCell w1 ⟨w.heap.size, 2, none⟩ _ (w.heap.size + 1) (by show w.heap.size + 1 ≠ w.heap.size; omega)).trans Y2.out
    exact cl_set3 h0 _ _ _
  refine bodyPost_ret (v := .agg #[.int .i64 x.id, .int .i64 x.val, .slice bo x.es.length c]) (results_cell_row Tryz.results117 _ _ (w.heap.size + 1) 82 _ (0, 0) _ rfl b1 Tryz.underlying82 rfl sizeVx) rfl ?_
  have hz1 := lt_of_block X2.out
  exact ⟨bo, c, rfl, hE1.kept f1 (fun k hk hp => ⟨by have := hp.1; omega, by have := HB.out.size; have := hp.1; omega, hp.2.keep f1 (by have := hp.1; omega)⟩), hB1.trans (f1.below hB1.size (fun k hk => by omega))⟩
end Go.Proofs.YtnhijofnhflklaaGreat
end

section
/- A graph of one's own in memory: its row of vertices, each vertex's row of edges, all of them apart. -/
namespace Go.Proofs.YtnhijofnhflklaaGreat
open Go.RowKit
/-- The cells of vertices, with the slices of their edges. -/
def gcs (L : List (Vx × Value)) : List Value := L.flatMap fun x => [.int .i64 x.1.id, .int .i64 x.1.val, x.2]
theorem gcs_app (A B : List (Vx × Value)) : gcs (A ++ B) = gcs A ++ gcs B := by simp [gcs]
theorem gcs_cons (x : Vx × Value) (B : List (Vx × Value)) : gcs (x :: B) = [.int .i64 x.1.id, .int .i64 x.1.val, x.2] ++ gcs B := by simp [gcs]
theorem gcs_len (L : List (Vx × Value)) : (gcs L).length = L.length * 3 := by
  induction L with
  | nil => rfl
  | cons x L ih => rw [gcs_cons, List.length_append, ih]; simp; omega
theorem gcs_take (L : List (Vx × Value)) (n : Nat) : (gcs L).take (n * 3) = gcs (L.take n) := by
  by_cases h : n ≤ L.length
  · conv => lhs; rw [← List.take_append_drop n L, gcs_app]
    rw [List.take_left' (by rw [gcs_len, List.length_take]; omega)]
  · rw [List.take_of_length_le (by rw [gcs_len]; omega), List.take_of_length_le (by omega)]
theorem gcs_drop (L : List (Vx × Value)) (n : Nat) : (gcs L).drop (n * 3) = gcs (L.drop n) := by
  by_cases h : n ≤ L.length
  · conv => lhs; rw [← List.take_append_drop n L, gcs_app]
    rw [List.drop_left' (by rw [gcs_len, List.length_take]; omega)]
  · rw [List.drop_of_length_le (by rw [gcs_len]; omega), List.drop_of_length_le (by omega)]; rfl
theorem gcs_at (A B : List (Vx × Value)) (x : Vx × Value) : (gcs (A ++ x :: B))[A.length * 3]? = some (.int .i64 x.1.id) ∧ (gcs (A ++ x :: B))[A.length * 3 + 1]? = some (.int .i64 x.1.val) ∧ (gcs (A ++ x :: B))[A.length * 3 + 2]? = some x.2 := by
  have hl := gcs_len A
  refine ⟨?_, ?_, ?_⟩ <;> (rw [gcs_app, gcs_cons, List.getElem?_append_right (by omega), hl]; simp)
theorem ecs_app (A B : List Ed) : ecs (A ++ B) = ecs A ++ ecs B := by simp [ecs]
theorem ecs_take (L : List Ed) (n : Nat) : (ecs L).take (n * 2) = ecs (L.take n) := by
  by_cases h : n ≤ L.length
  · conv => lhs; rw [← List.take_append_drop n L, ecs_app]
    rw [List.take_left' (by rw [ecs_len, List.length_take]; omega)]
  · rw [List.take_of_length_le (by rw [ecs_len]; omega), List.take_of_length_le (by omega)]
theorem ecs_drop (L : List Ed) (n : Nat) : (ecs L).drop (n * 2) = ecs (L.drop n) := by
  by_cases h : n ≤ L.length
  · conv => lhs; rw [← List.take_append_drop n L, ecs_app]
    rw [List.drop_left' (by rw [ecs_len, List.length_take]; omega)]
  · rw [List.drop_of_length_le (by rw [ecs_len]; omega), List.drop_of_length_le (by omega)]; rfl
/-- Two slices lie apart. -/
def Apart (x y : Vx × Value) : Prop := ∀ k, x.2.ownBlock = some k → y.2.ownBlock ≠ some k
/-- A graph of one's own. -/
structure GW (w : World) (base : Nat) (sv : Value) (L : List (Vx × Value)) : Prop where
  row : w.ownsRow base 82 3 sv L.length (gcs L)
  eds : ∀ x ∈ L, w.ownsRow base 106 2 x.2 x.1.es.length (ecs x.1.es)
  apart : L.Pairwise Apart
theorem own_keep {w w' : World} {base : Nat} {e : TypeId} {size : Nat} {v : Value} {n : Nat} {xs : List Value} {S : Nat → Prop} (h : w.ownsRow base e size v n xs) (f : Fr w w' S) (hS : ∀ k, v.ownBlock = some k → ¬ S k) : w'.ownsRow base e size v n xs := by
  refine ⟨h.1, ?_⟩
  rcases h.2 with hn | ⟨g, cap, cur, rfl, hb, hg, rest⟩
  · exact .inl hn
  · exact .inr ⟨g, cap, cur, rfl, hb, (f.block g (Array.getElem?_eq_some_iff.1 hg).1 (hS g rfl)).trans hg, rest⟩
theorem own_diff {w : World} {base base' : Nat} {e t : TypeId} {size size' n n' : Nat} {v v' : Value} {xs xs' : List Value} (h : w.ownsRow base e size v n xs) (h' : w.ownsRow base' t size' v' n' xs') (hn : e ≠ t) : ∀ k, v'.ownBlock = some k → v.ownBlock ≠ some k := by
  intro k hk hv
  rcases h.2 with ⟨rfl, _⟩ | ⟨g, cap, cur, rfl, _, hg, _⟩
  · cases hv
  · rcases h'.2 with ⟨rfl, _⟩ | ⟨g', cap', cur', rfl, _, hg', _⟩
    · cases hk
    · cases hv; cases hk
      rw [hg] at hg'
      cases hg'
      exact hn rfl
section
variable {w : World} {base : Nat} {sv : Value} {L : List (Vx × Value)}
theorem GW.keep (h : GW w base sv L) {w' : World} {S : Nat → Prop} (f : Fr w w' S) (hS : ∀ k, S k → k < base) : GW w' base sv L :=
  ⟨own_keep h.row f (fun k hk hs => by have := (h.row.lt k hk).1; have := hS k hs; omega), fun x hx => own_keep (h.eds x hx) f (fun k hk hs => by have := ((h.eds x hx).lt k hk).1; have := hS k hs; omega), h.apart⟩
theorem GW.new (h : GW w base sv L) {w' : World} (hb : Below w.heap.size w w') : GW w' base sv L := h.keep (Fr.ofBelow hb (fun _ => False)) (fun _ hk => hk.elim)
/-- What is read of it. -/
theorem GW.at_ (h : GW w base sv L) : ∃ ao cap, sv = .slice ao L.length cap ∧ VxAt w (fun k => base ≤ k) ao (L.map (·.1)) := by
  rcases h.row.2 with ⟨h1, h2⟩ | ⟨g, cap, cur, h1, hb, hg, hn, hc, hcs, ht⟩
  · refine ⟨none, 0, by rw [h1, h2], fun hl => ?_⟩
    rw [List.length_map] at hl; omega
  · refine ⟨some ⟨g, 0, none⟩, cap, h1, fun _ => ⟨g, 0, rfl, hb, fun j hj => ?_⟩⟩
    have hj' : j < L.length := by simpa using hj
    have hcell : ∀ i (u : Value), (gcs L)[i]? = some u → w.cell? ⟨g, i, none⟩ = some u := fun i u hu => by
      have := h.row.cells (g := g) (by rw [h1]; rfl) i u hu
      rwa [Addr.add_lit, Nat.zero_add] at this
    have hL : L = L.take j ++ L[j] :: L.drop (j + 1) := by rw [← List.drop_eq_getElem_cons hj', List.take_append_drop]
    have ha := gcs_at (L.take j) (L.drop (j + 1)) L[j]
    rw [← hL, List.length_take, Nat.min_eq_left (by omega)] at ha
    rw [Nat.zero_add]
    have he := h.eds L[j] (List.getElem_mem hj')
    obtain ⟨eo, m, ec, hv⟩ := own_any he
    rw [hv] at he
    obtain ⟨hm, hE⟩ := own_eds he
    rw [List.getElem_map]
    refine ⟨eo, ec, hcell _ _ ha.1, hcell _ _ ha.2.1, ?_, hE.mono (fun k _ hk => hk.1)⟩
    rw [hcell _ _ ha.2.2, hv, hm]
end
theorem over_take_in (cur : List Value) (o : Nat) (vs : List Value) {N : Nat} (h : o + vs.length ≤ N) (hN : N ≤ cur.length) : (over cur o vs).take N = over (cur.take N) o vs := by
  unfold over
  rw [List.take_append, List.take_of_length_le (by simp; omega), List.take_take, Nat.min_eq_left (by omega), List.drop_take]
  congr 1
  congr 1
  simp
  omega
theorem over_third (a b : List Value) (u0 u1 u2 ev : Value) : over (a ++ ([u0, u1, u2] ++ b)) (a.length + 2) [ev] = a ++ ([u0, u1, ev] ++ b) := by
  unfold over
  have e1 : a ++ ([u0, u1, u2] ++ b) = (a ++ [u0, u1]) ++ (u2 :: b) := by simp
  have e2 : a ++ ([u0, u1, u2] ++ b) = (a ++ [u0, u1, u2]) ++ b := by simp
  conv => lhs; arg 1; rw [e1, List.take_left' (by simp)]
  rw [e2, List.drop_left' (by simp)]
  simp
/-- One vertex's edges anew. -/
theorem GW.put {w W : World} {base : Nat} {rb cap : Nat} {A B : List (Vx × Value)} {x : Vx × Value} (h : GW w base (.slice (some ⟨rb, 0, none⟩) (A ++ x :: B).length cap) (A ++ x :: B)) {es : List Ed} {ev : Value} (hf : Fr w W (fun k => x.2.ownBlock = some k))
    (ho : W.ownsRow base 106 2 ev es.length (ecs es)) (hat : ev.ownBlock = x.2.ownBlock ∨ ∀ k, ev.ownBlock = some k → w.heap.size ≤ k) :
    GW (W.setCell ⟨rb, A.length * 3 + 2, none⟩ ev) base (.slice (some ⟨rb, 0, none⟩) (A ++ x :: B).length cap) (A ++ (⟨x.1.id, x.1.val, es⟩, ev) :: B) := by
  have hne : ∀ y ∈ A ++ x :: B, y.2.ownBlock ≠ some rb := fun y hy e => own_diff h.row (h.eds y hy) (by decide) rb e rfl
  have hap := h.apart
  rw [List.pairwise_append, List.pairwise_cons] at hap
  have hap' : ∀ y, (y ∈ A ∨ y ∈ B) → ∀ k, y.2.ownBlock = some k → x.2.ownBlock ≠ some k := by
    rintro y (hy | hy) k hk hx
    · exact hap.2.2 y hy x (by simp) k hk hx
    · exact hap.2.1.1 y hy k hx hk
  have hlt : ∀ y ∈ A ++ x :: B, ∀ k, y.2.ownBlock = some k → k < w.heap.size := fun y hy k hk => ((h.eds y hy).lt k hk).2
  have hev : ∀ y, (y ∈ A ∨ y ∈ B) → ∀ k, y.2.ownBlock = some k → ev.ownBlock ≠ some k := by
    intro y hy k hk e
    rcases hat with e' | e'
    · rw [e'] at e; exact hap' y hy k hk e
    · have := e' k e
      have := hlt y (by rcases hy with hy | hy <;> simp [hy]) k hk
      omega
  have hrb : rb < w.heap.size := (h.row.lt rb rfl).2
  have hevr : ev.ownBlock ≠ some rb := by
    rcases hat with e' | e'
    · rw [e']; exact hne x (by simp)
    · intro e; have := e' rb e; omega
  have fs : Fr W (W.setCell ⟨rb, A.length * 3 + 2, none⟩ ev) (fun k => k = rb) := Fr.setCell (S := fun k => k = rb) W ⟨rb, _, none⟩ ev rfl
  have hxr : x.2.ownBlock ≠ some rb := hne x (by simp)
  refine ⟨?_, fun y hy => ?_, ?_⟩
  · have hrow := own_keep h.row hf (fun k hk e => by cases hk; exact hxr e)
    obtain ⟨g, cap', cur, h1, hn, hB, ht⟩ := own_blk hrow (by rw [List.length_append, List.length_cons]; omega)
    cases h1
    have hlen : (A ++ x :: B).length = A.length + 1 + B.length := by simp; omega
    have hmul : (A ++ x :: B).length * 3 ≤ cap * 3 := Nat.mul_le_mul_right 3 hn
    have hB2 := (hB.set (A.length * 3 + 2) [ev] (by simp only [List.length_singleton]; omega)).own hn
    have hsz := hB.size
    rw [over_take_in _ _ _ (by simp only [List.length_singleton]; omega) (by omega), ht] at hB2
    have e : over (gcs (A ++ x :: B)) (A.length * 3 + 2) [ev] = gcs (A ++ (⟨x.1.id, x.1.val, es⟩, ev) :: B) := by
      have hl := gcs_len A
      rw [gcs_app, gcs_cons, gcs_app, gcs_cons, ← hl]
      exact over_third _ _ _ _ _ _
    rw [e] at hB2
    rw [show (A ++ ((⟨x.1.id, x.1.val, es⟩ : Vx), ev) :: B).length = (A ++ x :: B).length by simp]
    exact hB2
  · rcases List.mem_append.1 hy with hy | hy
    · exact own_keep (own_keep (h.eds y (by simp [hy])) hf (fun k hk e => hap' y (.inl hy) k hk e)) fs (fun k hk e => by subst e; exact hne y (by simp [hy]) hk)
    · rcases List.mem_cons.1 hy with rfl | hy
      · exact own_keep ho fs (fun k hk e => by subst e; exact hevr hk)
      · exact own_keep (own_keep (h.eds y (by simp [hy])) hf (fun k hk e => hap' y (.inr hy) k hk e)) fs (fun k hk e => by subst e; exact hne y (by simp [hy]) hk)
  · rw [List.pairwise_append, List.pairwise_cons]
    refine ⟨hap.1, ⟨fun y hy k hk e => hev y (.inr hy) k e hk, hap.2.1.2⟩, fun y hy z hz => ?_⟩
    rcases List.mem_cons.1 hz with rfl | hz
    · exact fun k hk e => hev y (.inl hy) k hk e
    · exact hap.2.2 y hy z (by simp [hz])
/-- One vertex less. -/
theorem GW.del {w W : World} {base : Nat} {sv sv' : Value} {A B : List (Vx × Value)} {x : Vx × Value} (h : GW w base sv (A ++ x :: B)) (hf : Fr w W (fun k => sv.ownBlock = some k)) (ho : W.ownsRow base 82 3 sv' (A ++ B).length (gcs (A ++ B))) : GW W base sv' (A ++ B) := by
  have hap := h.apart
  rw [List.pairwise_append, List.pairwise_cons] at hap
  refine ⟨ho, fun y hy => ?_, ?_⟩
  · have hy' : y ∈ A ++ x :: B := by rcases List.mem_append.1 hy with h | h <;> simp [h]
    exact own_keep (h.eds y hy') hf (fun k hk e => own_diff h.row (h.eds y hy') (by decide) k hk e)
  · rw [List.pairwise_append]
    exact ⟨hap.1, hap.2.1.2, fun y hy z hz => hap.2.2 y hy z (by simp [hz])⟩
/-- One vertex more, without edges. -/
theorem GW.ins {w W : World} {base : Nat} {sv sv' : Value} {A B : List (Vx × Value)} {v : Vx} (h : GW w base sv (A ++ B)) (hf : Fr w W (fun k => sv.ownBlock = some k)) (hv : v.es = []) (ho : W.ownsRow base 82 3 sv' (A ++ (v, Value.slice none 0 0) :: B).length (gcs (A ++ (v, Value.slice none 0 0) :: B))) : GW W base sv' (A ++ (v, Value.slice none 0 0) :: B) := by
  have hap := h.apart
  rw [List.pairwise_append] at hap
  refine ⟨ho, fun y hy => ?_, ?_⟩
  · have hy' : y ∈ A ++ B ∨ y = (v, Value.slice none 0 0) := by
      rcases List.mem_append.1 hy with h | h
      · simp [h]
      · rcases List.mem_cons.1 h with h | h <;> simp [h]
    rcases hy' with hy' | rfl
    · exact own_keep (h.eds y hy') hf (fun k hk e => own_diff h.row (h.eds y hy') (by decide) k hk e)
    · rw [show ((v, Value.slice none 0 0) : Vx × Value).1.es = [] from hv]
      exact World.ownsRow_nil _ _ _ _
  · rw [List.pairwise_append, List.pairwise_cons]
    refine ⟨hap.1, ⟨fun y _ k hk => (by cases hk), hap.2.1⟩, fun y hy z hz => ?_⟩
    rcases List.mem_cons.1 hz with rfl | hz
    · exact fun k _ e => (by cases e)
    · exact hap.2.2 y hy z hz
end Go.Proofs.YtnhijofnhflklaaGreat
end

section
/- Find of a greater graph, and the place of an edge. -/
namespace Go.Proofs.YtnhijofnhflklaaGreat
open Go.RowKit
set_option maxRecDepth 100000 in
set_option maxHeartbeats 4000000 in
theorem bsearchW_any {w : World} {P : Nat → Prop} {ao : Option Addr} {G : List Vx} (cap : Nat) (x : Int) (h : VxAt w P ao G) (hl : G.length ≤ 1073741824) (hr : Rise (ids G)) :
    Calls Tryz.prog 188 #[.slice ao G.length cap, .int .i64 x, .func (.func 189) #[] #[]] w fun r w' => r = .returned (.tuple #[.int .i64 (findN (ids G) x), .bool (foundB (ids G) x)]) ∧ Below w.heap.size w w' := by
  have HR : Hid (Rise (ids G)) := hr
  clear hr
  go_enter Tryz.func188, Tryz.ntmps188
  go_wp2
  go_loopw [9, 10, 11] (fun u v _ wr => ∃ (i j : Nat), i ≤ j ∧ j ≤ G.length ∧ u = .int .i64 i ∧ v = .int .i64 j ∧ Hid (∀ q (h : q < (ids G).length), q < i → (ids G)[q] < x) ∧ Hid (∀ q (h : q < (ids G).length), j ≤ q → x ≤ (ids G)[q]) ∧ Below w.heap.size w wr) (fun u v _ _ => (intOf v).toNat - (intOf u).toNat)
  case atStart => exact ⟨0, G.length, Nat.zero_le _, Nat.le_refl _, rfl, rfl, fun q _ hq => absurd hq (by omega), fun q hq hq' => absurd hq (by rw [ids_len]; omega), Below.refl _ _⟩
  case round =>
    obtain ⟨i, j, hij, hj, rfl, rfl, H1, H2, hb⟩ := hrel
    by_cases hlt : i < j
    · obtain ⟨m, HM⟩ : ∃ m : Nat, Hid (m = (i + j) / 2) := ⟨_, rfl⟩
      have hm : m = (i + j) / 2 := HM.out
      have hmi : i ≤ m := by omega
      have hmj : m < j := by omega
      have hmG : m < G.length := by omega
      obtain ⟨b, off, rfl, hP, hc⟩ := h (by omega)
      obtain ⟨eo, ec, c0, c1, c2, c3⟩ := hc m hmG
      have hbb := lt_cell c0
      have d0 := (hb.cell (p := ⟨b, off + m * 3, none⟩) hbb).trans c0
      have d1 := (hb.cell (p := ⟨b, off + m * 3 + 1, none⟩) hbb).trans c1
      have d2 := (hb.cell (p := ⟨b, off + m * 3 + 2, none⟩) hbb).trans c2
      have HG : Hid ((ids G)[m]'(by rw [ids_len]; exact hmG) = G[m].id) := ids_get G m hmG
      generalize G[m] = y at d0 d1 d2 HG
      have hdv : ((i : Int) + (j : Int)) / 2 = m := by omega
      have hF := fun w => find1_any y.id y.val x eo y.es.length ec w
      clear c0 c1 c2 c3 hc hm
      by_cases hy : y.id < x
      · rw [show cmpI y.id x = -1 from if_pos hy] at hF
        go_wp2_with (go_at_call 189; refine (hF _).mono ?_; rintro r w1 ⟨rfl, hb1⟩)
        go_roundw
        case rel => exact ⟨m + 1, j, by omega, by omega, by go_num, rfl, below_step HR.out (by rw [ids_len]; exact hmG) HG.out hy, H2, hb.trans (hb1.mono hb.size)⟩
        case measure => simp [intOf]; omega
      · obtain ⟨c, hcc, hc0⟩ : ∃ c, cmpI y.id x = c ∧ ¬ c < 0 := ⟨_, rfl, by unfold cmpI; rw [if_neg hy]; split <;> omega⟩
        rw [hcc] at hF
        clear hcc
        go_wp2_with (go_at_call 189; refine (hF _).mono ?_; rintro r w1 ⟨rfl, hb1⟩)
        go_roundw
        case rel => exact ⟨i, m, by omega, by omega, rfl, rfl, H1, above_step HR.out (by rw [ids_len]; exact hmG) HG.out (by omega), hb.trans (hb1.mono hb.size)⟩
        case measure => simp [intOf]; omega
    · obtain rfl : i = j := by omega
      have HF : Hid (findN (ids G) x = i) := findN_eq (by rw [ids_len]; exact hj) H1.out (fun q hq hqi => by have := H2.out q hq hqi; omega)
      by_cases hin : i < G.length
      · obtain ⟨b, off, rfl, hP, hc⟩ := h (by omega)
        obtain ⟨eo, ec, c0, c1, c2, c3⟩ := hc i hin
        have hbb := lt_cell c0
        have d0 := (hb.cell (p := ⟨b, off + i * 3, none⟩) hbb).trans c0
        have d1 := (hb.cell (p := ⟨b, off + i * 3 + 1, none⟩) hbb).trans c1
        have d2 := (hb.cell (p := ⟨b, off + i * 3 + 2, none⟩) hbb).trans c2
        have HG : Hid ((ids G)[i]'(by rw [ids_len]; exact hin) = G[i].id) := ids_get G i hin
        have HX : Hid (¬ G[i].id < x) := by
          show ¬ _
          rw [← HG.out]
          have := H2.out i (by rw [ids_len]; exact hin) (Nat.le_refl _)
          omega
        have HB : Hid (foundB (ids G) x = (cmpI G[i].id x == 0)) := by
          show _ = _
          unfold foundB
          rw [HF.out, List.getElem?_eq_getElem (by rw [ids_len]; exact hin), HG.out]
          exact found_cmp HX.out
        generalize G[i] = y at d0 d1 d2 HG HX HB
        have hF := fun w => find1_any y.id y.val x eo y.es.length ec w
        clear c0 c1 c2 c3 hc
        generalize cmpI y.id x = c at hF HB
        go_wp2_with (go_at_call 189; refine (hF _).mono ?_; rintro r w1 ⟨rfl, hb1⟩)
        go_ret2
        exact ⟨by rw [HF.out, HB.out]; rfl, hb.trans (hb1.mono hb.size)⟩
      · have HB : Hid (foundB (ids G) x = false) := by
          show _ = _
          unfold foundB
          rw [HF.out, List.getElem?_eq_none (by rw [ids_len]; omega)]; rfl
        go_wp2
        go_ret2
        exact ⟨by rw [HF.out, HB.out]; rfl, hb⟩
theorem findW_any {w : World} {P : Nat → Prop} {ao : Option Addr} {G : List Vx} (cap : Nat) (x : Int) (h : VxAt w P ao G) (hl : G.length ≤ 1073741824) (hr : Rise (ids G)) :
    Calls Tryz.prog 149 #[.agg #[.slice ao G.length cap], .int .i64 x] w fun r w' => r = .returned (.tuple #[.int .i64 (findN (ids G) x), .bool (foundB (ids G) x)]) ∧ Below w.heap.size w w' := by
  have hB := fun o => bsearchW_any (w := w.alloc o) cap x (h.new ((Below.refl _ _).alloc (Nat.le_refl _) _)) hl hr
  clear h hr
  go_enter Tryz.func149, Tryz.ntmps149
  go_wp2_with (go_at_call 188; refine (hB _).mono ?_; rintro r w1 ⟨rfl, hb1⟩)
  go_ret2
  exact ⟨rfl, ((Below.refl _ _).alloc (Nat.le_refl _) _).trans (hb1.mono (by simp))⟩
theorem findE1_any (x y i : Int) (w : World) :
    Calls Tryz.prog 261 #[.agg #[.int .i64 x, .int .i64 y], .int .i64 i] w fun r w' => r = .returned (.int .i64 (cmpI x i)) ∧ Below w.heap.size w w' := by
  go_enter Tryz.func261, Tryz.ntmps261
  go_wp2_with (go_at_call 134; refine (compare_any _ _ _).mono ?_; rintro r w1 ⟨rfl, rfl⟩)
  go_ret
  exact ⟨rfl, (Below.refl _ _).alloc (Nat.le_refl _) _⟩
set_option maxRecDepth 100000 in
set_option maxHeartbeats 4000000 in
theorem bsearchE_any {w : World} {P : Nat → Prop} {ao : Option Addr} {G : List Ed} (cap : Nat) (x : Int) (h : EdAt w P ao G) (hl : G.length ≤ 1073741824) (hr : Rise (ends G)) :
    Calls Tryz.prog 260 #[.slice ao G.length cap, .int .i64 x, .func (.func 261) #[] #[]] w fun r w' => r = .returned (.tuple #[.int .i64 (findN (ends G) x), .bool (foundB (ends G) x)]) ∧ Below w.heap.size w w' := by
  have HR : Hid (Rise (ends G)) := hr
  clear hr
  go_enter Tryz.func260, Tryz.ntmps260
  go_wp2
  go_loopw [9, 10, 11] (fun u v _ wr => ∃ (i j : Nat), i ≤ j ∧ j ≤ G.length ∧ u = .int .i64 i ∧ v = .int .i64 j ∧ Hid (∀ q (h : q < (ends G).length), q < i → (ends G)[q] < x) ∧ Hid (∀ q (h : q < (ends G).length), j ≤ q → x ≤ (ends G)[q]) ∧ Below w.heap.size w wr) (fun u v _ _ => (intOf v).toNat - (intOf u).toNat)
  case atStart => exact ⟨0, G.length, Nat.zero_le _, Nat.le_refl _, rfl, rfl, fun q _ hq => absurd hq (by omega), fun q hq hq' => absurd hq (by rw [ends_len]; omega), Below.refl _ _⟩
  case round =>
    obtain ⟨i, j, hij, hj, rfl, rfl, H1, H2, hb⟩ := hrel
    by_cases hlt : i < j
    · obtain ⟨m, HM⟩ : ∃ m : Nat, Hid (m = (i + j) / 2) := ⟨_, rfl⟩
      have hm : m = (i + j) / 2 := HM.out
      have hmi : i ≤ m := by omega
      have hmj : m < j := by omega
      have hmG : m < G.length := by omega
      obtain ⟨b, off, rfl, hP, hc⟩ := h (by omega)
      obtain ⟨c0, c1⟩ := hc m hmG
      have hbb := lt_cell c0
      have d0 := (hb.cell (p := ⟨b, off + m * 2, none⟩) hbb).trans c0
      have d1 := (hb.cell (p := ⟨b, off + m * 2 + 1, none⟩) hbb).trans c1
      have HG : Hid ((ends G)[m]'(by rw [ends_len]; exact hmG) = G[m].t) := ends_get G m hmG
      generalize G[m] = y at d0 d1 HG
      have hdv : ((i : Int) + (j : Int)) / 2 = m := by omega
      have hF := fun w => findE1_any y.t y.w x w
      clear c0 c1 hc hm
      by_cases hy : y.t < x
      · rw [show cmpI y.t x = -1 from if_pos hy] at hF
        go_wp2_with (go_at_call 261; refine (hF _).mono ?_; rintro r w1 ⟨rfl, hb1⟩)
        go_roundw
        case rel => exact ⟨m + 1, j, by omega, by omega, by go_num, rfl, below_step HR.out (by rw [ends_len]; exact hmG) HG.out hy, H2, hb.trans (hb1.mono hb.size)⟩
        case measure => simp [intOf]; omega
      · obtain ⟨c, hcc, hc0⟩ : ∃ c, cmpI y.t x = c ∧ ¬ c < 0 := ⟨_, rfl, by unfold cmpI; rw [if_neg hy]; split <;> omega⟩
        rw [hcc] at hF
        clear hcc
        go_wp2_with (go_at_call 261; refine (hF _).mono ?_; rintro r w1 ⟨rfl, hb1⟩)
        go_roundw
        case rel => exact ⟨i, m, by omega, by omega, rfl, rfl, H1, above_step HR.out (by rw [ends_len]; exact hmG) HG.out (by omega), hb.trans (hb1.mono hb.size)⟩
        case measure => simp [intOf]; omega
    · obtain rfl : i = j := by omega
      have HF : Hid (findN (ends G) x = i) := findN_eq (by rw [ends_len]; exact hj) H1.out (fun q hq hqi => by have := H2.out q hq hqi; omega)
      by_cases hin : i < G.length
      · obtain ⟨b, off, rfl, hP, hc⟩ := h (by omega)
        obtain ⟨c0, c1⟩ := hc i hin
        have hbb := lt_cell c0
        have d0 := (hb.cell (p := ⟨b, off + i * 2, none⟩) hbb).trans c0
        have d1 := (hb.cell (p := ⟨b, off + i * 2 + 1, none⟩) hbb).trans c1
        have HG : Hid ((ends G)[i]'(by rw [ends_len]; exact hin) = G[i].t) := ends_get G i hin
        have HX : Hid (¬ G[i].t < x) := by
          show ¬ _
          rw [← HG.out]
          have := H2.out i (by rw [ends_len]; exact hin) (Nat.le_refl _)
          omega
        have HB : Hid (foundB (ends G) x = (cmpI G[i].t x == 0)) := by
          show _ = _
          unfold foundB
          rw [HF.out, List.getElem?_eq_getElem (by rw [ends_len]; exact hin), HG.out]
          exact found_cmp HX.out
        generalize G[i] = y at d0 d1 HG HX HB
        have hF := fun w => findE1_any y.t y.w x w
        clear c0 c1 hc
        generalize cmpI y.t x = c at hF HB
        go_wp2_with (go_at_call 261; refine (hF _).mono ?_; rintro r w1 ⟨rfl, hb1⟩)
        go_ret2
        exact ⟨by rw [HF.out, HB.out]; rfl, hb.trans (hb1.mono hb.size)⟩
      · have HB : Hid (foundB (ends G) x = false) := by
          show _ = _
          unfold foundB
          rw [HF.out, List.getElem?_eq_none (by rw [ends_len]; omega)]; rfl
        go_wp2
        go_ret2
        exact ⟨by rw [HF.out, HB.out]; rfl, hb⟩
theorem findedge_any {w : World} {P : Nat → Prop} {ao : Option Addr} {G : List Ed} (cap : Nat) (x : Int) (h : EdAt w P ao G) (hl : G.length ≤ 1073741824) (hr : Rise (ends G)) :
    Calls Tryz.prog 225 #[.slice ao G.length cap, .int .i64 x] w fun r w' => r = .returned (.tuple #[.int .i64 (findN (ends G) x), .bool (foundB (ends G) x)]) ∧ Below w.heap.size w w' := by
  have hB := bsearchE_any (w := w) cap x h hl hr
  clear h hr
  go_enter Tryz.func225, Tryz.ntmps225
  go_wp2_with (go_at_call 260; refine hB.mono ?_; rintro r w1 ⟨rfl, hb1⟩)
  go_ret2
  exact ⟨rfl, hb1⟩
end Go.Proofs.YtnhijofnhflklaaGreat
end

section
/- An edge goes, an edge comes: in a vertex that lies in a row. -/
namespace Go.Proofs.YtnhijofnhflklaaGreat
open Go.RowKit
theorem found_lt {l : List Int} {x : Int} (h : foundB l x = true) : findN l x < l.length := by
  unfold foundB at h
  rw [beq_iff_eq] at h
  exact (List.getElem?_eq_some_iff.1 h).1
theorem delE_at {w : World} {base : Nat} {v : Value} {n : Nat} {xs : List Value} (h : w.ownsRow base 106 2 v n xs) (h1 : ∀ u ∈ xs, u.oneCell' = true) (i : Nat) (hi : i < n) {pi : Int} (hpi : pi = i) :
    Calls Tryz.prog 226 #[v, .int .i64 pi, .int .i64 (pi + 1)] w fun e w' => ∃ v', e = .returned v' ∧ v'.ownBlock = v.ownBlock ∧ w'.ownsRow base 106 2 v' (n - 1) (xs.take (i * 2) ++ xs.drop ((i + 1) * 2)) ∧ Fr w w' (fun k => v.ownBlock = some k) := by subst hpi; exact delE_any h h1 i (i + 1) rfl hi
theorem delV_at {w : World} {base : Nat} {v : Value} {n : Nat} {xs : List Value} (h : w.ownsRow base 82 3 v n xs) (h1 : ∀ u ∈ xs, u.oneCell' = true) (i : Nat) (hi : i < n) {pi : Int} (hpi : pi = i) :
    Calls Tryz.prog 184 #[v, .int .i64 pi, .int .i64 (pi + 1)] w fun e w' => ∃ v', e = .returned v' ∧ v'.ownBlock = v.ownBlock ∧ w'.ownsRow base 82 3 v' (n - 1) (xs.take (i * 3) ++ xs.drop ((i + 1) * 3)) ∧ Fr w w' (fun k => v.ownBlock = some k) := by subst hpi; exact delV_any h h1 i (i + 1) rfl hi
/-- A cell of another block. -/
theorem cell_fr {w w' : World} {S : Nat → Prop} (f : Fr w w' S) {b o : Nat} {u : Value} (hn : ¬ S b) (h : w.cell? ⟨b, o, none⟩ = some u) (hz : w.frozen? ⟨b, o, none⟩ = false) : w'.cell? ⟨b, o, none⟩ = some u ∧ w'.frozen? ⟨b, o, none⟩ = false :=
  ⟨fr_cell f hn h, (World.frozen?_of_block (a := ⟨b, o, none⟩) (f.block b (lt_cell h) hn)).trans hz⟩
theorem remedge_no {w : World} {base rb q : Nat} {ev : Value} {es : List Ed} {t : Int} (hc : w.cell? ⟨rb, q + 2, none⟩ = some ev) (ho : w.ownsRow base 106 2 ev es.length (ecs es)) (hl : es.length ≤ 1073741824) (hr : Rise (ends es)) (hf : foundB (ends es) t = false) :
    Calls Tryz.prog 183 #[.pointer (some ⟨rb, q, none⟩), .int .i64 t] w fun e w' => e = .returned (.bool false) ∧ Below w.heap.size w w' := by
  obtain ⟨eo, m, ec, rfl⟩ := own_any ho
  obtain ⟨rfl, hE⟩ := own_eds ho
  have HF := findedge_any (w := w) ec t hE hl hr
  rw [hf] at HF
  generalize findN (ends es) t = p at HF
  clear ho hr hf hE
  go_enter Tryz.func183, Tryz.ntmps183
  go_wp2_with (go_at_call 225; refine HF.mono ?_; rintro e w1 ⟨rfl, hb⟩)
  go_ret
  exact ⟨rfl, hb⟩
set_option maxRecDepth 100000 in
set_option maxHeartbeats 1000000 in
theorem remedge_yes {w : World} {base rb q : Nat} {ev : Value} {es : List Ed} {t : Int} (hc : w.cell? ⟨rb, q + 2, none⟩ = some ev) (hz : w.frozen? ⟨rb, q + 2, none⟩ = false) (ho : w.ownsRow base 106 2 ev es.length (ecs es)) (hne : ev.ownBlock ≠ some rb) (hl : es.length ≤ 1073741824) (hr : Rise (ends es)) (hf : foundB (ends es) t = true) :
    Calls Tryz.prog 183 #[.pointer (some ⟨rb, q, none⟩), .int .i64 t] w fun e w' => ∃ ev' W, e = .returned (.bool true) ∧ w' = W.setCell ⟨rb, q + 2, none⟩ ev' ∧ ev'.ownBlock = ev.ownBlock ∧ Fr w W (fun k => ev.ownBlock = some k) ∧
      W.ownsRow base 106 2 ev' (es.take (findN (ends es) t) ++ es.drop (findN (ends es) t + 1)).length (ecs (es.take (findN (ends es) t) ++ es.drop (findN (ends es) t + 1))) := by
  have hp := found_lt hf
  rw [ends_len] at hp
  obtain ⟨eo, m, ec, rfl⟩ := own_any ho
  obtain ⟨rfl, hE⟩ := own_eds ho
  have HF := findedge_any (w := w) ec t hE hl hr
  rw [hf] at HF
  generalize findN (ends es) t = p at HF hp ⊢
  have hlen : (es.take p ++ es.drop (p + 1)).length = es.length - 1 := by simp; omega
  have hcs : ecs (es.take p ++ es.drop (p + 1)) = (ecs es).take (p * 2) ++ (ecs es).drop ((p + 1) * 2) := by rw [ecs_app, ecs_take, ecs_drop]
  rw [hlen, hcs]
  have HOw : Hid _ := ho
  have HC : Hid _ := hc
  have HZ : Hid _ := hz
  have HN : Hid _ := hne
  obtain ⟨pi, hpi⟩ : ∃ pi : Int, pi = p := ⟨_, rfl⟩
  rw [← hpi] at HF
  have hp1 : 0 ≤ pi := by omega
  have hp2 : pi ≤ 1073741824 := by omega
  have HPi : Hid (pi = p) := hpi
  have HP : Hid (p < es.length) := hp
  clear hp hpi
  clear ho hr hf hE hlen hcs hz hne
  go_enter Tryz.func183, Tryz.ntmps183
  go_wp2_with (first
    | (go_at_call 225; refine HF.mono ?_; rintro e w1 ⟨rfl, hb⟩; have h1 := cell_fr (Fr.ofBelow hb (fun _ => False)) (fun h => h) HC.out HZ.out; have c1 := h1.1; have HB : Hid _ := hb)
    | (go_at_call 226; refine (delE_at (own_new HOw.out HB.out) (ecs_one es) p HP.out HPi.out).mono ?_; rintro e w2 ⟨v', rfl, hv', ho', hf'⟩; obtain ⟨ao', m', c', rfl⟩ := own_any ho'; have h2 := cell_fr hf' (fun e => HN.out e) h1.1 h1.2; have c2 := h2.1; have z2 := h2.2; have HO : Hid _ := ho'; have HFr : Hid _ := hf'; have HV : Hid _ := hv'; clear ho' hf' hv'))
  go_ret
  exact ⟨_, _, rfl, rfl, HV.out, (Fr.ofBelow HB.out _).trans HFr.out (fun _ _ h => h), HO.out⟩
theorem insE_new {w : World} {base : Nat} {v : Value} {n : Nat} {xs : List Value} (t x : Int) (h : w.ownsRow base 106 2 v n xs) (h1 : ∀ u ∈ xs, u.oneCell' = true) (i : Nat) (hi : i ≤ n) (hbase : base ≤ w.heap.size) (hbig : n ≤ 1073741824) :
    Calls Tryz.prog 229 #[v, .int .i64 i, .slice (some ⟨w.heap.size, 0, none⟩) 1 1] (w.alloc (.cells #[.int .i64 t, .int .i64 x] 106)).drew fun e w' =>
      ∃ v', e = .returned v' ∧ (v'.ownBlock = v.ownBlock ∨ ∀ k, v'.ownBlock = some k → w.heap.size ≤ k) ∧ w'.ownsRow base 106 2 v' (n + 1) (xs.take (i * 2) ++ [.int .i64 t, .int .i64 x] ++ xs.drop (i * 2)) ∧ Fr w w' (fun k => v.ownBlock = some k) := by
  have ho := own_new h (one_new w (.cells #[.int .i64 t, .int .i64 x] 106))
  refine (insE_any (w := (w.alloc (.cells #[.int .i64 t, .int .i64 x] 106)).drew) (vb := w.heap.size) (ys := [.int .i64 t, .int .i64 x]) ho h1 i hi (by show base ≤ (w.alloc _).heap.size; rw [World.size_alloc]; omega) (by omega) (heap_alloc_new w _) rfl (by intro u hu; simp at hu; rcases hu with rfl | rfl <;> rfl) (fun e => by have := (h.lt _ e).2; omega)).mono ?_
  rintro e w' ⟨v', rfl, hv, ho', hf⟩
  refine ⟨v', rfl, hv.imp id (fun e k hk => ?_), ho', (((Fr.alloc w (.cells #[.int .i64 t, .int .i64 x] 106) (fun _ => False)).trans (Fr.drew _ (fun _ => False)) (fun _ _ h => h)).mono (fun _ _ h => h.elim)).trans hf (fun _ _ h => h)⟩
  rw [e] at hk
  have := Option.some.inj hk
  have e2 : (w.alloc (.cells #[.int .i64 t, .int .i64 x] 106)).drew.heap.size = w.heap.size + 1 := World.size_alloc _ _
  omega
theorem two_kept {W w1 : World} (hb : Below W.drew.heap.size W.drew w1) {a b c d : Nat} {u v : Value} (h : W.cell? ⟨a, b, none⟩ = some u ∧ W.cell? ⟨c, d, none⟩ = some v) : w1.cell? ⟨a, b, none⟩ = some u ∧ w1.cell? ⟨c, d, none⟩ = some v :=
  ⟨(hb.cell (p := ⟨a, b, none⟩) (lt_cell h.1)).trans h.1, (hb.cell (p := ⟨c, d, none⟩) (lt_cell h.2)).trans h.2⟩
/-- An edge comes: it is there already. -/
theorem addedge_no {w : World} {base rb q : Nat} {ev : Value} {es : List Ed} {t x : Int} (hc : w.cell? ⟨rb, q + 2, none⟩ = some ev) (ho : w.ownsRow base 106 2 ev es.length (ecs es)) (hl : es.length ≤ 1073741824) (hr : Rise (ends es)) (hf : foundB (ends es) t = true) :
    Calls Tryz.prog 186 #[.pointer (some ⟨rb, q, none⟩), .agg #[.int .i64 t, .int .i64 x]] w fun e w' => e = .returned (.bool false) ∧ Below w.heap.size w w' := by
  obtain ⟨eo, m, ec, rfl⟩ := own_any ho
  obtain ⟨rfl, hE⟩ := own_eds ho
  obtain ⟨W0, hW0⟩ : ∃ W0, w.alloc (.cells #[.int .i64 t, .int .i64 x] 106) = W0 := ⟨_, rfl⟩
  have hb0 : Below w.heap.size w W0 := by rw [← hW0]; exact one_new _ _
  have hq0 : W0.heap[w.heap.size]? = some (.cells #[.int .i64 t, .int .i64 x] 106 (0, 0)) := by rw [← hW0]; exact heap_alloc_new _ _
  have hc0 := (hb0.cell (p := ⟨rb, q + 2, none⟩) (lt_cell hc)).trans hc
  have HF := fun W (hb : Below W0.heap.size W0 W) => findedge_any (w := W) ec t ((hE.new hb0).new hb) hl hr
  rw [hf] at HF
  generalize findN (ends es) t = p at HF
  obtain ⟨k0, k1⟩ : W0.cell? ⟨w.heap.size, 0, none⟩ = some (.int .i64 t) ∧ W0.cell? ⟨w.heap.size, 1, none⟩ = some (.int .i64 x) := by constructor <;> simp [World.cell?, hq0]
  have x0 : W0.cell? ⟨rb, q + 2, none⟩ = some (.slice eo es.length ec) ∧ W0.cell? ⟨w.heap.size, 0, none⟩ = some (.int .i64 t) := ⟨hc0, k0⟩
  clear ho hr hf hE hc
  go_enter Tryz.func186, Tryz.ntmps186
  go_upto_region 1 with (fail)
  go_region_held (fun w' => w'.cell? ⟨rb, q + 2, none⟩ = some (.slice eo es.length ec) ∧ w'.cell? ⟨w.heap.size, 0, none⟩ = some (.int .i64 t)) (first | exact x1 | exact x0)
    (first | (go_at_call 225; refine (HF _ ((Below.refl _ _).drew)).mono ?_; rintro e w1 ⟨rfl, hb⟩; have x1 := two_kept hb x0))
  go_wp2
  go_ret
  exact ⟨rfl, hb0.trans (((Below.refl _ _).drew).trans hb |>.mono hb0.size)⟩
/-- An edge comes: it is not there. -/
theorem addedge_yes {w : World} {base rb q : Nat} {ev : Value} {es : List Ed} {t x : Int} (hc : w.cell? ⟨rb, q + 2, none⟩ = some ev) (ho : w.ownsRow base 106 2 ev es.length (ecs es)) (hl : es.length ≤ 1073741824) (hr : Rise (ends es)) (hf : foundB (ends es) t = false) (hz : w.frozen? ⟨rb, q + 2, none⟩ = false) (hne : ev.ownBlock ≠ some rb) (hbase : base ≤ w.heap.size) :
    Calls Tryz.prog 186 #[.pointer (some ⟨rb, q, none⟩), .agg #[.int .i64 t, .int .i64 x]] w fun e w' => ∃ ev' W, e = .returned (.bool true) ∧ w' = W.setCell ⟨rb, q + 2, none⟩ ev' ∧ (ev'.ownBlock = ev.ownBlock ∨ ∀ k, ev'.ownBlock = some k → w.heap.size ≤ k) ∧ Fr w W (fun k => ev.ownBlock = some k) ∧
      W.ownsRow base 106 2 ev' (es.take (findN (ends es) t) ++ ⟨t, x⟩ :: es.drop (findN (ends es) t)).length (ecs (es.take (findN (ends es) t) ++ ⟨t, x⟩ :: es.drop (findN (ends es) t))) := by
  have hp := findN_le (ends es) t
  rw [ends_len] at hp
  obtain ⟨eo, m, ec, rfl⟩ := own_any ho
  obtain ⟨rfl, hE⟩ := own_eds ho
  obtain ⟨W0, hW0⟩ : ∃ W0, w.alloc (.cells #[.int .i64 t, .int .i64 x] 106) = W0 := ⟨_, rfl⟩
  have hb0 : Below w.heap.size w W0 := by rw [← hW0]; exact one_new _ _
  have hq0 : W0.heap[w.heap.size]? = some (.cells #[.int .i64 t, .int .i64 x] 106 (0, 0)) := by rw [← hW0]; exact heap_alloc_new _ _
  have hc0 := (hb0.cell (p := ⟨rb, q + 2, none⟩) (lt_cell hc)).trans hc
  have HF := fun W (hb : Below W0.heap.size W0 W) => findedge_any (w := W) ec t ((hE.new hb0).new hb) hl hr
  rw [hf] at HF
  generalize findN (ends es) t = p at HF hp ⊢
  have hlen : (es.take p ++ (⟨t, x⟩ : Ed) :: es.drop p).length = es.length + 1 := by simp; omega
  have hcs : ecs (es.take p ++ (⟨t, x⟩ : Ed) :: es.drop p) = (ecs es).take (p * 2) ++ [.int .i64 t, .int .i64 x] ++ (ecs es).drop (p * 2) := by rw [ecs_take, ecs_drop, ecs_app]; simp [ecs]
  rw [hlen, hcs]
  have HO : Hid _ := own_new ho hb0
  have HC : Hid _ := cell_fr (Fr.ofBelow hb0 (fun _ => False)) (fun h => h) hc hz
  have HN : Hid _ := hne
  have HL : Hid (base ≤ w.heap.size) := hbase
  have HS : Hid (W0.heap.size = w.heap.size + 1) := by show _ = _; rw [← hW0, World.size_alloc]
  have HQ : Hid _ := hq0
  have HLt : Hid (∀ k, (Value.slice eo es.length ec).ownBlock = some k → k < w.heap.size) := fun k hk => (ho.lt k hk).2
  obtain ⟨k0, k1⟩ : W0.cell? ⟨w.heap.size, 0, none⟩ = some (.int .i64 t) ∧ W0.cell? ⟨w.heap.size, 1, none⟩ = some (.int .i64 x) := by constructor <;> simp [World.cell?, hq0]
  have x0 : W0.cell? ⟨rb, q + 2, none⟩ = some (.slice eo es.length ec) ∧ W0.cell? ⟨w.heap.size, 0, none⟩ = some (.int .i64 t) := ⟨hc0, k0⟩
  clear ho hr hf hE hc hz hne hbase hlen hcs hq0
  go_enter Tryz.func186, Tryz.ntmps186
  go_upto_region 1 with (fail)
  go_region_held (fun w' => w'.cell? ⟨rb, q + 2, none⟩ = some (.slice eo es.length ec) ∧ w'.cell? ⟨w.heap.size, 0, none⟩ = some (.int .i64 t)) (first | exact x1 | exact x0)
    (first | (go_at_call 225; refine (HF _ ((Below.refl _ _).drew)).mono ?_; rintro e w1 ⟨rfl, hb⟩; have x1 := two_kept hb x0))
  have HB : Hid (Below w.heap.size w w1) := hb0.trans (((Below.refl _ _).drew).trans hb |>.mono hb0.size)
  have hs1 : w.heap.size + 1 ≤ w1.heap.size := by have := hb.size; have e := HS.out; have e2 : W0.drew.heap.size = W0.heap.size := rfl; omega
  have hq1 : w1.heap[w.heap.size]? = some (.cells #[.int .i64 t, .int .i64 x] 106 (0, 0)) := (hb.block _ (by have e := HS.out; have e2 : W0.drew.heap.size = W0.heap.size := rfl; omega)).trans HQ.out
  have hc1 := cell_fr (Fr.ofBelow hb (fun _ => False)) (fun h => h) HC.out.1 HC.out.2
  have c1 := hc1.1
  obtain ⟨d0, d1⟩ : w1.cell? ⟨w.heap.size, 0, none⟩ = some (.int .i64 t) ∧ w1.cell? ⟨w.heap.size, 1, none⟩ = some (.int .i64 x) := by constructor <;> simp [World.cell?, hq1]
  have ho1 := own_new (w := W0.drew) HO.out hb
  clear hq1 hb x0 x1 k0 k1 hc0 HF hb0 hW0
  have HO1 : Hid _ := ho1
  have HC1 : Hid _ := hc1
  have hz1 := hc1.2
  have hrb1 := lt_cell c1
  have hrb2 := lt_cell d0
  have HS1 : Hid (w.heap.size + 1 ≤ w1.heap.size) := hs1
  clear ho1 hc1
  go_upto_region 3 with (fail)
  go_region_law (first | (go_simp; go_at_call 229; refine (insE_new t x HO1.out (ecs_one es) p hp (by have := HL.out; have := HS1.out; omega) hl).mono ?_; rintro e w2 ⟨v', rfl, hv', ho', hf'⟩; obtain ⟨ao', m', c', rfl⟩ := own_any ho'; have h2 := cell_fr hf' (fun e => HN.out e) HC1.out.1 HC1.out.2; have c2 := h2.1; have z2 := h2.2; have HO2 : Hid _ := ho'; have HFr : Hid _ := hf'; have HV : Hid _ := hv'; clear ho' hf' hv'))
  all_goals
    go_wp2
    go_ret
    exact ⟨_, _, rfl, rfl, HV.out.imp id (fun h k hk => by have := h k hk; have := HS1.out; omega), (Fr.ofBelow HB.out _).trans HFr.out (fun _ _ h => h), HO2.out⟩
end Go.Proofs.YtnhijofnhflklaaGreat
end
