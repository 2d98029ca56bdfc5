import Derived.Test.YthkfbaoeimjgaaaGreatGrTakeMx
/- What Take takes off a reader, and what Decode returns. -/
namespace Go.Proofs.YthkfbaoeimjgaaaGreat
open Go.RowKit
/-- Vertices, as cells, with where their edges lie. -/
def vcs : List Vx → List (Option Addr × Nat) → List Value
  | v :: G, m :: M => .int .i64 v.id :: .int .i64 v.val :: .slice m.1 v.es.length m.2 :: vcs G M
  | _, _ => []
theorem vcs_snoc : ∀ (G : List Vx) (M : List (Option Addr × Nat)) (v : Vx) (m : Option Addr × Nat), G.length = M.length → vcs (G ++ [v]) (M ++ [m]) = vcs G M ++ [.int .i64 v.id, .int .i64 v.val, .slice m.1 v.es.length m.2]
  | [], [], v, m, _ => rfl
  | [], _ :: _, _, _, h => by simp at h
  | _ :: _, [], _, _, h => by simp at h
  | g :: G, k :: M, v, m, h => by
    have := vcs_snoc G M v m (by simpa using h)
    simp only [List.cons_append, vcs, this]
theorem vcs_at : ∀ (G : List Vx) (M : List (Option Addr × Nat)) (j : Nat) (h : j < G.length) (h' : j < M.length), (vcs G M)[j * 3]? = some (.int .i64 G[j].id) ∧ (vcs G M)[j * 3 + 1]? = some (.int .i64 G[j].val) ∧ (vcs G M)[j * 3 + 2]? = some (.slice M[j].1 G[j].es.length M[j].2)
  | [], _, j, h, _ => absurd h (by simp)
  | _ :: _, [], j, _, h => absurd h (by simp)
  | v :: G, m :: M, 0, _, _ => ⟨rfl, rfl, rfl⟩
  | v :: G, m :: M, j + 1, h, h' => by
    have := vcs_at G M j (by simpa using h) (by simpa using h')
    rw [show (j + 1) * 3 = j * 3 + 1 + 1 + 1 by omega]
    exact this
/-- A row of vertices of the call's own; their edges lie elsewhere. -/
structure VRow (w : World) (base : Nat) (t : TypeId) (sv : Value) (G : List Vx) : Prop where
  row : ∃ M : List (Option Addr × Nat), G.length = M.length ∧ w.ownsRow base t 3 sv G.length (vcs G M) ∧ ∀ j (h : j < G.length) (h' : j < M.length), EdAt w (fun k => base ≤ k ∧ sv.ownBlock ≠ some k) M[j].1 G[j].es
theorem VRow.nil (w : World) (base : Nat) (t : TypeId) : VRow w base t (.slice none 0 0) [] := ⟨[], rfl, World.ownsRow_nil _ _ _ _, fun j h => absurd h (by simp)⟩
section
variable {w : World} {base : Nat} {t : TypeId} {sv : Value} {G : List Vx}
theorem VRow.any (h : VRow w base t sv G) : ∃ ao m c, sv = .slice ao m c := by
  obtain ⟨M, _, ho, _⟩ := h.row
  exact own_any ho
theorem VRow.lt (h : VRow w base t sv G) : ∀ k, sv.ownBlock = some k → base ≤ k ∧ k < w.heap.size := by
  obtain ⟨M, _, ho, _⟩ := h.row
  exact ho.lt
theorem VRow.kept (h : VRow w base t sv G) {w' : World} {S : Nat → Prop} (f : Fr w w' S) (hS : ∀ k, base ≤ k → ¬ S k) : VRow w' base t sv G := by
  obtain ⟨M, hl, ho, he⟩ := h.row
  exact ⟨M, hl, own_kept ho f (fun k hk => hS k (ho.lt k hk).1), fun j h h' => (he j h h').kept f (fun k _ hk => ⟨hS k hk.1, hk⟩)⟩
theorem VRow.at_ {ao : Option Addr} {m c : Nat} (h : VRow w base t (.slice ao m c) G) : m = G.length ∧ VxAt w (fun k => base ≤ k) ao G := by
  obtain ⟨M, hl, ho, he⟩ := h.row
  rcases ho.2 with ⟨h1, h2⟩ | ⟨g, cap, cur, h1, hb, hg, hn, hc, hcs, ht⟩
  · cases h1
    exact ⟨h2.symm, fun hl => by omega⟩
  · cases h1
    refine ⟨rfl, fun hl' => ⟨g, 0, rfl, hb, fun j hj => ?_⟩⟩
    have hcell : ∀ i (u : Value), (vcs G M)[i]? = some u → w.cell? ⟨g, i, none⟩ = some u := fun i u hu => by
      have := ho.cells (g := g) rfl i u hu
      have hadd : (⟨g, 0, none⟩ : Addr).add i = ⟨g, i, none⟩ := by unfold Addr.add; split <;> simp_all
      rw [hadd] at this
      exact this
    have := vcs_at G M j hj (by omega)
    rw [Nat.zero_add]
    exact ⟨_, _, hcell _ _ this.1, hcell _ _ this.2.1, hcell _ _ this.2.2, (he j hj (by omega)).mono (fun k _ hk => hk.1)⟩
/-- Behind the append of one vertex. -/
theorem VRow.app (h : VRow w base t sv G) {v : Vx} {eo : Option Addr} {ec : Nat} (hE : EdAt w (fun k => base ≤ k ∧ sv.ownBlock ≠ some k) eo v.es) : ∃ M, w.ownsRow base t 3 sv G.length (vcs G M) ∧
    ∀ (w1 : World) (sv' : Value), w1.ownsRow base t 3 sv' (G.length + 1) (vcs G M ++ [.int .i64 v.id, .int .i64 v.val, .slice eo v.es.length ec]) → w.grownBy w1 sv.ownBlock → (sv'.ownBlock = sv.ownBlock ∨ sv'.ownBlock = some w.heap.size) → VRow w1 base t sv' (G ++ [v]) := by
  obtain ⟨M, hl, ho, he⟩ := h.row
  refine ⟨M, ho, fun w1 sv' ho' hg hat => ⟨M ++ [(eo, ec)], by simp [hl], by rw [vcs_snoc G M v (eo, ec) hl, List.length_append]; exact ho', fun j h1 h2 => ?_⟩⟩
  have f : Fr w w1 (fun k => sv.ownBlock = some k) := Fr.grown hg (fun k hk => hk)
  have hS : ∀ k, k < w.heap.size → base ≤ k ∧ sv.ownBlock ≠ some k → ¬ sv.ownBlock = some k ∧ (base ≤ k ∧ sv'.ownBlock ≠ some k) := fun k hk hp => ⟨hp.2, hp.1, fun e => by
    rcases hat with e' | e'
    · rw [e'] at e; exact hp.2 e
    · rw [e'] at e; cases e; omega⟩
  by_cases hj : j < G.length
  · have := (he j hj (by omega)).kept f hS
    rw [List.getElem_append_left (by omega), List.getElem_append_left hj]
    exact this
  · obtain rfl : j = G.length := by simp at h1; omega
    have := hE.kept f hS
    rw [List.getElem_append_right (by omega), List.getElem_append_right (by omega)]
    simpa [hl] using this
end
theorem infoVx : (Tryz.prog.info? 114).map (fun i => (i.zero, i.size, i.bytes)) = some (some (.agg #[.int .i64 0, .int .i64 0, .slice none 0 0]), 3, 40) := by kernel_rfl
theorem three_new {W : World} {b : Nat} {t : TypeId} {x y z : Value} (h : W.heap[b]? = some (.cells #[x, y, z] t (0, 0))) : ∀ (j : Nat) (u : Value), [x, y, z][j]? = some u → W.cell? ((⟨b, 0, none⟩ : Addr).add j) = some u := by
  intro j u hu
  have hadd : (⟨b, 0, none⟩ : Addr).add j = ⟨b, j, none⟩ := by unfold Addr.add; split <;> simp_all
  rw [hadd]
  simp [World.cell?, h]
  simpa using hu
end Go.Proofs.YthkfbaoeimjgaaaGreat
