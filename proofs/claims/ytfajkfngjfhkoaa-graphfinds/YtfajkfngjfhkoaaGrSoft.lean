/- Rows of vertices whose blocks can be written; what a store into them leaves. -/
import Derived.Test.YtfajkfngjfhkoaaGrClone
namespace Go.Proofs.Ytfajkfngjfhkoaa
open Go.RowKit
/-- A row of vertices of the call's own; their edges lie elsewhere, in blocks that can be written. -/
structure VR (w : World) (base : Nat) (t : TypeId) (sv : Value) (G : List Vx) : Prop where
  row : ∃ M : List (Option Addr × Nat), G.length = M.length ∧ w.ownsRow base t 3 sv G.length (vcs G M) ∧ ∀ j (h : j < G.length) (h' : j < M.length), EdAt w (fun k => base ≤ k ∧ sv.ownBlock ≠ some k ∧ Soft w k) M[j].1 G[j].es
theorem VR.nil (w : World) (base : Nat) (t : TypeId) : VR w base t (.slice none 0 0) [] := ⟨[], rfl, World.ownsRow_nil _ _ _ _, fun j h => absurd h (by simp)⟩
section
variable {w : World} {base : Nat} {t : TypeId} {sv : Value} {G : List Vx}
theorem VR.lt (h : VR w base t sv G) : ∀ k, sv.ownBlock = some k → base ≤ k ∧ k < w.heap.size := by
  obtain ⟨M, _, ho, _⟩ := h.row
  exact ho.lt
theorem VR.new {w' : World} (h : VR w base t sv G) (hb : Below w.heap.size w w') : VR w' base t sv G := by
  obtain ⟨M, hl, ho, he⟩ := h.row
  refine ⟨M, hl, own_new ho hb, fun j h h' => ?_⟩
  have f : Fr w w' (fun k => w.heap.size ≤ k) := ⟨hb.os, hb.tape, hb.output, hb.size, fun k _ hn => hb.block k (by omega)⟩
  exact (he j h h').kept f (fun k hk hp => ⟨by omega, hp.1, hp.2.1, hp.2.2.new hb⟩)
theorem VR.app (h : VR w base t sv G) {v : Vx} {eo : Option Addr} {ec : Nat} (hE : EdAt w (fun k => base ≤ k ∧ sv.ownBlock ≠ some k ∧ Soft w k) eo v.es) : ∃ M, w.ownsRow base t 3 sv G.length (vcs G M) ∧
    ∀ (w1 : World) (sv' : Value), w1.ownsRow base t 3 sv' (G.length + 1) (vcs G M ++ [.int .i64 v.id, .int .i64 v.val, .slice eo v.es.length ec]) → w.grownBy w1 sv.ownBlock → (sv'.ownBlock = sv.ownBlock ∨ sv'.ownBlock = some w.heap.size) → VR w1 base t sv' (G ++ [v]) := by
  obtain ⟨M, hl, ho, he⟩ := h.row
  refine ⟨M, ho, fun w1 sv' ho' hg hat => ⟨M ++ [(eo, ec)], by simp [hl], by rw [vcs_snoc G M v (eo, ec) hl, List.length_append]; exact ho', fun j h1 h2 => ?_⟩⟩
  have f : Fr w w1 (fun k => sv.ownBlock = some k) := Fr.grown hg (fun k hk => hk)
  have hS : ∀ k, k < w.heap.size → base ≤ k ∧ sv.ownBlock ≠ some k ∧ Soft w k → ¬ sv.ownBlock = some k ∧ (base ≤ k ∧ sv'.ownBlock ≠ some k ∧ Soft w1 k) := fun k hk hp => ⟨hp.2.1, hp.1, fun e => by
    rcases hat with e' | e'
    · rw [e'] at e; exact hp.2.1 e
    · rw [e'] at e; cases e; omega, hp.2.2.keep f hp.2.1⟩
  by_cases hj : j < G.length
  · have := (he j hj (by omega)).kept f hS
    rw [List.getElem_append_left (by omega), List.getElem_append_left hj]
    exact this
  · obtain rfl : j = G.length := by simp at h1; omega
    have := hE.kept f hS
    rw [List.getElem_append_right (by omega), List.getElem_append_right (by omega)]
    simpa [hl] using this
end
/-- A copy that can be written: its row's block, and the edges' elsewhere. -/
structure CW (w : World) (B N rb : Nat) (G : List Vx) : Prop where
  soft : Soft w rb
  low : B ≤ rb
  up : rb < N
  vx : ∀ j (h : j < G.length), ∃ eo ec, w.cell? ⟨rb, j * 3, none⟩ = some (.int .i64 G[j].id) ∧ w.cell? ⟨rb, j * 3 + 1, none⟩ = some (.int .i64 G[j].val) ∧ w.cell? ⟨rb, j * 3 + 2, none⟩ = some (.slice eo G[j].es.length ec) ∧ EdAt w (fun k => B ≤ k ∧ k ≠ rb ∧ Soft w k ∧ k < N) eo G[j].es
theorem VR.cw {w : World} {base : Nat} {t : TypeId} {ao : Option Addr} {m c : Nat} {G : List Vx} (h : VR w base t (.slice ao m c) G) (hG : 0 < G.length) : ∃ rb, ao = some ⟨rb, 0, none⟩ ∧ m = G.length ∧ CW w base w.heap.size rb G := by
  obtain ⟨M, hl, ho, he⟩ := h.row
  rcases ho.2 with ⟨h1, h2⟩ | ⟨g, cap, cur, h1, hb, hg, hn, hc, hcs, ht⟩
  · omega
  · cases h1
    refine ⟨g, rfl, rfl, ⟨⟨cur, t, hg⟩, hb, lt_of_block hg, fun j hj => ?_⟩⟩
    have hcell : ∀ i (u : Value), (vcs G M)[i]? = some u → w.cell? ⟨g, i, none⟩ = some u := fun i u hu => by
      have := ho.cells (g := g) rfl i u hu
      have hadd : (⟨g, 0, none⟩ : Addr).add i = ⟨g, i, none⟩ := by unfold Addr.add; split <;> simp_all
      rw [hadd] at this
      exact this
    have := vcs_at G M j hj (by omega)
    exact ⟨_, _, hcell _ _ this.1, hcell _ _ this.2.1, hcell _ _ this.2.2, (he j hj (by omega)).mono (fun k hkk hk => ⟨hk.1, fun e => hk.2.1 (by rw [e]; rfl), hk.2.2, hkk⟩)⟩
theorem CW.at_ {w : World} {B N rb : Nat} {G : List Vx} (h : CW w B N rb G) : VxAt w (fun k => B ≤ k) (some ⟨rb, 0, none⟩) G := by
  intro _
  refine ⟨rb, 0, rfl, h.low, fun j hj => ?_⟩
  obtain ⟨eo, ec, e0, e1, e2, e3⟩ := h.vx j hj
  rw [Nat.zero_add]
  exact ⟨eo, ec, e0, e1, e2, e3.mono (fun k _ hk => hk.1)⟩
theorem CW.new {w w' : World} {B N rb : Nat} {G : List Vx} (h : CW w B N rb G) (hb : Below w.heap.size w w') : CW w' B N rb G := by
  have f : Fr w w' (fun k => w.heap.size ≤ k) := ⟨hb.os, hb.tape, hb.output, hb.size, fun k _ hn => hb.block k (by omega)⟩
  refine ⟨h.soft.new hb, h.low, h.up, fun j hj => ?_⟩
  obtain ⟨eo, ec, e0, e1, e2, e3⟩ := h.vx j hj
  have hr := lt_cell e0
  exact ⟨eo, ec, fr_cell f (by omega) e0, fr_cell f (by omega) e1, fr_cell f (by omega) e2, e3.kept f (fun k hk hp => ⟨by omega, hp.1, hp.2.1, hp.2.2.1.new hb, hp.2.2.2⟩)⟩
theorem set_cell {w : World} {b o o' : Nat} {u x : Value} (h : w.cell? ⟨b, o', none⟩ = some u) (hn : o' ≠ o) : (w.setCell ⟨b, o, none⟩ x).cell? ⟨b, o', none⟩ = some u := by
  have hlt := lt_cell h
  have hm : (w.setCell ⟨b, o, none⟩ x).heap = w.heap.modify b (fun ob => match ob with
    | .cells cs t fz => .cells (cs.setIfInBounds o x) t fz
    | ob => ob) := rfl
  simp only [World.cell?] at h ⊢
  rw [hm]
  simp only [Array.getElem?_modify, if_true]
  rw [Array.getElem?_eq_getElem hlt] at h ⊢
  simp only [Option.map_some]
  cases hb : w.heap[b] with
  | cells cs t fz =>
    rw [hb] at h
    simp only at h ⊢
    rw [Array.getElem?_setIfInBounds_ne (by omega)]
    exact h
  | _ => rw [hb] at h; simp at h
theorem pick_lt {α : Type} [Inhabited α] {n : Nat} {p : Nat → α → Prop} (h : ∀ j, j < n → ∃ y, p j y) : ∃ q : Nat → α, ∀ j, j < n → p j (q j) :=
  ⟨fun j => if hj : j < n then (h j hj).choose else default, fun j hj => by simp only [dif_pos hj]; exact (h j hj).choose_spec⟩
/-- The value of one vertex turned. -/
def setV (G : List Vx) (i : Nat) (x : Int) : List Vx := G.modify i (fun v => { v with val := x })
theorem setV_len (G : List Vx) (i : Nat) (x : Int) : (setV G i x).length = G.length := by simp [setV]
theorem setV_at (G : List Vx) (i j : Nat) (x : Int) (h : j < (setV G i x).length) : (setV G i x)[j] = if i = j then { G[j]'(by simpa [setV] using h) with val := x } else G[j]'(by simpa [setV] using h) := by
  simp only [setV, List.getElem_modify]
theorem soft_set {w : World} {b o k : Nat} {x : Value} (h : Soft w k) : Soft (w.setCell ⟨b, o, none⟩ x) k := by
  obtain ⟨cs, t, h⟩ := h
  by_cases e : k = b
  · subst e
    have hlt := lt_of_block h
    have h' : w.heap[k] = .cells cs t (0, 0) := by simpa [Array.getElem?_eq_getElem hlt] using h
    refine ⟨cs.setIfInBounds o x, t, ?_⟩
    show (w.heap.modify k _)[k]? = _
    rw [Array.getElem?_eq_getElem (by simpa using hlt), Array.getElem_modify_self, h']
    rfl
  · exact ⟨cs, t, (Below.heap_setCell w ⟨b, o, none⟩ x k e).trans h⟩
theorem CW.val {w : World} {B N rb : Nat} {G : List Vx} (h : CW w B N rb G) (i : Nat) (x : Int) : CW (w.setCell ⟨rb, i * 3 + 1, none⟩ (.int .i64 x)) B N rb (setV G i x) := by
  refine ⟨soft_set h.soft, h.low, h.up, fun j hj => ?_⟩
  have hj' : j < G.length := by rw [setV_len] at hj; exact hj
  obtain ⟨eo, ec, e0, e1, e2, e3⟩ := h.vx j hj'
  have f : Fr w (w.setCell ⟨rb, i * 3 + 1, none⟩ (.int .i64 x)) (fun k => k = rb) := Fr.setCell (S := fun k => k = rb) w ⟨rb, i * 3 + 1, none⟩ _ rfl
  have hE : EdAt (w.setCell ⟨rb, i * 3 + 1, none⟩ (.int .i64 x)) (fun k => B ≤ k ∧ k ≠ rb ∧ Soft (w.setCell ⟨rb, i * 3 + 1, none⟩ (.int .i64 x)) k ∧ k < N) eo G[j].es := e3.kept f (fun k _ hp => ⟨hp.2.1, hp.1, hp.2.1, soft_set hp.2.2.1, hp.2.2.2⟩)
  rw [setV_at]
  by_cases hij : i = j
  · subst hij
    rw [if_pos rfl]
    exact ⟨eo, ec, set_cell e0 (by omega), World.cell?_setCell_same w _ _ e1, set_cell e2 (by omega), hE⟩
  · rw [if_neg hij]
    exact ⟨eo, ec, set_cell e0 (by omega), set_cell e1 (by omega), set_cell e2 (by omega), hE⟩
/-- An int stored into a cell of edges leaves edges, as many. -/
theorem ed_some {w : World} {P : Nat → Prop} {eo : Option Addr} {L : List Ed} {b o : Nat} {x : Int} (h : EdAt w P eo L) : ∃ L' : List Ed, L'.length = L.length ∧ EdAt (w.setCell ⟨b, o, none⟩ (.int .i64 x)) P eo L' := by
  by_cases hl : 0 < L.length
  · obtain ⟨e, off, rfl, hP, hc⟩ := h hl
    have one : ∀ {q : Nat} {u : Int}, w.cell? ⟨e, q, none⟩ = some (.int .i64 u) → ∃ u', (w.setCell ⟨b, o, none⟩ (.int .i64 x)).cell? ⟨e, q, none⟩ = some (.int .i64 u') := by
      intro q u hu
      by_cases he : (⟨b, o, none⟩ : Addr) = ⟨e, q, none⟩
      · rw [he]
        exact ⟨x, World.cell?_setCell_same w _ _ hu⟩
      · by_cases hb : e = b
        · subst hb
          exact ⟨u, set_cell hu (fun hq => he (by rw [hq]))⟩
        · exact ⟨u, fr_cell (Fr.setCell (S := fun k => k = b) w ⟨b, o, none⟩ _ rfl) hb hu⟩
    have each : ∀ j, j < L.length → ∃ y : Ed, (w.setCell ⟨b, o, none⟩ (.int .i64 x)).cell? ⟨e, off + j * 2, none⟩ = some (.int .i64 y.t) ∧ (w.setCell ⟨b, o, none⟩ (.int .i64 x)).cell? ⟨e, off + j * 2 + 1, none⟩ = some (.int .i64 y.w) := by
      intro j hj
      obtain ⟨u, hu⟩ := one (hc j hj).1
      obtain ⟨v, hv⟩ := one (hc j hj).2
      exact ⟨⟨u, v⟩, hu, hv⟩
    haveI : Inhabited Ed := ⟨⟨0, 0⟩⟩
    obtain ⟨q, hq⟩ := pick_lt each
    refine ⟨(List.range L.length).map q, by simp, fun _ => ⟨e, off, rfl, hP, fun j hj => ?_⟩⟩
    have hj' : j < L.length := by simpa using hj
    simp only [List.getElem_map, List.getElem_range]
    exact hq j hj'
  · exact ⟨[], by simp; omega, fun hp => absurd hp (by simp)⟩
/-- Vertices alike but for what their edges say. -/
def Like (G H : List Vx) : Prop := ∃ h : H.length = G.length, ∀ j (hj : j < H.length), H[j].id = (G[j]'(by omega)).id ∧ H[j].val = (G[j]'(by omega)).val ∧ H[j].es.length = (G[j]'(by omega)).es.length
theorem CW.edge {w : World} {B N rb b o : Nat} {G : List Vx} (h : CW w B N rb G) (hb : b ≠ rb) (x : Int) : ∃ H, Like G H ∧ CW (w.setCell ⟨b, o, none⟩ (.int .i64 x)) B N rb H := by
  have f : Fr w (w.setCell ⟨b, o, none⟩ (.int .i64 x)) (fun k => k = b) := Fr.setCell (S := fun k => k = b) w ⟨b, o, none⟩ _ rfl
  have each : ∀ j, j < G.length → ∃ L : List Ed, (∃ hj : j < G.length, L.length = G[j].es.length) ∧ ∃ eo ec, w.cell? ⟨rb, j * 3, none⟩ = some (.int .i64 (G.getD j ⟨0, 0, []⟩).id) ∧ w.cell? ⟨rb, j * 3 + 1, none⟩ = some (.int .i64 (G.getD j ⟨0, 0, []⟩).val) ∧ w.cell? ⟨rb, j * 3 + 2, none⟩ = some (.slice eo L.length ec) ∧ EdAt (w.setCell ⟨b, o, none⟩ (.int .i64 x)) (fun k => B ≤ k ∧ k ≠ rb ∧ Soft (w.setCell ⟨b, o, none⟩ (.int .i64 x)) k ∧ k < N) eo L := by
    intro j hj
    obtain ⟨eo, ec, e0, e1, e2, e3⟩ := h.vx j hj
    obtain ⟨L, hL, hE⟩ := ed_some (b := b) (o := o) (x := x) e3
    have hg : G.getD j ⟨0, 0, []⟩ = G[j] := by simp [List.getD, hj]
    rw [hg]
    exact ⟨L, ⟨hj, hL⟩, eo, ec, e0, e1, by rw [hL]; exact e2, hE.mono (fun k _ hk => ⟨hk.1, hk.2.1, soft_set hk.2.2.1, hk.2.2.2⟩)⟩
  haveI : Inhabited (List Ed) := ⟨[]⟩
  obtain ⟨q, hq⟩ := pick_lt each
  have hlen : ((List.range G.length).map fun j => ({ id := (G.getD j ⟨0, 0, []⟩).id, val := (G.getD j ⟨0, 0, []⟩).val, es := q j } : Vx)).length = G.length := by simp
  refine ⟨(List.range G.length).map fun j => ⟨(G.getD j ⟨0, 0, []⟩).id, (G.getD j ⟨0, 0, []⟩).val, q j⟩, ⟨hlen, fun j hj => ?_⟩, ⟨soft_set h.soft, h.low, h.up, fun j hj => ?_⟩⟩
  · have hj' : j < G.length := by simpa using hj
    obtain ⟨⟨_, hL⟩, _⟩ := hq j hj'
    simp only [List.getElem_map, List.getElem_range]
    have hg : G.getD j ⟨0, 0, []⟩ = G[j] := by simp [List.getD, hj']
    rw [hg]
    exact ⟨rfl, rfl, hL⟩
  · have hj' : j < G.length := by simpa using hj
    obtain ⟨_, eo, ec, e0, e1, e2, e3⟩ := hq j hj'
    simp only [List.getElem_map, List.getElem_range]
    exact ⟨eo, ec, fr_cell f (fun e => hb e.symm) e0, fr_cell f (fun e => hb e.symm) e1, fr_cell f (fun e => hb e.symm) e2, e3⟩
end Go.Proofs.Ytfajkfngjfhkoaa
