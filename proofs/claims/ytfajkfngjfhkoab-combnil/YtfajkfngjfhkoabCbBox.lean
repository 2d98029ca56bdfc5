/- How a box lies in memory: a map of slices, each of them a row of its own. No walk here. -/
import Derived.Test.YtfajkfngjfhkoabCbMath
import Derived.Test.YtfajkfngjfhkoabProg
import Derived.Maps.OwnSet
import Derived.WalkKit
import Derived.OwnWalk
namespace Go.Proofs.Ytfajkfngjfhkoab
open Go.RowKit Go.Maps

/-- A map's element as it is: a slice's header. -/
def heldR (v : Value) : Option (DataW Value × List MemPlace) := some (.held v, [])
def nilS : Value := .slice none 0 0
/-- The slice that stands at a vertex. -/
def hdOf (D : DataW Value) (id : Int) : Value :=
  match D.atKey (.int .i64 id) (.held nilS) with
  | .held v => v
  | _ => nilS
theorem hd_of {D : DataW Value} {id : Int} {v : Value} {ps : List MemPlace} (h : heldR v = some (D.atKey (.int .i64 id) (.held nilS), ps)) : v = hdOf D id := by
  unfold heldR at h
  simp only [Option.some.injEq, Prod.mk.injEq] at h
  unfold hdOf
  rw [← h.1]
theorem key_lit (id : Int) : WideAt.IsKeyLit (.int .i64 id) := trivial
theorem key_ne {i j : Int} (h : i ≠ j) : (Lit.int .i64 i) ≠ (Lit.int .i64 j) := by
  intro e
  cases e
  exact h rfl
theorem hd_put_same {D : DataW Value} (hD : IsMap D) (id : Int) (v : Value) : hdOf (D.put (.int .i64 id) (.held v)) id = v := by
  unfold hdOf
  rw [atKey_put_same hD (key_lit id)]
theorem hd_put_other {D : DataW Value} {id i : Int} (h : i ≠ id) (v : Value) : hdOf (D.put (.int .i64 id) (.held v)) i = hdOf D i := by
  unfold hdOf
  rw [atKey_put_other (key_ne h)]
theorem hd_del_same {D : DataW Value} (id : Int) : hdOf (D.del (.int .i64 id)) id = nilS := by
  unfold hdOf
  rw [atKey_del_same]
theorem hd_del_other {D : DataW Value} {id i : Int} (h : i ≠ id) : hdOf (D.del (.int .i64 id)) i = hdOf D i := by
  unfold hdOf
  rw [atKey_del_other (key_ne h)]
theorem keyOf_i64 {id : Int} (h : I64 id) : keyOf Try.prog 2 (.int .i64 id) = some (.int .i64 id) := keyOf_int_mk Try.underlying2 (WalkArith.wf_i64 ⟨h.1, h.2⟩)
theorem law64 : Keyed Try.prog 2 := int_keyed Try.underlying2

/-- A slice that owns messages, of a type of messages. -/
def Mo (w : World) (t : TypeId) (v : Value) (L : List Msg) : Prop := w.ownsRow 0 t 4 v L.length (L.flatMap msgCells)
theorem msg_len (L : List Msg) : (L.flatMap msgCells).length = L.length * 4 := by
  induction L with
  | nil => rfl
  | cons m L ih => rw [List.flatMap_cons, List.length_append, ih]; simp [msgCells]; omega
theorem Mo.nil (w : World) (t : TypeId) : Mo w t nilS [] := World.ownsRow_nil w 0 t 4
theorem Mo.kept {w w' : World} {t : TypeId} {v : Value} {L : List Msg} (h : Mo w t v L) {row : Option Nat} (hg : w.grownBy w' row) (hne : v.ownBlock = none ∨ v.ownBlock ≠ row) : Mo w' t v L := World.ownsRow.kept h hg hne
theorem Mo.alloc {w : World} {t : TypeId} {v : Value} {L : List Msg} (h : Mo w t v L) (o : Obj) : Mo (w.alloc o) t v L := World.ownsRow.alloc h o
theorem Mo.lt {w : World} {t : TypeId} {v : Value} {L : List Msg} (h : Mo w t v L) : ∀ k, v.ownBlock = some k → k < w.heap.size := fun k hk => (World.ownsRow.lt h k hk).2
theorem Mo.fr {w w' : World} {t : TypeId} {v : Value} {L : List Msg} (h : Mo w t v L) {S : Nat → Prop} (f : Fr w w' S) (hs : ∀ k, v.ownBlock = some k → ¬ S k) : Mo w' t v L := by
  refine ⟨h.1, ?_⟩
  rcases h.2 with h2 | ⟨g, cap, cur, rfl, h3, h4, h5⟩
  · exact Or.inl h2
  · refine Or.inr ⟨g, cap, cur, rfl, h3, (f.block g ?_ (hs g rfl)).trans h4, h5⟩
    exact (Array.getElem?_eq_some_iff.1 h4).1
theorem Mo.new {w w' : World} {t : TypeId} {v : Value} {L : List Msg} (h : Mo w t v L) (hb : Below w.heap.size w w') : Mo w' t v L := h.fr (Fr.ofBelow hb (fun _ => False)) (fun _ _ h => h)
/-- Its block holds messages. -/
theorem Mo.tag {w : World} {t : TypeId} {v : Value} {L : List Msg} (h : Mo w t v L) : ∀ k, v.ownBlock = some k → ∃ cur, w.heap[k]? = some (.cells cur t (0, 0)) := by
  intro k hk
  rcases h.2 with ⟨rfl, _⟩ | ⟨g, cap, cur, rfl, _, hg, _⟩
  · cases hk
  · simp only [Value.ownBlock, Option.some.injEq] at hk
    subst hk
    exact ⟨cur, hg⟩
theorem Mo.shape {w : World} {t : TypeId} {v : Value} {L : List Msg} (h : Mo w t v L) : ∃ ao c, v = .slice ao L.length c := by
  rcases h.2 with ⟨rfl, h0⟩ | ⟨g, cap, cur, rfl, _⟩
  · exact ⟨none, 0, by rw [h0]⟩
  · exact ⟨_, _, rfl⟩
/-- Messages lie in memory from an address on, in a block that P names. -/
def MsAt (w : World) (P : Nat → Prop) (ao : Option Addr) (L : List Msg) : Prop :=
  0 < L.length → ∃ b off, ao = some ⟨b, off, none⟩ ∧ P b ∧ ∀ j (h : j < L.length), w.cell? ⟨b, off + j * 4, none⟩ = some (.int .i64 L[j].f) ∧ w.cell? ⟨b, off + j * 4 + 1, none⟩ = some (.int .i64 L[j].t) ∧ w.cell? ⟨b, off + j * 4 + 2, none⟩ = some (.int .i64 L[j].a) ∧ w.cell? ⟨b, off + j * 4 + 3, none⟩ = some (.int .i64 L[j].v)
theorem MsAt.kept {w w' : World} {P Q S : Nat → Prop} {ao : Option Addr} {L : List Msg} (h : MsAt w P ao L) (f : Fr w w' S) (hs : ∀ k, k < w.heap.size → P k → ¬ S k ∧ Q k) : MsAt w' Q ao L := by
  intro hl
  obtain ⟨b, off, e, hb, hc⟩ := h hl
  have hlt := lt_cell (hc 0 hl).1
  have hn := (hs b hlt hb).1
  exact ⟨b, off, e, (hs b hlt hb).2, fun j hj => ⟨fr_cell f hn (hc j hj).1, fr_cell f hn (hc j hj).2.1, fr_cell f hn (hc j hj).2.2.1, fr_cell f hn (hc j hj).2.2.2⟩⟩
theorem MsAt.new {w w' : World} {P : Nat → Prop} {ao : Option Addr} {L : List Msg} (h : MsAt w P ao L) (hb : Below w.heap.size w w') : MsAt w' P ao L := h.kept (Fr.ofBelow hb (fun _ => False)) (fun _ _ hp => ⟨fun h => h, hp⟩)
theorem MsAt.mono {w : World} {P Q : Nat → Prop} {ao : Option Addr} {L : List Msg} (h : MsAt w P ao L) (hs : ∀ k, k < w.heap.size → P k → Q k) : MsAt w Q ao L := h.kept (Fr.refl w (fun _ => False)) (fun k hk hp => ⟨fun h => h, hs k hk hp⟩)
theorem cells_get (L : List Msg) (j : Nat) (h : j < L.length) : (L.flatMap msgCells)[j * 4]? = some (.int .i64 L[j].f) ∧ (L.flatMap msgCells)[j * 4 + 1]? = some (.int .i64 L[j].t) ∧ (L.flatMap msgCells)[j * 4 + 2]? = some (.int .i64 L[j].a) ∧ (L.flatMap msgCells)[j * 4 + 3]? = some (.int .i64 L[j].v) := by
  induction L generalizing j with
  | nil => exact absurd h (by simp)
  | cons m L ih =>
    rw [List.flatMap_cons]
    cases j with
    | zero => simp [msgCells]
    | succ j =>
      have := ih j (by simpa using h)
      have e : ∀ c, (msgCells m ++ L.flatMap msgCells)[(j + 1) * 4 + c]? = (L.flatMap msgCells)[j * 4 + c]? := fun c => by
        rw [List.getElem?_append_right (by simp [msgCells]; omega)]
        congr 1
        simp [msgCells]
        omega
      have e0 := e 0
      rw [Nat.add_zero, Nat.add_zero] at e0
      rw [e0, e 1, e 2, e 3]
      simpa using this
theorem Mo.at_ {w : World} {t : TypeId} {ao : Option Addr} {n c : Nat} {L : List Msg} (h : Mo w t (.slice ao n c) L) : MsAt w (fun k => (Value.slice ao n c).ownBlock = some k) ao L := by
  intro hl
  rcases h.2 with ⟨h1, h2⟩ | ⟨g, cap, cur, h1, _, hg, hn, hc, hcs, ht⟩
  · omega
  · cases h1
    refine ⟨g, 0, rfl, rfl, fun j hj => ?_⟩
    have hcell : ∀ i u, (L.flatMap msgCells)[i]? = some u → w.cell? ⟨g, 0 + i, none⟩ = some u := by
      intro i u hu
      have := World.ownsRow.cells h (g := g) rfl i u hu
      by_cases e : i = 0
      · subst e; simpa [Addr.add] using this
      · simpa [Addr.add, e] using this
    obtain ⟨a0, a1, a2, a3⟩ := cells_get L j hj
    exact ⟨hcell _ _ a0, by have := hcell _ _ a1; rwa [← Nat.add_assoc] at this, by have := hcell _ _ a2; rwa [← Nat.add_assoc] at this, by have := hcell _ _ a3; rwa [← Nat.add_assoc] at this⟩

/-- A map block that holds messages by their vertices; its block and those of its rows are in S. N: how many were ever put. -/
structure MP (w : World) (S : Nat → Prop) (M N : Nat) (D : DataW Value) (B : List Msg) : Prop where
  own : w.ownsMap Try.prog 2 heldR M N D
  inS : S M
  rowS : ∀ id k, (hdOf D id).ownBlock = some k → S k
  rows : ∀ id, Mo w 24 (hdOf D id) (toV B id)
  has : ∀ id, Maps.has D (.int .i64 id) = !(toV B id).isEmpty
  apart : ∀ i j, i ≠ j → (hdOf D i).ownBlock = none ∨ (hdOf D i).ownBlock ≠ (hdOf D j).ownBlock
theorem MP.mapRow {w : World} {S : Nat → Prop} {M N : Nat} {D : DataW Value} {B : List Msg} (h : MP w S M N D B) (id : Int) : (hdOf D id).ownBlock = none ∨ (hdOf D id).ownBlock ≠ some M := by
  cases e : (hdOf D id).ownBlock with
  | none => exact Or.inl rfl
  | some k =>
    refine Or.inr fun e' => ?_
    cases e'
    obtain ⟨cur, hc⟩ := (h.rows id).tag _ e
    obtain ⟨es, clock, hb, _⟩ := h.own
    rw [hc] at hb
    cases hb
/-- Other blocks are written, and new ones laid. -/
theorem MP.kept {w w' : World} {S : Nat → Prop} {M N : Nat} {D : DataW Value} {B : List Msg} (h : MP w S M N D B) {T : Nat → Prop} (f : Fr w w' T) (hd : ∀ k, S k → ¬ T k) : MP w' S M N D B := by
  refine ⟨?_, h.inS, h.rowS, fun id => (h.rows id).fr f (fun k hk => hd k (h.rowS id k hk)), h.has, h.apart⟩
  have hlt := h.own.lt
  obtain ⟨es, clock, hb, r⟩ := h.own
  exact ⟨es, clock, (f.block M hlt (hd M h.inS)).trans hb, r⟩
theorem MP.new {w w' : World} {S : Nat → Prop} {M N : Nat} {D : DataW Value} {B : List Msg} (h : MP w S M N D B) (hb : Below w.heap.size w w') : MP w' S M N D B := h.kept (Fr.ofBelow hb (fun _ => False)) (fun _ _ h => h)
theorem MP.mono {w : World} {S T : Nat → Prop} {M N : Nat} {D : DataW Value} {B : List Msg} (h : MP w S M N D B) (hs : ∀ k, k < w.heap.size → S k → T k) : MP w T M N D B :=
  ⟨h.own, hs _ h.own.lt h.inS, fun id k hk => hs k ((h.rows id).lt k hk) (h.rowS id k hk), h.rows, h.has, h.apart⟩
theorem MP.made (w : World) {S : Nat → Prop} (hb : S w.heap.size) : MP (w.alloc (.map #[] 0)) S w.heap.size 0 (.map []) [] :=
  ⟨World.ownsMap_made w _ _ _, hb, fun _ _ h => (by cases h), fun _ => Mo.nil _ _, fun _ => rfl, fun _ _ _ => Or.inl rfl⟩
/-- A message is put: the row at its vertex has grown, or lies in a new block; then the header is stored. -/
theorem MP.put {w w1 w2 : World} {S : Nat → Prop} {M N : Nat} {D : DataW Value} {B : List Msg} (h : MP w S M N D B) {m : Msg} {v' : Value}
    (hg : w.grownBy w1 (hdOf D m.t).ownBlock) (hrow : Mo w1 24 v' (toV B m.t ++ [m])) (hloc : v'.ownBlock = (hdOf D m.t).ownBlock ∨ ∃ k, v'.ownBlock = some k ∧ w.heap.size ≤ k) (hnew : ∀ k, w.heap.size ≤ k → S k)
    (hown : w2.ownsMap Try.prog 2 heldR M (N + 1) (D.put (.int .i64 m.t) (.held v'))) (hg2 : w1.grownBy w2 (some M)) : MP w2 S M (N + 1) (D.put (.int .i64 m.t) (.held v')) (B ++ [m]) := by
  have hD : IsMap D := h.own.isMap
  have hMlt := h.own.lt
  have notM : ∀ i, (hdOf D i).ownBlock = none ∨ (hdOf D i).ownBlock ≠ some M := h.mapRow
  have v'M : v'.ownBlock = none ∨ v'.ownBlock ≠ some M := by
    rcases hloc with e | ⟨k, e, hk⟩
    · rw [e]; exact notM m.t
    · rw [e]; refine Or.inr fun e' => ?_; cases e'; omega
  refine ⟨hown, h.inS, fun id k hk => ?_, fun id => ?_, fun id => ?_, fun i j hij => ?_⟩
  · by_cases e : id = m.t
    · subst e
      rw [hd_put_same hD] at hk
      rcases hloc with e | ⟨q, e, hq⟩
      · rw [e] at hk; exact h.rowS _ _ hk
      · rw [e] at hk; cases hk; exact hnew _ hq
    · rw [hd_put_other e] at hk
      exact h.rowS _ _ hk
  · by_cases e : id = m.t
    · subst e
      rw [hd_put_same hD, toV_snoc_same]
      exact hrow.kept hg2 v'M
    · rw [hd_put_other e, toV_snoc_other B m (fun e' => e e'.symm)]
      refine ((h.rows id).kept hg (h.apart id m.t e)).kept hg2 (notM id)
  · by_cases e : id = m.t
    · subst e
      rw [has_put_same hD (key_lit _), toV_snoc_same]
      simp
    · rw [has_put_other (key_ne e), toV_snoc_other B m (fun e' => e e'.symm)]
      exact h.has id
  · have new_old : ∀ i, i ≠ m.t → (hdOf D i).ownBlock = none ∨ (hdOf D i).ownBlock ≠ v'.ownBlock := by
      intro i hi
      rcases hloc with e | ⟨k, e, hk⟩
      · rw [e]; exact h.apart i m.t hi
      · rw [e]
        cases e2 : (hdOf D i).ownBlock with
        | none => exact Or.inl rfl
        | some q =>
          refine Or.inr fun e' => ?_
          cases e'
          have := (h.rows i).lt _ e2
          omega
    by_cases ei : i = m.t
    · subst ei
      rw [hd_put_same hD, hd_put_other (fun e' => hij e'.symm)]
      rcases new_old j (fun e' => hij e'.symm) with e | e
      · cases e3 : v'.ownBlock with
        | none => exact Or.inl rfl
        | some q => rw [e]; exact Or.inr (by simp)
      · exact Or.inr fun e' => e e'.symm
    · by_cases ej : j = m.t
      · subst ej
        rw [hd_put_same hD, hd_put_other ei]
        exact new_old i ei
      · rw [hd_put_other ei, hd_put_other ej]
        exact h.apart i j hij
/-- A vertex's go. -/
theorem MP.del {w w2 : World} {S : Nat → Prop} {M N : Nat} {D : DataW Value} {B : List Msg} (h : MP w S M N D B) {id : Int} (hown : w2.ownsMap Try.prog 2 heldR M N (D.del (.int .i64 id))) (hg2 : w.grownBy w2 (some M)) : MP w2 S M N (D.del (.int .i64 id)) (offV B id) := by
  refine ⟨hown, h.inS, fun i k hk => ?_, fun i => ?_, fun i => ?_, fun i j hij => ?_⟩
  · by_cases e : i = id
    · subst e
      rw [hd_del_same] at hk
      cases hk
    · rw [hd_del_other e] at hk
      exact h.rowS _ _ hk
  · by_cases e : i = id
    · subst e
      rw [hd_del_same, toV_off_same]
      exact Mo.nil _ _
    · rw [hd_del_other e, toV_off_other B e]
      exact (h.rows i).kept hg2 (h.mapRow i)
  · by_cases e : i = id
    · subst e
      rw [has_del_same, toV_off_same]
      rfl
    · rw [has_del_other (key_ne e), toV_off_other B e]
      exact h.has i
  · by_cases ei : i = id
    · subst ei; rw [hd_del_same]; exact Or.inl rfl
    · rw [hd_del_other ei]
      by_cases ej : j = id
      · subst ej
        rw [hd_del_same]
        cases (hdOf D i).ownBlock with
        | none => exact Or.inl rfl
        | some q => exact Or.inr (by simp [nilS, Value.ownBlock])
      · rw [hd_del_other ej]
        exact h.apart i j hij
/-- What the map is, if there is one. -/
def MH (w : World) (S : Nat → Prop) (N : Nat) (B : List Msg) (mv : Value) : Prop := (mv = .map none ∧ B = []) ∨ ∃ (M : Nat) (D : DataW Value), mv = .map (some M) ∧ MP w S M N D B
theorem MH.none {w : World} {S : Nat → Prop} {N : Nat} {B : List Msg} (h : B = []) : MH w S N B (.map Option.none) := Or.inl ⟨rfl, h⟩
theorem MH.some {w : World} {S : Nat → Prop} {N : Nat} {B : List Msg} (M : Nat) (D : DataW Value) (h : MP w S M N D B) : MH w S N B (.map (Option.some M)) := Or.inr ⟨M, D, rfl, h⟩
/-- A box: its blocks are in S. -/
structure BX (w : World) (S : Nat → Prop) (b N : Nat) (B : List Msg) : Prop where
  box : ∃ mv, w.heap[b]? = some (.cells #[mv] 75 (0, 0)) ∧ MH w S N B mv
  inS : S b
theorem MH.kept {w w' : World} {S T : Nat → Prop} {N : Nat} {B : List Msg} {mv : Value} (h : MH w S N B mv) (f : Fr w w' T) (hd : ∀ k, S k → ¬ T k) : MH w' S N B mv := by
  rcases h with ⟨rfl, h⟩ | ⟨M, D, rfl, h⟩
  · exact .none h
  · exact .some M D (h.kept f hd)
theorem MH.mono {w : World} {S T : Nat → Prop} {N : Nat} {B : List Msg} {mv : Value} (h : MH w S N B mv) (hs : ∀ k, k < w.heap.size → S k → T k) : MH w T N B mv := by
  rcases h with ⟨rfl, h⟩ | ⟨M, D, rfl, h⟩
  · exact .none h
  · exact .some M D (h.mono hs)
theorem BX.lt {w : World} {S : Nat → Prop} {b N : Nat} {B : List Msg} (h : BX w S b N B) : b < w.heap.size := by
  obtain ⟨⟨mv, h1, h2⟩, h3⟩ := h
  exact (Array.getElem?_eq_some_iff.1 h1).1
theorem BX.kept {w w' : World} {S T : Nat → Prop} {b N : Nat} {B : List Msg} (h : BX w S b N B) (f : Fr w w' T) (hd : ∀ k, S k → ¬ T k) : BX w' S b N B := by
  have hlt := h.lt
  obtain ⟨⟨mv, h1, h2⟩, h3⟩ := h
  exact ⟨⟨mv, (f.block b hlt (hd b h3)).trans h1, h2.kept f hd⟩, h3⟩
theorem BX.new {w w' : World} {S : Nat → Prop} {b N : Nat} {B : List Msg} (h : BX w S b N B) (hb : Below w.heap.size w w') : BX w' S b N B := h.kept (Fr.ofBelow hb (fun _ => False)) (fun _ _ h => h)
theorem BX.mono {w : World} {S T : Nat → Prop} {b N : Nat} {B : List Msg} (h : BX w S b N B) (hs : ∀ k, k < w.heap.size → S k → T k) : BX w T b N B := by
  have hlt := h.lt
  obtain ⟨⟨mv, h1, h2⟩, h3⟩ := h
  exact ⟨⟨mv, h1, h2.mono hs⟩, hs b hlt h3⟩
theorem BX.more {w : World} {S : Nat → Prop} {b N N' : Nat} {B : List Msg} (h : BX w S b N B) (hn : N ≤ N') : BX w S b N' B := by
  obtain ⟨⟨mv, h1, h2⟩, h3⟩ := h
  refine ⟨⟨mv, h1, ?_⟩, h3⟩
  rcases h2 with ⟨rfl, h⟩ | ⟨M, D, rfl, h⟩
  · exact .none h
  · exact .some M D ⟨h.own.mono hn, h.inS, h.rowS, h.rows, h.has, h.apart⟩
end Go.Proofs.Ytfajkfngjfhkoab
