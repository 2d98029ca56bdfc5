/- Messages as they lie in memory. -/
import Derived.Test.YtmgjlamglhpnaaaGreatJbMM
import Derived.Test.YtmgjlamglhpnaaaGreatNumM
import Derived.Test.YtmgjlamglhpnaaaGreatGrDataM
import Derived.Test.YtmgjlamglhpnaaaGreatProg
import Derived.WalkKit
import Derived.OwnWalk
import Derived.Below
import Derived.Maps.OwnSet
import Derived.Deep.Cut
import Derived.Deep.DeepCutAuto
import Derived.Deep.RegionHeldLaw
import Derived.BigRegion
import Derived.Test.YtmgjlamglhpnaaaGreatMuFindM
namespace Go.Proofs.YtmgjlamglhpnaaaGreat
set_option maxRecDepth 100000
open Go.RowKit
def MsAt (w : World) (P : Nat → Prop) (ao : Option Addr) (L : List Msg) : Prop :=
 0 < L.length → ∃ b off, ao = some ⟨b, off, none⟩ ∧ P b ∧ ∀ j (h : j < L.length), w.cell? ⟨b, off + j * 4, none⟩ = some (.int .i64 L[j].f) ∧ w.cell? ⟨b, off + j * 4 + 1, none⟩ = some (.int .i64 L[j].t) ∧ w.cell? ⟨b, off + j * 4 + 2, none⟩ = some (.int .i64 L[j].a) ∧ w.cell? ⟨b, off + j * 4 + 3, none⟩ = some (.int .i64 L[j].v)
theorem MsAt.kept {w w' : World} {P Q S : Nat → Prop} {ao : Option Addr} {L : List Msg} (h : MsAt w P ao L) (f : Fr w w' S) (hs : ∀ k, k < w.heap.size → P k → ¬ S k ∧ Q k) : MsAt w' Q ao L := by
 intro hl
 obtain ⟨b, off, e, hb, hc⟩ := h hl
 have hlt := lt_cell (hc 0 hl).1
 have hn := (hs b hlt hb).1
 exact ⟨b, off, e, (hs b hlt hb).2, fun j hj => ⟨fr_cell f hn (hc j hj).1, fr_cell f hn (hc j hj).2.1, fr_cell f hn (hc j hj).2.2.1, fr_cell f hn (hc j hj).2.2.2⟩⟩
theorem MsAt.new {w w' : World} {P : Nat → Prop} {ao : Option Addr} {L : List Msg} (h : MsAt w P ao L) (hb : Below w.heap.size w w') : MsAt w' P ao L := h.kept (Fr.ofBelow hb (fun _ => False)) (fun _ _ hp => ⟨fun h => h, hp⟩)
theorem MsAt.mono {w : World} {P Q : Nat → Prop} {ao : Option Addr} {L : List Msg} (h : MsAt w P ao L) (hs : ∀ k, k < w.heap.size → P k → Q k) : MsAt w Q ao L := h.kept (Fr.refl w (fun _ => False)) (fun k hk hp => ⟨fun h => h, hs k hk hp⟩)
section
open Go.RowKit Go.Maps
def heldR (v : Value) : Option (DataW Value × List MemPlace) := some (.held v, [])
def nilS : Value := .slice none 0 0
def hdOf (D : DataW Value) (id : Int) : Value :=
 match D.atKey (.int .i64 id) (.held nilS) with
 | .held v => v
 | _ => nilS
theorem hd_of {D : DataW Value} {id : Int} {v : Value} {ps : List MemPlace} (h : heldR v = some (D.atKey (.int .i64 id) (.held nilS), ps)) : v = hdOf D id := by
 unfold heldR at h
 simp only [Option.some.injEq, Prod.mk.injEq] at h
 unfold hdOf
 rw [← h.1]
theorem key_lit (id : Int) : WideAt.IsKeyLit (.int .i64 id) := trivial
theorem key_ne {i j : Int} (h : i ≠ j) : (Lit.int .i64 i) ≠ (Lit.int .i64 j) := by
 intro e
 cases e
 exact h rfl
theorem hd_put_same {D : DataW Value} (hD : IsMap D) (id : Int) (v : Value) : hdOf (D.put (.int .i64 id) (.held v)) id = v := by
 unfold hdOf
 rw [atKey_put_same hD (key_lit id)]
theorem hd_put_other {D : DataW Value} {id i : Int} (h : i ≠ id) (v : Value) : hdOf (D.put (.int .i64 id) (.held v)) i = hdOf D i := by
 unfold hdOf
 rw [atKey_put_other (key_ne h)]
theorem hd_del_same {D : DataW Value} (id : Int) : hdOf (D.del (.int .i64 id)) id = nilS := by
 unfold hdOf
 rw [atKey_del_same]
theorem hd_del_other {D : DataW Value} {id i : Int} (h : i ≠ id) : hdOf (D.del (.int .i64 id)) i = hdOf D i := by
 unfold hdOf
 rw [atKey_del_other (key_ne h)]
theorem keyOf_i64 {id : Int} (h : I64 id) : keyOf Tryz.prog 2 (.int .i64 id) = some (.int .i64 id) := keyOf_int_mk Tryz.underlying2 (WalkArith.wf_i64 ⟨h.1, h.2⟩)
theorem law64 : Keyed Tryz.prog 2 := int_keyed Tryz.underlying2
def Mo (w : World) (t : TypeId) (v : Value) (L : List Msg) : Prop := w.ownsRow 0 t 4 v L.length (L.flatMap msgCells)
theorem msg_len (L : List Msg) : (L.flatMap msgCells).length = L.length * 4 := by
 induction L with
 | nil => rfl
 | cons m L ih => rw [List.flatMap_cons, List.length_append, ih]; simp [msgCells]; omega
theorem Mo.nil (w : World) (t : TypeId) : Mo w t nilS [] := World.ownsRow_nil w 0 t 4
theorem Mo.kept {w w' : World} {t : TypeId} {v : Value} {L : List Msg} (h : Mo w t v L) {row : Option Nat} (hg : w.grownBy w' row) (hne : v.ownBlock = none ∨ v.ownBlock ≠ row) : Mo w' t v L := World.ownsRow.kept h hg hne
theorem Mo.alloc {w : World} {t : TypeId} {v : Value} {L : List Msg} (h : Mo w t v L) (o : Obj) : Mo (w.alloc o) t v L := World.ownsRow.alloc h o
theorem Mo.lt {w : World} {t : TypeId} {v : Value} {L : List Msg} (h : Mo w t v L) : ∀ k, v.ownBlock = some k → k < w.heap.size := fun k hk => (World.ownsRow.lt h k hk).2
theorem Mo.fr {w w' : World} {t : TypeId} {v : Value} {L : List Msg} (h : Mo w t v L) {S : Nat → Prop} (f : Fr w w' S) (hs : ∀ k, v.ownBlock = some k → ¬ S k) : Mo w' t v L := by
 refine ⟨h.1, ?_⟩
 rcases h.2 with h2 | ⟨g, cap, cur, rfl, h3, h4, h5⟩
 ·exact Or.inl h2
 ·refine Or.inr ⟨g, cap, cur, rfl, h3, (f.block g ?_ (hs g rfl)).trans h4, h5⟩
  exact (Array.getElem?_eq_some_iff.1 h4).1
theorem Mo.new {w w' : World} {t : TypeId} {v : Value} {L : List Msg} (h : Mo w t v L) (hb : Below w.heap.size w w') : Mo w' t v L := h.fr (Fr.ofBelow hb (fun _ => False)) (fun _ _ h => h)
theorem Mo.tag {w : World} {t : TypeId} {v : Value} {L : List Msg} (h : Mo w t v L) : ∀ k, v.ownBlock = some k → ∃ cur, w.heap[k]? = some (.cells cur t (0, 0)) := by
 intro k hk
 rcases h.2 with ⟨rfl, _⟩ | ⟨g, cap, cur, rfl, _, hg, _⟩
 ·cases hk
 ·simp only [Value.ownBlock, Option.some.injEq] at hk
  subst hk
  exact ⟨cur, hg⟩
theorem Mo.shape {w : World} {t : TypeId} {v : Value} {L : List Msg} (h : Mo w t v L) : ∃ ao c, v = .slice ao L.length c := by
 rcases h.2 with ⟨rfl, h0⟩ | ⟨g, cap, cur, rfl, _⟩
 ·exact ⟨none, 0, by rw [h0]⟩
 ·exact ⟨_, _, rfl⟩
theorem cells_get (L : List Msg) (j : Nat) (h : j < L.length) : (L.flatMap msgCells)[j * 4]? = some (.int .i64 L[j].f) ∧ (L.flatMap msgCells)[j * 4 + 1]? = some (.int .i64 L[j].t) ∧ (L.flatMap msgCells)[j * 4 + 2]? = some (.int .i64 L[j].a) ∧ (L.flatMap msgCells)[j * 4 + 3]? = some (.int .i64 L[j].v) := by
 induction L generalizing j with
 | nil => exact absurd h (by simp)
 | cons m L ih =>
  rw [List.flatMap_cons]
  cases j with
  | zero => simp [msgCells]
  | succ j =>
   have := ih j (by simpa using h)
   have e : ∀ c, (msgCells m ++ L.flatMap msgCells)[(j + 1) * 4 + c]? = (L.flatMap msgCells)[j * 4 + c]? := fun c => by
    rw [List.getElem?_append_right (by simp [msgCells]; omega)]
    congr 1
    simp [msgCells]
    omega
   have e0 := e 0
   rw [Nat.add_zero, Nat.add_zero] at e0
   rw [e0, e 1, e 2, e 3]
   simpa using this
theorem Mo.at_ {w : World} {t : TypeId} {ao : Option Addr} {n c : Nat} {L : List Msg} (h : Mo w t (.slice ao n c) L) : MsAt w (fun k => (Value.slice ao n c).ownBlock = some k) ao L := by
 intro hl
 rcases h.2 with ⟨h1, h2⟩ | ⟨g, cap, cur, h1, _, hg, hn, hc, hcs, ht⟩
 ·omega
 ·cases h1
  refine ⟨g, 0, rfl, rfl, fun j hj => ?_⟩
  have hcell : ∀ i u, (L.flatMap msgCells)[i]? = some u → w.cell? ⟨g, 0 + i, none⟩ = some u := by
   intro i u hu
   have := World.ownsRow.cells h (g := g) rfl i u hu
   by_cases e : i = 0
   ·subst e; simpa [Addr.add] using this
   ·simpa [Addr.add, e] using this
  obtain ⟨a0, a1, a2, a3⟩ := cells_get L j hj
  exact ⟨hcell _ _ a0, by have := hcell _ _ a1; rwa [← Nat.add_assoc] at this, by have := hcell _ _ a2; rwa [← Nat.add_assoc] at this, by have := hcell _ _ a3; rwa [← Nat.add_assoc] at this⟩
structure MP (w : World) (S : Nat → Prop) (M N : Nat) (D : DataW Value) (B : List Msg) : Prop where
 own : w.ownsMap Tryz.prog 2 heldR M N D
 inS : S M
 rowS : ∀ id k, (hdOf D id).ownBlock = some k → S k
 rows : ∀ id, Mo w 201 (hdOf D id) (toV B id)
 has : ∀ id, Maps.has D (.int .i64 id) = !(toV B id).isEmpty
 apart : ∀ i j, i ≠ j → (hdOf D i).ownBlock = none ∨ (hdOf D i).ownBlock ≠ (hdOf D j).ownBlock
theorem MP.mapRow {w : World} {S : Nat → Prop} {M N : Nat} {D : DataW Value} {B : List Msg} (h : MP w S M N D B) (id : Int) : (hdOf D id).ownBlock = none ∨ (hdOf D id).ownBlock ≠ some M := by
 cases e : (hdOf D id).ownBlock with
 | none => exact Or.inl rfl
 | some k =>
  refine Or.inr fun e' => ?_
  cases e'
  obtain ⟨cur, hc⟩ := (h.rows id).tag _ e
  obtain ⟨es, clock, hb, _⟩ := h.own
  rw [hc] at hb
  cases hb
theorem MP.kept {w w' : World} {S : Nat → Prop} {M N : Nat} {D : DataW Value} {B : List Msg} (h : MP w S M N D B) {T : Nat → Prop} (f : Fr w w' T) (hd : ∀ k, S k → ¬ T k) : MP w' S M N D B := by
 refine ⟨?_, h.inS, h.rowS, fun id => (h.rows id).fr f (fun k hk => hd k (h.rowS id k hk)), h.has, h.apart⟩
 have hlt := h.own.lt
 obtain ⟨es, clock, hb, r⟩ := h.own
 exact ⟨es, clock, (f.block M hlt (hd M h.inS)).trans hb, r⟩
theorem MP.new {w w' : World} {S : Nat → Prop} {M N : Nat} {D : DataW Value} {B : List Msg} (h : MP w S M N D B) (hb : Below w.heap.size w w') : MP w' S M N D B := h.kept (Fr.ofBelow hb (fun _ => False)) (fun _ _ h => h)
theorem MP.mono {w : World} {S T : Nat → Prop} {M N : Nat} {D : DataW Value} {B : List Msg} (h : MP w S M N D B) (hs : ∀ k, k < w.heap.size → S k → T k) : MP w T M N D B :=
 ⟨h.own, hs _ h.own.lt h.inS, fun id k hk => hs k ((h.rows id).lt k hk) (h.rowS id k hk), h.rows, h.has, h.apart⟩
theorem MP.made (w : World) {S : Nat → Prop} (hb : S w.heap.size) : MP (w.alloc (.map #[] 0)) S w.heap.size 0 (.map []) [] :=
 ⟨World.ownsMap_made w _ _ _, hb, fun _ _ h => (by cases h), fun _ => Mo.nil _ _, fun _ => rfl, fun _ _ _ => Or.inl rfl⟩
theorem MP.put {w w1 w2 : World} {S : Nat → Prop} {M N : Nat} {D : DataW Value} {B : List Msg} (h : MP w S M N D B) {m : Msg} {v' : Value}
  (hg : w.grownBy w1 (hdOf D m.t).ownBlock) (hrow : Mo w1 201 v' (toV B m.t ++ [m])) (hloc : v'.ownBlock = (hdOf D m.t).ownBlock ∨ ∃ k, v'.ownBlock = some k ∧ w.heap.size ≤ k) (hnew : ∀ k, w.heap.size ≤ k → S k)
  (hown : w2.ownsMap Tryz.prog 2 heldR M (N + 1) (D.put (.int .i64 m.t) (.held v'))) (hg2 : w1.grownBy w2 (some M)) : MP w2 S M (N + 1) (D.put (.int .i64 m.t) (.held v')) (B ++ [m]) := by
 have hD : IsMap D := h.own.isMap
 have hMlt := h.own.lt
 have notM : ∀ i, (hdOf D i).ownBlock = none ∨ (hdOf D i).ownBlock ≠ some M := h.mapRow
 have v'M : v'.ownBlock = none ∨ v'.ownBlock ≠ some M := by
  rcases hloc with e | ⟨k, e, hk⟩
  ·rw [e]; exact notM m.t
  ·rw [e]; refine Or.inr fun e' => ?_; cases e'; omega
 refine ⟨hown, h.inS, fun id k hk => ?_, fun id => ?_, fun id => ?_, fun i j hij => ?_⟩
 ·by_cases e : id = m.t
  ·subst e
   rw [hd_put_same hD] at hk
   rcases hloc with e | ⟨q, e, hq⟩
   ·rw [e] at hk; exact h.rowS _ _ hk
   ·rw [e] at hk; cases hk; exact hnew _ hq
  ·rw [hd_put_other e] at hk
   exact h.rowS _ _ hk
 ·by_cases e : id = m.t
  ·subst e
   rw [hd_put_same hD, toV_snoc_same]
   exact hrow.kept hg2 v'M
  ·rw [hd_put_other e, toV_snoc_other B m (fun e' => e e'.symm)]
   refine ((h.rows id).kept hg (h.apart id m.t e)).kept hg2 (notM id)
 ·by_cases e : id = m.t
  ·subst e
   rw [has_put_same hD (key_lit _), toV_snoc_same]
   simp
  ·rw [has_put_other (key_ne e), toV_snoc_other B m (fun e' => e e'.symm)]
   exact h.has id
 ·have new_old : ∀ i, i ≠ m.t → (hdOf D i).ownBlock = none ∨ (hdOf D i).ownBlock ≠ v'.ownBlock := by
   intro i hi
   rcases hloc with e | ⟨k, e, hk⟩
   ·rw [e]; exact h.apart i m.t hi
   ·rw [e]
    cases e2 : (hdOf D i).ownBlock with
    | none => exact Or.inl rfl
    | some q =>
     refine Or.inr fun e' => ?_
     cases e'
     have := (h.rows i).lt _ e2
     omega
  by_cases ei : i = m.t
  ·subst ei
   rw [hd_put_same hD, hd_put_other (fun e' => hij e'.symm)]
   rcases new_old j (fun e' => hij e'.symm) with e | e
   ·cases e3 : v'.ownBlock with
    | none => exact Or.inl rfl
    | some q => rw [e]; exact Or.inr (by simp)
   ·exact Or.inr fun e' => e e'.symm
  ·by_cases ej : j = m.t
   ·subst ej
    rw [hd_put_same hD, hd_put_other ei]
    exact new_old i ei
   ·rw [hd_put_other ei, hd_put_other ej]
    exact h.apart i j hij
theorem MP.del {w w2 : World} {S : Nat → Prop} {M N : Nat} {D : DataW Value} {B : List Msg} (h : MP w S M N D B) {id : Int} (hown : w2.ownsMap Tryz.prog 2 heldR M N (D.del (.int .i64 id))) (hg2 : w.grownBy w2 (some M)) : MP w2 S M N (D.del (.int .i64 id)) (offV B id) := by
 refine ⟨hown, h.inS, fun i k hk => ?_, fun i => ?_, fun i => ?_, fun i j hij => ?_⟩
 ·by_cases e : i = id
  ·subst e
   rw [hd_del_same] at hk
   cases hk
  ·rw [hd_del_other e] at hk
   exact h.rowS _ _ hk
 ·by_cases e : i = id
  ·subst e
   rw [hd_del_same, toV_off_same]
   exact Mo.nil _ _
  ·rw [hd_del_other e, toV_off_other B e]
   exact (h.rows i).kept hg2 (h.mapRow i)
 ·by_cases e : i = id
  ·subst e
   rw [has_del_same, toV_off_same]
   rfl
  ·rw [has_del_other (key_ne e), toV_off_other B e]
   exact h.has i
 ·by_cases ei : i = id
  ·subst ei; rw [hd_del_same]; exact Or.inl rfl
  ·rw [hd_del_other ei]
   by_cases ej : j = id
   ·subst ej
    rw [hd_del_same]
    cases (hdOf D i).ownBlock with
    | none => exact Or.inl rfl
    | some q => exact Or.inr (by simp [nilS, Value.ownBlock])
   ·rw [hd_del_other ej]
    exact h.apart i j hij
def MH (w : World) (S : Nat → Prop) (N : Nat) (B : List Msg) (mv : Value) : Prop := (mv = .map none ∧ B = []) ∨ ∃ (M : Nat) (D : DataW Value), mv = .map (some M) ∧ MP w S M N D B
theorem MH.none {w : World} {S : Nat → Prop} {N : Nat} {B : List Msg} (h : B = []) : MH w S N B (.map Option.none) := Or.inl ⟨rfl, h⟩
theorem MH.some {w : World} {S : Nat → Prop} {N : Nat} {B : List Msg} (M : Nat) (D : DataW Value) (h : MP w S M N D B) : MH w S N B (.map (Option.some M)) := Or.inr ⟨M, D, rfl, h⟩
structure BX (w : World) (S : Nat → Prop) (b N : Nat) (B : List Msg) : Prop where
 box : ∃ mv, w.heap[b]? = some (.cells #[mv] 179 (0, 0)) ∧ MH w S N B mv
 inS : S b
theorem MH.kept {w w' : World} {S T : Nat → Prop} {N : Nat} {B : List Msg} {mv : Value} (h : MH w S N B mv) (f : Fr w w' T) (hd : ∀ k, S k → ¬ T k) : MH w' S N B mv := by
 rcases h with ⟨rfl, h⟩ | ⟨M, D, rfl, h⟩
 ·exact .none h
 ·exact .some M D (h.kept f hd)
theorem MH.mono {w : World} {S T : Nat → Prop} {N : Nat} {B : List Msg} {mv : Value} (h : MH w S N B mv) (hs : ∀ k, k < w.heap.size → S k → T k) : MH w T N B mv := by
 rcases h with ⟨rfl, h⟩ | ⟨M, D, rfl, h⟩
 ·exact .none h
 ·exact .some M D (h.mono hs)
theorem BX.lt {w : World} {S : Nat → Prop} {b N : Nat} {B : List Msg} (h : BX w S b N B) : b < w.heap.size := by
 obtain ⟨⟨mv, h1, h2⟩, h3⟩ := h
 exact (Array.getElem?_eq_some_iff.1 h1).1
theorem BX.kept {w w' : World} {S T : Nat → Prop} {b N : Nat} {B : List Msg} (h : BX w S b N B) (f : Fr w w' T) (hd : ∀ k, S k → ¬ T k) : BX w' S b N B := by
 have hlt := h.lt
 obtain ⟨⟨mv, h1, h2⟩, h3⟩ := h
 exact ⟨⟨mv, (f.block b hlt (hd b h3)).trans h1, h2.kept f hd⟩, h3⟩
theorem BX.new {w w' : World} {S : Nat → Prop} {b N : Nat} {B : List Msg} (h : BX w S b N B) (hb : Below w.heap.size w w') : BX w' S b N B := h.kept (Fr.ofBelow hb (fun _ => False)) (fun _ _ h => h)
theorem BX.mono {w : World} {S T : Nat → Prop} {b N : Nat} {B : List Msg} (h : BX w S b N B) (hs : ∀ k, k < w.heap.size → S k → T k) : BX w T b N B := by
 have hlt := h.lt
 obtain ⟨⟨mv, h1, h2⟩, h3⟩ := h
 exact ⟨⟨mv, h1, h2.mono hs⟩, hs b hlt h3⟩
theorem BX.more {w : World} {S : Nat → Prop} {b N N' : Nat} {B : List Msg} (h : BX w S b N B) (hn : N ≤ N') : BX w S b N' B := by
 obtain ⟨⟨mv, h1, h2⟩, h3⟩ := h
 refine ⟨⟨mv, h1, ?_⟩, h3⟩
 rcases h2 with ⟨rfl, h⟩ | ⟨M, D, rfl, h⟩
 ·exact .none h
 ·exact .some M D ⟨h.own.mono hn, h.inS, h.rowS, h.rows, h.has, h.apart⟩
end
section
open Go.RowKit Go.Maps
theorem infoMsg : (Tryz.prog.info? 201).map (fun i => (i.zero, i.size, i.bytes)) = some (some (.agg #[.int .i64 0, .int .i64 0, .int .i64 0, .int .i64 0]), 4, 32) := by kernel_rfl
theorem bx_one {W : World} {b : Nat} {t : TypeId} {u0 : Value} (h : W.heap[b]? = some (.cells #[u0] t (0, 0))) : W.cell? ⟨b, 0, none⟩ = some u0 ∧ W.frozen? ⟨b, 0, none⟩ = false := by
 refine ⟨?_, ?_⟩
 ·simp [World.cell?, h]
 ·simp [World.frozen?, h]
theorem m_step_append {P : Program} {ops : Array Oper} {o : Oper} {a : Act} {w : World} {K : Act → World → Prop} {Q : Exit → Act → World → Prop} {E : Prop}
  (hg : o.guard = none) (s x : Operand) (t : TypeId) (hop : o.op = .call { callee := .builtin .append, args := #[s, x], argTypes := #[t, t] })
  (base : Nat) (e : TypeId) (i : TypeInfo) (z : Value) (size bytes : Nat) (ht : P.underlying t = some (.slice e)) (hi : P.info? e = some i) (hz : i.zero = some z)
  (hsize : i.size = size) (hby : i.bytes = bytes) (hzs : z.cells.size = size) (hsz : 0 < size)
  (v : Value) (n : Nat) (xs : List Value) (hs : a.eval s = v) (hown : w.ownsRow base e size v n xs)
  (ad : Addr) (m c : Nat) (news : List Value) (hx : a.eval x = .slice (some ad) m c) (hl : news.length = m * size) (hnews : ∀ j u, news[j]? = some u → w.cell? (ad.add j) = some u) (h1 : ∀ u ∈ news, u.oneCell' = true)
  (h63 : n + m ≤ maxLen) (hbytes : (n + m) * bytes ≤ 140737488355328) (hbase : base ≤ w.heap.size)
  (h : ∀ v' w', w'.ownsRow base e size v' (n + m) (xs ++ news) → w.grownBy w' v.ownBlock → (v'.ownBlock = v.ownBlock ∨ v'.ownBlock = some w.heap.size) → K (a.put o.dst v') w') :
  if Region.wanted o (yielded ops a.tmps) = true then Oper.wp P o a w K Q else E := by
 have hw : Region.wanted o (yielded ops a.tmps) = true := by simp [Region.wanted, hg]
 rw [if_pos hw]
 obtain ⟨v', w', hr, h2, h3, _, h5⟩ := run_append_own_at (P := P) w base t o.type e i z size bytes ht hi hz hsize hby hzs hsz v n xs hown ad m c news hl hnews h1 h63 hbytes hbase
 unfold Oper.wp execOp
 simp only [hop, resolve, invoke, builtin, Sem.run_bind, Sem.run_pure, Result.andThen_ok, List.map_toArray, List.map_cons, List.map_nil, hs, hx, hr]
 exact h v' w' h2 h3 h5
theorem m_lt {w : World} {g : Nat} {o : Obj} (h : w.heap[g]? = some o) : g < w.heap.size := (Array.getElem?_eq_some_iff.1 h).1
theorem m_set1 {w : World} {b : Nat} {t : TypeId} {u0 : Value} (h : w.heap[b]? = some (.cells #[u0] t (0, 0))) (x : Value) : (w.setCell ⟨b, 0, none⟩ x).heap[b]? = some (.cells #[x] t (0, 0)) := by
 have hlt := m_lt h
 have h' : w.heap[b] = .cells #[u0] t (0, 0) := by simpa [Array.getElem?_eq_getElem hlt] using h
 show (w.heap.modify b _)[b]? = _
 rw [Array.getElem?_eq_getElem (by simpa using hlt), Array.getElem_modify_self, h']
 rfl
theorem m_four {W : World} {b : Nat} {t : TypeId} {x y z u0 : Value} (h : W.heap[b]? = some (.cells #[x, y, z, u0] t (0, 0))) : ∀ (j : Nat) (u : Value), [x, y, z, u0][j]? = some u → W.cell? ((⟨b, 0, none⟩ : Addr).add j) = some u := by
 intro j u hu
 have hadd : (⟨b, 0, none⟩ : Addr).add j = ⟨b, j, none⟩ := by unfold Addr.add; split <;> simp_all
 rw [hadd]
 simp [World.cell?, h]
 simpa using hu
theorem m_cells {W : World} {b : Nat} {t : TypeId} {x y z u0 : Value} (h : W.heap[b]? = some (.cells #[x, y, z, u0] t (0, 0))) : W.cell? ⟨b, 0, none⟩ = some x ∧ W.cell? ⟨b, 1, none⟩ = some y ∧ W.cell? ⟨b, 2, none⟩ = some z ∧ W.cell? ⟨b, 3, none⟩ = some u0 := by
 simp [World.cell?, h]
theorem zeroSl (w : World) : (zeroValue 116).run Tryz.prog w = .ok (.slice none 0 0) w := by kernel_rfl
theorem msgOne (y : Msg) : ∀ u ∈ msgCells y, u.oneCell' = true := by
 intro u hu
 simp [msgCells] at hu
 rcases hu with rfl | rfl | rfl | rfl <;> rfl
theorem m_five {W : World} {b q M : Nat} {y : Msg} (hb : W.cell? ⟨b, 0, none⟩ = some (.map (some M))) (hq : W.heap[q]? = some (.cells #[.int .i64 y.f, .int .i64 y.t, .int .i64 y.a, .int .i64 y.v] 201 (0, 0))) :
  W.cell? ⟨b, 0, none⟩ = some (.map (some M)) ∧ W.cell? ⟨q, 0, none⟩ = some (.int .i64 y.f) ∧ W.cell? ⟨q, 1, none⟩ = some (.int .i64 y.t) ∧ W.cell? ⟨q, 2, none⟩ = some (.int .i64 y.a) ∧ W.cell? ⟨q, 3, none⟩ = some (.int .i64 y.v) := ⟨hb, m_cells hq⟩
theorem Mo.snoc {w : World} {t : TypeId} {v : Value} {L : List Msg} {y : Msg} (h : w.ownsRow 0 t 4 v (L.length + 1) (L.flatMap msgCells ++ msgCells y)) : Mo w t v (L ++ [y]) := by
 unfold Mo
 rw [List.length_append, List.flatMap_append]
 simpa using h
theorem MP.notBox {w : World} {S : Nat → Prop} {M N : Nat} {D : DataW Value} {B : List Msg} (h : MP w S M N D B) {b : Nat} {cs : Array Value} (hb : w.heap[b]? = some (.cells cs 179 (0, 0))) : M ≠ b ∧ ∀ id k, (hdOf D id).ownBlock = some k → k ≠ b := by
 constructor
 ·rintro rfl
  obtain ⟨es, clock, hm, _⟩ := h.own
  rw [hb] at hm
  cases hm
 ·rintro id k hk rfl
  obtain ⟨cur, hc⟩ := (h.rows id).tag k hk
  rw [hb] at hc
  cases hc
theorem MP.look {w : World} {S : Nat → Prop} {M N : Nat} {D : DataW Value} {B : List Msg} (h : MP w S M N D B) {id : Int} (hid : I64 id) : Sem.run Tryz.prog (Instr.lookup 177 (.map (some M)) (.int .i64 id) false) w = .ok (hdOf D id) w := by
 obtain ⟨v, ps, hr, hv⟩ := h.own.lookup law64 Tryz.underlying177 (zeroSl w) (zd := .held nilS) (zp := []) rfl (keyOf_i64 hid)
 rw [hr, ← hd_of hv]
theorem MP.store {w w1 : World} {S : Nat → Prop} {M N : Nat} {D : DataW Value} {B : List Msg} (h : MP w S M N D B) (hN : N < 9223372036854775807) {m : Msg} (hid : I64 m.t) {v' : Value}
  (hg : w.grownBy w1 (hdOf D m.t).ownBlock) (hrow : Mo w1 201 v' (toV B m.t ++ [m])) (hloc : v'.ownBlock = (hdOf D m.t).ownBlock ∨ v'.ownBlock = some w.heap.size) (hnew : ∀ k, w.heap.size ≤ k → S k) :
  ∃ w2 D2, Sem.run Tryz.prog (Instr.mapUpdate 177 (.map (some M)) (.int .i64 m.t) v') w1 = .ok () w2 ∧ MP w2 S M (N + 1) D2 (B ++ [m]) ∧ w1.grownBy w2 (some M) := by
 have hown1 : w1.ownsMap Tryz.prog 2 heldR M N D := h.own.kept hg (by
  rcases h.mapRow m.t with e | e
  ·rw [e]; simp
  ·exact fun e' => e e'.symm)
 obtain ⟨w2, hr, hown, hg2⟩ := hown1.update law64 Tryz.underlying177 (by unfold maxLen; omega) (keyOf_i64 hid) (d := .held v') (ps := []) rfl
 exact ⟨w2, _, hr, h.put hg hrow (hloc.imp id (fun e => ⟨_, e, Nat.le_refl _⟩)) hnew hown hg2, hg2⟩
theorem map_nil {t k e : TypeId} (ht : Tryz.prog.underlying t = some (.map k e)) (w : World) (p : Option Nat) : (binOp .eql t (.map p) (.map none)).run Tryz.prog w = .ok (.bool p.isNone) w := by
 have h1 : ∀ d, (Op.equalIn (d + 1) t (.map p) (.map none)).run Tryz.prog w = .ok p.isNone w := fun d => by
  cases p <;> simp [Op.equalIn, run_underlying ht]
 simp only [binOp]
 simp [show Op.equal t (.map p) (.map none) = Op.equalIn (9999 + 1) t (.map p) (.map none) from rfl, h1 9999]
set_option maxHeartbeats 1000000 in
theorem put_loop {w : World} {S : Nat → Prop} {b M N : Nat} {D : DataW Value} {B : List Msg} (hbx : w.heap[b]? = some (.cells #[.map (some M)] 179 (0, 0))) (hSb : S b) (hM : MP w S M N D B) (l : List Msg) (ao : Option Addr) (cap : Nat) (hl : MsAt w (fun k => ¬ S k) ao l) (hok : ∀ m ∈ l, m.ok) (hN : N + l.length < 9223372036854775807) (hB : (B.length + l.length) * 32 ≤ 140737488355328) :
  Calls Tryz.prog 116 #[.pointer (some ⟨b, 0, none⟩), .slice ao l.length cap] w fun r w' => r = .returned (.int .i64 0) ∧ BX w' (fun k => S k ∨ w.heap.size ≤ k) b (N + l.length) (B ++ l) ∧ Fr w w' S := by
 obtain ⟨i0, hi, hz0, hz1, hz2⟩ := info_parts infoMsg
 have HL : Hid (MsAt w (fun k => ¬ S k) ao l) := hl
 have HOk : Hid (∀ m ∈ l, m.ok) := hok
 have HM : Hid _ := hM
 have HSb : Hid _ := hSb
 have HB : Hid _ := hbx
 obtain ⟨p0, p1⟩ := bx_one hbx
 have hq := fun w => map_nil Tryz.underlying177 w (some M)
 clear hl hok hM hSb hbx
 go_enter Tryz.func116, Tryz.ntmps116
 go_wp2
 go_loopw [6, 20] (fun _ i wr => ∃ (j : Nat) (D' : DataW Value), j ≤ l.length ∧ i = .int .i64 j ∧ wr.heap[b]? = some (.cells #[.map (some M)] 179 (0, 0)) ∧ MP wr (fun k => S k ∨ w.heap.size ≤ k) M (N + j) D' (B ++ l.take j) ∧ Fr w wr S) (fun _ i _ => l.length - (intOf i).toNat)
 case atStart =>
  refine ⟨0, D, Nat.zero_le _, rfl, HB.out, ?_, Fr.refl _ _⟩
  rw [List.take_zero, List.append_nil]
  exact HM.out.mono (fun k _ h => Or.inl h)
 case round =>
  obtain ⟨j, D', hj, rfl, hb, hmp, hf⟩ := hrel
  by_cases hlt : j < l.length
  ·obtain ⟨g, off, rfl, hP, hc⟩ := HL.out (by omega)
   obtain ⟨e0, e1, e2, e3⟩ := hc j hlt
   have d0 := fr_cell hf hP e0
   have d1 := fr_cell hf hP e1
   have d2 := fr_cell hf hP e2
   have d3 := fr_cell hf hP e3
   have oky := HOk.out _ (List.getElem_mem hlt)
   have HS : Hid (l.take (j + 1) = l.take j ++ [l[j]]) := List.take_succ_eq_append_getElem hlt
   generalize l[j] = y at d0 d1 d2 d3 oky HS
   obtain ⟨c0, c1⟩ := bx_one hb
   have HMP : Hid _ := hmp
   have HF : Hid _ := hf
   have HBl : Hid _ := hb
   clear e0 e1 e2 e3 hc hmp hf hb
   go_upto_region 8 with (fail)
   have hq1 : (wr.alloc (.cells #[.int .i64 y.f, .int .i64 y.t, .int .i64 y.a, .int .i64 y.v] 201)).heap[wr.heap.size]? = some (.cells #[.int .i64 y.f, .int .i64 y.t, .int .i64 y.a, .int .i64 y.v] 201 (0, 0)) := heap_alloc_new _ _
   have hM1 := HMP.out.new ((Below.refl wr.heap.size wr).alloc (Nat.le_refl _) (.cells #[.int .i64 y.f, .int .i64 y.t, .int .i64 y.a, .int .i64 y.v] 201))
   have hb1 := (Below.heap_alloc wr (.cells #[.int .i64 y.f, .int .i64 y.t, .int .i64 y.a, .int .i64 y.v] 201) b (m_lt HBl.out)).trans HBl.out
   have hf1 : Fr w (wr.alloc (.cells #[.int .i64 y.f, .int .i64 y.t, .int .i64 y.a, .int .i64 y.v] 201)) S := HF.out.trans (Fr.alloc _ _ _) (fun _ _ h => h)
   have hsz : w.heap.size ≤ wr.heap.size := HF.out.size
   have hbq : b ≠ wr.heap.size := by have := m_lt HBl.out; omega
   have HHq : Hid (M < wr.heap.size) := HMP.out.own.lt
   have HHd : Hid (M ≠ b ∧ (S M ∨ w.heap.size ≤ M) ∧ ∀ k, (hdOf D' y.t).ownBlock = some k → (S k ∨ w.heap.size ≤ k) ∧ k ≠ b ∧ k < wr.heap.size) := by
    have := HMP.out.notBox HBl.out
    exact ⟨this.1, HMP.out.inS, fun k hk => ⟨HMP.out.rowS _ _ hk, this.2 _ _ hk, (HMP.out.rows y.t).lt k hk⟩⟩
   generalize wr.alloc _ = W at hq1 hM1 hb1 hf1 ⊢
   generalize wr.heap.size = q at hq1 hsz hbq HHd HHq ⊢
   have hlk0 : Sem.run Tryz.prog (Instr.lookup 177 (.map (some M)) (.int .i64 y.t) false) W.drew = .ok (hdOf D' y.t) W.drew := (hM1.new ((Below.refl W.heap.size W).drew)).look oky.t
   have hlk1 : Sem.run Tryz.prog (Instr.lookup 177 (.map (some M)) (.int .i64 y.t) false) (W.alloc (.cells #[.int .i64 y.f, .int .i64 y.t, .int .i64 y.a, .int .i64 y.v] 201)).drew = .ok (hdOf D' y.t) (W.alloc (.cells #[.int .i64 y.f, .int .i64 y.t, .int .i64 y.a, .int .i64 y.v] 201)).drew := (hM1.new (((Below.refl W.heap.size W).alloc (Nat.le_refl _) _).drew)).look oky.t
   have hM2 := hM1.new (((Below.refl W.heap.size W).drew).alloc (Nat.le_refl _) (.cells #[.int .i64 y.f, .int .i64 y.t, .int .i64 y.a, .int .i64 y.v] 201))
   have hrow := hM2.rows y.t
   obtain ⟨k0, k1, k2, k3⟩ := m_cells hq1
   obtain ⟨b0, b1⟩ := bx_one hb1
   have b0' : (W.alloc (.cells #[.int .i64 y.f, .int .i64 y.t, .int .i64 y.a, .int .i64 y.v] 201)).cell? ⟨b, 0, none⟩ = some (.map (some M)) := fr_cell (Fr.alloc W _ (fun _ => False)) (fun h => h) b0
   have hq2 := (Below.heap_alloc W (.cells #[.int .i64 y.f, .int .i64 y.t, .int .i64 y.a, .int .i64 y.v] 201) q (m_lt hq1)).trans hq1
   have x0 := m_five b0 hq1
   have x1 := m_five b0' hq2
   have hlen : (toV (B ++ l.take j) y.t).length ≤ B.length + j := by
    refine Nat.le_trans (List.length_filter_le _ _) ?_
    rw [List.length_append, List.length_take]; omega
   have HM2 : Hid _ := hM2
   have HRow : Hid _ := hrow
   have HQ1 : Hid _ := hq1
   have HQ2 : Hid _ := hq2
   have HB1 : Hid _ := hb1
   have HF1 : Hid _ := hf1
   have HLen : Hid _ := hlen
   have okt := oky.t
   clear hM1 hM2 hrow hq1 hq2 hb1 hf1 hlen HMP HF HBl c0 c1 d0 d1 d2 d3
   generalize hv : hdOf D' y.t = v at hlk0 hlk1
   have HV : Hid _ := hv
   clear hv
   go_region_held_law (fun w' => w'.cell? ⟨b, 0, none⟩ = some (.map (some M)) ∧ w'.cell? ⟨q, 0, none⟩ = some (.int .i64 y.f) ∧ w'.cell? ⟨q, 1, none⟩ = some (.int .i64 y.t) ∧ w'.cell? ⟨q, 2, none⟩ = some (.int .i64 y.a) ∧ w'.cell? ⟨q, 3, none⟩ = some (.int .i64 y.v)) (first | exact x3 | exact x2 | exact x1 | exact x0)
    ((refine m_step_append rfl (.tmp 36) (.tmp 38) 116 rfl 0 201 i0 (.agg #[.int .i64 0, .int .i64 0, .int .i64 0, .int .i64 0]) 4 32 Tryz.underlying116 hi hz0 hz1 hz2 rfl (by decide) v _ _ (by simp [Act.eval]) (by rw [← HV.out]; exact HRow.out) ⟨W.heap.size, 0, none⟩ 1 1 (msgCells y) (by simp [Act.eval]) rfl (m_four (heap_alloc_new _ _)) (msgOne y) (by have := HLen.out; unfold maxLen; omega) (by have := HLen.out; omega) (Nat.zero_le _) ?_; intro v' w1 hown' hgrow hat; obtain ⟨w2, D2, hst, hmp2, hg2⟩ := HM2.out.store (by omega) (m := y) okt (by rw [HV.out]; exact hgrow) (Mo.snoc hown') (by rw [HV.out]; exact hat) (fun k hk => Or.inr (by have := HF1.out.size; simp at hk; omega)); have x2 := m_five (hgrow.cell b0' (fun e => (HHd.out.2.2 b (by rw [HV.out]; exact e.symm)).2.1 rfl)) ((hgrow.block q (m_lt HQ2.out) (fun e => absurd (HHd.out.2.2 q (by rw [HV.out]; exact e.symm)).2.2 (Nat.lt_irrefl _))).trans HQ2.out); have x3 := m_five (hg2.cell x2.1 (fun e => by cases e; exact HHd.out.1 rfl)) ((hg2.block q (Nat.lt_of_lt_of_le (m_lt HQ2.out) hgrow.size) (fun e => by cases e; exact Nat.lt_irrefl _ HHq.out)).trans ((hgrow.block q (m_lt HQ2.out) (fun e => absurd (HHd.out.2.2 q (by rw [HV.out]; exact e.symm)).2.2 (Nat.lt_irrefl _))).trans HQ2.out)); have H1 : Hid _ := hmp2; have H2 : Hid _ := hg2; have H3 : Hid _ := hgrow; clear hmp2 hg2 hgrow hown' hat))
   all_goals
    have hmp3 := H1.out
    have f2 : Fr W w2 (fun k => S k ∨ w.heap.size ≤ k) := (((Fr.drew W _).trans (Fr.alloc W.drew _ _) (fun _ _ h => h)).trans (Fr.grown H3.out (fun k hk => (HHd.out.2.2 k (by rw [HV.out]; exact hk)).1)) (fun _ _ h => h)).trans (Fr.grown H2.out (fun k hk => by cases hk; exact HHd.out.2.1)) (fun _ _ h => h)
    have hf3 : Fr w w2 S := HF1.out.trans f2 (fun k hk h => h.resolve_right (by omega))
    have hb3 : w2.heap[b]? = some (.cells #[.map (some M)] 179 (0, 0)) := by
     have hlt : b < (W.drew.alloc (.cells #[.int .i64 y.f, .int .i64 y.t, .int .i64 y.a, .int .i64 y.v] 201)).heap.size := by have := m_lt HB1.out; simp; omega
     refine (H2.out.block b (Nat.lt_of_lt_of_le hlt H3.out.size) (fun e => by cases e; exact HHd.out.1 rfl)).trans ?_
     refine (H3.out.block b hlt (fun e => (HHd.out.2.2 b (by rw [HV.out]; exact e.symm)).2.1 rfl)).trans ?_
     exact (Below.heap_alloc W.drew _ b (m_lt HB1.out)).trans HB1.out
    clear hst x0 x1 x2 x3 hlk0 hlk1 b0' b0 b1 k0 k1 k2 k3
    have HH : Hid _ := hmp3
    have HI : Hid _ := hf3
    have HJ : Hid _ := hb3
    clear hmp3 hf3 hb3 f2
    go_wp2
    go_roundw
    case rel =>
     refine ⟨j + 1, D2, by omega, by go_num, HJ.out, ?_, HI.out⟩
     rw [HS.out, ← List.append_assoc, ← Nat.add_assoc]
     exact HH.out
    case measure => simp [intOf]; omega
  ·obtain rfl : j = l.length := by omega
   have hX : BX wr (fun k => S k ∨ w.heap.size ≤ k) b (N + l.length) (B ++ l) := by
    rw [List.take_length] at hmp
    exact ⟨⟨_, hb, .some M D' hmp⟩, Or.inl HSb.out⟩
   have HX : Hid _ := hX
   have HF : Hid _ := hf
   clear hX hf hmp hb
   go_wp2
   go_ret
   exact ⟨rfl, HX.out, HF.out⟩
set_option maxHeartbeats 1000000 in
theorem put_none {w : World} {S : Nat → Prop} {b : Nat} (hbx : w.heap[b]? = some (.cells #[.map none] 179 (0, 0))) (hSb : S b) (l : List Msg) (ao : Option Addr) (cap : Nat) (hl : MsAt w (fun k => ¬ S k) ao l) (hok : ∀ m ∈ l, m.ok) (hN : 0 + l.length < 9223372036854775807) (hB : (([] : List Msg).length + l.length) * 32 ≤ 140737488355328) :
  Calls Tryz.prog 116 #[.pointer (some ⟨b, 0, none⟩), .slice ao l.length cap] w fun r w' => r = .returned (.int .i64 0) ∧ BX w' (fun k => S k ∨ w.heap.size ≤ k) b (0 + l.length) ([] ++ l) ∧ Fr w w' S := by
 obtain ⟨i0, hi, hz0, hz1, hz2⟩ := info_parts infoMsg
 have HL : Hid (MsAt w (fun k => ¬ S k) ao l) := hl
 have HOk : Hid (∀ m ∈ l, m.ok) := hok
 have HSb : Hid _ := hSb
 have HB : Hid _ := hbx
 obtain ⟨p0, p1⟩ := bx_one hbx
 obtain ⟨p2, p3⟩ := bx_one ((Below.heap_alloc w (.map #[] 0) b (m_lt hbx)).trans hbx)
 have hmm := @run_makeMap Tryz.prog
 have hq := fun w => map_nil Tryz.underlying177 w none
 clear hl hok hSb hbx
 go_enter Tryz.func116, Tryz.ntmps116
 go_upto_region 5 with (fail)
 have hbl := m_lt HB.out
 have h1 := m_set1 ((Below.heap_alloc w (.map #[] 0) b hbl).trans HB.out) (.map (some w.heap.size))
 have h2 : MP ((w.alloc (.map #[] 0)).setCell ⟨b, 0, none⟩ (.map (some w.heap.size))) (fun k => S k ∨ w.heap.size ≤ k) w.heap.size 0 (.map []) [] := ((MP.made w (S := fun k => w.heap.size ≤ k) (Nat.le_refl _)).kept (Fr.setCell (S := fun k => k = b) _ _ _ rfl) (fun k hk e => by omega)).mono (fun k _ h => Or.inr h)
 have h3 : Fr w ((w.alloc (.map #[] 0)).setCell ⟨b, 0, none⟩ (.map (some w.heap.size))) S := (Fr.alloc w _ _).trans (Fr.setCell _ _ _ HSb.out) (fun _ _ h => h)
 generalize hMe : w.heap.size = M at h1 h2 h3 ⊢
 generalize World.setCell _ _ _ = W4 at h1 h2 h3 ⊢
 have HMe : Hid _ := hMe
 have H2 : Hid _ := h2
 have H3 : Hid _ := h3
 have H1 : Hid _ := h1
 clear h1 h2 h3 hMe p0 p1 p2 p3 hmm hq
 go_wp2
 go_loopw [6, 20] (fun _ i wr => ∃ (j : Nat) (D' : DataW Value), j ≤ l.length ∧ i = .int .i64 j ∧ wr.heap[b]? = some (.cells #[.map (some M)] 179 (0, 0)) ∧ MP wr (fun k => S k ∨ w.heap.size ≤ k) M (0 + j) D' ([] ++ l.take j) ∧ Fr w wr S) (fun _ i _ => l.length - (intOf i).toNat)
 case atStart => exact ⟨0, .map [], Nat.zero_le _, rfl, H1.out, HMe.out ▸ H2.out, H3.out⟩
 case round =>
  obtain ⟨j, D', hj, rfl, hb, hmp, hf⟩ := hrel
  by_cases hlt : j < l.length
  ·obtain ⟨g, off, rfl, hP, hc⟩ := HL.out (by omega)
   obtain ⟨e0, e1, e2, e3⟩ := hc j hlt
   have d0 := fr_cell hf hP e0
   have d1 := fr_cell hf hP e1
   have d2 := fr_cell hf hP e2
   have d3 := fr_cell hf hP e3
   have oky := HOk.out _ (List.getElem_mem hlt)
   have HS : Hid (l.take (j + 1) = l.take j ++ [l[j]]) := List.take_succ_eq_append_getElem hlt
   generalize l[j] = y at d0 d1 d2 d3 oky HS
   obtain ⟨c0, c1⟩ := bx_one hb
   have HMP : Hid _ := hmp
   have HF : Hid _ := hf
   have HBl : Hid _ := hb
   clear e0 e1 e2 e3 hc hmp hf hb
   go_upto_region 8 with (fail)
   have hq1 : (wr.alloc (.cells #[.int .i64 y.f, .int .i64 y.t, .int .i64 y.a, .int .i64 y.v] 201)).heap[wr.heap.size]? = some (.cells #[.int .i64 y.f, .int .i64 y.t, .int .i64 y.a, .int .i64 y.v] 201 (0, 0)) := heap_alloc_new _ _
   have hM1 := HMP.out.new ((Below.refl wr.heap.size wr).alloc (Nat.le_refl _) (.cells #[.int .i64 y.f, .int .i64 y.t, .int .i64 y.a, .int .i64 y.v] 201))
   have hb1 := (Below.heap_alloc wr (.cells #[.int .i64 y.f, .int .i64 y.t, .int .i64 y.a, .int .i64 y.v] 201) b (m_lt HBl.out)).trans HBl.out
   have hf1 : Fr w (wr.alloc (.cells #[.int .i64 y.f, .int .i64 y.t, .int .i64 y.a, .int .i64 y.v] 201)) S := HF.out.trans (Fr.alloc _ _ _) (fun _ _ h => h)
   have hsz : w.heap.size ≤ wr.heap.size := HF.out.size
   have hbq : b ≠ wr.heap.size := by have := m_lt HBl.out; omega
   have HHq : Hid (M < wr.heap.size) := HMP.out.own.lt
   have HHd : Hid (M ≠ b ∧ (S M ∨ w.heap.size ≤ M) ∧ ∀ k, (hdOf D' y.t).ownBlock = some k → (S k ∨ w.heap.size ≤ k) ∧ k ≠ b ∧ k < wr.heap.size) := by
    have := HMP.out.notBox HBl.out
    exact ⟨this.1, HMP.out.inS, fun k hk => ⟨HMP.out.rowS _ _ hk, this.2 _ _ hk, (HMP.out.rows y.t).lt k hk⟩⟩
   generalize wr.alloc _ = W at hq1 hM1 hb1 hf1 ⊢
   generalize wr.heap.size = q at hq1 hsz hbq HHd HHq ⊢
   have hlk0 : Sem.run Tryz.prog (Instr.lookup 177 (.map (some M)) (.int .i64 y.t) false) W.drew = .ok (hdOf D' y.t) W.drew := (hM1.new ((Below.refl W.heap.size W).drew)).look oky.t
   have hlk1 : Sem.run Tryz.prog (Instr.lookup 177 (.map (some M)) (.int .i64 y.t) false) (W.alloc (.cells #[.int .i64 y.f, .int .i64 y.t, .int .i64 y.a, .int .i64 y.v] 201)).drew = .ok (hdOf D' y.t) (W.alloc (.cells #[.int .i64 y.f, .int .i64 y.t, .int .i64 y.a, .int .i64 y.v] 201)).drew := (hM1.new (((Below.refl W.heap.size W).alloc (Nat.le_refl _) _).drew)).look oky.t
   have hM2 := hM1.new (((Below.refl W.heap.size W).drew).alloc (Nat.le_refl _) (.cells #[.int .i64 y.f, .int .i64 y.t, .int .i64 y.a, .int .i64 y.v] 201))
   have hrow := hM2.rows y.t
   obtain ⟨k0, k1, k2, k3⟩ := m_cells hq1
   obtain ⟨b0, b1⟩ := bx_one hb1
   have b0' : (W.alloc (.cells #[.int .i64 y.f, .int .i64 y.t, .int .i64 y.a, .int .i64 y.v] 201)).cell? ⟨b, 0, none⟩ = some (.map (some M)) := fr_cell (Fr.alloc W _ (fun _ => False)) (fun h => h) b0
   have hq2 := (Below.heap_alloc W (.cells #[.int .i64 y.f, .int .i64 y.t, .int .i64 y.a, .int .i64 y.v] 201) q (m_lt hq1)).trans hq1
   have x0 := m_five b0 hq1
   have x1 := m_five b0' hq2
   have hlen : (toV ([] ++ l.take j) y.t).length ≤ ([] : List Msg).length + j := by
    refine Nat.le_trans (List.length_filter_le _ _) ?_
    rw [List.length_append, List.length_take]; omega
   have HM2 : Hid _ := hM2
   have HRow : Hid _ := hrow
   have HQ1 : Hid _ := hq1
   have HQ2 : Hid _ := hq2
   have HB1 : Hid _ := hb1
   have HF1 : Hid _ := hf1
   have HLen : Hid _ := hlen
   have okt := oky.t
   clear hM1 hM2 hrow hq1 hq2 hb1 hf1 hlen HMP HF HBl c0 c1 d0 d1 d2 d3
   generalize hv : hdOf D' y.t = v at hlk0 hlk1
   have HV : Hid _ := hv
   clear hv
   go_region_held_law (fun w' => w'.cell? ⟨b, 0, none⟩ = some (.map (some M)) ∧ w'.cell? ⟨q, 0, none⟩ = some (.int .i64 y.f) ∧ w'.cell? ⟨q, 1, none⟩ = some (.int .i64 y.t) ∧ w'.cell? ⟨q, 2, none⟩ = some (.int .i64 y.a) ∧ w'.cell? ⟨q, 3, none⟩ = some (.int .i64 y.v)) (first | exact x3 | exact x2 | exact x1 | exact x0)
    ((refine m_step_append rfl (.tmp 36) (.tmp 38) 116 rfl 0 201 i0 (.agg #[.int .i64 0, .int .i64 0, .int .i64 0, .int .i64 0]) 4 32 Tryz.underlying116 hi hz0 hz1 hz2 rfl (by decide) v _ _ (by simp [Act.eval]) (by rw [← HV.out]; exact HRow.out) ⟨W.heap.size, 0, none⟩ 1 1 (msgCells y) (by simp [Act.eval]) rfl (m_four (heap_alloc_new _ _)) (msgOne y) (by have := HLen.out; unfold maxLen; omega) (by have := HLen.out; omega) (Nat.zero_le _) ?_; intro v' w1 hown' hgrow hat; obtain ⟨w2, D2, hst, hmp2, hg2⟩ := HM2.out.store (by omega) (m := y) okt (by rw [HV.out]; exact hgrow) (Mo.snoc hown') (by rw [HV.out]; exact hat) (fun k hk => Or.inr (by have := HF1.out.size; simp at hk; omega)); have x2 := m_five (hgrow.cell b0' (fun e => (HHd.out.2.2 b (by rw [HV.out]; exact e.symm)).2.1 rfl)) ((hgrow.block q (m_lt HQ2.out) (fun e => absurd (HHd.out.2.2 q (by rw [HV.out]; exact e.symm)).2.2 (Nat.lt_irrefl _))).trans HQ2.out); have x3 := m_five (hg2.cell x2.1 (fun e => by cases e; exact HHd.out.1 rfl)) ((hg2.block q (Nat.lt_of_lt_of_le (m_lt HQ2.out) hgrow.size) (fun e => by cases e; exact Nat.lt_irrefl _ HHq.out)).trans ((hgrow.block q (m_lt HQ2.out) (fun e => absurd (HHd.out.2.2 q (by rw [HV.out]; exact e.symm)).2.2 (Nat.lt_irrefl _))).trans HQ2.out)); have H1 : Hid _ := hmp2; have H2 : Hid _ := hg2; have H3 : Hid _ := hgrow; clear hmp2 hg2 hgrow hown' hat))
   all_goals
    have hmp3 := H1.out
    have f2 : Fr W w2 (fun k => S k ∨ w.heap.size ≤ k) := (((Fr.drew W _).trans (Fr.alloc W.drew _ _) (fun _ _ h => h)).trans (Fr.grown H3.out (fun k hk => (HHd.out.2.2 k (by rw [HV.out]; exact hk)).1)) (fun _ _ h => h)).trans (Fr.grown H2.out (fun k hk => by cases hk; exact HHd.out.2.1)) (fun _ _ h => h)
    have hf3 : Fr w w2 S := HF1.out.trans f2 (fun k hk h => h.resolve_right (by omega))
    have hb3 : w2.heap[b]? = some (.cells #[.map (some M)] 179 (0, 0)) := by
     have hlt : b < (W.drew.alloc (.cells #[.int .i64 y.f, .int .i64 y.t, .int .i64 y.a, .int .i64 y.v] 201)).heap.size := by have := m_lt HB1.out; simp; omega
     refine (H2.out.block b (Nat.lt_of_lt_of_le hlt H3.out.size) (fun e => by cases e; exact HHd.out.1 rfl)).trans ?_
     refine (H3.out.block b hlt (fun e => (HHd.out.2.2 b (by rw [HV.out]; exact e.symm)).2.1 rfl)).trans ?_
     exact (Below.heap_alloc W.drew _ b (m_lt HB1.out)).trans HB1.out
    clear hst x0 x1 x2 x3 hlk0 hlk1 b0' b0 b1 k0 k1 k2 k3
    have HH : Hid _ := hmp3
    have HI : Hid _ := hf3
    have HJ : Hid _ := hb3
    clear hmp3 hf3 hb3 f2
    go_wp2
    go_roundw
    case rel =>
     refine ⟨j + 1, D2, by omega, by go_num, HJ.out, ?_, HI.out⟩
     rw [HS.out, ← List.append_assoc, ← Nat.add_assoc]
     exact HH.out
    case measure => simp [intOf]; omega
  ·obtain rfl : j = l.length := by omega
   have hX : BX wr (fun k => S k ∨ w.heap.size ≤ k) b (0 + l.length) ([] ++ l) := by
    rw [List.take_length] at hmp
    exact ⟨⟨_, hb, .some M D' hmp⟩, Or.inl HSb.out⟩
   have HX : Hid _ := hX
   have HF : Hid _ := hf
   clear hX hf hmp hb
   go_wp2
   go_ret
   exact ⟨rfl, HX.out, HF.out⟩
theorem put_box {w : World} {S : Nat → Prop} {b N : Nat} {B : List Msg} (hX : BX w S b N B) (l : List Msg) (ao : Option Addr) (cap : Nat) (hl : MsAt w (fun k => ¬ S k) ao l) (hok : ∀ m ∈ l, m.ok) (hN : N + l.length < 9223372036854775807) (hB : (B.length + l.length) * 32 ≤ 140737488355328) :
  Calls Tryz.prog 116 #[.pointer (some ⟨b, 0, none⟩), .slice ao l.length cap] w fun r w' => r = .returned (.int .i64 0) ∧ BX w' (fun k => S k ∨ w.heap.size ≤ k) b (N + l.length) (B ++ l) ∧ Fr w w' S := by
 obtain ⟨⟨mv, h1, h2⟩, h3⟩ := hX
 rcases h2 with ⟨rfl, h⟩ | ⟨M, D, rfl, h⟩
 ·subst h
  refine (put_none h1 h3 l ao cap hl hok (by omega) hB).mono ?_
  rintro r w' ⟨rfl, hX', hf⟩
  exact ⟨rfl, hX'.more (by omega), hf⟩
 ·exact put_loop h1 h3 h l ao cap hl hok hN hB
end
section
open Go.RowKit
def comes (l : List Mu) (x : Int) : Prop := ∃ m ∈ l, m.k = 3 ∧ m.i = x
def goes (l : List Mu) (x : Int) : Prop := ∃ m ∈ l, m.k = 2 ∧ m.i = x
end
section
open Go.RowKit Go.Maps
theorem plainElem_bool_inv {P : Program} {e : TypeId} (he : P.underlying e = some .bool) {v : Value} {z : DataW Unit × List MemPlace} (h : plainElem P e v = some z) : ∃ a, v = .bool a ∧ z = (.lit (.bool a), []) := by
 unfold plainElem at h
 rw [he] at h
 cases v <;> simp at h
 exact ⟨_, rfl, h.symm⟩
def BMap (w : World) (b n : Nat) (f : Int → Bool) : Prop := ∃ D : DataW Unit, w.ownsMap Tryz.prog 2 (plainElem Tryz.prog 4) b n D ∧ ∀ x, D.atKey (.int .i64 x) (.lit (.bool false)) = .lit (.bool (f x))
theorem mkeyOf {id : Int} (h : I64 id) : keyOf Tryz.prog 2 (.int .i64 id) = some (.int .i64 id) := keyOf_int_mk Tryz.underlying2 (WalkArith.wf_i64 ⟨h.1, h.2⟩)
theorem mlaw64 : Keyed Tryz.prog 2 := int_keyed Tryz.underlying2
theorem BMap.made (w : World) : BMap (w.alloc (.map #[] 0)) w.heap.size 0 (fun _ => false) := ⟨_, World.ownsMap_made w _ _ _, fun _ => rfl⟩
theorem BMap.same {w w' : World} {b n : Nat} {f : Int → Bool} (h : BMap w b n f) (e : w'.heap[b]? = w.heap[b]?) : BMap w' b n f := by
 obtain ⟨D, ⟨es, clock, hb, r⟩, hat⟩ := h
 exact ⟨D, ⟨es, clock, e.trans hb, r⟩, hat⟩
theorem BMap.lt {w : World} {b n : Nat} {f : Int → Bool} (h : BMap w b n f) : b < w.heap.size := by
 obtain ⟨D, h, _⟩ := h
 exact h.lt
theorem BMap.new {w w' : World} {b n : Nat} {f : Int → Bool} (h : BMap w b n f) (hb : Below w.heap.size w w') : BMap w' b n f := h.same (hb.block b h.lt)
theorem BMap.look {w : World} {b n : Nat} {f : Int → Bool} (h : BMap w b n f) {x : Int} (hx : I64 x) : (Instr.lookup 120 (.map (some b)) (.int .i64 x) false).run Tryz.prog w = .ok (.bool (f x)) w := by
 obtain ⟨D, h, hat⟩ := h
 obtain ⟨v, ps, hrun, hv⟩ := h.lookup mlaw64 Tryz.underlying120 (z := .bool false) (by go_simp) (plainElem_bool Tryz.underlying4 false) (mkeyOf hx)
 obtain ⟨a, rfl, hz⟩ := plainElem_bool_inv Tryz.underlying4 hv
 rw [hat x] at hz
 simp only [Prod.mk.injEq, DataW.lit.injEq, Lit.bool.injEq] at hz
 rw [hrun, hz.1]
theorem mkey_ne {i j : Int} (h : i ≠ j) : (Lit.int .i64 i) ≠ (Lit.int .i64 j) := by
 intro e
 cases e
 exact h rfl
theorem BMap.put {w : World} {b n : Nat} {f : Int → Bool} (h : BMap w b n f) (hn : n < maxLen) {x : Int} (hx : I64 x) (c : Bool) : ∃ w', (Instr.mapUpdate 120 (.map (some b)) (.int .i64 x) (.bool c)).run Tryz.prog w = .ok () w' ∧ BMap w' b (n + 1) (fun y => if y = x then c else f y) ∧ Fr w w' (fun k => k = b) := by
 obtain ⟨D, h, hat⟩ := h
 obtain ⟨w', hrun, h1, h2⟩ := h.store mlaw64 Tryz.underlying120 hn (mkeyOf hx) (plainElem_bool Tryz.underlying4 c)
 refine ⟨w', hrun, ⟨_, h1, fun y => ?_⟩, Fr.grown h2.grown (fun k e => by cases e; rfl)⟩
 simp only
 by_cases e : y = x
 ·subst e
  rw [if_pos rfl, atKey_put_same h.isMap (show WideAt.IsKeyLit (.int .i64 y) from trivial)]
 ·rw [if_neg e, atKey_put_other (mkey_ne e), hat]
end
end Go.Proofs.YtmgjlamglhpnaaaGreat
