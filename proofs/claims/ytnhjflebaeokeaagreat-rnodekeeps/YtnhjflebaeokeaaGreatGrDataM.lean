import Derived.Test.YtnhjflebaeokeaaGreatNumM
import Derived.Below
/- Graphs as plain lists: which may be, their bytes; how they lie in memory; what a call leaves of them. No function of the program is named here. -/
namespace Go.Proofs.YtnhjflebaeokeaaGreat
open Go.RowKit

/-- An edge: its end and weight. -/
structure Ed where
  t : Int
  w : Int
/-- A vertex: its number, its value, its edges. -/
structure Vx where
  id : Int
  val : Int
  es : List Ed
/-- A number of 64 bits with a sign. -/
def I64 (x : Int) : Prop := -9223372036854775808 ≤ x ∧ x ≤ 9223372036854775807
structure Ed.ok (e : Ed) : Prop where
  t : I64 e.t
  w : I64 e.w
structure Vx.ok (v : Vx) : Prop where
  id : I64 v.id
  val : I64 v.val
  es : ∀ e ∈ v.es, e.ok
  len : v.es.length ≤ 8796093022208
/-- Edges lie in memory from an address on, in a block that P names. -/
def EdAt (w : World) (P : Nat → Prop) (ao : Option Addr) (L : List Ed) : Prop :=
  0 < L.length → ∃ b off, ao = some ⟨b, off, none⟩ ∧ P b ∧ ∀ j (h : j < L.length), w.cell? ⟨b, off + j * 2, none⟩ = some (.int .i64 L[j].t) ∧ w.cell? ⟨b, off + j * 2 + 1, none⟩ = some (.int .i64 L[j].w)
/-- A vertex's three cells. -/
def VxCell (w : World) (P : Nat → Prop) (b o : Nat) (v : Vx) : Prop :=
  ∃ eo ec, w.cell? ⟨b, o, none⟩ = some (.int .i64 v.id) ∧ w.cell? ⟨b, o + 1, none⟩ = some (.int .i64 v.val) ∧ w.cell? ⟨b, o + 2, none⟩ = some (.slice eo v.es.length ec) ∧ EdAt w P eo v.es
/-- Vertices lie in memory from an address on. -/
def VxAt (w : World) (P : Nat → Prop) (ao : Option Addr) (G : List Vx) : Prop :=
  0 < G.length → ∃ b off, ao = some ⟨b, off, none⟩ ∧ P b ∧ ∀ j (h : j < G.length), VxCell w P b (off + j * 3) G[j]
theorem lt_cell {w : World} {b o : Nat} {u : Value} (h : w.cell? ⟨b, o, none⟩ = some u) : b < w.heap.size := World.block_lt_of_cell? w ⟨b, o, none⟩ h
theorem fr_cell {w w' : World} {S : Nat → Prop} (f : Fr w w' S) {b o : Nat} {u : Value} (hb : ¬ S b) (h : w.cell? ⟨b, o, none⟩ = some u) : w'.cell? ⟨b, o, none⟩ = some u :=
  (World.cell?_of_block (w := w) (w' := w') (a := ⟨b, o, none⟩) (f.block b (lt_cell h) hb)).trans h
theorem EdAt.kept {w w' : World} {P Q S : Nat → Prop} {ao : Option Addr} {L : List Ed} (h : EdAt w P ao L) (f : Fr w w' S) (hs : ∀ k, k < w.heap.size → P k → ¬ S k ∧ Q k) : EdAt w' Q ao L := by
  intro hl
  obtain ⟨b, off, e, hb, hc⟩ := h hl
  have hlt := lt_cell (hc 0 hl).1
  refine ⟨b, off, e, (hs b hlt hb).2, fun j hj => ⟨fr_cell f (hs b hlt hb).1 (hc j hj).1, fr_cell f (hs b hlt hb).1 (hc j hj).2⟩⟩
theorem VxCell.kept {w w' : World} {P Q S : Nat → Prop} {b o : Nat} {v : Vx} (h : VxCell w P b o v) (f : Fr w w' S) (hb : ¬ S b) (hs : ∀ k, k < w.heap.size → P k → ¬ S k ∧ Q k) : VxCell w' Q b o v := by
  obtain ⟨eo, ec, h0, h1, h2, h3⟩ := h
  exact ⟨eo, ec, fr_cell f hb h0, fr_cell f hb h1, fr_cell f hb h2, h3.kept f hs⟩
theorem VxCell.lt {w : World} {P : Nat → Prop} {b o : Nat} {v : Vx} (h : VxCell w P b o v) : b < w.heap.size := by
  obtain ⟨eo, ec, h0, _⟩ := h
  exact lt_cell h0
theorem VxAt.kept {w w' : World} {P Q S : Nat → Prop} {ao : Option Addr} {G : List Vx} (h : VxAt w P ao G) (f : Fr w w' S) (hs : ∀ k, k < w.heap.size → P k → ¬ S k ∧ Q k) : VxAt w' Q ao G := by
  intro hl
  obtain ⟨b, off, e, hb, hc⟩ := h hl
  have hlt := (hc 0 hl).lt
  exact ⟨b, off, e, (hs b hlt hb).2, fun j hj => (hc j hj).kept f (hs b hlt hb).1 hs⟩
/-- What lay below a mark, and what was there, stays where new blocks alone are laid. -/
theorem EdAt.below {w w' : World} {P : Nat → Prop} {ao : Option Addr} {L : List Ed} (h : EdAt w P ao L) {B : Nat} (hb : Below B w w') (hP : ∀ k, k < w.heap.size → P k → k < B) : EdAt w' P ao L :=
  h.kept (S := fun k => B ≤ k) ⟨hb.os, hb.tape, hb.output, hb.size, fun k _ hn => hb.block k (by omega)⟩ (fun k hk hp => ⟨by have := hP k hk hp; omega, hp⟩)
theorem VxAt.below {w w' : World} {P : Nat → Prop} {ao : Option Addr} {G : List Vx} (h : VxAt w P ao G) {B : Nat} (hb : Below B w w') (hP : ∀ k, k < w.heap.size → P k → k < B) : VxAt w' P ao G :=
  h.kept (S := fun k => B ≤ k) ⟨hb.os, hb.tape, hb.output, hb.size, fun k _ hn => hb.block k (by omega)⟩ (fun k hk hp => ⟨by have := hP k hk hp; omega, hp⟩)
theorem VxCell.below {w w' : World} {P : Nat → Prop} {b o : Nat} {v : Vx} (h : VxCell w P b o v) {B : Nat} (hb : Below B w w') (hbB : b < B) (hP : ∀ k, k < w.heap.size → P k → k < B) : VxCell w' P b o v :=
  h.kept (S := fun k => B ≤ k) ⟨hb.os, hb.tape, hb.output, hb.size, fun k _ hn => hb.block k (by omega)⟩ (by omega) (fun k hk hp => ⟨by have := hP k hk hp; omega, hp⟩)
theorem EdAt.new {w w' : World} {P : Nat → Prop} {ao : Option Addr} {L : List Ed} (h : EdAt w P ao L) (hb : Below w.heap.size w w') : EdAt w' P ao L := h.below hb (fun _ hk _ => hk)
theorem VxAt.new {w w' : World} {P : Nat → Prop} {ao : Option Addr} {G : List Vx} (h : VxAt w P ao G) (hb : Below w.heap.size w w') : VxAt w' P ao G := h.below hb (fun _ hk _ => hk)
theorem EdAt.mono {w : World} {P Q : Nat → Prop} {ao : Option Addr} {L : List Ed} (h : EdAt w P ao L) (hs : ∀ k, k < w.heap.size → P k → Q k) : EdAt w Q ao L := h.kept (Fr.refl w (fun _ => False)) (fun k hk hp => ⟨fun h => h, hs k hk hp⟩)
theorem VxAt.mono {w : World} {P Q : Nat → Prop} {ao : Option Addr} {G : List Vx} (h : VxAt w P ao G) (hs : ∀ k, k < w.heap.size → P k → Q k) : VxAt w Q ao G := h.kept (Fr.refl w (fun _ => False)) (fun k hk hp => ⟨fun h => h, hs k hk hp⟩)

def Rise (l : List Int) : Prop := ∀ j (h : j + 1 < l.length), l[j] < l[j + 1]
theorem Rise.lt {l : List Int} (h : Rise l) : ∀ (j : Nat) (i : Nat) (hj : j < l.length) (hi : i < j), l[i] < l[j] := by
  intro j
  induction j with
  | zero => intro i _ hi; omega
  | succ j ih =>
    intro i hj hi
    have h1 := h j hj
    by_cases e : i = j
    · subst e; exact h1
    · exact Int.lt_trans (ih i (by omega) (by omega)) h1
def ends (L : List Ed) : List Int := L.map Ed.t
end Go.Proofs.YtnhjflebaeokeaaGreat
