import Derived.Test.YtidghoipmggklaaGreatNumM
import Derived.Below
/- Graphs as plain lists: which may be, their bytes; how they lie in memory; what a call leaves of them. No function of the program is named here. -/
namespace Go.Proofs.YtidghoipmggklaaGreat
open Go.RowKit

/-- An edge: its end and weight. -/
structure Ed where
  t : Int
  w : Int
/-- A vertex: its number, its value, its edges. -/
structure Vx where
  id : Int
  val : Int
  es : List Ed
/-- A number of 64 bits with a sign. -/
def I64 (x : Int) : Prop := -9223372036854775808 ≤ x ∧ x ≤ 9223372036854775807
structure Ed.ok (e : Ed) : Prop where
  t : I64 e.t
  w : I64 e.w
structure Vx.ok (v : Vx) : Prop where
  id : I64 v.id
  val : I64 v.val
  es : ∀ e ∈ v.es, e.ok
  len : v.es.length ≤ 8796093022208
/-- Edges lie in memory from an address on, in a block that P names. -/
def EdAt (w : World) (P : Nat → Prop) (ao : Option Addr) (L : List Ed) : Prop :=
  0 < L.length → ∃ b off, ao = some ⟨b, off, none⟩ ∧ P b ∧ ∀ j (h : j < L.length), w.cell? ⟨b, off + j * 2, none⟩ = some (.int .i64 L[j].t) ∧ w.cell? ⟨b, off + j * 2 + 1, none⟩ = some (.int .i64 L[j].w)
/-- A vertex's three cells. -/
def VxCell (w : World) (P : Nat → Prop) (b o : Nat) (v : Vx) : Prop :=
  ∃ eo ec, w.cell? ⟨b, o, none⟩ = some (.int .i64 v.id) ∧ w.cell? ⟨b, o + 1, none⟩ = some (.int .i64 v.val) ∧ w.cell? ⟨b, o + 2, none⟩ = some (.slice eo v.es.length ec) ∧ EdAt w P eo v.es
/-- Vertices lie in memory from an address on. -/
def VxAt (w : World) (P : Nat → Prop) (ao : Option Addr) (G : List Vx) : Prop :=
  0 < G.length → ∃ b off, ao = some ⟨b, off, none⟩ ∧ P b ∧ ∀ j (h : j < G.length), VxCell w P b (off + j * 3) G[j]
theorem lt_cell {w : World} {b o : Nat} {u : Value} (h : w.cell? ⟨b, o, none⟩ = some u) : b < w.heap.size := World.block_lt_of_cell? w ⟨b, o, none⟩ h
theorem fr_cell {w w' : World} {S : Nat → Prop} (f : Fr w w' S) {b o : Nat} {u : Value} (hb : ¬ S b) (h : w.cell? ⟨b, o, none⟩ = some u) : w'.cell? ⟨b, o, none⟩ = some u :=
  (World.cell?_of_block (w := w) (w' := w') (a := ⟨b, o, none⟩) (f.block b (lt_cell h) hb)).trans h
theorem EdAt.kept {w w' : World} {P Q S : Nat → Prop} {ao : Option Addr} {L : List Ed} (h : EdAt w P ao L) (f : Fr w w' S) (hs : ∀ k, k < w.heap.size → P k → ¬ S k ∧ Q k) : EdAt w' Q ao L := by
  intro hl
  obtain ⟨b, off, e, hb, hc⟩ := h hl
  have hlt := lt_cell (hc 0 hl).1
  refine ⟨b, off, e, (hs b hlt hb).2, fun j hj => ⟨fr_cell f (hs b hlt hb).1 (hc j hj).1, fr_cell f (hs b hlt hb).1 (hc j hj).2⟩⟩
theorem VxCell.kept {w w' : World} {P Q S : Nat → Prop} {b o : Nat} {v : Vx} (h : VxCell w P b o v) (f : Fr w w' S) (hb : ¬ S b) (hs : ∀ k, k < w.heap.size → P k → ¬ S k ∧ Q k) : VxCell w' Q b o v := by
  obtain ⟨eo, ec, h0, h1, h2, h3⟩ := h
  exact ⟨eo, ec, fr_cell f hb h0, fr_cell f hb h1, fr_cell f hb h2, h3.kept f hs⟩
theorem VxCell.lt {w : World} {P : Nat → Prop} {b o : Nat} {v : Vx} (h : VxCell w P b o v) : b < w.heap.size := by
  obtain ⟨eo, ec, h0, _⟩ := h
  exact lt_cell h0
theorem VxAt.kept {w w' : World} {P Q S : Nat → Prop} {ao : Option Addr} {G : List Vx} (h : VxAt w P ao G) (f : Fr w w' S) (hs : ∀ k, k < w.heap.size → P k → ¬ S k ∧ Q k) : VxAt w' Q ao G := by
  intro hl
  obtain ⟨b, off, e, hb, hc⟩ := h hl
  have hlt := (hc 0 hl).lt
  exact ⟨b, off, e, (hs b hlt hb).2, fun j hj => (hc j hj).kept f (hs b hlt hb).1 hs⟩
/-- What lay below a mark, and what was there, stays where new blocks alone are laid. -/
theorem EdAt.below {w w' : World} {P : Nat → Prop} {ao : Option Addr} {L : List Ed} (h : EdAt w P ao L) {B : Nat} (hb : Below B w w') (hP : ∀ k, k < w.heap.size → P k → k < B) : EdAt w' P ao L :=
  h.kept (S := fun k => B ≤ k) ⟨hb.os, hb.tape, hb.output, hb.size, fun k _ hn => hb.block k (by omega)⟩ (fun k hk hp => ⟨by have := hP k hk hp; omega, hp⟩)
theorem VxAt.below {w w' : World} {P : Nat → Prop} {ao : Option Addr} {G : List Vx} (h : VxAt w P ao G) {B : Nat} (hb : Below B w w') (hP : ∀ k, k < w.heap.size → P k → k < B) : VxAt w' P ao G :=
  h.kept (S := fun k => B ≤ k) ⟨hb.os, hb.tape, hb.output, hb.size, fun k _ hn => hb.block k (by omega)⟩ (fun k hk hp => ⟨by have := hP k hk hp; omega, hp⟩)
theorem VxCell.below {w w' : World} {P : Nat → Prop} {b o : Nat} {v : Vx} (h : VxCell w P b o v) {B : Nat} (hb : Below B w w') (hbB : b < B) (hP : ∀ k, k < w.heap.size → P k → k < B) : VxCell w' P b o v :=
  h.kept (S := fun k => B ≤ k) ⟨hb.os, hb.tape, hb.output, hb.size, fun k _ hn => hb.block k (by omega)⟩ (by omega) (fun k hk hp => ⟨by have := hP k hk hp; omega, hp⟩)
theorem EdAt.new {w w' : World} {P : Nat → Prop} {ao : Option Addr} {L : List Ed} (h : EdAt w P ao L) (hb : Below w.heap.size w w') : EdAt w' P ao L := h.below hb (fun _ hk _ => hk)
theorem VxAt.new {w w' : World} {P : Nat → Prop} {ao : Option Addr} {G : List Vx} (h : VxAt w P ao G) (hb : Below w.heap.size w w') : VxAt w' P ao G := h.below hb (fun _ hk _ => hk)
theorem EdAt.mono {w : World} {P Q : Nat → Prop} {ao : Option Addr} {L : List Ed} (h : EdAt w P ao L) (hs : ∀ k, k < w.heap.size → P k → Q k) : EdAt w Q ao L := h.kept (Fr.refl w (fun _ => False)) (fun k hk hp => ⟨fun h => h, hs k hk hp⟩)
theorem VxAt.mono {w : World} {P Q : Nat → Prop} {ao : Option Addr} {G : List Vx} (h : VxAt w P ao G) (hs : ∀ k, k < w.heap.size → P k → Q k) : VxAt w Q ao G := h.kept (Fr.refl w (fun _ => False)) (fun k hk hp => ⟨fun h => h, hs k hk hp⟩)

/-- How many edges, in 64 bits. -/
def sumE (G : List Vx) : Int := G.foldl (fun a v => wrap64 (a + v.es.length)) 0
theorem sumE_snoc (G : List Vx) (k : Nat) (h : k < G.length) : sumE (G.take (k + 1)) = wrap64 (sumE (G.take k) + G[k].es.length) := by
  unfold sumE
  rw [List.take_succ_eq_append_getElem h, List.foldl_append]; rfl
/-- Numbers that rise. -/
def riseB : List Int → Bool
  | [] => true
  | a :: l => (match l with
    | [] => true
    | b :: _ => decide (a < b)) && riseB l
def Rise (l : List Int) : Prop := ∀ j (h : j + 1 < l.length), l[j] < l[j + 1]
theorem riseB_iff (l : List Int) : riseB l = true ↔ Rise l := by
  induction l with
  | nil => exact ⟨fun _ j h => absurd h (by simp), fun _ => rfl⟩
  | cons a l ih =>
    cases l with
    | nil => exact ⟨fun _ j h => absurd h (by simp), fun _ => rfl⟩
    | cons b l =>
      unfold riseB
      rw [Bool.and_eq_true, ih]
      constructor
      · rintro ⟨h1, h2⟩ j hj
        cases j with
        | zero => simpa using h1
        | succ j => exact h2 j (by simpa using hj)
      · intro h
        exact ⟨by simpa using h 0 (by simp), fun j hj => h (j + 1) (by simpa using hj)⟩
theorem Rise.lt {l : List Int} (h : Rise l) : ∀ (j : Nat) (i : Nat) (hj : j < l.length) (hi : i < j), l[i] < l[j] := by
  intro j
  induction j with
  | zero => intro i _ hi; omega
  | succ j ih =>
    intro i hj hi
    have h1 := h j hj
    by_cases e : i = j
    · subst e; exact h1
    · exact Int.lt_trans (ih i (by omega) (by omega)) h1
def ids (G : List Vx) : List Int := G.map Vx.id
theorem ids_len (G : List Vx) : (ids G).length = G.length := by simp [ids]
theorem ids_get (G : List Vx) (j : Nat) (h : j < G.length) : (ids G)[j]'(by rw [ids_len]; exact h) = G[j].id := by simp [ids]
def ends (L : List Ed) : List Int := L.map Ed.t
theorem ends_len (L : List Ed) : (ends L).length = L.length := by simp [ends]
theorem ends_get (L : List Ed) (j : Nat) (h : j < L.length) : (ends L)[j]'(by rw [ends_len]; exact h) = L[j].t := by simp [ends]
/-- All edges' ends rise. -/
def risesE (G : List Vx) : Bool := G.all fun v => riseB (ends v.es)
/-- All edges' ends are there. -/
def thereE (G : List Vx) : Bool := G.all fun v => v.es.all fun e => (ids G).contains e.t
/-- Which graphs may be: 0, or the error. -/
def chk (G : List Vx) : Int := if 256 < G.length ∨ riseB (ids G) = false then 30 else if 2048 < sumE G ∨ risesE G = false ∨ thereE G = false then 31 else 0
/-- Where a number is, or would stand. -/
def findN (l : List Int) (x : Int) : Nat := (l.takeWhile (fun y => decide (y < x))).length
def foundB (l : List Int) (x : Int) : Bool := l[findN l x]? == some x
theorem findN_le (l : List Int) (x : Int) : findN l x ≤ l.length := by
  unfold findN; exact (List.takeWhile_prefix _).length_le
theorem findN_lt (l : List Int) (x : Int) : ∀ j, j < findN l x → ∃ h', l[j]'h' < x := by
  induction l with
  | nil => intro j h; simp [findN] at h
  | cons a l ih =>
    intro j h
    unfold findN at h
    rw [List.takeWhile_cons] at h
    split at h
    · rename_i ha
      cases j with
      | zero => exact ⟨by simp, by simpa using ha⟩
      | succ j =>
        obtain ⟨h1, h2⟩ := ih j (by unfold findN; simpa using h)
        exact ⟨by simpa using h1, by simpa using h2⟩
    · simp at h
theorem findN_stop (l : List Int) (x : Int) (h : findN l x < l.length) : ¬ l[findN l x] < x := by
  induction l with
  | nil => simp at h
  | cons a l ih =>
    by_cases ha : a < x
    · have e : findN (a :: l) x = findN l x + 1 := by unfold findN; rw [List.takeWhile_cons]; simp [ha]
      simp only [e, List.getElem_cons_succ]
      exact ih (by rw [e] at h; simpa using h)
    · have e : findN (a :: l) x = 0 := by unfold findN; rw [List.takeWhile_cons]; simp [ha]
      simp only [e, List.getElem_cons_zero]
      exact ha
/-- Of numbers that rise: the place is known by what stands ahead of it and at it. -/
theorem findN_eq {l : List Int} {x : Int} {i : Nat} (hi : i ≤ l.length) (h1 : ∀ j (h : j < l.length), j < i → l[j] < x) (h2 : ∀ j (h : j < l.length), i ≤ j → ¬ l[j] < x) : findN l x = i := by
  have hle := findN_le l x
  rcases Nat.lt_trichotomy (findN l x) i with h | h | h
  · exact absurd (h1 _ (by omega) h) (findN_stop l x (by omega))
  · exact h
  · obtain ⟨h', h''⟩ := findN_lt l x i h
    exact absurd h'' (h2 i h' (Nat.le_refl _))
theorem foundB_iff {l : List Int} (hr : Rise l) (x : Int) : foundB l x = l.contains x := by
  rw [Bool.eq_iff_iff]
  unfold foundB
  rw [beq_iff_eq, List.contains_iff_mem]
  constructor
  · intro h; exact List.mem_of_getElem? h
  · intro h
    obtain ⟨j, hj, rfl⟩ := List.getElem_of_mem h
    have e : findN l l[j] = j := findN_eq (by omega) (fun i hi hij => hr.lt j i hj hij) (fun i hi hij => by
      by_cases e : i = j
      · subst e; omega
      · have := hr.lt i j hi (by omega); omega)
    rw [e, List.getElem?_eq_getElem hj]
end Go.Proofs.YtidghoipmggklaaGreat
