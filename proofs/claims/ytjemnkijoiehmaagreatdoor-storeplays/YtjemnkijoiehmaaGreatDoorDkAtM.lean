import Derived.Test.YtjemnkijoiehmaaGreatDoorDkMapM
import Derived.Test.YtjemnkijoiehmaaGreatDoorDkNameM
/- A disk as it lies in memory: its block, the maps of files, the row of loose changes. -/
namespace Go.Proofs.YtjemnkijoiehmaaGreatDoor
open Go.RowKit Go.Maps
variable {Xm : Nat → Prop}
def chCells (c : Chg) : List Value := [.int .i64 c.k, .string (str c.nm), .string (str c.to), .string (str c.s)]
/-- A disk on plain data: what is sure, what is loose, how many changes there were, is it dead, the slice of its plan. -/
structure Dk where
  sure : Fl
  loose : List Chg
  n : Nat
  dead : Bool
  pv : Value
def Dk.now (A : Dk) : Fl := doneF A.sure A.loose
/-- Blocks that a disk writes: maps, disks, rows of changes, but none of others' (Xm). -/
def DkB (Xm : Nat → Prop) (w : World) (k : Nat) : Prop := ((∃ es c, w.heap[k]? = some (.map es c)) ∨ ∃ c t f, w.heap[k]? = some (.cells c t f) ∧ (t = 54 ∨ t = 86)) ∧ ¬ Xm k
/-- What a call on a disk leaves alone. -/
def FrD (Xm : Nat → Prop) (B : Nat) (w w' : World) : Prop := Fr w w' (fun k => B ≤ k ∧ DkB Xm w k)
theorem FrD.refl (B : Nat) (w : World) : FrD Xm B w w := Fr.refl _ _
theorem FrD.trans {B : Nat} {a b c : World} (h : FrD Xm B a b) (k : FrD Xm B b c) : FrD Xm B a c := by
  refine ⟨k.os.trans h.os, k.tape.trans h.tape, k.output.trans h.output, Nat.le_trans h.size k.size, fun i hi hn => ?_⟩
  have e := h.block i hi hn
  refine (k.block i (Nat.lt_of_lt_of_le hi h.size) (fun ⟨h1, h2⟩ => hn ⟨h1, ?_⟩)).trans e
  unfold DkB at h2 ⊢
  rw [← e]
  exact h2
theorem FrD.new {B : Nat} {w w' : World} (h : Below w.heap.size w w') : FrD Xm B w w' := Fr.ofBelow h _
theorem FrD.below {B : Nat} {w w' : World} (h : FrD Xm B w w') (hB : B ≤ w.heap.size) : Below B w w' := Fr.below h hB (fun _ hk => hk.1)
theorem lt_blk {w : World} {k : Nat} {o : Obj} (h : w.heap[k]? = some o) : k < w.heap.size := (Array.getElem?_eq_some_iff.1 h).1
structure DA (Xm : Nat → Prop) (w : World) (B p : Nat) (A : Dk) (mn ms : Option Nat) (lv : Value) : Prop where
  blk : w.heap[p]? = some (.cells #[.map mn, .map ms, lv, A.pv, .int .i64 A.n, .bool A.dead] 54 (0, 0))
  now : MapAt w mn A.now
  sure : MapAt w ms A.sure
  two : (mn = none ∧ ms = none ∧ A.loose = []) ∨ ∃ a b, mn = some a ∧ ms = some b ∧ a ≠ b
  row : w.ownsRow B 86 4 lv A.loose.length (A.loose.flatMap chCells)
  ok : ∀ c ∈ A.loose, c.ok
  hp : B ≤ p
  hn : ∀ k, mn = some k → B ≤ k
  hs : ∀ k, ms = some k → B ≤ k
  nx : ∀ k, k = p ∨ mn = some k ∨ ms = some k ∨ lv.ownBlock = some k → ¬ Xm k
  lx : ∀ k, Xm k → k < w.heap.size
def DkAt (Xm : Nat → Prop) (w : World) (B p : Nat) (A : Dk) : Prop := ∃ mn ms lv, DA Xm w B p A mn ms lv
theorem MapAt.kept {w w' : World} {mb : Option Nat} {l : Fl} (h : MapAt w mb l) {S : Nat → Prop} (f : Fr w w' S) (hS : ∀ k, mb = some k → ¬ S k) : MapAt w' mb l := by
  cases mb with
  | none => exact h
  | some b => exact FMap.same h (f.block b (FMap.lt h) (hS b rfl))
theorem row_keep {w w' : World} {base : Nat} {e : TypeId} {size : Nat} {v : Value} {n : Nat} {xs : List Value} {S : Nat → Prop} (h : w.ownsRow base e size v n xs) (f : Fr w w' S) (hS : ∀ k, v.ownBlock = some k → ¬ S k) : w'.ownsRow base e size v n xs := by
  refine ⟨h.1, ?_⟩
  rcases h.2 with h2 | ⟨g, cap, cur, rfl, h3, h4, h5⟩
  · exact Or.inl h2
  · exact Or.inr ⟨g, cap, cur, rfl, h3, (f.block g (lt_blk h4) (hS g rfl)).trans h4, h5⟩
theorem row_tag {w : World} {base : Nat} {e : TypeId} {size : Nat} {v : Value} {n : Nat} {xs : List Value} (h : w.ownsRow base e size v n xs) {k : Nat} (hk : v.ownBlock = some k) : base ≤ k ∧ ∃ c f, w.heap[k]? = some (.cells c e f) := by
  rcases h.2 with ⟨h2, _⟩ | ⟨g, cap, cur, rfl, h3, h4, h5⟩
  · rw [h2] at hk; cases hk
  · cases hk
    exact ⟨h3, _, _, h4⟩
theorem map_tag {w : World} {mb : Option Nat} {l : Fl} (h : MapAt w mb l) {k : Nat} (hk : mb = some k) : ∃ es c, w.heap[k]? = some (.map es c) := by
  subst hk
  exact FMap.isMap h
section
variable {w w' : World} {B p : Nat} {A : Dk} {mn ms : Option Nat} {lv : Value}
theorem DA.plt (h : DA Xm w B p A mn ms lv) : p < w.heap.size := lt_blk h.blk
theorem DA.kept (h : DA Xm w B p A mn ms lv) {S : Nat → Prop} (f : Fr w w' S) (hS : ∀ k, S k → k ≠ p ∧ mn ≠ some k ∧ ms ≠ some k ∧ lv.ownBlock ≠ some k) : DA Xm w' B p A mn ms lv :=
  { h with
    blk := (f.block p h.plt (fun s => (hS p s).1 rfl)).trans h.blk
    now := h.now.kept f (fun k e s => (hS k s).2.1 e)
    sure := h.sure.kept f (fun k e s => (hS k s).2.2.1 e)
    row := row_keep h.row f (fun k e s => (hS k s).2.2.2 e)
    lx := fun k hk => Nat.lt_of_lt_of_le (h.lx k hk) f.size }
theorem DA.new (h : DA Xm w B p A mn ms lv) (hb : Below w.heap.size w w') : DA Xm w' B p A mn ms lv := h.kept (Fr.ofBelow hb (fun _ => False)) (fun _ f => f.elim)
theorem DkAt.new (h : DkAt Xm w B p A) (hb : Below w.heap.size w w') : DkAt Xm w' B p A := by
  obtain ⟨mn, ms, lv, h⟩ := h
  exact ⟨mn, ms, lv, h.new hb⟩
/-- Blocks that are new are no maps of the disk. -/
theorem DkAt.others (h : DkAt Xm w B p A) (hb : Below w.heap.size w w') : DkAt (fun k => Xm k ∨ (w.heap.size ≤ k ∧ k < w'.heap.size)) w' B p A := by
  obtain ⟨mn, ms, lv, h⟩ := h
  have h' := h.new hb
  refine ⟨mn, ms, lv, { h' with nx := fun k e hx => ?_, lx := fun k hx => ?_ }⟩
  · rcases hx with hx | hx
    · exact h.nx k e hx
    · rcases e with e | e | e | e
      · have := h.plt
        omega
      · obtain ⟨es, c, hm⟩ := map_tag h.now e
        have := lt_blk hm
        omega
      · obtain ⟨es, c, hm⟩ := map_tag h.sure e
        have := lt_blk hm
        omega
      · obtain ⟨_, c, f, hm⟩ := row_tag h.row e
        have := lt_blk hm
        omega
  · rcases hx with hx | hx
    · exact h'.lx k hx
    · exact hx.2
theorem DkAt.kept (h : DkAt Xm w B p A) {S : Nat → Prop} (f : Fr w w' S) (hS : ∀ k, S k → Xm k) : DkAt Xm w' B p A := by
  obtain ⟨mn, ms, lv, h⟩ := h
  exact ⟨mn, ms, lv, h.kept f (fun k s => ⟨fun e => h.nx k (.inl e) (hS k s), fun e => h.nx k (.inr (.inl e)) (hS k s), fun e => h.nx k (.inr (.inr (.inl e))) (hS k s), fun e => h.nx k (.inr (.inr (.inr e))) (hS k s)⟩)⟩
theorem DkAt.less {Ym : Nat → Prop} (h : DkAt Xm w B p A) (hY : ∀ k, Ym k → Xm k) : DkAt Ym w B p A := by
  obtain ⟨mn, ms, lv, h⟩ := h
  exact ⟨mn, ms, lv, { h with nx := fun k e hx => h.nx k e (hY k hx), lx := fun k hx => h.lx k (hY k hx) }⟩
theorem DA.cells (h : DA Xm w B p A mn ms lv) : w.cell? ⟨p, 0, none⟩ = some (.map mn) ∧ w.cell? ⟨p, 1, none⟩ = some (.map ms) ∧ w.cell? ⟨p, 2, none⟩ = some lv ∧ w.cell? ⟨p, 3, none⟩ = some A.pv ∧ w.cell? ⟨p, 4, none⟩ = some (.int .i64 A.n) ∧ w.cell? ⟨p, 5, none⟩ = some (.bool A.dead) := by
  have := h.blk
  simp [World.cell?, this]
theorem DA.free (h : DA Xm w B p A mn ms lv) : ∀ i, w.frozen? ⟨p, i, none⟩ = false := by
  have := h.blk
  intro i
  simp [World.frozen?, this]
/-- The blocks of a disk are apart. -/
theorem DA.pmap (h : DA Xm w B p A mn ms lv) : mn ≠ some p ∧ ms ≠ some p := by
  refine ⟨fun e => ?_, fun e => ?_⟩
  · obtain ⟨es, c, hb⟩ := map_tag h.now e
    rw [h.blk] at hb; cases hb
  · obtain ⟨es, c, hb⟩ := map_tag h.sure e
    rw [h.blk] at hb; cases hb
theorem DA.prow (h : DA Xm w B p A mn ms lv) : lv.ownBlock ≠ some p := by
  intro e
  obtain ⟨_, c, f, hb⟩ := row_tag h.row e
  rw [h.blk] at hb
  cases hb
theorem DA.mrow (h : DA Xm w B p A mn ms lv) {k : Nat} (hk : lv.ownBlock = some k) : mn ≠ some k ∧ ms ≠ some k := by
  obtain ⟨_, c, f, hb⟩ := row_tag h.row hk
  refine ⟨fun e => ?_, fun e => ?_⟩
  · obtain ⟨es, c', hb'⟩ := map_tag h.now e
    rw [hb] at hb'; cases hb'
  · obtain ⟨es, c', hb'⟩ := map_tag h.sure e
    rw [hb] at hb'; cases hb'
theorem DA.shape (h : DA Xm w B p A mn ms lv) : ∃ ao c, lv = .slice ao A.loose.length c := by
  rcases h.row.2 with ⟨h1, h2⟩ | ⟨g, cap, cur, rfl, _⟩
  · exact ⟨none, 0, by rw [h1, h2]⟩
  · exact ⟨_, _, rfl⟩
/-- The block p may be written, too. -/
theorem DA.frP (h : DA Xm w B p A mn ms lv) {S : Nat → Prop} (f : Fr w w' S) (hS : ∀ k, S k → k = p) : FrD Xm B w w' :=
  Fr.mono f (fun k _ s => by rw [hS k s]; exact ⟨h.hp, .inr ⟨_, _, _, h.blk, .inl rfl⟩, h.nx p (.inl rfl)⟩)
end
end Go.Proofs.YtjemnkijoiehmaaGreatDoor
