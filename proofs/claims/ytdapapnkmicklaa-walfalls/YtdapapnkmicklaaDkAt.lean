/- A disk as it lies in memory: its block, the maps of files, the row of loose changes. -/
import Derived.Test.YtdapapnkmicklaaDkMap
import Derived.Test.YtdapapnkmicklaaDkName
namespace Go.Proofs.Ytdapapnkmicklaa
open Go.RowKit Go.Maps
def chCells (c : Chg) : List Value := [.int .i64 c.k, .string (str c.nm), .string (str c.to), .string (str c.s)]
/-- A disk on plain data: what is sure, what is loose, how many changes there were, is it dead, the slice of its plan. -/
structure Dk where
  sure : Fl
  loose : List Chg
  n : Nat
  dead : Bool
  pv : Value
def Dk.now (A : Dk) : Fl := doneF A.sure A.loose
/-- Blocks that a disk writes: maps, disks, rows of changes. -/
def DkB (w : World) (k : Nat) : Prop := (∃ es c, w.heap[k]? = some (.map es c)) ∨ ∃ c t f, w.heap[k]? = some (.cells c t f) ∧ (t = 69 ∨ t = 104)
/-- What a call on a disk leaves alone. -/
def FrD (B : Nat) (w w' : World) : Prop := Fr w w' (fun k => B ≤ k ∧ DkB w k)
theorem FrD.refl (B : Nat) (w : World) : FrD B w w := Fr.refl _ _
theorem FrD.trans {B : Nat} {a b c : World} (h : FrD B a b) (k : FrD B b c) : FrD B a c := by
  refine ⟨k.os.trans h.os, k.tape.trans h.tape, k.output.trans h.output, Nat.le_trans h.size k.size, fun i hi hn => ?_⟩
  have e := h.block i hi hn
  refine (k.block i (Nat.lt_of_lt_of_le hi h.size) (fun ⟨h1, h2⟩ => hn ⟨h1, ?_⟩)).trans e
  unfold DkB at h2 ⊢
  rw [← e]
  exact h2
theorem FrD.new {B : Nat} {w w' : World} (h : Below w.heap.size w w') : FrD B w w' := Fr.ofBelow h _
theorem FrD.below {B : Nat} {w w' : World} (h : FrD B w w') (hB : B ≤ w.heap.size) : Below B w w' := Fr.below h hB (fun _ hk => hk.1)
theorem lt_blk {w : World} {k : Nat} {o : Obj} (h : w.heap[k]? = some o) : k < w.heap.size := (Array.getElem?_eq_some_iff.1 h).1
structure DA (w : World) (B p : Nat) (A : Dk) (mn ms : Option Nat) (lv : Value) : Prop where
  blk : w.heap[p]? = some (.cells #[.map mn, .map ms, lv, A.pv, .int .i64 A.n, .bool A.dead] 69 (0, 0))
  now : MapAt w mn A.now
  sure : MapAt w ms A.sure
  two : (mn = none ∧ ms = none ∧ A.loose = []) ∨ ∃ a b, mn = some a ∧ ms = some b ∧ a ≠ b
  row : w.ownsRow B 104 4 lv A.loose.length (A.loose.flatMap chCells)
  ok : ∀ c ∈ A.loose, c.ok
  hp : B ≤ p
  hn : ∀ k, mn = some k → B ≤ k
  hs : ∀ k, ms = some k → B ≤ k
def DkAt (w : World) (B p : Nat) (A : Dk) : Prop := ∃ mn ms lv, DA w B p A mn ms lv
theorem MapAt.kept {w w' : World} {mb : Option Nat} {l : Fl} (h : MapAt w mb l) {S : Nat → Prop} (f : Fr w w' S) (hS : ∀ k, mb = some k → ¬ S k) : MapAt w' mb l := by
  cases mb with
  | none => exact h
  | some b => exact FMap.same h (f.block b (FMap.lt h) (hS b rfl))
theorem row_keep {w w' : World} {base : Nat} {e : TypeId} {size : Nat} {v : Value} {n : Nat} {xs : List Value} {S : Nat → Prop} (h : w.ownsRow base e size v n xs) (f : Fr w w' S) (hS : ∀ k, v.ownBlock = some k → ¬ S k) : w'.ownsRow base e size v n xs := by
  refine ⟨h.1, ?_⟩
  rcases h.2 with h2 | ⟨g, cap, cur, rfl, h3, h4, h5⟩
  · exact Or.inl h2
  · exact Or.inr ⟨g, cap, cur, rfl, h3, (f.block g (lt_blk h4) (hS g rfl)).trans h4, h5⟩
theorem row_tag {w : World} {base : Nat} {e : TypeId} {size : Nat} {v : Value} {n : Nat} {xs : List Value} (h : w.ownsRow base e size v n xs) {k : Nat} (hk : v.ownBlock = some k) : base ≤ k ∧ ∃ c f, w.heap[k]? = some (.cells c e f) := by
  rcases h.2 with ⟨h2, _⟩ | ⟨g, cap, cur, rfl, h3, h4, h5⟩
  · rw [h2] at hk; cases hk
  · cases hk
    exact ⟨h3, _, _, h4⟩
theorem map_tag {w : World} {mb : Option Nat} {l : Fl} (h : MapAt w mb l) {k : Nat} (hk : mb = some k) : ∃ es c, w.heap[k]? = some (.map es c) := by
  subst hk
  exact FMap.isMap h
section
variable {w w' : World} {B p : Nat} {A : Dk} {mn ms : Option Nat} {lv : Value}
theorem DA.plt (h : DA w B p A mn ms lv) : p < w.heap.size := lt_blk h.blk
theorem DA.kept (h : DA w B p A mn ms lv) {S : Nat → Prop} (f : Fr w w' S) (hS : ∀ k, S k → k ≠ p ∧ mn ≠ some k ∧ ms ≠ some k ∧ lv.ownBlock ≠ some k) : DA w' B p A mn ms lv :=
  { h with
    blk := (f.block p h.plt (fun s => (hS p s).1 rfl)).trans h.blk
    now := h.now.kept f (fun k e s => (hS k s).2.1 e)
    sure := h.sure.kept f (fun k e s => (hS k s).2.2.1 e)
    row := row_keep h.row f (fun k e s => (hS k s).2.2.2 e) }
theorem DA.new (h : DA w B p A mn ms lv) (hb : Below w.heap.size w w') : DA w' B p A mn ms lv := h.kept (Fr.ofBelow hb (fun _ => False)) (fun _ f => f.elim)
theorem DkAt.new (h : DkAt w B p A) (hb : Below w.heap.size w w') : DkAt w' B p A := by
  obtain ⟨mn, ms, lv, h⟩ := h
  exact ⟨mn, ms, lv, h.new hb⟩
theorem DA.cells (h : DA w B p A mn ms lv) : w.cell? ⟨p, 0, none⟩ = some (.map mn) ∧ w.cell? ⟨p, 1, none⟩ = some (.map ms) ∧ w.cell? ⟨p, 2, none⟩ = some lv ∧ w.cell? ⟨p, 3, none⟩ = some A.pv ∧ w.cell? ⟨p, 4, none⟩ = some (.int .i64 A.n) ∧ w.cell? ⟨p, 5, none⟩ = some (.bool A.dead) := by
  have := h.blk
  simp [World.cell?, this]
theorem DA.free (h : DA w B p A mn ms lv) : ∀ i, w.frozen? ⟨p, i, none⟩ = false := by
  have := h.blk
  intro i
  simp [World.frozen?, this]
/-- The blocks of a disk are apart. -/
theorem DA.pmap (h : DA w B p A mn ms lv) : mn ≠ some p ∧ ms ≠ some p := by
  refine ⟨fun e => ?_, fun e => ?_⟩
  · obtain ⟨es, c, hb⟩ := map_tag h.now e
    rw [h.blk] at hb; cases hb
  · obtain ⟨es, c, hb⟩ := map_tag h.sure e
    rw [h.blk] at hb; cases hb
theorem DA.prow (h : DA w B p A mn ms lv) : lv.ownBlock ≠ some p := by
  intro e
  obtain ⟨_, c, f, hb⟩ := row_tag h.row e
  rw [h.blk] at hb
  cases hb
theorem DA.mrow (h : DA w B p A mn ms lv) {k : Nat} (hk : lv.ownBlock = some k) : mn ≠ some k ∧ ms ≠ some k := by
  obtain ⟨_, c, f, hb⟩ := row_tag h.row hk
  refine ⟨fun e => ?_, fun e => ?_⟩
  · obtain ⟨es, c', hb'⟩ := map_tag h.now e
    rw [hb] at hb'; cases hb'
  · obtain ⟨es, c', hb'⟩ := map_tag h.sure e
    rw [hb] at hb'; cases hb'
theorem DA.shape (h : DA w B p A mn ms lv) : ∃ ao c, lv = .slice ao A.loose.length c := by
  rcases h.row.2 with ⟨h1, h2⟩ | ⟨g, cap, cur, rfl, _⟩
  · exact ⟨none, 0, by rw [h1, h2]⟩
  · exact ⟨_, _, rfl⟩
/-- The block p may be written, too. -/
theorem DA.frP (h : DA w B p A mn ms lv) {S : Nat → Prop} (f : Fr w w' S) (hS : ∀ k, S k → k = p) : FrD B w w' :=
  Fr.mono f (fun k _ s => by rw [hS k s]; exact ⟨h.hp, .inr ⟨_, _, _, h.blk, .inl rfl⟩⟩)
end
theorem chc_len (L : List Chg) : (L.flatMap chCells).length = L.length * 4 := by
  induction L with
  | nil => rfl
  | cons c r ih => rw [List.flatMap_cons, List.length_append, ih]; simp [chCells]; omega
theorem chc_get (L : List Chg) (j : Nat) (h : j < L.length) : (L.flatMap chCells)[j * 4]? = some (.int .i64 L[j].k) ∧ (L.flatMap chCells)[j * 4 + 1]? = some (.string (str L[j].nm)) ∧ (L.flatMap chCells)[j * 4 + 2]? = some (.string (str L[j].to)) ∧ (L.flatMap chCells)[j * 4 + 3]? = some (.string (str L[j].s)) := by
  induction L generalizing j with
  | nil => simp at h
  | cons c r ih =>
    rw [List.flatMap_cons]
    have hl : (chCells c).length = 4 := rfl
    cases j with
    | zero => simp [chCells]
    | succ j =>
      have h1 := ih j (by simpa using h)
      have e : ∀ i, (chCells c ++ r.flatMap chCells)[(j + 1) * 4 + i]? = (r.flatMap chCells)[j * 4 + i]? := fun i => by
        rw [List.getElem?_append_right (by rw [hl]; omega), hl]
        congr 1
        omega
      have e0 := e 0
      have e1 := e 1
      have e2 := e 2
      have e3 := e 3
      rw [Nat.add_zero, Nat.add_zero] at e0
      rw [e0, e1, e2, e3]
      simpa using h1
/-- The cells of a row of changes. -/
theorem chrow_at {w : World} {B n cap : Nat} {o : Option Addr} {L : List Chg} (h : w.ownsRow B 104 4 (.slice o n cap) L.length (L.flatMap chCells)) (hL : 0 < L.length) : ∃ g, o = some ⟨g, 0, none⟩ ∧ n = L.length ∧ n ≤ cap ∧ ∀ j (hj : j < L.length), w.cell? ⟨g, j * 4, none⟩ = some (.int .i64 L[j].k) ∧ w.cell? ⟨g, j * 4 + 1, none⟩ = some (.string (str L[j].nm)) ∧ w.cell? ⟨g, j * 4 + 2, none⟩ = some (.string (str L[j].to)) ∧ w.cell? ⟨g, j * 4 + 3, none⟩ = some (.string (str L[j].s)) := by
  rcases h.2 with ⟨h1, h2⟩ | ⟨g, cap', cur, h1, hb, hg, hn, hc, hcs', ht⟩
  · omega
  · cases h1
    refine ⟨g, rfl, rfl, hn, fun j hj => ?_⟩
    have hl := chc_len L
    obtain ⟨a0, a1, a2, a3⟩ := chc_get L j hj
    rw [← ht] at a0 a1 a2 a3
    have hlt : ∀ i, i < 4 → j * 4 + i < L.length * 4 := fun i hi => by omega
    rw [List.getElem?_take_of_lt (by have := hlt 0 (by decide); omega)] at a0
    rw [List.getElem?_take_of_lt (hlt 1 (by decide))] at a1
    rw [List.getElem?_take_of_lt (hlt 2 (by decide))] at a2
    rw [List.getElem?_take_of_lt (hlt 3 (by decide))] at a3
    simp only [Array.getElem?_toList] at a0 a1 a2 a3
    refine ⟨?_, ?_, ?_, ?_⟩ <;> simp [World.cell?, hg, a0, a1, a2, a3]
end Go.Proofs.Ytdapapnkmicklaa
