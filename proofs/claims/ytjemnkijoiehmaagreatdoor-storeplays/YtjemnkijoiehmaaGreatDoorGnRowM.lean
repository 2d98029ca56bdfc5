import Derived.Test.YtjemnkijoiehmaaGreatDoorNumM
import Derived.Test.YtjemnkijoiehmaaGreatDoorProg
import Derived.Maps.AppendAt
import Derived.WalkKit
import Derived.OwnWalk
import Derived.Below
/- Rows of elements of any make in memory: rows that can be read, rows of one's own, appends. -/
namespace Go.Proofs.YtjemnkijoiehmaaGreatDoor
open Go.RowKit
theorem glt_blk {w : World} {k : Nat} {o : Obj} (h : w.heap[k]? = some o) : k < w.heap.size := (Array.getElem?_eq_some_iff.1 h).1
theorem glt_cell {w : World} {b o : Nat} {u : Value} (h : w.cell? ⟨b, o, none⟩ = some u) : b < w.heap.size := World.block_lt_of_cell? w ⟨b, o, none⟩ h
theorem gfr_cell {w w' : World} {S : Nat → Prop} (f : Fr w w' S) {b o : Nat} {u : Value} (hb : ¬ S b) (h : w.cell? ⟨b, o, none⟩ = some u) : w'.cell? ⟨b, o, none⟩ = some u :=
  (World.cell?_of_block (a := ⟨b, o, none⟩) (f.block b (glt_cell h) hb)).trans h
theorem gone_new (w : World) (x : Obj) : Below w.heap.size w (w.alloc x) := (Below.refl _ _).alloc (Nat.le_refl _) _
theorem gnew_cell {w w' : World} (hb : Below w.heap.size w w') {b o : Nat} {u : Value} (h : w.cell? ⟨b, o, none⟩ = some u) : w'.cell? ⟨b, o, none⟩ = some u := (hb.cell (p := ⟨b, o, none⟩) (glt_cell h)).trans h
section
variable {α : Type} {enc : α → List Value} {size bytes : Nat} {t e : TypeId}
theorem genc_get (hl : ∀ x, (enc x).length = size) : ∀ (l : List α) (j : Nat) (h : j < l.length) (i : Nat), i < size → (l.flatMap enc)[j * size + i]? = (enc l[j])[i]?
  | [], j, h, i, hi => by simp at h
  | c :: r, 0, h, i, hi => by
    rw [List.flatMap_cons, Nat.zero_mul, Nat.zero_add, List.getElem?_append_left (by rw [hl]; exact hi)]
    rfl
  | c :: r, j + 1, h, i, hi => by
    rw [List.flatMap_cons, List.getElem?_append_right (by rw [hl, Nat.add_mul]; omega), hl, show (j + 1) * size + i - size = j * size + i by rw [Nat.add_mul]; omega, genc_get hl r j (by simpa using h) i hi]
    rfl
theorem genc_drop (hl : ∀ x, (enc x).length = size) : ∀ (l : List α) (j : Nat), (l.flatMap enc).drop (j * size) = (l.drop j).flatMap enc
  | l, 0 => by simp
  | [], j + 1 => by simp
  | c :: r, j + 1 => by
    rw [List.flatMap_cons, List.drop_succ_cons, ← genc_drop hl r j, List.drop_append, hl, List.drop_of_length_le (by rw [hl, Nat.add_mul]; omega), List.nil_append]
    congr 1
    rw [Nat.add_mul]; omega
theorem genc_take (hl : ∀ x, (enc x).length = size) : ∀ (l : List α) (j : Nat), (l.flatMap enc).take (j * size) = (l.take j).flatMap enc
  | l, 0 => by simp
  | [], j + 1 => by simp
  | c :: r, j + 1 => by
    rw [List.flatMap_cons, List.take_succ_cons, List.flatMap_cons, ← genc_take hl r j, List.take_append, hl, List.take_of_length_le (by rw [hl, Nat.add_mul]; omega)]
    congr 2
    rw [Nat.add_mul]; omega
/-- Elements that can be read. -/
def GS (enc : α → List Value) (w : World) (v : Value) (L : List α) : Prop := ∃ ao cap, v = .slice ao L.length cap ∧ L.length ≤ cap ∧ (0 < L.length → ∃ b off, ao = some ⟨b, off, none⟩ ∧ ∀ j u, (L.flatMap enc)[j]? = some u → w.cell? ⟨b, off + j, none⟩ = some u)
/-- Elements in a row of one's own. -/
def GO (enc : α → List Value) (size : Nat) (e : TypeId) (w : World) (B : Nat) (v : Value) (L : List α) : Prop := w.ownsRow B e size v L.length (L.flatMap enc)
variable {w w' : World} {B : Nat} {v : Value} {L : List α}
theorem GO.shape (h : GO enc size e w B v L) : ∃ ao c, v = .slice ao L.length c ∧ L.length ≤ c ∧ (0 < L.length → ∃ g, ao = some ⟨g, 0, none⟩) := by
  rcases h.2 with ⟨h1, h2⟩ | ⟨g, cap, cur, rfl, _, _, h3, _⟩
  · exact ⟨none, 0, by rw [h1, h2], by omega, fun e => by omega⟩
  · exact ⟨_, _, rfl, h3, fun _ => ⟨g, rfl⟩⟩
theorem GO.raw {g n cap : Nat} (h : GO enc size e w B (.slice (some ⟨g, 0, none⟩) n cap) L) : ∀ j u, (L.flatMap enc)[j]? = some u → w.cell? ⟨g, j, none⟩ = some u := by
  intro j u hu
  obtain ⟨ao, c, e, _⟩ := h.shape
  cases e
  have := World.ownsRow.cells h (g := g) rfl _ _ hu
  rw [Addr.add_lit] at this
  simpa using this
theorem GO.at_ (hl : ∀ x, (enc x).length = size) {g n cap : Nat} (h : GO enc size e w B (.slice (some ⟨g, 0, none⟩) n cap) L) (j : Nat) (hj : j < L.length) (i : Nat) (hi : i < size) {u : Value} (hu : (enc L[j])[i]? = some u) : w.cell? ⟨g, j * size + i, none⟩ = some u :=
  h.raw _ _ ((genc_get hl L j hj i hi).trans hu)
theorem GO.toS (h : GO enc size e w B v L) : GS enc w v L := by
  obtain ⟨ao, c, rfl, hc, hg⟩ := h.shape
  refine ⟨ao, c, rfl, hc, fun h0 => ?_⟩
  obtain ⟨g, rfl⟩ := hg h0
  exact ⟨g, 0, rfl, fun j u hu => by rw [Nat.zero_add]; exact h.raw j u hu⟩
theorem GO.nil (enc : α → List Value) (size : Nat) (e : TypeId) (w : World) (B : Nat) : GO enc size e w B (.slice none 0 0) [] := World.ownsRow_nil _ _ _ _
theorem GO.kept (h : GO enc size e w B v L) {S : Nat → Prop} (f : Fr w w' S) (hS : ∀ k, v.ownBlock = some k → ¬ S k) : GO enc size e w' B v L := by
  refine ⟨h.1, ?_⟩
  rcases h.2 with h2 | ⟨g, cap, cur, rfl, h3, h4, h5⟩
  · exact Or.inl h2
  · exact Or.inr ⟨g, cap, cur, rfl, h3, (f.block g (glt_blk h4) (hS g rfl)).trans h4, h5⟩
theorem GO.new (h : GO enc size e w B v L) (hb : Below w.heap.size w w') : GO enc size e w' B v L := h.kept (Fr.ofBelow hb (fun _ => False)) (fun _ _ h => h)
theorem GO.lt (h : GO enc size e w B v L) : ∀ k, v.ownBlock = some k → B ≤ k ∧ k < w.heap.size := World.ownsRow.lt h
theorem GO.lower (h : GO enc size e w B v L) {C : Nat} (hC : C ≤ B) : GO enc size e w C v L := by
  refine ⟨h.1, ?_⟩
  rcases h.2 with h2 | ⟨g, cap, cur, rfl, h3, h4⟩
  · exact .inl h2
  · exact .inr ⟨g, cap, cur, rfl, by omega, h4⟩
theorem GO.tag (h : GO enc size e w B v L) {k : Nat} (hk : v.ownBlock = some k) : B ≤ k ∧ ∃ c f, w.heap[k]? = some (.cells c e f) := by
  rcases h.2 with ⟨h2, _⟩ | ⟨g, cap, cur, rfl, h3, h4, h5⟩
  · rw [h2] at hk; cases hk
  · cases hk
    exact ⟨h3, _, _, h4⟩
theorem GO.made {g : Nat} (h : w.heap[g]? = some (.cells #[] e (0, 0))) : GO enc size e w g (.slice (some ⟨g, 0, none⟩) 0 0) [] := ⟨by simp, .inr ⟨g, 0, #[], rfl, Nat.le_refl _, h, Nat.le_refl _, by simp, by simp, by simp⟩⟩
theorem GS.new (h : GS enc w v L) (hb : Below w.heap.size w w') : GS enc w' v L := by
  obtain ⟨ao, cap, rfl, h1, h2⟩ := h
  refine ⟨ao, cap, rfl, h1, fun h0 => ?_⟩
  obtain ⟨b, off, e, h3⟩ := h2 h0
  exact ⟨b, off, e, fun j u hu => gnew_cell hb (h3 j u hu)⟩
theorem GS.shape (h : GS enc w v L) : ∃ ao c, v = .slice ao L.length c ∧ L.length ≤ c := by
  obtain ⟨ao, c, e, hc, _⟩ := h
  exact ⟨ao, c, e, hc⟩
theorem GS.at_ (hl : ∀ x, (enc x).length = size) {ao : Option Addr} {n cap : Nat} (h : GS enc w (.slice ao n cap) L) (j : Nat) (hj : j < L.length) : ∃ b off, ao = some ⟨b, off, none⟩ ∧ ∀ i u, i < size → (enc L[j])[i]? = some u → w.cell? ⟨b, off + (j * size + i), none⟩ = some u := by
  obtain ⟨ao', c, e, _, h2⟩ := h
  cases e
  obtain ⟨b, off, rfl, hc⟩ := h2 (by omega)
  exact ⟨b, off, rfl, fun i u hi hu => hc _ _ ((genc_get hl L j hj i hi).trans hu)⟩
theorem GS.one {g : Nat} {x : α} {cs : Array Value} {ty : TypeId} {f : Nat × Nat} (h : w.heap[g]? = some (.cells cs ty f)) (hc : cs.toList = enc x) (c : Nat) (h1 : 1 ≤ c) : GS enc w (.slice (some ⟨g, 0, none⟩) 1 c) [x] := by
  refine ⟨_, _, rfl, h1, fun _ => ⟨g, 0, rfl, fun j u hu => ?_⟩⟩
  rw [List.flatMap_cons, List.flatMap_nil, List.append_nil, ← hc] at hu
  rw [Nat.zero_add]
  simpa [World.cell?, h] using hu
/-- Where a slice from an index on begins. -/
def gsub (size : Nat) (go : Option Addr) (gc at_ : Nat) : Option Addr := if gc = at_ then go else go.map fun a => ⟨a.block, a.off + at_ * size, none⟩
theorem GS.sub (hl : ∀ x, (enc x).length = size) {ao : Option Addr} {n cap : Nat} (h : GS enc w (.slice ao n cap) L) (a b c : Nat) (hab : a ≤ b) (hb : b ≤ L.length) (hc : b ≤ c) : GS enc w (.slice (gsub size ao c a) (b - a) (c - a)) ((L.take b).drop a) := by
  obtain ⟨ao', cap', e, h1, h2⟩ := h
  cases e
  have hlen : ((L.take b).drop a).length = b - a := by simp; omega
  refine ⟨_, _, by rw [hlen], by rw [hlen]; omega, fun h0 => ?_⟩
  rw [hlen] at h0
  obtain ⟨bl, off, rfl, hcell⟩ := h2 (by omega)
  have hne : ¬ c = a := by omega
  refine ⟨bl, off + a * size, by simp [gsub, hne], fun j u hu => ?_⟩
  rw [← genc_drop hl, ← genc_take hl, List.getElem?_drop] at hu
  have h3 := List.getElem?_eq_some_iff.1 hu
  have h4 : a * size + j < b * size := by
    obtain ⟨h5, _⟩ := h3
    rw [List.length_take] at h5
    omega
  rw [List.getElem?_take_of_lt h4] at hu
  rw [Nat.add_assoc]
  exact hcell _ _ hu
end
/-- An integer in its cell. -/
def ie (x : Int) : List Value := [.int .i64 x]
theorem ie_len (x : Int) : (ie x).length = 1 := rfl
theorem ie_map (L : List Int) : L.flatMap ie = L.map (Value.int .i64) := by
  induction L with
  | nil => rfl
  | cons c r ih => rw [List.flatMap_cons, ih]; rfl
/-- Integers that can be read; integers in a row of one's own. -/
def IS (w : World) (v : Value) (L : List Int) : Prop := GS ie w v L
def IO_ (w : World) (B : Nat) (v : Value) (L : List Int) : Prop := GO ie 1 3 w B v L
theorem IS.at_ {w : World} {ao : Option Addr} {n cap : Nat} {L : List Int} (h : IS w (.slice ao n cap) L) (j : Nat) (hj : j < L.length) : ∃ b off, ao = some ⟨b, off, none⟩ ∧ w.cell? ⟨b, off + j, none⟩ = some (.int .i64 L[j]) := by
  obtain ⟨b, off, e, hc⟩ := GS.at_ ie_len h j hj
  exact ⟨b, off, e, by simpa using hc 0 _ (by decide) rfl⟩
theorem IO_.at_ {w : World} {B g n cap : Nat} {L : List Int} (h : IO_ w B (.slice (some ⟨g, 0, none⟩) n cap) L) (j : Nat) (hj : j < L.length) : w.cell? ⟨g, j, none⟩ = some (.int .i64 L[j]) := by
  have := GO.at_ ie_len h j hj 0 (by decide) (u := .int .i64 L[j]) rfl
  simpa using this
end Go.Proofs.YtjemnkijoiehmaaGreatDoor
