import Derived.Test.YtjemnkijoiehmaaGreatDoorDkAwM
import Derived.Test.YtjemnkijoiehmaaGreatDoorWlMathM
import Derived.Maps.AppendAt
import Derived.ArgAppend
/- Rows of texts in memory: those that can be read, those of one's own (from a place of their block on); appends. -/
namespace Go.Proofs.YtjemnkijoiehmaaGreatDoor
open Go.RowKit Go.Maps
variable {Xm : Nat → Prop}
/-- Texts that can be read. -/
def TxS (w : World) (v : Value) (R : List Bs) : Prop := ∃ ao cap, v = .slice ao R.length cap ∧ R.length ≤ cap ∧ (0 < R.length → ∃ b off, ao = some ⟨b, off, none⟩ ∧ ∀ j (h : j < R.length), w.cell? ⟨b, off + j, none⟩ = some (.string (str R[j])))
/-- Texts in a row of one's own. -/
def TxO (w : World) (B : Nat) (v : Value) (R : List Bs) : Prop := (v = .slice none 0 0 ∧ R = []) ∨ ∃ g off cap, v = .slice (some ⟨g, off, none⟩) R.length cap ∧ B ≤ g ∧ (∃ cur, w.heap[g]? = some (.cells cur 9 (0, 0)) ∧ off + cap ≤ cur.size) ∧ R.length ≤ cap ∧ cap ≤ maxLen ∧ ∀ j (h : j < R.length), w.cell? ⟨g, off + j, none⟩ = some (.string (str R[j]))
theorem TxO.toS {w : World} {B : Nat} {v : Value} {R : List Bs} (h : TxO w B v R) : TxS w v R := by
  rcases h with ⟨rfl, rfl⟩ | ⟨g, off, cap, rfl, _, _, h1, _, h2⟩
  · exact ⟨none, 0, rfl, Nat.le_refl _, fun h => absurd h (by simp)⟩
  · exact ⟨_, _, rfl, h1, fun _ => ⟨g, off, rfl, h2⟩⟩
theorem TxO.shape {w : World} {B : Nat} {v : Value} {R : List Bs} (h : TxO w B v R) : ∃ ao c, v = .slice ao R.length c := by
  rcases h with ⟨rfl, rfl⟩ | ⟨g, off, cap, rfl, _⟩
  · exact ⟨none, 0, rfl⟩
  · exact ⟨_, _, rfl⟩
theorem TxO.nil (w : World) (B : Nat) : TxO w B (.slice none 0 0) [] := .inl ⟨rfl, rfl⟩
theorem TxO.low {w : World} {B C : Nat} {v : Value} {R : List Bs} (h : TxO w B v R) (hC : C ≤ B) : TxO w C v R := by
  rcases h with h | ⟨g, off, cap, h1, h2, h3⟩
  · exact .inl h
  · exact .inr ⟨g, off, cap, h1, Nat.le_trans hC h2, h3⟩
theorem TxO.up {w : World} {B C : Nat} {v : Value} {R : List Bs} (h : TxO w B v R) (hC : ∀ k, v.ownBlock = some k → C ≤ k) : TxO w C v R := by
  rcases h with h | ⟨g, off, cap, rfl, h2, h3⟩
  · exact .inl h
  · exact .inr ⟨g, off, cap, rfl, hC g rfl, h3⟩
theorem TxO.tag {w : World} {B : Nat} {v : Value} {R : List Bs} (h : TxO w B v R) {k : Nat} (hk : v.ownBlock = some k) : B ≤ k ∧ ∃ c f, w.heap[k]? = some (.cells c 9 f) := by
  rcases h with ⟨rfl, _⟩ | ⟨g, off, cap, rfl, h1, ⟨cur, h2, _⟩, _⟩
  · cases hk
  · cases hk
    exact ⟨h1, _, _, h2⟩
theorem TxO.below {w V w' : World} {B : Nat} {v : Value} {R : List Bs} (h : TxO w B v R) (hV : B ≤ V.heap.size) (f : Fr V w' (fun k => v.ownBlock = some k)) : Below B V w' := f.below hV (fun _ hk => (h.tag hk).1)
theorem TxO.kept {w w' : World} {B : Nat} {v : Value} {R : List Bs} (h : TxO w B v R) {S : Nat → Prop} (f : Fr w w' S) (hS : ∀ k, v.ownBlock = some k → ¬ S k) : TxO w' B v R := by
  rcases h with h | ⟨g, off, cap, rfl, h1, ⟨cur, h2, h3⟩, h4, h5, h6⟩
  · exact .inl h
  · have e := f.block g (lt_blk h2) (hS g rfl)
    refine .inr ⟨g, off, cap, rfl, h1, ⟨cur, e.trans h2, h3⟩, h4, h5, fun j hj => ?_⟩
    exact (World.cell?_of_block (a := ⟨g, off + j, none⟩) e).trans (h6 j hj)
theorem TxO.new {w w' : World} {B : Nat} {v : Value} {R : List Bs} (h : TxO w B v R) (hb : Below w.heap.size w w') : TxO w' B v R := h.kept (Fr.ofBelow hb (fun _ => False)) (fun _ _ h => h)
/-- What a disk writes is no row of texts. -/
theorem TxO.frD {w w' : World} {B D : Nat} {v : Value} {R : List Bs} (h : TxO w B v R) (f : FrD Xm D w w') : TxO w' B v R := by
  refine h.kept f (fun k hk s => ?_)
  obtain ⟨_, c, f', hb⟩ := h.tag hk
  rcases s.2 with ⟨es, c', hm⟩ | ⟨c', t, f'', hm, ht⟩
  · rw [hb] at hm; cases hm
  · rw [hb] at hm
    cases hm
    rcases ht with ht | ht <;> exact absurd ht (by decide)
theorem TxS.new {w w' : World} {v : Value} {R : List Bs} (h : TxS w v R) (hb : Below w.heap.size w w') : TxS w' v R := by
  obtain ⟨ao, cap, rfl, h1, h2⟩ := h
  refine ⟨ao, cap, rfl, h1, fun h0 => ?_⟩
  obtain ⟨b, off, e, h3⟩ := h2 h0
  exact ⟨b, off, e, fun j hj => (hb.cell (p := ⟨b, off + j, none⟩) (lt_cellD (h3 j hj))).trans (h3 j hj)⟩
def txc (R : List Bs) : List Value := R.map fun s => .string (str s)
theorem TxO.ofRow {w : World} {B : Nat} {v : Value} {R : List Bs} (h : w.ownsRow B 9 1 v R.length (txc R)) : TxO w B v R := by
  rcases h.2 with ⟨h1, h2⟩ | ⟨g, cap, cur, rfl, h3, h4, h5, h6, h7, h8⟩
  · exact .inl ⟨h1, List.length_eq_zero_iff.1 h2⟩
  · refine .inr ⟨g, 0, cap, rfl, h3, ⟨cur, h4, by omega⟩, h5, h6, fun j hj => ?_⟩
    have := h.cells (g := g) rfl j (.string (str R[j])) (by unfold txc; rw [List.getElem?_map, List.getElem?_eq_getElem hj]; rfl)
    rw [Addr.add_lit] at this
    exact this
end Go.Proofs.YtjemnkijoiehmaaGreatDoor
