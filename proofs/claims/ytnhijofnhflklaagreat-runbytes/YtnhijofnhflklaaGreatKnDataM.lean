import Derived.Test.YtnhijofnhflklaaGreatCbMathM
import Derived.Test.YtnhijofnhflklaaGreatMuMathM
import Derived.Test.YtnhijofnhflklaaGreatProg
import Derived.WalkKit
import Derived.OwnWalk
import Derived.Maps.AppendAt
import Derived.Deep.Cut
import Derived.Deep.DeepCutAuto
import Derived.Below
import Derived.Laws.Tables
import Derived.Laws.OwnMore
/- What a vertex is given, as it lies; rows of messages and requests of one's own; To and Back. -/
namespace Go.Proofs.YtnhijofnhflklaaGreat
open Go.RowKit
/-- A message along each edge. -/
def toL (id v : Int) (E : List Ed) : List Msg := E.mapIdx fun i e => ⟨id, e.t, i, v⟩
theorem toL_len (id v : Int) (E : List Ed) : (toL id v E).length = E.length := List.length_mapIdx
theorem toL_get (id v : Int) (E : List Ed) (k : Nat) (h : k < E.length) : (toL id v E)[k]'(by rw [toL_len]; exact h) = ⟨id, E[k].t, k, v⟩ := by
  unfold toL; rw [List.getElem_mapIdx]
theorem toL_snoc (id v : Int) (E : List Ed) (k : Nat) (h : k < E.length) : (toL id v E).take (k + 1) = (toL id v E).take k ++ [⟨id, E[k].t, k, v⟩] := by
  rw [List.take_succ_eq_append_getElem (by rw [toL_len]; exact h), toL_get]
/-- Rows of one's own. -/
def KM (w : World) (base : Nat) (v : Value) (L : List Msg) : Prop := w.ownsRow base 93 4 v L.length (L.flatMap msgCells)
def KU (w : World) (base : Nat) (v : Value) (L : List Mu) : Prop := w.ownsRow base 95 4 v L.length (L.flatMap muCells)
theorem k_fr {w w' : World} {base : Nat} {e : TypeId} {size : Nat} {v : Value} {n : Nat} {xs : List Value} (h : w.ownsRow base e size v n xs) {S : Nat → Prop} (f : Fr w w' S) (hs : ∀ k, base ≤ k → ¬ S k) : w'.ownsRow base e size v n xs := by
  refine ⟨h.1, ?_⟩
  rcases h.2 with h2 | ⟨g, cap, cur, rfl, h3, h4, h5⟩
  · exact Or.inl h2
  · exact Or.inr ⟨g, cap, cur, rfl, h3, (f.block g (Array.getElem?_eq_some_iff.1 h4).1 (hs g h3)).trans h4, h5⟩
theorem k_new {w w' : World} {base : Nat} {e : TypeId} {size : Nat} {v : Value} {n : Nat} {xs : List Value} (h : w.ownsRow base e size v n xs) (hb : Below w.heap.size w w') : w'.ownsRow base e size v n xs := k_fr h (Fr.ofBelow hb (fun _ => False)) (fun _ _ h => h)
theorem k_low {w : World} {base base' : Nat} {e : TypeId} {size : Nat} {v : Value} {n : Nat} {xs : List Value} (h : w.ownsRow base e size v n xs) (hb : base' ≤ base) : w.ownsRow base' e size v n xs := by
  refine ⟨h.1, ?_⟩
  rcases h.2 with h2 | ⟨g, cap, cur, rfl, h3, h4⟩
  · exact Or.inl h2
  · exact Or.inr ⟨g, cap, cur, rfl, Nat.le_trans hb h3, h4⟩
theorem k_shape {w : World} {base : Nat} {e : TypeId} {size : Nat} {v : Value} {n : Nat} {xs : List Value} (h : w.ownsRow base e size v n xs) : ∃ ao c, v = .slice ao n c := by
  rcases h.2 with ⟨rfl, h0⟩ | ⟨g, cap, cur, rfl, _⟩
  · exact ⟨none, 0, by rw [h0]⟩
  · exact ⟨_, _, rfl⟩
theorem k_at {w : World} {base : Nat} {e : TypeId} {size : Nat} {ao : Option Addr} {n c : Nat} {xs : List Value} (h : w.ownsRow base e size (.slice ao n c) n xs) (hn : 0 < n) : ∃ g, ao = some ⟨g, 0, none⟩ ∧ base ≤ g ∧ ∀ i u, xs[i]? = some u → w.cell? ⟨g, i, none⟩ = some u := by
  rcases h.2 with ⟨h1, h0⟩ | ⟨g, cap, cur, h1, h3, _⟩
  · omega
  · cases h1
    refine ⟨g, rfl, h3, fun i u hu => ?_⟩
    have := World.ownsRow.cells h (g := g) rfl i u hu
    rwa [Addr.add_lit, Nat.zero_add] at this
theorem km_len (L : List Msg) : (L.flatMap msgCells).length = L.length * 4 := by
  induction L with
  | nil => rfl
  | cons x L ih => rw [List.flatMap_cons, List.length_append, ih]; simp [msgCells]; omega
theorem ku_len (L : List Mu) : (L.flatMap muCells).length = L.length * 4 := by
  induction L with
  | nil => rfl
  | cons x L ih => rw [List.flatMap_cons, List.length_append, ih]; simp [muCells]; omega
theorem km_get (L : List Msg) (j : Nat) (h : j < L.length) : (L.flatMap msgCells)[j * 4]? = some (.int .i64 L[j].f) ∧ (L.flatMap msgCells)[j * 4 + 1]? = some (.int .i64 L[j].t) ∧ (L.flatMap msgCells)[j * 4 + 2]? = some (.int .i64 L[j].a) ∧ (L.flatMap msgCells)[j * 4 + 3]? = some (.int .i64 L[j].v) := by
  have e : L = L.take j ++ L[j] :: L.drop (j + 1) := by rw [← List.drop_eq_getElem_cons h, List.take_append_drop]
  have hl : ((L.take j).flatMap msgCells).length = j * 4 := by rw [km_len, List.length_take]; omega
  generalize hx : L[j] = x at e
  rw [e, List.flatMap_append, List.flatMap_cons]
  refine ⟨?_, ?_, ?_, ?_⟩ <;> (rw [List.getElem?_append_right (by omega), hl]; simp [msgCells])
theorem ku_get (L : List Mu) (j : Nat) (h : j < L.length) : (L.flatMap muCells)[j * 4]? = some (.int .i64 L[j].k) ∧ (L.flatMap muCells)[j * 4 + 1]? = some (.int .i64 L[j].i) ∧ (L.flatMap muCells)[j * 4 + 2]? = some (.int .i64 L[j].t) ∧ (L.flatMap muCells)[j * 4 + 3]? = some (.int .i64 L[j].v) := by
  have e : L = L.take j ++ L[j] :: L.drop (j + 1) := by rw [← List.drop_eq_getElem_cons h, List.take_append_drop]
  have hl : ((L.take j).flatMap muCells).length = j * 4 := by rw [ku_len, List.length_take]; omega
  generalize hx : L[j] = x at e
  rw [e, List.flatMap_append, List.flatMap_cons]
  refine ⟨?_, ?_, ?_, ?_⟩ <;> (rw [List.getElem?_append_right (by omega), hl]; simp [muCells])
theorem km_snoc {w : World} {base : Nat} {v : Value} {L : List Msg} {m : Msg} (h : w.ownsRow base 93 4 v (L.length + 1) (L.flatMap msgCells ++ msgCells m)) : KM w base v (L ++ [m]) := by
  unfold KM
  rw [List.length_append, List.flatMap_append]
  simpa using h
theorem k_four {W : World} {b : Nat} {t : TypeId} {f : Nat × Nat} {x y z u0 : Value} (h : W.heap[b]? = some (.cells #[x, y, z, u0] t f)) : ∀ (j : Nat) (u : Value), [x, y, z, u0][j]? = some u → W.cell? ((⟨b, 0, none⟩ : Addr).add j) = some u := by
  intro j u hu
  rw [Addr.add_lit, Nat.zero_add]
  simp [World.cell?, h]
  simpa using hu
theorem k_oneM (y : Msg) : ∀ u ∈ msgCells y, u.oneCell' = true := by
  intro u hu
  simp [msgCells] at hu
  rcases hu with rfl | rfl | rfl | rfl <;> rfl
theorem k_oneU (y : Mu) : ∀ u ∈ muCells y, u.oneCell' = true := by
  intro u hu
  simp [muCells] at hu
  rcases hu with rfl | rfl | rfl | rfl <;> rfl
theorem infoKM : (Tryz.prog.info? 93).map (fun i => (i.zero, i.size, i.bytes)) = some (some (.agg #[.int .i64 0, .int .i64 0, .int .i64 0, .int .i64 0]), 4, 32) := by kernel_rfl
theorem infoKU : (Tryz.prog.info? 95).map (fun i => (i.zero, i.size, i.bytes)) = some (some (.agg #[.int .i64 0, .int .i64 0, .int .i64 0, .int .i64 0]), 4, 32) := by kernel_rfl
theorem one_newK (w : World) (o : Obj) : Below w.heap.size w (w.alloc o) := (Below.refl _ _).alloc (Nat.le_refl _) _
/-- The cells of an Input's box. -/
def InBox (W : World) (b : Nat) (c : Array Value) : Prop := W.heap[b]? = some (.cells c 177 (0, 0))
theorem InBox.new {W W' : World} {b : Nat} {c : Array Value} (h : InBox W b c) (hb : Below W.heap.size W W') : InBox W' b c := (hb.block _ (Array.getElem?_eq_some_iff.1 h).1).trans h
theorem InBox.made (w : World) (c : Array Value) : InBox (w.alloc (.cells c 177)) w.heap.size c := heap_alloc_new _ _
theorem InBox.cells {W : World} {b : Nat} {a0 a1 a2 a3 a4 a5 a6 a7 a8 a9 a10 a11 a12 a13 a14 a15 a16 a17 : Value} (h : InBox W b #[a0, a1, a2, a3, a4, a5, a6, a7, a8, a9, a10, a11, a12, a13, a14, a15, a16, a17]) :
    W.cell? ⟨b, 0, none⟩ = some a0 ∧ W.cell? ⟨b, 1, none⟩ = some a1 ∧ W.cell? ⟨b, 2, none⟩ = some a2 ∧ W.cell? ⟨b, 3, none⟩ = some a3 ∧ W.cell? ⟨b, 4, none⟩ = some a4 ∧ W.cell? ⟨b, 5, none⟩ = some a5 ∧ W.cell? ⟨b, 6, none⟩ = some a6 ∧ W.cell? ⟨b, 7, none⟩ = some a7 ∧ W.cell? ⟨b, 8, none⟩ = some a8 ∧ W.cell? ⟨b, 9, none⟩ = some a9 ∧ W.cell? ⟨b, 10, none⟩ = some a10 ∧ W.cell? ⟨b, 11, none⟩ = some a11 ∧ W.cell? ⟨b, 12, none⟩ = some a12 ∧ W.cell? ⟨b, 13, none⟩ = some a13 ∧ W.cell? ⟨b, 14, none⟩ = some a14 ∧ W.cell? ⟨b, 15, none⟩ = some a15 ∧ W.cell? ⟨b, 16, none⟩ = some a16 ∧ W.cell? ⟨b, 17, none⟩ = some a17 := by
  unfold InBox at h
  simp [World.cell?, h]
/-- The cells of an Output's box. -/
def OutBox (W : World) (b : Nat) (c : Array Value) : Prop := W.heap[b]? = some (.cells c 174 (0, 0))
theorem OutBox.new {W W' : World} {b : Nat} {c : Array Value} (h : OutBox W b c) (hb : Below W.heap.size W W') : OutBox W' b c := (hb.block _ (Array.getElem?_eq_some_iff.1 h).1).trans h
theorem OutBox.made (w : World) (c : Array Value) : OutBox (w.alloc (.cells c 174)) w.heap.size c := heap_alloc_new _ _
theorem OutBox.cells {W : World} {b : Nat} {a0 a1 a2 a3 a4 a5 a6 a7 a8 a9 a10 a11 a12 a13 a14 : Value} (h : OutBox W b #[a0, a1, a2, a3, a4, a5, a6, a7, a8, a9, a10, a11, a12, a13, a14]) :
    W.cell? ⟨b, 0, none⟩ = some a0 ∧ W.cell? ⟨b, 1, none⟩ = some a1 ∧ W.cell? ⟨b, 2, none⟩ = some a2 ∧ W.cell? ⟨b, 3, none⟩ = some a3 ∧ W.cell? ⟨b, 4, none⟩ = some a4 ∧ W.cell? ⟨b, 5, none⟩ = some a5 ∧ W.cell? ⟨b, 6, none⟩ = some a6 ∧ W.cell? ⟨b, 7, none⟩ = some a7 ∧ W.cell? ⟨b, 8, none⟩ = some a8 ∧ W.cell? ⟨b, 9, none⟩ = some a9 ∧ W.cell? ⟨b, 10, none⟩ = some a10 ∧ W.cell? ⟨b, 11, none⟩ = some a11 ∧ W.cell? ⟨b, 12, none⟩ = some a12 ∧ W.cell? ⟨b, 13, none⟩ = some a13 ∧ W.cell? ⟨b, 14, none⟩ = some a14 := by
  unfold OutBox at h
  simp [World.cell?, h]
theorem size_out : (Tryz.prog.info? 174).map (·.size) = some 15 := by kernel_rfl
theorem size_in : (Tryz.prog.info? 177).map (·.size) = some 18 := by kernel_rfl
theorem fr_setRow (w : World) (g : Nat) (cs : Array Value) : Fr w (w.setRow g cs) (fun k => k = g) := ⟨rfl, rfl, rfl, by simp, fun k _ hn => setRow_other w g k cs hn⟩
theorem k_setRow {g : Nat} {w0 w : World} (hb : Below w0.heap.size w0 w) (hBg : w0.heap.size ≤ g) (cs : Array Value) : Below w0.heap.size w0 (w.setRow g cs) := hb.trans ((fr_setRow w g cs).below hb.size (fun k hk => by omega))
end Go.Proofs.YtnhijofnhflklaaGreat
