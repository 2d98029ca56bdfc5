/- Messages as plain lists: their order, a list in order, what a box holds, what a combiner makes. No function of the program is named here. -/
import Derived.Test.YtmgjlamglhpnaaaGreatNumM
import Derived.Test.YtmgjlamglhpnaaaGreatGrDataM
import Derived.Test.YtmgjlamglhpnaaaGreatProg
import Derived.WalkKit
import Derived.OwnWalk
import Derived.Maps.AppendAt
import Derived.Deep.Cut
import Derived.Deep.DeepCutAuto
import Derived.Below
import Derived.Laws.Tables
import Derived.Laws.OwnMore
import Derived.Test.YtmgjlamglhpnaaaGreatMoChkM
import Derived.Test.YtmgjlamglhpnaaaGreatGrWalk2M
import Derived.Test.YtmgjlamglhpnaaaGreatGrTake3M
import Derived.Test.YtmgjlamglhpnaaaGreatGrClone2M
import Derived.Test.YtmgjlamglhpnaaaGreatReader2M
import Derived.Test.YtmgjlamglhpnaaaGreatRefReader2M
import Derived.Test.YtmgjlamglhpnaaaGreatWriterWM
namespace Go.Proofs.YtmgjlamglhpnaaaGreat
set_option maxRecDepth 100000
open Go.RowKit
structure Msg where
 f : Int
 t : Int
 a : Int
 v : Int
structure Msg.ok (m : Msg) : Prop where
 f : I64 m.f
 t : I64 m.t
 a : I64 m.a
 v : I64 m.v
def msgCells (m : Msg) : List Value := [.int .i64 m.f, .int .i64 m.t, .int .i64 m.a, .int .i64 m.v]
def c3 (x y : Int) : Int := if x < y then -1 else if y < x then 1 else 0
def cmpM (x y : Msg) : Int :=
 if c3 x.t y.t ≠ 0 then c3 x.t y.t else if c3 x.f y.f ≠ 0 then c3 x.f y.f else if c3 x.a y.a ≠ 0 then c3 x.a y.a else c3 x.v y.v
def mlt (x y : Msg) : Bool :=
 if x.t ≠ y.t then decide (x.t < y.t) else if x.f ≠ y.f then decide (x.f < y.f) else if x.a ≠ y.a then decide (x.a < y.a) else decide (x.v < y.v)
theorem c3_neg (x y : Int) : c3 x y < 0 ↔ x < y := by unfold c3; split <;> (try split) <;> omega
theorem c3_zero (x y : Int) : c3 x y = 0 ↔ x = y := by unfold c3; split <;> (try split) <;> omega
theorem cmpM_lt (x y : Msg) : decide (cmpM x y < 0) = mlt x y := by
 unfold cmpM mlt
 simp only [ne_eq, c3_zero]
 split
 ·simp [c3_neg]
 ·split
  ·simp [c3_neg]
  ·split <;> simp [c3_neg]
theorem mlt_iff (x y : Msg) : mlt x y = true ↔ (x.t < y.t ∨ x.t = y.t ∧ (x.f < y.f ∨ x.f = y.f ∧ (x.a < y.a ∨ x.a = y.a ∧ x.v < y.v))) := by
 unfold mlt
 split
 ·rename_i h; simp; omega
 ·rename_i h
  split
  ·rename_i h'; simp; omega
  ·split
   ·simp; omega
   ·simp; omega
theorem mlt_irrefl (x : Msg) : mlt x x = false := by
 rw [Bool.eq_false_iff]; intro h; rw [mlt_iff] at h; omega
theorem mlt_trans (x y z : Msg) (h : mlt x y = true) (h' : mlt y z = true) : mlt x z = true := by
 rw [mlt_iff] at *; omega
theorem mlt_ntrans (x y z : Msg) (h : mlt x y = false) (h' : mlt y z = false) : mlt x z = false := by
 rw [Bool.eq_false_iff, ne_eq, mlt_iff] at *; omega
theorem mlt_total (x y : Msg) (h : mlt x y = false) (h' : mlt y x = false) : x = y := by
 rw [Bool.eq_false_iff, ne_eq, mlt_iff] at *
 cases x; cases y
 simp only [Msg.mk.injEq] at *
 omega
def mle (x y : Msg) : Bool := !mlt y x
def sortM (l : List Msg) : List Msg := l.mergeSort mle
theorem sortM_perm (l : List Msg) : (sortM l).Perm l := List.mergeSort_perm l mle
theorem sortM_len (l : List Msg) : (sortM l).length = l.length := (sortM_perm l).length_eq
def jn (k : Int) (a b : Int) : Int := if k = 2 then (if b < a then b else a) else if k = 3 then (if a < b then b else a) else a + b
def jnE (k : Int) (a b : Int) : Bool := decide (k ≠ 2 ∧ k ≠ 3 ∧ ¬ (-9223372036854775808 ≤ a + b ∧ a + b ≤ 9223372036854775807))
def foldM (k : Int) : Int → List Msg → Option Int
 | x, [] => some x
 | x, m :: l => if jnE k x m.v then none else foldM k (jn k x m.v) l
theorem foldM_app (k : Int) : ∀ (l m : List Msg) (x : Int), foldM k x (l ++ m) = (foldM k x l).bind fun y => foldM k y m
 | [], m, x => rfl
 | a :: l, m, x => by
  simp only [List.cons_append, foldM]
  split
  ·rfl
  ·exact foldM_app k l m _
def toV (B : List Msg) (id : Int) : List Msg := B.filter fun m => m.t == id
def offV (B : List Msg) (id : Int) : List Msg := B.filter fun m => !(m.t == id)
theorem toV_app (B C : List Msg) (id : Int) : toV (B ++ C) id = toV B id ++ toV C id := by unfold toV; exact List.filter_append ..
theorem toV_snoc_same (B : List Msg) (m : Msg) : toV (B ++ [m]) m.t = toV B m.t ++ [m] := by rw [toV_app]; simp [toV]
theorem toV_snoc_other (B : List Msg) (m : Msg) {id : Int} (h : m.t ≠ id) : toV (B ++ [m]) id = toV B id := by rw [toV_app]; simp [toV, h]
theorem toV_off_same (B : List Msg) (id : Int) : toV (offV B id) id = [] := by
 unfold toV offV
 rw [List.filter_filter, List.filter_eq_nil_iff]
 intro m _
 simp
theorem toV_off_other (B : List Msg) {id i : Int} (h : i ≠ id) : toV (offV B id) i = toV B i := by
 unfold toV offV
 rw [List.filter_filter]
 refine List.filter_congr fun m _ => ?_
 by_cases e : m.t = i
 ·subst e; simp [h]
 ·simp [e]
structure Mu where
 k : Int
 i : Int
 t : Int
 v : Int
structure Mu.ok (m : Mu) : Prop where
 k : I64 m.k
 i : I64 m.i
 t : I64 m.t
 v : I64 m.v
def muCells (m : Mu) : List Value := [.int .i64 m.k, .int .i64 m.i, .int .i64 m.t, .int .i64 m.v]
def u3 (x y : Int) : Int := if x < y then -1 else if y < x then 1 else 0
def cmpU (x y : Mu) : Int :=
 if u3 x.k y.k ≠ 0 then u3 x.k y.k else if u3 x.i y.i ≠ 0 then u3 x.i y.i else if u3 x.t y.t ≠ 0 then u3 x.t y.t else u3 x.v y.v
def ult (x y : Mu) : Bool :=
 if x.k ≠ y.k then decide (x.k < y.k) else if x.i ≠ y.i then decide (x.i < y.i) else if x.t ≠ y.t then decide (x.t < y.t) else decide (x.v < y.v)
theorem u3_neg (x y : Int) : u3 x y < 0 ↔ x < y := by unfold u3; split <;> (try split) <;> omega
theorem u3_zero (x y : Int) : u3 x y = 0 ↔ x = y := by unfold u3; split <;> (try split) <;> omega
theorem cmpU_lt (x y : Mu) : decide (cmpU x y < 0) = ult x y := by
 unfold cmpU ult
 simp only [ne_eq, u3_zero]
 split
 ·simp [u3_neg]
 ·split
  ·simp [u3_neg]
  ·split <;> simp [u3_neg]
theorem ult_iff (x y : Mu) : ult x y = true ↔ (x.k < y.k ∨ x.k = y.k ∧ (x.i < y.i ∨ x.i = y.i ∧ (x.t < y.t ∨ x.t = y.t ∧ x.v < y.v))) := by
 unfold ult
 split
 ·rename_i h; simp; omega
 ·rename_i h
  split
  ·rename_i h'; simp; omega
  ·split
   ·simp; omega
   ·simp; omega
theorem ult_irrefl (x : Mu) : ult x x = false := by
 rw [Bool.eq_false_iff]; intro h; rw [ult_iff] at h; omega
theorem ult_trans (x y z : Mu) (h : ult x y = true) (h' : ult y z = true) : ult x z = true := by
 rw [ult_iff] at *; omega
theorem ult_ntrans (x y z : Mu) (h : ult x y = false) (h' : ult y z = false) : ult x z = false := by
 rw [Bool.eq_false_iff, ne_eq, ult_iff] at *; omega
theorem ult_total (x y : Mu) (h : ult x y = false) (h' : ult y x = false) : x = y := by
 rw [Bool.eq_false_iff, ne_eq, ult_iff] at *
 cases x; cases y
 simp only [Mu.mk.injEq] at *
 omega
def ule (x y : Mu) : Bool := !ult y x
def sortU (l : List Mu) : List Mu := l.mergeSort ule
theorem sortU_perm (l : List Mu) : (sortU l).Perm l := List.mergeSort_perm l ule
theorem ule_trans (a b c : Mu) (h : ule a b = true) (h' : ule b c = true) : ule a c = true := by
 unfold ule at *
 simp only [Bool.not_eq_true'] at *
 exact ult_ntrans _ _ _ h' h
theorem ule_total (a b : Mu) : (ule a b || ule b a) = true := by
 unfold ule
 cases h : ult b a
 ·rfl
 ·cases h' : ult a b
  ·rfl
  ·have := ult_trans _ _ _ h h'
   rw [ult_irrefl] at this
   cases this
theorem sortU_sorted (l : List Mu) : (sortU l).Pairwise (fun a b => ule a b = true) := List.pairwise_mergeSort ule_trans ule_total l
theorem ule_anti {a b : Mu} (h : ule a b = true) (h' : ule b a = true) : a = b := by
 unfold ule at *
 simp only [Bool.not_eq_true'] at *
 exact ult_total _ _ h' h
theorem sortU_of {l m : List Mu} (hp : m.Perm l) (hs : m.Pairwise (fun a b => ule a b = true)) : m = sortU l :=
 List.Perm.eq_of_pairwise (fun _ _ _ _ h h' => ule_anti h h') hs (sortU_sorted l) (hp.trans (sortU_perm l).symm)
theorem sortU_len (l : List Mu) : (sortU l).length = l.length := (sortU_perm l).length_eq
theorem sortU_mem {l : List Mu} {x : Mu} : x ∈ sortU l ↔ x ∈ l := (sortU_perm l).mem_iff
theorem sortU_nil : sortU [] = [] := (sortU_of (List.Perm.refl _) (by simp)).symm
def sameU (a b : Mu) : Bool := a.k == b.k && a.i == b.i && a.t == b.t
def ddF (p : Mu) : List Mu → List Mu
 | [] => []
 | m :: l => if sameU m p then ddF m l else m :: ddF m l
def dd : List Mu → List Mu
 | [] => []
 | m :: l => m :: ddF m l
def thatC (l : List Mu) : List Mu := dd (sortU l)
theorem ddF_len (p : Mu) : ∀ l, (ddF p l).length ≤ l.length
 | [] => Nat.le_refl _
 | m :: l => by
  unfold ddF
  have := ddF_len m l
  split <;> simp <;> omega
theorem dd_len : ∀ l, (dd l).length ≤ l.length
 | [] => Nat.le_refl _
 | m :: l => by unfold dd; have := ddF_len m l; simp; omega
theorem thatC_len (l : List Mu) : (thatC l).length ≤ l.length := by
 unfold thatC; have := dd_len (sortU l); rw [sortU_len] at this; exact this
theorem ddF_sub (p : Mu) : ∀ l, (ddF p l).Sublist l
 | [] => List.Sublist.refl _
 | m :: l => by
  unfold ddF
  split
  ·exact (ddF_sub m l).cons m
  ·exact (ddF_sub m l).cons_cons m
theorem dd_sub : ∀ l, (dd l).Sublist l
 | [] => List.Sublist.refl _
 | m :: l => by unfold dd; exact (ddF_sub m l).cons_cons m
theorem thatC_mem {l : List Mu} {m : Mu} (h : m ∈ thatC l) : m ∈ l := sortU_mem.1 ((dd_sub _).subset h)
def toL (id v : Int) (E : List Ed) : List Msg := E.mapIdx fun i e => ⟨id, e.t, i, v⟩
theorem toL_len (id v : Int) (E : List Ed) : (toL id v E).length = E.length := List.length_mapIdx
theorem toL_get (id v : Int) (E : List Ed) (k : Nat) (h : k < E.length) : (toL id v E)[k]'(by rw [toL_len]; exact h) = ⟨id, E[k].t, k, v⟩ := by
 unfold toL; rw [List.getElem_mapIdx]
theorem toL_snoc (id v : Int) (E : List Ed) (k : Nat) (h : k < E.length) : (toL id v E).take (k + 1) = (toL id v E).take k ++ [⟨id, E[k].t, k, v⟩] := by
 rw [List.take_succ_eq_append_getElem (by rw [toL_len]; exact h), toL_get]
def KM (w : World) (base : Nat) (v : Value) (L : List Msg) : Prop := w.ownsRow base 201 4 v L.length (L.flatMap msgCells)
def KU (w : World) (base : Nat) (v : Value) (L : List Mu) : Prop := w.ownsRow base 195 4 v L.length (L.flatMap muCells)
theorem k_fr {w w' : World} {base : Nat} {e : TypeId} {size : Nat} {v : Value} {n : Nat} {xs : List Value} (h : w.ownsRow base e size v n xs) {S : Nat → Prop} (f : Fr w w' S) (hs : ∀ k, base ≤ k → ¬ S k) : w'.ownsRow base e size v n xs := by
 refine ⟨h.1, ?_⟩
 rcases h.2 with h2 | ⟨g, cap, cur, rfl, h3, h4, h5⟩
 ·exact Or.inl h2
 ·exact Or.inr ⟨g, cap, cur, rfl, h3, (f.block g (Array.getElem?_eq_some_iff.1 h4).1 (hs g h3)).trans h4, h5⟩
theorem k_new {w w' : World} {base : Nat} {e : TypeId} {size : Nat} {v : Value} {n : Nat} {xs : List Value} (h : w.ownsRow base e size v n xs) (hb : Below w.heap.size w w') : w'.ownsRow base e size v n xs := k_fr h (Fr.ofBelow hb (fun _ => False)) (fun _ _ h => h)
theorem k_low {w : World} {base base' : Nat} {e : TypeId} {size : Nat} {v : Value} {n : Nat} {xs : List Value} (h : w.ownsRow base e size v n xs) (hb : base' ≤ base) : w.ownsRow base' e size v n xs := by
 refine ⟨h.1, ?_⟩
 rcases h.2 with h2 | ⟨g, cap, cur, rfl, h3, h4⟩
 ·exact Or.inl h2
 ·exact Or.inr ⟨g, cap, cur, rfl, Nat.le_trans hb h3, h4⟩
theorem k_shape {w : World} {base : Nat} {e : TypeId} {size : Nat} {v : Value} {n : Nat} {xs : List Value} (h : w.ownsRow base e size v n xs) : ∃ ao c, v = .slice ao n c := by
 rcases h.2 with ⟨rfl, h0⟩ | ⟨g, cap, cur, rfl, _⟩
 ·exact ⟨none, 0, by rw [h0]⟩
 ·exact ⟨_, _, rfl⟩
theorem k_at {w : World} {base : Nat} {e : TypeId} {size : Nat} {ao : Option Addr} {n c : Nat} {xs : List Value} (h : w.ownsRow base e size (.slice ao n c) n xs) (hn : 0 < n) : ∃ g, ao = some ⟨g, 0, none⟩ ∧ base ≤ g ∧ ∀ i u, xs[i]? = some u → w.cell? ⟨g, i, none⟩ = some u := by
 rcases h.2 with ⟨h1, h0⟩ | ⟨g, cap, cur, h1, h3, _⟩
 ·omega
 ·cases h1
  refine ⟨g, rfl, h3, fun i u hu => ?_⟩
  have := World.ownsRow.cells h (g := g) rfl i u hu
  rwa [Addr.add_lit, Nat.zero_add] at this
theorem km_len (L : List Msg) : (L.flatMap msgCells).length = L.length * 4 := by
 induction L with
 | nil => rfl
 | cons x L ih => rw [List.flatMap_cons, List.length_append, ih]; simp [msgCells]; omega
theorem ku_len (L : List Mu) : (L.flatMap muCells).length = L.length * 4 := by
 induction L with
 | nil => rfl
 | cons x L ih => rw [List.flatMap_cons, List.length_append, ih]; simp [muCells]; omega
theorem km_get (L : List Msg) (j : Nat) (h : j < L.length) : (L.flatMap msgCells)[j * 4]? = some (.int .i64 L[j].f) ∧ (L.flatMap msgCells)[j * 4 + 1]? = some (.int .i64 L[j].t) ∧ (L.flatMap msgCells)[j * 4 + 2]? = some (.int .i64 L[j].a) ∧ (L.flatMap msgCells)[j * 4 + 3]? = some (.int .i64 L[j].v) := by
 have e : L = L.take j ++ L[j] :: L.drop (j + 1) := by rw [← List.drop_eq_getElem_cons h, List.take_append_drop]
 have hl : ((L.take j).flatMap msgCells).length = j * 4 := by rw [km_len, List.length_take]; omega
 generalize hx : L[j] = x at e
 rw [e, List.flatMap_append, List.flatMap_cons]
 refine ⟨?_, ?_, ?_, ?_⟩ <;> (rw [List.getElem?_append_right (by omega), hl]; simp [msgCells])
theorem ku_get (L : List Mu) (j : Nat) (h : j < L.length) : (L.flatMap muCells)[j * 4]? = some (.int .i64 L[j].k) ∧ (L.flatMap muCells)[j * 4 + 1]? = some (.int .i64 L[j].i) ∧ (L.flatMap muCells)[j * 4 + 2]? = some (.int .i64 L[j].t) ∧ (L.flatMap muCells)[j * 4 + 3]? = some (.int .i64 L[j].v) := by
 have e : L = L.take j ++ L[j] :: L.drop (j + 1) := by rw [← List.drop_eq_getElem_cons h, List.take_append_drop]
 have hl : ((L.take j).flatMap muCells).length = j * 4 := by rw [ku_len, List.length_take]; omega
 generalize hx : L[j] = x at e
 rw [e, List.flatMap_append, List.flatMap_cons]
 refine ⟨?_, ?_, ?_, ?_⟩ <;> (rw [List.getElem?_append_right (by omega), hl]; simp [muCells])
theorem km_snoc {w : World} {base : Nat} {v : Value} {L : List Msg} {m : Msg} (h : w.ownsRow base 201 4 v (L.length + 1) (L.flatMap msgCells ++ msgCells m)) : KM w base v (L ++ [m]) := by
 unfold KM
 rw [List.length_append, List.flatMap_append]
 simpa using h
theorem k_four {W : World} {b : Nat} {t : TypeId} {f : Nat × Nat} {x y z u0 : Value} (h : W.heap[b]? = some (.cells #[x, y, z, u0] t f)) : ∀ (j : Nat) (u : Value), [x, y, z, u0][j]? = some u → W.cell? ((⟨b, 0, none⟩ : Addr).add j) = some u := by
 intro j u hu
 rw [Addr.add_lit, Nat.zero_add]
 simp [World.cell?, h]
 simpa using hu
theorem k_oneM (y : Msg) : ∀ u ∈ msgCells y, u.oneCell' = true := by
 intro u hu
 simp [msgCells] at hu
 rcases hu with rfl | rfl | rfl | rfl <;> rfl
theorem k_oneU (y : Mu) : ∀ u ∈ muCells y, u.oneCell' = true := by
 intro u hu
 simp [muCells] at hu
 rcases hu with rfl | rfl | rfl | rfl <;> rfl
theorem infoKM : (Tryz.prog.info? 201).map (fun i => (i.zero, i.size, i.bytes)) = some (some (.agg #[.int .i64 0, .int .i64 0, .int .i64 0, .int .i64 0]), 4, 32) := by kernel_rfl
theorem infoKU : (Tryz.prog.info? 195).map (fun i => (i.zero, i.size, i.bytes)) = some (some (.agg #[.int .i64 0, .int .i64 0, .int .i64 0, .int .i64 0]), 4, 32) := by kernel_rfl
theorem one_newK (w : World) (o : Obj) : Below w.heap.size w (w.alloc o) := (Below.refl _ _).alloc (Nat.le_refl _) _
def InBox (W : World) (b : Nat) (c : Array Value) : Prop := W.heap[b]? = some (.cells c 156 (0, 0))
theorem InBox.new {W W' : World} {b : Nat} {c : Array Value} (h : InBox W b c) (hb : Below W.heap.size W W') : InBox W' b c := (hb.block _ (Array.getElem?_eq_some_iff.1 h).1).trans h
theorem InBox.made (w : World) (c : Array Value) : InBox (w.alloc (.cells c 156)) w.heap.size c := heap_alloc_new _ _
theorem InBox.cells {W : World} {b : Nat} {a0 a1 a2 a3 a4 a5 a6 a7 a8 a9 a10 a11 a12 a13 a14 a15 a16 a17 : Value} (h : InBox W b #[a0, a1, a2, a3, a4, a5, a6, a7, a8, a9, a10, a11, a12, a13, a14, a15, a16, a17]) :
  W.cell? ⟨b, 0, none⟩ = some a0 ∧ W.cell? ⟨b, 1, none⟩ = some a1 ∧ W.cell? ⟨b, 2, none⟩ = some a2 ∧ W.cell? ⟨b, 3, none⟩ = some a3 ∧ W.cell? ⟨b, 4, none⟩ = some a4 ∧ W.cell? ⟨b, 5, none⟩ = some a5 ∧ W.cell? ⟨b, 6, none⟩ = some a6 ∧ W.cell? ⟨b, 7, none⟩ = some a7 ∧ W.cell? ⟨b, 8, none⟩ = some a8 ∧ W.cell? ⟨b, 9, none⟩ = some a9 ∧ W.cell? ⟨b, 10, none⟩ = some a10 ∧ W.cell? ⟨b, 11, none⟩ = some a11 ∧ W.cell? ⟨b, 12, none⟩ = some a12 ∧ W.cell? ⟨b, 13, none⟩ = some a13 ∧ W.cell? ⟨b, 14, none⟩ = some a14 ∧ W.cell? ⟨b, 15, none⟩ = some a15 ∧ W.cell? ⟨b, 16, none⟩ = some a16 ∧ W.cell? ⟨b, 17, none⟩ = some a17 := by
 unfold InBox at h
 simp [World.cell?, h]
def OutBox (W : World) (b : Nat) (c : Array Value) : Prop := W.heap[b]? = some (.cells c 153 (0, 0))
theorem OutBox.new {W W' : World} {b : Nat} {c : Array Value} (h : OutBox W b c) (hb : Below W.heap.size W W') : OutBox W' b c := (hb.block _ (Array.getElem?_eq_some_iff.1 h).1).trans h
theorem OutBox.made (w : World) (c : Array Value) : OutBox (w.alloc (.cells c 153)) w.heap.size c := heap_alloc_new _ _
theorem OutBox.cells {W : World} {b : Nat} {a0 a1 a2 a3 a4 a5 a6 a7 a8 a9 a10 a11 a12 a13 a14 : Value} (h : OutBox W b #[a0, a1, a2, a3, a4, a5, a6, a7, a8, a9, a10, a11, a12, a13, a14]) :
  W.cell? ⟨b, 0, none⟩ = some a0 ∧ W.cell? ⟨b, 1, none⟩ = some a1 ∧ W.cell? ⟨b, 2, none⟩ = some a2 ∧ W.cell? ⟨b, 3, none⟩ = some a3 ∧ W.cell? ⟨b, 4, none⟩ = some a4 ∧ W.cell? ⟨b, 5, none⟩ = some a5 ∧ W.cell? ⟨b, 6, none⟩ = some a6 ∧ W.cell? ⟨b, 7, none⟩ = some a7 ∧ W.cell? ⟨b, 8, none⟩ = some a8 ∧ W.cell? ⟨b, 9, none⟩ = some a9 ∧ W.cell? ⟨b, 10, none⟩ = some a10 ∧ W.cell? ⟨b, 11, none⟩ = some a11 ∧ W.cell? ⟨b, 12, none⟩ = some a12 ∧ W.cell? ⟨b, 13, none⟩ = some a13 ∧ W.cell? ⟨b, 14, none⟩ = some a14 := by
 unfold OutBox at h
 simp [World.cell?, h]
theorem size_out : (Tryz.prog.info? 153).map (·.size) = some 15 := by kernel_rfl
theorem size_in : (Tryz.prog.info? 156).map (·.size) = some 18 := by kernel_rfl
theorem fr_setRow (w : World) (g : Nat) (cs : Array Value) : Fr w (w.setRow g cs) (fun k => k = g) := ⟨rfl, rfl, rfl, by simp, fun k _ hn => setRow_other w g k cs hn⟩
theorem k_setRow {g : Nat} {w0 w : World} (hb : Below w0.heap.size w0 w) (hBg : w0.heap.size ≤ g) (cs : Array Value) : Below w0.heap.size w0 (w.setRow g cs) := hb.trans ((fr_setRow w g cs).below hb.size (fun k hk => by omega))
def jobN (s : ByteArray) (G : List Vx) (ps : List Int) (st se pa : Int) : Int :=
 if allS s = false then 70 else if ¬ chk G = 0 then chk G else if 4 < ps.length then 71 else if ¬ mcheckN s G ps = 0 then mcheckN s G ps else if (1 ≤ st ∧ st ≤ 1000) ∧ (0 ≤ se ∧ se ≤ 65536) ∧ (1 ≤ pa ∧ pa ≤ 16) then 0 else 90
set_option linter.unusedSimpArgs false in
theorem within_any (n l m : Int) (w : World) : Calls Tryz.prog 46 #[.int .i64 n, .int .i64 l, .int .i64 m] w fun r w' => r = .returned (.bool (decide (l ≤ n ∧ n ≤ m))) ∧ w' = w := by
 by_cases h1 : l ≤ n
 ·by_cases h2 : n ≤ m
  ·go_enter Tryz.func46, Tryz.ntmps46
   go_wp2
   go_ret
   exact ⟨by simp [h1, h2], rfl⟩
  ·have h2' : decide (n ≤ m) = false := by simpa using h2
   go_enter Tryz.func46, Tryz.ntmps46
   go_wp2
   go_ret
   exact ⟨by simp only [h1, h2, and_false, decide_false]; rfl, rfl⟩
 ·have h1' : decide (l ≤ n) = false := by simpa using h1
  go_enter Tryz.func46, Tryz.ntmps46
  go_wp2
  go_ret
  exact ⟨by simp only [h1, false_and, decide_false]; rfl, rfl⟩
theorem chk_okJ {G : List Vx} (h : chk G = 0) : G.length ≤ 256 ∧ Rise (ids G) := by
 unfold chk at h
 split at h
 ·exact absurd h (by decide)
 ·rename_i h1
  have h2 : ¬ 256 < G.length ∧ riseB (ids G) = true := by
   constructor
   ·exact fun e => h1 (.inl e)
   ·cases e : riseB (ids G)
    ·exact absurd (.inr e) h1
    ·rfl
  exact ⟨by omega, (riseB_iff _).1 h2.2⟩
def JobBoxC (W : World) (b : Nat) (c : Array Value) : Prop := W.heap[b]? = some (.cells c 27 (0, 0))
theorem job_cells {W : World} {b : Nat} {a0 a1 a2 a3 a4 a5 : Value} (h : JobBoxC W b #[a0, a1, a2, a3, a4, a5]) : W.cell? ⟨b, 0, none⟩ = some a0 ∧ W.cell? ⟨b, 1, none⟩ = some a1 ∧ W.cell? ⟨b, 2, none⟩ = some a2 ∧ W.cell? ⟨b, 3, none⟩ = some a3 ∧ W.cell? ⟨b, 4, none⟩ = some a4 ∧ W.cell? ⟨b, 5, none⟩ = some a5 := by
 unfold JobBoxC at h
 simp [World.cell?, h]
set_option maxHeartbeats 2000000 in
theorem checkJ_any {w : World} {P : Nat → Prop} {go po : Option Addr} {gn gc pn pc : Nat} {s : ByteArray} {G : List Vx} {ps : List Int} {st se pa : Int} (hn : gn = G.length) (hp : pn = ps.length) (hG : VxAt w P go G) (hok : ∀ v ∈ G, v.ok) (hl : G.length ≤ 9223372036854775807) (hL : IsAt w po ps) (hpl : ps.length ≤ 9223372036854775807) :
  Calls Tryz.prog 17 #[.agg #[.string s, .slice go gn gc, .slice po pn pc, .int .i64 st, .int .i64 se, .int .i64 pa]] w fun r w' => r = .returned (.int .i64 (jobN s G ps st se pa)) ∧ Below w.heap.size w w' := by
 obtain ⟨W0, hW0⟩ : ∃ W0, w.alloc (.cells #[.string s, .slice go gn gc, .slice po pn pc, .int .i64 st, .int .i64 se, .int .i64 pa] 27) = W0 := ⟨_, rfl⟩
 have hb0 : Below w.heap.size w W0 := by rw [← hW0]; exact one_newK _ _
 have hJ0 : JobBoxC W0 w.heap.size #[.string s, .slice go gn gc, .slice po pn pc, .int .i64 st, .int .i64 se, .int .i64 pa] := by rw [← hW0]; exact heap_alloc_new _ _
 obtain ⟨c0, c1, c2, c3, c4, c5⟩ := job_cells hJ0
 have hpn : pn ≤ 9223372036854775807 := by rw [hp]; exact hpl
 have hgl : gn ≤ 9223372036854775807 := by rw [hn]; exact hl
 have HK : Hid _ := mknown_any s W0
 have HCk : Hid (∀ W, Below W0.heap.size W0 W → Calls Tryz.prog 44 #[.agg #[.slice go gn gc]] W fun r w' => r = .returned (.int .i64 (chk G)) ∧ Below W.heap.size W w') := fun W hb => by rw [hn]; exact check_any gc ((hG.new hb0).new hb) hl hok
 have HMc : Hid (chk G = 0 → ∀ W, Below W0.heap.size W0 W → Calls Tryz.prog 45 #[.string s, .agg #[.slice go gn gc], .slice po pn pc] W fun r w' => r = .returned (.int .i64 (mcheckN s G ps)) ∧ Below W.heap.size W w') := fun h0 W hb => mocheck_any hn hp ((hG.new hb0).new hb) hok ((hL.new hb0).new hb) (chk_okJ h0).1 (chk_okJ h0).2
 have HJ : Hid (jobN s G ps st se pa = if allS s = false then 70 else if ¬ chk G = 0 then chk G else if 4 < ps.length then 71 else if ¬ mcheckN s G ps = 0 then mcheckN s G ps else if (1 ≤ st ∧ st ≤ 1000) ∧ (0 ≤ se ∧ se ≤ 65536) ∧ (1 ≤ pa ∧ pa ≤ 16) then 0 else 90) := rfl
 have HJ0 : Hid _ := hJ0
 have HB0 : Hid _ := hb0
 have HPn : Hid _ := hp
 clear hn hp hG hok hL hb0 hJ0 hl hpl
 generalize jobN s G ps st se pa = jn at HJ ⊢
 cases hk : allS s
 ·rw [hk] at HK HJ
  go_enter Tryz.func17, Tryz.ntmps17
  go_wp2_with (go_at_call 43; refine Calls.mono HK.out ?_; rintro r w1 ⟨rfl, hb1⟩; have HB1 : Hid _ := hb1; clear hb1)
  go_ret
  exact ⟨by rw [HJ.out]; rfl, HB0.out.trans (HB1.out.mono HB0.out.size)⟩
 ·rw [hk] at HK HJ
  generalize chk G = cg at HCk HMc HJ
  go_enter Tryz.func17, Tryz.ntmps17
  go_upto_region 3 with (go_at_call 43; refine Calls.mono HK.out ?_; rintro r w1 ⟨rfl, hb1⟩; have HB1 : Hid _ := hb1; clear hb1)
  obtain ⟨d0, d1, d2, d3, d4, d5⟩ := job_cells ((HB1.out.block _ (Array.getElem?_eq_some_iff.1 HJ0.out).1).trans HJ0.out)
  clear c0 c1 c2 c3 c4 c5 HK
  by_cases hcg : cg = 0
  ·subst hcg
   go_upto_region 6 with (go_at_call 44; refine Calls.mono (HCk.out _ HB1.out) ?_; rintro r w2 ⟨rfl, hb2⟩; have HB2 : Hid (Below W0.heap.size W0 w2) := HB1.out.trans (hb2.mono HB1.out.size); clear hb2)
   obtain ⟨e0, e1, e2, e3, e4, e5⟩ := job_cells ((HB2.out.block _ (Array.getElem?_eq_some_iff.1 HJ0.out).1).trans HJ0.out)
   clear d0 d1 d2 d3 d4 d5 HCk HB1
   by_cases h4 : 4 < pn
   ·go_wp2
    go_ret
    exact ⟨by rw [HJ.out, ← HPn.out]; simp [h4], HB0.out.trans (HB2.out.mono HB0.out.size)⟩
   ·have HM : Hid _ := HMc.out (by first | exact trivial | rfl) _ HB2.out
    generalize mcheckN s G ps = mc at HM HJ
    clear HMc
    go_upto_region 9 with (go_at_call 45; refine Calls.mono HM.out ?_; rintro r w3 ⟨rfl, hb3⟩; have HB3 : Hid (Below W0.heap.size W0 w3) := HB2.out.trans (hb3.mono HB2.out.size); clear hb3)
    obtain ⟨f0, f1, f2, f3, f4, f5⟩ := job_cells ((HB3.out.block _ (Array.getElem?_eq_some_iff.1 HJ0.out).1).trans HJ0.out)
    clear e0 e1 e2 e3 e4 e5 HM HB2
    by_cases hmc : mc = 0
    ·subst hmc
     have HJ2 : Hid (jn = if (1 ≤ st ∧ st ≤ 1000) ∧ (0 ≤ se ∧ se ≤ 65536) ∧ (1 ≤ pa ∧ pa ≤ 16) then 0 else 90) := by
      show _ = _
      rw [HJ.out, ← HPn.out]
      simp [h4]
     clear HJ
     by_cases q1 : 1 ≤ st ∧ st ≤ 1000
     ·have HW1 : Hid (decide (1 ≤ st ∧ st ≤ 1000) = true) := decide_eq_true q1
      by_cases q2 : 0 ≤ se ∧ se ≤ 65536
      ·have HW2 : Hid (decide (0 ≤ se ∧ se ≤ 65536) = true) := decide_eq_true q2
       by_cases q3 : 1 ≤ pa ∧ pa ≤ 16
       ·have HW3 : Hid (decide (1 ≤ pa ∧ pa ≤ 16) = true) := decide_eq_true q3
        have HE : Hid (jn = 0) := by show _ = _; rw [HJ2.out, if_pos ⟨q1, q2, q3⟩]
        clear q1 q2 q3 HJ2
        go_wp2_with (go_at_call 46; refine (within_any _ _ _ _).mono ?_; rintro r w4 ⟨rfl, rfl⟩; first | rw [HW1.out] | rw [HW2.out] | rw [HW3.out])
        go_ret
        exact ⟨by rw [HE.out]; rfl, HB0.out.trans (HB3.out.mono HB0.out.size)⟩
       ·have HW3 : Hid (decide (1 ≤ pa ∧ pa ≤ 16) = false) := decide_eq_false q3
        have HE : Hid (jn = 90) := by show _ = _; rw [HJ2.out, if_neg (fun h => q3 h.2.2)]
        clear q1 q2 q3 HJ2
        go_wp2_with (go_at_call 46; refine (within_any _ _ _ _).mono ?_; rintro r w4 ⟨rfl, rfl⟩; first | rw [HW1.out] | rw [HW2.out] | rw [HW3.out])
        go_ret
        exact ⟨by rw [HE.out]; rfl, HB0.out.trans (HB3.out.mono HB0.out.size)⟩
      ·have HW2 : Hid (decide (0 ≤ se ∧ se ≤ 65536) = false) := decide_eq_false q2
       have HE : Hid (jn = 90) := by show _ = _; rw [HJ2.out, if_neg (fun h => q2 h.2.1)]
       clear q1 q2 HJ2
       go_wp2_with (go_at_call 46; refine (within_any _ _ _ _).mono ?_; rintro r w4 ⟨rfl, rfl⟩; first | rw [HW1.out] | rw [HW2.out])
       go_ret
       exact ⟨by rw [HE.out]; rfl, HB0.out.trans (HB3.out.mono HB0.out.size)⟩
     ·have HW1 : Hid (decide (1 ≤ st ∧ st ≤ 1000) = false) := decide_eq_false q1
      have HE : Hid (jn = 90) := by show _ = _; rw [HJ2.out, if_neg (fun h => q1 h.1)]
      clear q1 HJ2
      go_wp2_with (go_at_call 46; refine (within_any _ _ _ _).mono ?_; rintro r w4 ⟨rfl, rfl⟩; rw [HW1.out])
      go_ret
      exact ⟨by rw [HE.out]; rfl, HB0.out.trans (HB3.out.mono HB0.out.size)⟩
    ·have hmc' : (mc != 0) = true := by simpa using hmc
     go_wp2
     go_ret
     exact ⟨by rw [HJ.out, ← HPn.out]; simp [h4, hmc], HB0.out.trans (HB3.out.mono HB0.out.size)⟩
  ·have hcg' : (cg != 0) = true := by simpa using hcg
   go_wp2_with (go_at_call 44; refine Calls.mono (HCk.out _ HB1.out) ?_; rintro r w2 ⟨rfl, hb2⟩; have HB2 : Hid (Below W0.heap.size W0 w2) := HB1.out.trans (hb2.mono HB1.out.size); clear hb2)
   go_ret
   exact ⟨by rw [HJ.out]; simp [hcg], HB0.out.trans (HB2.out.mono HB0.out.size)⟩
theorem sg_atJ {s : ByteArray} {a c : List UInt8} {k : Int} (h : s.data.toList = a ++ (sgB k ++ c)) (hk : I64 k) : ∃ n, rdNum s a.length 0 = (n, (a ++ sgB k).length, 0) ∧ unfoldN (n : Nat) = k := by
 have hb : (foldN k).toNat < 18446744073709551616 := by
  have := fold_bd k hk.1 hk.2
  omega
 exact ⟨(foldN k).toNat, num_at h hb, sg_back hk⟩
theorem ba_eqJ {a b : ByteArray} (h : a.data.toList = b.data.toList) : a = b := by
 cases a; cases b; simp only at h; rw [Array.toList_inj.1 h]
theorem ext_listJ (s : ByteArray) (i j : Nat) : (s.extract i j).data.toList = (s.data.toList.drop i).take (j - i) := by simp
theorem text_atJ {s t : ByteArray} {a c : List UInt8} (h : s.data.toList = a ++ (textB t.data.toList ++ c)) (ht : t.size < 18446744073709551616) : rdText s a.length 0 = (t, (a ++ textB t.data.toList).length, 0) := by
 have hl : t.data.toList.length = t.size := by simp
 have h' : s.data.toList = a ++ (numB t.size ++ (t.data.toList ++ c)) := by rw [h]; unfold textB; rw [hl]; simp
 have hs : s.size = a.length + ((numB t.size).length + (t.size + c.length)) := by
  have : s.size = s.data.toList.length := by simp
  rw [this, h']; simp
 have hL : (textB t.data.toList).length = (numB t.size).length + t.size := by unfold textB; simp
 have hp : pnum (s.data.toList.drop a.length) = (t.size, (numB t.size).length, 0) := by rw [at_drop h']; exact pnum_num _ ht
 refine (rd_ok hp).trans ?_
 rw [if_neg (by omega), List.length_append, hL]
 have h2 : s.data.toList = (a ++ numB t.size) ++ (t.data.toList ++ c) := by rw [h']; simp
 have : s.extract (a.length + (numB t.size).length) (a.length + (numB t.size).length + t.size) = t := ba_eqJ (by
  rw [ext_listJ, show a.length + (numB t.size).length + t.size - (a.length + (numB t.size).length) = t.data.toList.length by omega, show a.length + (numB t.size).length = (a ++ numB t.size).length by simp, at_drop h2, List.take_left])
 rw [this, Nat.add_assoc]
theorem rdText_leJ {s x : ByteArray} {a a' : Nat} {e e' : Int} (ha : a ≤ s.size) (h : rdText s a e = (x, a', e')) : a' ≤ s.size := by
 by_cases he : e = 0
 ·subst he
  rcases three s a ha with ⟨m, k, hp, h1, h2, h3, h4⟩ | ⟨m, k, x, hp, hx⟩
  ·have hq : rdText s a 0 = if s.size - (a + k) < m then (ByteArray.empty, a, 4) else (s.extract (a + k) (a + k + m), a + k + m, 0) := rd_ok hp
   rw [hq] at h
   split at h <;> simp only [Prod.mk.injEq] at h <;> omega
  ·rw [show rdText s a 0 = (ByteArray.empty, a, (x : Int)) from rd_bad hp hx] at h
   simp only [Prod.mk.injEq] at h; omega
 ·rw [show rdText s a e = (ByteArray.empty, a, e) from rd_err he] at h
  simp only [Prod.mk.injEq] at h; omega
theorem rtext_j {w : World} {p : Nat} {s x : ByteArray} {a a' : Nat} {e e' : Int} (h : Rd w p s a e) (hs : s.size ≤ maxLen) (ha : a ≤ s.size) (hq : rdText s a e = (x, a', e')) :
  Calls Tryz.prog 28 #[.pointer (some ⟨p, 0, none⟩)] w fun r w' => r = .returned (.string x) ∧ Rd w' p s a' e' ∧ Fr w w' (fun k => k = p) := by
 have := rtext_any h hs ha; rw [hq] at this; exact this
theorem ftext_j {s x : ByteArray} {a a' : Nat} {e e' : Int} (w : World) (hs : s.size ≤ maxLen) (ha : a ≤ s.size) (hq : rdText s a e = (x, a', e')) :
  Calls Tryz.prog 38 #[.agg #[.string s, .int .i64 a, .int .i64 e]] w fun r w' => r = .returned (.tuple #[.agg #[.string s, .int .i64 a', .int .i64 e'], .string x]) ∧ Below w.heap.size w w' := by
 have := ftext_any (e := e) w hs ha; rw [hq] at this; exact this
def jobB (t : ByteArray) (G : List Vx) (ps : List Int) (st se pa : Nat) : List UInt8 :=
 textB t.data.toList ++ grB G ++ numB ps.length ++ ps.flatMap sgB ++ numB st ++ numB se ++ numB pa
def rdPs (s : ByteArray) : Nat → Nat → Int → List Int → List Int × Nat × Int
 | 0, a, e, L => (L, a, e)
 | n + 1, a, e, L => rdPs s n (rdNum s a e).2.1 (rdNum s a e).2.2 (L ++ [unfoldN (rdNum s a e).1])
theorem rdPs_step {s : ByteArray} {n a n1 a1 : Nat} {e e1 : Int} {L : List Int} (h1 : rdNum s a e = (n1, a1, e1)) : rdPs s (n + 1) a e L = rdPs s n a1 e1 (L ++ [unfoldN n1]) := by
 show rdPs s n (rdNum s a e).2.1 (rdNum s a e).2.2 _ = _
 simp only [h1]
theorem rdPs_bad {s : ByteArray} : ∀ (n a : Nat) (e : Int) (L : List Int), e ≠ 0 → (rdPs s n a e L).2 = (a, e)
 | 0, _, _, _, _ => rfl
 | n + 1, a, e, L, h => by
  rw [rdPs_step (show rdNum s a e = (0, a, e) from rd_err h)]
  exact rdPs_bad n a e _ h
theorem rdPs_to {s : ByteArray} : ∀ (n a : Nat) (e : Int) (L : List Int), a ≤ s.size → (∀ x ∈ L, I64 x) → (rdPs s n a e L).2.1 ≤ s.size ∧ (rdPs s n a e L).1.length = L.length + n ∧ (∀ x ∈ (rdPs s n a e L).1, I64 x)
 | 0, _, _, _, ha, hL => ⟨ha, rfl, hL⟩
 | n + 1, a, e, L, ha, hL => by
  obtain ⟨⟨n1, x1, y1⟩, q1⟩ : ∃ q, rdNum s a e = q := ⟨_, rfl⟩
  have g1 := rdNum_to ha q1
  rw [rdPs_step q1]
  have := rdPs_to n x1 y1 (L ++ [unfoldN n1]) g1.1 (fun x hx => by
   rcases List.mem_append.1 hx with h | h
   ·exact hL x h
   ·rw [List.mem_singleton.1 h]; exact unfold_bd n1 (by omega) (by have := g1.2.1; omega))
  refine ⟨this.1, ?_, this.2.2⟩
  rw [this.2.1]; simp; omega
theorem ps_at : ∀ (M : List Int) {s : ByteArray} {a c : List UInt8} {L : List Int}, s.data.toList = a ++ (M.flatMap sgB ++ c) → (∀ m ∈ M, I64 m) → rdPs s M.length a.length 0 L = (L ++ M, (a ++ M.flatMap sgB).length, 0)
 | [], s, a, c, L, h, _ => by simp [rdPs]
 | m :: M, s, a, c, L, h, hok => by
  have hm := hok m (by simp)
  rw [List.flatMap_cons] at h
  obtain ⟨n1, h1, u1⟩ := sg_atJ (s := s) (a := a) (c := M.flatMap sgB ++ c) (k := m) (by rw [h]; simp only [List.append_assoc]) hm
  rw [List.length_cons, rdPs_step h1, u1]
  have ih := ps_at M (s := s) (a := a ++ sgB m) (c := c) (L := L ++ [m]) (by rw [h]; simp only [List.append_assoc]) (fun x hx => hok x (by simp [hx]))
  rw [ih, List.flatMap_cons]
  simp only [List.append_assoc, List.singleton_append]
structure JR (s : ByteArray) (a0 : Nat) (e0 : Int) (t : ByteArray) (G : List Vx) (n : Nat) (ps : List Int) (st se pa a1 a2 a3 a4 a5 a6 a7 : Nat) (e1 e2 e3 e4 e5 e6 e7 : Int) : Prop where
 h1 : rdText s a0 e0 = (t, a1, e1)
 h2 : rdG s a1 e1 = (G, a2, e2)
 h3 : rdCount s a2 e2 4 = (n, a3, e3)
 h4 : rdPs s n a3 e3 [] = (ps, a4, e4)
 h5 : rdCount s a4 e4 1000 = (st, a5, e5)
 h6 : rdCount s a5 e5 65536 = (se, a6, e6)
 h7 : rdCount s a6 e6 16 = (pa, a7, e7)
theorem jr_any (s : ByteArray) (a0 : Nat) (e0 : Int) : ∃ t G n ps st se pa a1 a2 a3 a4 a5 a6 a7 e1 e2 e3 e4 e5 e6 e7, JR s a0 e0 t G n ps st se pa a1 a2 a3 a4 a5 a6 a7 e1 e2 e3 e4 e5 e6 e7 :=
 ⟨_, _, _, _, _, _, _, _, _, _, _, _, _, _, _, _, _, _, _, _, _, rfl, rfl, rfl, rfl, rfl, rfl, rfl⟩
structure JTo (s t : ByteArray) (G : List Vx) (n : Nat) (ps : List Int) (st se pa a1 a2 a3 a4 a5 a6 a7 : Nat) (e3 : Int) : Prop where
 b1 : a1 ≤ s.size
 b2 : a2 ≤ s.size
 b3 : a3 ≤ s.size
 b4 : a4 ≤ s.size
 b5 : a5 ≤ s.size
 b6 : a6 ≤ s.size
 b7 : a7 ≤ s.size
 nle : n ≤ 4
 n0 : 0 < n → e3 = 0
 len : ps.length = n
 gl : G.length ≤ 256
 gok : ∀ v ∈ G, v.ok
 pok : ∀ x ∈ ps, I64 x
 st : st ≤ 1000
 se : se ≤ 65536
 pa : pa ≤ 16
theorem JR.to {s t : ByteArray} {a0 : Nat} {e0 : Int} {G : List Vx} {n : Nat} {ps : List Int} {st se pa a1 a2 a3 a4 a5 a6 a7 : Nat} {e1 e2 e3 e4 e5 e6 e7 : Int} (h : JR s a0 e0 t G n ps st se pa a1 a2 a3 a4 a5 a6 a7 e1 e2 e3 e4 e5 e6 e7) (ha : a0 ≤ s.size) : JTo s t G n ps st se pa a1 a2 a3 a4 a5 a6 a7 e3 := by
 have g1 := rdText_leJ ha h.h1
 have g2 := rdG_to (e := e1) g1
 rw [h.h2] at g2
 have g3 := rdCount_to (most := 4) g2.1 h.h3
 have g4 := rdPs_to n a3 e3 [] g3.1 (fun x hx => by cases hx)
 rw [h.h4] at g4
 have g5 := rdCount_to (most := 1000) g4.1 h.h5
 have g6 := rdCount_to (most := 65536) g5.1 h.h6
 have g7 := rdCount_to (most := 16) g6.1 h.h7
 exact ⟨g1, g2.1, g3.1, g4.1, g5.1, g6.1, g7.1, g3.2.1, g3.2.2.2, by simpa using g4.2.1, g2.2.1, g2.2.2, g4.2.2, g5.2.1, g6.2.1, g7.2.1⟩
theorem jr_back {s t : ByteArray} {G : List Vx} {ps : List Int} {st se pa : Nat} {a c : List UInt8} (h : s.data.toList = a ++ (jobB t G ps st se pa ++ c)) (ht : t.size < 18446744073709551616) (hok : ∀ v ∈ G, v.ok) (hc : chk G = 0) (hp : ps.length ≤ 4) (hpk : ∀ x ∈ ps, I64 x) (hst : st ≤ 1000) (hse : se ≤ 65536) (hpa : pa ≤ 16) :
  ∃ a1 a2 a3 a4 a5 a6, JR s a.length 0 t G ps.length ps st se pa a1 a2 a3 a4 a5 a6 (a.length + (jobB t G ps st se pa).length) 0 0 0 0 0 0 0 := by
 unfold jobB at h ⊢
 generalize hT : textB t.data.toList = T at h
 have k1 := text_atJ (s := s) (t := t) (a := a) (c := grB G ++ (numB ps.length ++ (ps.flatMap sgB ++ (numB st ++ (numB se ++ (numB pa ++ c)))))) (by rw [h, hT]; simp only [List.append_assoc]) ht
 rw [hT] at k1
 have k2 := rdG_enc (s := s) (G := G) (a := a ++ T) (c := numB ps.length ++ (ps.flatMap sgB ++ (numB st ++ (numB se ++ (numB pa ++ c))))) (by rw [h]; simp only [List.append_assoc]) hok hc
 have k3 := count_at (s := s) (a := a ++ T ++ grB G) (n := ps.length) (most := 4) (c := ps.flatMap sgB ++ (numB st ++ (numB se ++ (numB pa ++ c)))) (by rw [h]; simp only [List.append_assoc]) hp (by decide)
 have k4 := ps_at ps (s := s) (a := a ++ T ++ grB G ++ numB ps.length) (c := numB st ++ (numB se ++ (numB pa ++ c))) (L := []) (by rw [h]; simp only [List.append_assoc]) hpk
 have k5 := count_at (s := s) (a := a ++ T ++ grB G ++ numB ps.length ++ ps.flatMap sgB) (n := st) (most := 1000) (c := numB se ++ (numB pa ++ c)) (by rw [h]; simp only [List.append_assoc]) hst (by decide)
 have k6 := count_at (s := s) (a := a ++ T ++ grB G ++ numB ps.length ++ ps.flatMap sgB ++ numB st) (n := se) (most := 65536) (c := numB pa ++ c) (by rw [h]; simp only [List.append_assoc]) hse (by decide)
 have k7 := count_at (s := s) (a := a ++ T ++ grB G ++ numB ps.length ++ ps.flatMap sgB ++ numB st ++ numB se) (n := pa) (most := 16) (c := c) (by rw [h]; simp only [List.append_assoc]) hpa (by decide)
 rw [List.nil_append] at k4
 refine ⟨_, _, _, _, _, _, k1, k2, k3, k4, k5, k6, ?_⟩
 have e : a.length + (T ++ grB G ++ numB ps.length ++ ps.flatMap sgB ++ numB st ++ numB se ++ numB pa).length = (a ++ T ++ grB G ++ numB ps.length ++ ps.flatMap sgB ++ numB st ++ numB se ++ numB pa).length := by
  simp only [List.length_append]; omega
 rw [e]
 exact k7
def jErr (e7 : Int) (t : ByteArray) (G : List Vx) (ps : List Int) (st se pa : Nat) : Int := rdFail e7 (jobN t G ps st se pa)
structure JOk (t : ByteArray) (G : List Vx) (ps : List Int) (st se pa : Int) : Prop where
 known : allS t = true
 chk : chk G = 0
 len : ps.length ≤ 4
 st : 1 ≤ st ∧ st ≤ 1000
 se : 0 ≤ se ∧ se ≤ 65536
 pa : 1 ≤ pa ∧ pa ≤ 16
theorem jobN_ok {t : ByteArray} {G : List Vx} {ps : List Int} {st se pa : Int} (h : jobN t G ps st se pa = 0) : JOk t G ps st se pa := by
 unfold jobN at h
 split at h
 ·exact absurd h (by decide)
 rename_i h1
 split at h
 ·rename_i h2; exact absurd h h2
 rename_i h2
 split at h
 ·exact absurd h (by decide)
 rename_i h3
 split at h
 ·rename_i h4; exact absurd h h4
 split at h
 ·rename_i h5
  exact ⟨by simpa using h1, by omega, by omega, h5.1, h5.2.1, h5.2.2⟩
 ·exact absurd h (by decide)
theorem known_size {t : ByteArray} (h : allS t = true) : t.size ≤ 9 := by
 unfold allS at h
 obtain ⟨y, hy, he⟩ := List.any_eq_true.1 h
 have e : y.toList = t.toList := by simpa using he
 have hl : y.toList.length = t.toList.length := by rw [e]
 have hs : ∀ y ∈ kNm, y.size ≤ 9 := by decide
 have := hs y hy
 have h3 : t.toList.length = t.size := by rw [ByteArray.toList_eq]; simp
 have h4 : y.toList.length = y.size := by rw [ByteArray.toList_eq]; simp
 omega
end Go.Proofs.YtmgjlamglhpnaaaGreat
