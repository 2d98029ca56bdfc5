import Derived.Test.YtidghoipmggklaaGreatAgGetM
import Derived.Test.YtidghoipmggklaaGreatGrDataM
import Derived.BigQuiet
import Derived.Deep.DeepCutAuto
import Derived.Deep.RegionHeld3
import Derived.Deep.Cut
import Derived.Test.YtidghoipmggklaaGreatGrPutM
import Derived.Test.YtidghoipmggklaaGreatJbDecM
import Derived.Deep.MidRow
section
/- The document's aggregate of many values. -/
namespace Go.Proofs.YtidghoipmggklaaGreat
open Go.RowKit

/-- An aggregate's ten cells. -/
def AC (h : Nat → Bool) (v : Nat → Int) : Array Value := #[.bool (h 0), .bool (h 1), .bool (h 2), .bool (h 3), .bool (h 4), .int .i64 (v 0), .int .i64 (v 1), .int .i64 (v 2), .int .i64 (v 3), .int .i64 (v 4)]
def AOc (o : Nat → Option Int) : Array Value := AC (oh o) (ov o)
def zc : Array Value := #[.bool false, .bool false, .bool false, .bool false, .bool false, .int .i64 0, .int .i64 0, .int .i64 0, .int .i64 0, .int .i64 0]
/-- A box of ten cells. -/
theorem mblk10 {w : World} {g : Nat} {t : TypeId} {a0 a1 a2 a3 a4 a5 a6 a7 a8 a9 : Value} (h : w.heap[g]? = some (.cells #[a0, a1, a2, a3, a4, a5, a6, a7, a8, a9] t (0, 0))) :
    (w.cell? ⟨g, 0, none⟩ = some a0 ∧ w.cell? ⟨g, 1, none⟩ = some a1 ∧ w.cell? ⟨g, 2, none⟩ = some a2 ∧ w.cell? ⟨g, 3, none⟩ = some a3 ∧ w.cell? ⟨g, 4, none⟩ = some a4 ∧ w.cell? ⟨g, 5, none⟩ = some a5 ∧ w.cell? ⟨g, 6, none⟩ = some a6 ∧ w.cell? ⟨g, 7, none⟩ = some a7 ∧ w.cell? ⟨g, 8, none⟩ = some a8 ∧ w.cell? ⟨g, 9, none⟩ = some a9) := by
  simp [World.cell?, h]
theorem froz10 {w : World} {g : Nat} {t : TypeId} {c : Array Value} (h : w.heap[g]? = some (.cells c t (0, 0))) (o : Nat) : w.frozen? ⟨g, o, none⟩ = false := by simp [World.frozen?, h]
theorem blk_set0 {w : World} {g i : Nat} {cs : Array Value} {t : TypeId} (v : Value) (h : w.heap[g]? = some (.cells cs t (0, 0))) : (w.setCell ⟨g, i, none⟩ v).heap[g]? = some (.cells (cs.setIfInBounds i v) t (0, 0)) := by
  have hlt := lt_of_block h
  have h' : w.heap[g] = .cells cs t (0, 0) := by simpa [Array.getElem?_eq_getElem hlt] using h
  show (w.heap.modify g _)[g]? = _
  rw [Array.getElem?_eq_getElem (by simpa using hlt), Array.getElem_modify_self, h']
  rfl
theorem mset10 {w : World} {g : Nat} {t : TypeId} {a0 a1 a2 a3 a4 a5 a6 a7 a8 a9 : Value} (b0 b1 b2 b3 b4 b5 b6 b7 b8 b9 : Value) (h : w.heap[g]? = some (.cells #[a0, a1, a2, a3, a4, a5, a6, a7, a8, a9] t (0, 0))) : ((((((((((w.setCell ⟨g, 0, none⟩ b0).setCell ⟨g, 1, none⟩ b1).setCell ⟨g, 2, none⟩ b2).setCell ⟨g, 3, none⟩ b3).setCell ⟨g, 4, none⟩ b4).setCell ⟨g, 5, none⟩ b5).setCell ⟨g, 6, none⟩ b6).setCell ⟨g, 7, none⟩ b7).setCell ⟨g, 8, none⟩ b8).setCell ⟨g, 9, none⟩ b9).heap[g]? = some (.cells #[b0, b1, b2, b3, b4, b5, b6, b7, b8, b9] t (0, 0)) := by
  have h1 : (w.setCell ⟨g, 0, none⟩ b0).heap[g]? = some (.cells #[b0, a1, a2, a3, a4, a5, a6, a7, a8, a9] t (0, 0)) := blk_set0 b0 h
  have h2 : ((w.setCell ⟨g, 0, none⟩ b0).setCell ⟨g, 1, none⟩ b1).heap[g]? = some (.cells #[b0, b1, a2, a3, a4, a5, a6, a7, a8, a9] t (0, 0)) := blk_set0 b1 h1
  have h3 : (((w.setCell ⟨g, 0, none⟩ b0).setCell ⟨g, 1, none⟩ b1).setCell ⟨g, 2, none⟩ b2).heap[g]? = some (.cells #[b0, b1, b2, a3, a4, a5, a6, a7, a8, a9] t (0, 0)) := blk_set0 b2 h2
  have h4 : ((((w.setCell ⟨g, 0, none⟩ b0).setCell ⟨g, 1, none⟩ b1).setCell ⟨g, 2, none⟩ b2).setCell ⟨g, 3, none⟩ b3).heap[g]? = some (.cells #[b0, b1, b2, b3, a4, a5, a6, a7, a8, a9] t (0, 0)) := blk_set0 b3 h3
  have h5 : (((((w.setCell ⟨g, 0, none⟩ b0).setCell ⟨g, 1, none⟩ b1).setCell ⟨g, 2, none⟩ b2).setCell ⟨g, 3, none⟩ b3).setCell ⟨g, 4, none⟩ b4).heap[g]? = some (.cells #[b0, b1, b2, b3, b4, a5, a6, a7, a8, a9] t (0, 0)) := blk_set0 b4 h4
  have h6 : ((((((w.setCell ⟨g, 0, none⟩ b0).setCell ⟨g, 1, none⟩ b1).setCell ⟨g, 2, none⟩ b2).setCell ⟨g, 3, none⟩ b3).setCell ⟨g, 4, none⟩ b4).setCell ⟨g, 5, none⟩ b5).heap[g]? = some (.cells #[b0, b1, b2, b3, b4, b5, a6, a7, a8, a9] t (0, 0)) := blk_set0 b5 h5
  have h7 : (((((((w.setCell ⟨g, 0, none⟩ b0).setCell ⟨g, 1, none⟩ b1).setCell ⟨g, 2, none⟩ b2).setCell ⟨g, 3, none⟩ b3).setCell ⟨g, 4, none⟩ b4).setCell ⟨g, 5, none⟩ b5).setCell ⟨g, 6, none⟩ b6).heap[g]? = some (.cells #[b0, b1, b2, b3, b4, b5, b6, a7, a8, a9] t (0, 0)) := blk_set0 b6 h6
  have h8 : ((((((((w.setCell ⟨g, 0, none⟩ b0).setCell ⟨g, 1, none⟩ b1).setCell ⟨g, 2, none⟩ b2).setCell ⟨g, 3, none⟩ b3).setCell ⟨g, 4, none⟩ b4).setCell ⟨g, 5, none⟩ b5).setCell ⟨g, 6, none⟩ b6).setCell ⟨g, 7, none⟩ b7).heap[g]? = some (.cells #[b0, b1, b2, b3, b4, b5, b6, b7, a8, a9] t (0, 0)) := blk_set0 b7 h7
  have h9 : (((((((((w.setCell ⟨g, 0, none⟩ b0).setCell ⟨g, 1, none⟩ b1).setCell ⟨g, 2, none⟩ b2).setCell ⟨g, 3, none⟩ b3).setCell ⟨g, 4, none⟩ b4).setCell ⟨g, 5, none⟩ b5).setCell ⟨g, 6, none⟩ b6).setCell ⟨g, 7, none⟩ b7).setCell ⟨g, 8, none⟩ b8).heap[g]? = some (.cells #[b0, b1, b2, b3, b4, b5, b6, b7, b8, a9] t (0, 0)) := blk_set0 b8 h8
  have h10 : ((((((((((w.setCell ⟨g, 0, none⟩ b0).setCell ⟨g, 1, none⟩ b1).setCell ⟨g, 2, none⟩ b2).setCell ⟨g, 3, none⟩ b3).setCell ⟨g, 4, none⟩ b4).setCell ⟨g, 5, none⟩ b5).setCell ⟨g, 6, none⟩ b6).setCell ⟨g, 7, none⟩ b7).setCell ⟨g, 8, none⟩ b8).setCell ⟨g, 9, none⟩ b9).heap[g]? = some (.cells #[b0, b1, b2, b3, b4, b5, b6, b7, b8, b9] t (0, 0)) := blk_set0 b9 h9
  exact h10
theorem fs10 (w : World) (g : Nat) (b0 b1 b2 b3 b4 b5 b6 b7 b8 b9 : Value) : Fr w ((((((((((w.setCell ⟨g, 0, none⟩ b0).setCell ⟨g, 1, none⟩ b1).setCell ⟨g, 2, none⟩ b2).setCell ⟨g, 3, none⟩ b3).setCell ⟨g, 4, none⟩ b4).setCell ⟨g, 5, none⟩ b5).setCell ⟨g, 6, none⟩ b6).setCell ⟨g, 7, none⟩ b7).setCell ⟨g, 8, none⟩ b8).setCell ⟨g, 9, none⟩ b9) (fun k => k = g) :=
  ((((((((((Fr.setCell (S := fun k => k = g) w ⟨g, 0, none⟩ b0 rfl).trans (Fr.setCell (S := fun k => k = g) _ ⟨g, 1, none⟩ b1 rfl) (fun _ _ h => h)).trans (Fr.setCell (S := fun k => k = g) _ ⟨g, 2, none⟩ b2 rfl) (fun _ _ h => h)).trans (Fr.setCell (S := fun k => k = g) _ ⟨g, 3, none⟩ b3 rfl) (fun _ _ h => h)).trans (Fr.setCell (S := fun k => k = g) _ ⟨g, 4, none⟩ b4 rfl) (fun _ _ h => h)).trans (Fr.setCell (S := fun k => k = g) _ ⟨g, 5, none⟩ b5 rfl) (fun _ _ h => h)).trans (Fr.setCell (S := fun k => k = g) _ ⟨g, 6, none⟩ b6 rfl) (fun _ _ h => h)).trans (Fr.setCell (S := fun k => k = g) _ ⟨g, 7, none⟩ b7 rfl) (fun _ _ h => h)).trans (Fr.setCell (S := fun k => k = g) _ ⟨g, 8, none⟩ b8 rfl) (fun _ _ h => h)).trans (Fr.setCell (S := fun k => k = g) _ ⟨g, 9, none⟩ b9 rfl) (fun _ _ h => h))
theorem size_ag : (Tryz.prog.info? 54).map (·.size) = some 10 := by kernel_rfl
theorem one_new' (w : World) (x : Obj) : Below w.heap.size w (w.alloc x) := (Below.refl _ _).alloc (Nat.le_refl _) _
theorem heap_alloc_new2 (w : World) (x : Obj) (y : Obj) : ((w.alloc x).alloc y).heap[w.heap.size + 1]? = some y := by
  have := heap_alloc_new (w.alloc x) y
  rw [World.size_alloc] at this
  exact this
theorem blk_al' {W : World} {k : Nat} {ob : Obj} (o : Obj) (h : W.heap[k]? = some ob) : (W.alloc o).heap[k]? = some ob := ((one_new' W o).block k (lt_of_block h)).trans h
theorem blk_al2 (w : World) (x : Obj) (y : Obj) : ((w.alloc x).alloc y).heap[w.heap.size]? = some x := blk_al' _ (heap_alloc_new _ _)
end Go.Proofs.YtidghoipmggklaaGreat
end

section
/- agg.Merge at any two aggregates. -/
namespace Go.Proofs.YtidghoipmggklaaGreat
open Go.RowKit

theorem get_some {o : Nat → Option Int} {k : Nat} {v : Int} (hk : k ≤ 4) (h : o k = some v) (w : World) :
    Calls Tryz.prog 146 #[AO o, .int .i64 (k : Int)] w fun e w' => e = .returned (.tuple #[.int .i64 v, .bool true]) ∧ Below w.heap.size w w' :=
  (get_any o k w).mono fun e w' h' => ⟨h'.1.trans (by rw [getO_in hk, h]; rfl), h'.2⟩
theorem get_none {o : Nat → Option Int} {k : Nat} (hk : k ≤ 4) (h : o k = none) (w : World) :
    Calls Tryz.prog 146 #[AO o, .int .i64 (k : Int)] w fun e w' => e = .returned (.tuple #[.int .i64 0, .bool false]) ∧ Below w.heap.size w w' :=
  (get_any o k w).mono fun e w' h' => ⟨h'.1.trans (by rw [getO_in hk, h]; rfl), h'.2⟩
theorem box_ao {w : World} {g : Nat} {t : TypeId} {o : Nat → Option Int} (h : w.heap[g]? = some (.cells (AOc o) t (0, 0))) : w.cell? ⟨g, 0, none⟩ = some (.bool (oh o 0)) ∧ w.cell? ⟨g, 1, none⟩ = some (.bool (oh o 1)) ∧ w.cell? ⟨g, 2, none⟩ = some (.bool (oh o 2)) ∧ w.cell? ⟨g, 3, none⟩ = some (.bool (oh o 3)) ∧ w.cell? ⟨g, 4, none⟩ = some (.bool (oh o 4)) ∧ w.cell? ⟨g, 5, none⟩ = some (.int .i64 (ov o 0)) ∧ w.cell? ⟨g, 6, none⟩ = some (.int .i64 (ov o 1)) ∧ w.cell? ⟨g, 7, none⟩ = some (.int .i64 (ov o 2)) ∧ w.cell? ⟨g, 8, none⟩ = some (.int .i64 (ov o 3)) ∧ w.cell? ⟨g, 9, none⟩ = some (.int .i64 (ov o 4)) := mblk10 h
theorem fro_ao {w : World} {g : Nat} {t : TypeId} {c : Array Value} (h : w.heap[g]? = some (.cells c t (0, 0))) : w.frozen? ⟨g, 0, none⟩ = false ∧ w.frozen? ⟨g, 1, none⟩ = false ∧ w.frozen? ⟨g, 2, none⟩ = false ∧ w.frozen? ⟨g, 3, none⟩ = false ∧ w.frozen? ⟨g, 4, none⟩ = false ∧ w.frozen? ⟨g, 5, none⟩ = false ∧ w.frozen? ⟨g, 6, none⟩ = false ∧ w.frozen? ⟨g, 7, none⟩ = false ∧ w.frozen? ⟨g, 8, none⟩ = false ∧ w.frozen? ⟨g, 9, none⟩ = false :=
  ⟨froz10 h 0, froz10 h 1, froz10 h 2, froz10 h 3, froz10 h 4, froz10 h 5, froz10 h 6, froz10 h 7, froz10 h 8, froz10 h 9⟩
/-- The boxes of Merge between two kinds. -/
structure MB (w wr : World) (a b o : Nat → Option Int) : Prop where
  ba : wr.heap[w.heap.size]? = some (.cells (AOc a) 54 (0, 0))
  bb : wr.heap[w.heap.size + 1]? = some (.cells (AOc b) 54 (0, 0))
  br : wr.heap[w.heap.size + 1 + 1]? = some (.cells zc 54 (0, 0))
  bo : wr.heap[w.heap.size + 1 + 1 + 1]? = some (.cells (AOc o) 54 (0, 0))
  low : Below w.heap.size w wr
theorem MB.new {w wr w' : World} {a b o : Nat → Option Int} (h : MB w wr a b o) (hb : Below wr.heap.size wr w') : MB w w' a b o :=
  ⟨(hb.block _ (lt_of_block h.ba)).trans h.ba, (hb.block _ (lt_of_block h.bb)).trans h.bb, (hb.block _ (lt_of_block h.br)).trans h.br, (hb.block _ (lt_of_block h.bo)).trans h.bo, h.low.trans (hb.mono h.low.size)⟩
theorem MB.al {w wr : World} {a b o : Nat → Option Int} (h : MB w wr a b o) (x : Obj) : MB w (wr.alloc x) a b o := h.new (one_new' _ _)
theorem MB.put {w wr w' : World} {a b o o' : Nat → Option Int} (h : MB w wr a b o) (f : Fr wr w' (fun k => k = w.heap.size + 1 + 1 + 1)) (hn : w'.heap[w.heap.size + 1 + 1 + 1]? = some (.cells (AOc o') 54 (0, 0))) : MB w w' a b o' :=
  ⟨(f.block _ (lt_of_block h.ba) (by omega)).trans h.ba, (f.block _ (lt_of_block h.bb) (by omega)).trans h.bb, (f.block _ (lt_of_block h.br) (by omega)).trans h.br, hn, h.low.trans (f.below h.low.size (fun k hk => by omega))⟩
theorem MB.start (w : World) (a b : Nat → Option Int) : MB w ((((w.alloc (.cells (AOc a) 54)).alloc (.cells (AOc b) 54)).alloc (.cells zc 54)).alloc (.cells (AOc a) 54)) a b a := by
  have s1 := World.size_alloc w (.cells (AOc a) 54)
  have s2 := World.size_alloc (w.alloc (.cells (AOc a) 54)) (.cells (AOc b) 54)
  have s3 := World.size_alloc ((w.alloc (.cells (AOc a) 54)).alloc (.cells (AOc b) 54)) (.cells zc 54)
  rw [s1] at s2
  rw [s2] at s3
  have h1 := heap_alloc_new (w.alloc (.cells (AOc a) 54)) (.cells (AOc b) 54)
  rw [s1] at h1
  have h2 := heap_alloc_new ((w.alloc (.cells (AOc a) 54)).alloc (.cells (AOc b) 54)) (.cells zc 54)
  rw [s2] at h2
  have h3 := heap_alloc_new (((w.alloc (.cells (AOc a) 54)).alloc (.cells (AOc b) 54)).alloc (.cells zc 54)) (.cells (AOc a) 54)
  rw [s3] at h3
  exact ⟨blk_al' _ (blk_al' _ (blk_al' _ (heap_alloc_new _ _))), blk_al' _ (blk_al' _ h1), blk_al' _ h2, h3, ((one_new' w _).trans (((one_new' _ _).trans (((one_new' _ _).trans ((one_new' _ _).mono (by simp))).mono (by simp))).mono (by simp)))⟩
end Go.Proofs.YtidghoipmggklaaGreat
end

section
/- What agg.Put puts. -/
namespace Go.Proofs.YtidghoipmggklaaGreat
open Go.RowKit
/-- A kind's bytes: a no, or a yes and the value. -/
def pbit (o : Nat → Option Int) (k : Nat) : List UInt8 :=
  match o k with
  | none => [0]
  | some v => 1 :: sgB v
/-- The first so many kinds' bytes. -/
def putK (o : Nat → Option Int) (k : Nat) : List UInt8 := (List.range k).flatMap (pbit o)
theorem putK_succ (o : Nat → Option Int) (k : Nat) : putK o (k + 1) = putK o k ++ pbit o k := by
  unfold putK
  rw [List.range_succ, List.flatMap_append]
  simp
theorem pbit_none {o : Nat → Option Int} {k : Nat} (h : o k = none) : pbit o k = [0] := by unfold pbit; rw [h]
theorem pbit_some {o : Nat → Option Int} {k : Nat} {v : Int} (h : o k = some v) : pbit o k = 1 :: sgB v := by unfold pbit; rw [h]
theorem i6_i64 {x : Int} (h : I6 x) : I64 x := h
theorem pbit_len {o : Nat → Option Int} (ho : OkO o) (k : Nat) : (pbit o k).length ≤ 11 := by
  cases e : o k with
  | none => rw [pbit_none e]; simp
  | some v => rw [pbit_some e]; have := sgB_len (i6_i64 (ho k v e)); simp; omega
theorem putK_len {o : Nat → Option Int} (ho : OkO o) : ∀ k, (putK o k).length ≤ 11 * k
  | 0 => by simp [putK]
  | k + 1 => by
    rw [putK_succ, List.length_append]
    have := putK_len ho k
    have := pbit_len ho k
    omega
theorem WTo.next {w w' w2 : World} {base p : Nat} {v : Value} {l : List UInt8} (h : WTo w w' base p v l) (hb : Below w'.heap.size w' w2) : WTo w w2 base p v l := by
  obtain ⟨v', hw, hf, hr⟩ := h
  have f : Fr w' w2 (fun k => w'.heap.size ≤ k) := ⟨hb.os, hb.tape, hb.output, hb.size, fun k _ hn => hb.block k (by omega)⟩
  refine ⟨v', hw.kept f (by have := hw.lt; omega) (fun k hk => by have := hw.olt k hk; omega), hf.trans f (fun k hk hS => ?_), hr⟩
  have := hf.size
  omega
theorem wbool_w {w0 w : World} {base p : Nat} {v : Value} {l : List UInt8} (b : Bool) (h : WTo w0 w base p v l) (hroom : l.length + 10 ≤ 140737488355328) :
    Calls Tryz.prog 97 #[.pointer (some ⟨p, 0, none⟩), .bool b] w fun r w' => r = .returned (.tuple #[]) ∧ WTo w0 w' base p v (l ++ numB b.toNat) := by
  obtain ⟨v1, hw, hf, hr⟩ := h
  exact (wbool_any b hw hroom).mono fun r w' ⟨h1, h2⟩ => ⟨h1, WTo.then hf hr h2⟩
set_option maxRecDepth 100000 in
set_option maxHeartbeats 2000000 in
theorem aput_any {w : World} {base p : Nat} {v : Value} {l : List UInt8} (o : Nat → Option Int) (h : Wr w base p v l) (ho : OkO o) (hroom : l.length + 100 ≤ 140737488355328) :
    Calls Tryz.prog 92 #[.pointer (some ⟨p, 0, none⟩), AO o] w fun r w' => r = .returned (.tuple #[]) ∧ WTo w w' base p v (l ++ putK o 5) := by
  have hbp : w.heap.size ≠ p := by have := h.lt; omega
  have hbv : v.ownBlock ≠ some w.heap.size := fun e => by have := h.olt _ e; omega
  have HO : Hid (OkO o) := ho
  have HL : Hid (∀ k, k ≤ 5 → (l ++ putK o k).length + 40 ≤ 140737488355328) := fun k hk => by have := putK_len ho k; rw [List.length_append]; omega
  obtain ⟨W0, hW0⟩ : ∃ W0, w.alloc (.cells (AOc o) 54) = W0 := ⟨_, rfl⟩
  have hT0 : WTo W0 W0 base p v l := by rw [← hW0]; exact WTo.refl (h.al _)
  obtain ⟨k0, k1, k2, k3, k4, k5, k6, k7, k8, k9⟩ := box_ao (show W0.heap[w.heap.size]? = some (.cells (AOc o) 54 (0, 0)) by rw [← hW0]; exact heap_alloc_new _ _)
  have HF : Hid (∀ w' l', WTo W0 w' base p v l' → WTo w w' base p v l') := fun w' l' h' => by rw [← hW0] at h'; exact h'.fromAlloc
  have HT0 : Hid _ := hT0
  clear h ho hroom hT0
  unfold AOc AC at hW0
  show Calls Tryz.prog 92 #[.pointer (some ⟨p, 0, none⟩), AG (oh o) (ov o)] w _
  unfold AG
  go_enter Tryz.func92, Tryz.ntmps92
  go_wp2
  go_loopw [7] (fun i wr => ∃ k : Nat, k ≤ 5 ∧ i = .int .i64 k ∧ WTo W0 wr base p v (l ++ putK o k)) (fun i _ => 5 - (intOf i).toNat)
  case atStart => exact ⟨0, Nat.zero_le _, rfl, by rw [show putK o 0 = [] from rfl, List.append_nil]; exact HT0.out⟩
  case round =>
    obtain ⟨k, hk, rfl, hT⟩ := hrel
    by_cases hlt : k < 5
    · have c0 := hT.cell hbp hbv k0
      have c1 := hT.cell hbp hbv k1
      have c2 := hT.cell hbp hbv k2
      have c3 := hT.cell hbp hbv k3
      have c4 := hT.cell hbp hbv k4
      have c5 := hT.cell hbp hbv k5
      have c6 := hT.cell hbp hbv k6
      have c7 := hT.cell hbp hbv k7
      have c8 := hT.cell hbp hbv k8
      have c9 := hT.cell hbp hbv k9
      have HT : Hid _ := hT
      clear hT k0 k1 k2 k3 k4 k5 k6 k7 k8 k9
      cases hv : o k with
      | none =>
        have HV : Hid _ := hv
        clear hv
        go_wp2_with (first
          | (go_at_call 146; refine (get_none (o := o) (by omega) HV.out _).mono ?_; rintro e w1 ⟨rfl, hb1⟩)
          | (go_at_call 97; refine (wbool_w false (WTo.next HT.out hb1) (by have := HL.out k hk; omega)).mono ?_; rintro e w2 ⟨rfl, hT2⟩))
        go_roundw
        case rel => exact ⟨k + 1, by omega, by go_num, by rw [putK_succ, pbit_none HV.out, ← List.append_assoc]; exact hT2⟩
        case measure => simp [intOf]; omega
      | some x =>
        have HV : Hid _ := hv
        have HI : Hid (I64 x) := HO.out _ _ hv
        clear hv
        go_wp2_with (first
          | (go_at_call 146; refine (get_some (o := o) (by omega) HV.out _).mono ?_; rintro e w1 ⟨rfl, hb1⟩)
          | (go_at_call 97; refine (wbool_w true (WTo.next HT.out hb1) (by have := HL.out k hk; omega)).mono ?_; rintro e w2 ⟨rfl, hT2⟩)
          | (go_at_call 52; refine (wsigned_w x hT2 HI.out (by have := HL.out k hk; rw [List.length_append]; simp [numB, numG]; simp at this; omega)).mono ?_; rintro e w3 ⟨rfl, hT3⟩))
        go_roundw
        case rel => exact ⟨k + 1, by omega, by go_num, by rw [putK_succ, pbit_some HV.out]; have e : l ++ (putK o k ++ 1 :: sgB x) = l ++ putK o k ++ numB true.toNat ++ sgB x := (by simp [numB, numG]); rw [e]; exact hT3⟩
        case measure => simp [intOf]; omega
    · obtain rfl : k = 5 := by omega
      go_wp2
      go_end0
      exact ⟨rfl, HF.out _ _ hT⟩
end Go.Proofs.YtidghoipmggklaaGreat
end

section
/- Lists of numbers and of values, put by a writer. -/
namespace Go.Proofs.YtidghoipmggklaaGreat
open Go.RowKit
attribute [local go_sem] Oper.semAt_some
theorem wcount_iM {w0 w : World} {base p : Nat} {v : Value} {l : List UInt8} (n : Int) (h : WTo w0 w base p v l) (hn : n ≤ 9223372036854775807) (hroom : l.length + 10 ≤ 140737488355328) :
    Calls Tryz.prog 51 #[.pointer (some ⟨p, 0, none⟩), .int .i64 n] w fun r w' => r = .returned (.tuple #[]) ∧ WTo w0 w' base p v (l ++ numB n.toNat) := by
  obtain ⟨v1, hw, hf, hr⟩ := h
  exact (wcount_any n hw hn hroom).mono fun r w' ⟨h1, h2⟩ => ⟨h1, WTo.then hf hr h2⟩
/-- The bytes of numbers; below none counts as none. -/
def nmB (L : List Int) : List UInt8 := L.flatMap (fun x => numB x.toNat)
theorem nm_snoc (L : List Int) (j : Nat) (h : j < L.length) : nmB (L.take (j + 1)) = nmB (L.take j) ++ numB L[j].toNat := by
  unfold nmB
  rw [List.take_succ_eq_append_getElem h, List.flatMap_append]; simp
theorem nm_len : ∀ (L : List Int), (∀ x ∈ L, x ≤ 9223372036854775807) → (nmB L).length ≤ 10 * L.length
  | [], _ => by simp [nmB]
  | x :: L, h => by
    have h1 := nm_len L (fun y hy => h y (by simp [hy]))
    have h2 := numB_len10 (n := x.toNat) (by have := h x (by simp); omega)
    unfold nmB at h1 ⊢
    rw [List.flatMap_cons, List.length_append, List.length_cons]
    omega
theorem nm_take (L : List Int) (h : ∀ x ∈ L, x ≤ 9223372036854775807) (j : Nat) : (nmB (L.take j)).length ≤ 10 * L.length := by
  have := nm_len (L.take j) (fun x hx => h x (List.mem_of_mem_take hx))
  rw [List.length_take] at this
  omega
/-- Numbers that lie apart from a writer. -/
def NmAt (w : World) (p : Nat) (v : Value) (ao : Option Addr) (L : List Int) : Prop := 0 < L.length → ∃ b off, ao = some ⟨b, off, none⟩ ∧ b ≠ p ∧ v.ownBlock ≠ some b ∧ ∀ j (h : j < L.length), w.cell? ⟨b, off + j, none⟩ = some (.int .i64 L[j])
theorem NmAt.next {w w' : World} {p : Nat} {v v1 : Value} {ao : Option Addr} {L : List Int} (h : NmAt w p v ao L) (f : Fr w w' (fun k => k = p ∨ v.ownBlock = some k)) (hr : Row w v v1) : NmAt w' p v1 ao L := fun h0 => by
  obtain ⟨b, off, e, h1, h2, h3⟩ := h h0
  refine ⟨b, off, e, h1, ?_, fun j hj => fr_cell f (by rintro (e | e); exact h1 e; exact h2 e) (h3 j hj)⟩
  rcases hr with e | ⟨g, e, hg⟩
  · rw [e]; exact h2
  · rw [e]
    intro hh
    cases hh
    have := ma_ltc (h3 0 h0)
    omega
set_option maxRecDepth 100000 in
set_option maxHeartbeats 1000000 in
theorem putnums_any {w : World} {base p : Nat} {v : Value} {l : List UInt8} {ao : Option Addr} {n cap : Nat} (L : List Int) (hn : n = L.length) (h : Wr w base p v l) (hL : NmAt w p v ao L) (hx : ∀ x ∈ L, x ≤ 9223372036854775807) (hroom : l.length + 10 + 10 * L.length ≤ 140737488355328) :
    Calls Tryz.prog 91 #[.pointer (some ⟨p, 0, none⟩), .slice ao n cap] w fun r w' => r = .returned (.tuple #[]) ∧ WTo w w' base p v (l ++ nmB L) := by
  have HT0 : Hid (WTo w w base p v (l ++ nmB (L.take 0))) := by
    show WTo _ _ _ _ _ _
    have := WTo.refl h
    simpa [nmB] using this
  have HL : Hid (NmAt w p v ao L) := hL
  have HX : Hid (∀ x ∈ L, x ≤ 9223372036854775807) := hx
  have HN : Hid (n = L.length) := hn
  have HR : Hid (l.length + 10 + 10 * L.length ≤ 140737488355328) := hroom
  have hnb : n ≤ 14073748835532 := by omega
  clear h hL hx hroom
  go_enter Tryz.func91, Tryz.ntmps91
  clear hn
  go_wp2
  go_loopw [5, 8] (fun _ i wr => ∃ j : Nat, j ≤ n ∧ i = .int .i64 j ∧ Hid (WTo w wr base p v (l ++ nmB (L.take j)))) (fun _ i _ => n - (intOf i).toNat)
  case atStart => exact ⟨0, Nat.zero_le _, rfl, HT0⟩
  case round =>
    clear HT0
    obtain ⟨j, hj, rfl, HTj⟩ := hrel
    by_cases hlt : j < n
    · have hjl : j < L.length := by rw [← HN.out]; exact hlt
      obtain ⟨b, off, rfl, hb1, hb2, hcs⟩ := HL.out (by omega)
      have x0 := HTj.out.cell (b := b) hb1 hb2 (hcs j hjl)
      have HZ : Hid (L[j] ≤ 9223372036854775807) := HX.out _ (List.getElem_mem hjl)
      have HS : Hid (nmB (L.take (j + 1)) = nmB (L.take j) ++ numB L[j].toNat) := nm_snoc L j hjl
      have HLn : Hid ((nmB (L.take j)).length ≤ 10 * L.length) := nm_take L HX.out j
      have hji : (j : Int) < n := by omega
      generalize L[j] = z at x0 HZ HS
      clear hcs hb1 hb2
      have hC := wcount_iM z HTj.out HZ.out (by have h1 := HLn.out; have h2 := HR.out; rw [List.length_append]; omega)
      go_wp2_with (go_at_call 51; refine hC.mono ?_; rintro r w4 ⟨rfl, hT4⟩)
      go_roundw
      case rel => exact ⟨j + 1, hlt, by go_num, by show WTo _ _ _ _ _ _; rw [HS.out]; simpa only [List.append_assoc] using hT4⟩
      case measure => simp [intOf]; omega
    · obtain rfl : j = n := by omega
      clear hlt
      have HFin : Hid (L.take j = L) := by show _ = _; rw [HN.out]; exact List.take_length
      go_wp2
      go_end0
      have := HTj.out
      rw [HFin.out] at this
      exact ⟨rfl, this⟩
set_option maxRecDepth 100000 in
/-- A list: how many, and they. -/
theorem putlist_any {w : World} {base p : Nat} {v : Value} {l : List UInt8} {ao : Option Addr} {n cap : Nat} (L : List Int) (hn : n = L.length) (h : Wr w base p v l) (hL : NmAt w p v ao L) (hx : ∀ x ∈ L, x ≤ 9223372036854775807) (hroom : l.length + 30 + 10 * L.length ≤ 140737488355328) :
    Calls Tryz.prog 96 #[.pointer (some ⟨p, 0, none⟩), .slice ao n cap] w fun r w' => r = .returned (.tuple #[]) ∧ WTo w w' base p v (l ++ numB n ++ nmB L) := by
  have hC := wcount_w n (WTo.refl h) (by omega) (by omega)
  have HL : Hid (NmAt w p v ao L) := hL
  have HX : Hid (∀ x ∈ L, x ≤ 9223372036854775807) := hx
  have HN : Hid (n = L.length) := hn
  have HR : Hid (l.length + 30 + 10 * L.length ≤ 140737488355328) := hroom
  have HNl : Hid ((numB n).length ≤ 10) := numB_len10 (by omega)
  clear h hL hx hroom hn
  go_enter Tryz.func96, Tryz.ntmps96
  go_upto_region 1 with (go_at_call 51; refine hC.mono ?_; rintro r w1 ⟨rfl, hT1⟩)
  obtain ⟨v1, hw1, hf1, hr1⟩ := hT1
  have HF1 : Hid (Fr w w1 (fun k => k = p ∨ v.ownBlock = some k)) := hf1
  have HR1 : Hid (Row w v v1) := hr1
  have hP := putnums_any (cap := cap) L HN.out hw1 (HL.out.next hf1 hr1) HX.out (by have := HR.out; have := HNl.out; rw [List.length_append]; omega)
  clear hC hw1 hf1 hr1
  go_wp2_with (go_at_call 91; refine hP.mono ?_; rintro r w2 ⟨rfl, hT2⟩)
  go_end0
  exact ⟨rfl, WTo.then HF1.out HR1.out hT2⟩
end Go.Proofs.YtidghoipmggklaaGreat
end

section
/- Lists of numbers, off a reader. -/
namespace Go.Proofs.YtidghoipmggklaaGreat
open Go.RowKit
attribute [local go_sem] Oper.semAt_some
/-- So many numbers, off bytes, behind those that were read. -/
def rdNs (s : ByteArray) : Nat → Nat → Int → List Int → List Int × Nat × Int
  | 0, a, e, L => (L, a, e)
  | n + 1, a, e, L => rdNs s n (rdCount s a e 2147483647).2.1 (rdCount s a e 2147483647).2.2 (L ++ [((rdCount s a e 2147483647).1 : Int)])
theorem rdNs_step {s : ByteArray} {n a n1 a1 : Nat} {e e1 : Int} {L : List Int} (h1 : rdCount s a e 2147483647 = (n1, a1, e1)) : rdNs s (n + 1) a e L = rdNs s n a1 e1 (L ++ [(n1 : Int)]) := by
  show rdNs s n (rdCount s a e 2147483647).2.1 (rdCount s a e 2147483647).2.2 _ = _
  simp only [h1]
/-- What a round of reading numbers holds. -/
structure NlI (w wr : World) (p : Nat) (s : ByteArray) (n j aj : Nat) (ej : Int) (v : Value) (Lj : List Int) (R : List Int × Nat × Int) : Prop where
  rd : Rd wr p s aj ej
  own : IO_ wr w.heap.size v Lj
  le : aj ≤ s.size
  len : Lj.length = j
  fr : Fr w wr (fun k => k = p)
  rest : rdNs s (n - j) aj ej Lj = R
  pl : p < w.heap.size
set_option maxRecDepth 100000 in
set_option maxHeartbeats 1000000 in
theorem takelist_any {w : World} {p : Nat} {s : ByteArray} {a n a1 : Nat} {e e1 : Int} {R : List Int × Nat × Int} (h : Rd w p s a e) (hs : s.size ≤ maxLen) (ha : a ≤ s.size) (hq : rdCount s a e 16 = (n, a1, e1)) (hR : rdNs s n a1 e1 [] = R) :
    Calls Tryz.prog 98 #[.pointer (some ⟨p, 0, none⟩)] w fun r w' => ∃ v, r = .returned v ∧ IO_ w' w.heap.size v R.1 ∧ Rd w' p s R.2.1 R.2.2 ∧ Fr w w' (fun k => k = p) := by
  have hC := rcount_any (most := 16) h hs ha (by decide)
  rw [hq] at hC
  obtain ⟨ha1, hn16, _, _⟩ := rdCount_to (most := 16) ha hq
  have HSz : Hid (s.size ≤ maxLen) := hs
  have HPl : Hid (p < w.heap.size) := h.lt
  have HR : Hid (rdNs s n a1 e1 [] = R) := hR
  have HA1 : Hid (a1 ≤ s.size) := ha1
  clear h hq hR ha ha1 hs
  go_enter Tryz.func98, Tryz.ntmps98
  go_upto_region 3 with (go_at_call 56; refine hC.mono ?_; rintro r w1 ⟨rfl, hw1, hf1⟩)
  have HI : Hid (NlI w w1 p s n 0 a1 e1 (.slice none 0 0) [] R) := ⟨hw1, GO.nil ie 1 3 w1 w.heap.size, HA1.out, rfl, hf1, HR.out, HPl.out⟩
  clear hC hw1 hf1
  go_wp2
  go_loopw [3, 6] (fun mv i wr => ∃ (j aj : Nat) (ej : Int) (Lj : List Int), j ≤ n ∧ i = .int .i64 j ∧ Hid (NlI w wr p s n j aj ej mv Lj R)) (fun _ i _ => n - (intOf i).toNat)
  case atStart => exact ⟨0, a1, e1, [], Nat.zero_le _, rfl, HI⟩
  case round =>
    clear HI
    obtain ⟨j, aj, ej, Lj, hj, rfl, HJ⟩ := hrel
    by_cases hlt : j < n
    · have hji : (j : Int) < n := by omega
      obtain ⟨x, a2, e2, hx⟩ : ∃ x a2 e2, rdCount s aj ej 2147483647 = (x, a2, e2) := ⟨_, _, _, rfl⟩
      have hC2 := srd_most HJ.out.rd HSz.out HJ.out.le hx
      have HX : Hid (rdCount s aj ej 2147483647 = (x, a2, e2)) := hx
      have hx2 : (x : Int) ≤ 2147483647 := by have := (rdCount_to (most := 2147483647) HJ.out.le hx).2.1; omega
      obtain ⟨mo, mc, rfl, _, _⟩ := GO.shape HJ.out.own
      clear hx
      go_wp2_with (first
        | (go_at_call 56; refine hC2.mono ?_; rintro r w4 ⟨rfl, hw4, hf4⟩; have HW4 : Hid (Rd w4 p s a2 e2) := hw4; have HF4 : Hid (Fr wr w4 (fun k => k = p)) := hf4; have HO4 : Hid (IO_ w4 w.heap.size (.slice mo Lj.length mc) Lj) := GO.kept HJ.out.own hf4 (fun k hk e => by have := (GO.lt HJ.out.own k hk).1; have := HJ.out.pl; omega); have HZ4 : Hid (w.heap.size ≤ w4.heap.size) := Nat.le_trans HJ.out.fr.size hf4.size; clear hw4 hf4)
        | (at_builtin; refine wpl_appG gT_int rfl rfl rfl rfl (R := Lj) (S := [(x : Int)]) (GO.new HO4.out (gone_new _ _)) (GS.one (heap_alloc_new _ _) rfl 1 (Nat.le_refl _)) (by have := HJ.out.len; simp; omega) (by have := HZ4.out; simp; omega) ?_; intro v6 w6 ho6 hf6 hr6))
      go_roundw
      case rel =>
        refine ⟨j + 1, a2, e2, Lj ++ [(x : Int)], hlt, by go_num, ?_⟩
        have hfa : Fr wr w6 (fun k => k = p ∨ (Value.slice mo Lj.length mc).ownBlock = some k) := (HF4.out.mono (fun k _ hk => .inl hk)).trans (((Fr.alloc w4 _ (fun _ => False)).mono (fun _ _ h => h.elim)).trans (hf6.mono (fun k _ hk => .inr hk)) (fun _ _ h => h)) (fun _ _ h => h)
        refine ⟨?_, ho6, (rdCount_to (most := 2147483647) HJ.out.le HX.out).1, by rw [List.length_append, HJ.out.len]; rfl, HJ.out.fr.trans hfa (fun k hk h => ?_), ?_, HJ.out.pl⟩
        · exact (HW4.out.below (gone_new _ _)).kept hf6 (fun e => by have := (GO.lt HO4.out p e).1; have := HJ.out.pl; omega)
        · rcases h with h | h
          · exact h
          · have := (GO.lt HJ.out.own k h).1; omega
        · have h1 := HJ.out.rest
          rw [show n - j = n - (j + 1) + 1 by omega, rdNs_step HX.out] at h1
          exact h1
      case measure => simp [intOf]; omega
    · obtain rfl : j = n := by omega
      clear hlt
      go_wp2
      go_ret
      have h1 := HJ.out.rest
      rw [Nat.sub_self] at h1
      obtain rfl : (Lj, aj, ej) = R := h1
      exact ⟨_, rfl, HJ.out.own, HJ.out.rd, HJ.out.fr⟩
end Go.Proofs.YtidghoipmggklaaGreat
end

section
/- Values, off a reader. -/
namespace Go.Proofs.YtidghoipmggklaaGreat
open Go.RowKit
attribute [local go_sem] Oper.semAt_some
def vle (x : Ed) : List Value := [.int .i64 x.t, .int .i64 x.w]
theorem vle_len (x : Ed) : (vle x).length = 2 := rfl
theorem gT_vl : GT vle 2 16 55 116 := by
  refine ⟨Tryz.underlying55, ?_, vle_len, fun x u hu => by simp only [vle, List.mem_cons, List.not_mem_nil, or_false] at hu; rcases hu with rfl | rfl <;> rfl, by decide, by decide⟩
  cases h : Tryz.prog.info? 116 with
  | none =>
    have : (Tryz.prog.info? 116).isSome = true := by kernel_rfl
    rw [h] at this
    cases this
  | some i =>
    have h1 : (Tryz.prog.info? 116).map (·.zero) = some (some (.agg #[.int .i64 0, .int .i64 0])) := by kernel_rfl
    have h2 : (Tryz.prog.info? 116).map (·.size) = some 2 := by kernel_rfl
    have h3 : (Tryz.prog.info? 116).map (·.bytes) = some 16 := by kernel_rfl
    rw [h] at h1 h2 h3
    exact ⟨i, _, rfl, by simpa using h1, by simpa using h2, by simpa using h3, rfl⟩
def VO (w : World) (B : Nat) (v : Value) (L : List Ed) : Prop := GO vle 2 116 w B v L
/-- So many values, off bytes, behind those that were read; none where there is an error. -/
def rdVl (s : ByteArray) : Nat → Nat → Int → List Ed → List Ed × Nat × Int
  | 0, a, e, L => (L, a, e)
  | n + 1, a, e, L => if (rdNum s (rdNum s a e).2.1 (rdNum s a e).2.2).2.2 = 0 then rdVl s n (rdNum s (rdNum s a e).2.1 (rdNum s a e).2.2).2.1 0 (L ++ [⟨unfoldN (rdNum s a e).1, unfoldN (rdNum s (rdNum s a e).2.1 (rdNum s a e).2.2).1⟩]) else ([], (rdNum s (rdNum s a e).2.1 (rdNum s a e).2.2).2.1, (rdNum s (rdNum s a e).2.1 (rdNum s a e).2.2).2.2)
theorem rdVl_go {s : ByteArray} {n a t a1 u a2 : Nat} {e e1 : Int} {L : List Ed} (h1 : rdNum s a e = (t, a1, e1)) (h2 : rdNum s a1 e1 = (u, a2, 0)) : rdVl s (n + 1) a e L = rdVl s n a2 0 (L ++ [⟨unfoldN t, unfoldN u⟩]) := by
  simp only [rdVl, h1, h2, if_true]
theorem rdVl_bad {s : ByteArray} {n a t a1 u a2 : Nat} {e e1 e2 : Int} {L : List Ed} (h1 : rdNum s a e = (t, a1, e1)) (h2 : rdNum s a1 e1 = (u, a2, e2)) (h : e2 ≠ 0) : rdVl s (n + 1) a e L = ([], a2, e2) := by
  simp only [rdVl, h1, h2, if_neg h]
structure VlI (w wr : World) (p : Nat) (s : ByteArray) (n j aj : Nat) (ej : Int) (v : Value) (Lj : List Ed) (R : List Ed × Nat × Int) : Prop where
  rd : Rd wr p s aj ej
  own : VO wr w.heap.size v Lj
  le : aj ≤ s.size
  len : Lj.length = j
  fr : Fr w wr (fun k => k = p)
  rest : rdVl s (n - j) aj ej Lj = R
  pl : p < w.heap.size
set_option maxRecDepth 100000 in
set_option maxHeartbeats 2000000 in
theorem takevals_any {w : World} {p : Nat} {s : ByteArray} {a n a1 : Nat} {e e1 : Int} {R : List Ed × Nat × Int} {most : Nat} (h : Rd w p s a e) (hs : s.size ≤ maxLen) (ha : a ≤ s.size) (hm : most ≤ 2147483647) (hq : rdCount s a e most = (n, a1, e1)) (hR : rdVl s n a1 e1 [] = R) :
    Calls Tryz.prog 95 #[.pointer (some ⟨p, 0, none⟩), .int .i64 most] w fun r w' => ∃ v, r = .returned v ∧ VO w' w.heap.size v R.1 ∧ Rd w' p s R.2.1 R.2.2 ∧ Fr w w' (fun k => k = p) := by
  have hC := rcount_any (most := (most : Int)) h hs ha (by omega)
  rw [hq] at hC
  obtain ⟨ha1, hnm, _, _⟩ := rdCount_to (most := most) ha hq
  have hn31 : n ≤ 2147483647 := by omega
  have HSz : Hid (s.size ≤ maxLen) := hs
  have HPl : Hid (p < w.heap.size) := h.lt
  have HR : Hid (rdVl s n a1 e1 [] = R) := hR
  have HA1 : Hid (a1 ≤ s.size) := ha1
  clear h hq hR ha ha1 hs hnm
  go_enter Tryz.func95, Tryz.ntmps95
  go_upto_region 3 with (go_at_call 56; refine hC.mono ?_; rintro r w1 ⟨rfl, hw1, hf1⟩)
  have HI : Hid (VlI w w1 p s n 0 a1 e1 (.slice none 0 0) [] R) := ⟨hw1, GO.nil vle 2 116 w1 w.heap.size, HA1.out, rfl, hf1, HR.out, HPl.out⟩
  clear hC hw1 hf1
  go_wp2
  go_loopw [5, 10] (fun mv i wr => ∃ (j aj : Nat) (ej : Int) (Lj : List Ed), j ≤ n ∧ i = .int .i64 j ∧ Hid (VlI w wr p s n j aj ej mv Lj R)) (fun _ i _ => n - (intOf i).toNat)
  case atStart => exact ⟨0, a1, e1, [], Nat.zero_le _, rfl, HI⟩
  case round =>
    clear HI
    obtain ⟨j, aj, ej, Lj, hj, rfl, HJ⟩ := hrel
    by_cases hlt : j < n
    · have hji : (j : Int) < n := by omega
      obtain ⟨x, a2, e2, hx⟩ : ∃ x a2 e2, rdNum s aj ej = (x, a2, e2) := ⟨_, _, _, rfl⟩
      obtain ⟨y, a3, e3, hy⟩ : ∃ y a3 e3, rdNum s a2 e2 = (y, a3, e3) := ⟨_, _, _, rfl⟩
      have HX : Hid (rdNum s aj ej = (x, a2, e2)) := hx
      have HY : Hid (rdNum s a2 e2 = (y, a3, e3)) := hy
      have HA2 : Hid (a2 ≤ s.size) := (rdNum_to HJ.out.le hx).1
      have HA3 : Hid (a3 ≤ s.size) := (rdNum_to HA2.out hy).1
      have hC1 := r_sgJ HJ.out.rd HSz.out HJ.out.le hx
      obtain ⟨mo, mc, rfl, _, _⟩ := GO.shape HJ.out.own
      have tk1 : Hid True := trivial
      clear hx hy
      go_upto_region 5 with (first
        | (go_at_call 119; have _t := tk1; refine hC1.mono ?_; rintro r w4 ⟨rfl, hw4, hf4⟩; clear tk1 _t; have HW4 : Hid (Rd w4 p s a2 e2) := hw4; have HF4 : Hid (Fr wr w4 (fun k => k = p)) := hf4; clear hw4 hf4 hC1; have hC2 := r_sgJ HW4.out HSz.out HA2.out HY.out)
        | (go_at_call 119; refine hC2.mono ?_; rintro r w5 ⟨rfl, hw5, hf5⟩; have HW5 : Hid (Rd w5 p s a3 e3) := hw5; have HF5 : Hid (Fr wr w5 (fun k => k = p)) := HF4.out.trans hf5 (fun _ _ h => h); clear hw5 hf5 hC2))
      generalize hW6 : World.alloc w5 _ = W6
      have HW6 : Hid (Rd W6 p s a3 e3) := HW5.out.below (by rw [← hW6]; exact gone_new _ _)
      have HF6 : Hid (Fr wr W6 (fun k => k = p)) := HF5.out.trans ((Fr.alloc w5 _ (fun _ => False)).mono (fun _ _ h => h.elim) |> fun f => by rw [← hW6]; exact f) (fun _ _ h => h)
      obtain ⟨q0, q1⟩ := box2 (show W6.heap[w5.heap.size]? = some (.cells #[.int .i64 (unfoldN x), .int .i64 (unfoldN y)] 116 (0, 0)) by rw [← hW6]; exact heap_alloc_new _ _)
      have HZ6 : Hid (w.heap.size ≤ W6.heap.size) := Nat.le_trans HJ.out.fr.size HF6.out.size
      have HO6 : Hid (VO W6 w.heap.size (.slice mo Lj.length mc) Lj) := GO.kept HJ.out.own HF6.out (fun k hk e => by have := (GO.lt HJ.out.own k hk).1; have := HJ.out.pl; omega)
      have HRest : Hid (rdVl s (n - (j + 1) + 1) aj ej Lj = R) := by
        have h1 := HJ.out.rest
        rw [show n - j = n - (j + 1) + 1 by omega] at h1
        exact h1
      clear hW6
      generalize w5.heap.size = gb at q0 q1 ⊢
      by_cases he : e3 = 0
      · subst he
        generalize hux : unfoldN x = ux at q0 q1 ⊢
        generalize huy : unfoldN y = uy at q0 q1 ⊢
        have HU : Hid (unfoldN x = ux ∧ unfoldN y = uy) := ⟨hux, huy⟩
        clear hux huy
        go_wp2_with (first
          | (go_at_call 58; refine (err_any HW6.out).mono ?_; rintro r w7 ⟨rfl, h7⟩; rw [h7]; clear h7)
          | (at_builtin; refine wpl_appG gT_vl rfl rfl rfl rfl (R := Lj) (S := [(⟨ux, uy⟩ : Ed)]) (GO.new HO6.out (gone_new _ _)) (GS.one (heap_alloc_new _ _) rfl 1 (Nat.le_refl _)) (by have := HJ.out.len; simp; omega) (by have := HZ6.out; simp; omega) ?_; intro v8 w8 ho8 hf8 hr8))
        go_roundw
        case rel =>
          refine ⟨j + 1, a3, 0, Lj ++ [(⟨ux, uy⟩ : Ed)], hlt, by go_num, ?_⟩
          have hfa : Fr wr w8 (fun k => k = p ∨ (Value.slice mo Lj.length mc).ownBlock = some k) := (HF6.out.mono (fun k _ hk => .inl hk)).trans (((Fr.alloc W6 _ (fun _ => False)).mono (fun _ _ h => h.elim)).trans (hf8.mono (fun k _ hk => .inr hk)) (fun _ _ h => h)) (fun _ _ h => h)
          refine ⟨?_, ho8, HA3.out, by rw [List.length_append, HJ.out.len]; rfl, HJ.out.fr.trans hfa (fun k hk h => ?_), ?_, HJ.out.pl⟩
          · exact (HW6.out.below (gone_new _ _)).kept hf8 (fun e => by have := (GO.lt HO6.out p e).1; have := HJ.out.pl; omega)
          · rcases h with h | h
            · exact h
            · have := (GO.lt HJ.out.own k h).1; omega
          · have h1 := HRest.out
            rw [rdVl_go HX.out HY.out, HU.out.1, HU.out.2] at h1
            exact h1
        case measure => simp [intOf]; omega
      · go_wp2_with (go_at_call 58; refine (err_any HW6.out).mono ?_; rintro r w7 ⟨rfl, h7⟩; rw [h7]; clear h7)
        go_ret
        have h1 := HRest.out
        rw [rdVl_bad HX.out HY.out he] at h1
        obtain rfl : (([] : List Ed), a3, e3) = R := h1
        exact ⟨_, rfl, GO.nil vle 2 116 W6 w.heap.size, HW6.out, HJ.out.fr.trans HF6.out (fun _ _ h => h)⟩
    · obtain rfl : j = n := by omega
      clear hlt
      go_wp2
      go_ret
      have h1 := HJ.out.rest
      rw [Nat.sub_self] at h1
      obtain rfl : (Lj, aj, ej) = R := h1
      exact ⟨_, rfl, HJ.out.own, HJ.out.rd, HJ.out.fr⟩
end Go.Proofs.YtidghoipmggklaaGreat
end

section
/- Values, put by a writer. -/
namespace Go.Proofs.YtidghoipmggklaaGreat
open Go.RowKit
attribute [local go_sem] Oper.semAt_some
theorem vl_len : ∀ (L : List Ed), (∀ x ∈ L, x.ok) → (L.flatMap edB).length ≤ 20 * L.length
  | [], _ => by simp
  | x :: L, h => by
    have h1 := vl_len L (fun y hy => h y (by simp [hy]))
    have h2 := edB_len (h x (by simp))
    rw [List.flatMap_cons, List.length_append, List.length_cons]
    omega
theorem vl_take (L : List Ed) (h : ∀ x ∈ L, x.ok) (j : Nat) : ((L.take j).flatMap edB).length ≤ 20 * L.length := by
  have := vl_len (L.take j) (fun x hx => h x (List.mem_of_mem_take hx))
  rw [List.length_take] at this
  omega
/-- Values that lie apart from a writer. -/
def VlAt (w : World) (p : Nat) (v : Value) (ao : Option Addr) (L : List Ed) : Prop := 0 < L.length → ∃ b off, ao = some ⟨b, off, none⟩ ∧ b ≠ p ∧ v.ownBlock ≠ some b ∧ ∀ j (h : j < L.length), w.cell? ⟨b, off + j * 2, none⟩ = some (.int .i64 L[j].t) ∧ w.cell? ⟨b, off + j * 2 + 1, none⟩ = some (.int .i64 L[j].w)
theorem VlAt.next {w w' : World} {p : Nat} {v v1 : Value} {ao : Option Addr} {L : List Ed} (h : VlAt w p v ao L) (f : Fr w w' (fun k => k = p ∨ v.ownBlock = some k)) (hr : Row w v v1) : VlAt w' p v1 ao L := fun h0 => by
  obtain ⟨b, off, e, h1, h2, h3⟩ := h h0
  refine ⟨b, off, e, h1, ?_, fun j hj => ⟨fr_cell f (by rintro (e | e); exact h1 e; exact h2 e) (h3 j hj).1, fr_cell f (by rintro (e | e); exact h1 e; exact h2 e) (h3 j hj).2⟩⟩
  rcases hr with e | ⟨g, e, hg⟩
  · rw [e]; exact h2
  · rw [e]
    intro hh
    cases hh
    have := ma_ltc (h3 0 h0).1
    omega
set_option maxRecDepth 100000 in
set_option maxHeartbeats 1000000 in
theorem putvals_any {w : World} {base p : Nat} {v : Value} {l : List UInt8} {ao : Option Addr} {n cap : Nat} (L : List Ed) (hn : n = L.length) (h : Wr w base p v l) (hL : VlAt w p v ao L) (hx : ∀ x ∈ L, x.ok) (hroom : l.length + 40 + 20 * L.length ≤ 140737488355328) :
    Calls Tryz.prog 93 #[.pointer (some ⟨p, 0, none⟩), .slice ao n cap] w fun r w' => r = .returned (.tuple #[]) ∧ WTo w w' base p v (l ++ numB n ++ L.flatMap edB) := by
  have hC := wcount_w n (WTo.refl h) (by omega) (by omega)
  have HL : Hid (VlAt w p v ao L) := hL
  have HX : Hid (∀ x ∈ L, x.ok) := hx
  have HN : Hid (n = L.length) := hn
  have HR : Hid (l.length + 40 + 20 * L.length ≤ 140737488355328) := hroom
  have HNl : Hid ((numB n).length ≤ 10) := numB_len10 (by omega)
  have hnb : n ≤ 14073748835532 := by omega
  have HPl : Hid (p < w.heap.size) := h.lt
  clear h hL hx hroom hn
  go_enter Tryz.func93, Tryz.ntmps93
  go_upto_region 1 with (go_at_call 51; refine hC.mono ?_; rintro r w1 ⟨rfl, hT1⟩)
  have HT0 : Hid (WTo w w1 base p v (l ++ numB n ++ (L.take 0).flatMap edB)) := by
    show WTo _ _ _ _ _ _
    simpa using hT1
  clear hC hT1
  go_wp2
  go_loopw [5, 12] (fun _ i wr => ∃ j : Nat, j ≤ n ∧ i = .int .i64 j ∧ Hid (WTo w wr base p v (l ++ numB n ++ (L.take j).flatMap edB))) (fun _ i _ => n - (intOf i).toNat)
  case atStart => exact ⟨0, Nat.zero_le _, rfl, HT0⟩
  case round =>
    clear HT0
    obtain ⟨j, hj, rfl, HTj⟩ := hrel
    by_cases hlt : j < n
    · have hjl : j < L.length := by rw [← HN.out]; exact hlt
      obtain ⟨b, off, rfl, hb1, hb2, hcs⟩ := HL.out (by omega)
      have x0 := HTj.out.cell (b := b) hb1 hb2 (hcs j hjl).1
      have x1 := HTj.out.cell (b := b) hb1 hb2 (hcs j hjl).2
      have HZ : Hid (L[j].ok) := HX.out _ (List.getElem_mem hjl)
      have HS : Hid _ := eds_snoc L j hjl
      have HLn : Hid (((L.take j).flatMap edB).length ≤ 20 * L.length) := vl_take L HX.out j
      have hji : (j : Int) < n := by omega
      generalize L[j] = z at x0 x1 HZ HS
      have HRm : Hid ((l ++ numB n ++ (L.take j).flatMap edB).length + 10 ≤ 140737488355328 ∧ (l ++ numB n ++ (L.take j).flatMap edB ++ sgB z.t).length + 10 ≤ 140737488355328) := by
        have h1 := HLn.out
        have h2 := HR.out
        have h3 := HNl.out
        have h4 := sgB_len HZ.out.t
        refine ⟨?_, ?_⟩ <;> simp only [List.length_append] <;> omega
      obtain ⟨vj, hwj, hfj, hrj⟩ := HTj.out
      have hbj : wr.heap.size ≠ p := by have := hwj.lt; omega
      have hvj : vj.ownBlock ≠ some wr.heap.size := fun e => by have := hwj.olt _ e; omega
      obtain ⟨Wj, hWj⟩ : ∃ Wj, wr.alloc (.cells #[.int .i64 z.t, .int .i64 z.w] 116) = Wj := ⟨_, rfl⟩
      have hTT := WTo.refl (hwj.al (.cells #[.int .i64 z.t, .int .i64 z.w] 116))
      obtain ⟨q0, q1⟩ := box2 (show Wj.heap[wr.heap.size]? = _ by rw [← hWj]; exact heap_alloc_new _ _)
      rw [hWj] at hTT
      have HG : Hid (∀ w' l', WTo Wj w' base p vj l' → WTo w w' base p v l') := fun w' l' h' => by rw [← hWj] at h'; exact WTo.then hfj hrj h'.fromAlloc
      clear hcs hb1 hb2 hwj hfj hrj
      go_wp2_with (go_at_call 52; refine (wsigned_w _ (by first | exact hT | exact hTT) (by first | exact HZ.out.t | exact HZ.out.w) (by first | exact HRm.out.1 | exact HRm.out.2)).mono ?_; rintro r w4 ⟨rfl, hT⟩; have c0 := hT.cell hbj hvj q0; have c1 := hT.cell hbj hvj q1)
      go_roundw
      case rel => exact ⟨j + 1, hlt, by go_num, HG.out _ _ (by rw [HS.out, show edB z = sgB z.t ++ sgB z.w from rfl]; simpa only [List.append_assoc] using hT)⟩
      case measure => simp [intOf]; omega
    · obtain rfl : j = n := by omega
      clear hlt
      have HFin : Hid (L.take j = L) := by show _ = _; rw [HN.out]; exact List.take_length
      go_wp2
      go_end0
      have := HTj.out
      rw [HFin.out] at this
      exact ⟨rfl, this⟩
end Go.Proofs.YtidghoipmggklaaGreat
end

section
/- A report, put by a writer. -/
namespace Go.Proofs.YtidghoipmggklaaGreat
open Go.RowKit
attribute [local go_sem] Oper.semAt_some
/-- The bytes of a report. -/
def rpB (N : List Int) (o : Nat → Option Int) (L : List Ed) : List UInt8 := nmB N ++ putK o 5 ++ (numB L.length ++ L.flatMap edB)
set_option maxRecDepth 100000 in
set_option maxHeartbeats 2000000 in
theorem putreport_any {w : World} {base p : Nat} {v : Value} {l : List UInt8} {ja je js jp jw jr jn jt jm : Int} {o : Nat → Option Int} {vo : Option Addr} {vn vc : Nat} (L : List Ed) (hvn : vn = L.length) (h : Wr w base p v l) (ho : OkO o) (hL : VlAt w p v vo L) (hok : ∀ x ∈ L, x.ok) (hx : ∀ x ∈ [ja, je, js, jp, jw, jr, jn, jt, jm], x ≤ 9223372036854775807) (hroom : l.length + 300 + 20 * L.length ≤ 140737488355328) :
    Calls Tryz.prog 38 #[.pointer (some ⟨p, 0, none⟩), .agg #[.int .i64 ja, .int .i64 je, .int .i64 js, .int .i64 jp, .int .i64 jw, .int .i64 jr, .int .i64 jn, .int .i64 jt, .int .i64 jm, .bool (oh o 0), .bool (oh o 1), .bool (oh o 2), .bool (oh o 3), .bool (oh o 4), .int .i64 (ov o 0), .int .i64 (ov o 1), .int .i64 (ov o 2), .int .i64 (ov o 3), .int .i64 (ov o 4), .slice vo vn vc]] w fun r w' => r = .returned (.tuple #[]) ∧ WTo w w' base p v (l ++ rpB [ja, je, js, jp, jw, jr, jn, jt, jm] o L) := by
  obtain ⟨W0, hW0⟩ : ∃ W0, w.alloc (.cells #[.int .i64 ja, .int .i64 je, .int .i64 js, .int .i64 jp, .int .i64 jw, .int .i64 jr, .int .i64 jn, .int .i64 jt, .int .i64 jm, .bool (oh o 0), .bool (oh o 1), .bool (oh o 2), .bool (oh o 3), .bool (oh o 4), .int .i64 (ov o 0), .int .i64 (ov o 1), .int .i64 (ov o 2), .int .i64 (ov o 3), .int .i64 (ov o 4), .slice vo vn vc] 57) = W0 := ⟨_, rfl⟩
  obtain ⟨g, hg⟩ : ∃ g, w.heap.size = g := ⟨_, rfl⟩
  have k0 : W0.heap[g]? = some (.cells #[.int .i64 ja, .int .i64 je, .int .i64 js, .int .i64 jp, .int .i64 jw, .int .i64 jr, .int .i64 jn, .int .i64 jt, .int .i64 jm, .bool (oh o 0), .bool (oh o 1), .bool (oh o 2), .bool (oh o 3), .bool (oh o 4), .int .i64 (ov o 0), .int .i64 (ov o 1), .int .i64 (ov o 2), .int .i64 (ov o 3), .int .i64 (ov o 4), .slice vo vn vc] 57 (0, 0)) := by rw [← hW0, ← hg]; exact heap_alloc_new _ _
  have hlp := h.lt
  have hZ0 : W0.heap.size = g + 1 := by rw [← hW0, ← hg]; simp
  have HGp : Hid (g ≠ p ∧ v.ownBlock ≠ some g ∧ W0.heap.size ≠ p ∧ v.ownBlock ≠ some W0.heap.size ∧ g < W0.heap.size) := ⟨by omega, fun e => by have := h.olt _ e; omega, by omega, fun e => by have := h.olt _ e; omega, by omega⟩
  have c0 : W0.cell? ⟨g, 0, none⟩ = some (.int .i64 ja) := by simp [World.cell?, k0]
  have c1 : W0.cell? ⟨g, 1, none⟩ = some (.int .i64 je) := by simp [World.cell?, k0]
  have c2 : W0.cell? ⟨g, 2, none⟩ = some (.int .i64 js) := by simp [World.cell?, k0]
  have c3 : W0.cell? ⟨g, 3, none⟩ = some (.int .i64 jp) := by simp [World.cell?, k0]
  have c4 : W0.cell? ⟨g, 4, none⟩ = some (.int .i64 jw) := by simp [World.cell?, k0]
  have c5 : W0.cell? ⟨g, 5, none⟩ = some (.int .i64 jr) := by simp [World.cell?, k0]
  have c6 : W0.cell? ⟨g, 6, none⟩ = some (.int .i64 jn) := by simp [World.cell?, k0]
  have c7 : W0.cell? ⟨g, 7, none⟩ = some (.int .i64 jt) := by simp [World.cell?, k0]
  have c8 : W0.cell? ⟨g, 8, none⟩ = some (.int .i64 jm) := by simp [World.cell?, k0]
  obtain ⟨W1, hW1⟩ : ∃ W1, W0.alloc (.cells #[.int .i64 ja, .int .i64 je, .int .i64 js, .int .i64 jp, .int .i64 jw, .int .i64 jr, .int .i64 jn, .int .i64 jt, .int .i64 jm] 3) = W1 := ⟨_, rfl⟩
  have k1 : W1.heap[W0.heap.size]? = some (.cells #[.int .i64 ja, .int .i64 je, .int .i64 js, .int .i64 jp, .int .i64 jw, .int .i64 jr, .int .i64 jn, .int .i64 jt, .int .i64 jm] 3 (0, 0)) := by rw [← hW1]; exact heap_alloc_new _ _
  have hb1 : Below W0.heap.size W0 W1 := by rw [← hW1]; exact ma_new _ _
  have hwr1 : Wr W1 base p v l := by rw [← hW1, ← hW0]; exact (h.al _).al _
  have HT : Hid (∀ w' l', WTo W1 w' base p v l' → WTo w w' base p v l') := fun w' l' h' => by rw [← hW1, ← hW0] at h'; exact h'.fromAlloc.fromAlloc
  have HL : Hid (VlAt W1 p v vo L) := fun h0 => by
    obtain ⟨b, off, e, h1, h2, h3⟩ := hL h0
    have hb2 : Below w.heap.size w W1 := (show Below w.heap.size w W0 by rw [← hW0]; exact ma_new _ _).trans (hb1.mono (by omega))
    exact ⟨b, off, e, h1, h2, fun j hj => ⟨(hb2.cell (ma_ltc (h3 j hj).1)).trans (h3 j hj).1, (hb2.cell (ma_ltc (h3 j hj).2)).trans (h3 j hj).2⟩⟩
  have HK1 : Hid (W1.heap[g]? = some (.cells #[.int .i64 ja, .int .i64 je, .int .i64 js, .int .i64 jp, .int .i64 jw, .int .i64 jr, .int .i64 jn, .int .i64 jt, .int .i64 jm, .bool (oh o 0), .bool (oh o 1), .bool (oh o 2), .bool (oh o 3), .bool (oh o 4), .int .i64 (ov o 0), .int .i64 (ov o 1), .int .i64 (ov o 2), .int .i64 (ov o 3), .int .i64 (ov o 4), .slice vo vn vc] 57 (0, 0))) := (hb1.block g (ma_lt k0)).trans k0
  have hNm : NmAt W1 p v (some ⟨W0.heap.size, 0, none⟩) [ja, je, js, jp, jw, jr, jn, jt, jm] := fun _ => ⟨_, 0, rfl, HGp.out.2.2.1, HGp.out.2.2.2.1, fun j hj => by
    match j, hj with
    | 0, _ => simp [World.cell?, k1]
    | 1, _ => simp [World.cell?, k1]
    | 2, _ => simp [World.cell?, k1]
    | 3, _ => simp [World.cell?, k1]
    | 4, _ => simp [World.cell?, k1]
    | 5, _ => simp [World.cell?, k1]
    | 6, _ => simp [World.cell?, k1]
    | 7, _ => simp [World.cell?, k1]
    | 8, _ => simp [World.cell?, k1]⟩
  have hP := putnums_any (n := 9) (cap := 9) [ja, je, js, jp, jw, jr, jn, jt, jm] rfl hwr1 hNm hx (by simp; omega)
  have HVn : Hid (vn = L.length) := hvn
  have HO : Hid (OkO o) := ho
  have HOk : Hid (∀ x ∈ L, x.ok) := hok
  have HNl : Hid ((nmB [ja, je, js, jp, jw, jr, jn, jt, jm]).length ≤ 90) := nm_len _ hx
  have HKl : Hid ((putK o 5).length ≤ 55) := putK_len ho 5
  have HRm : Hid (l.length + 300 + 20 * L.length ≤ 140737488355328) := hroom
  clear h hL hok hx hroom k0 k1 hb1 hwr1 hNm hvn ho hlp hZ0
  go_enter Tryz.func38, Tryz.ntmps38
  go_upto_region 2 with (go_at_call 91; refine hP.mono ?_; rintro r w2 ⟨rfl, hT2⟩)
  obtain ⟨v2, hw2, hf2, hr2⟩ := hT2
  have HK2 : Hid (w2.heap[g]? = some (.cells #[.int .i64 ja, .int .i64 je, .int .i64 js, .int .i64 jp, .int .i64 jw, .int .i64 jr, .int .i64 jn, .int .i64 jt, .int .i64 jm, .bool (oh o 0), .bool (oh o 1), .bool (oh o 2), .bool (oh o 3), .bool (oh o 4), .int .i64 (ov o 0), .int .i64 (ov o 1), .int .i64 (ov o 2), .int .i64 (ov o 3), .int .i64 (ov o 4), .slice vo vn vc] 57 (0, 0))) := (hf2.block g (ma_lt HK1.out) (by rintro (e | e); exact HGp.out.1 e; exact HGp.out.2.1 e)).trans HK1.out
  have HL2 : Hid (VlAt w2 p v2 vo L) := HL.out.next hf2 hr2
  have HF2 : Hid (Fr W1 w2 (fun k => k = p ∨ v.ownBlock = some k)) := hf2
  have HR2 : Hid (Row W1 v v2) := hr2
  have HG2 : Hid (v2.ownBlock ≠ some g) := by
    show v2.ownBlock ≠ some g
    rcases hr2 with e | ⟨q, e, hq⟩
    · rw [e]; exact HGp.out.2.1
    · rw [e]; intro hh; cases hh; have := ma_lt HK1.out; omega
  have HMi : Hid (w2.rangeAt g 9 [.bool (oh o 0), .bool (oh o 1), .bool (oh o 2), .bool (oh o 3), .bool (oh o 4), .int .i64 (ov o 0), .int .i64 (ov o 1), .int .i64 (ov o 2), .int .i64 (ov o 3), .int .i64 (ov o 4)]) := by
    have := World.rangeAt_of_block HK2.out 9 10
    show World.rangeAt _ _ _ _
    simpa using this
  have hA := aput_any o hw2 HO.out (by have h1 := HNl.out; have h2 := HRm.out; rw [List.length_append]; omega)
  clear hP hw2 hf2 hr2 c0 c1 c2 c3 c4 c5 c6 c7 c8 hW0 hW1 hg
  go_upto_region 3 with (first
    | (refine wpList_load_mid rfl 54 _ rfl g 9 rfl [.bool (oh o 0), .bool (oh o 1), .bool (oh o 2), .bool (oh o 3), .bool (oh o 4), .int .i64 (ov o 0), .int .i64 (ov o 1), .int .i64 (ov o 2), .int .i64 (ov o 3), .int .i64 (ov o 4)] _ HMi.out Tryz.underlying54 rfl size_ag ?_)
    | (go_at_call 92; refine hA.mono ?_; rintro r w3 ⟨rfl, hT3⟩))
  obtain ⟨v3, hw3, hf3, hr3⟩ := hT3
  have HL3 : Hid (VlAt w3 p v3 vo L) := HL2.out.next hf3 hr3
  have hK3 : w3.heap[g]? = some (.cells #[.int .i64 ja, .int .i64 je, .int .i64 js, .int .i64 jp, .int .i64 jw, .int .i64 jr, .int .i64 jn, .int .i64 jt, .int .i64 jm, .bool (oh o 0), .bool (oh o 1), .bool (oh o 2), .bool (oh o 3), .bool (oh o 4), .int .i64 (ov o 0), .int .i64 (ov o 1), .int .i64 (ov o 2), .int .i64 (ov o 3), .int .i64 (ov o 4), .slice vo vn vc] 57 (0, 0)) := (hf3.block g (ma_lt HK2.out) (by rintro (e | e); exact HGp.out.1 e; exact HG2.out e)).trans HK2.out
  have c19 : w3.cell? ⟨g, 19, none⟩ = some (.slice vo vn vc) := by simp [World.cell?, hK3]
  have hV := putvals_any (cap := vc) L HVn.out hw3 HL3.out HOk.out (by have h1 := HNl.out; have h2 := HRm.out; have h3 := HKl.out; rw [List.length_append, List.length_append]; omega)
  have HF3 : Hid (Fr w2 w3 (fun k => k = p ∨ v2.ownBlock = some k)) := hf3
  have HR3 : Hid (Row w2 v2 v3) := hr3
  clear hA hw3 hf3 hr3 hK3
  go_wp2_with (go_at_call 93; refine hV.mono ?_; rintro r w4 ⟨rfl, hT4⟩)
  go_end0
  refine ⟨rfl, HT.out _ _ (WTo.then HF2.out HR2.out (WTo.then HF3.out HR3.out ?_))⟩
  rw [HVn.out] at hT4
  unfold rpB
  simpa only [List.append_assoc] using hT4
end Go.Proofs.YtidghoipmggklaaGreat
end
