/- The document's aggregate of many values. -/
import Derived.Test.YtjbkbhilcmiamaaAgGet
import Derived.Test.YtjbkbhilcmiamaaGrData
import Derived.BigQuiet
import Derived.Deep.DeepCutAuto
import Derived.Deep.RegionHeld3
namespace Go.Proofs.Ytjbkbhilcmiamaa
open Go.RowKit

/-- An aggregate's ten cells. -/
def AC (h : Nat → Bool) (v : Nat → Int) : Array Value := #[.bool (h 0), .bool (h 1), .bool (h 2), .bool (h 3), .bool (h 4), .int .i64 (v 0), .int .i64 (v 1), .int .i64 (v 2), .int .i64 (v 3), .int .i64 (v 4)]
def AOc (o : Nat → Option Int) : Array Value := AC (oh o) (ov o)
def zc : Array Value := #[.bool false, .bool false, .bool false, .bool false, .bool false, .int .i64 0, .int .i64 0, .int .i64 0, .int .i64 0, .int .i64 0]
theorem AOc_none : AOc (fun _ => none) = zc := rfl
/-- All values given, one behind the other. -/
def allO (L : List Ed) : Nat → Option Int := L.foldl (fun o y => addO o y.t y.w) (fun _ => none)
theorem allO_snoc (L : List Ed) (k : Nat) (h : k < L.length) : allO (L.take (k + 1)) = addO (allO (L.take k)) L[k].t L[k].w := by
  unfold allO
  rw [List.take_succ_eq_append_getElem h, List.foldl_append]; rfl
theorem ok_fold (L : List Ed) (hL : ∀ y ∈ L, y.ok) : ∀ (o : Nat → Option Int), OkO o → OkO (L.foldl (fun o y => addO o y.t y.w) o) := by
  induction L with
  | nil => intro o h; exact h
  | cons y L ih =>
    intro o h
    exact ih (fun z hz => hL z (List.mem_cons_of_mem _ hz)) _ (h.add _ (hL y (by simp)).w)
theorem allO_ok (L : List Ed) (hL : ∀ y ∈ L, y.ok) : OkO (allO L) := ok_fold L hL _ OkO.none
/-- A box of ten cells. -/
theorem mblk10 {w : World} {g : Nat} {t : TypeId} {a0 a1 a2 a3 a4 a5 a6 a7 a8 a9 : Value} (h : w.heap[g]? = some (.cells #[a0, a1, a2, a3, a4, a5, a6, a7, a8, a9] t (0, 0))) :
    (w.cell? ⟨g, 0, none⟩ = some a0 ∧ w.cell? ⟨g, 1, none⟩ = some a1 ∧ w.cell? ⟨g, 2, none⟩ = some a2 ∧ w.cell? ⟨g, 3, none⟩ = some a3 ∧ w.cell? ⟨g, 4, none⟩ = some a4 ∧ w.cell? ⟨g, 5, none⟩ = some a5 ∧ w.cell? ⟨g, 6, none⟩ = some a6 ∧ w.cell? ⟨g, 7, none⟩ = some a7 ∧ w.cell? ⟨g, 8, none⟩ = some a8 ∧ w.cell? ⟨g, 9, none⟩ = some a9) := by
  simp [World.cell?, h]
theorem ldc {w : World} {g : Nat} {t : TypeId} {c : Array Value} {n : Nat} (hn : c.size = n) (h : w.heap[g]? = some (.cells c t (0, 0))) : (loadCellsFrom ⟨g, 0, none⟩ 0 n #[]).run Try.prog w = .ok c w := by
  subst hn
  have := run_loadCells_list (P := Try.prog) w ⟨g, 0, none⟩ c.toList (fun j v hv => by
    have hadd : (⟨g, 0, none⟩ : Addr).add j = ⟨g, j, none⟩ := by unfold Addr.add; split <;> simp_all
    rw [hadd, cell_of_row _ _ j c t (0, 0) h]
    simpa using hv)
  simpa [loadCells] using this
theorem froz10 {w : World} {g : Nat} {t : TypeId} {c : Array Value} (h : w.heap[g]? = some (.cells c t (0, 0))) (o : Nat) : w.frozen? ⟨g, o, none⟩ = false := by simp [World.frozen?, h]
theorem below_c' {w w1 : World} (h : Below w.drew.heap.size w.drew w1) : Below w.heap.size w w1 := ((Below.refl w.heap.size w).drew).trans h
theorem blk_set0 {w : World} {g i : Nat} {cs : Array Value} {t : TypeId} (v : Value) (h : w.heap[g]? = some (.cells cs t (0, 0))) : (w.setCell ⟨g, i, none⟩ v).heap[g]? = some (.cells (cs.setIfInBounds i v) t (0, 0)) := by
  have hlt := lt_of_block h
  have h' : w.heap[g] = .cells cs t (0, 0) := by simpa [Array.getElem?_eq_getElem hlt] using h
  show (w.heap.modify g _)[g]? = _
  rw [Array.getElem?_eq_getElem (by simpa using hlt), Array.getElem_modify_self, h']
  rfl
theorem mset10 {w : World} {g : Nat} {t : TypeId} {a0 a1 a2 a3 a4 a5 a6 a7 a8 a9 : Value} (b0 b1 b2 b3 b4 b5 b6 b7 b8 b9 : Value) (h : w.heap[g]? = some (.cells #[a0, a1, a2, a3, a4, a5, a6, a7, a8, a9] t (0, 0))) : ((((((((((w.setCell ⟨g, 0, none⟩ b0).setCell ⟨g, 1, none⟩ b1).setCell ⟨g, 2, none⟩ b2).setCell ⟨g, 3, none⟩ b3).setCell ⟨g, 4, none⟩ b4).setCell ⟨g, 5, none⟩ b5).setCell ⟨g, 6, none⟩ b6).setCell ⟨g, 7, none⟩ b7).setCell ⟨g, 8, none⟩ b8).setCell ⟨g, 9, none⟩ b9).heap[g]? = some (.cells #[b0, b1, b2, b3, b4, b5, b6, b7, b8, b9] t (0, 0)) := by
  have h1 : (w.setCell ⟨g, 0, none⟩ b0).heap[g]? = some (.cells #[b0, a1, a2, a3, a4, a5, a6, a7, a8, a9] t (0, 0)) := blk_set0 b0 h
  have h2 : ((w.setCell ⟨g, 0, none⟩ b0).setCell ⟨g, 1, none⟩ b1).heap[g]? = some (.cells #[b0, b1, a2, a3, a4, a5, a6, a7, a8, a9] t (0, 0)) := blk_set0 b1 h1
  have h3 : (((w.setCell ⟨g, 0, none⟩ b0).setCell ⟨g, 1, none⟩ b1).setCell ⟨g, 2, none⟩ b2).heap[g]? = some (.cells #[b0, b1, b2, a3, a4, a5, a6, a7, a8, a9] t (0, 0)) := blk_set0 b2 h2
  have h4 : ((((w.setCell ⟨g, 0, none⟩ b0).setCell ⟨g, 1, none⟩ b1).setCell ⟨g, 2, none⟩ b2).setCell ⟨g, 3, none⟩ b3).heap[g]? = some (.cells #[b0, b1, b2, b3, a4, a5, a6, a7, a8, a9] t (0, 0)) := blk_set0 b3 h3
  have h5 : (((((w.setCell ⟨g, 0, none⟩ b0).setCell ⟨g, 1, none⟩ b1).setCell ⟨g, 2, none⟩ b2).setCell ⟨g, 3, none⟩ b3).setCell ⟨g, 4, none⟩ b4).heap[g]? = some (.cells #[b0, b1, b2, b3, b4, a5, a6, a7, a8, a9] t (0, 0)) := blk_set0 b4 h4
  have h6 : ((((((w.setCell ⟨g, 0, none⟩ b0).setCell ⟨g, 1, none⟩ b1).setCell ⟨g, 2, none⟩ b2).setCell ⟨g, 3, none⟩ b3).setCell ⟨g, 4, none⟩ b4).setCell ⟨g, 5, none⟩ b5).heap[g]? = some (.cells #[b0, b1, b2, b3, b4, b5, a6, a7, a8, a9] t (0, 0)) := blk_set0 b5 h5
  have h7 : (((((((w.setCell ⟨g, 0, none⟩ b0).setCell ⟨g, 1, none⟩ b1).setCell ⟨g, 2, none⟩ b2).setCell ⟨g, 3, none⟩ b3).setCell ⟨g, 4, none⟩ b4).setCell ⟨g, 5, none⟩ b5).setCell ⟨g, 6, none⟩ b6).heap[g]? = some (.cells #[b0, b1, b2, b3, b4, b5, b6, a7, a8, a9] t (0, 0)) := blk_set0 b6 h6
  have h8 : ((((((((w.setCell ⟨g, 0, none⟩ b0).setCell ⟨g, 1, none⟩ b1).setCell ⟨g, 2, none⟩ b2).setCell ⟨g, 3, none⟩ b3).setCell ⟨g, 4, none⟩ b4).setCell ⟨g, 5, none⟩ b5).setCell ⟨g, 6, none⟩ b6).setCell ⟨g, 7, none⟩ b7).heap[g]? = some (.cells #[b0, b1, b2, b3, b4, b5, b6, b7, a8, a9] t (0, 0)) := blk_set0 b7 h7
  have h9 : (((((((((w.setCell ⟨g, 0, none⟩ b0).setCell ⟨g, 1, none⟩ b1).setCell ⟨g, 2, none⟩ b2).setCell ⟨g, 3, none⟩ b3).setCell ⟨g, 4, none⟩ b4).setCell ⟨g, 5, none⟩ b5).setCell ⟨g, 6, none⟩ b6).setCell ⟨g, 7, none⟩ b7).setCell ⟨g, 8, none⟩ b8).heap[g]? = some (.cells #[b0, b1, b2, b3, b4, b5, b6, b7, b8, a9] t (0, 0)) := blk_set0 b8 h8
  have h10 : ((((((((((w.setCell ⟨g, 0, none⟩ b0).setCell ⟨g, 1, none⟩ b1).setCell ⟨g, 2, none⟩ b2).setCell ⟨g, 3, none⟩ b3).setCell ⟨g, 4, none⟩ b4).setCell ⟨g, 5, none⟩ b5).setCell ⟨g, 6, none⟩ b6).setCell ⟨g, 7, none⟩ b7).setCell ⟨g, 8, none⟩ b8).setCell ⟨g, 9, none⟩ b9).heap[g]? = some (.cells #[b0, b1, b2, b3, b4, b5, b6, b7, b8, b9] t (0, 0)) := blk_set0 b9 h9
  exact h10
theorem fs10 (w : World) (g : Nat) (b0 b1 b2 b3 b4 b5 b6 b7 b8 b9 : Value) : Fr w ((((((((((w.setCell ⟨g, 0, none⟩ b0).setCell ⟨g, 1, none⟩ b1).setCell ⟨g, 2, none⟩ b2).setCell ⟨g, 3, none⟩ b3).setCell ⟨g, 4, none⟩ b4).setCell ⟨g, 5, none⟩ b5).setCell ⟨g, 6, none⟩ b6).setCell ⟨g, 7, none⟩ b7).setCell ⟨g, 8, none⟩ b8).setCell ⟨g, 9, none⟩ b9) (fun k => k = g) :=
  ((((((((((Fr.setCell (S := fun k => k = g) w ⟨g, 0, none⟩ b0 rfl).trans (Fr.setCell (S := fun k => k = g) _ ⟨g, 1, none⟩ b1 rfl) (fun _ _ h => h)).trans (Fr.setCell (S := fun k => k = g) _ ⟨g, 2, none⟩ b2 rfl) (fun _ _ h => h)).trans (Fr.setCell (S := fun k => k = g) _ ⟨g, 3, none⟩ b3 rfl) (fun _ _ h => h)).trans (Fr.setCell (S := fun k => k = g) _ ⟨g, 4, none⟩ b4 rfl) (fun _ _ h => h)).trans (Fr.setCell (S := fun k => k = g) _ ⟨g, 5, none⟩ b5 rfl) (fun _ _ h => h)).trans (Fr.setCell (S := fun k => k = g) _ ⟨g, 6, none⟩ b6 rfl) (fun _ _ h => h)).trans (Fr.setCell (S := fun k => k = g) _ ⟨g, 7, none⟩ b7 rfl) (fun _ _ h => h)).trans (Fr.setCell (S := fun k => k = g) _ ⟨g, 8, none⟩ b8 rfl) (fun _ _ h => h)).trans (Fr.setCell (S := fun k => k = g) _ ⟨g, 9, none⟩ b9 rfl) (fun _ _ h => h))
theorem size_ag : (Try.prog.info? 26).map (·.size) = some 10 := by kernel_rfl
theorem one_new' (w : World) (x : Obj) : Below w.heap.size w (w.alloc x) := (Below.refl _ _).alloc (Nat.le_refl _) _
theorem heap_alloc_new2 (w : World) (x : Obj) (y : Obj) : ((w.alloc x).alloc y).heap[w.heap.size + 1]? = some y := by
  have := heap_alloc_new (w.alloc x) y
  rw [World.size_alloc] at this
  exact this
theorem blk_al' {W : World} {k : Nat} {ob : Obj} (o : Obj) (h : W.heap[k]? = some ob) : (W.alloc o).heap[k]? = some ob := ((one_new' W o).block k (lt_of_block h)).trans h
theorem blk_al2 (w : World) (x : Obj) (y : Obj) : ((w.alloc x).alloc y).heap[w.heap.size]? = some x := blk_al' _ (heap_alloc_new _ _)
theorem two_new2 (w : World) (x : Obj) (y : Obj) : Below w.heap.size w ((w.alloc x).alloc y) := (one_new' w x).alloc (one_new' w x).size y
set_option maxRecDepth 100000 in
set_option maxHeartbeats 1000000 in
theorem all_any {P : Nat → Prop} (ao : Option Addr) (cap : Nat) (L : List Ed) (w : World) (hE : EdAt w P ao L) (hok : ∀ y ∈ L, y.ok) (hl : L.length ≤ 35184372088832) :
    Calls Try.prog 13 #[.slice ao L.length cap] w fun e w' => e = .returned (AO (allO L)) ∧ Below w.heap.size w w' := by
  have HE : Hid (EdAt w P ao L) := hE
  have HO : Hid (∀ y ∈ L, y.ok) := hok
  clear hE hok
  go_enter Try.func13, Try.ntmps13
  go_wp2
  go_loopw [4] (fun i wr => ∃ (k : Nat), k ≤ L.length ∧ i = .int .i64 k ∧ wr.heap[w.heap.size + 1]? = some (.cells (AOc (allO (L.take k))) 26 (0, 0)) ∧ wr.heap[w.heap.size]? = some (.cells zc 26 (0, 0)) ∧ Below w.heap.size w wr) (fun i _ => L.length - (intOf i).toNat)
  case atStart => exact ⟨0, Nat.zero_le _, rfl, heap_alloc_new2 _ _ _, blk_al2 _ _ _, two_new2 _ _ _⟩
  case round =>
    obtain ⟨k, hk, rfl, hx, hq, hbel⟩ := hrel
    by_cases hlt : k < L.length
    · obtain ⟨b, off, rfl, hP, hc⟩ := HE.out (by omega)
      have f0 := (hbel.cell (p := ⟨b, off + k * 2, none⟩) (lt_cell (hc k hlt).1)).trans (hc k hlt).1
      have f1 := (hbel.cell (p := ⟨b, off + k * 2 + 1, none⟩) (lt_cell (hc k hlt).1)).trans (hc k hlt).2
      have HS : Hid _ := allO_snoc L k hlt
      have HZ : Hid (L[k].ok) := HO.out _ (List.getElem_mem hlt)
      have HK : Hid (OkO (allO (L.take k))) := allO_ok _ (fun y hy => HO.out y (List.mem_of_mem_take hy))
      generalize L[k] = z at f0 f1 HS HZ
      generalize allO (L.take k) = o at hx HS HK
      clear hc
      have HQ : Hid _ := hq
      have HX : Hid _ := hx
      have HB : Hid _ := hbel
      unfold AOc AC at hx
      obtain ⟨c0, c1, c2, c3, c4, c5, c6, c7, c8, c9⟩ := mblk10 hx
      clear hx hq hbel
      go_wp2
      have hlx := lt_of_block HX.out
      go_region_with (go_at_call 10; refine (lAdd_any o z.t z.w _ HK.out HZ.out.w).mono ?_; rintro e w1 ⟨rfl, hb1⟩; have hx1 := (hb1.block (w.heap.size + 1) hlx).trans HX.out; have g0 := froz10 hx1 0; have g1 := froz10 hx1 1; have g2 := froz10 hx1 2; have g3 := froz10 hx1 3; have g4 := froz10 hx1 4; have g5 := froz10 hx1 5; have g6 := froz10 hx1 6; have g7 := froz10 hx1 7; have g8 := froz10 hx1 8; have g9 := froz10 hx1 9; obtain ⟨d0, d1, d2, d3, d4, d5, d6, d7, d8, d9⟩ := mblk10 hx1; have HX1 : Hid _ := hx1; clear hx1; simp only [AO, AG])
      all_goals
        clear c0 c1 c2 c3 c4 c5 c6 c7 c8 c9 d0 d1 d2 d3 d4 d5 d6 d7 d8 d9 g0 g1 g2 g3 g4 g5 g6 g7 g8 g9
        go_wp2
        go_roundw
        case rel =>
          have hB1 : Below w.heap.size w w1 := HB.out.trans ((below_c' hb1).mono HB.out.size)
          refine ⟨k + 1, by omega, by go_num, ?_, ?_, ?_⟩
          · rw [HS.out]; exact mset10 _ _ _ _ _ _ _ _ _ _ HX1.out
          · exact ((fs10 _ _ _ _ _ _ _ _ _ _ _ _).block _ (Nat.lt_of_lt_of_le (lt_of_block HQ.out) hb1.size) (by omega)).trans ((hb1.block _ (lt_of_block HQ.out)).trans HQ.out)
          · exact hB1.trans ((fs10 _ _ _ _ _ _ _ _ _ _ _ _).below hB1.size (fun k hk => by omega))
        case measure => simp [intOf]; omega
    · obtain rfl : k = L.length := by omega
      rw [List.take_length] at hx
      unfold AOc AC at hx
      unfold zc at hq
      obtain ⟨c0, c1, c2, c3, c4, c5, c6, c7, c8, c9⟩ := mblk10 hx
      obtain ⟨d0, d1, d2, d3, d4, d5, d6, d7, d8, d9⟩ := mblk10 hq
      have g0 := froz10 hq 0
      have g1 := froz10 hq 1
      have g2 := froz10 hq 2
      have g3 := froz10 hq 3
      have g4 := froz10 hq 4
      have g5 := froz10 hq 5
      have g6 := froz10 hq 6
      have g7 := froz10 hq 7
      have g8 := froz10 hq 8
      have g9 := froz10 hq 9
      have hlq := lt_of_block hq
      have HQ : Hid _ := hq
      have HB : Hid _ := hbel
      clear hx hq hbel
      go_wp2
      refine bodyPost_ret (v := AO (allO L)) (results_cell_row Try.results13 _ _ w.heap.size 26 (AOc (allO L)) (0, 0) _ rfl (mset10 _ _ _ _ _ _ _ _ _ _ HQ.out) Try.underlying26 rfl size_ag) rfl ?_
      exact ⟨rfl, HB.out.trans ((fs10 _ _ _ _ _ _ _ _ _ _ _ _).below HB.out.size (fun k hk => by omega))⟩
end Go.Proofs.Ytjbkbhilcmiamaa
