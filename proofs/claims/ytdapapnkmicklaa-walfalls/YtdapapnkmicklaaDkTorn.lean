/- A change with the first of its bytes alone. -/
import Derived.Test.YtdapapnkmicklaaDkF3
namespace Go.Proofs.Ytdapapnkmicklaa
open Go.RowKit Go.Maps
attribute [local go_sem] Oper.semAt_some
theorem cut_str (s : Bs) (t : Int) (ht : 0 < t) : (str s).extract 0 (min t (((str s).size : Nat) : Int)).toNat = str (s.take t.toNat) := by
  rw [str_size]
  have e : (min t (s.length : Int)).toNat = min t.toNat s.length := by omega
  rw [e]
  apply ByteArray.ext
  rw [ByteArray.data_extract]
  show (s.toArray.extract 0 (min t.toNat s.length)) = (s.take t.toNat).toArray
  rw [List.extract_toArray]
  simp [List.extract]
theorem size_chg : (Try.prog.info? 104).map (·.size) = some 4 := by kernel_rfl
theorem set4 {w : World} {g : Nat} {c0 c1 c2 c3 : Value} {t : TypeId} (x0 x1 x2 x3 : Value) (h : w.heap[g]? = some (.cells #[c0, c1, c2, c3] t (0, 0))) : ((((w.setCell ⟨g, 0, none⟩ x0).setCell ⟨g, 1, none⟩ x1).setCell ⟨g, 2, none⟩ x2).setCell ⟨g, 3, none⟩ x3).heap[g]? = some (.cells #[x0, x1, x2, x3] t (0, 0)) := by
  have h1 : (w.setCell ⟨g, 0, none⟩ x0).heap[g]? = some (.cells #[x0, c1, c2, c3] t (0, 0)) := blk_set x0 h
  have h2 : ((w.setCell ⟨g, 0, none⟩ x0).setCell ⟨g, 1, none⟩ x1).heap[g]? = some (.cells #[x0, x1, c2, c3] t (0, 0)) := blk_set x1 h1
  have h3 : (((w.setCell ⟨g, 0, none⟩ x0).setCell ⟨g, 1, none⟩ x1).setCell ⟨g, 2, none⟩ x2).heap[g]? = some (.cells #[x0, x1, x2, c3] t (0, 0)) := blk_set x2 h2
  exact blk_set x3 h3
theorem set4_fr (w : World) (g : Nat) (x0 x1 x2 x3 : Value) : Fr w ((((w.setCell ⟨g, 0, none⟩ x0).setCell ⟨g, 1, none⟩ x1).setCell ⟨g, 2, none⟩ x2).setCell ⟨g, 3, none⟩ x3) (fun k => k = g) :=
  (((Fr.setCell (S := fun k => k = g) w ⟨g, 0, none⟩ x0 rfl).trans (Fr.setCell (S := fun k => k = g) _ ⟨g, 1, none⟩ x1 rfl) (fun _ _ h => h)).trans (Fr.setCell (S := fun k => k = g) _ ⟨g, 2, none⟩ x2 rfl) (fun _ _ h => h)).trans (Fr.setCell (S := fun k => k = g) _ ⟨g, 3, none⟩ x3 rfl) (fun _ _ h => h)
set_option maxHeartbeats 400000 in
theorem puts_any (c : Chg) (w : World) : Calls Try.prog 73 #[.agg #[.int .i64 c.k, .string (str c.nm), .string (str c.to), .string (str c.s)]] w fun r w' => r = .returned (.bool (c.k == 0 || c.k == 1)) ∧ Below w.heap.size w w' := by
  have HW := heap_alloc_new w (.cells #[.int .i64 c.k, .string (str c.nm), .string (str c.to), .string (str c.s)] 104)
  have HB : Hid (Below w.heap.size w (w.alloc (.cells #[.int .i64 c.k, .string (str c.nm), .string (str c.to), .string (str c.s)] 104))) := one_newD _ _
  obtain ⟨c0, _, _, _⟩ := box4 HW
  clear HW
  by_cases e : c.k = 0
  · have e0 : (c.k == 0) = true := by simpa using e
    have HE : Hid ((c.k == 0) = true) := e0
    clear e
    go_enter Try.func73, Try.ntmps73
    go_wp2
    go_ret
    exact ⟨by rw [HE.out]; rfl, HB.out⟩
  · have e0 : (c.k == 0) = false := by simpa using e
    have HE : Hid ((c.k == 0) = false) := e0
    clear e
    go_enter Try.func73, Try.ntmps73
    go_wp2
    go_ret
    exact ⟨by rw [HE.out]; rfl, HB.out⟩
set_option maxRecDepth 100000 in
set_option maxHeartbeats 400000 in
theorem torn_any (c : Chg) (t : Int) (w : World) (ht : 0 < t) : Calls Try.prog 74 #[.agg #[.int .i64 c.k, .string (str c.nm), .string (str c.to), .string (str c.s)], .int .i64 t] w fun r w' => r = .returned (.agg #[.int .i64 c.k, .string (str c.nm), .string (str c.to), .string (str (c.s.take t.toNat))]) ∧ Below w.heap.size w w' := by
  go_enter Try.func74, Try.ntmps74
  go_upto_region 1 with (fail)
  generalize hW : World.alloc _ _ = W
  have hB : Below w.heap.size w W := by rw [← hW]; exact (one_newD _ _).trans ((one_newD _ _).mono (by simp))
  have hQ : W.heap[w.heap.size]? = some (.cells #[.int .i64 c.k, .string (str c.nm), .string (str c.to), .string (str c.s)] 104 (0, 0)) := by rw [← hW]; exact ((one_newD _ _).block _ (by simp)).trans (heap_alloc_new _ _)
  have hR : W.heap[w.heap.size + 1]? = some (.cells #[.int .i64 0, .string (str []), .string (str []), .string (str [])] 104 (0, 0)) := by
    have e : w.heap.size + 1 = (w.alloc (.cells #[.int .i64 c.k, .string (str c.nm), .string (str c.to), .string (str c.s)] 104)).heap.size := by simp
    rw [← hW, e]
    exact heap_alloc_new _ _
  obtain ⟨c0, c1, c2, c3⟩ := box4 hQ
  have f3 : W.frozen? ⟨w.heap.size, 3, none⟩ = false := by simp [World.frozen?, hQ]
  have HX : Hid ((str c.s).extract 0 (min t (((str c.s).size : Nat) : Int)).toNat = str (c.s.take t.toNat)) := cut_str c.s t ht
  have HQ : Hid _ := hQ
  have HR : Hid _ := hR
  have HB : Hid (Below w.heap.size w W) := hB
  have hmin : ¬ min t (((str c.s).size : Nat) : Int) < 0 := by omega
  have hmin2 : ¬ (((str c.s).size : Nat) : Int) < min t (((str c.s).size : Nat) : Int) := by omega
  clear hW hQ hR hB
  go_upto_region 2 with (fail)
  rw [HX.out]
  generalize hW2 : World.setCell _ _ _ = W2
  have q2 : W2.heap[w.heap.size]? = some (.cells #[.int .i64 c.k, .string (str c.nm), .string (str c.to), .string (str (c.s.take t.toNat))] 104 (0, 0)) := by rw [← hW2]; exact blk_set _ HQ.out
  have fs : Fr W W2 (fun k => k = w.heap.size) := by rw [← hW2]; exact Fr.setCell (S := fun k => k = w.heap.size) _ ⟨w.heap.size, 3, none⟩ _ rfl
  have r2 : W2.heap[w.heap.size + 1]? = some (.cells #[.int .i64 0, .string (str []), .string (str []), .string (str [])] 104 (0, 0)) := (fs.block _ (lt_blk HR.out) (by omega)).trans HR.out
  have HB2 : Hid (Below w.heap.size w W2) := HB.out.trans (Fr.below fs HB.out.size (fun k e => by omega))
  have HR2 : Hid _ := r2
  obtain ⟨d0, d1, d2, d3⟩ := box4 q2
  obtain ⟨z0, z1, z2, z3⟩ := box4 r2
  have g0 : W2.frozen? ⟨w.heap.size + 1, 0, none⟩ = false := by simp [World.frozen?, r2]
  have g1 : W2.frozen? ⟨w.heap.size + 1, 1, none⟩ = false := by simp [World.frozen?, r2]
  have g2 : W2.frozen? ⟨w.heap.size + 1, 2, none⟩ = false := by simp [World.frozen?, r2]
  have g3 : W2.frozen? ⟨w.heap.size + 1, 3, none⟩ = false := by simp [World.frozen?, r2]
  clear hW2 q2 r2 fs HX HQ HR HB c0 c1 c2 c3 f3 hmin hmin2
  go_wp2
  refine bodyPost_ret (v := .agg #[.int .i64 c.k, .string (str c.nm), .string (str c.to), .string (str (c.s.take t.toNat))]) (results_cell_row Try.results74 _ _ (w.heap.size + 1) 104 _ (0, 0) _ rfl (set4 _ _ _ _ HR2.out) Try.underlying104 rfl size_chg) rfl ?_
  exact ⟨rfl, HB2.out.trans (Fr.below (set4_fr _ _ _ _ _ _) HB2.out.size (fun k e => by omega))⟩
end Go.Proofs.Ytdapapnkmicklaa
