import Derived.Test.YtfidojdolbmjdaaGrCloneM
import Derived.Deep.Cut
import Derived.Deep.DeepCutAuto
/- graph.Clone: the same graph, in new memory. -/
namespace Go.Proofs.Ytfidojdolbmjdaa
open Go.RowKit
theorem cl_one {W : World} {b : Nat} {t : TypeId} {u0 : Value} (h : W.heap[b]? = some (.cells #[u0] t (0, 0))) : W.cell? ⟨b, 0, none⟩ = some u0 ∧ W.frozen? ⟨b, 0, none⟩ = false := by
  refine ⟨?_, froz h⟩
  simp [World.cell?, h]
theorem cl_set1 {w : World} {b : Nat} {t : TypeId} {u0 : Value} (h : w.heap[b]? = some (.cells #[u0] t (0, 0))) (x : Value) : (w.setCell ⟨b, 0, none⟩ x).heap[b]? = some (.cells #[x] t (0, 0)) := by
  have hlt := lt_of_block h
  have h' : w.heap[b] = .cells #[u0] t (0, 0) := by simpa [Array.getElem?_eq_getElem hlt] using h
  show (w.heap.modify b _)[b]? = _
  rw [Array.getElem?_eq_getElem (by simpa using hlt), Array.getElem_modify_self, h']
  rfl
theorem sizeGr : (Try.prog.info? 24).map (·.size) = some 1 := by kernel_rfl
set_option maxRecDepth 100000 in
set_option maxHeartbeats 1000000 in
theorem clone_any {w : World} {P : Nat → Prop} {ao : Option Addr} (G : List Vx) (cap : Nat) (h : VxAt w P ao G) (hok : ∀ v ∈ G, v.ok) (hl : G.length * 40 ≤ 140737488355328) :
    Calls Try.prog 76 #[.agg #[.slice ao G.length cap]] w fun r w' => ∃ bo c, r = .returned (.agg #[.slice bo G.length c]) ∧ VxAt w' (fun k => w.heap.size ≤ k) bo G ∧ Below w.heap.size w w' := by
  obtain ⟨i0, hi, hz0, hz1, hz2⟩ := info_parts infoVx
  have HG : Hid (VxAt w P ao G) := h
  have HOk : Hid (∀ v ∈ G, v.ok) := hok
  clear h hok
  go_enter Try.func76, Try.ntmps76
  go_wp2
  go_loopw [3, 9] (fun u i wr => ∃ (j : Nat) (fo : Option Addr) (m c : Nat), j ≤ G.length ∧ u = .slice fo m c ∧ i = .int .i64 j ∧ VRow wr (w.heap.size + 1 + 1) 56 (.slice fo m c) (G.take j) ∧ wr.heap[w.heap.size + 1]? = some (.cells #[.slice none 0 0] 24 (0, 0)) ∧ Below w.heap.size w wr) (fun _ i _ => G.length - (intOf i).toNat)
  case atStart =>
    refine ⟨0, none, 0, 0, Nat.zero_le _, rfl, rfl, VRow.nil _ _ _, ?_, b2 _ _ _⟩
    have := heap_alloc_new (w.alloc (.cells #[.slice ao G.length cap] 24)) (.cells #[.slice none 0 0] 24)
    rw [World.size_alloc] at this
    exact this
  case round =>
    obtain ⟨j, fo, m, c, hj, rfl, rfl, hR, hq, hb⟩ := hrel
    by_cases hlt : j < G.length
    · obtain ⟨b, off, rfl, hP, hc⟩ := HG.out (by omega)
      obtain ⟨eo, ec, e0, e1, e2, e3⟩ := hc j hlt
      have hbb := lt_cell e0
      have d0 := (hb.cell (p := ⟨b, off + j * 3, none⟩) hbb).trans e0
      have d1 := (hb.cell (p := ⟨b, off + j * 3 + 1, none⟩) hbb).trans e1
      have d2 := (hb.cell (p := ⟨b, off + j * 3 + 2, none⟩) hbb).trans e2
      have HE : Hid (EdAt w P eo G[j].es) := e3
      have hlen : G[j].es.length ≤ 8796093022208 := (HOk.out _ (List.getElem_mem hlt)).len
      have HS : Hid (G.take (j + 1) = G.take j ++ [G[j]]) := List.take_succ_eq_append_getElem hlt
      have HLg : Hid ((G.take j).length = j) := by show _ = _; rw [List.length_take]; omega
      generalize G[j] = y at d0 d1 d2 HE hlen HS
      have HR : Hid _ := hR
      have HQ : Hid _ := hq
      have HB : Hid _ := hb
      have lq := lt_of_block hq
      clear e0 e1 e2 e3 hc hR hq hb
      go_wp2_with (first
        | (go_at_call 92; refine (clonev_any y ec (EdAt.new HE.out (HB.out.alloc HB.out.size _)) hlen).mono ?_; rintro r w1 ⟨bo, bc', rfl, hE1, hb1⟩; have hR1 := VRow.new (VRow.new HR.out (one_new wr _)) hb1; have hE4 : EdAt (w1.alloc (.cells #[.int .i64 y.id, .int .i64 y.val, .slice bo y.es.length bc'] 56)) (fun k => w.heap.size + 1 + 1 ≤ k ∧ (Value.slice fo m c).ownBlock ≠ some k) bo y.es := (hE1.new (one_new _ _)).mono (fun k _ hk => ⟨by have := hk.1; rw [World.size_alloc] at this; omega, fun e => by have := (VRow.lt HR.out k e).2; have := hk.1; rw [World.size_alloc] at this; omega⟩); obtain ⟨M, ho, hgo⟩ := (hR1.new (one_new w1 (.cells #[.int .i64 y.id, .int .i64 y.val, .slice bo y.es.length bc'] 56))).app (ec := bc') hE4; have HGo : Hid _ := hgo; have lw1 := hb1.size; have hq1 := (hb1.block _ (by rw [World.size_alloc]; omega)).trans ((Below.heap_alloc wr _ _ lq).trans HQ.out); have HQ1 : Hid _ := hq1; have HB1 : Hid _ := (HB.out.alloc HB.out.size _).trans (hb1.mono (by rw [World.size_alloc]; have := HB.out.size; omega)); clear hgo hE4 hq1)
        | (at_builtin; refine wpList_append_own_at _ rfl _ _ 22 rfl (w.heap.size + 1 + 1) 56 i0 (.agg #[.int .i64 0, .int .i64 0, .slice none 0 0]) 3 40 Try.underlying22 hi hz0 hz1 hz2 rfl (by decide) _ _ _ rfl ho ⟨w1.heap.size, 0, none⟩ 1 1 [.int .i64 y.id, .int .i64 y.val, .slice bo y.es.length bc'] rfl rfl (three_new (heap_alloc_new _ _)) (by intro u hu; simp at hu; rcases hu with rfl | rfl | rfl <;> rfl) (by rw [HLg.out]; unfold maxLen; omega) (by rw [HLg.out]; omega) (by rw [World.size_alloc] at lw1; simp; omega) ?_))
      intro v' w4 hown hgrow _ hat
      have hR4 := HGo.out w4 v' (by rw [HLg.out]; exact hown) hgrow (by simpa using hat)
      have f4 : Fr (w1.alloc (.cells #[.int .i64 y.id, .int .i64 y.val, .slice bo y.es.length bc'] 56)) w4 (fun k => Value.ownBlock (.slice fo m c) = some k) := Fr.grown hgrow (fun k hk => hk)
      have hB4 : Below w.heap.size w w4 := (HB1.out.alloc HB1.out.size _).trans (f4.below (HB1.out.alloc HB1.out.size _).size (fun k hk => by have := (VRow.lt HR.out k hk).1; omega))
      have hq4 := (f4.block _ (by rw [World.size_alloc]; have := lt_of_block HQ1.out; omega) (fun hk => by have := (VRow.lt HR.out _ hk).1; omega)).trans ((Below.heap_alloc w1 _ _ (lt_of_block HQ1.out)).trans HQ1.out)
      obtain ⟨ao', m', c', rfl⟩ := own_any hown
      have HR4 : Hid _ := hR4
      have HB4 : Hid _ := hB4
      have HQ4 : Hid _ := hq4
      clear hR4 hB4 hq4 hown hgrow hat f4 ho hR1 hE1 hb1
      go_wp2
      go_roundw
      case rel => exact ⟨j + 1, _, _, _, by omega, rfl, by go_num, by rw [HS.out]; exact HR4.out, HQ4.out, HB4.out⟩
      case measure => simp [intOf]; omega
    · obtain rfl : j = G.length := by omega
      rw [List.take_length] at hR
      obtain ⟨hm, hVx⟩ := hR.at_
      subst hm
      obtain ⟨p0, p1⟩ := cl_one hq
      go_wp2
      refine bodyPost_ret (v := .agg #[.slice fo G.length c]) (results_cell_row Try.results76 _ _ (w.heap.size + 1) 24 _ (0, 0) _ rfl (cl_set1 hq _) Try.underlying24 rfl sizeGr) rfl ?_
      exact ⟨fo, c, rfl, hVx.kept (Fr.setCell (S := fun k => k = w.heap.size + 1) wr ⟨w.heap.size + 1, 0, none⟩ _ rfl) (fun k hk hp => ⟨by omega, by omega⟩), hb.trans ((Fr.setCell (S := fun k => k = w.heap.size + 1) wr ⟨w.heap.size + 1, 0, none⟩ _ rfl).below hb.size (fun k hk => by omega))⟩
end Go.Proofs.Ytfidojdolbmjdaa
