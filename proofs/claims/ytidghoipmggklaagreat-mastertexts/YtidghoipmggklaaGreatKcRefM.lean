import Derived.Test.YtidghoipmggklaaGreatGrRefM
import Derived.Deep.Cut
import Derived.Deep.DeepCutAuto
import Derived.Test.YtidghoipmggklaaGreatGrWalk2M
section
/- graph.Part, the document's Part, and copies: slices.Clone of edges, cloneVertex, graph.Clone. -/
namespace Go.Proofs.YtidghoipmggklaaGreat
open Go.RowKit
/-- A block of plain cells, none of them frozen. -/
def Soft (w : World) (k : Nat) : Prop := ∃ cs t, w.heap[k]? = some (.cells cs t (0, 0))
theorem Soft.keep {w w' : World} {k : Nat} {S : Nat → Prop} (h : Soft w k) (f : Fr w w' S) (hn : ¬ S k) : Soft w' k := by
  obtain ⟨cs, t, h⟩ := h
  exact ⟨cs, t, (f.block k (lt_of_block h) hn).trans h⟩
theorem Soft.new {w w' : World} {k : Nat} (h : Soft w k) (hb : Below w.heap.size w w') : Soft w' k := by
  obtain ⟨cs, t, h⟩ := h
  exact ⟨cs, t, (hb.block k (lt_of_block h)).trans h⟩
theorem soft_own {w : World} {base : Nat} {e : TypeId} {size : Nat} {v : Value} {n k : Nat} {xs : List Value} (h : w.ownsRow base e size v n xs) (hk : v.ownBlock = some k) : Soft w k := by
  rcases h.2 with ⟨h1, _⟩ | ⟨g, cap, cur, h1, _, hg, _⟩
  · rw [h1] at hk; cases hk
  · rw [h1] at hk
    cases hk
    exact ⟨cur, e, hg⟩
theorem ecs_len (L : List Ed) : (ecs L).length = L.length * 2 := by
  induction L with
  | nil => rfl
  | cons y L ih => simp only [ecs, List.flatMap_cons, List.length_append, List.length_cons] at *; simp at *; omega
theorem ecs_one (L : List Ed) : ∀ u ∈ ecs L, u.oneCell' = true := by
  intro u hu
  unfold ecs at hu
  obtain ⟨y, _, hy⟩ := List.mem_flatMap.1 hu
  simp at hy
  rcases hy with rfl | rfl <;> rfl
theorem ecs_cell {w : World} {P : Nat → Prop} {ad : Addr} {L : List Ed} (h : EdAt w P (some ad) L) : ∀ j u, (ecs L)[j]? = some u → w.cell? (ad.add j) = some u := by
  intro j u hu
  have hj : j < (ecs L).length := (List.getElem?_eq_some_iff.1 hu).1
  rw [ecs_len] at hj
  obtain ⟨b, off, e, _, hc⟩ := h (by omega)
  cases e
  have hadd : (⟨b, off, none⟩ : Addr).add j = ⟨b, off + j, none⟩ := by unfold Addr.add; split <;> simp_all
  rw [hadd]
  have hi : j / 2 < L.length := by omega
  have h1 := ecs_at L (j / 2) hi
  have h2 := hc (j / 2) hi
  rcases Nat.mod_two_eq_zero_or_one j with h0 | h0
  · rw [show j / 2 * 2 = j by omega] at h1 h2
    rw [h1.1] at hu
    cases hu
    exact h2.1
  · rw [show j / 2 * 2 + 1 = j by omega] at h1
    rw [show off + j / 2 * 2 + 1 = off + j by omega] at h2
    rw [h1.2] at hu
    cases hu
    exact h2.2
theorem nil_eq (w : World) (n c : Nat) : (binOp .eql 112 (.slice none n c) (.slice none 0 0)).run Tryz.prog w = .ok (.bool true) w := by
  have h : (Op.equalIn 10000 112 (.slice none n c) (.slice none 0 0)).run Tryz.prog w = .ok true w := by
    unfold Op.equalIn
    simp [run_underlying Tryz.underlying112]
  simp only [binOp]
  simp [Op.equal, Op.maxDepth, h]
theorem nil_ne (w : World) (ad : Addr) (n c : Nat) : (binOp .eql 112 (.slice (some ad) n c) (.slice none 0 0)).run Tryz.prog w = .ok (.bool false) w := by
  have h : (Op.equalIn 10000 112 (.slice (some ad) n c) (.slice none 0 0)).run Tryz.prog w = .ok false w := by
    unfold Op.equalIn
    simp [run_underlying Tryz.underlying112]
  simp only [binOp]
  simp [Op.equal, Op.maxDepth, h]
set_option maxRecDepth 100000 in
theorem clones_any {w : World} {P : Nat → Prop} {ao : Option Addr} (L : List Ed) (cap : Nat) (h : EdAt w P ao L) (hl : L.length ≤ 8796093022208) :
    Calls Tryz.prog 226 #[.slice ao L.length cap] w fun r w' => ∃ bo c, r = .returned (.slice bo L.length c) ∧ EdAt w' (fun k => w.heap.size ≤ k ∧ Soft w' k) bo L ∧ Below w.heap.size w w' := by
  obtain ⟨i0, hi, hz0, hz1, hz2⟩ := info_parts infoEdge
  cases ao with
  | none =>
    have hL : L = [] := List.eq_nil_of_length_eq_zero (Nat.eq_zero_of_not_pos (fun hp => by obtain ⟨b, off, e, _⟩ := h hp; cases e))
    subst hL
    have hq := nil_eq
    go_enter Tryz.func226, Tryz.ntmps226
    go_wp2
    go_ret
    exact ⟨none, 0, rfl, fun hp => absurd hp (by simp), Below.refl _ _⟩
  | some ad =>
    have HN : Hid (∀ j u, (ecs L)[j]? = some u → (w.alloc (.cells #[] 111)).cell? (ad.add j) = some u) := ecs_cell (h.new (one_new _ _))
    have HO : Hid _ := own_empty (w := w) (base := w.heap.size) (t := 111) (size := 2) (Nat.le_refl _)
    clear h
    have hq := nil_ne
    go_enter Tryz.func226, Tryz.ntmps226
    go_wp2_with (at_builtin; refine wpList_append_own_at _ rfl _ _ 112 rfl w.heap.size 111 i0 (.agg #[.int .i64 0, .int .i64 0]) 2 16 Tryz.underlying112 hi hz0 hz1 hz2 rfl (by decide) _ _ _ rfl HO.out ad L.length cap (ecs L) rfl (ecs_len L) HN.out (ecs_one L) (by unfold maxLen; omega) (by omega) (by simp) ?_)
    intro v' w1 hown hgrow _ _
    obtain ⟨bo, m, c, rfl⟩ := own_any hown
    obtain ⟨hm, hE⟩ := own_eds hown
    subst hm
    have hb : Below w.heap.size w w1 := (one_new w _).trans ((Fr.grown (S := fun k => k = w.heap.size) hgrow (fun k hk => by cases hk; rfl)).below (by simp) (fun k hk => by omega))
    go_wp2
    go_ret
    exact ⟨bo, c, rfl, hE.mono (fun k _ hk => ⟨hk.1, soft_own hown hk.2⟩), hb⟩
theorem cl_set3 {w : World} {b : Nat} {t : TypeId} {u0 u1 u2 : Value} (h : w.heap[b]? = some (.cells #[u0, u1, u2] t (0, 0))) (x y z : Value) : (((w.setCell ⟨b, 0, none⟩ x).setCell ⟨b, 1, none⟩ y).setCell ⟨b, 2, none⟩ z).heap[b]? = some (.cells #[x, y, z] t (0, 0)) := by
  have hs : ∀ {w : World} {i : Nat} {cs : Array Value} (v : Value), w.heap[b]? = some (.cells cs t (0, 0)) → (w.setCell ⟨b, i, none⟩ v).heap[b]? = some (.cells (cs.setIfInBounds i v) t (0, 0)) := by
    intro w i cs v h
    have hlt := lt_of_block h
    have h' : w.heap[b] = .cells cs t (0, 0) := by simpa [Array.getElem?_eq_getElem hlt] using h
    show (w.heap.modify b _)[b]? = _
    rw [Array.getElem?_eq_getElem (by simpa using hlt), Array.getElem_modify_self, h']
    rfl
  exact hs z (hs y (hs x h))
theorem sizeVx : (Tryz.prog.info? 114).map (·.size) = some 3 := by kernel_rfl
set_option maxRecDepth 100000 in
theorem clonev_any {w : World} {P : Nat → Prop} {eo : Option Addr} (x : Vx) (ec : Nat) (h : EdAt w P eo x.es) (hl : x.es.length ≤ 8796093022208) :
    Calls Tryz.prog 185 #[.agg #[.int .i64 x.id, .int .i64 x.val, .slice eo x.es.length ec]] w fun r w' => ∃ bo c, r = .returned (.agg #[.int .i64 x.id, .int .i64 x.val, .slice bo x.es.length c]) ∧ EdAt w' (fun k => w.heap.size ≤ k ∧ Soft w' k) bo x.es ∧ Below w.heap.size w w' := by
  have HE : Hid (∀ W, Below w.heap.size w W → EdAt W P eo x.es) := fun W hb => h.new hb
  have HB : Hid (Below w.heap.size w ((w.alloc (.cells #[.int .i64 x.id, .int .i64 x.val, .slice eo x.es.length ec] 114)).alloc (.cells #[.int .i64 0, .int .i64 0, .slice none 0 0] 114))) := b2 _ _ _
  have X1 : Hid (((w.alloc (.cells #[.int .i64 x.id, .int .i64 x.val, .slice eo x.es.length ec] 114)).alloc (.cells #[.int .i64 0, .int .i64 0, .slice none 0 0] 114)).heap[w.heap.size]? = some (.cells #[.int .i64 x.id, .int .i64 x.val, .slice eo x.es.length ec] 114 (0, 0))) := (Below.heap_alloc _ _ _ (by simp)).trans (heap_alloc_new _ _)
  have X2 : Hid (((w.alloc (.cells #[.int .i64 x.id, .int .i64 x.val, .slice eo x.es.length ec] 114)).alloc (.cells #[.int .i64 0, .int .i64 0, .slice none 0 0] 114)).heap[w.heap.size + 1]? = some (.cells #[.int .i64 0, .int .i64 0, .slice none 0 0] 114 (0, 0))) := by
    have := heap_alloc_new (w.alloc (.cells #[.int .i64 x.id, .int .i64 x.val, .slice eo x.es.length ec] 114)) (.cells #[.int .i64 0, .int .i64 0, .slice none 0 0] 114)
    rw [World.size_alloc] at this
    exact this
  clear h
  go_enter Tryz.func185, Tryz.ntmps185
  go_wp2_with (go_at_call 226; refine (clones_any x.es ec (HE.out _ HB.out) hl).mono ?_; rintro r w1 ⟨bo, c, rfl, hE1, hb1⟩; have y1 := (hb1.block _ (lt_of_block X1.out)).trans X1.out; have y2 := (hb1.block _ (lt_of_block X2.out)).trans X2.out; obtain ⟨p0, p1, p2⟩ := box3 y1; have p3 := froz (o := 2) y1; obtain ⟨q0, q1, q2⟩ := box3 y2; have q3 := froz (o := 0) y2; have q4 := froz (o := 1) y2; have q5 := froz (o := 2) y2; have Y1 : Hid _ := y1; have Y2 : Hid _ := y2; clear y1 y2)
  have hB1 : Below w.heap.size w w1 := HB.out.trans (hb1.mono HB.out.size)
  generalize hW : World.setCell _ _ _ = W
  have f1 : Fr w1 W (fun k => k = w.heap.size ∨ k = w.heap.size + 1) := by
    rw [← hW]
    have hs1 : ∀ (w' : World) (o : Nat) (u : Value), Fr w' (w'.setCell ⟨w.heap.size, o, none⟩ u) (fun k => k = w.heap.size ∨ k = w.heap.size + 1) := fun w' o u => Fr.setCell (S := fun k => k = w.heap.size ∨ k = w.heap.size + 1) w' ⟨w.heap.size, o, none⟩ u (Or.inl rfl)
    have hs2 : ∀ (w' : World) (o : Nat) (u : Value), Fr w' (w'.setCell ⟨w.heap.size + 1, o, none⟩ u) (fun k => k = w.heap.size ∨ k = w.heap.size + 1) := fun w' o u => Fr.setCell (S := fun k => k = w.heap.size ∨ k = w.heap.size + 1) w' ⟨w.heap.size + 1, o, none⟩ u (Or.inr rfl)
    exact (((hs1 _ _ _).trans (hs2 _ _ _) (fun _ _ h => h)).trans (hs2 _ _ _) (fun _ _ h => h)).trans (hs2 _ _ _) (fun _ _ h => h)
  have b1 : W.heap[w.heap.size + 1]? = some (.cells #[.int .i64 x.id, .int .i64 x.val, .slice bo x.es.length c] 114 (0, 0)) := by
    rw [← hW]
    have h0 : (w1.setCell ⟨w.heap.size, 2, none⟩ (.slice bo x.es.length c)).heap[w.heap.size + 1]? = some (.cells #[.int .i64 0, .int .i64 0, .slice none 0 0] 114 (0, 0)) := (Below.heap_setCell w1 ⟨w.heap.size, 2, none⟩ _ (w.heap.size + 1) (by show w.heap.size + 1 ≠ w.heap.size; omega)).trans Y2.out
    exact cl_set3 h0 _ _ _
  refine bodyPost_ret (v := .agg #[.int .i64 x.id, .int .i64 x.val, .slice bo x.es.length c]) (results_cell_row Tryz.results185 _ _ (w.heap.size + 1) 114 _ (0, 0) _ rfl b1 Tryz.underlying114 rfl sizeVx) rfl ?_
  have hz1 := lt_of_block X2.out
  exact ⟨bo, c, rfl, hE1.kept f1 (fun k hk hp => ⟨by have := hp.1; omega, by have := HB.out.size; have := hp.1; omega, hp.2.keep f1 (by have := hp.1; omega)⟩), hB1.trans (f1.below hB1.size (fun k hk => by omega))⟩
end Go.Proofs.YtidghoipmggklaaGreat
end

section
/- graph.Clone: the same graph, in new memory. -/
namespace Go.Proofs.YtidghoipmggklaaGreat
open Go.RowKit
theorem cl_one {W : World} {b : Nat} {t : TypeId} {u0 : Value} (h : W.heap[b]? = some (.cells #[u0] t (0, 0))) : W.cell? ⟨b, 0, none⟩ = some u0 ∧ W.frozen? ⟨b, 0, none⟩ = false := by
  refine ⟨?_, froz h⟩
  simp [World.cell?, h]
theorem cl_set1 {w : World} {b : Nat} {t : TypeId} {u0 : Value} (h : w.heap[b]? = some (.cells #[u0] t (0, 0))) (x : Value) : (w.setCell ⟨b, 0, none⟩ x).heap[b]? = some (.cells #[x] t (0, 0)) := by
  have hlt := lt_of_block h
  have h' : w.heap[b] = .cells #[u0] t (0, 0) := by simpa [Array.getElem?_eq_getElem hlt] using h
  show (w.heap.modify b _)[b]? = _
  rw [Array.getElem?_eq_getElem (by simpa using hlt), Array.getElem_modify_self, h']
  rfl
theorem sizeGr : (Tryz.prog.info? 24).map (·.size) = some 1 := by kernel_rfl
set_option maxRecDepth 100000 in
set_option maxHeartbeats 1000000 in
theorem clone_any {w : World} {P : Nat → Prop} {ao : Option Addr} (G : List Vx) (cap : Nat) (h : VxAt w P ao G) (hok : ∀ v ∈ G, v.ok) (hl : G.length * 40 ≤ 140737488355328) :
    Calls Tryz.prog 138 #[.agg #[.slice ao G.length cap]] w fun r w' => ∃ bo c, r = .returned (.agg #[.slice bo G.length c]) ∧ VxAt w' (fun k => w.heap.size ≤ k) bo G ∧ Below w.heap.size w w' := by
  obtain ⟨i0, hi, hz0, hz1, hz2⟩ := info_parts infoVx
  have HG : Hid (VxAt w P ao G) := h
  have HOk : Hid (∀ v ∈ G, v.ok) := hok
  clear h hok
  go_enter Tryz.func138, Tryz.ntmps138
  go_wp2
  go_loopw [3, 9] (fun u i wr => ∃ (j : Nat) (fo : Option Addr) (m c : Nat), j ≤ G.length ∧ u = .slice fo m c ∧ i = .int .i64 j ∧ VRow wr (w.heap.size + 1 + 1) 114 (.slice fo m c) (G.take j) ∧ wr.heap[w.heap.size + 1]? = some (.cells #[.slice none 0 0] 24 (0, 0)) ∧ Below w.heap.size w wr) (fun _ i _ => G.length - (intOf i).toNat)
  case atStart =>
    refine ⟨0, none, 0, 0, Nat.zero_le _, rfl, rfl, VRow.nil _ _ _, ?_, b2 _ _ _⟩
    have := heap_alloc_new (w.alloc (.cells #[.slice ao G.length cap] 24)) (.cells #[.slice none 0 0] 24)
    rw [World.size_alloc] at this
    exact this
  case round =>
    obtain ⟨j, fo, m, c, hj, rfl, rfl, hR, hq, hb⟩ := hrel
    by_cases hlt : j < G.length
    · obtain ⟨b, off, rfl, hP, hc⟩ := HG.out (by omega)
      obtain ⟨eo, ec, e0, e1, e2, e3⟩ := hc j hlt
      have hbb := lt_cell e0
      have d0 := (hb.cell (p := ⟨b, off + j * 3, none⟩) hbb).trans e0
      have d1 := (hb.cell (p := ⟨b, off + j * 3 + 1, none⟩) hbb).trans e1
      have d2 := (hb.cell (p := ⟨b, off + j * 3 + 2, none⟩) hbb).trans e2
      have HE : Hid (EdAt w P eo G[j].es) := e3
      have hlen : G[j].es.length ≤ 8796093022208 := (HOk.out _ (List.getElem_mem hlt)).len
      have HS : Hid (G.take (j + 1) = G.take j ++ [G[j]]) := List.take_succ_eq_append_getElem hlt
      have HLg : Hid ((G.take j).length = j) := by show _ = _; rw [List.length_take]; omega
      generalize G[j] = y at d0 d1 d2 HE hlen HS
      have HR : Hid _ := hR
      have HQ : Hid _ := hq
      have HB : Hid _ := hb
      have lq := lt_of_block hq
      clear e0 e1 e2 e3 hc hR hq hb
      go_wp2_with (first
        | (go_at_call 185; refine (clonev_any y ec (EdAt.new HE.out (HB.out.alloc HB.out.size _)) hlen).mono ?_; rintro r w1 ⟨bo, bc', rfl, hE1, hb1⟩; have hR1 := VRow.new (VRow.new HR.out (one_new wr _)) hb1; have hE4 : EdAt (w1.alloc (.cells #[.int .i64 y.id, .int .i64 y.val, .slice bo y.es.length bc'] 114)) (fun k => w.heap.size + 1 + 1 ≤ k ∧ (Value.slice fo m c).ownBlock ≠ some k) bo y.es := (hE1.new (one_new _ _)).mono (fun k _ hk => ⟨by have := hk.1; rw [World.size_alloc] at this; omega, fun e => by have := (VRow.lt HR.out k e).2; have := hk.1; rw [World.size_alloc] at this; omega⟩); obtain ⟨M, ho, hgo⟩ := (hR1.new (one_new w1 (.cells #[.int .i64 y.id, .int .i64 y.val, .slice bo y.es.length bc'] 114))).app (ec := bc') hE4; have HGo : Hid _ := hgo; have lw1 := hb1.size; have hq1 := (hb1.block _ (by rw [World.size_alloc]; omega)).trans ((Below.heap_alloc wr _ _ lq).trans HQ.out); have HQ1 : Hid _ := hq1; have HB1 : Hid _ := (HB.out.alloc HB.out.size _).trans (hb1.mono (by rw [World.size_alloc]; have := HB.out.size; omega)); clear hgo hE4 hq1)
        | (at_builtin; refine wpList_append_own_at _ rfl _ _ 22 rfl (w.heap.size + 1 + 1) 114 i0 (.agg #[.int .i64 0, .int .i64 0, .slice none 0 0]) 3 40 Tryz.underlying22 hi hz0 hz1 hz2 rfl (by decide) _ _ _ rfl ho ⟨w1.heap.size, 0, none⟩ 1 1 [.int .i64 y.id, .int .i64 y.val, .slice bo y.es.length bc'] rfl rfl (three_new (heap_alloc_new _ _)) (by intro u hu; simp at hu; rcases hu with rfl | rfl | rfl <;> rfl) (by rw [HLg.out]; unfold maxLen; omega) (by rw [HLg.out]; omega) (by rw [World.size_alloc] at lw1; simp; omega) ?_))
      intro v' w4 hown hgrow _ hat
      have hR4 := HGo.out w4 v' (by rw [HLg.out]; exact hown) hgrow (by simpa using hat)
      have f4 : Fr (w1.alloc (.cells #[.int .i64 y.id, .int .i64 y.val, .slice bo y.es.length bc'] 114)) w4 (fun k => Value.ownBlock (.slice fo m c) = some k) := Fr.grown hgrow (fun k hk => hk)
      have hB4 : Below w.heap.size w w4 := (HB1.out.alloc HB1.out.size _).trans (f4.below (HB1.out.alloc HB1.out.size _).size (fun k hk => by have := (VRow.lt HR.out k hk).1; omega))
      have hq4 := (f4.block _ (by rw [World.size_alloc]; have := lt_of_block HQ1.out; omega) (fun hk => by have := (VRow.lt HR.out _ hk).1; omega)).trans ((Below.heap_alloc w1 _ _ (lt_of_block HQ1.out)).trans HQ1.out)
      obtain ⟨ao', m', c', rfl⟩ := own_any hown
      have HR4 : Hid _ := hR4
      have HB4 : Hid _ := hB4
      have HQ4 : Hid _ := hq4
      clear hR4 hB4 hq4 hown hgrow hat f4 ho hR1 hE1 hb1
      go_wp2
      go_roundw
      case rel => exact ⟨j + 1, _, _, _, by omega, rfl, by go_num, by rw [HS.out]; exact HR4.out, HQ4.out, HB4.out⟩
      case measure => simp [intOf]; omega
    · obtain rfl : j = G.length := by omega
      rw [List.take_length] at hR
      obtain ⟨hm, hVx⟩ := hR.at_
      subst hm
      obtain ⟨p0, p1⟩ := cl_one hq
      go_wp2
      refine bodyPost_ret (v := .agg #[.slice fo G.length c]) (results_cell_row Tryz.results138 _ _ (w.heap.size + 1) 24 _ (0, 0) _ rfl (cl_set1 hq _) Tryz.underlying24 rfl sizeGr) rfl ?_
      exact ⟨fo, c, rfl, hVx.kept (Fr.setCell (S := fun k => k = w.heap.size + 1) wr ⟨w.heap.size + 1, 0, none⟩ _ rfl) (fun k hk hp => ⟨by omega, by omega⟩), hb.trans ((Fr.setCell (S := fun k => k = w.heap.size + 1) wr ⟨w.heap.size + 1, 0, none⟩ _ rfl).below hb.size (fun k hk => by omega))⟩
end Go.Proofs.YtidghoipmggklaaGreat
end

section
/- graph.All: the iterator over a copy's edges. -/
namespace Go.Proofs.YtidghoipmggklaaGreat
open Go.RowKit Go.Shelf
attribute [local go_sem] Oper.semAt_some
theorem ga_one (w : World) (o : Obj) : Below w.heap.size w (w.alloc o) := (Below.refl _ _).alloc (Nat.le_refl _) _
theorem ga_new {w w' : World} {P : Nat → Prop} {ao : Option Addr} {G : List Vx} (h : VxAt w P ao G) (hb : Below w.heap.size w w') : VxAt w' P ao G := h.kept (Fr.ofBelow hb (fun _ => False)) (fun _ _ hp => ⟨fun h => h, hp⟩)
theorem ga_cell {W : World} {b : Nat} {t : TypeId} {u : Value} (h : W.heap[b]? = some (.cells #[u] t (0, 0))) : W.cell? ⟨b, 0, none⟩ = some u := by simp [World.cell?, h]
theorem allG_fn {w : World} {P : Nat → Prop} {ao : Option Addr} (G : List Vx) (cap : Nat) (h : VxAt w P ao G) (hok : ∀ v ∈ G, v.ok) (hl : G.length * 40 ≤ 140737488355328) :
    Calls Tryz.prog 241 #[.agg #[.slice ao G.length cap]] w fun r w' => ∃ Bs fo c, r = .returned (.func (.func 238) #[] #[.pointer (some ⟨Bs, 0, none⟩)]) ∧ w'.cell? ⟨Bs, 0, none⟩ = some (.slice fo G.length c) ∧ VxAt w' (fun k => k < w'.heap.size) fo G ∧ Bs < w'.heap.size ∧ Below w.heap.size w w' := by
  have HG := ga_new h (ga_one w (.cells #[.slice ao G.length cap] 24))
  have HH : Hid _ := HG
  have HOk : Hid _ := hok
  clear h HG hok
  go_enter Tryz.func241, Tryz.ntmps241
  go_wp2_with (first
    | (go_at_call 138; refine (clone_any G cap HH.out HOk.out hl).mono ?_; rintro r w1 ⟨bo, c, rfl, hV, hb1⟩)
    | (go_at_call 194; refine (edges_fn _ _ _).mono ?_; rintro r w2 ⟨rfl, rfl⟩))
  go_ret
  have hs := hb1.size
  rw [World.size_alloc] at hs
  refine ⟨w1.heap.size, bo, c, rfl, ga_cell (heap_alloc_new _ _), ?_, by simp, ?_⟩
  · exact (ga_new hV (ga_one _ _)).kept (Fr.refl _ (fun _ => False)) (fun k hk hp => ⟨fun h => h, hk⟩)
  · exact ((ga_one w _).trans (hb1.mono (by rw [World.size_alloc]; omega))).alloc (by omega) _
/-- Is there an edge with a weight below 0? -/
def negE (G : List Vx) : Bool := (evs G).any fun x => decide (x.2.w < 0)
def noNeg (l : List (Int × Ed)) : Prop := ∀ x ∈ l, ¬ x.2.w < 0
def someNeg (l : List (Int × Ed)) : Prop := ∃ x ∈ l, x.2.w < 0
set_option maxRecDepth 100000 in
set_option maxHeartbeats 4000000 in
theorem below0_any {w : World} {P : Nat → Prop} {ao : Option Addr} {G : List Vx} (cap : Nat) (h : VxAt w P ao G) (hok : ∀ v ∈ G, v.ok) (hl : G.length ≤ 256) :
    Calls Tryz.prog 197 #[.agg #[.slice ao G.length cap]] w fun r w' => r = .returned (.bool (negE G)) ∧ Below w.heap.size w w' := by
  refine (callsIn_wide (n := 5)).1 ?_
  refine callsIn_of_wp_marks Tryz.func197 rfl trivial ?_ rfl
  simp only [Tryz.ntmps197, List.size_toArray, List.length_cons, List.length_nil, Nat.reduceAdd, Nat.reduceSub, Array.replicate_succ, Array.replicate_zero, List.push_toArray, List.append_toArray, List.nil_append, List.cons_append]
  obtain ⟨W1, hW1⟩ : ∃ W1, (w.alloc (.cells #[.slice ao G.length cap] 24)).alloc (.cells #[.bool false] 4) = W1 := ⟨_, rfl⟩
  have hB1 : Below w.heap.size w W1 := by rw [← hW1]; exact (ga_one _ _).trans ((ga_one _ _).mono (by simp))
  have hG1 : W1.cell? ⟨w.heap.size, 0, none⟩ = some (.slice ao G.length cap) := by
    rw [← hW1]
    exact ga_cell (((ga_one _ _).block _ (by simp)).trans (heap_alloc_new _ _))
  have bR0 : Boxed W1 (w.heap.size + 1) 4 (.bool false) := by
    rw [← hW1]
    have := Boxed.new (w.alloc (.cells #[.slice ao G.length cap] 24)) 4 (.bool false)
    rw [World.size_alloc] at this
    exact this
  have HV1 : Hid _ := ga_new h hB1
  gi_wp2_with (refine ⟨trivial, ?_⟩; gi_at_call 241; refine (callsIn_wide.2 (allG_fn G cap HV1.out hok (by omega))).mono ?_; rintro r w1 ⟨Bs, fo, c, rfl, hBs, hV2, hBl, hb1⟩)
  have bR1 : Boxed w1 (w.heap.size + 1) 4 (.bool false) := (hb1.block _ bR0.lt).trans bR0
  have hbw : Below w.heap.size w w1 := hB1.trans (hb1.mono hB1.size)
  have hsz1 : w.heap.size + 2 ≤ w1.heap.size := by have := hb1.size; have : W1.heap.size = w.heap.size + 2 := (by rw [← hW1]; simp); omega
  clear hW1 hG1 bR0 HV1 h hb1 hB1
  refine wpIn_rangeFunc_ownH rfl (by decide) (gf := 238) (lb := #[.pointer (some ⟨Bs, 0, none⟩)]) rfl trivial (enters_of Tryz.func238 (by kernel_rfl) rfl)
    (edges_stops Fence.wide 4 trivial rfl (by decide) Bs w1.heap.size fo c G (Nat.le_trans hl (by decide)) hok w1 hBl (Nat.le_refl _) hBs hV2) Kc.trans (Kc.put (Nat.le_refl _)) (Below.refl _ _) (fun _ => rfl)
    (fun pre W => (Boxed W (w.heap.size + 1) 4 (.bool false) ∧ noNeg pre) ∧ Below w1.heap.size w1 W)
    (fun c pre W => (c = .ret ∧ someNeg pre ∧ Boxed W (w.heap.size + 1) 4 (.bool true)) ∧ Below w.heap.size w W)
    (OwnFrom.and (Own.from (fun s A B row hs hg hr => ⟨boxed_keep hs.1 hg hr, hs.2⟩) _) (ownFrom_below (Nat.le_refl _) (Nat.le_refl _)))
    (fun c => OwnFrom.and (Own.from (fun s A B row hs hg hr => ⟨hs.1, hs.2.1, boxed_keep hs.2.2 hg hr⟩) _) (ownFrom_below (Nat.le_refl _) (by omega)))
    ⟨⟨bR1, (fun x hx => (by simp at hx))⟩, Below.refl _ _⟩
    (fun x a' W => ∃ Bx, w.heap.size + 1 < Bx ∧ W.heap[Bx]? = some (.cells #[.int .i64 x.2.t, .int .i64 x.2.w] 111 (0, 0)) ∧ a' = { tmps := #[.agg #[.slice ao G.length cap], .pointer (some ⟨w.heap.size, 0, none⟩), .pointer (some ⟨w.heap.size + 1, 0, none⟩), undef, .pointer (some ⟨Bx, 0, none⟩), .agg #[.slice ao G.length cap], .func (.func 238) #[] #[.pointer (some ⟨Bs, 0, none⟩)], .int .i64 x.1, .agg #[.int .i64 x.2.t, .int .i64 x.2.w], undef, undef, undef], defers := [] })
    (fun x a' _ A B row hs hg hr => by
      obtain ⟨Bx, h1, h2, h3⟩ := hs
      exact ⟨Bx, h1, blk_own Bx _ rfl () A B row h2 hg (fun r e => (hr r e).2), h3⟩) ?assign ?body ?done ?stop
  case assign =>
    rintro l pre x W K ⟨⟨bR, hall⟩, hB⟩ hK
    dsimp only [encE]
    gi_wp2
    exact hK _ _ ((KeepsOthers.alloc _ _).from _) (Kc.ofNew ((Below.refl _ _).alloc (Nat.le_refl _) _) hB.size) ⟨⟨bR.alloc _, hall⟩, hB.alloc hB.size _⟩ ⟨W.heap.size, bR.lt, heap_alloc_new _ _, rfl⟩
  case body =>
    rintro l pre x a' W hl0 ⟨r, hr0⟩ ⟨⟨bR, hall⟩, hB⟩ ⟨Bx, hBx, bX, rfl⟩ _
    obtain ⟨q0, q1⟩ := box2 bX
    have cR := bR.cell
    have fR := bR.frozen
    by_cases hx : x.2.w < 0
    · gi_wp2
      exact ⟨(KeepsOthers.setCell _ _ _).from _, ⟨rfl, ⟨x, by simp, hx⟩, bR.set _⟩, (hbw.trans (hB.mono hbw.size)).setCell (p := ⟨w.heap.size + 1, 0, none⟩) (by simp) _⟩
    · gi_wp2
      refine ⟨(KeepsOthers.refl _).from _, Kc.refl _ _ _, ⟨bR, fun z hz => ?_⟩, hB⟩
      rcases List.mem_append.1 hz with hz | hz
      · exact hall z hz
      · obtain rfl : z = x := by simpa using hz
        exact Int.not_lt.2 hx
  case done =>
    rintro D ys W hD rfl ⟨⟨bR, hall⟩, hB⟩ hK
    have cR := bR.cell
    have fR := bR.frozen
    gi_wp2
    have hK' := (KeepsOthers.setCell W ⟨w.heap.size + 1, 0, none⟩ (.bool false)).same D _ hK rfl
    refine ⟨by simp, .inl ⟨_, _, rfl, run_takeDeferred hK', ?_⟩⟩
    have hc5 := cell_kept (World.cell?_setCell_same' W ⟨w.heap.size + 1, 0, none⟩ (.bool false) (by rw [cR]; rfl)) (grownBy_putObj' _ D (.deferred none)) (fun r e => by cases e; exact ⟨_, hK', rfl⟩)
    have hN : negE G = false := by
      unfold negE
      rw [List.any_eq_false]
      intro x hx
      simpa using hall x hx
    have hBw := hbw.trans (hB.mono hbw.size)
    refine ⟨.bool false, ?_, by rw [hN], (hBw.setCell (p := ⟨w.heap.size + 1, 0, none⟩) (by simp) _).trans (belowK_b (w := w) (Nat.le_refl _) _ D _ _ (by omega) hK' rfl rfl)⟩
    simp [results, Tryz.results197, go_sem, hc5]
  case stop =>
    rintro D c pre W hD hpre ⟨⟨rfl, hex, bR⟩, hB⟩ hK
    obtain ⟨x, hx, hw⟩ := hex
    gi_wp2
    refine ⟨by simp, .inl ⟨_, _, rfl, run_takeDeferred hK, ?_⟩⟩
    have hc5 := cell_kept bR.cell (grownBy_putObj' _ D (.deferred none)) (fun r e => by cases e; exact ⟨_, hK, rfl⟩)
    have hN : negE G = true := by
      unfold negE
      rw [List.any_eq_true]
      exact ⟨x, hpre.subset hx, by simpa using hw⟩
    refine ⟨.bool true, ?_, by rw [hN], hB.trans (belowK_b (w := w) (Nat.le_refl _) W D _ _ (by omega) hK rfl rfl)⟩
    simp [results, Tryz.results197, go_sem, hc5]
end Go.Proofs.YtidghoipmggklaaGreat
end

section
/- What the document's Edges, Find and Check return. -/
namespace Go.Proofs.YtidghoipmggklaaGreat
open Go.RowKit

set_option maxRecDepth 100000 in
theorem refedges_any {w : World} {P : Nat → Prop} {ao : Option Addr} {G : List Vx} (cap : Nat) (h : VxAt w P ao G) (hl : G.length ≤ 9223372036854775807) :
    Calls Tryz.prog 105 #[.slice ao G.length cap] w fun r w' => r = .returned (.int .i64 (sumE G)) ∧ Below w.heap.size w w' := by
  go_enter Tryz.func105, Tryz.ntmps105
  go_wp2
  go_loopw [3, 4] (fun n i wr => ∃ (k : Nat), k ≤ G.length ∧ i = .int .i64 k ∧ n = .int .i64 (sumE (G.take k)) ∧ Below w.heap.size w wr) (fun _ i _ => G.length - (intOf i).toNat)
  case atStart => exact ⟨0, Nat.zero_le _, rfl, rfl, Below.refl _ _⟩
  case round =>
    obtain ⟨k, hk, rfl, rfl, hb⟩ := hrel
    by_cases hlt : k < G.length
    · obtain ⟨b, off, rfl, hP, hc⟩ := h (by omega)
      obtain ⟨eo, ec, c0, c1, c2, _⟩ := hc k hlt
      have hbb := lt_cell c0
      have d2 := (hb.cell (p := ⟨b, off + k * 3 + 2, none⟩) hbb).trans c2
      have HS : Hid _ := sumE_snoc G k hlt
      clear c0 c1 c2 hc
      generalize G[k] = y at d2 HS
      go_wp2
      go_roundw
      case rel => exact ⟨k + 1, by omega, by go_num, by rw [HS.out], hb⟩
      case measure => simp [intOf]; omega
    · obtain rfl : k = G.length := by omega
      go_wp2
      go_ret
      exact ⟨by rw [List.take_length]; rfl, hb⟩
theorem findN_from {l : List Int} {x : Int} {k : Nat} (hk : k ≤ l.length) (h1 : ∀ j (h : j < l.length), j < k → l[j] < x) (h2 : ∀ h : k < l.length, ¬ l[k] < x) : findN l x = k := by
  have hle := findN_le l x
  rcases Nat.lt_trichotomy (findN l x) k with h | h | h
  · exact absurd (h1 _ (by omega) h) (findN_stop l x (by omega))
  · exact h
  · obtain ⟨h', h''⟩ := findN_lt l x k h
    exact absurd h'' (h2 h')

set_option maxRecDepth 100000 in
set_option maxHeartbeats 1000000 in
theorem reffind_any {w : World} {P : Nat → Prop} {ao : Option Addr} {G : List Vx} (cap : Nat) (x : Int) (h : VxAt w P ao G) (hl : G.length ≤ 9223372036854775807) :
    Calls Tryz.prog 106 #[.slice ao G.length cap, .int .i64 x] w fun r w' => r = .returned (.tuple #[.int .i64 (findN (ids G) x), .bool (foundB (ids G) x)]) ∧ Below w.heap.size w w' := by
  go_enter Tryz.func106, Tryz.ntmps106
  go_wp2
  go_loopw [6] (fun i wr => ∃ (k : Nat), k ≤ G.length ∧ i = .int .i64 k ∧ Hid (∀ j (h : j < (ids G).length), j < k → (ids G)[j] < x) ∧ Below w.heap.size w wr) (fun i _ => G.length - (intOf i).toNat)
  case atStart => exact ⟨0, Nat.zero_le _, rfl, fun j _ hj => absurd hj (by omega), Below.refl _ _⟩
  case round =>
    obtain ⟨k, hk, rfl, HR, hb⟩ := hrel
    by_cases hlt : k < G.length
    · obtain ⟨b, off, rfl, hP, hc⟩ := h (by omega)
      obtain ⟨eo, ec, c0, c1, c2, _⟩ := hc k hlt
      have hbb := lt_cell c0
      have d0 := (hb.cell (p := ⟨b, off + k * 3, none⟩) hbb).trans c0
      have HG : Hid ((ids G)[k]'(by rw [ids_len]; exact hlt) = G[k].id) := ids_get G k hlt
      clear c0 c1 c2 hc
      generalize G[k] = y at d0 HG
      by_cases hy : y.id < x
      · go_wp2
        go_roundw
        case rel => exact ⟨k + 1, by omega, by go_num, (fun j hj hjk => by
          by_cases e : j = k
          · subst e; rw [HG.out]; exact hy
          · exact HR.out j hj (by omega)), hb⟩
        case measure => simp [intOf]; omega
      · have HF : Hid (findN (ids G) x = k) := findN_from (by rw [ids_len]; exact hk) HR.out (fun h => by rw [HG.out]; exact hy)
        have HB : Hid (foundB (ids G) x = (y.id == x)) := by
          show _ = _
          unfold foundB
          rw [HF.out, List.getElem?_eq_getElem (by rw [ids_len]; exact hlt), HG.out]
          rfl
        go_wp2
        go_quiet (fail)
        go_wp2
        go_ret2
        exact ⟨by rw [HF.out, HB.out]; rfl, bel_drewN hb _⟩
    · have HF : Hid (findN (ids G) x = k) := findN_from (by rw [ids_len]; exact hk) HR.out (fun h => by rw [ids_len] at h; exact absurd h hlt)
      have HB : Hid (foundB (ids G) x = false) := by
        show _ = _
        unfold foundB
        rw [HF.out, List.getElem?_eq_none (by rw [ids_len]; omega)]; rfl
      have hd : decide ((k : Int) < (G.length : Int)) = false := by rw [decide_eq_false_iff_not]; omega
      go_wp2
      go_quiet (fail)
      go_wp2
      go_ret2
      exact ⟨by rw [HF.out, HB.out]; rfl, bel_drewN hb _⟩
end Go.Proofs.YtidghoipmggklaaGreat
end

section
/- The document's Check of parameters, at the five programs of this layer. -/
namespace Go.Proofs.YtidghoipmggklaaGreat
open Go.RowKit
def kNm : List ByteArray := [⟨#[98, 102, 115]⟩, ⟨#[99, 99]⟩, ⟨#[99, 111, 108, 111, 114, 115]⟩, ⟨#[100, 101, 103, 114, 101, 101]⟩, ⟨#[107, 99, 111, 114, 101]⟩, ⟨#[108, 97, 98, 101, 108, 115]⟩, ⟨#[109, 97, 116, 99, 104, 105, 110, 103]⟩, ⟨#[112, 97, 103, 101, 114, 97, 110, 107]⟩, ⟨#[115, 115, 115, 112]⟩, ⟨#[116, 114, 105, 97, 110, 103, 108, 101, 115]⟩]
theorem kc_row {w W : World} (L : List ByteArray) (h : w.alloc (.cells (L.map Value.string).toArray 9) = W) : (∀ j (hj : j < L.length), W.cell? ⟨w.heap.size, j, none⟩ = some (.string L[j])) ∧ Below w.heap.size w W := by
  have hh : W.heap[w.heap.size]? = some (.cells (L.map Value.string).toArray 9 (0, 0)) := by rw [← h]; exact heap_alloc_new _ _
  refine ⟨fun j hj => ?_, by rw [← h]; exact (Below.refl _ _).alloc (Nat.le_refl _) _⟩
  simp [World.cell?, hh, hj]
set_option maxRecDepth 100000 in
theorem kc_names (w : World) : Calls Tryz.prog 104 #[] w fun r w' => r = .returned (.slice (some ⟨w.heap.size, 0, none⟩) 10 10) ∧ w' = w.alloc (.cells (kNm.map Value.string).toArray 9) := by
  go_enter Tryz.func104, Tryz.ntmps104
  go_wp2
  go_ret
  exact ⟨rfl, rfl⟩
set_option maxRecDepth 100000 in
set_option maxHeartbeats 1000000 in
theorem rknown_any (s : ByteArray) (w : World) (hs : ∃ y ∈ kNm, (y.toList == s.toList) = true) : Calls Tryz.prog 43 #[.string s] w fun r w' => r = .returned (.bool true) ∧ Below w.heap.size w w' := by
  have HS : Hid _ := hs
  clear hs
  go_enter Tryz.func43, Tryz.ntmps43
  go_wp2_with (go_at_call 104; refine (kc_names _).mono ?_; rintro r w1 ⟨rfl, hw1⟩; obtain ⟨hc1, hb1⟩ := kc_row kNm hw1.symm; have HC1 : Hid _ := hc1; have HB1 : Hid _ := hb1; clear hw1 hc1 hb1)
  go_loopw [2, 4] (fun _ i wr => ∃ j : Nat, j ≤ 10 ∧ i = .int .i64 j ∧ Hid (∀ y ∈ kNm.take j, (y.toList == s.toList) = false) ∧ wr = w1) (fun _ i _ => 10 - (intOf i).toNat)
  case atStart => exact ⟨0, Nat.zero_le _, rfl, (fun y hy => (by simp at hy)), rfl⟩
  case round =>
    obtain ⟨j, hj, rfl, HF, rfl⟩ := hrel
    by_cases hlt : j < 10
    · have c1 := HC1.out j hlt
      have HN : Hid (∀ y ∈ kNm.take (j + 1), y ∈ kNm.take j ∨ y = kNm[j]'hlt) := fun y hy => by
        rw [List.take_succ_eq_append_getElem hlt] at hy
        rcases List.mem_append.1 hy with hy | hy
        · exact Or.inl hy
        · exact Or.inr (by simpa using hy)
      generalize kNm[j]'hlt = y at c1 HN
      cases hy : (y.toList == s.toList)
      · have HY : Hid _ := hy
        go_wp2
        go_roundw
        case rel =>
          refine ⟨j + 1, by omega, by go_num, fun z hz => ?_, by first | rfl | trivial⟩
          rcases HN.out z hz with h | rfl
          · exact HF.out z h
          · exact HY.out
        case measure => simp [intOf]; omega
      · go_wp2
        go_ret
        exact ⟨rfl, HB1.out⟩
    · obtain rfl : j = 10 := by omega
      exfalso
      obtain ⟨y, hy, h1⟩ := HS.out
      have := HF.out y (by rw [List.take_of_length_le (by decide)]; exact hy)
      rw [h1] at this
      cases this
/-- Which parameters a program allows. -/
def checkN (s : ByteArray) (G : List Vx) (L : List Int) : Int := if isBfs s then srcN G L else if isSp s then (if negE G then 71 else srcN G L) else if isPr s then turnN L else if isCc s || isDeg s then noneN L else 70
theorem negE_no {G : List Vx} (h : ∀ x ∈ evs G, ¬ x.2.w < 0) : negE G = false := by
  unfold negE
  rw [List.any_eq_false]
  intro x hx
  simpa using h x hx
theorem negE_yes {G : List Vx} {x : Int × Ed} (hx : x ∈ evs G) (h : x.2.w < 0) : negE G = true := by
  unfold negE
  rw [List.any_eq_true]
  exact ⟨x, hx, by simpa using h⟩
theorem rfind_n {w : World} {P : Nat → Prop} {ao : Option Addr} {G : List Vx} (n cap : Nat) (x : Int) (hn : n = G.length) (h : VxAt w P ao G) (hl : G.length ≤ 256) :
    Calls Tryz.prog 106 #[.slice ao n cap, .int .i64 x] w fun r w' => r = .returned (.tuple #[.int .i64 (findN (ids G) x), .bool (foundB (ids G) x)]) ∧ Below w.heap.size w w' := by
  subst hn
  exact reffind_any cap x h (by omega)
section
variable {w : World} {P : Nat → Prop} {ao po : Option Addr} {s : ByteArray} {G : List Vx} {L : List Int} {n cap pn pc : Nat}
set_option maxRecDepth 100000 in
set_option maxHeartbeats 2000000 in
theorem rcheck_bfs (h1 : (s.toList == [98, 102, 115]) = true) (hn : n = G.length) (hp : pn = L.length) (hG : VxAt w P ao G) (hL : IsAt w po L) (hl : G.length ≤ 256) :
    Calls Tryz.prog 45 #[.string s, .slice ao n cap, .slice po pn pc] w fun r w' => r = .returned (.int .i64 (srcN G L)) ∧ Below w.heap.size w w' := by
  have e := eq_of_beq h1
  have h2 : (s.toList == [115, 115, 115, 112]) = false := by rw [e]; rfl
  by_cases hp1 : pn = 1
  · obtain ⟨b, off, rfl, hc⟩ := hL.one (by omega)
    have HT : Hid (srcN G L = if foundB (ids G) (L.getD 0 0) = true then 0 else 71) := by
      show _ = _
      unfold srcN
      have : L.length = 1 := by omega
      simp [this]
    generalize L.getD 0 0 = x at hc HT
    subst hp1
    rw [HT.out]
    obtain ⟨fb, hfb⟩ : ∃ fb, foundB (ids G) x = fb := ⟨_, rfl⟩
    have HF : Hid _ := hfb
    rw [hfb]
    have HN : Hid _ := hn
    have HG : Hid _ := hG
    clear hn hp hL hG HT hfb e
    go_enter Tryz.func45, Tryz.ntmps45
    cases fb
    · go_wp2_with (go_at_call 106; refine (rfind_n n cap x HN.out HG.out hl).mono ?_; rintro r w1 ⟨rfl, hb1⟩; rw [HF.out]; have HB1 : Hid _ := hb1; clear hb1)
      go_ret
      exact ⟨by simp, HB1.out⟩
    · go_wp2_with (go_at_call 106; refine (rfind_n n cap x HN.out HG.out hl).mono ?_; rintro r w1 ⟨rfl, hb1⟩; rw [HF.out]; have HB1 : Hid _ := hb1; clear hb1)
      go_loopw [6, 10, 11] (fun _ i _ wr => i = .int .i64 0 ∧ wr = w1) (fun _ _ _ _ => 0)
      case atStart => exact ⟨rfl, rfl⟩
      case round =>
        obtain ⟨rfl, rfl⟩ := hrel
        by_cases h0 : 0 < n
        · go_wp2
          go_ret
          exact ⟨by simp, HB1.out⟩
        · go_wp2
          go_ret
          exact ⟨by simp, HB1.out⟩
  · have HT : Hid (srcN G L = 71) := by
      show _ = _
      unfold srcN
      rw [if_neg (by omega)]
    rw [HT.out]
    have hb : ((pn : Int) != 1) = true := by simp; omega
    clear hn hp hL hG HT e
    go_enter Tryz.func45, Tryz.ntmps45
    go_wp2
    all_goals first | (exfalso; omega) | (go_ret; exact ⟨rfl, Below.refl _ _⟩)
set_option maxRecDepth 100000 in
set_option maxHeartbeats 2000000 in
theorem rcheck_pr (h4 : (s.toList == [112, 97, 103, 101, 114, 97, 110, 107]) = true) (hp : pn = L.length) (hL : IsAt w po L) :
    Calls Tryz.prog 45 #[.string s, .slice ao n cap, .slice po pn pc] w fun r w' => r = .returned (.int .i64 (turnN L)) ∧ Below w.heap.size w w' := by
  have e := eq_of_beq h4
  have h1 : (s.toList == [98, 102, 115]) = false := by rw [e]; rfl
  have h2 : (s.toList == [115, 115, 115, 112]) = false := by rw [e]; rfl
  by_cases hp1 : pn = 1
  · obtain ⟨b, off, rfl, hc⟩ := hL.one (by omega)
    have HT : Hid (turnN L = if 0 ≤ L.getD 0 0 ∧ L.getD 0 0 ≤ 100 then 0 else 71) := by
      show _ = _
      unfold turnN
      have : L.length = 1 := by omega
      simp [this]
    generalize L.getD 0 0 = x at hc HT
    subst hp1
    rw [HT.out]
    clear hp hL HT e
    go_enter Tryz.func45, Tryz.ntmps45
    by_cases g0 : x < 0
    · go_wp2
      all_goals first | (exfalso; omega) | (go_ret; exact ⟨by first | rfl | (rw [if_neg (by omega)]; rfl), Below.refl _ _⟩)
    · by_cases g1 : 100 < x
      · go_wp2
        all_goals first | (exfalso; omega) | (go_ret; exact ⟨by first | rfl | (rw [if_neg (by omega)]; rfl), Below.refl _ _⟩)
      · go_wp2
        all_goals first | (exfalso; omega) | (go_ret; exact ⟨by first | rfl | (rw [if_pos (by omega)]; rfl), Below.refl _ _⟩)
  · have HT : Hid (turnN L = 71) := by
      show _ = _
      unfold turnN
      rw [if_neg (by omega)]
    rw [HT.out]
    have hb : ((pn : Int) != 1) = true := by simp; omega
    clear hp hL HT e
    go_enter Tryz.func45, Tryz.ntmps45
    go_wp2
    all_goals first | (exfalso; omega) | (go_ret; exact ⟨rfl, Below.refl _ _⟩)
set_option maxRecDepth 100000 in
set_option maxHeartbeats 2000000 in
theorem rcheck_none (h1 : (s.toList == [98, 102, 115]) = false) (h2 : (s.toList == [115, 115, 115, 112]) = false) (h4 : (s.toList == [112, 97, 103, 101, 114, 97, 110, 107]) = false) (h5 : (s.toList == [108, 97, 98, 101, 108, 115]) = false) (h6 : (s.toList == [107, 99, 111, 114, 101]) = false) (hk : ∃ y ∈ kNm, (y.toList == s.toList) = true) (hp : pn = L.length) :
    Calls Tryz.prog 45 #[.string s, .slice ao n cap, .slice po pn pc] w fun r w' => r = .returned (.int .i64 (noneN L)) ∧ Below w.heap.size w w' := by
  have HK : Hid _ := hk
  unfold noneN
  rw [← hp]
  by_cases h0 : pn = 0
  · subst h0
    clear hp hk
    go_enter Tryz.func45, Tryz.ntmps45
    go_wp2_with (go_at_call 43; refine (rknown_any s _ HK.out).mono ?_; rintro r w1 ⟨rfl, hb1⟩; have HB1 : Hid _ := hb1; clear hb1)
    go_ret
    exact ⟨by simp, HB1.out⟩
  · have hb : ((pn : Int) != 0) = true := by simp; omega
    clear hp hk
    go_enter Tryz.func45, Tryz.ntmps45
    go_wp2_with (go_at_call 43; refine (rknown_any s _ HK.out).mono ?_; rintro r w1 ⟨rfl, hb1⟩; have HB1 : Hid _ := hb1; clear hb1)
    all_goals first | (exfalso; omega) | (go_ret; exact ⟨by simp, HB1.out⟩)
set_option maxRecDepth 100000 in
set_option maxHeartbeats 4000000 in
theorem rcheck_sp (h2 : (s.toList == [115, 115, 115, 112]) = true) (hn : n = G.length) (hp : pn = L.length) (hG : VxAt w P ao G) (hok : ∀ v ∈ G, v.ok) (hL : IsAt w po L) (hl : G.length ≤ 256) :
    Calls Tryz.prog 45 #[.string s, .slice ao n cap, .slice po pn pc] w fun r w' => r = .returned (.int .i64 (if negE G then 71 else srcN G L)) ∧ Below w.heap.size w w' := by
  have e := eq_of_beq h2
  obtain ⟨R, hR⟩ : ∃ R : Int, (if negE G then 71 else srcN G L) = R := ⟨_, rfl⟩
  have HR1 : Hid (negE G = true → R = 71) := fun h => by rw [← hR, h]; rfl
  have HR0 : Hid (negE G = false → R = srcN G L) := fun h => by rw [← hR, h]; rfl
  rw [hR]
  clear hR
  have h1 : (s.toList == [98, 102, 115]) = false := by rw [e]; rfl
  by_cases hp1 : pn = 1
  · obtain ⟨b, off, rfl, hc⟩ := hL.one (by omega)
    have HT : Hid (srcN G L = if foundB (ids G) (L.getD 0 0) = true then 0 else 71) := by
      show _ = _
      unfold srcN
      have : L.length = 1 := by omega
      simp [this]
    generalize L.getD 0 0 = x at hc HT
    subst hp1
    obtain ⟨fb, hfb⟩ : ∃ fb, foundB (ids G) x = fb := ⟨_, rfl⟩
    rw [hfb] at HT
    rw [HT.out] at HR0
    have HF : Hid _ := hfb
    have HN : Hid _ := hn
    have HG : Hid _ := hG
    have HOk : Hid _ := hok
    have hn6 : n ≤ 256 := by omega
    clear hn hp hL hG HT hfb e hok
    go_enter Tryz.func45, Tryz.ntmps45
    cases fb
    · obtain rfl : R = 71 := by
        cases hN : negE G
        · exact HR0.out hN
        · exact HR1.out hN
      go_wp2_with (go_at_call 106; refine (rfind_n n cap x HN.out HG.out hl).mono ?_; rintro r w1 ⟨rfl, hb1⟩; rw [HF.out]; have HB1 : Hid _ := hb1; clear hb1)
      go_ret
      exact ⟨rfl, HB1.out⟩
    · go_wp2_with (go_at_call 106; refine (rfind_n n cap x HN.out HG.out hl).mono ?_; rintro r w1 ⟨rfl, hb1⟩; rw [HF.out]; have HB1 : Hid _ := hb1; have HG1 : Hid _ := kc_new HG.out hb1; clear hb1)
      go_loopw [6, 10, 11] (fun _ i _ wr => ∃ k : Nat, k ≤ n ∧ i = .int .i64 k ∧ noNeg (evs (G.take k)) ∧ wr = w1) (fun _ i _ _ => n - (intOf i).toNat)
      case atStart => exact ⟨0, Nat.zero_le _, rfl, (fun x hx => (by simp [evs] at hx)), rfl⟩
      case round =>
        obtain ⟨k, hk, rfl, HNo, rfl⟩ := hrel
        by_cases hlt : k < n
        · have hkG : k < G.length := by have := HN.out; omega
          obtain ⟨b', off', rfl, hP, hcs⟩ := HG1.out (by omega)
          obtain ⟨eo, ec, c0, c1, c2, hE⟩ := hcs k hkG
          have HS : Hid _ := evs_snoc G k hkG
          have HM : Hid (∀ e ∈ G[k].es, (G[k].id, e) ∈ evs G) := fun e he => by
            unfold evs
            exact List.mem_flatMap.2 ⟨G[k], List.getElem_mem hkG, List.mem_map.2 ⟨e, he, rfl⟩⟩
          have hlen : G[k].es.length ≤ 9223372036854775807 := Nat.le_trans (HOk.out _ (List.getElem_mem hkG)).len (by decide)
          have HE : Hid _ := hE
          generalize G[k] = y at c0 c1 c2 HS HM HE hlen
          have HNk : Hid (noNeg (evs (G.take k))) := HNo
          clear hcs hE HNo
          go_wp2
          go_loopw [6, 11] (fun _ j wx => ∃ m : Nat, m ≤ y.es.length ∧ j = .int .i64 m ∧ noNeg ((y.es.take m).map fun e => (y.id, e)) ∧ wx = wr) (fun _ j _ => y.es.length - (intOf j).toNat)
          case atStart => exact ⟨0, Nat.zero_le _, rfl, (fun x hx => (by simp at hx)), rfl⟩
          case round =>
            obtain ⟨m, hm, rfl, HNm, rfl⟩ := hrel
            by_cases hml : m < y.es.length
            · obtain ⟨be, oe, rfl, _, hce⟩ := HE.out (by omega)
              obtain ⟨_, d1⟩ := hce m hml
              have HSm : Hid _ := take_snoc_map hml y.id
              have HMm : Hid _ := HM.out y.es[m] (List.getElem_mem hml)
              generalize y.es[m] = z at d1 HSm HMm
              have HNm2 : Hid (noNeg ((y.es.take m).map fun e => (y.id, e))) := HNm
              clear hce HNm
              by_cases hz : z.w < 0
              · obtain rfl : R = 71 := HR1.out (negE_yes HMm.out hz)
                have hzb : decide (z.w < 0) = true := decide_eq_true hz
                go_wp2
                all_goals first | (exfalso; omega) | (go_ret; exact ⟨rfl, HB1.out⟩)
              · go_wp2
                go_roundw
                case rel =>
                  refine ⟨m + 1, by omega, by go_num, ?_, by first | rfl | trivial⟩
                  rw [HSm.out]
                  intro q hq
                  rcases List.mem_append.1 hq with hq | hq
                  · exact HNm2.out q hq
                  · obtain rfl : q = (y.id, z) := by simpa using hq
                    exact by first | exact hz | exact Int.not_lt.2 hz
                case measure => simp [intOf]; omega
            · obtain rfl : m = y.es.length := by omega
              rw [List.take_length] at HNm
              have HNm2 : Hid (noNeg (y.es.map fun e => (y.id, e))) := HNm
              clear HNm
              go_wp2
              go_roundw
              case rel =>
                refine ⟨k + 1, by omega, by go_num, ?_, by first | rfl | trivial⟩
                rw [HS.out]
                intro q hq
                rcases List.mem_append.1 hq with hq | hq
                · exact HNk.out q hq
                · exact HNm2.out q hq
              case measure => simp [intOf]; omega
        · obtain rfl : k = n := by omega
          obtain rfl : R = 0 := HR0.out (negE_no (by rw [HN.out, List.take_length] at HNo; exact HNo))
          clear HNo
          go_wp2
          go_ret
          exact ⟨rfl, HB1.out⟩
  · have HT : Hid (srcN G L = 71) := by
      show _ = _
      unfold srcN
      rw [if_neg (by omega)]
    obtain rfl : R = 71 := by
      cases hN : negE G
      · rw [HR0.out hN, HT.out]
      · exact HR1.out hN
    have hb : ((pn : Int) != 1) = true := by simp; omega
    clear hn hp hL hG HT e hok
    go_enter Tryz.func45, Tryz.ntmps45
    go_wp2
    all_goals first | (exfalso; omega) | (go_ret; exact ⟨rfl, Below.refl _ _⟩)
end
end Go.Proofs.YtidghoipmggklaaGreat
end
