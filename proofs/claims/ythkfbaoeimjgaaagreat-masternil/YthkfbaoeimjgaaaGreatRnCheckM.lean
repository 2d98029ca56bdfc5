import Derived.Test.YthkfbaoeimjgaaaGreatGrRefM
import Derived.Deep.Cut
import Derived.Deep.DeepCutAuto
import Derived.Test.YthkfbaoeimjgaaaGreatGrThereM
import Derived.Test.YthkfbaoeimjgaaaGreatGrWalk2M
import Derived.Test.YthkfbaoeimjgaaaGreatGrWalk1M
import Derived.Test.YthkfbaoeimjgaaaGreatNumM
import Derived.Test.YthkfbaoeimjgaaaGreatGrDataM
import Derived.Test.YthkfbaoeimjgaaaGreatProg
import Derived.WalkKit
import Derived.OwnWalk
import Derived.Maps.AppendAt
import Derived.Below
import Derived.Laws.Tables
import Derived.Laws.OwnMore
section
/- graph.Part, the document's Part, and copies: slices.Clone of edges, cloneVertex, graph.Clone. -/
namespace Go.Proofs.YthkfbaoeimjgaaaGreat
open Go.RowKit
/-- A block of plain cells, none of them frozen. -/
def Soft (w : World) (k : Nat) : Prop := ∃ cs t, w.heap[k]? = some (.cells cs t (0, 0))
theorem Soft.keep {w w' : World} {k : Nat} {S : Nat → Prop} (h : Soft w k) (f : Fr w w' S) (hn : ¬ S k) : Soft w' k := by
  obtain ⟨cs, t, h⟩ := h
  exact ⟨cs, t, (f.block k (lt_of_block h) hn).trans h⟩
theorem Soft.new {w w' : World} {k : Nat} (h : Soft w k) (hb : Below w.heap.size w w') : Soft w' k := by
  obtain ⟨cs, t, h⟩ := h
  exact ⟨cs, t, (hb.block k (lt_of_block h)).trans h⟩
theorem soft_own {w : World} {base : Nat} {e : TypeId} {size : Nat} {v : Value} {n k : Nat} {xs : List Value} (h : w.ownsRow base e size v n xs) (hk : v.ownBlock = some k) : Soft w k := by
  rcases h.2 with ⟨h1, _⟩ | ⟨g, cap, cur, h1, _, hg, _⟩
  · rw [h1] at hk; cases hk
  · rw [h1] at hk
    cases hk
    exact ⟨cur, e, hg⟩
theorem ecs_len (L : List Ed) : (ecs L).length = L.length * 2 := by
  induction L with
  | nil => rfl
  | cons y L ih => simp only [ecs, List.flatMap_cons, List.length_append, List.length_cons] at *; simp at *; omega
theorem ecs_one (L : List Ed) : ∀ u ∈ ecs L, u.oneCell' = true := by
  intro u hu
  unfold ecs at hu
  obtain ⟨y, _, hy⟩ := List.mem_flatMap.1 hu
  simp at hy
  rcases hy with rfl | rfl <;> rfl
theorem ecs_cell {w : World} {P : Nat → Prop} {ad : Addr} {L : List Ed} (h : EdAt w P (some ad) L) : ∀ j u, (ecs L)[j]? = some u → w.cell? (ad.add j) = some u := by
  intro j u hu
  have hj : j < (ecs L).length := (List.getElem?_eq_some_iff.1 hu).1
  rw [ecs_len] at hj
  obtain ⟨b, off, e, _, hc⟩ := h (by omega)
  cases e
  have hadd : (⟨b, off, none⟩ : Addr).add j = ⟨b, off + j, none⟩ := by unfold Addr.add; split <;> simp_all
  rw [hadd]
  have hi : j / 2 < L.length := by omega
  have h1 := ecs_at L (j / 2) hi
  have h2 := hc (j / 2) hi
  rcases Nat.mod_two_eq_zero_or_one j with h0 | h0
  · rw [show j / 2 * 2 = j by omega] at h1 h2
    rw [h1.1] at hu
    cases hu
    exact h2.1
  · rw [show j / 2 * 2 + 1 = j by omega] at h1
    rw [show off + j / 2 * 2 + 1 = off + j by omega] at h2
    rw [h1.2] at hu
    cases hu
    exact h2.2
theorem nil_eq (w : World) (n c : Nat) : (binOp .eql 112 (.slice none n c) (.slice none 0 0)).run Tryz.prog w = .ok (.bool true) w := by
  have h : (Op.equalIn 10000 112 (.slice none n c) (.slice none 0 0)).run Tryz.prog w = .ok true w := by
    unfold Op.equalIn
    simp [run_underlying Tryz.underlying112]
  simp only [binOp]
  simp [Op.equal, Op.maxDepth, h]
theorem nil_ne (w : World) (ad : Addr) (n c : Nat) : (binOp .eql 112 (.slice (some ad) n c) (.slice none 0 0)).run Tryz.prog w = .ok (.bool false) w := by
  have h : (Op.equalIn 10000 112 (.slice (some ad) n c) (.slice none 0 0)).run Tryz.prog w = .ok false w := by
    unfold Op.equalIn
    simp [run_underlying Tryz.underlying112]
  simp only [binOp]
  simp [Op.equal, Op.maxDepth, h]
set_option maxRecDepth 100000 in
theorem clones_any {w : World} {P : Nat → Prop} {ao : Option Addr} (L : List Ed) (cap : Nat) (h : EdAt w P ao L) (hl : L.length ≤ 8796093022208) :
    Calls Tryz.prog 226 #[.slice ao L.length cap] w fun r w' => ∃ bo c, r = .returned (.slice bo L.length c) ∧ EdAt w' (fun k => w.heap.size ≤ k ∧ Soft w' k) bo L ∧ Below w.heap.size w w' := by
  obtain ⟨i0, hi, hz0, hz1, hz2⟩ := info_parts infoEdge
  cases ao with
  | none =>
    have hL : L = [] := List.eq_nil_of_length_eq_zero (Nat.eq_zero_of_not_pos (fun hp => by obtain ⟨b, off, e, _⟩ := h hp; cases e))
    subst hL
    have hq := nil_eq
    go_enter Tryz.func226, Tryz.ntmps226
    go_wp2
    go_ret
    exact ⟨none, 0, rfl, fun hp => absurd hp (by simp), Below.refl _ _⟩
  | some ad =>
    have HN : Hid (∀ j u, (ecs L)[j]? = some u → (w.alloc (.cells #[] 111)).cell? (ad.add j) = some u) := ecs_cell (h.new (one_new _ _))
    have HO : Hid _ := own_empty (w := w) (base := w.heap.size) (t := 111) (size := 2) (Nat.le_refl _)
    clear h
    have hq := nil_ne
    go_enter Tryz.func226, Tryz.ntmps226
    go_wp2_with (at_builtin; refine wpList_append_own_at _ rfl _ _ 112 rfl w.heap.size 111 i0 (.agg #[.int .i64 0, .int .i64 0]) 2 16 Tryz.underlying112 hi hz0 hz1 hz2 rfl (by decide) _ _ _ rfl HO.out ad L.length cap (ecs L) rfl (ecs_len L) HN.out (ecs_one L) (by unfold maxLen; omega) (by omega) (by simp) ?_)
    intro v' w1 hown hgrow _ _
    obtain ⟨bo, m, c, rfl⟩ := own_any hown
    obtain ⟨hm, hE⟩ := own_eds hown
    subst hm
    have hb : Below w.heap.size w w1 := (one_new w _).trans ((Fr.grown (S := fun k => k = w.heap.size) hgrow (fun k hk => by cases hk; rfl)).below (by simp) (fun k hk => by omega))
    go_wp2
    go_ret
    exact ⟨bo, c, rfl, hE.mono (fun k _ hk => ⟨hk.1, soft_own hown hk.2⟩), hb⟩
theorem cl_set3 {w : World} {b : Nat} {t : TypeId} {u0 u1 u2 : Value} (h : w.heap[b]? = some (.cells #[u0, u1, u2] t (0, 0))) (x y z : Value) : (((w.setCell ⟨b, 0, none⟩ x).setCell ⟨b, 1, none⟩ y).setCell ⟨b, 2, none⟩ z).heap[b]? = some (.cells #[x, y, z] t (0, 0)) := by
  have hs : ∀ {w : World} {i : Nat} {cs : Array Value} (v : Value), w.heap[b]? = some (.cells cs t (0, 0)) → (w.setCell ⟨b, i, none⟩ v).heap[b]? = some (.cells (cs.setIfInBounds i v) t (0, 0)) := by
    intro w i cs v h
    have hlt := lt_of_block h
    have h' : w.heap[b] = .cells cs t (0, 0) := by simpa [Array.getElem?_eq_getElem hlt] using h
    show (w.heap.modify b _)[b]? = _
    rw [Array.getElem?_eq_getElem (by simpa using hlt), Array.getElem_modify_self, h']
    rfl
  exact hs z (hs y (hs x h))
theorem sizeVx : (Tryz.prog.info? 114).map (·.size) = some 3 := by kernel_rfl
set_option maxRecDepth 100000 in
theorem clonev_any {w : World} {P : Nat → Prop} {eo : Option Addr} (x : Vx) (ec : Nat) (h : EdAt w P eo x.es) (hl : x.es.length ≤ 8796093022208) :
    Calls Tryz.prog 185 #[.agg #[.int .i64 x.id, .int .i64 x.val, .slice eo x.es.length ec]] w fun r w' => ∃ bo c, r = .returned (.agg #[.int .i64 x.id, .int .i64 x.val, .slice bo x.es.length c]) ∧ EdAt w' (fun k => w.heap.size ≤ k ∧ Soft w' k) bo x.es ∧ Below w.heap.size w w' := by
  have HE : Hid (∀ W, Below w.heap.size w W → EdAt W P eo x.es) := fun W hb => h.new hb
  have HB : Hid (Below w.heap.size w ((w.alloc (.cells #[.int .i64 x.id, .int .i64 x.val, .slice eo x.es.length ec] 114)).alloc (.cells #[.int .i64 0, .int .i64 0, .slice none 0 0] 114))) := b2 _ _ _
  have X1 : Hid (((w.alloc (.cells #[.int .i64 x.id, .int .i64 x.val, .slice eo x.es.length ec] 114)).alloc (.cells #[.int .i64 0, .int .i64 0, .slice none 0 0] 114)).heap[w.heap.size]? = some (.cells #[.int .i64 x.id, .int .i64 x.val, .slice eo x.es.length ec] 114 (0, 0))) := (Below.heap_alloc _ _ _ (by simp)).trans (heap_alloc_new _ _)
  have X2 : Hid (((w.alloc (.cells #[.int .i64 x.id, .int .i64 x.val, .slice eo x.es.length ec] 114)).alloc (.cells #[.int .i64 0, .int .i64 0, .slice none 0 0] 114)).heap[w.heap.size + 1]? = some (.cells #[.int .i64 0, .int .i64 0, .slice none 0 0] 114 (0, 0))) := by
    have := heap_alloc_new (w.alloc (.cells #[.int .i64 x.id, .int .i64 x.val, .slice eo x.es.length ec] 114)) (.cells #[.int .i64 0, .int .i64 0, .slice none 0 0] 114)
    rw [World.size_alloc] at this
    exact this
  clear h
  go_enter Tryz.func185, Tryz.ntmps185
  go_wp2_with (go_at_call 226; refine (clones_any x.es ec (HE.out _ HB.out) hl).mono ?_; rintro r w1 ⟨bo, c, rfl, hE1, hb1⟩; have y1 := (hb1.block _ (lt_of_block X1.out)).trans X1.out; have y2 := (hb1.block _ (lt_of_block X2.out)).trans X2.out; obtain ⟨p0, p1, p2⟩ := box3 y1; have p3 := froz (o := 2) y1; obtain ⟨q0, q1, q2⟩ := box3 y2; have q3 := froz (o := 0) y2; have q4 := froz (o := 1) y2; have q5 := froz (o := 2) y2; have Y1 : Hid _ := y1; have Y2 : Hid _ := y2; clear y1 y2)
  have hB1 : Below w.heap.size w w1 := HB.out.trans (hb1.mono HB.out.size)
  generalize hW : World.setCell _ _ _ = W
  have f1 : Fr w1 W (fun k => k = w.heap.size ∨ k = w.heap.size + 1) := by
    rw [← hW]
    have hs1 : ∀ (w' : World) (o : Nat) (u : Value), Fr w' (w'.setCell ⟨w.heap.size, o, none⟩ u) (fun k => k = w.heap.size ∨ k = w.heap.size + 1) := fun w' o u => Fr.setCell (S := fun k => k = w.heap.size ∨ k = w.heap.size + 1) w' ⟨w.heap.size, o, none⟩ u (Or.inl rfl)
    have hs2 : ∀ (w' : World) (o : Nat) (u : Value), Fr w' (w'.setCell ⟨w.heap.size + 1, o, none⟩ u) (fun k => k = w.heap.size ∨ k = w.heap.size + 1) := fun w' o u => Fr.setCell (S := fun k => k = w.heap.size ∨ k = w.heap.size + 1) w' ⟨w.heap.size + 1, o, none⟩ u (Or.inr rfl)
    exact (((hs1 _ _ _).trans (hs2 _ _ _) (fun _ _ h => h)).trans (hs2 _ _ _) (fun _ _ h => h)).trans (hs2 _ _ _) (fun _ _ h => h)
  have b1 : W.heap[w.heap.size + 1]? = some (.cells #[.int .i64 x.id, .int .i64 x.val, .slice bo x.es.length c] 114 (0, 0)) := by
    rw [← hW]
    have h0 : (w1.setCell ⟨w.heap.size, 2, none⟩ (.slice bo x.es.length c)).heap[w.heap.size + 1]? = some (.cells #[.int .i64 0, .int .i64 0, .slice none 0 0] 114 (0, 0)) := (Below.heap_setCell w1 ⟨w.heap.size, 2, none⟩ _ (w.heap.size + 1) (by show w.heap.size + 1 ≠ w.heap.size; omega)).trans Y2.out
    exact cl_set3 h0 _ _ _
  refine bodyPost_ret (v := .agg #[.int .i64 x.id, .int .i64 x.val, .slice bo x.es.length c]) (results_cell_row Tryz.results185 _ _ (w.heap.size + 1) 114 _ (0, 0) _ rfl b1 Tryz.underlying114 rfl sizeVx) rfl ?_
  have hz1 := lt_of_block X2.out
  exact ⟨bo, c, rfl, hE1.kept f1 (fun k hk hp => ⟨by have := hp.1; omega, by have := HB.out.size; have := hp.1; omega, hp.2.keep f1 (by have := hp.1; omega)⟩), hB1.trans (f1.below hB1.size (fun k hk => by omega))⟩
end Go.Proofs.YthkfbaoeimjgaaaGreat
end

section
/- graph.Clone: the same graph, in new memory. -/
namespace Go.Proofs.YthkfbaoeimjgaaaGreat
open Go.RowKit
theorem cl_one {W : World} {b : Nat} {t : TypeId} {u0 : Value} (h : W.heap[b]? = some (.cells #[u0] t (0, 0))) : W.cell? ⟨b, 0, none⟩ = some u0 ∧ W.frozen? ⟨b, 0, none⟩ = false := by
  refine ⟨?_, froz h⟩
  simp [World.cell?, h]
theorem cl_set1 {w : World} {b : Nat} {t : TypeId} {u0 : Value} (h : w.heap[b]? = some (.cells #[u0] t (0, 0))) (x : Value) : (w.setCell ⟨b, 0, none⟩ x).heap[b]? = some (.cells #[x] t (0, 0)) := by
  have hlt := lt_of_block h
  have h' : w.heap[b] = .cells #[u0] t (0, 0) := by simpa [Array.getElem?_eq_getElem hlt] using h
  show (w.heap.modify b _)[b]? = _
  rw [Array.getElem?_eq_getElem (by simpa using hlt), Array.getElem_modify_self, h']
  rfl
theorem sizeGr : (Tryz.prog.info? 24).map (·.size) = some 1 := by kernel_rfl
set_option maxRecDepth 100000 in
set_option maxHeartbeats 1000000 in
theorem clone_any {w : World} {P : Nat → Prop} {ao : Option Addr} (G : List Vx) (cap : Nat) (h : VxAt w P ao G) (hok : ∀ v ∈ G, v.ok) (hl : G.length * 40 ≤ 140737488355328) :
    Calls Tryz.prog 138 #[.agg #[.slice ao G.length cap]] w fun r w' => ∃ bo c, r = .returned (.agg #[.slice bo G.length c]) ∧ VxAt w' (fun k => w.heap.size ≤ k) bo G ∧ Below w.heap.size w w' := by
  obtain ⟨i0, hi, hz0, hz1, hz2⟩ := info_parts infoVx
  have HG : Hid (VxAt w P ao G) := h
  have HOk : Hid (∀ v ∈ G, v.ok) := hok
  clear h hok
  go_enter Tryz.func138, Tryz.ntmps138
  go_wp2
  go_loopw [3, 9] (fun u i wr => ∃ (j : Nat) (fo : Option Addr) (m c : Nat), j ≤ G.length ∧ u = .slice fo m c ∧ i = .int .i64 j ∧ VRow wr (w.heap.size + 1 + 1) 114 (.slice fo m c) (G.take j) ∧ wr.heap[w.heap.size + 1]? = some (.cells #[.slice none 0 0] 24 (0, 0)) ∧ Below w.heap.size w wr) (fun _ i _ => G.length - (intOf i).toNat)
  case atStart =>
    refine ⟨0, none, 0, 0, Nat.zero_le _, rfl, rfl, VRow.nil _ _ _, ?_, b2 _ _ _⟩
    have := heap_alloc_new (w.alloc (.cells #[.slice ao G.length cap] 24)) (.cells #[.slice none 0 0] 24)
    rw [World.size_alloc] at this
    exact this
  case round =>
    obtain ⟨j, fo, m, c, hj, rfl, rfl, hR, hq, hb⟩ := hrel
    by_cases hlt : j < G.length
    · obtain ⟨b, off, rfl, hP, hc⟩ := HG.out (by omega)
      obtain ⟨eo, ec, e0, e1, e2, e3⟩ := hc j hlt
      have hbb := lt_cell e0
      have d0 := (hb.cell (p := ⟨b, off + j * 3, none⟩) hbb).trans e0
      have d1 := (hb.cell (p := ⟨b, off + j * 3 + 1, none⟩) hbb).trans e1
      have d2 := (hb.cell (p := ⟨b, off + j * 3 + 2, none⟩) hbb).trans e2
      have HE : Hid (EdAt w P eo G[j].es) := e3
      have hlen : G[j].es.length ≤ 8796093022208 := (HOk.out _ (List.getElem_mem hlt)).len
      have HS : Hid (G.take (j + 1) = G.take j ++ [G[j]]) := List.take_succ_eq_append_getElem hlt
      have HLg : Hid ((G.take j).length = j) := by show _ = _; rw [List.length_take]; omega
      generalize G[j] = y at d0 d1 d2 HE hlen HS
      have HR : Hid _ := hR
      have HQ : Hid _ := hq
      have HB : Hid _ := hb
      have lq := lt_of_block hq
      clear e0 e1 e2 e3 hc hR hq hb
      go_wp2_with (first
        | (go_at_call 185; refine (clonev_any y ec (EdAt.new HE.out (HB.out.alloc HB.out.size _)) hlen).mono ?_; rintro r w1 ⟨bo, bc', rfl, hE1, hb1⟩; have hR1 := VRow.new (VRow.new HR.out (one_new wr _)) hb1; have hE4 : EdAt (w1.alloc (.cells #[.int .i64 y.id, .int .i64 y.val, .slice bo y.es.length bc'] 114)) (fun k => w.heap.size + 1 + 1 ≤ k ∧ (Value.slice fo m c).ownBlock ≠ some k) bo y.es := (hE1.new (one_new _ _)).mono (fun k _ hk => ⟨by have := hk.1; rw [World.size_alloc] at this; omega, fun e => by have := (VRow.lt HR.out k e).2; have := hk.1; rw [World.size_alloc] at this; omega⟩); obtain ⟨M, ho, hgo⟩ := (hR1.new (one_new w1 (.cells #[.int .i64 y.id, .int .i64 y.val, .slice bo y.es.length bc'] 114))).app (ec := bc') hE4; have HGo : Hid _ := hgo; have lw1 := hb1.size; have hq1 := (hb1.block _ (by rw [World.size_alloc]; omega)).trans ((Below.heap_alloc wr _ _ lq).trans HQ.out); have HQ1 : Hid _ := hq1; have HB1 : Hid _ := (HB.out.alloc HB.out.size _).trans (hb1.mono (by rw [World.size_alloc]; have := HB.out.size; omega)); clear hgo hE4 hq1)
        | (at_builtin; refine wpList_append_own_at _ rfl _ _ 22 rfl (w.heap.size + 1 + 1) 114 i0 (.agg #[.int .i64 0, .int .i64 0, .slice none 0 0]) 3 40 Tryz.underlying22 hi hz0 hz1 hz2 rfl (by decide) _ _ _ rfl ho ⟨w1.heap.size, 0, none⟩ 1 1 [.int .i64 y.id, .int .i64 y.val, .slice bo y.es.length bc'] rfl rfl (three_new (heap_alloc_new _ _)) (by intro u hu; simp at hu; rcases hu with rfl | rfl | rfl <;> rfl) (by rw [HLg.out]; unfold maxLen; omega) (by rw [HLg.out]; omega) (by rw [World.size_alloc] at lw1; simp; omega) ?_))
      intro v' w4 hown hgrow _ hat
      have hR4 := HGo.out w4 v' (by rw [HLg.out]; exact hown) hgrow (by simpa using hat)
      have f4 : Fr (w1.alloc (.cells #[.int .i64 y.id, .int .i64 y.val, .slice bo y.es.length bc'] 114)) w4 (fun k => Value.ownBlock (.slice fo m c) = some k) := Fr.grown hgrow (fun k hk => hk)
      have hB4 : Below w.heap.size w w4 := (HB1.out.alloc HB1.out.size _).trans (f4.below (HB1.out.alloc HB1.out.size _).size (fun k hk => by have := (VRow.lt HR.out k hk).1; omega))
      have hq4 := (f4.block _ (by rw [World.size_alloc]; have := lt_of_block HQ1.out; omega) (fun hk => by have := (VRow.lt HR.out _ hk).1; omega)).trans ((Below.heap_alloc w1 _ _ (lt_of_block HQ1.out)).trans HQ1.out)
      obtain ⟨ao', m', c', rfl⟩ := own_any hown
      have HR4 : Hid _ := hR4
      have HB4 : Hid _ := hB4
      have HQ4 : Hid _ := hq4
      clear hR4 hB4 hq4 hown hgrow hat f4 ho hR1 hE1 hb1
      go_wp2
      go_roundw
      case rel => exact ⟨j + 1, _, _, _, by omega, rfl, by go_num, by rw [HS.out]; exact HR4.out, HQ4.out, HB4.out⟩
      case measure => simp [intOf]; omega
    · obtain rfl : j = G.length := by omega
      rw [List.take_length] at hR
      obtain ⟨hm, hVx⟩ := hR.at_
      subst hm
      obtain ⟨p0, p1⟩ := cl_one hq
      go_wp2
      refine bodyPost_ret (v := .agg #[.slice fo G.length c]) (results_cell_row Tryz.results138 _ _ (w.heap.size + 1) 24 _ (0, 0) _ rfl (cl_set1 hq _) Tryz.underlying24 rfl sizeGr) rfl ?_
      exact ⟨fo, c, rfl, hVx.kept (Fr.setCell (S := fun k => k = w.heap.size + 1) wr ⟨w.heap.size + 1, 0, none⟩ _ rfl) (fun k hk hp => ⟨by omega, by omega⟩), hb.trans ((Fr.setCell (S := fun k => k = w.heap.size + 1) wr ⟨w.heap.size + 1, 0, none⟩ _ rfl).below hb.size (fun k hk => by omega))⟩
end Go.Proofs.YthkfbaoeimjgaaaGreat
end

section
/- graph.All: the iterator over a copy's edges. -/
namespace Go.Proofs.YthkfbaoeimjgaaaGreat
open Go.RowKit Go.Shelf
attribute [local go_sem] Oper.semAt_some
theorem ga_one (w : World) (o : Obj) : Below w.heap.size w (w.alloc o) := (Below.refl _ _).alloc (Nat.le_refl _) _
theorem ga_new {w w' : World} {P : Nat → Prop} {ao : Option Addr} {G : List Vx} (h : VxAt w P ao G) (hb : Below w.heap.size w w') : VxAt w' P ao G := h.kept (Fr.ofBelow hb (fun _ => False)) (fun _ _ hp => ⟨fun h => h, hp⟩)
theorem ga_cell {W : World} {b : Nat} {t : TypeId} {u : Value} (h : W.heap[b]? = some (.cells #[u] t (0, 0))) : W.cell? ⟨b, 0, none⟩ = some u := by simp [World.cell?, h]
theorem allG_fn {w : World} {P : Nat → Prop} {ao : Option Addr} (G : List Vx) (cap : Nat) (h : VxAt w P ao G) (hok : ∀ v ∈ G, v.ok) (hl : G.length * 40 ≤ 140737488355328) :
    Calls Tryz.prog 241 #[.agg #[.slice ao G.length cap]] w fun r w' => ∃ Bs fo c, r = .returned (.func (.func 238) #[] #[.pointer (some ⟨Bs, 0, none⟩)]) ∧ w'.cell? ⟨Bs, 0, none⟩ = some (.slice fo G.length c) ∧ VxAt w' (fun k => k < w'.heap.size) fo G ∧ Bs < w'.heap.size ∧ Below w.heap.size w w' := by
  have HG := ga_new h (ga_one w (.cells #[.slice ao G.length cap] 24))
  have HH : Hid _ := HG
  have HOk : Hid _ := hok
  clear h HG hok
  go_enter Tryz.func241, Tryz.ntmps241
  go_wp2_with (first
    | (go_at_call 138; refine (clone_any G cap HH.out HOk.out hl).mono ?_; rintro r w1 ⟨bo, c, rfl, hV, hb1⟩)
    | (go_at_call 194; refine (edges_fn _ _ _).mono ?_; rintro r w2 ⟨rfl, rfl⟩))
  go_ret
  have hs := hb1.size
  rw [World.size_alloc] at hs
  refine ⟨w1.heap.size, bo, c, rfl, ga_cell (heap_alloc_new _ _), ?_, by simp, ?_⟩
  · exact (ga_new hV (ga_one _ _)).kept (Fr.refl _ (fun _ => False)) (fun k hk hp => ⟨fun h => h, hk⟩)
  · exact ((ga_one w _).trans (hb1.mono (by rw [World.size_alloc]; omega))).alloc (by omega) _
/-- Is there an edge with a weight below 0? -/
def negE (G : List Vx) : Bool := (evs G).any fun x => decide (x.2.w < 0)
def noNeg (l : List (Int × Ed)) : Prop := ∀ x ∈ l, ¬ x.2.w < 0
def someNeg (l : List (Int × Ed)) : Prop := ∃ x ∈ l, x.2.w < 0
set_option maxRecDepth 100000 in
set_option maxHeartbeats 4000000 in
theorem below0_any {w : World} {P : Nat → Prop} {ao : Option Addr} {G : List Vx} (cap : Nat) (h : VxAt w P ao G) (hok : ∀ v ∈ G, v.ok) (hl : G.length ≤ 256) :
    Calls Tryz.prog 197 #[.agg #[.slice ao G.length cap]] w fun r w' => r = .returned (.bool (negE G)) ∧ Below w.heap.size w w' := by
  refine (callsIn_wide (n := 5)).1 ?_
  refine callsIn_of_wp_marks Tryz.func197 rfl trivial ?_ rfl
  simp only [Tryz.ntmps197, List.size_toArray, List.length_cons, List.length_nil, Nat.reduceAdd, Nat.reduceSub, Array.replicate_succ, Array.replicate_zero, List.push_toArray, List.append_toArray, List.nil_append, List.cons_append]
  obtain ⟨W1, hW1⟩ : ∃ W1, (w.alloc (.cells #[.slice ao G.length cap] 24)).alloc (.cells #[.bool false] 4) = W1 := ⟨_, rfl⟩
  have hB1 : Below w.heap.size w W1 := by rw [← hW1]; exact (ga_one _ _).trans ((ga_one _ _).mono (by simp))
  have hG1 : W1.cell? ⟨w.heap.size, 0, none⟩ = some (.slice ao G.length cap) := by
    rw [← hW1]
    exact ga_cell (((ga_one _ _).block _ (by simp)).trans (heap_alloc_new _ _))
  have bR0 : Boxed W1 (w.heap.size + 1) 4 (.bool false) := by
    rw [← hW1]
    have := Boxed.new (w.alloc (.cells #[.slice ao G.length cap] 24)) 4 (.bool false)
    rw [World.size_alloc] at this
    exact this
  have HV1 : Hid _ := ga_new h hB1
  gi_wp2_with (refine ⟨trivial, ?_⟩; gi_at_call 241; refine (callsIn_wide.2 (allG_fn G cap HV1.out hok (by omega))).mono ?_; rintro r w1 ⟨Bs, fo, c, rfl, hBs, hV2, hBl, hb1⟩)
  have bR1 : Boxed w1 (w.heap.size + 1) 4 (.bool false) := (hb1.block _ bR0.lt).trans bR0
  have hbw : Below w.heap.size w w1 := hB1.trans (hb1.mono hB1.size)
  have hsz1 : w.heap.size + 2 ≤ w1.heap.size := by have := hb1.size; have : W1.heap.size = w.heap.size + 2 := (by rw [← hW1]; simp); omega
  clear hW1 hG1 bR0 HV1 h hb1 hB1
  refine wpIn_rangeFunc_ownH rfl (by decide) (gf := 238) (lb := #[.pointer (some ⟨Bs, 0, none⟩)]) rfl trivial (enters_of Tryz.func238 (by kernel_rfl) rfl)
    (edges_stops Fence.wide 4 trivial rfl (by decide) Bs w1.heap.size fo c G (Nat.le_trans hl (by decide)) hok w1 hBl (Nat.le_refl _) hBs hV2) Kc.trans (Kc.put (Nat.le_refl _)) (Below.refl _ _) (fun _ => rfl)
    (fun pre W => (Boxed W (w.heap.size + 1) 4 (.bool false) ∧ noNeg pre) ∧ Below w1.heap.size w1 W)
    (fun c pre W => (c = .ret ∧ someNeg pre ∧ Boxed W (w.heap.size + 1) 4 (.bool true)) ∧ Below w.heap.size w W)
    (OwnFrom.and (Own.from (fun s A B row hs hg hr => ⟨boxed_keep hs.1 hg hr, hs.2⟩) _) (ownFrom_below (Nat.le_refl _) (Nat.le_refl _)))
    (fun c => OwnFrom.and (Own.from (fun s A B row hs hg hr => ⟨hs.1, hs.2.1, boxed_keep hs.2.2 hg hr⟩) _) (ownFrom_below (Nat.le_refl _) (by omega)))
    ⟨⟨bR1, (fun x hx => (by simp at hx))⟩, Below.refl _ _⟩
    (fun x a' W => ∃ Bx, w.heap.size + 1 < Bx ∧ W.heap[Bx]? = some (.cells #[.int .i64 x.2.t, .int .i64 x.2.w] 111 (0, 0)) ∧ a' = { tmps := #[.agg #[.slice ao G.length cap], .pointer (some ⟨w.heap.size, 0, none⟩), .pointer (some ⟨w.heap.size + 1, 0, none⟩), undef, .pointer (some ⟨Bx, 0, none⟩), .agg #[.slice ao G.length cap], .func (.func 238) #[] #[.pointer (some ⟨Bs, 0, none⟩)], .int .i64 x.1, .agg #[.int .i64 x.2.t, .int .i64 x.2.w], undef, undef, undef], defers := [] })
    (fun x a' _ A B row hs hg hr => by
      obtain ⟨Bx, h1, h2, h3⟩ := hs
      exact ⟨Bx, h1, blk_own Bx _ rfl () A B row h2 hg (fun r e => (hr r e).2), h3⟩) ?assign ?body ?done ?stop
  case assign =>
    rintro l pre x W K ⟨⟨bR, hall⟩, hB⟩ hK
    dsimp only [encE]
    gi_wp2
    exact hK _ _ ((KeepsOthers.alloc _ _).from _) (Kc.ofNew ((Below.refl _ _).alloc (Nat.le_refl _) _) hB.size) ⟨⟨bR.alloc _, hall⟩, hB.alloc hB.size _⟩ ⟨W.heap.size, bR.lt, heap_alloc_new _ _, rfl⟩
  case body =>
    rintro l pre x a' W hl0 ⟨r, hr0⟩ ⟨⟨bR, hall⟩, hB⟩ ⟨Bx, hBx, bX, rfl⟩ _
    obtain ⟨q0, q1⟩ := box2 bX
    have cR := bR.cell
    have fR := bR.frozen
    by_cases hx : x.2.w < 0
    · gi_wp2
      exact ⟨(KeepsOthers.setCell _ _ _).from _, ⟨rfl, ⟨x, by simp, hx⟩, bR.set _⟩, (hbw.trans (hB.mono hbw.size)).setCell (p := ⟨w.heap.size + 1, 0, none⟩) (by simp) _⟩
    · gi_wp2
      refine ⟨(KeepsOthers.refl _).from _, Kc.refl _ _ _, ⟨bR, fun z hz => ?_⟩, hB⟩
      rcases List.mem_append.1 hz with hz | hz
      · exact hall z hz
      · obtain rfl : z = x := by simpa using hz
        exact Int.not_lt.2 hx
  case done =>
    rintro D ys W hD rfl ⟨⟨bR, hall⟩, hB⟩ hK
    have cR := bR.cell
    have fR := bR.frozen
    gi_wp2
    have hK' := (KeepsOthers.setCell W ⟨w.heap.size + 1, 0, none⟩ (.bool false)).same D _ hK rfl
    refine ⟨by simp, .inl ⟨_, _, rfl, run_takeDeferred hK', ?_⟩⟩
    have hc5 := cell_kept (World.cell?_setCell_same' W ⟨w.heap.size + 1, 0, none⟩ (.bool false) (by rw [cR]; rfl)) (grownBy_putObj' _ D (.deferred none)) (fun r e => by cases e; exact ⟨_, hK', rfl⟩)
    have hN : negE G = false := by
      unfold negE
      rw [List.any_eq_false]
      intro x hx
      simpa using hall x hx
    have hBw := hbw.trans (hB.mono hbw.size)
    refine ⟨.bool false, ?_, by rw [hN], (hBw.setCell (p := ⟨w.heap.size + 1, 0, none⟩) (by simp) _).trans (belowK_b (w := w) (Nat.le_refl _) _ D _ _ (by omega) hK' rfl rfl)⟩
    simp [results, Tryz.results197, go_sem, hc5]
  case stop =>
    rintro D c pre W hD hpre ⟨⟨rfl, hex, bR⟩, hB⟩ hK
    obtain ⟨x, hx, hw⟩ := hex
    gi_wp2
    refine ⟨by simp, .inl ⟨_, _, rfl, run_takeDeferred hK, ?_⟩⟩
    have hc5 := cell_kept bR.cell (grownBy_putObj' _ D (.deferred none)) (fun r e => by cases e; exact ⟨_, hK, rfl⟩)
    have hN : negE G = true := by
      unfold negE
      rw [List.any_eq_true]
      exact ⟨x, hpre.subset hx, by simpa using hw⟩
    refine ⟨.bool true, ?_, by rw [hN], hB.trans (belowK_b (w := w) (Nat.le_refl _) W D _ _ (by omega) hK rfl rfl)⟩
    simp [results, Tryz.results197, go_sem, hc5]
end Go.Proofs.YthkfbaoeimjgaaaGreat
end

section
/- The document's Check of parameters, at the five programs of this layer. -/
namespace Go.Proofs.YthkfbaoeimjgaaaGreat
open Go.RowKit
def kNm : List ByteArray := [⟨#[98, 102, 115]⟩, ⟨#[99, 99]⟩, ⟨#[99, 111, 108, 111, 114, 115]⟩, ⟨#[100, 101, 103, 114, 101, 101]⟩, ⟨#[107, 99, 111, 114, 101]⟩, ⟨#[108, 97, 98, 101, 108, 115]⟩, ⟨#[109, 97, 116, 99, 104, 105, 110, 103]⟩, ⟨#[112, 97, 103, 101, 114, 97, 110, 107]⟩, ⟨#[115, 115, 115, 112]⟩, ⟨#[116, 114, 105, 97, 110, 103, 108, 101, 115]⟩]
theorem kc_row {w W : World} (L : List ByteArray) (h : w.alloc (.cells (L.map Value.string).toArray 9) = W) : (∀ j (hj : j < L.length), W.cell? ⟨w.heap.size, j, none⟩ = some (.string L[j])) ∧ Below w.heap.size w W := by
  have hh : W.heap[w.heap.size]? = some (.cells (L.map Value.string).toArray 9 (0, 0)) := by rw [← h]; exact heap_alloc_new _ _
  refine ⟨fun j hj => ?_, by rw [← h]; exact (Below.refl _ _).alloc (Nat.le_refl _) _⟩
  simp [World.cell?, hh, hj]
/-- Which parameters a program allows. -/
def checkN (s : ByteArray) (G : List Vx) (L : List Int) : Int := if isBfs s then srcN G L else if isSp s then (if negE G then 71 else srcN G L) else if isPr s then turnN L else if isCc s || isDeg s then noneN L else 70
section
variable {w : World} {P : Nat → Prop} {ao po : Option Addr} {s : ByteArray} {G : List Vx} {L : List Int} {n cap pn pc : Nat}
end
end Go.Proofs.YthkfbaoeimjgaaaGreat
end

section
/- kern.Check, and the document's at the programs of this layer. -/
namespace Go.Proofs.YthkfbaoeimjgaaaGreat
open Go.RowKit
section
variable {w : World} {P : Nat → Prop} {ao po : Option Addr} {s : ByteArray} {G : List Vx} {L : List Int} {n cap pn pc : Nat}
theorem below0_n (hn : n = G.length) (h : VxAt w P ao G) (hok : ∀ v ∈ G, v.ok) (hl : G.length ≤ 256) :
    Calls Tryz.prog 197 #[.agg #[.slice ao n cap]] w fun r w' => r = .returned (.bool (negE G)) ∧ Below w.heap.size w w' := by
  subst hn
  exact below0_any cap h hok hl
set_option maxRecDepth 100000 in
set_option maxHeartbeats 2000000 in
theorem kcheck_any (hn : n = G.length) (hp : pn = L.length) (hG : VxAt w P ao G) (hok : ∀ v ∈ G, v.ok) (hL : IsAt w po L) (hl : G.length ≤ 256) (hr : Rise (ids G)) :
    Calls Tryz.prog 157 #[.string s, .agg #[.slice ao n cap], .slice po pn pc] w fun r w' => r = .returned (.int .i64 (checkN s G L)) ∧ Below w.heap.size w w' := by
  obtain ⟨W0, hW0⟩ : ∃ W0, w.alloc (.cells #[.slice ao n cap] 24) = W0 := ⟨_, rfl⟩
  have hB0 : Below w.heap.size w W0 := by rw [← hW0]; exact (Below.refl _ _).alloc (Nat.le_refl _) _
  have hcg : W0.cell? ⟨w.heap.size, 0, none⟩ = some (.slice ao n cap) := by
    have hh : W0.heap[w.heap.size]? = some (.cells #[.slice ao n cap] 24 (0, 0)) := by rw [← hW0]; exact heap_alloc_new _ _
    simp [World.cell?, hh]
  have HS : Hid (∀ W, Below W0.heap.size W0 W → Calls Tryz.prog 196 #[.agg #[.slice ao n cap], .slice po pn pc] W fun r w' => r = .returned (.int .i64 (srcN G L)) ∧ Below W.heap.size W w') := fun W hb => source_any G L n cap pn pc hn hp (kc_new (kc_new hG hB0) hb) ((hL.new hB0).new hb) hl hr
  have HN : Hid (Calls Tryz.prog 197 #[.agg #[.slice ao n cap]] W0 fun r w' => r = .returned (.bool (negE G)) ∧ Below W0.heap.size W0 w') := below0_n hn (kc_new hG hB0) hok hl
  have HT : Hid (Calls Tryz.prog 154 #[.slice po pn pc] W0 fun r w' => r = .returned (.int .i64 (turnN L)) ∧ w' = W0) := turns_any L pn pc W0 hp (hL.new hB0)
  have HO : Hid (Calls Tryz.prog 156 #[.slice po pn pc] W0 fun r w' => r = .returned (.int .i64 (noneN L)) ∧ w' = W0) := none_any L pn pc W0 hp
  have HB0 : Hid _ := hB0
  clear hn hp hG hok hL hl hr hB0
  unfold checkN isBfs isSp isPr isCc isDeg
  cases h1 : (s.toList == [98, 102, 115])
  · cases h5 : (s.toList == [115, 115, 115, 112])
    · cases h4 : (s.toList == [112, 97, 103, 101, 114, 97, 110, 107])
      · cases h2 : (s.toList == [99, 99])
        · cases h3 : (s.toList == [100, 101, 103, 114, 101, 101])
          · go_enter Tryz.func157, Tryz.ntmps157
            go_wp2
            go_ret
            exact ⟨rfl, HB0.out⟩
          · simp only [Bool.false_eq_true, if_false, Bool.false_or, if_true]
            generalize noneN L = R at HO
            go_enter Tryz.func157, Tryz.ntmps157
            go_wp2_with (go_at_call 156; refine HO.out.mono ?_; rintro r w1 ⟨rfl, rfl⟩)
            go_ret
            exact ⟨rfl, HB0.out⟩
        · simp only [Bool.false_eq_true, if_false, Bool.true_or, if_true]
          generalize noneN L = R at HO
          go_enter Tryz.func157, Tryz.ntmps157
          go_wp2_with (go_at_call 156; refine HO.out.mono ?_; rintro r w1 ⟨rfl, rfl⟩)
          go_ret
          exact ⟨rfl, HB0.out⟩
      · simp only [Bool.false_eq_true, if_false, if_true]
        generalize turnN L = R at HT
        go_enter Tryz.func157, Tryz.ntmps157
        go_wp2_with (go_at_call 154; refine HT.out.mono ?_; rintro r w1 ⟨rfl, rfl⟩)
        go_ret
        exact ⟨rfl, HB0.out⟩
    · simp only [Bool.false_eq_true, if_false, if_true]
      generalize srcN G L = R at HS
      cases hng : negE G
      · rw [hng] at HN
        simp only [Bool.false_eq_true, if_false]
        go_enter Tryz.func157, Tryz.ntmps157
        go_wp2_with (first
          | (go_at_call 197; refine HN.out.mono ?_; rintro r w1 ⟨rfl, hb1⟩; have c1 := (hb1.cell (p := ⟨w.heap.size, 0, none⟩) (lt_cell hcg)).trans hcg; have HB1 : Hid _ := hb1; clear hb1)
          | (go_at_call 196; refine (HS.out _ HB1.out).mono ?_; rintro r w2 ⟨rfl, hb2⟩; have HB2 : Hid _ := HB1.out.trans (hb2.mono HB1.out.size); clear hb2))
        go_ret
        exact ⟨rfl, HB0.out.trans (HB2.out.mono HB0.out.size)⟩
      · rw [hng] at HN
        simp only [if_true]
        go_enter Tryz.func157, Tryz.ntmps157
        go_wp2_with (go_at_call 197; refine HN.out.mono ?_; rintro r w1 ⟨rfl, hb1⟩; have HB1 : Hid _ := hb1; clear hb1)
        go_ret
        exact ⟨rfl, HB0.out.trans (HB1.out.mono HB0.out.size)⟩
  · simp only [if_true]
    generalize srcN G L = R at HS
    go_enter Tryz.func157, Tryz.ntmps157
    go_wp2_with (go_at_call 196; refine (HS.out _ (Below.refl _ _)).mono ?_; rintro r w2 ⟨rfl, hb2⟩; have HB2 : Hid _ := hb2; clear hb2)
    go_ret
    exact ⟨rfl, HB0.out.trans (HB2.out.mono HB0.out.size)⟩
end
end Go.Proofs.YthkfbaoeimjgaaaGreat
end

section
/- Which programs are known, and which parameters they allow. -/
namespace Go.Proofs.YthkfbaoeimjgaaaGreat
open Go.RowKit
abbrev isCol (s : ByteArray) : Bool := s.toList == [99, 111, 108, 111, 114, 115]
abbrev isLab (s : ByteArray) : Bool := s.toList == [108, 97, 98, 101, 108, 115]
abbrev isMat (s : ByteArray) : Bool := s.toList == [109, 97, 116, 99, 104, 105, 110, 103]
abbrev isTri (s : ByteArray) : Bool := s.toList == [116, 114, 105, 97, 110, 103, 108, 101, 115]
/-- Is it one of the ten? -/
def allS (s : ByteArray) : Bool := kNm.any (fun y => y.toList == s.toList)
def coreN (L : List Int) : Int := if L.length = 1 ∧ 0 ≤ L.getD 0 0 ∧ L.getD 0 0 ≤ 256 then 0 else 71
/-- Which parameters a program allows, of all ten. -/
def mcheckN (s : ByteArray) (G : List Vx) (L : List Int) : Int := if isLab s then turnN L else if isKc s then coreN L else if isCol s || isMat s || isTri s then noneN L else checkN s G L
theorem beq_sym (a b : List UInt8) : (a == b) = (b == a) := by
  rw [Bool.eq_iff_iff, beq_iff_eq, beq_iff_eq]
  exact eq_comm
set_option maxRecDepth 100000 in
theorem core_any {ao : Option Addr} (L : List Int) (n cap : Nat) (w : World) (hn : n = L.length) (hL : IsAt w ao L) : Calls Tryz.prog 155 #[.slice ao n cap] w fun r w' => r = .returned (.int .i64 (coreN L)) ∧ w' = w := by
  by_cases h1 : n = 1
  · obtain ⟨b, off, rfl, hc⟩ := hL.one (by omega)
    have HT : Hid (coreN L = if 0 ≤ L.getD 0 0 ∧ L.getD 0 0 ≤ 256 then 0 else 71) := by
      show _ = _
      unfold coreN
      have : L.length = 1 := by omega
      simp [this]
    generalize L.getD 0 0 = x at hc HT
    subst h1
    rw [HT.out]
    clear hn hL HT
    go_enter Tryz.func155, Tryz.ntmps155
    by_cases g0 : x < 0
    · go_wp2
      all_goals first | (exfalso; omega) | (go_ret; exact ⟨by first | rfl | (rw [if_neg (by omega)]; rfl), rfl⟩)
    · by_cases g1 : 256 < x
      · go_wp2
        all_goals first | (exfalso; omega) | (go_ret; exact ⟨by first | rfl | (rw [if_neg (by omega)]; rfl), rfl⟩)
      · go_wp2
        all_goals first | (exfalso; omega) | (go_ret; exact ⟨by first | rfl | (rw [if_pos (by omega)]; rfl), rfl⟩)
  · have HT : Hid (coreN L = 71) := by
      show _ = _
      unfold coreN
      rw [if_neg (by omega)]
    rw [HT.out]
    have hb : ((n : Int) != 1) = true := by simp; omega
    clear hn hL HT
    go_enter Tryz.func155, Tryz.ntmps155
    go_wp2
    all_goals first | (exfalso; omega) | (go_ret; exact ⟨rfl, rfl⟩)
set_option maxRecDepth 100000 in
theorem kc_progs (w : World) : Calls Tryz.prog 148 #[] w fun r w' => r = .returned (.slice (some ⟨w.heap.size, 0, none⟩) 10 10) ∧ w' = w.alloc (.cells (kNm.map Value.string).toArray 9) := by
  go_enter Tryz.func148, Tryz.ntmps148
  go_wp2
  go_ret
  exact ⟨rfl, rfl⟩
set_option maxRecDepth 100000 in
set_option maxHeartbeats 1000000 in
theorem index_any (s : ByteArray) (w : World) (b : Nat) (hc : ∀ j (hj : j < kNm.length), w.cell? ⟨b, j, none⟩ = some (.string kNm[j])) : Calls Tryz.prog 191 #[.slice (some ⟨b, 0, none⟩) 10 10, .string s] w fun r w' => ∃ k : Int, r = .returned (.int .i64 k) ∧ decide (0 ≤ k) = allS s ∧ w' = w := by
  have HC : Hid _ := hc
  clear hc
  go_enter Tryz.func191, Tryz.ntmps191
  go_wp2
  go_loopw [5, 8] (fun _ i wr => ∃ j : Nat, j ≤ 10 ∧ i = .int .i64 j ∧ Hid (∀ y ∈ kNm.take j, (y.toList == s.toList) = false) ∧ wr = w) (fun _ i _ => 10 - (intOf i).toNat)
  case atStart => exact ⟨0, Nat.zero_le _, rfl, (fun y hy => (by simp at hy)), rfl⟩
  case round =>
    obtain ⟨j, hj, rfl, HF, rfl⟩ := hrel
    by_cases hlt : j < 10
    · have c1 := HC.out j hlt
      have HN : Hid (∀ y ∈ kNm.take (j + 1), y ∈ kNm.take j ∨ y = kNm[j]'hlt) := fun y hy => by
        rw [List.take_succ_eq_append_getElem hlt] at hy
        rcases List.mem_append.1 hy with hy | hy
        · exact Or.inl hy
        · exact Or.inr (by simpa using hy)
      have HMem : Hid (kNm[j]'hlt ∈ kNm) := List.getElem_mem hlt
      generalize kNm[j]'hlt = y at c1 HN HMem
      have hsy := beq_sym s.toList y.toList
      cases hy : (y.toList == s.toList)
      · rw [hy] at hsy
        have HY : Hid _ := hy
        clear hy
        go_wp2
        go_roundw
        case rel =>
          refine ⟨j + 1, by omega, by go_num, fun z hz => ?_, by first | rfl | trivial⟩
          rcases HN.out z hz with h | rfl
          · exact HF.out z h
          · exact HY.out
        case measure => simp [intOf]; omega
      · rw [hy] at hsy
        have HA : Hid (allS s = true) := List.any_eq_true.2 ⟨y, HMem.out, hy⟩
        clear hy
        go_wp2
        go_ret
        exact ⟨j, rfl, by rw [HA.out]; simp, rfl⟩
    · obtain rfl : j = 10 := by omega
      have HA : Hid (allS s = false) := by
        show _ = _
        unfold allS
        rw [List.any_eq_false]
        intro y hy
        rw [HF.out y (by rw [List.take_of_length_le (by decide)]; exact hy)]
        simp
      go_wp2
      go_ret
      exact ⟨-1, rfl, by rw [HA.out]; rfl, rfl⟩
set_option maxRecDepth 100000 in
theorem contains_any (s : ByteArray) (w : World) (b : Nat) (hc : ∀ j (hj : j < kNm.length), w.cell? ⟨b, j, none⟩ = some (.string kNm[j])) : Calls Tryz.prog 147 #[.slice (some ⟨b, 0, none⟩) 10 10, .string s] w fun r w' => r = .returned (.bool (allS s)) ∧ w' = w := by
  have HC : Hid _ := hc
  clear hc
  go_enter Tryz.func147, Tryz.ntmps147
  go_wp2_with (go_at_call 191; refine (index_any s _ b HC.out).mono ?_; rintro r w1 ⟨k, rfl, hk, rfl⟩; have HK : Hid _ := hk; clear hk)
  go_ret
  exact ⟨by rw [HK.out]; rfl, rfl⟩
set_option maxRecDepth 100000 in
theorem mknown_any (s : ByteArray) (w : World) : Calls Tryz.prog 100 #[.string s] w fun r w' => r = .returned (.bool (allS s)) ∧ Below w.heap.size w w' := by
  go_enter Tryz.func100, Tryz.ntmps100
  go_wp2_with (first
    | (go_at_call 148; refine (kc_progs _).mono ?_; rintro r w1 ⟨rfl, hw1⟩; obtain ⟨hc1, hb1⟩ := kc_row kNm hw1.symm; have HC1 : Hid _ := hc1; have HB1 : Hid _ := hb1; clear hw1 hc1 hb1)
    | (go_at_call 147; refine (contains_any s _ _ HC1.out).mono ?_; rintro r w2 ⟨rfl, rfl⟩))
  go_ret
  exact ⟨rfl, HB1.out⟩
section
variable {w : World} {P : Nat → Prop} {ao po : Option Addr} {s : ByteArray} {G : List Vx} {L : List Int} {n cap pn pc : Nat}
set_option linter.unusedSimpArgs false in
set_option maxRecDepth 100000 in
set_option maxHeartbeats 1000000 in
/-- more.Check, of any name. -/
theorem mocheck_any (hn : n = G.length) (hp : pn = L.length) (hG : VxAt w P ao G) (hok : ∀ v ∈ G, v.ok) (hL : IsAt w po L) (hl : G.length ≤ 256) (hr : Rise (ids G)) :
    Calls Tryz.prog 102 #[.string s, .agg #[.slice ao n cap], .slice po pn pc] w fun r w' => r = .returned (.int .i64 (mcheckN s G L)) ∧ Below w.heap.size w w' := by
  obtain ⟨W0, hW0⟩ : ∃ W0, w.alloc (.cells #[.slice ao n cap] 24) = W0 := ⟨_, rfl⟩
  have hB0 : Below w.heap.size w W0 := by rw [← hW0]; exact (Below.refl _ _).alloc (Nat.le_refl _) _
  have hcg : W0.cell? ⟨w.heap.size, 0, none⟩ = some (.slice ao n cap) := by
    have hh : W0.heap[w.heap.size]? = some (.cells #[.slice ao n cap] 24 (0, 0)) := by rw [← hW0]; exact heap_alloc_new _ _
    simp [World.cell?, hh]
  have HK : Hid (Calls Tryz.prog 157 #[.string s, .agg #[.slice ao n cap], .slice po pn pc] W0 fun r w' => r = .returned (.int .i64 (checkN s G L)) ∧ Below W0.heap.size W0 w') := kcheck_any hn hp (kc_new hG hB0) hok (hL.new hB0) hl hr
  have HT : Hid (Calls Tryz.prog 154 #[.slice po pn pc] W0 fun r w' => r = .returned (.int .i64 (turnN L)) ∧ w' = W0) := turns_any L pn pc W0 hp (hL.new hB0)
  have HC : Hid (Calls Tryz.prog 155 #[.slice po pn pc] W0 fun r w' => r = .returned (.int .i64 (coreN L)) ∧ w' = W0) := core_any L pn pc W0 hp (hL.new hB0)
  have HO : Hid (Calls Tryz.prog 156 #[.slice po pn pc] W0 fun r w' => r = .returned (.int .i64 (noneN L)) ∧ w' = W0) := none_any L pn pc W0 hp
  have HB0 : Hid _ := hB0
  clear hn hp hG hok hL hl hr hB0
  unfold mcheckN isLab isKc isCol isMat isTri
  generalize checkN s G L = R0 at HK
  generalize turnN L = R1 at HT
  generalize coreN L = R2 at HC
  generalize noneN L = R3 at HO
  cases h1 : (s.toList == [108, 97, 98, 101, 108, 115])
  · cases h2 : (s.toList == [107, 99, 111, 114, 101])
    · cases h3 : (s.toList == [99, 111, 108, 111, 114, 115])
      · cases h4 : (s.toList == [109, 97, 116, 99, 104, 105, 110, 103])
        · cases h5 : (s.toList == [116, 114, 105, 97, 110, 103, 108, 101, 115])
          · simp only [Bool.false_eq_true, if_false, Bool.or_self]
            go_enter Tryz.func102, Tryz.ntmps102
            go_wp2_with (go_at_call 157; refine HK.out.mono ?_; rintro r w1 ⟨rfl, hb1⟩; have HB1 : Hid _ := hb1; clear hb1)
            go_ret
            exact ⟨rfl, HB0.out.trans (HB1.out.mono HB0.out.size)⟩
          · simp only [Bool.false_eq_true, if_false, if_true, Bool.or_true, Bool.or_false, Bool.true_or, Bool.false_or]
            go_enter Tryz.func102, Tryz.ntmps102
            go_wp2_with (go_at_call 156; refine HO.out.mono ?_; rintro r w1 ⟨rfl, rfl⟩)
            go_ret
            exact ⟨rfl, HB0.out⟩
        · simp only [Bool.false_eq_true, if_false, if_true, Bool.or_true, Bool.or_false, Bool.true_or, Bool.false_or]
          go_enter Tryz.func102, Tryz.ntmps102
          go_wp2_with (go_at_call 156; refine HO.out.mono ?_; rintro r w1 ⟨rfl, rfl⟩)
          go_ret
          exact ⟨rfl, HB0.out⟩
      · simp only [Bool.false_eq_true, if_false, if_true, Bool.or_true, Bool.or_false, Bool.true_or, Bool.false_or]
        go_enter Tryz.func102, Tryz.ntmps102
        go_wp2_with (go_at_call 156; refine HO.out.mono ?_; rintro r w1 ⟨rfl, rfl⟩)
        go_ret
        exact ⟨rfl, HB0.out⟩
    · simp only [Bool.false_eq_true, if_false, if_true]
      go_enter Tryz.func102, Tryz.ntmps102
      go_wp2_with (go_at_call 155; refine HC.out.mono ?_; rintro r w1 ⟨rfl, rfl⟩)
      go_ret
      exact ⟨rfl, HB0.out⟩
  · simp only [if_true]
    go_enter Tryz.func102, Tryz.ntmps102
    go_wp2_with (go_at_call 154; refine HT.out.mono ?_; rintro r w1 ⟨rfl, rfl⟩)
    go_ret
    exact ⟨rfl, HB0.out⟩
end
end Go.Proofs.YthkfbaoeimjgaaaGreat
end

section
/- Messages as plain lists: their order, a list in order, what a box holds, what a combiner makes. No function of the program is named here. -/
namespace Go.Proofs.YthkfbaoeimjgaaaGreat
open Go.RowKit

/-- A message: From, To, At, V. -/
structure Msg where
  f : Int
  t : Int
  a : Int
  v : Int
structure Msg.ok (m : Msg) : Prop where
  f : I64 m.f
  t : I64 m.t
  a : I64 m.a
  v : I64 m.v
def c3 (x y : Int) : Int := if x < y then -1 else if y < x then 1 else 0
/-- Does a message stand ahead of another one? -/
def mlt (x y : Msg) : Bool :=
  if x.t ≠ y.t then decide (x.t < y.t) else if x.f ≠ y.f then decide (x.f < y.f) else if x.a ≠ y.a then decide (x.a < y.a) else decide (x.v < y.v)
/-- A combiner's step: the value and the error. -/
def jn (k : Int) (a b : Int) : Int := if k = 2 then (if b < a then b else a) else if k = 3 then (if a < b then b else a) else a + b
end Go.Proofs.YthkfbaoeimjgaaaGreat
end

section
/- Requests as plain lists: their order, those that count, what each does to a graph. No function of the program is named here. -/
namespace Go.Proofs.YthkfbaoeimjgaaaGreat
open Go.RowKit

/-- A request: Kind, ID, To, V. -/
structure Mu where
  k : Int
  i : Int
  t : Int
  v : Int
structure Mu.ok (m : Mu) : Prop where
  k : I64 m.k
  i : I64 m.i
  t : I64 m.t
  v : I64 m.v
def u3 (x y : Int) : Int := if x < y then -1 else if y < x then 1 else 0
end Go.Proofs.YthkfbaoeimjgaaaGreat
end

section
/- What a vertex is given, as it lies; rows of messages and requests of one's own; To and Back. -/
namespace Go.Proofs.YthkfbaoeimjgaaaGreat
open Go.RowKit
theorem k_fr {w w' : World} {base : Nat} {e : TypeId} {size : Nat} {v : Value} {n : Nat} {xs : List Value} (h : w.ownsRow base e size v n xs) {S : Nat → Prop} (f : Fr w w' S) (hs : ∀ k, base ≤ k → ¬ S k) : w'.ownsRow base e size v n xs := by
  refine ⟨h.1, ?_⟩
  rcases h.2 with h2 | ⟨g, cap, cur, rfl, h3, h4, h5⟩
  · exact Or.inl h2
  · exact Or.inr ⟨g, cap, cur, rfl, h3, (f.block g (Array.getElem?_eq_some_iff.1 h4).1 (hs g h3)).trans h4, h5⟩
theorem k_new {w w' : World} {base : Nat} {e : TypeId} {size : Nat} {v : Value} {n : Nat} {xs : List Value} (h : w.ownsRow base e size v n xs) (hb : Below w.heap.size w w') : w'.ownsRow base e size v n xs := k_fr h (Fr.ofBelow hb (fun _ => False)) (fun _ _ h => h)
theorem k_shape {w : World} {base : Nat} {e : TypeId} {size : Nat} {v : Value} {n : Nat} {xs : List Value} (h : w.ownsRow base e size v n xs) : ∃ ao c, v = .slice ao n c := by
  rcases h.2 with ⟨rfl, h0⟩ | ⟨g, cap, cur, rfl, _⟩
  · exact ⟨none, 0, by rw [h0]⟩
  · exact ⟨_, _, rfl⟩
theorem k_at {w : World} {base : Nat} {e : TypeId} {size : Nat} {ao : Option Addr} {n c : Nat} {xs : List Value} (h : w.ownsRow base e size (.slice ao n c) n xs) (hn : 0 < n) : ∃ g, ao = some ⟨g, 0, none⟩ ∧ base ≤ g ∧ ∀ i u, xs[i]? = some u → w.cell? ⟨g, i, none⟩ = some u := by
  rcases h.2 with ⟨h1, h0⟩ | ⟨g, cap, cur, h1, h3, _⟩
  · omega
  · cases h1
    refine ⟨g, rfl, h3, fun i u hu => ?_⟩
    have := World.ownsRow.cells h (g := g) rfl i u hu
    rwa [Addr.add_lit, Nat.zero_add] at this
theorem one_newK (w : World) (o : Obj) : Below w.heap.size w (w.alloc o) := (Below.refl _ _).alloc (Nat.le_refl _) _
/-- The cells of an Input's box. -/
def InBox (W : World) (b : Nat) (c : Array Value) : Prop := W.heap[b]? = some (.cells c 254 (0, 0))
theorem InBox.new {W W' : World} {b : Nat} {c : Array Value} (h : InBox W b c) (hb : Below W.heap.size W W') : InBox W' b c := (hb.block _ (Array.getElem?_eq_some_iff.1 h).1).trans h
theorem InBox.made (w : World) (c : Array Value) : InBox (w.alloc (.cells c 254)) w.heap.size c := heap_alloc_new _ _
theorem InBox.cells {W : World} {b : Nat} {a0 a1 a2 a3 a4 a5 a6 a7 a8 a9 a10 a11 a12 a13 a14 a15 a16 a17 : Value} (h : InBox W b #[a0, a1, a2, a3, a4, a5, a6, a7, a8, a9, a10, a11, a12, a13, a14, a15, a16, a17]) :
    W.cell? ⟨b, 0, none⟩ = some a0 ∧ W.cell? ⟨b, 1, none⟩ = some a1 ∧ W.cell? ⟨b, 2, none⟩ = some a2 ∧ W.cell? ⟨b, 3, none⟩ = some a3 ∧ W.cell? ⟨b, 4, none⟩ = some a4 ∧ W.cell? ⟨b, 5, none⟩ = some a5 ∧ W.cell? ⟨b, 6, none⟩ = some a6 ∧ W.cell? ⟨b, 7, none⟩ = some a7 ∧ W.cell? ⟨b, 8, none⟩ = some a8 ∧ W.cell? ⟨b, 9, none⟩ = some a9 ∧ W.cell? ⟨b, 10, none⟩ = some a10 ∧ W.cell? ⟨b, 11, none⟩ = some a11 ∧ W.cell? ⟨b, 12, none⟩ = some a12 ∧ W.cell? ⟨b, 13, none⟩ = some a13 ∧ W.cell? ⟨b, 14, none⟩ = some a14 ∧ W.cell? ⟨b, 15, none⟩ = some a15 ∧ W.cell? ⟨b, 16, none⟩ = some a16 ∧ W.cell? ⟨b, 17, none⟩ = some a17 := by
  unfold InBox at h
  simp [World.cell?, h]
/-- The cells of an Output's box. -/
def OutBox (W : World) (b : Nat) (c : Array Value) : Prop := W.heap[b]? = some (.cells c 251 (0, 0))
theorem OutBox.new {W W' : World} {b : Nat} {c : Array Value} (h : OutBox W b c) (hb : Below W.heap.size W W') : OutBox W' b c := (hb.block _ (Array.getElem?_eq_some_iff.1 h).1).trans h
theorem OutBox.made (w : World) (c : Array Value) : OutBox (w.alloc (.cells c 251)) w.heap.size c := heap_alloc_new _ _
theorem OutBox.cells {W : World} {b : Nat} {a0 a1 a2 a3 a4 a5 a6 a7 a8 a9 a10 a11 a12 a13 a14 : Value} (h : OutBox W b #[a0, a1, a2, a3, a4, a5, a6, a7, a8, a9, a10, a11, a12, a13, a14]) :
    W.cell? ⟨b, 0, none⟩ = some a0 ∧ W.cell? ⟨b, 1, none⟩ = some a1 ∧ W.cell? ⟨b, 2, none⟩ = some a2 ∧ W.cell? ⟨b, 3, none⟩ = some a3 ∧ W.cell? ⟨b, 4, none⟩ = some a4 ∧ W.cell? ⟨b, 5, none⟩ = some a5 ∧ W.cell? ⟨b, 6, none⟩ = some a6 ∧ W.cell? ⟨b, 7, none⟩ = some a7 ∧ W.cell? ⟨b, 8, none⟩ = some a8 ∧ W.cell? ⟨b, 9, none⟩ = some a9 ∧ W.cell? ⟨b, 10, none⟩ = some a10 ∧ W.cell? ⟨b, 11, none⟩ = some a11 ∧ W.cell? ⟨b, 12, none⟩ = some a12 ∧ W.cell? ⟨b, 13, none⟩ = some a13 ∧ W.cell? ⟨b, 14, none⟩ = some a14 := by
  unfold OutBox at h
  simp [World.cell?, h]
theorem fr_setRow (w : World) (g : Nat) (cs : Array Value) : Fr w (w.setRow g cs) (fun k => k = g) := ⟨rfl, rfl, rfl, by simp, fun k _ hn => setRow_other w g k cs hn⟩
theorem k_setRow {g : Nat} {w0 w : World} (hb : Below w0.heap.size w0 w) (hBg : w0.heap.size ≤ g) (cs : Array Value) : Below w0.heap.size w0 (w.setRow g cs) := hb.trans ((fr_setRow w g cs).below hb.size (fun k hk => by omega))
end Go.Proofs.YthkfbaoeimjgaaaGreat
end

section
/- run.Check: which jobs may be. -/
namespace Go.Proofs.YthkfbaoeimjgaaaGreat
open Go.RowKit
/-- Which jobs may be: 0, or the error. -/
def jobN (s : ByteArray) (G : List Vx) (ps : List Int) (st se pa : Int) : Int :=
  if allS s = false then 70 else if ¬ chk G = 0 then chk G else if 4 < ps.length then 71 else if ¬ mcheckN s G ps = 0 then mcheckN s G ps else if (1 ≤ st ∧ st ≤ 1000) ∧ (0 ≤ se ∧ se ≤ 65536) ∧ (1 ≤ pa ∧ pa ≤ 16) then 0 else 90
set_option linter.unusedSimpArgs false in
set_option maxRecDepth 100000 in
theorem within_any (n l m : Int) (w : World) : Calls Tryz.prog 103 #[.int .i64 n, .int .i64 l, .int .i64 m] w fun r w' => r = .returned (.bool (decide (l ≤ n ∧ n ≤ m))) ∧ w' = w := by
  by_cases h1 : l ≤ n
  · by_cases h2 : n ≤ m
    · go_enter Tryz.func103, Tryz.ntmps103
      go_wp2
      go_ret
      exact ⟨by simp [h1, h2], rfl⟩
    · have h2' : decide (n ≤ m) = false := by simpa using h2
      go_enter Tryz.func103, Tryz.ntmps103
      go_wp2
      go_ret
      exact ⟨by simp only [h1, h2, and_false, decide_false]; rfl, rfl⟩
  · have h1' : decide (l ≤ n) = false := by simpa using h1
    go_enter Tryz.func103, Tryz.ntmps103
    go_wp2
    go_ret
    exact ⟨by simp only [h1, false_and, decide_false]; rfl, rfl⟩
theorem chk_okJ {G : List Vx} (h : chk G = 0) : G.length ≤ 256 ∧ Rise (ids G) := by
  unfold chk at h
  split at h
  · exact absurd h (by decide)
  · rename_i h1
    have h2 : ¬ 256 < G.length ∧ riseB (ids G) = true := by
      constructor
      · exact fun e => h1 (.inl e)
      · cases e : riseB (ids G)
        · exact absurd (.inr e) h1
        · rfl
    exact ⟨by omega, (riseB_iff _).1 h2.2⟩
def JobBoxC (W : World) (b : Nat) (c : Array Value) : Prop := W.heap[b]? = some (.cells c 27 (0, 0))
theorem job_cells {W : World} {b : Nat} {a0 a1 a2 a3 a4 a5 : Value} (h : JobBoxC W b #[a0, a1, a2, a3, a4, a5]) : W.cell? ⟨b, 0, none⟩ = some a0 ∧ W.cell? ⟨b, 1, none⟩ = some a1 ∧ W.cell? ⟨b, 2, none⟩ = some a2 ∧ W.cell? ⟨b, 3, none⟩ = some a3 ∧ W.cell? ⟨b, 4, none⟩ = some a4 ∧ W.cell? ⟨b, 5, none⟩ = some a5 := by
  unfold JobBoxC at h
  simp [World.cell?, h]
set_option maxRecDepth 100000 in
set_option maxHeartbeats 2000000 in
theorem checkJ_any {w : World} {P : Nat → Prop} {go po : Option Addr} {gn gc pn pc : Nat} {s : ByteArray} {G : List Vx} {ps : List Int} {st se pa : Int} (hn : gn = G.length) (hp : pn = ps.length) (hG : VxAt w P go G) (hok : ∀ v ∈ G, v.ok) (hl : G.length ≤ 9223372036854775807) (hL : IsAt w po ps) (hpl : ps.length ≤ 9223372036854775807) :
    Calls Tryz.prog 42 #[.agg #[.string s, .slice go gn gc, .slice po pn pc, .int .i64 st, .int .i64 se, .int .i64 pa]] w fun r w' => r = .returned (.int .i64 (jobN s G ps st se pa)) ∧ Below w.heap.size w w' := by
  obtain ⟨W0, hW0⟩ : ∃ W0, w.alloc (.cells #[.string s, .slice go gn gc, .slice po pn pc, .int .i64 st, .int .i64 se, .int .i64 pa] 27) = W0 := ⟨_, rfl⟩
  have hb0 : Below w.heap.size w W0 := by rw [← hW0]; exact one_newK _ _
  have hJ0 : JobBoxC W0 w.heap.size #[.string s, .slice go gn gc, .slice po pn pc, .int .i64 st, .int .i64 se, .int .i64 pa] := by rw [← hW0]; exact heap_alloc_new _ _
  obtain ⟨c0, c1, c2, c3, c4, c5⟩ := job_cells hJ0
  have hpn : pn ≤ 9223372036854775807 := by rw [hp]; exact hpl
  have hgl : gn ≤ 9223372036854775807 := by rw [hn]; exact hl
  have HK : Hid _ := mknown_any s W0
  have HCk : Hid (∀ W, Below W0.heap.size W0 W → Calls Tryz.prog 101 #[.agg #[.slice go gn gc]] W fun r w' => r = .returned (.int .i64 (chk G)) ∧ Below W.heap.size W w') := fun W hb => by rw [hn]; exact check_any gc ((hG.new hb0).new hb) hl hok
  have HMc : Hid (chk G = 0 → ∀ W, Below W0.heap.size W0 W → Calls Tryz.prog 102 #[.string s, .agg #[.slice go gn gc], .slice po pn pc] W fun r w' => r = .returned (.int .i64 (mcheckN s G ps)) ∧ Below W.heap.size W w') := fun h0 W hb => mocheck_any hn hp ((hG.new hb0).new hb) hok ((hL.new hb0).new hb) (chk_okJ h0).1 (chk_okJ h0).2
  have HJ : Hid (jobN s G ps st se pa = if allS s = false then 70 else if ¬ chk G = 0 then chk G else if 4 < ps.length then 71 else if ¬ mcheckN s G ps = 0 then mcheckN s G ps else if (1 ≤ st ∧ st ≤ 1000) ∧ (0 ≤ se ∧ se ≤ 65536) ∧ (1 ≤ pa ∧ pa ≤ 16) then 0 else 90) := rfl
  have HJ0 : Hid _ := hJ0
  have HB0 : Hid _ := hb0
  have HPn : Hid _ := hp
  clear hn hp hG hok hL hb0 hJ0 hl hpl
  generalize jobN s G ps st se pa = jn at HJ ⊢
  cases hk : allS s
  · rw [hk] at HK HJ
    go_enter Tryz.func42, Tryz.ntmps42
    go_wp2_with (go_at_call 100; refine Calls.mono HK.out ?_; rintro r w1 ⟨rfl, hb1⟩; have HB1 : Hid _ := hb1; clear hb1)
    go_ret
    exact ⟨by rw [HJ.out]; rfl, HB0.out.trans (HB1.out.mono HB0.out.size)⟩
  · rw [hk] at HK HJ
    generalize chk G = cg at HCk HMc HJ
    go_enter Tryz.func42, Tryz.ntmps42
    go_upto_region 3 with (go_at_call 100; refine Calls.mono HK.out ?_; rintro r w1 ⟨rfl, hb1⟩; have HB1 : Hid _ := hb1; clear hb1)
    obtain ⟨d0, d1, d2, d3, d4, d5⟩ := job_cells ((HB1.out.block _ (Array.getElem?_eq_some_iff.1 HJ0.out).1).trans HJ0.out)
    clear c0 c1 c2 c3 c4 c5 HK
    by_cases hcg : cg = 0
    · subst hcg
      go_upto_region 6 with (go_at_call 101; refine Calls.mono (HCk.out _ HB1.out) ?_; rintro r w2 ⟨rfl, hb2⟩; have HB2 : Hid (Below W0.heap.size W0 w2) := HB1.out.trans (hb2.mono HB1.out.size); clear hb2)
      obtain ⟨e0, e1, e2, e3, e4, e5⟩ := job_cells ((HB2.out.block _ (Array.getElem?_eq_some_iff.1 HJ0.out).1).trans HJ0.out)
      clear d0 d1 d2 d3 d4 d5 HCk HB1
      by_cases h4 : 4 < pn
      · go_wp2
        go_ret
        exact ⟨by rw [HJ.out, ← HPn.out]; simp [h4], HB0.out.trans (HB2.out.mono HB0.out.size)⟩
      · have HM : Hid _ := HMc.out (by first | exact trivial | rfl) _ HB2.out
        generalize mcheckN s G ps = mc at HM HJ
        clear HMc
        go_upto_region 9 with (go_at_call 102; refine Calls.mono HM.out ?_; rintro r w3 ⟨rfl, hb3⟩; have HB3 : Hid (Below W0.heap.size W0 w3) := HB2.out.trans (hb3.mono HB2.out.size); clear hb3)
        obtain ⟨f0, f1, f2, f3, f4, f5⟩ := job_cells ((HB3.out.block _ (Array.getElem?_eq_some_iff.1 HJ0.out).1).trans HJ0.out)
        clear e0 e1 e2 e3 e4 e5 HM HB2
        by_cases hmc : mc = 0
        · subst hmc
          have HJ2 : Hid (jn = if (1 ≤ st ∧ st ≤ 1000) ∧ (0 ≤ se ∧ se ≤ 65536) ∧ (1 ≤ pa ∧ pa ≤ 16) then 0 else 90) := by
            show _ = _
            rw [HJ.out, ← HPn.out]
            simp [h4]
          clear HJ
          by_cases q1 : 1 ≤ st ∧ st ≤ 1000
          · have HW1 : Hid (decide (1 ≤ st ∧ st ≤ 1000) = true) := decide_eq_true q1
            by_cases q2 : 0 ≤ se ∧ se ≤ 65536
            · have HW2 : Hid (decide (0 ≤ se ∧ se ≤ 65536) = true) := decide_eq_true q2
              by_cases q3 : 1 ≤ pa ∧ pa ≤ 16
              · have HW3 : Hid (decide (1 ≤ pa ∧ pa ≤ 16) = true) := decide_eq_true q3
                have HE : Hid (jn = 0) := by show _ = _; rw [HJ2.out, if_pos ⟨q1, q2, q3⟩]
                clear q1 q2 q3 HJ2
                go_wp2_with (go_at_call 103; refine (within_any _ _ _ _).mono ?_; rintro r w4 ⟨rfl, rfl⟩; first | rw [HW1.out] | rw [HW2.out] | rw [HW3.out])
                go_ret
                exact ⟨by rw [HE.out]; rfl, HB0.out.trans (HB3.out.mono HB0.out.size)⟩
              · have HW3 : Hid (decide (1 ≤ pa ∧ pa ≤ 16) = false) := decide_eq_false q3
                have HE : Hid (jn = 90) := by show _ = _; rw [HJ2.out, if_neg (fun h => q3 h.2.2)]
                clear q1 q2 q3 HJ2
                go_wp2_with (go_at_call 103; refine (within_any _ _ _ _).mono ?_; rintro r w4 ⟨rfl, rfl⟩; first | rw [HW1.out] | rw [HW2.out] | rw [HW3.out])
                go_ret
                exact ⟨by rw [HE.out]; rfl, HB0.out.trans (HB3.out.mono HB0.out.size)⟩
            · have HW2 : Hid (decide (0 ≤ se ∧ se ≤ 65536) = false) := decide_eq_false q2
              have HE : Hid (jn = 90) := by show _ = _; rw [HJ2.out, if_neg (fun h => q2 h.2.1)]
              clear q1 q2 HJ2
              go_wp2_with (go_at_call 103; refine (within_any _ _ _ _).mono ?_; rintro r w4 ⟨rfl, rfl⟩; first | rw [HW1.out] | rw [HW2.out])
              go_ret
              exact ⟨by rw [HE.out]; rfl, HB0.out.trans (HB3.out.mono HB0.out.size)⟩
          · have HW1 : Hid (decide (1 ≤ st ∧ st ≤ 1000) = false) := decide_eq_false q1
            have HE : Hid (jn = 90) := by show _ = _; rw [HJ2.out, if_neg (fun h => q1 h.1)]
            clear q1 HJ2
            go_wp2_with (go_at_call 103; refine (within_any _ _ _ _).mono ?_; rintro r w4 ⟨rfl, rfl⟩; rw [HW1.out])
            go_ret
            exact ⟨by rw [HE.out]; rfl, HB0.out.trans (HB3.out.mono HB0.out.size)⟩
        · have hmc' : (mc != 0) = true := by simpa using hmc
          go_wp2
          go_ret
          exact ⟨by rw [HJ.out, ← HPn.out]; simp [h4, hmc], HB0.out.trans (HB3.out.mono HB0.out.size)⟩
    · have hcg' : (cg != 0) = true := by simpa using hcg
      go_wp2_with (go_at_call 101; refine Calls.mono (HCk.out _ HB1.out) ?_; rintro r w2 ⟨rfl, hb2⟩; have HB2 : Hid (Below W0.heap.size W0 w2) := HB1.out.trans (hb2.mono HB1.out.size); clear hb2)
      go_ret
      exact ⟨by rw [HJ.out]; simp [hcg], HB0.out.trans (HB2.out.mono HB0.out.size)⟩
end Go.Proofs.YthkfbaoeimjgaaaGreat
end
