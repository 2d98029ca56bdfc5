/- graph.Clone: the same graph, in memory of its own, that can be written. -/
import Derived.Test.YthnhmhjcpdomcaaMuG
import Derived.Deep.Cut
import Derived.Deep.DeepCutAuto
namespace Go.Proofs.Ythnhmhjcpdomcaa
open Go.RowKit
theorem own_low {w : World} {base base' : Nat} {e : TypeId} {size : Nat} {v : Value} {n : Nat} {xs : List Value} (h : w.ownsRow base e size v n xs) (hb : base' ≤ base) : w.ownsRow base' e size v n xs := by
  refine ⟨h.1, ?_⟩
  rcases h.2 with hn | ⟨g, cap, cur, h1, h2, rest⟩
  · exact .inl hn
  · exact .inr ⟨g, cap, cur, h1, by omega, rest⟩
theorem GW.low {w : World} {base base' : Nat} {sv : Value} {L : List (Vx × Value)} (h : GW w base sv L) (hb : base' ≤ base) : GW w base' sv L := ⟨own_low h.row hb, fun x hx => own_low (h.eds x hx) hb, h.apart⟩
theorem GW.app {w w1 : World} {base : Nat} {sv sv' : Value} {L : List (Vx × Value)} {y : Vx} {ev : Value} (h : GW w base sv L) (he : w.ownsRow base 81 2 ev y.es.length (ecs y.es)) (ha : ∀ x ∈ L, ∀ k, x.2.ownBlock = some k → ev.ownBlock ≠ some k)
    (ho : w1.ownsRow base 84 3 sv' (L.length + 1) (gcs L ++ [.int .i64 y.id, .int .i64 y.val, ev])) (hg : w.grownBy w1 sv.ownBlock) : GW w1 base sv' (L ++ [(y, ev)]) := by
  have f : Fr w w1 (fun k => sv.ownBlock = some k) := Fr.grown hg (fun k hk => hk)
  refine ⟨?_, fun x hx => ?_, ?_⟩
  · rw [List.length_append, gcs_app]
    exact ho
  · rcases List.mem_append.1 hx with hx | hx
    · exact own_keep (h.eds x hx) f (fun k hk e => own_diff h.row (h.eds x hx) (by decide) k hk e)
    · rw [List.mem_singleton] at hx
      subst hx
      exact own_keep he f (fun k hk e => own_diff h.row he (by decide) k hk e)
  · rw [List.pairwise_append]
    exact ⟨h.apart, List.pairwise_singleton _ _, fun x hx z hz => by rw [List.mem_singleton] at hz; subst hz; exact ha x hx⟩
set_option maxRecDepth 100000 in
theorem clonesW_any {w : World} {P : Nat → Prop} {ao : Option Addr} (L : List Ed) (cap : Nat) (h : EdAt w P ao L) (hl : L.length ≤ 8796093022208) :
    Calls Try.prog 94 #[.slice ao L.length cap] w fun r w' => ∃ v, r = .returned v ∧ w'.ownsRow w.heap.size 81 2 v L.length (ecs L) ∧ Below w.heap.size w w' := by
  obtain ⟨i0, hi, hz0, hz1, hz2⟩ := info_parts infoEdge
  cases ao with
  | none =>
    have hL : L = [] := List.eq_nil_of_length_eq_zero (Nat.eq_zero_of_not_pos (fun hp => by obtain ⟨b, off, e, _⟩ := h hp; cases e))
    subst hL
    have hq := nil_eq
    go_enter Try.func94, Try.ntmps94
    go_wp2
    go_ret
    exact ⟨_, rfl, World.ownsRow_nil _ _ _ _, Below.refl _ _⟩
  | some ad =>
    have HN : Hid (∀ j u, (ecs L)[j]? = some u → (w.alloc (.cells #[] 81)).cell? (ad.add j) = some u) := ecs_cell (h.new (one_new _ _))
    have HO : Hid _ := own_empty (w := w) (base := w.heap.size) (t := 81) (size := 2) (Nat.le_refl _)
    clear h
    have hq := nil_ne
    go_enter Try.func94, Try.ntmps94
    go_wp2_with (at_builtin; refine wpList_append_own_at _ rfl _ _ 82 rfl w.heap.size 81 i0 (.agg #[.int .i64 0, .int .i64 0]) 2 16 Try.underlying82 hi hz0 hz1 hz2 rfl (by decide) _ _ _ rfl HO.out ad L.length cap (ecs L) rfl (ecs_len L) HN.out (ecs_one L) (by unfold maxLen; omega) (by omega) (by simp) ?_)
    intro v' w1 hown hgrow _ _
    obtain ⟨bo, m, c, rfl⟩ := own_any hown
    have HOw : Hid _ := hown
    clear hown
    have hb : Below w.heap.size w w1 := (one_new w _).trans ((Fr.grown (S := fun k => k = w.heap.size) hgrow (fun k hk => by cases hk; rfl)).below (by simp) (fun k hk => by omega))
    go_wp2
    go_ret
    exact ⟨_, rfl, HOw.out, hb⟩
set_option maxRecDepth 100000 in
theorem clonevW_any {w : World} {P : Nat → Prop} {eo : Option Addr} (x : Vx) (ec : Nat) (h : EdAt w P eo x.es) (hl : x.es.length ≤ 8796093022208) :
    Calls Try.prog 66 #[.agg #[.int .i64 x.id, .int .i64 x.val, .slice eo x.es.length ec]] w fun r w' => ∃ ev, r = .returned (.agg #[.int .i64 x.id, .int .i64 x.val, ev]) ∧ w'.ownsRow w.heap.size 81 2 ev x.es.length (ecs x.es) ∧ Below w.heap.size w w' := by
  have HE : Hid (∀ W, Below w.heap.size w W → EdAt W P eo x.es) := fun W hb => h.new hb
  have HB : Hid (Below w.heap.size w ((w.alloc (.cells #[.int .i64 x.id, .int .i64 x.val, .slice eo x.es.length ec] 84)).alloc (.cells #[.int .i64 0, .int .i64 0, .slice none 0 0] 84))) := b2 _ _ _
  have X1 : Hid (((w.alloc (.cells #[.int .i64 x.id, .int .i64 x.val, .slice eo x.es.length ec] 84)).alloc (.cells #[.int .i64 0, .int .i64 0, .slice none 0 0] 84)).heap[w.heap.size]? = some (.cells #[.int .i64 x.id, .int .i64 x.val, .slice eo x.es.length ec] 84 (0, 0))) := (Below.heap_alloc _ _ _ (by simp)).trans (heap_alloc_new _ _)
  have X2 : Hid (((w.alloc (.cells #[.int .i64 x.id, .int .i64 x.val, .slice eo x.es.length ec] 84)).alloc (.cells #[.int .i64 0, .int .i64 0, .slice none 0 0] 84)).heap[w.heap.size + 1]? = some (.cells #[.int .i64 0, .int .i64 0, .slice none 0 0] 84 (0, 0))) := by
    have := heap_alloc_new (w.alloc (.cells #[.int .i64 x.id, .int .i64 x.val, .slice eo x.es.length ec] 84)) (.cells #[.int .i64 0, .int .i64 0, .slice none 0 0] 84)
    rw [World.size_alloc] at this
    exact this
  clear h
  go_enter Try.func66, Try.ntmps66
  go_wp2_with (go_at_call 94; refine (clonesW_any x.es ec (HE.out _ HB.out) hl).mono ?_; rintro r w1 ⟨ev, rfl, hE1, hb1⟩; obtain ⟨bo, mm, c, rfl⟩ := own_any hE1; have HE1 : Hid _ := hE1; clear hE1; have y1 := (hb1.block _ (lt_of_block X1.out)).trans X1.out; have y2 := (hb1.block _ (lt_of_block X2.out)).trans X2.out; obtain ⟨p0, p1, p2⟩ := box3 y1; have p3 := froz (o := 2) y1; obtain ⟨q0, q1, q2⟩ := box3 y2; have q3 := froz (o := 0) y2; have q4 := froz (o := 1) y2; have q5 := froz (o := 2) y2; have Y1 : Hid _ := y1; have Y2 : Hid _ := y2; clear y1 y2)
  have hB1 : Below w.heap.size w w1 := HB.out.trans (hb1.mono HB.out.size)
  generalize hW : World.setCell _ _ _ = W
  have f1 : Fr w1 W (fun k => k = w.heap.size ∨ k = w.heap.size + 1) := by
    rw [← hW]
    have hs1 : ∀ (w' : World) (o : Nat) (u : Value), Fr w' (w'.setCell ⟨w.heap.size, o, none⟩ u) (fun k => k = w.heap.size ∨ k = w.heap.size + 1) := fun w' o u => Fr.setCell (S := fun k => k = w.heap.size ∨ k = w.heap.size + 1) w' ⟨w.heap.size, o, none⟩ u (Or.inl rfl)
    have hs2 : ∀ (w' : World) (o : Nat) (u : Value), Fr w' (w'.setCell ⟨w.heap.size + 1, o, none⟩ u) (fun k => k = w.heap.size ∨ k = w.heap.size + 1) := fun w' o u => Fr.setCell (S := fun k => k = w.heap.size ∨ k = w.heap.size + 1) w' ⟨w.heap.size + 1, o, none⟩ u (Or.inr rfl)
    exact (((hs1 _ _ _).trans (hs2 _ _ _) (fun _ _ h => h)).trans (hs2 _ _ _) (fun _ _ h => h)).trans (hs2 _ _ _) (fun _ _ h => h)
  have b1 : W.heap[w.heap.size + 1]? = some (.cells #[.int .i64 x.id, .int .i64 x.val, .slice bo mm c] 84 (0, 0)) := by
    rw [← hW]
    have h0 : (w1.setCell ⟨w.heap.size, 2, none⟩ (.slice bo mm c)).heap[w.heap.size + 1]? = some (.cells #[.int .i64 0, .int .i64 0, .slice none 0 0] 84 (0, 0)) := (Below.heap_setCell w1 ⟨w.heap.size, 2, none⟩ _ (w.heap.size + 1) (by show w.heap.size + 1 ≠ w.heap.size; omega)).trans Y2.out
    exact cl_set3 h0 _ _ _
  refine bodyPost_ret (v := .agg #[.int .i64 x.id, .int .i64 x.val, .slice bo mm c]) (results_cell_row Try.results66 _ _ (w.heap.size + 1) 84 _ (0, 0) _ rfl b1 Try.underlying84 rfl sizeVx) rfl ?_
  have hz1 := lt_of_block X2.out
  exact ⟨_, rfl, own_keep (own_low HE1.out (by have := HB.out.size; omega)) f1 (fun k hk e => by have := (World.ownsRow.lt HE1.out k hk).1; have := HB.out.size; rcases e with e | e <;> omega), hB1.trans (f1.below hB1.size (fun k hk => by omega))⟩
theorem cl_oneW {W : World} {b : Nat} {t : TypeId} {u0 : Value} (h : W.heap[b]? = some (.cells #[u0] t (0, 0))) : W.cell? ⟨b, 0, none⟩ = some u0 ∧ W.frozen? ⟨b, 0, none⟩ = false := by
  refine ⟨?_, froz h⟩
  simp [World.cell?, h]
theorem cl_set1W {w : World} {b : Nat} {t : TypeId} {u0 : Value} (h : w.heap[b]? = some (.cells #[u0] t (0, 0))) (x : Value) : (w.setCell ⟨b, 0, none⟩ x).heap[b]? = some (.cells #[x] t (0, 0)) := by
  have hlt := lt_of_block h
  have h' : w.heap[b] = .cells #[u0] t (0, 0) := by simpa [Array.getElem?_eq_getElem hlt] using h
  show (w.heap.modify b _)[b]? = _
  rw [Array.getElem?_eq_getElem (by simpa using hlt), Array.getElem_modify_self, h']
  rfl
theorem sizeGrW : (Try.prog.info? 24).map (·.size) = some 1 := by kernel_rfl
set_option maxRecDepth 100000 in
set_option maxHeartbeats 1000000 in
theorem cloneW_any {w : World} {P : Nat → Prop} {ao : Option Addr} (G : List Vx) (cap : Nat) (h : VxAt w P ao G) (hok : ∀ v ∈ G, v.ok) (hl : G.length * 40 ≤ 140737488355328) :
    Calls Try.prog 44 #[.agg #[.slice ao G.length cap]] w fun r w' => ∃ sv L, r = .returned (.agg #[sv]) ∧ L.map (·.1) = G ∧ GW w' w.heap.size sv L ∧ Below w.heap.size w w' := by
  obtain ⟨i0, hi, hz0, hz1, hz2⟩ := info_parts mInfoV
  have HG : Hid (VxAt w P ao G) := h
  have HOk : Hid (∀ v ∈ G, v.ok) := hok
  clear h hok
  go_enter Try.func44, Try.ntmps44
  go_wp2
  go_loopw [3, 9] (fun u i wr => ∃ (j : Nat) (fo : Option Addr) (m c : Nat), j ≤ G.length ∧ u = .slice fo m c ∧ i = .int .i64 j ∧ (∃ L, L.map (·.1) = G.take j ∧ GW wr (w.heap.size + 1 + 1) (.slice fo m c) L) ∧ wr.heap[w.heap.size + 1]? = some (.cells #[.slice none 0 0] 24 (0, 0)) ∧ Below w.heap.size w wr) (fun _ i _ => G.length - (intOf i).toNat)
  case atStart =>
    refine ⟨0, none, 0, 0, Nat.zero_le _, rfl, rfl, ⟨[], rfl, ⟨World.ownsRow_nil _ _ _ _, fun x hx => (by cases hx), List.Pairwise.nil⟩⟩, ?_, b2 _ _ _⟩
    have := heap_alloc_new (w.alloc (.cells #[.slice ao G.length cap] 24)) (.cells #[.slice none 0 0] 24)
    rw [World.size_alloc] at this
    exact this
  case round =>
    obtain ⟨j, fo, m, c, hj, rfl, rfl, ⟨L, hL, hR⟩, hq, hb⟩ := hrel
    have hLl : L.length = j := by have := congrArg List.length hL; rw [List.length_map, List.length_take] at this; omega
    by_cases hlt : j < G.length
    · obtain ⟨b, off, rfl, hP, hc⟩ := HG.out (by omega)
      obtain ⟨eo, ec, e0, e1, e2, e3⟩ := hc j hlt
      have hbb := lt_cell e0
      have d0 := (hb.cell (p := ⟨b, off + j * 3, none⟩) hbb).trans e0
      have d1 := (hb.cell (p := ⟨b, off + j * 3 + 1, none⟩) hbb).trans e1
      have d2 := (hb.cell (p := ⟨b, off + j * 3 + 2, none⟩) hbb).trans e2
      have HE : Hid (EdAt w P eo G[j].es) := e3
      have hlen : G[j].es.length ≤ 8796093022208 := (HOk.out _ (List.getElem_mem hlt)).len
      have HS : Hid (G.take (j + 1) = G.take j ++ [G[j]]) := List.take_succ_eq_append_getElem hlt
      generalize G[j] = y at d0 d1 d2 HE hlen HS
      have HLg : Hid (L.length = j) := hLl
      have HL : Hid (L.map (·.1) = G.take j) := hL
      have HR : Hid _ := hR
      have HQ : Hid _ := hq
      have HB : Hid _ := hb
      have lq := lt_of_block hq
      clear e0 e1 e2 e3 hc hR hq hb hL hLl
      go_wp2_with (first
        | (go_at_call 66; refine (clonevW_any y ec (EdAt.new HE.out (HB.out.alloc HB.out.size _)) hlen).mono ?_; rintro r w1 ⟨ev, rfl, hE1, hb1⟩; obtain ⟨bo, mm, bc', rfl⟩ := own_any hE1; have hR1 := GW.new (GW.new HR.out (one_new wr _)) hb1; have lw1 := hb1.size; have HE1 : Hid _ := hE1; have HR1 : Hid _ := hR1; have hq1 := (hb1.block _ (by rw [World.size_alloc]; omega)).trans ((Below.heap_alloc wr _ _ lq).trans HQ.out); have HQ1 : Hid _ := hq1; have HB1 : Hid _ := (HB.out.alloc HB.out.size _).trans (hb1.mono (by rw [World.size_alloc]; have := HB.out.size; omega)); clear hq1 hE1 hR1 hb1)
        | (at_builtin; refine wpList_append_own_at _ rfl _ _ 22 rfl (w.heap.size + 1 + 1) 84 i0 (.agg #[.int .i64 0, .int .i64 0, .slice none 0 0]) 3 40 Try.underlying22 hi hz0 hz1 hz2 rfl (by decide) _ _ _ rfl (own_new HR1.out.row (one_new w1 (.cells #[.int .i64 y.id, .int .i64 y.val, .slice bo mm bc'] 84))) ⟨w1.heap.size, 0, none⟩ 1 1 [.int .i64 y.id, .int .i64 y.val, .slice bo mm bc'] rfl rfl (three_new (heap_alloc_new _ _)) (by intro u hu; simp at hu; rcases hu with rfl | rfl | rfl <;> rfl) (by rw [HLg.out]; unfold maxLen; omega) (by rw [HLg.out]; omega) (by rw [World.size_alloc] at lw1; simp; omega) ?_))
      intro v' w4 hown hgrow _ hat
      have hR4 := GW.app (y := y) (HR1.out.new (one_new w1 (.cells #[.int .i64 y.id, .int .i64 y.val, .slice bo mm bc'] 84))) (own_new (own_low HE1.out (by rw [World.size_alloc]; have := lt_of_block HQ.out; omega)) (one_new w1 _)) (fun x hx k hk e => by have := (((HR.out.eds x hx)).lt k hk).2; have := (World.ownsRow.lt HE1.out k e).1; rw [World.size_alloc] at this; omega) hown hgrow
      have f4 : Fr (w1.alloc (.cells #[.int .i64 y.id, .int .i64 y.val, .slice bo mm bc'] 84)) w4 (fun k => Value.ownBlock (.slice fo m c) = some k) := Fr.grown hgrow (fun k hk => hk)
      have hB4 : Below w.heap.size w w4 := (HB1.out.alloc HB1.out.size _).trans (f4.below (HB1.out.alloc HB1.out.size _).size (fun k hk => by have := (HR.out.row.lt k hk).1; omega))
      have hq4 := (f4.block _ (by rw [World.size_alloc]; have := lt_of_block HQ1.out; omega) (fun hk => by have := (HR.out.row.lt _ hk).1; omega)).trans ((Below.heap_alloc w1 _ _ (lt_of_block HQ1.out)).trans HQ1.out)
      obtain ⟨ao', m', c', rfl⟩ := own_any hown
      have HR4 : Hid _ := hR4
      have HB4 : Hid _ := hB4
      have HQ4 : Hid _ := hq4
      clear hR4 hB4 hq4 hown hgrow hat f4
      go_wp2
      go_roundw
      case rel => exact ⟨j + 1, _, _, _, by omega, rfl, by go_num, ⟨_, by rw [HS.out, List.map_append, HL.out]; rfl, HR4.out⟩, HQ4.out, HB4.out⟩
      case measure => simp [intOf]; omega
    · obtain rfl : j = G.length := by omega
      rw [List.take_length] at hL
      obtain ⟨p0, p1⟩ := cl_oneW hq
      have HR : Hid _ := hR
      have HL : Hid _ := hL
      clear hR hL
      go_wp2
      refine bodyPost_ret (v := .agg #[.slice fo m c]) (results_cell_row Try.results44 _ _ (w.heap.size + 1) 24 _ (0, 0) _ rfl (cl_set1W hq _) Try.underlying24 rfl sizeGrW) rfl ?_
      exact ⟨_, L, rfl, HL.out, GW.low (HR.out.keep (Fr.setCell (S := fun k => k = w.heap.size + 1) wr ⟨w.heap.size + 1, 0, none⟩ _ rfl) (fun k e => by omega)) (by omega), hb.trans ((Fr.setCell (S := fun k => k = w.heap.size + 1) wr ⟨w.heap.size + 1, 0, none⟩ _ rfl).below hb.size (fun k hk => by omega))⟩
end Go.Proofs.Ythnhmhjcpdomcaa
