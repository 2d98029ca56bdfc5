import Derived.Test.YtnhijofnhflklaaGreatMuDoVM
import Derived.Test.YtnhijofnhflklaaGreatMuEdgeM
import Derived.Deep.Cut
import Derived.Deep.DeepCutAuto
import Derived.Test.YtnhijofnhflklaaGreatMuDelM
import Derived.Test.YtnhijofnhflklaaGreatCbMathM
import Derived.Test.YtnhijofnhflklaaGreatMsRowM
import Derived.Test.YtnhijofnhflklaaGreatProg
import Derived.Maps.OwnSet
import Derived.WalkKit
import Derived.OwnWalk
section
/- mut.do, whatever it is asked. -/
namespace Go.Proofs.YtnhijofnhflklaaGreat
open Go.RowKit
theorem do_same {w w' : World} {base bg : Nat} {sv : Value} {L : List (Vx × Value)} (hg : w.heap[bg]? = some (.cells #[sv] 24 (0, 0))) (h : GW w base sv L) (hb : Below w.heap.size w w') : w'.heap[bg]? = some (.cells #[sv] 24 (0, 0)) ∧ GW w' base sv L ∧ Fr w w' (fun k => k = bg ∨ GT w base k) :=
  ⟨(hb.block _ (Array.getElem?_eq_some_iff.1 hg).1).trans hg, h.new hb, Fr.ofBelow hb _⟩
theorem do_any {w : World} {base bg : Nat} {sv : Value} {L : List (Vx × Value)} {m : Mu} (hg : w.heap[bg]? = some (.cells #[sv] 24 (0, 0))) (h : GW w base sv L) (hbg : bg < base) (hbase : base ≤ w.heap.size) (hf : Fine (L.map (·.1))) {N : Nat} (hu : Up N (L.map (·.1))) (hN : N ≤ 1073741824) (hk : 1 ≤ m.k ∧ m.k ≤ 4) :
    Calls Tryz.prog 143 #[.pointer (some ⟨bg, 0, none⟩), .agg #[.int .i64 m.k, .int .i64 m.i, .int .i64 m.t, .int .i64 m.v]] w fun e w' => ∃ sv' L', e = .returned (.bool (doG (L.map (·.1)) m).2) ∧ L'.map (·.1) = (doG (L.map (·.1)) m).1 ∧ w'.heap[bg]? = some (.cells #[sv'] 24 (0, 0)) ∧ GW w' base sv' L' ∧ Fr w w' (fun k => k = bg ∨ GT w base k) := by
  have hl : L.length ≤ 1073741824 := by have := hu.1; rw [List.length_map] at this; omega
  have hkk : m.k = 1 ∨ m.k = 2 ∨ m.k = 3 ∨ m.k = 4 := by omega
  rcases split_ids hf.ids m.i with ⟨A', v, B', h1, h2, h3, h4, h5, h6⟩ | ⟨A', B', h1, h3, h4, h5, h6⟩
  · obtain ⟨A, R, rfl, rfl, hR⟩ := List.map_eq_append_iff.1 h1
    obtain ⟨x, B, rfl, rfl, rfl⟩ := List.map_eq_cons_iff.1 hR
    rw [List.length_map] at h5
    have hel : x.1.es.length ≤ 1073741824 := by have := hu.2 x.1 (by rw [map_mid]; simp); omega
    have hD : doG ((A ++ x :: B).map (·.1)) m = (A.map (·.1) ++ ((doV x.1 m).1 ++ B.map (·.1)), (doV x.1 m).2) := by rw [map_mid]; exact doG_there h2 h3 h4
    rw [hD]
    rcases hkk with hk | hk | hk | hk
    · cases he : foundB (ends x.1.es) m.t
      · have e : doV x.1 m = ([x.1], false) := by unfold doV; rw [hk]; simp [he]
        refine (do1_same hg h hbg hbase hf hl hk h6 h5 hel he).mono ?_
        rintro r w' ⟨rfl, hb⟩
        rw [e]
        exact ⟨sv, A ++ x :: B, rfl, by rw [map_mid]; rfl, do_same hg h hb⟩
      · have e : doV x.1 m = ([⟨x.1.id, x.1.val, x.1.es.take (findN (ends x.1.es) m.t) ++ x.1.es.drop (findN (ends x.1.es) m.t + 1)⟩], true) := by unfold doV; rw [hk]; simp [he]
        refine (do1_yes hg h hbg hbase hf hl hk h6 h5 hel he).mono ?_
        rintro r w' ⟨sv', L', rfl, q1, q2, q3, q4⟩
        rw [e]
        exact ⟨sv', L', rfl, q1, q2, q3, q4⟩
    · have e : doV x.1 m = ([], true) := by unfold doV; rw [hk]; simp
      refine (do2_yes hg h hbg hbase hf hl hk h6 h5).mono ?_
      rintro r w' ⟨sv', L', rfl, q1, q2, q3, q4⟩
      rw [e]
      exact ⟨sv', L', rfl, q1, q2, q3, q4⟩
    · have e : doV x.1 m = ([x.1], false) := by unfold doV; rw [hk]; simp
      refine (do3_no hg h hbg hbase hf hl hk h6).mono ?_
      rintro r w' ⟨rfl, hb⟩
      rw [e]
      exact ⟨sv, A ++ x :: B, rfl, by rw [map_mid]; rfl, do_same hg h hb⟩
    · cases he : foundB (ends x.1.es) m.t
      · have e : doV x.1 m = ([⟨x.1.id, x.1.val, x.1.es.take (findN (ends x.1.es) m.t) ++ ⟨m.t, m.v⟩ :: x.1.es.drop (findN (ends x.1.es) m.t)⟩], true) := by unfold doV; rw [hk]; simp [he]
        refine (do4_yes hg h hbg hbase hf hl hk h6 h5 hel he).mono ?_
        rintro r w' ⟨sv', L', rfl, q1, q2, q3, q4⟩
        rw [e]
        exact ⟨sv', L', rfl, q1, q2, q3, q4⟩
      · have e : doV x.1 m = ([x.1], false) := by unfold doV; rw [hk]; simp [he]
        refine (do4_same hg h hbg hbase hf hl hk h6 h5 hel he).mono ?_
        rintro r w' ⟨rfl, hb⟩
        rw [e]
        exact ⟨sv, A ++ x :: B, rfl, by rw [map_mid]; rfl, do_same hg h hb⟩
  · obtain ⟨A, B, rfl, rfl, rfl⟩ := List.map_eq_append_iff.1 h1
    rw [List.length_map] at h5
    have hD : doG ((A ++ B).map (·.1)) m = (A.map (·.1) ++ ((noV m).1 ++ B.map (·.1)), (noV m).2) := by rw [List.map_append]; exact doG_none h3 h4
    rw [hD]
    rcases hkk with hk | hk | hk | hk
    · have e : noV m = ([], false) := by unfold noV; rw [hk]; simp
      refine (do1_no hg h hbg hbase hf hl hk h6).mono ?_
      rintro r w' ⟨rfl, hb⟩
      rw [e]
      exact ⟨sv, A ++ B, rfl, by simp, do_same hg h hb⟩
    · have e : noV m = ([], false) := by unfold noV; rw [hk]; simp
      refine (do2_no hg h hbg hbase hf hl hk h6).mono ?_
      rintro r w' ⟨rfl, hb⟩
      rw [e]
      exact ⟨sv, A ++ B, rfl, by simp, do_same hg h hb⟩
    · have e : noV m = ([⟨m.i, m.v, []⟩], true) := by unfold noV; rw [hk]; simp
      refine (do3_yes hg h hbg hbase hf hl hk h6 h5).mono ?_
      rintro r w' ⟨sv', L', rfl, q1, q2, q3, q4⟩
      rw [e]
      exact ⟨sv', L', rfl, q1, q2, q3, q4⟩
    · have e : noV m = ([], false) := by unfold noV; rw [hk]; simp
      refine (do4_no hg h hbg hbase hf hl hk h6).mono ?_
      rintro r w' ⟨rfl, hb⟩
      rw [e]
      exact ⟨sv, A ++ B, rfl, by simp, do_same hg h hb⟩
end Go.Proofs.YtnhijofnhflklaaGreat
end

section
/- graph.Clone: the same graph, in memory of its own, that can be written. -/
namespace Go.Proofs.YtnhijofnhflklaaGreat
open Go.RowKit
theorem own_low {w : World} {base base' : Nat} {e : TypeId} {size : Nat} {v : Value} {n : Nat} {xs : List Value} (h : w.ownsRow base e size v n xs) (hb : base' ≤ base) : w.ownsRow base' e size v n xs := by
  refine ⟨h.1, ?_⟩
  rcases h.2 with hn | ⟨g, cap, cur, h1, h2, rest⟩
  · exact .inl hn
  · exact .inr ⟨g, cap, cur, h1, by omega, rest⟩
theorem GW.low {w : World} {base base' : Nat} {sv : Value} {L : List (Vx × Value)} (h : GW w base sv L) (hb : base' ≤ base) : GW w base' sv L := ⟨own_low h.row hb, fun x hx => own_low (h.eds x hx) hb, h.apart⟩
theorem GW.app {w w1 : World} {base : Nat} {sv sv' : Value} {L : List (Vx × Value)} {y : Vx} {ev : Value} (h : GW w base sv L) (he : w.ownsRow base 106 2 ev y.es.length (ecs y.es)) (ha : ∀ x ∈ L, ∀ k, x.2.ownBlock = some k → ev.ownBlock ≠ some k)
    (ho : w1.ownsRow base 82 3 sv' (L.length + 1) (gcs L ++ [.int .i64 y.id, .int .i64 y.val, ev])) (hg : w.grownBy w1 sv.ownBlock) : GW w1 base sv' (L ++ [(y, ev)]) := by
  have f : Fr w w1 (fun k => sv.ownBlock = some k) := Fr.grown hg (fun k hk => hk)
  refine ⟨?_, fun x hx => ?_, ?_⟩
  · rw [List.length_append, gcs_app]
    exact ho
  · rcases List.mem_append.1 hx with hx | hx
    · exact own_keep (h.eds x hx) f (fun k hk e => own_diff h.row (h.eds x hx) (by decide) k hk e)
    · rw [List.mem_singleton] at hx
      subst hx
      exact own_keep he f (fun k hk e => own_diff h.row he (by decide) k hk e)
  · rw [List.pairwise_append]
    exact ⟨h.apart, List.pairwise_singleton _ _, fun x hx z hz => by rw [List.mem_singleton] at hz; subst hz; exact ha x hx⟩
set_option maxRecDepth 100000 in
theorem clonesW_any {w : World} {P : Nat → Prop} {ao : Option Addr} (L : List Ed) (cap : Nat) (h : EdAt w P ao L) (hl : L.length ≤ 8796093022208) :
    Calls Tryz.prog 154 #[.slice ao L.length cap] w fun r w' => ∃ v, r = .returned v ∧ w'.ownsRow w.heap.size 106 2 v L.length (ecs L) ∧ Below w.heap.size w w' := by
  obtain ⟨i0, hi, hz0, hz1, hz2⟩ := info_parts infoEdge
  cases ao with
  | none =>
    have hL : L = [] := List.eq_nil_of_length_eq_zero (Nat.eq_zero_of_not_pos (fun hp => by obtain ⟨b, off, e, _⟩ := h hp; cases e))
    subst hL
    have hq := nil_eq
    go_enter Tryz.func154, Tryz.ntmps154
    go_wp2
    go_ret
    exact ⟨_, rfl, World.ownsRow_nil _ _ _ _, Below.refl _ _⟩
  | some ad =>
    have HN : Hid (∀ j u, (ecs L)[j]? = some u → (w.alloc (.cells #[] 106)).cell? (ad.add j) = some u) := ecs_cell (h.new (one_new _ _))
    have HO : Hid _ := own_empty (w := w) (base := w.heap.size) (t := 106) (size := 2) (Nat.le_refl _)
    clear h
    have hq := nil_ne
    go_enter Tryz.func154, Tryz.ntmps154
    go_wp2_with (at_builtin; refine wpList_append_own_at _ rfl _ _ 80 rfl w.heap.size 106 i0 (.agg #[.int .i64 0, .int .i64 0]) 2 16 Tryz.underlying80 hi hz0 hz1 hz2 rfl (by decide) _ _ _ rfl HO.out ad L.length cap (ecs L) rfl (ecs_len L) HN.out (ecs_one L) (by unfold maxLen; omega) (by omega) (by simp) ?_)
    intro v' w1 hown hgrow _ _
    obtain ⟨bo, m, c, rfl⟩ := own_any hown
    have HOw : Hid _ := hown
    clear hown
    have hb : Below w.heap.size w w1 := (one_new w _).trans ((Fr.grown (S := fun k => k = w.heap.size) hgrow (fun k hk => by cases hk; rfl)).below (by simp) (fun k hk => by omega))
    go_wp2
    go_ret
    exact ⟨_, rfl, HOw.out, hb⟩
set_option maxRecDepth 100000 in
theorem clonevW_any {w : World} {P : Nat → Prop} {eo : Option Addr} (x : Vx) (ec : Nat) (h : EdAt w P eo x.es) (hl : x.es.length ≤ 8796093022208) :
    Calls Tryz.prog 117 #[.agg #[.int .i64 x.id, .int .i64 x.val, .slice eo x.es.length ec]] w fun r w' => ∃ ev, r = .returned (.agg #[.int .i64 x.id, .int .i64 x.val, ev]) ∧ w'.ownsRow w.heap.size 106 2 ev x.es.length (ecs x.es) ∧ Below w.heap.size w w' := by
  have HE : Hid (∀ W, Below w.heap.size w W → EdAt W P eo x.es) := fun W hb => h.new hb
  have HB : Hid (Below w.heap.size w ((w.alloc (.cells #[.int .i64 x.id, .int .i64 x.val, .slice eo x.es.length ec] 82)).alloc (.cells #[.int .i64 0, .int .i64 0, .slice none 0 0] 82))) := b2 _ _ _
  have X1 : Hid (((w.alloc (.cells #[.int .i64 x.id, .int .i64 x.val, .slice eo x.es.length ec] 82)).alloc (.cells #[.int .i64 0, .int .i64 0, .slice none 0 0] 82)).heap[w.heap.size]? = some (.cells #[.int .i64 x.id, .int .i64 x.val, .slice eo x.es.length ec] 82 (0, 0))) := (Below.heap_alloc _ _ _ (by simp)).trans (heap_alloc_new _ _)
  have X2 : Hid (((w.alloc (.cells #[.int .i64 x.id, .int .i64 x.val, .slice eo x.es.length ec] 82)).alloc (.cells #[.int .i64 0, .int .i64 0, .slice none 0 0] 82)).heap[w.heap.size + 1]? = some (.cells #[.int .i64 0, .int .i64 0, .slice none 0 0] 82 (0, 0))) := by
    have := heap_alloc_new (w.alloc (.cells #[.int .i64 x.id, .int .i64 x.val, .slice eo x.es.length ec] 82)) (.cells #[.int .i64 0, .int .i64 0, .slice none 0 0] 82)
    rw [World.size_alloc] at this
    exact this
  clear h
  go_enter Tryz.func117, Tryz.ntmps117
  go_wp2_with (go_at_call 154; refine (clonesW_any x.es ec (HE.out _ HB.out) hl).mono ?_; rintro r w1 ⟨ev, rfl, hE1, hb1⟩; obtain ⟨bo, mm, c, rfl⟩ := own_any hE1; have HE1 : Hid _ := hE1; clear hE1; have y1 := (hb1.block _ (lt_of_block X1.out)).trans X1.out; have y2 := (hb1.block _ (lt_of_block X2.out)).trans X2.out; obtain ⟨p0, p1, p2⟩ := box3 y1; have p3 := froz (o := 2) y1; obtain ⟨q0, q1, q2⟩ := box3 y2; have q3 := froz (o := 0) y2; have q4 := froz (o := 1) y2; have q5 := froz (o := 2) y2; have Y1 : Hid _ := y1; have Y2 : Hid _ := y2; clear y1 y2)
  have hB1 : Below w.heap.size w w1 := HB.out.trans (hb1.mono HB.out.size)
  generalize hW : World.setCell _ _ _ = W
  have f1 : Fr w1 W (fun k => k = w.heap.size ∨ k = w.heap.size + 1) := by
    rw [← hW]
    have hs1 : ∀ (w' : World) (o : Nat) (u : Value), Fr w' (w'.setCell ⟨w.heap.size, o, none⟩ u) (fun k => k = w.heap.size ∨ k = w.heap.size + 1) := fun w' o u => Fr.setCell (S := fun k => k = w.heap.size ∨ k = w.heap.size + 1) w' ⟨w.heap.size, o, none⟩ u (Or.inl rfl)
    have hs2 : ∀ (w' : World) (o : Nat) (u : Value), Fr w' (w'.setCell ⟨w.heap.size + 1, o, none⟩ u) (fun k => k = w.heap.size ∨ k = w.heap.size + 1) := fun w' o u => Fr.setCell (S := fun k => k = w.heap.size ∨ k = w.heap.size + 1) w' ⟨w.heap.size + 1, o, none⟩ u (Or.inr rfl)
    exact (((hs1 _ _ _).trans (hs2 _ _ _) (fun _ _ h => h)).trans (hs2 _ _ _) (fun _ _ h => h)).trans (hs2 _ _ _) (fun _ _ h => h)
  have b1 : W.heap[w.heap.size + 1]? = some (.cells #[.int .i64 x.id, .int .i64 x.val, .slice bo mm c] 82 (0, 0)) := by
    rw [← hW]
    have h0 : (w1.setCell ⟨w.heap.size, 2, none⟩ (.slice bo mm c)).heap[w.heap.size + 1]? = some (.cells #[.int .i64 0, .int .i64 0, .slice none 0 0] 82 (0, 0)) := (Below.heap_setCell w1 ⟨w.heap.size, 2, none⟩ _ (w.heap.size + 1) (by show w.heap.size + 1 ≠ w.heap.size; omega)).trans Y2.out
    exact cl_set3 h0 _ _ _
  refine bodyPost_ret (v := .agg #[.int .i64 x.id, .int .i64 x.val, .slice bo mm c]) (results_cell_row Tryz.results117 _ _ (w.heap.size + 1) 82 _ (0, 0) _ rfl b1 Tryz.underlying82 rfl sizeVx) rfl ?_
  have hz1 := lt_of_block X2.out
  exact ⟨_, rfl, own_keep (own_low HE1.out (by have := HB.out.size; omega)) f1 (fun k hk e => by have := (World.ownsRow.lt HE1.out k hk).1; have := HB.out.size; rcases e with e | e <;> omega), hB1.trans (f1.below hB1.size (fun k hk => by omega))⟩
theorem cl_oneW {W : World} {b : Nat} {t : TypeId} {u0 : Value} (h : W.heap[b]? = some (.cells #[u0] t (0, 0))) : W.cell? ⟨b, 0, none⟩ = some u0 ∧ W.frozen? ⟨b, 0, none⟩ = false := by
  refine ⟨?_, froz h⟩
  simp [World.cell?, h]
theorem cl_set1W {w : World} {b : Nat} {t : TypeId} {u0 : Value} (h : w.heap[b]? = some (.cells #[u0] t (0, 0))) (x : Value) : (w.setCell ⟨b, 0, none⟩ x).heap[b]? = some (.cells #[x] t (0, 0)) := by
  have hlt := lt_of_block h
  have h' : w.heap[b] = .cells #[u0] t (0, 0) := by simpa [Array.getElem?_eq_getElem hlt] using h
  show (w.heap.modify b _)[b]? = _
  rw [Array.getElem?_eq_getElem (by simpa using hlt), Array.getElem_modify_self, h']
  rfl
theorem sizeGrW : (Tryz.prog.info? 24).map (·.size) = some 1 := by kernel_rfl
set_option maxRecDepth 100000 in
set_option maxHeartbeats 1000000 in
theorem cloneW_any {w : World} {P : Nat → Prop} {ao : Option Addr} (G : List Vx) (cap : Nat) (h : VxAt w P ao G) (hok : ∀ v ∈ G, v.ok) (hl : G.length * 40 ≤ 140737488355328) :
    Calls Tryz.prog 72 #[.agg #[.slice ao G.length cap]] w fun r w' => ∃ sv L, r = .returned (.agg #[sv]) ∧ L.map (·.1) = G ∧ GW w' w.heap.size sv L ∧ Below w.heap.size w w' := by
  obtain ⟨i0, hi, hz0, hz1, hz2⟩ := info_parts mInfoV
  have HG : Hid (VxAt w P ao G) := h
  have HOk : Hid (∀ v ∈ G, v.ok) := hok
  clear h hok
  go_enter Tryz.func72, Tryz.ntmps72
  go_wp2
  go_loopw [3, 9] (fun u i wr => ∃ (j : Nat) (fo : Option Addr) (m c : Nat), j ≤ G.length ∧ u = .slice fo m c ∧ i = .int .i64 j ∧ (∃ L, L.map (·.1) = G.take j ∧ GW wr (w.heap.size + 1 + 1) (.slice fo m c) L) ∧ wr.heap[w.heap.size + 1]? = some (.cells #[.slice none 0 0] 24 (0, 0)) ∧ Below w.heap.size w wr) (fun _ i _ => G.length - (intOf i).toNat)
  case atStart =>
    refine ⟨0, none, 0, 0, Nat.zero_le _, rfl, rfl, ⟨[], rfl, ⟨World.ownsRow_nil _ _ _ _, fun x hx => (by cases hx), List.Pairwise.nil⟩⟩, ?_, b2 _ _ _⟩
    have := heap_alloc_new (w.alloc (.cells #[.slice ao G.length cap] 24)) (.cells #[.slice none 0 0] 24)
    rw [World.size_alloc] at this
    exact this
  case round =>
    obtain ⟨j, fo, m, c, hj, rfl, rfl, ⟨L, hL, hR⟩, hq, hb⟩ := hrel
    have hLl : L.length = j := by have := congrArg List.length hL; rw [List.length_map, List.length_take] at this; omega
    by_cases hlt : j < G.length
    · obtain ⟨b, off, rfl, hP, hc⟩ := HG.out (by omega)
      obtain ⟨eo, ec, e0, e1, e2, e3⟩ := hc j hlt
      have hbb := lt_cell e0
      have d0 := (hb.cell (p := ⟨b, off + j * 3, none⟩) hbb).trans e0
      have d1 := (hb.cell (p := ⟨b, off + j * 3 + 1, none⟩) hbb).trans e1
      have d2 := (hb.cell (p := ⟨b, off + j * 3 + 2, none⟩) hbb).trans e2
      have HE : Hid (EdAt w P eo G[j].es) := e3
      have hlen : G[j].es.length ≤ 8796093022208 := (HOk.out _ (List.getElem_mem hlt)).len
      have HS : Hid (G.take (j + 1) = G.take j ++ [G[j]]) := List.take_succ_eq_append_getElem hlt
      generalize G[j] = y at d0 d1 d2 HE hlen HS
      have HLg : Hid (L.length = j) := hLl
      have HL : Hid (L.map (·.1) = G.take j) := hL
      have HR : Hid _ := hR
      have HQ : Hid _ := hq
      have HB : Hid _ := hb
      have lq := lt_of_block hq
      clear e0 e1 e2 e3 hc hR hq hb hL hLl
      go_wp2_with (first
        | (go_at_call 117; refine (clonevW_any y ec (EdAt.new HE.out (HB.out.alloc HB.out.size _)) hlen).mono ?_; rintro r w1 ⟨ev, rfl, hE1, hb1⟩; obtain ⟨bo, mm, bc', rfl⟩ := own_any hE1; have hR1 := GW.new (GW.new HR.out (one_new wr _)) hb1; have lw1 := hb1.size; have HE1 : Hid _ := hE1; have HR1 : Hid _ := hR1; have hq1 := (hb1.block _ (by rw [World.size_alloc]; omega)).trans ((Below.heap_alloc wr _ _ lq).trans HQ.out); have HQ1 : Hid _ := hq1; have HB1 : Hid _ := (HB.out.alloc HB.out.size _).trans (hb1.mono (by rw [World.size_alloc]; have := HB.out.size; omega)); clear hq1 hE1 hR1 hb1)
        | (at_builtin; refine wpList_append_own_at _ rfl _ _ 22 rfl (w.heap.size + 1 + 1) 82 i0 (.agg #[.int .i64 0, .int .i64 0, .slice none 0 0]) 3 40 Tryz.underlying22 hi hz0 hz1 hz2 rfl (by decide) _ _ _ rfl (own_new HR1.out.row (one_new w1 (.cells #[.int .i64 y.id, .int .i64 y.val, .slice bo mm bc'] 82))) ⟨w1.heap.size, 0, none⟩ 1 1 [.int .i64 y.id, .int .i64 y.val, .slice bo mm bc'] rfl rfl (three_new (heap_alloc_new _ _)) (by intro u hu; simp at hu; rcases hu with rfl | rfl | rfl <;> rfl) (by rw [HLg.out]; unfold maxLen; omega) (by rw [HLg.out]; omega) (by rw [World.size_alloc] at lw1; simp; omega) ?_))
      intro v' w4 hown hgrow _ hat
      have hR4 := GW.app (y := y) (HR1.out.new (one_new w1 (.cells #[.int .i64 y.id, .int .i64 y.val, .slice bo mm bc'] 82))) (own_new (own_low HE1.out (by rw [World.size_alloc]; have := lt_of_block HQ.out; omega)) (one_new w1 _)) (fun x hx k hk e => by have := (((HR.out.eds x hx)).lt k hk).2; have := (World.ownsRow.lt HE1.out k e).1; rw [World.size_alloc] at this; omega) hown hgrow
      have f4 : Fr (w1.alloc (.cells #[.int .i64 y.id, .int .i64 y.val, .slice bo mm bc'] 82)) w4 (fun k => Value.ownBlock (.slice fo m c) = some k) := Fr.grown hgrow (fun k hk => hk)
      have hB4 : Below w.heap.size w w4 := (HB1.out.alloc HB1.out.size _).trans (f4.below (HB1.out.alloc HB1.out.size _).size (fun k hk => by have := (HR.out.row.lt k hk).1; omega))
      have hq4 := (f4.block _ (by rw [World.size_alloc]; have := lt_of_block HQ1.out; omega) (fun hk => by have := (HR.out.row.lt _ hk).1; omega)).trans ((Below.heap_alloc w1 _ _ (lt_of_block HQ1.out)).trans HQ1.out)
      obtain ⟨ao', m', c', rfl⟩ := own_any hown
      have HR4 : Hid _ := hR4
      have HB4 : Hid _ := hB4
      have HQ4 : Hid _ := hq4
      clear hR4 hB4 hq4 hown hgrow hat f4
      go_wp2
      go_roundw
      case rel => exact ⟨j + 1, _, _, _, by omega, rfl, by go_num, ⟨_, by rw [HS.out, List.map_append, HL.out]; rfl, HR4.out⟩, HQ4.out, HB4.out⟩
      case measure => simp [intOf]; omega
    · obtain rfl : j = G.length := by omega
      rw [List.take_length] at hL
      obtain ⟨p0, p1⟩ := cl_oneW hq
      have HR : Hid _ := hR
      have HL : Hid _ := hL
      clear hR hL
      go_wp2
      refine bodyPost_ret (v := .agg #[.slice fo m c]) (results_cell_row Tryz.results72 _ _ (w.heap.size + 1) 24 _ (0, 0) _ rfl (cl_set1W hq _) Tryz.underlying24 rfl sizeGrW) rfl ?_
      exact ⟨_, L, rfl, HL.out, GW.low (HR.out.keep (Fr.setCell (S := fun k => k = w.heap.size + 1) wr ⟨w.heap.size + 1, 0, none⟩ _ rfl) (fun k e => by omega)) (by omega), hb.trans ((Fr.setCell (S := fun k => k = w.heap.size + 1) wr ⟨w.heap.size + 1, 0, none⟩ _ rfl).below hb.size (fun k hk => by omega))⟩
end Go.Proofs.YtnhijofnhflklaaGreat
end

section
/- mut.Apply: the graph behind all requests, and how many changed something. -/
namespace Go.Proofs.YtnhijofnhflklaaGreat
open Go.RowKit Go.Sort
theorem res_ctU {fn : Func} {p u : Tmp} {ty : TypeId} (h : fn.results = #[.cell p ty, .tmp u]) (tmps : Array Value) (w : World) (g : Nat) (t : TypeId) (cs : Array Value) (fr : Nat × Nat) (d : TypeDesc)
    (hp : tmps.getD p undef = .pointer (some ⟨g, 0, none⟩)) (hg : w.heap[g]? = some (.cells cs t fr))
    (hu : Tryz.prog.underlying ty = some d) (hd : (match d with | .struct _ | .array _ _ => true | _ => false) = true) (hi : (Tryz.prog.info? ty).map (·.size) = some cs.size) :
    (results fn tmps).run Tryz.prog w = .ok (.tuple #[.agg cs, tmps.getD u undef]) w := by
  rw [results_cell_tmp h, hp]
  have := run_loadVar_row (P := Tryz.prog) w g t ty cs fr d hg hu (by cases d <;> first | rfl | exact hd) hi
  simp [asAddr, this]
/-- What the loop holds. -/
structure AP (w wr : World) (G : List Vx) (C : List Mu) (v : Value) (q : Nat) (n : Nat) : Prop where
  graph : ∃ sv L, wr.heap[w.heap.size]? = some (.cells #[sv] 24 (0, 0)) ∧ GW wr (w.heap.size + 1 + 1) sv L ∧ L.map (·.1) = (runU (G, 0) (C.take q)).1
  cnt : n = (runU (G, 0) (C.take q)).2
  out : wr.heap[w.heap.size + 1]? = some (.cells #[.slice none 0 0] 24 (0, 0))
  row : UO wr (w.heap.size + 1 + 1) v C
  low : Below w.heap.size w wr
  size : w.heap.size + 1 + 1 ≤ wr.heap.size
theorem UO.shape {w : World} {base : Nat} {v : Value} {L : List Mu} (h : UO w base v L) : ∃ ao c, v = .slice ao L.length c := by
  rcases h.2 with ⟨h1, h2⟩ | ⟨g, cap, cur, h1, _⟩
  · exact ⟨none, 0, by rw [h1, h2]⟩
  · exact ⟨_, _, h1⟩
theorem UO.shapeN {w : World} {base : Nat} {v : Value} {L : List Mu} (h : UO w base v L) : ∃ ao n c, v = .slice ao n c ∧ n = L.length := by
  obtain ⟨ao, c, e⟩ := h.shape
  exact ⟨ao, _, c, e, rfl⟩
theorem own_keepU {w w' : World} {base : Nat} {v : Value} {C : List Mu} {S : Nat → Prop} (h : UO w base v C) (f : Fr w w' S) (hS : ∀ k, v.ownBlock = some k → ¬ S k) : UO w' base v C := own_keep h f hS
theorem own_tagU {w : World} {base : Nat} {v : Value} {C : List Mu} (h : UO w base v C) {k : Nat} (hk : v.ownBlock = some k) {B : Nat} : ¬ GT w B k := by
  rintro ⟨_, cur, t, f, hg, ht⟩
  rcases h.2 with ⟨rfl, _⟩ | ⟨g, cap, cur', rfl, _, hg', _⟩
  · cases hk
  · cases hk
    rw [hg'] at hg
    cases hg
    rcases ht with ht | ht <;> exact absurd ht (by decide)
set_option maxRecDepth 100000 in
set_option maxHeartbeats 2000000 in
theorem apply_any {w : World} {P Q : Nat → Prop} {ao bo : Option Addr} (G : List Vx) (cap : Nat) (L : List Mu) (cap2 : Nat) (hG : VxAt w P ao G) (hok : ∀ v ∈ G, v.ok) (hf : Fine G) {N : Nat} (hu : Up N G) (hN : N + L.length ≤ 1073741824) (hL : UsAt w Q bo L) (hk : ∀ m ∈ L, 1 ≤ m.k ∧ m.k ≤ 4) :
    Calls Tryz.prog 87 #[.agg #[.slice ao G.length cap], .slice bo L.length cap2] w fun r w' => ∃ sv M, r = .returned (.tuple #[.agg #[sv], .int .i64 (appG G L).2]) ∧ M.map (·.1) = (appG G L).1 ∧ GW w' w.heap.size sv M ∧ Below w.heap.size w w' := by
  have hGl : G.length ≤ 1073741824 := by have := hu.1; omega
  obtain ⟨W0, hW0⟩ : ∃ W0, (w.alloc (.cells #[.slice ao G.length cap] 24)).alloc (.cells #[.slice none 0 0] 24) = W0 := ⟨_, rfl⟩
  have hb0 : Below w.heap.size w W0 := by rw [← hW0]; exact b2 _ _ _
  have hs0 : W0.heap.size = w.heap.size + 1 + 1 := by rw [← hW0, World.size_alloc, World.size_alloc]
  have hg0 : W0.heap[w.heap.size]? = some (.cells #[.slice ao G.length cap] 24 (0, 0)) := by rw [← hW0]; exact (Below.heap_alloc _ _ _ (by simp)).trans (heap_alloc_new _ _)
  have hr0 : W0.heap[w.heap.size + 1]? = some (.cells #[.slice none 0 0] 24 (0, 0)) := by
    have := heap_alloc_new (w.alloc (.cells #[.slice ao G.length cap] 24)) (.cells #[.slice none 0 0] 24)
    rw [World.size_alloc, hW0] at this
    exact this
  have HG0 : Hid _ := hG.new hb0
  have HL0 : Hid _ := hL.new hb0
  have HOk : Hid _ := hok
  have HFi : Hid _ := hf
  have HUp : Hid _ := hu
  have HK : Hid _ := hk
  have HB0 : Hid _ := hb0
  have HS0 : Hid _ := hs0
  have Hg0 : Hid _ := hg0
  have Hr0 : Hid _ := hr0
  obtain ⟨p0, p1⟩ := cl_oneW hg0
  have HL : Hid _ := hL
  clear hG hL hok hf hu hk hb0 hs0 hg0 hr0
  go_enter Tryz.func87, Tryz.ntmps87
  go_upto_region 1 with (fail)
  go_upto_region 2 with (first | (go_at_call 72; refine (cloneW_any (w := W0) G cap HG0.out HOk.out (by omega)).mono ?_; rintro r w1 ⟨sv, M, rfl, hM, hgw, hb1⟩; obtain ⟨so, sm, sc, rfl⟩ := own_any hgw.row; have hq1 := (hb1.block _ (by rw [HS0.out]; omega)).trans Hg0.out; obtain ⟨q0, q1⟩ := cl_oneW hq1; have HM : Hid _ := hM; have HGW : Hid _ := hgw; have HB1 : Hid _ := hb1; have HQ1 : Hid _ := hq1; clear hM hgw hb1 hq1))
  generalize hW2 : World.setCell _ _ _ = W2
  have fs : Fr w1 W2 (fun k => k = w.heap.size) := by rw [← hW2]; exact Fr.setCell (S := fun k => k = w.heap.size) w1 ⟨w.heap.size, 0, none⟩ _ rfl
  have hBw1 : Below w.heap.size w w1 := HB0.out.trans (HB1.out.mono HB0.out.size)
  have hB2 : Below w.heap.size w W2 := hBw1.trans (fs.below hBw1.size (fun k e => by omega))
  have hg2 : W2.heap[w.heap.size]? = some (.cells #[.slice so sm sc] 24 (0, 0)) := by rw [← hW2]; exact cl_set1W HQ1.out _
  have hr2 : W2.heap[w.heap.size + 1]? = some (.cells #[.slice none 0 0] 24 (0, 0)) := (fs.block _ (by have := HB1.out.size; have := HS0.out; omega) (by omega)).trans ((HB1.out.block _ (by have := HS0.out; omega)).trans Hr0.out)
  have hgw2 : GW W2 (w.heap.size + 1 + 1) (.slice so sm sc) M := by
    have := HGW.out
    rw [HS0.out] at this
    exact this.keep fs (fun k e => by omega)
  have hs2 : w.heap.size + 1 + 1 ≤ W2.heap.size := by have := fs.size; have := HB1.out.size; have := HS0.out; omega
  have HL2 : Hid _ := UsAt.new HL.out hB2
  have HG2 : Hid _ := hg2
  have HR2 : Hid _ := hr2
  have HGW2 : Hid _ := hgw2
  have HB2 : Hid _ := hB2
  have HS2 : Hid _ := hs2
  clear hW2 fs hBw1 hB2 hg2 hr2 hgw2 hs2 HGW HQ1 HB1 HB0 HS0 Hg0 Hr0 HG0 HL0 hW0 p0 p1 q0 q1
  have hLl : L.length ≤ 1073741824 := by omega
  go_wp2_with (first | (go_at_call 142; refine (thatcount_any (w := W2) L cap2 HL2.out hLl).mono ?_; rintro r w3 ⟨v, rfl, hv, hb3⟩; obtain ⟨vo, nC, vc, rfl, hnC⟩ := UO.shapeN hv; have HV : Hid _ := hv; have HNC : Hid _ := hnC; clear hnC; have HB3 : Hid _ := hb3; clear hv hb3))
  have HCk : Hid (∀ m ∈ thatC L, 1 ≤ m.k ∧ m.k ≤ 4) := fun m hm => HK.out m (thatC_mem hm)
  have HCl : Hid ((thatC L).length ≤ L.length) := thatC_len L
  have HAp : Hid (appG G L = runU (G, 0) (thatC L)) := rfl
  generalize thatC L = C at HV HNC HCk HCl HAp
  have hnl : nC ≤ 1073741824 := by have := HCl.out; have := HNC.out; omega
  go_loopw [6, 14] (fun u i wr => ∃ q n : Nat, q ≤ nC ∧ n ≤ q ∧ u = .int .i64 n ∧ i = .int .i64 q ∧ AP w wr G C (.slice vo nC vc) q n) (fun _ i _ => nC - (intOf i).toNat)
  case atStart =>
    refine ⟨0, 0, Nat.zero_le _, Nat.le_refl _, rfl, rfl, ⟨⟨_, M, (HB3.out.block _ (by have := HS2.out; omega)).trans HG2.out, HGW2.out.new HB3.out, HM.out⟩, rfl, (HB3.out.block _ (by have := HS2.out; omega)).trans HR2.out, own_low HV.out HS2.out, HB2.out.trans (HB3.out.mono HB2.out.size), by have := HB3.out.size; have := HS2.out; omega⟩⟩
  case round =>
    obtain ⟨q, n, hq, hnq, rfl, rfl, ⟨sv, L1, hg, hgw, hL1⟩, hcnt, hout, hrow, hlow, hsize⟩ := hrel
    clear HG2 HR2 HGW2 HB2 HS2 HB3 HV HM
    by_cases hlt : q < nC
    · have hqC : q < C.length := by rw [← HNC.out]; exact hlt
      have h5 : wr.ownsRow (w.heap.size + 1 + 1) 95 4 (.slice vo nC vc) nC (C.flatMap muCells) := by have h := hrow; unfold UO at h; rwa [← HNC.out] at h
      obtain ⟨g, vc', cur, hv1, _⟩ := own_blk h5 (by omega)
      cases hv1
      clear h5
      have hcell := UO.cells hrow hqC
      have HT : Hid (runU (G, 0) (C.take (q + 1)) = stepU (runU (G, 0) (C.take q)) C[q]) := by show _ = _; rw [List.take_succ_eq_append_getElem hqC, runU_snoc]
      have hkq := HCk.out C[q] (List.getElem_mem hqC)
      generalize C[q] = x at hcell HT hkq
      obtain ⟨c0, c1, c2, c3⟩ := hcell
      have hfin : Fine (L1.map (·.1)) := by rw [hL1]; exact runU_fine HFi.out _
      have hup : Up (N + nC) (L1.map (·.1)) := by
        rw [hL1]
        have := runU_up (s := (G, 0)) HFi.out HUp.out (C.take q)
        rw [List.length_take, Nat.min_eq_left (by omega)] at this
        exact ⟨by have := this.1; omega, fun v hv => by have := this.2 v hv; omega⟩
      have Hfin : Hid _ := hfin
      have Hup : Hid _ := hup
      have Hkq : Hid _ := hkq
      have Hg : Hid _ := hg
      have Hgw : Hid _ := hgw
      have HL1 : Hid _ := hL1
      have Hcnt : Hid _ := hcnt
      have Hout : Hid _ := hout
      have Hrow : Hid _ := hrow
      have Hlow : Hid _ := hlow
      have Hsize : Hid _ := hsize
      have hNn : N + nC ≤ 1073741824 := by have := HCl.out; have := HNC.out; omega
      clear hfin hup hkq hg hgw hL1 hcnt hout hrow hlow hsize hqC
      go_upto_region 6 with (fail)
      generalize hW : World.alloc wr _ = W
      have hbW : Below wr.heap.size wr W := by rw [← hW]; exact one_new _ _
      have hbox : W.heap[wr.heap.size]? = some (.cells #[.int .i64 x.k, .int .i64 x.i, .int .i64 x.t, .int .i64 x.v] 95 (0, 0)) := by rw [← hW]; exact heap_alloc_new _ _
      obtain ⟨b0, b1, b2, b3⟩ := u_cells hbox
      have HBW : Hid _ := hbW
      have hlg := lt_of_block Hg.out
      have HgW : Hid _ := (hbW.block _ hlg).trans Hg.out
      have HgwW : Hid _ := Hgw.out.new hbW
      have HSW : Hid (w.heap.size + 1 + 1 ≤ W.heap.size) := by have := hbW.size; have := Hsize.out; show _ ≤ _; omega
      clear hW hbW hbox c0 c1 c2 c3 hlg
      cases hr : (doG (L1.map (·.1)) x).2
      all_goals
        have HR : Hid _ := hr
        go_upto_region 8 with (first | (go_at_call 143; refine (do_any (w := W) HgW.out HgwW.out (by omega) HSW.out Hfin.out Hup.out hNn Hkq.out).mono ?_; rw [hr]; rintro r w5 ⟨sv', L', rfl, e1, e2, e3, e4⟩; have E1 : Hid _ := e1; have E2 : Hid _ := e2; have E3 : Hid _ := e3; have E4 : Hid _ := e4; clear e1 e2 e3 e4))
        have hb5 : Below w.heap.size w w5 := (Hlow.out.trans (HBW.out.mono Hlow.out.size)).trans (E4.out.below (by have := HSW.out; omega) (fun k e => by rcases e with e | ⟨e, _⟩ <;> omega))
        have ho5 := (E4.out.block (w.heap.size + 1) (by have := HSW.out; omega) (fun e => by rcases e with e | ⟨e, _⟩ <;> omega)).trans ((HBW.out.block _ (by have := Hsize.out; omega)).trans Hout.out)
        have hrow5 := own_keepU (UO.new Hrow.out HBW.out) E4.out (fun k hk e => by
          rcases e with e | e
          · have := (World.ownsRow.lt Hrow.out k hk).1; omega
          · exact own_tagU (UO.new Hrow.out HBW.out) hk e)
        have hst : (runU (G, 0) (C.take (q + 1))) = ((doG (L1.map (·.1)) x).1, n + if (doG (L1.map (·.1)) x).2 then 1 else 0) := by
          rw [HT.out, Hcnt.out]
          unfold stepU
          rw [← HL1.out]
        have hap : ∀ n', n' = (n + if (doG (L1.map (·.1)) x).2 then 1 else 0) → AP w w5 G C (.slice (some ⟨g, 0, none⟩) nC vc) (q + 1) n' := fun n' hn' => ⟨⟨sv', L', E2.out, E3.out, by rw [E1.out, hst]⟩, by rw [hst]; exact hn', ho5, hrow5, hb5, by have := E4.out.size; have := HSW.out; omega⟩
        have HAP : Hid _ := hap
        clear hb5 ho5 hrow5 hst hap hr b0 b1 b2 b3
      · go_wp2
        go_roundw
        case rel => exact ⟨q + 1, n, by omega, by omega, rfl, by go_num, HAP.out n (by rw [HR.out]; rfl)⟩
        case measure => simp [intOf]; omega
      · go_wp2
        go_roundw
        case rel => exact ⟨q + 1, n + 1, by omega, by omega, by go_num, by go_num, HAP.out (n + 1) (by rw [HR.out]; rfl)⟩
        case measure => simp [intOf]; omega
    · obtain rfl : q = nC := by omega
      have hL2 : L1.map (·.1) = (appG G L).1 := by rw [hL1, HAp.out, HNC.out, List.take_length]
      have hn2 : n = (appG G L).2 := by rw [hcnt, HAp.out, HNC.out, List.take_length]
      obtain ⟨so', sm', sc', rfl⟩ := own_any hgw.row
      obtain ⟨g0, g1⟩ := cl_oneW hg
      obtain ⟨r0, r1⟩ := cl_oneW hout
      have HL2 : Hid _ := hL2
      have HN2 : Hid _ := hn2
      have Hgw : Hid _ := hgw
      clear hL1 hcnt hL2 hn2 hgw
      go_wp2
      refine bodyPost_ret (v := .tuple #[.agg #[.slice so' sm' sc'], .int .i64 n]) (res_ctU Tryz.results87 _ _ (w.heap.size + 1) 24 _ (0, 0) _ rfl (cl_set1W hout _) Tryz.underlying24 rfl sizeGrW) rfl ?_
      have fs := Fr.setCell (S := fun k => k = w.heap.size + 1) wr ⟨w.heap.size + 1, 0, none⟩ (.slice so' sm' sc') rfl
      exact ⟨_, L1, by rw [HN2.out], HL2.out, GW.low (Hgw.out.keep fs (fun k e => by omega)) (by omega), hlow.trans (fs.below hlow.size (fun k e => by omega))⟩
end Go.Proofs.YtnhijofnhflklaaGreat
end

section
/- How a box lies in memory: a map of slices, each of them a row of its own. No walk here. -/
namespace Go.Proofs.YtnhijofnhflklaaGreat
open Go.RowKit Go.Maps

/-- A map's element as it is: a slice's header. -/
def heldR (v : Value) : Option (DataW Value × List MemPlace) := some (.held v, [])
def nilS : Value := .slice none 0 0
/-- The slice that stands at a vertex. -/
def hdOf (D : DataW Value) (id : Int) : Value :=
  match D.atKey (.int .i64 id) (.held nilS) with
  | .held v => v
  | _ => nilS
theorem hd_of {D : DataW Value} {id : Int} {v : Value} {ps : List MemPlace} (h : heldR v = some (D.atKey (.int .i64 id) (.held nilS), ps)) : v = hdOf D id := by
  unfold heldR at h
  simp only [Option.some.injEq, Prod.mk.injEq] at h
  unfold hdOf
  rw [← h.1]
theorem key_lit (id : Int) : WideAt.IsKeyLit (.int .i64 id) := trivial
theorem key_ne {i j : Int} (h : i ≠ j) : (Lit.int .i64 i) ≠ (Lit.int .i64 j) := by
  intro e
  cases e
  exact h rfl
theorem hd_put_same {D : DataW Value} (hD : IsMap D) (id : Int) (v : Value) : hdOf (D.put (.int .i64 id) (.held v)) id = v := by
  unfold hdOf
  rw [atKey_put_same hD (key_lit id)]
theorem hd_put_other {D : DataW Value} {id i : Int} (h : i ≠ id) (v : Value) : hdOf (D.put (.int .i64 id) (.held v)) i = hdOf D i := by
  unfold hdOf
  rw [atKey_put_other (key_ne h)]
theorem hd_del_same {D : DataW Value} (id : Int) : hdOf (D.del (.int .i64 id)) id = nilS := by
  unfold hdOf
  rw [atKey_del_same]
theorem hd_del_other {D : DataW Value} {id i : Int} (h : i ≠ id) : hdOf (D.del (.int .i64 id)) i = hdOf D i := by
  unfold hdOf
  rw [atKey_del_other (key_ne h)]
theorem keyOf_i64 {id : Int} (h : I64 id) : keyOf Tryz.prog 2 (.int .i64 id) = some (.int .i64 id) := keyOf_int_mk Tryz.underlying2 (WalkArith.wf_i64 ⟨h.1, h.2⟩)
theorem law64 : Keyed Tryz.prog 2 := int_keyed Tryz.underlying2

/-- A slice that owns messages, of a type of messages. -/
def Mo (w : World) (t : TypeId) (v : Value) (L : List Msg) : Prop := w.ownsRow 0 t 4 v L.length (L.flatMap msgCells)
theorem msg_len (L : List Msg) : (L.flatMap msgCells).length = L.length * 4 := by
  induction L with
  | nil => rfl
  | cons m L ih => rw [List.flatMap_cons, List.length_append, ih]; simp [msgCells]; omega
theorem Mo.nil (w : World) (t : TypeId) : Mo w t nilS [] := World.ownsRow_nil w 0 t 4
theorem Mo.kept {w w' : World} {t : TypeId} {v : Value} {L : List Msg} (h : Mo w t v L) {row : Option Nat} (hg : w.grownBy w' row) (hne : v.ownBlock = none ∨ v.ownBlock ≠ row) : Mo w' t v L := World.ownsRow.kept h hg hne
theorem Mo.alloc {w : World} {t : TypeId} {v : Value} {L : List Msg} (h : Mo w t v L) (o : Obj) : Mo (w.alloc o) t v L := World.ownsRow.alloc h o
theorem Mo.lt {w : World} {t : TypeId} {v : Value} {L : List Msg} (h : Mo w t v L) : ∀ k, v.ownBlock = some k → k < w.heap.size := fun k hk => (World.ownsRow.lt h k hk).2
theorem Mo.fr {w w' : World} {t : TypeId} {v : Value} {L : List Msg} (h : Mo w t v L) {S : Nat → Prop} (f : Fr w w' S) (hs : ∀ k, v.ownBlock = some k → ¬ S k) : Mo w' t v L := by
  refine ⟨h.1, ?_⟩
  rcases h.2 with h2 | ⟨g, cap, cur, rfl, h3, h4, h5⟩
  · exact Or.inl h2
  · refine Or.inr ⟨g, cap, cur, rfl, h3, (f.block g ?_ (hs g rfl)).trans h4, h5⟩
    exact (Array.getElem?_eq_some_iff.1 h4).1
theorem Mo.new {w w' : World} {t : TypeId} {v : Value} {L : List Msg} (h : Mo w t v L) (hb : Below w.heap.size w w') : Mo w' t v L := h.fr (Fr.ofBelow hb (fun _ => False)) (fun _ _ h => h)
/-- Its block holds messages. -/
theorem Mo.tag {w : World} {t : TypeId} {v : Value} {L : List Msg} (h : Mo w t v L) : ∀ k, v.ownBlock = some k → ∃ cur, w.heap[k]? = some (.cells cur t (0, 0)) := by
  intro k hk
  rcases h.2 with ⟨rfl, _⟩ | ⟨g, cap, cur, rfl, _, hg, _⟩
  · cases hk
  · simp only [Value.ownBlock, Option.some.injEq] at hk
    subst hk
    exact ⟨cur, hg⟩
theorem Mo.shape {w : World} {t : TypeId} {v : Value} {L : List Msg} (h : Mo w t v L) : ∃ ao c, v = .slice ao L.length c := by
  rcases h.2 with ⟨rfl, h0⟩ | ⟨g, cap, cur, rfl, _⟩
  · exact ⟨none, 0, by rw [h0]⟩
  · exact ⟨_, _, rfl⟩
theorem cells_get (L : List Msg) (j : Nat) (h : j < L.length) : (L.flatMap msgCells)[j * 4]? = some (.int .i64 L[j].f) ∧ (L.flatMap msgCells)[j * 4 + 1]? = some (.int .i64 L[j].t) ∧ (L.flatMap msgCells)[j * 4 + 2]? = some (.int .i64 L[j].a) ∧ (L.flatMap msgCells)[j * 4 + 3]? = some (.int .i64 L[j].v) := by
  induction L generalizing j with
  | nil => exact absurd h (by simp)
  | cons m L ih =>
    rw [List.flatMap_cons]
    cases j with
    | zero => simp [msgCells]
    | succ j =>
      have := ih j (by simpa using h)
      have e : ∀ c, (msgCells m ++ L.flatMap msgCells)[(j + 1) * 4 + c]? = (L.flatMap msgCells)[j * 4 + c]? := fun c => by
        rw [List.getElem?_append_right (by simp [msgCells]; omega)]
        congr 1
        simp [msgCells]
        omega
      have e0 := e 0
      rw [Nat.add_zero, Nat.add_zero] at e0
      rw [e0, e 1, e 2, e 3]
      simpa using this
theorem Mo.at_ {w : World} {t : TypeId} {ao : Option Addr} {n c : Nat} {L : List Msg} (h : Mo w t (.slice ao n c) L) : MsAt w (fun k => (Value.slice ao n c).ownBlock = some k) ao L := by
  intro hl
  rcases h.2 with ⟨h1, h2⟩ | ⟨g, cap, cur, h1, _, hg, hn, hc, hcs, ht⟩
  · omega
  · cases h1
    refine ⟨g, 0, rfl, rfl, fun j hj => ?_⟩
    have hcell : ∀ i u, (L.flatMap msgCells)[i]? = some u → w.cell? ⟨g, 0 + i, none⟩ = some u := by
      intro i u hu
      have := World.ownsRow.cells h (g := g) rfl i u hu
      by_cases e : i = 0
      · subst e; simpa [Addr.add] using this
      · simpa [Addr.add, e] using this
    obtain ⟨a0, a1, a2, a3⟩ := cells_get L j hj
    exact ⟨hcell _ _ a0, by have := hcell _ _ a1; rwa [← Nat.add_assoc] at this, by have := hcell _ _ a2; rwa [← Nat.add_assoc] at this, by have := hcell _ _ a3; rwa [← Nat.add_assoc] at this⟩

/-- A map block that holds messages by their vertices; its block and those of its rows are in S. N: how many were ever put. -/
structure MP (w : World) (S : Nat → Prop) (M N : Nat) (D : DataW Value) (B : List Msg) : Prop where
  own : w.ownsMap Tryz.prog 2 heldR M N D
  inS : S M
  rowS : ∀ id k, (hdOf D id).ownBlock = some k → S k
  rows : ∀ id, Mo w 93 (hdOf D id) (toV B id)
  has : ∀ id, Maps.has D (.int .i64 id) = !(toV B id).isEmpty
  apart : ∀ i j, i ≠ j → (hdOf D i).ownBlock = none ∨ (hdOf D i).ownBlock ≠ (hdOf D j).ownBlock
theorem MP.mapRow {w : World} {S : Nat → Prop} {M N : Nat} {D : DataW Value} {B : List Msg} (h : MP w S M N D B) (id : Int) : (hdOf D id).ownBlock = none ∨ (hdOf D id).ownBlock ≠ some M := by
  cases e : (hdOf D id).ownBlock with
  | none => exact Or.inl rfl
  | some k =>
    refine Or.inr fun e' => ?_
    cases e'
    obtain ⟨cur, hc⟩ := (h.rows id).tag _ e
    obtain ⟨es, clock, hb, _⟩ := h.own
    rw [hc] at hb
    cases hb
/-- Other blocks are written, and new ones laid. -/
theorem MP.kept {w w' : World} {S : Nat → Prop} {M N : Nat} {D : DataW Value} {B : List Msg} (h : MP w S M N D B) {T : Nat → Prop} (f : Fr w w' T) (hd : ∀ k, S k → ¬ T k) : MP w' S M N D B := by
  refine ⟨?_, h.inS, h.rowS, fun id => (h.rows id).fr f (fun k hk => hd k (h.rowS id k hk)), h.has, h.apart⟩
  have hlt := h.own.lt
  obtain ⟨es, clock, hb, r⟩ := h.own
  exact ⟨es, clock, (f.block M hlt (hd M h.inS)).trans hb, r⟩
theorem MP.new {w w' : World} {S : Nat → Prop} {M N : Nat} {D : DataW Value} {B : List Msg} (h : MP w S M N D B) (hb : Below w.heap.size w w') : MP w' S M N D B := h.kept (Fr.ofBelow hb (fun _ => False)) (fun _ _ h => h)
theorem MP.mono {w : World} {S T : Nat → Prop} {M N : Nat} {D : DataW Value} {B : List Msg} (h : MP w S M N D B) (hs : ∀ k, k < w.heap.size → S k → T k) : MP w T M N D B :=
  ⟨h.own, hs _ h.own.lt h.inS, fun id k hk => hs k ((h.rows id).lt k hk) (h.rowS id k hk), h.rows, h.has, h.apart⟩
theorem MP.made (w : World) {S : Nat → Prop} (hb : S w.heap.size) : MP (w.alloc (.map #[] 0)) S w.heap.size 0 (.map []) [] :=
  ⟨World.ownsMap_made w _ _ _, hb, fun _ _ h => (by cases h), fun _ => Mo.nil _ _, fun _ => rfl, fun _ _ _ => Or.inl rfl⟩
/-- A message is put: the row at its vertex has grown, or lies in a new block; then the header is stored. -/
theorem MP.put {w w1 w2 : World} {S : Nat → Prop} {M N : Nat} {D : DataW Value} {B : List Msg} (h : MP w S M N D B) {m : Msg} {v' : Value}
    (hg : w.grownBy w1 (hdOf D m.t).ownBlock) (hrow : Mo w1 93 v' (toV B m.t ++ [m])) (hloc : v'.ownBlock = (hdOf D m.t).ownBlock ∨ ∃ k, v'.ownBlock = some k ∧ w.heap.size ≤ k) (hnew : ∀ k, w.heap.size ≤ k → S k)
    (hown : w2.ownsMap Tryz.prog 2 heldR M (N + 1) (D.put (.int .i64 m.t) (.held v'))) (hg2 : w1.grownBy w2 (some M)) : MP w2 S M (N + 1) (D.put (.int .i64 m.t) (.held v')) (B ++ [m]) := by
  have hD : IsMap D := h.own.isMap
  have hMlt := h.own.lt
  have notM : ∀ i, (hdOf D i).ownBlock = none ∨ (hdOf D i).ownBlock ≠ some M := h.mapRow
  have v'M : v'.ownBlock = none ∨ v'.ownBlock ≠ some M := by
    rcases hloc with e | ⟨k, e, hk⟩
    · rw [e]; exact notM m.t
    · rw [e]; refine Or.inr fun e' => ?_; cases e'; omega
  refine ⟨hown, h.inS, fun id k hk => ?_, fun id => ?_, fun id => ?_, fun i j hij => ?_⟩
  · by_cases e : id = m.t
    · subst e
      rw [hd_put_same hD] at hk
      rcases hloc with e | ⟨q, e, hq⟩
      · rw [e] at hk; exact h.rowS _ _ hk
      · rw [e] at hk; cases hk; exact hnew _ hq
    · rw [hd_put_other e] at hk
      exact h.rowS _ _ hk
  · by_cases e : id = m.t
    · subst e
      rw [hd_put_same hD, toV_snoc_same]
      exact hrow.kept hg2 v'M
    · rw [hd_put_other e, toV_snoc_other B m (fun e' => e e'.symm)]
      refine ((h.rows id).kept hg (h.apart id m.t e)).kept hg2 (notM id)
  · by_cases e : id = m.t
    · subst e
      rw [has_put_same hD (key_lit _), toV_snoc_same]
      simp
    · rw [has_put_other (key_ne e), toV_snoc_other B m (fun e' => e e'.symm)]
      exact h.has id
  · have new_old : ∀ i, i ≠ m.t → (hdOf D i).ownBlock = none ∨ (hdOf D i).ownBlock ≠ v'.ownBlock := by
      intro i hi
      rcases hloc with e | ⟨k, e, hk⟩
      · rw [e]; exact h.apart i m.t hi
      · rw [e]
        cases e2 : (hdOf D i).ownBlock with
        | none => exact Or.inl rfl
        | some q =>
          refine Or.inr fun e' => ?_
          cases e'
          have := (h.rows i).lt _ e2
          omega
    by_cases ei : i = m.t
    · subst ei
      rw [hd_put_same hD, hd_put_other (fun e' => hij e'.symm)]
      rcases new_old j (fun e' => hij e'.symm) with e | e
      · cases e3 : v'.ownBlock with
        | none => exact Or.inl rfl
        | some q => rw [e]; exact Or.inr (by simp)
      · exact Or.inr fun e' => e e'.symm
    · by_cases ej : j = m.t
      · subst ej
        rw [hd_put_same hD, hd_put_other ei]
        exact new_old i ei
      · rw [hd_put_other ei, hd_put_other ej]
        exact h.apart i j hij
/-- A vertex's go. -/
theorem MP.del {w w2 : World} {S : Nat → Prop} {M N : Nat} {D : DataW Value} {B : List Msg} (h : MP w S M N D B) {id : Int} (hown : w2.ownsMap Tryz.prog 2 heldR M N (D.del (.int .i64 id))) (hg2 : w.grownBy w2 (some M)) : MP w2 S M N (D.del (.int .i64 id)) (offV B id) := by
  refine ⟨hown, h.inS, fun i k hk => ?_, fun i => ?_, fun i => ?_, fun i j hij => ?_⟩
  · by_cases e : i = id
    · subst e
      rw [hd_del_same] at hk
      cases hk
    · rw [hd_del_other e] at hk
      exact h.rowS _ _ hk
  · by_cases e : i = id
    · subst e
      rw [hd_del_same, toV_off_same]
      exact Mo.nil _ _
    · rw [hd_del_other e, toV_off_other B e]
      exact (h.rows i).kept hg2 (h.mapRow i)
  · by_cases e : i = id
    · subst e
      rw [has_del_same, toV_off_same]
      rfl
    · rw [has_del_other (key_ne e), toV_off_other B e]
      exact h.has i
  · by_cases ei : i = id
    · subst ei; rw [hd_del_same]; exact Or.inl rfl
    · rw [hd_del_other ei]
      by_cases ej : j = id
      · subst ej
        rw [hd_del_same]
        cases (hdOf D i).ownBlock with
        | none => exact Or.inl rfl
        | some q => exact Or.inr (by simp [nilS, Value.ownBlock])
      · rw [hd_del_other ej]
        exact h.apart i j hij
/-- What the map is, if there is one. -/
def MH (w : World) (S : Nat → Prop) (N : Nat) (B : List Msg) (mv : Value) : Prop := (mv = .map none ∧ B = []) ∨ ∃ (M : Nat) (D : DataW Value), mv = .map (some M) ∧ MP w S M N D B
theorem MH.none {w : World} {S : Nat → Prop} {N : Nat} {B : List Msg} (h : B = []) : MH w S N B (.map Option.none) := Or.inl ⟨rfl, h⟩
theorem MH.some {w : World} {S : Nat → Prop} {N : Nat} {B : List Msg} (M : Nat) (D : DataW Value) (h : MP w S M N D B) : MH w S N B (.map (Option.some M)) := Or.inr ⟨M, D, rfl, h⟩
/-- A box: its blocks are in S. -/
structure BX (w : World) (S : Nat → Prop) (b N : Nat) (B : List Msg) : Prop where
  box : ∃ mv, w.heap[b]? = some (.cells #[mv] 210 (0, 0)) ∧ MH w S N B mv
  inS : S b
theorem MH.kept {w w' : World} {S T : Nat → Prop} {N : Nat} {B : List Msg} {mv : Value} (h : MH w S N B mv) (f : Fr w w' T) (hd : ∀ k, S k → ¬ T k) : MH w' S N B mv := by
  rcases h with ⟨rfl, h⟩ | ⟨M, D, rfl, h⟩
  · exact .none h
  · exact .some M D (h.kept f hd)
theorem MH.mono {w : World} {S T : Nat → Prop} {N : Nat} {B : List Msg} {mv : Value} (h : MH w S N B mv) (hs : ∀ k, k < w.heap.size → S k → T k) : MH w T N B mv := by
  rcases h with ⟨rfl, h⟩ | ⟨M, D, rfl, h⟩
  · exact .none h
  · exact .some M D (h.mono hs)
theorem BX.lt {w : World} {S : Nat → Prop} {b N : Nat} {B : List Msg} (h : BX w S b N B) : b < w.heap.size := by
  obtain ⟨⟨mv, h1, h2⟩, h3⟩ := h
  exact (Array.getElem?_eq_some_iff.1 h1).1
theorem BX.kept {w w' : World} {S T : Nat → Prop} {b N : Nat} {B : List Msg} (h : BX w S b N B) (f : Fr w w' T) (hd : ∀ k, S k → ¬ T k) : BX w' S b N B := by
  have hlt := h.lt
  obtain ⟨⟨mv, h1, h2⟩, h3⟩ := h
  exact ⟨⟨mv, (f.block b hlt (hd b h3)).trans h1, h2.kept f hd⟩, h3⟩
theorem BX.new {w w' : World} {S : Nat → Prop} {b N : Nat} {B : List Msg} (h : BX w S b N B) (hb : Below w.heap.size w w') : BX w' S b N B := h.kept (Fr.ofBelow hb (fun _ => False)) (fun _ _ h => h)
theorem BX.mono {w : World} {S T : Nat → Prop} {b N : Nat} {B : List Msg} (h : BX w S b N B) (hs : ∀ k, k < w.heap.size → S k → T k) : BX w T b N B := by
  have hlt := h.lt
  obtain ⟨⟨mv, h1, h2⟩, h3⟩ := h
  exact ⟨⟨mv, h1, h2.mono hs⟩, hs b hlt h3⟩
theorem BX.more {w : World} {S : Nat → Prop} {b N N' : Nat} {B : List Msg} (h : BX w S b N B) (hn : N ≤ N') : BX w S b N' B := by
  obtain ⟨⟨mv, h1, h2⟩, h3⟩ := h
  refine ⟨⟨mv, h1, ?_⟩, h3⟩
  rcases h2 with ⟨rfl, h⟩ | ⟨M, D, rfl, h⟩
  · exact .none h
  · exact .some M D ⟨h.own.mono hn, h.inS, h.rowS, h.rows, h.has, h.apart⟩
end Go.Proofs.YtnhijofnhflklaaGreat
end
