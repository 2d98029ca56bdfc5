/- CombOrders: its walk. -/
import Derived.Test.YtfajkfngjfhkoaaLawOrdC
import Derived.Outline
namespace Go.Proofs.Ytfajkfngjfhkoaa
open Go.RowKit Go.Maps
theorem ret_marks2 {P : Program} {fn : Func} {R : Ending → World → Prop} {a : Act} {w : World} {v : Value} {D E : Nat} (hne : D ≠ E) (hr : (results fn a.tmps).run P ((w.putObj D (.deferred none)).putObj E (.deferred none)) = .ok v ((w.putObj D (.deferred none)).putObj E (.deferred none))) (hd : a.defers = [{ target := .collected D, args := #[] }, { target := .collected E, args := #[] }]) (hK : w.heap[D]? = some (.deferred (some []))) (hK' : w.heap[E]? = some (.deferred (some []))) (h : R (.returned v) ((w.putObj D (.deferred none)).putObj E (.deferred none))) : bodyPostM Fence.wide 9 P fn R .ret a w := by
  show LeavesInM _ _ _ _ _ _ a.defers _ _
  rw [hd]
  exact ⟨by simp, .inl ⟨_, _, rfl, run_takeDeferred hK, by simp, .inl ⟨_, _, rfl, run_takeDeferred ((World.putObj_heap_other (fun e => hne e.symm)).trans hK'), v, hr, h⟩⟩⟩
theorem one_atP {W : World} {P : Nat → Prop} {g : Nat} {t : TypeId} {m : Msg} (h : W.heap[g]? = some (.cells #[.int .i64 m.f, .int .i64 m.t, .int .i64 m.a, .int .i64 m.v] t (0, 0))) (hP : P g) : MsAt W P (some ⟨g, 0, none⟩) [m] := by
  intro _
  refine ⟨g, 0, rfl, hP, fun j hj => ?_⟩
  obtain rfl : j = 0 := by simp at hj; omega
  obtain ⟨c0, c1, c2, c3⟩ := m_cells h
  exact ⟨c0, c1, c2, c3⟩
theorem turn_idx (turn : Int) (n : Nat) (hn : 0 < n) : ∃ (r0 : Int) (r : Nat), r < n ∧ turn.tmod n = r0 ∧ -(n : Int) < r0 ∧ r0 < n ∧ (r0 + n).tmod n = (r : Int) ∧ (r0 + n) % (n : Int) = (r : Int) := by
  have a := Int.tmod_lt_of_pos turn (b := (n : Int)) (by omega)
  have b := Int.tmod_lt_of_pos (-turn) (b := (n : Int)) (by omega)
  rw [Int.neg_tmod] at b
  have c := Int.emod_nonneg (turn.tmod n + n) (show (n : Int) ≠ 0 by omega)
  have d := Int.emod_lt_of_pos (turn.tmod n + n) (show (0 : Int) < n by omega)
  refine ⟨turn.tmod n, ((turn.tmod n + n) % (n : Int)).toNat, by omega, rfl, by omega, a, ?_, by omega⟩
  rw [Int.tmod_eq_emod_of_nonneg (by omega)]
  omega
theorem two_boxes (w : World) : BX ((w.alloc (.cells #[.map none] 115)).alloc (.cells #[.map none] 115)) (fun k => k = w.heap.size) w.heap.size 0 [] ∧ BX ((w.alloc (.cells #[.map none] 115)).alloc (.cells #[.map none] 115)) (fun k => k = w.heap.size + 1) (w.heap.size + 1) 0 [] := by
  refine ⟨(BX.made w (S := fun k => k = w.heap.size) rfl).kept (Fr.alloc _ _ (fun _ => False)) (fun _ _ h => h), ?_⟩
  have := BX.made (w.alloc (.cells #[.map none] 115)) (S := fun k => k = w.heap.size + 1) (by simp)
  rw [World.size_alloc] at this
  exact this
structure FN (w X : World) : Prop where
  r1 : X.heap[w.heap.size]? = some (.cells #[] 67 (0, 0))
  r2 : X.heap[w.heap.size + 1]? = some (.cells #[] 67 (0, 0))
  b1 : X.heap[w.heap.size + 1 + 1]? = some (.cells #[.slice (some ⟨w.heap.size, 0, none⟩) 0 0] 58 (0, 0))
  b2 : X.heap[w.heap.size + 1 + 1 + 1]? = some (.cells #[.slice (some ⟨w.heap.size + 1, 0, none⟩) 0 0] 58 (0, 0))
  low : Below w.heap.size w X
  size : X.heap.size = w.heap.size + 1 + 1 + 1 + 1
theorem four_new (w : World) : FN w ((((w.alloc (.cells #[] 67)).alloc (.cells #[] 67)).alloc (.cells #[.slice (some ⟨w.heap.size, 0, none⟩) 0 0] 58)).alloc (.cells #[.slice (some ⟨w.heap.size + 1, 0, none⟩) 0 0] 58)) := by
  have e1 := heap_alloc_new w (.cells #[] 67)
  have e2 := heap_alloc_new (w.alloc (.cells #[] 67)) (.cells #[] 67)
  have e3 := heap_alloc_new ((w.alloc (.cells #[] 67)).alloc (.cells #[] 67)) (.cells #[.slice (some ⟨w.heap.size, 0, none⟩) 0 0] 58)
  have e4 := heap_alloc_new (((w.alloc (.cells #[] 67)).alloc (.cells #[] 67)).alloc (.cells #[.slice (some ⟨w.heap.size, 0, none⟩) 0 0] 58)) (.cells #[.slice (some ⟨w.heap.size + 1, 0, none⟩) 0 0] 58)
  simp only [World.size_alloc] at e2 e3 e4
  refine ⟨?_, ?_, ?_, e4, ?_, by simp⟩
  · exact (Below.heap_alloc _ _ _ (by simp <;> omega)).trans ((Below.heap_alloc _ _ _ (by simp <;> omega)).trans ((Below.heap_alloc _ _ _ (by simp)).trans e1))
  · exact (Below.heap_alloc _ _ _ (by simp <;> omega)).trans ((Below.heap_alloc _ _ _ (by simp)).trans e2)
  · exact (Below.heap_alloc _ _ _ (by simp)).trans e3
  · exact ((((Below.refl _ w).alloc (Nat.le_refl _) _).alloc (by simp) _).alloc (by simp <;> omega) _).alloc (by simp <;> omega) _
theorem Mo.zero_at {w : World} {t : TypeId} {ao : Option Addr} {n c : Nat} {L : List Msg} (h : Mo w t (.slice ao n c) L) (hl : 0 < L.length) : ∃ g, ao = some ⟨g, 0, none⟩ ∧ ∀ j (hj : j < L.length), w.cell? ⟨g, j * 4, none⟩ = some (.int .i64 L[j].f) ∧ w.cell? ⟨g, j * 4 + 1, none⟩ = some (.int .i64 L[j].t) ∧ w.cell? ⟨g, j * 4 + 2, none⟩ = some (.int .i64 L[j].a) ∧ w.cell? ⟨g, j * 4 + 3, none⟩ = some (.int .i64 L[j].v) := by
  obtain ⟨b, off, e, _, hc⟩ := h.at_ hl
  rcases h.2 with ⟨h1, h2⟩ | ⟨g, cap, cur, h1, _⟩
  · omega
  · cases h1
    cases e
    refine ⟨_, rfl, fun j hj => ?_⟩
    have := hc j hj
    simpa using this
theorem sorted_step {L : List Msg} {j : Nat} (h : j + 1 < (sortM L).length) : mlt (sortM L)[j + 1] (sortM L)[j] = false := by
  have := List.pairwise_iff_getElem.1 (sortM_sorted L) j (j + 1) (by omega) h (by omega)
  unfold mle at this
  simpa using this
set_option maxRecDepth 100000 in
set_option maxHeartbeats 4000000 in
theorem law_orders5 {w : World} {P : Nat → Prop} {ao : Option Addr} (L : List Msg) (cap : Nat) (turn : Int) (hL : MsAt w P ao L) (hok : ∀ m ∈ L, m.ok) (hl : L.length * 32 ≤ 140737488355328) :
    Calls Try.prog 7 #[.slice ao L.length cap, .int .i64 turn] w fun r w' => r = .returned (.bool true) ∧ Below w.heap.size w w' := by
  have HL : Hid (∀ W, Below w.heap.size w W → MsAt W (fun k => k < w.heap.size) ao L) := fun W hb => (hL.mono (Q := fun k => k < w.heap.size) (fun k hk _ => hk)).new hb
  have HOk : Hid (∀ m ∈ L, m.ok) := hok
  have hl2 : L.length ≤ 4398046511104 := by omega
  clear hL hok
  refine calls_marks Try.func7 rfl ?_
  simp only [Try.ntmps7, List.size_toArray, List.length_cons, List.length_nil, Nat.reduceAdd, Nat.reduceSub, Array.replicate_succ, Array.replicate_zero, List.push_toArray, List.append_toArray, List.nil_append, List.cons_append]
  go_wp2_with (first
    | (go_at_call 24; refine (awake5 _).mono ?_; rintro r w1 ⟨rfl, hb1⟩; have hZ : Below w.heap.size w ((w1.alloc (.cells #[.map none] 115)).alloc (.cells #[.map none] 115)) := (hb1.alloc hb1.size _).alloc (by have := hb1.size; simp; omega) _; have HZ : Hid _ := hZ; clear hZ)
    | (go_at_call 23; refine (new_box _).mono ?_; rintro r wa ⟨rfl, rfl⟩)
    | (go_at_call 27; refine (put_box (two_boxes w1).1 L ao cap ((HL.out _ HZ.out).mono (fun k _ hk e => by have := hb1.size; omega)) HOk.out (by omega) (by simp; omega)).mono ?_; rintro r w4 ⟨rfl, hXa, f4⟩))
  have hs4 := f4.size
  simp only [World.size_alloc] at hs4
  have hXb := (two_boxes w1).2.kept f4 (fun k hk e => by omega)
  have hB4 : Below w.heap.size w w4 := HZ.out.trans (f4.below HZ.out.size (fun k hk => by have := hb1.size; omega))
  obtain ⟨ba, hba⟩ : ∃ ba, w1.heap.size = ba := ⟨_, rfl⟩
  have hsw : w.heap.size ≤ ba := by rw [← hba]; exact hb1.size
  have hXa' : BX w4 (fun k => k = ba ∨ (ba + 1 + 1 ≤ k ∧ k < w4.heap.size)) ba L.length L := by
    have h1 : BX w4 (fun k => k = ba ∨ (ba + 1 + 1 ≤ k ∧ k < w4.heap.size)) w1.heap.size (0 + L.length) ([] ++ L) := hXa.mono (fun k hk h => by
      simp only [World.size_alloc] at h
      rw [hba] at h
      rcases h with h | h
      · exact .inl h
      · exact .inr ⟨h, hk⟩)
    rw [hba, Nat.zero_add, List.nil_append] at h1
    exact h1
  rw [hba] at hXb hs4 ⊢
  have HXa : Hid _ := hXa'
  have HB4 : Hid _ := hB4
  obtain ⟨r, hr⟩ : ∃ r : Nat, 0 < L.length → ∃ r0 : Int, r < L.length ∧ turn.tmod L.length = r0 ∧ -(L.length : Int) < r0 ∧ r0 < L.length ∧ (r0 + L.length).tmod L.length = (r : Int) ∧ (r0 + L.length) % (L.length : Int) = (r : Int) := by
    by_cases hn : 0 < L.length
    · obtain ⟨r0, r, h⟩ := turn_idx turn L.length hn
      exact ⟨r, fun _ => ⟨r0, h⟩⟩
    · exact ⟨0, fun h => absurd h hn⟩
  clear hXa hXa' hB4 f4 HZ hb1 hba
  go_loopw [8] (fun i wr => ∃ k : Nat, k ≤ L.length ∧ i = .int .i64 k ∧ BX wr (fun q => q = ba + 1 ∨ (w4.heap.size ≤ q ∧ q < wr.heap.size)) (ba + 1) k ((L.drop r ++ L.take r).take k) ∧ Fr w4 wr (fun q => q = ba + 1 ∨ w4.heap.size ≤ q)) (fun i _ => L.length - (intOf i).toNat)
  case atStart => exact ⟨0, Nat.zero_le _, rfl, by rw [List.take_zero]; exact hXb.mono (fun k _ h => .inl h), Fr.refl _ _⟩
  case round =>
    obtain ⟨k, hk, rfl, hX, hF⟩ := hrel
    clear hXb
    by_cases hlt : k < L.length
    · obtain ⟨r0, hrn, t1, t2, t3, t4, t5⟩ := hr (by omega)
      have hB : Below w.heap.size w wr := HB4.out.trans (hF.below HB4.out.size (fun q hq => by have := HB4.out.size; omega))
      obtain ⟨b, off, rfl, hP, hc⟩ := HL.out _ hB (by omega)
      obtain ⟨ix, hix⟩ : ∃ ix, (k + r) % L.length = ix := ⟨_, rfl⟩
      have hixl : ix < L.length := by rw [← hix]; exact Nat.mod_lt _ (by omega)
      have t6 : ((k : Int) + (r : Int)) % (L.length : Int) = (ix : Int) := by rw [← hix]; simp
      have t7 : ((k : Int) + (r : Int)).tmod (L.length : Int) = (ix : Int) := by rw [Int.tmod_eq_emod_of_nonneg (by omega)]; exact t6
      obtain ⟨c0, c1, c2, c3⟩ := hc ix hixl
      have HT : Hid ((L.drop r ++ L.take r).take (k + 1) = (L.drop r ++ L.take r).take k ++ [L[ix]]) := by
        show _ = _
        rw [turn_take L r k hrn hlt]
        simp only [hix]
      have okm := HOk.out _ (List.getElem_mem hixl)
      have hTl : ((L.drop r ++ L.take r).take k).length ≤ k := List.length_take_le _ _
      generalize L[ix] = y at c0 c1 c2 c3 HT okm
      have HX : Hid _ := hX
      have HF : Hid _ := hF
      have HOm : Hid (∀ m ∈ [y], m.ok) := fun m hm => by simp at hm; subst hm; exact okm
      clear hX hF hc hix hr
      have hn1 : (wr.alloc (.cells #[.int .i64 y.f, .int .i64 y.t, .int .i64 y.a, .int .i64 y.v] 67)).heap[wr.heap.size]? = some (.cells #[.int .i64 y.f, .int .i64 y.t, .int .i64 y.a, .int .i64 y.v] 67 (0, 0)) := heap_alloc_new _ _
      have HN1 : Hid _ := hn1
      have hsF := HF.out.size
      clear hn1
      go_wp2_with (go_at_call 27; refine (put_box (BX.new HX.out ((Below.refl _ wr).alloc (Nat.le_refl _) _)) [y] (some ⟨wr.heap.size, 0, none⟩) 1 (one_atP HN1.out (by omega)) HOm.out (by simp; omega) (by simp; omega)).mono ?_; rintro r' w5 ⟨rfl, hX5, f5⟩)
      have hX6 : BX w5 (fun q => q = ba + 1 ∨ (w4.heap.size ≤ q ∧ q < w5.heap.size)) (ba + 1) (k + 1) ((L.drop r ++ L.take r).take (k + 1)) := by
        rw [HT.out]
        refine (hX5.mono (fun q hq h => ?_))
        rcases h with (h | h) | h
        · exact .inl h
        · exact .inr ⟨h.1, hq⟩
        · rw [World.size_alloc] at h
          exact .inr ⟨by omega, hq⟩
      have hF6 : Fr w4 w5 (fun q => q = ba + 1 ∨ w4.heap.size ≤ q) := (HF.out.trans (Fr.alloc wr _ (fun _ => False)) (fun _ _ h => h.elim)).trans f5 (fun q _ h => h.elim .inl (fun h => .inr h.1))
      have HX6 : Hid _ := hX6
      have HF6 : Hid _ := hF6
      clear hX5 f5 hX6 hF6
      go_wp2
      go_roundw
      case rel => exact ⟨k + 1, by omega, by go_num, HX6.out, HF6.out⟩
      case measure => simp [intOf]; omega
    · obtain rfl : k = L.length := by omega
      rw [List.take_of_length_le (by simp; omega)] at hX
      have HX : Hid _ := hX
      have HF : Hid _ := hF
      have HTp : Hid ((L.drop r ++ L.take r).Perm L) := turn_perm L r
      have HTl : Hid ((L.drop r ++ L.take r).length = L.length) := (turn_perm L r).length_eq
      generalize L.drop r ++ L.take r = M at HX HTp HTl
      have hB : Below w.heap.size w wr := HB4.out.trans (hF.below HB4.out.size (fun q hq => by have := HB4.out.size; omega))
      have HB : Hid _ := hB
      have hsF := hF.size
      clear hX hF hB hr
      have hFN := four_new wr
      have HFN : Hid _ := hFN
      clear hFN
      obtain ⟨X, hX⟩ : ∃ X, (((wr.alloc (.cells #[] 67)).alloc (.cells #[] 67)).alloc (.cells #[.slice (some ⟨wr.heap.size, 0, none⟩) 0 0] 58)).alloc (.cells #[.slice (some ⟨wr.heap.size + 1, 0, none⟩) 0 0] 58) = X := ⟨_, rfl⟩
      rw [hX] at HFN
      have hXaX : BX X (fun k => k = ba ∨ (ba + 1 + 1 ≤ k ∧ k < w4.heap.size)) ba L.length L := (HXa.out.kept HF.out (fun k hk h => by omega)).new HFN.out.low
      have hXbX : BX X (fun q => q = ba + 1 ∨ (w4.heap.size ≤ q ∧ q < wr.heap.size)) (ba + 1) L.length M := BX.new HX.out HFN.out.low
      have HAX : Hid _ := hXaX
      have HBX : Hid _ := hXbX
      have szX := HFN.out.size
      clear hXaX hXbX HXa HX
      go_wp2_with (go_at_call 34; refine (allB_fn HAX.out).mono ?_; rintro r' w7 ⟨Bs, mv, rfl, hBs, hM7, hb7⟩)
      have sz7 := hb7.size
      refine ord_range1 (O := fun k => ((k = ba ∨ (ba + 1 + 1 ≤ k ∧ k < w4.heap.size)) ∨ X.heap.size ≤ k) ∧ k < w7.heap.size) (bp := wr.heap.size + 1 + 1) (br := wr.heap.size) (hM7.mono (fun k hk h => ⟨h, hk⟩)) (fun k hk => hk.2) hBs hl HOk.out ((hb7.block _ (m_lt HFN.out.b1)).trans HFN.out.b1) ((hb7.block _ (m_lt HFN.out.r1)).trans HFN.out.r1) (fun h => by omega) (fun h => by omega) ?_
      intro wx D T hCP hD hTD hK
      obtain ⟨⟨sv, p1, p2, p3⟩, _, pf⟩ := hCP
      obtain ⟨po, pc, rfl⟩ := p2.shape
      have szx := pf.size
      have hq7 := (hb7.block _ (m_lt HFN.out.b2)).trans HFN.out.b2
      have hr7 := (hb7.block _ (m_lt HFN.out.r2)).trans HFN.out.r2
      have hqx := (pf.block _ (m_lt hq7) (fun h => by omega)).trans hq7
      have hrx := (pf.block _ (m_lt hr7) (fun h => by omega)).trans hr7
      have hbx : BX wx (fun q => q = ba + 1 ∨ (w4.heap.size ≤ q ∧ q < wr.heap.size)) (ba + 1) L.length M := (HBX.out.new hb7).kept pf (fun k hk h => by omega)
      have hDx := m_lt hK
      have hBx : Below w.heap.size w wx := ((HB.out.trans (HFN.out.low.mono HB.out.size)).trans (hb7.mono (by have := HB.out.size; omega))).trans (pf.below (by have := HB.out.size; omega) (fun k hk => by have := HB.out.size; omega))
      have HP1 : Hid _ := p1
      have HP2 : Hid _ := p2
      have HP3 : Hid _ := p3
      have HQX : Hid _ := hqx
      have HRX : Hid _ := hrx
      have HBx : Hid _ := hbx
      have HK1 : Hid _ := hK
      have HLx : Hid _ := hBx
      clear p1 p2 p3 hqx hrx hbx hK hBx hq7 hr7 hM7 hBs HAX HBX pf hX
      go_wp2_with (go_at_call 34; refine (allB_fn HBx.out).mono ?_; rintro r' w9 ⟨Bs2, mv2, rfl, hBs2, hM9, hb9⟩)
      have sz9 := hb9.size
      refine ord_range2 (O := fun k => ((k = ba + 1 ∨ (w4.heap.size ≤ k ∧ k < wr.heap.size)) ∨ wx.heap.size ≤ k) ∧ k < w9.heap.size) (bp := wr.heap.size + 1 + 1 + 1) (br := wr.heap.size + 1) (hM9.mono (fun k hk h => ⟨h, hk⟩)) (fun k hk => hk.2) hBs2 (by rw [HTl.out]; exact hl) (fun m hm => HOk.out m (HTp.out.mem_iff.1 hm)) ((hb9.block _ (m_lt HQX.out)).trans HQX.out) ((hb9.block _ (m_lt HRX.out)).trans HRX.out) (fun h => by have := m_lt HQX.out; omega) (fun h => by have := m_lt HRX.out; omega) ?_
      intro wy D2 T2 hCQ hD2 hTD2 hK2
      obtain ⟨⟨sv2, q1, q2, q3⟩, _, qf⟩ := hCQ
      rw [sortM_congr HTp.out] at q2
      obtain ⟨qo, qc, rfl⟩ := q2.shape
      have szy := qf.size
      have hP1 := (qf.block _ (by have := m_lt HP1.out; omega) (fun h => by omega)).trans ((hb9.block _ (m_lt HP1.out)).trans HP1.out)
      have hP2 : Mo wy 67 (.slice po (sortM L).length pc) (sortM L) := Mo.fr (Mo.new HP2.out hb9) qf (fun k hk h => by have h1 := HP3.out k hk; have h2 := Mo.lt HP2.out k hk; omega)
      have hK1 := (qf.block _ (by omega) (fun h => by omega)).trans ((hb9.block _ hDx).trans HK1.out)
      have hD2y := m_lt hK2
      have hLy : Below w.heap.size w wy := (HLx.out.trans (hb9.mono HLx.out.size)).trans (qf.below (by have := HLx.out.size; omega) (fun k hk => by have := HB.out.size; omega))
      have hls : (sortM L).length = L.length := sortM_len L
      rw [hls] at hP1 hP2 q1 q2
      have HPy : Hid _ := hP2
      have HQy : Hid _ := q2
      have HPb : Hid _ := hP1
      have HQb : Hid _ := q1
      have HKy : Hid _ := hK1
      have HKz : Hid _ := hK2
      have HLy : Hid _ := hLy
      have hDD : D2 ≠ D := by omega
      have hDw : w.heap.size ≤ D ∧ w.heap.size ≤ D2 := by have := HB.out.size; omega
      have HLs : Hid _ := hls
      obtain ⟨bp, hbp⟩ : ∃ bp, wr.heap.size + 1 + 1 = bp := ⟨_, rfl⟩
      rw [hbp] at HPb ⊢
      obtain ⟨bq, hbq⟩ : ∃ bq, bp + 1 = bq := ⟨_, rfl⟩
      rw [hbp, hbq] at HQb
      rw [hbq]
      clear hP1 hP2 q1 q2 q3 hK1 hK2 hLy qf hM9 hBs2 HP1 HP2 HP3 HQX HRX HBx HK1 HLx hls HFN HF HB hbp hbq
      have y0 := (bx_one HPb.out).1
      go_wp2
      go_loopw [13] (fun i wz => ∃ j : Nat, 1 ≤ j ∧ (j ≤ L.length ∨ j = 1) ∧ i = .int .i64 j ∧ Below wy.heap.size wy wz) (fun i _ => L.length + 1 - (intOf i).toNat)
      case atStart => exact ⟨1, Nat.le_refl _, .inr rfl, rfl, Below.refl _ _⟩
      case round =>
        obtain ⟨j, hj1, hj2, rfl, hz⟩ := hrel
        have y1 := (bx_one ((hz.block _ (m_lt HPb.out)).trans HPb.out)).1
        by_cases hjl : j < L.length
        · obtain ⟨g, rfl, hg⟩ := Mo.zero_at (Mo.new HPy.out hz) (by rw [HLs.out]; omega)
          obtain ⟨jp, rfl⟩ : ∃ jp, j = jp + 1 := ⟨j - 1, by omega⟩
          have hm := sorted_step (L := L) (j := jp) (by rw [HLs.out]; exact hjl)
          obtain ⟨c0, c1, c2, c3⟩ := hg jp (by rw [HLs.out]; omega)
          obtain ⟨d0, d1, d2, d3⟩ := hg (jp + 1) (by rw [HLs.out]; exact hjl)
          generalize (sortM L)[jp]'(by rw [HLs.out]; omega) = x at hm c0 c1 c2 c3
          generalize (sortM L)[jp + 1]'(by rw [HLs.out]; exact hjl) = y at hm d0 d1 d2 d3
          have HS : Hid _ := And.intro y1 (And.intro c0 (And.intro c1 (And.intro c2 (And.intro c3 (And.intro d0 (And.intro d1 (And.intro d2 d3)))))))
          obtain ⟨j, hj⟩ : ∃ j, j = jp + 1 := ⟨_, rfl⟩
          rw [← hj] at HS hjl ⊢
          clear hg c0 c1 c2 c3 d0 d1 d2 d3 hj1 hj2
          go_upto_region 20 with fail
          refine ord_r20 (x := x) (y := y) (jp := jp) hj hjl hl2 hm HS.out ?_
          intro wt u67 u68 u69 u70 u71 u72 u73 u74 u75 u76 u77 u78 u79 u80 u81 u82 u83 u84 u85 u86 u87 u88 hbt
          have HZ2 : Hid _ := hz.trans (hbt.mono hz.size)
          clear hbt
          go_wp2
          go_roundw
          case rel => exact ⟨j + 1, by omega, .inl (by omega), by go_num, HZ2.out⟩
          case measure => simp [intOf]; omega
        · have hqz := (bx_one ((hz.block _ (m_lt HQb.out)).trans HQb.out)).1
          have HRef : Hid (∀ W, Below wr.heap.size wr W → Calls Try.prog 37 #[.slice qo L.length qc] W fun r w' => ∃ g c, r = .returned (.slice (some ⟨g, 0, none⟩) L.length c) ∧ Mo w' 66 (.slice (some ⟨g, 0, none⟩) L.length c) (sortM L) ∧ Below W.heap.size W w') := fun W hb => by
            have := ref_msgs (sortM L) qc (Mo.at_ (Mo.new (Mo.new HQy.out hz) hb)) (by rw [HLs.out]; exact hl)
            rw [HLs.out] at this
            exact this.mono (fun r w' ⟨g, c, h1, _, h3, h4⟩ => ⟨g, c, h1, h3, h4⟩)
          have HSame : Hid (∀ W g c, Below wr.heap.size wr W → Mo W 66 (.slice (some ⟨g, 0, none⟩) L.length c) (sortM L) → Calls Try.prog 32 #[.slice po L.length pc, .slice (some ⟨g, 0, none⟩) L.length c] W fun r w' => r = .returned (.bool true) ∧ Below W.heap.size W w') := fun W g c hb hM => by
            have := same_msgs (sortM L) pc c (Mo.at_ (Mo.new (Mo.new HPy.out hz) hb)) (Mo.at_ hM) (by rw [HLs.out]; omega)
            rw [HLs.out] at this
            exact this
          go_upto_region 22 with fail
          refine ord_r22 (L := sortM L) HRef HSame ⟨y1, hqz⟩ ?_
          intro wt u90 u91 u92 u93 u94 u95 u96 u97 u98 u99 u100 u101 u102 hbt
          have hzt := hz.trans (hbt.mono hz.size)
          have HZ2 : Hid _ := hzt
          clear hbt hzt
          go_wp2
          refine ret_marks2 (v := .bool true) hDD (by simp [results, Try.results7, go_sem]) rfl ((HZ2.out.block _ (m_lt HKz.out)).trans HKz.out) ((HZ2.out.block _ (m_lt HKy.out)).trans HKy.out) ⟨rfl, ?_⟩
          have k1 : Below w.heap.size w wt := HLy.out.trans (HZ2.out.mono HLy.out.size)
          have k2 : Below w.heap.size w (wt.putObj D2 (.deferred none)) := k1.trans ((Fr.putObj (S := fun k => k = D2) _ rfl).below k1.size (fun k hk => by omega))
          exact k2.trans ((Fr.putObj (S := fun k => k = D) _ rfl).below k2.size (fun k hk => by omega))
end Go.Proofs.Ytfajkfngjfhkoaa
