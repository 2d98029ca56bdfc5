import Derived.Test.YtbilpiodoincgaaSpWvM
/- spec.Degrees. -/
namespace Go.Proofs.Ytbilpiodoincgaa
open Go.RowKit Go.Shelf
attribute [local go_sem] Oper.semAt_some
/-- A block of ints, of one's own. -/
def IB (W : World) (m : Nat) (L : List Int) : Prop := W.heap[m]? = some (.cells (L.map (Value.int .i64)).toArray 2 (0, 0))
theorem IB.lt {W : World} {m : Nat} {L : List Int} (h : IB W m L) : m < W.heap.size := lt_of_block h
theorem IB.cell {W : World} {m : Nat} {L : List Int} (h : IB W m L) {j : Nat} (hj : j < L.length) : W.cell? ⟨m, j, none⟩ = some (.int .i64 L[j]) ∧ W.frozen? ⟨m, j, none⟩ = false := by
  unfold IB at h
  constructor
  · simp [World.cell?, h, hj]
  · simp [World.frozen?, h]
theorem IB.set {W : World} {m : Nat} {L : List Int} (h : IB W m L) (j : Nat) (x : Int) : IB (W.setCell ⟨m, j, none⟩ (.int .i64 x)) m (L.set j x) := by
  unfold IB at h ⊢
  rw [set_heap h, List.setIfInBounds_toArray, List.map_set]
theorem IB.kept {W W' : World} {m : Nat} {L : List Int} {S : Nat → Prop} (h : IB W m L) (f : Fr W W' S) (hs : ¬ S m) : IB W' m L := (f.block m h.lt hs).trans h
theorem IB.new {W W' : World} {m : Nat} {L : List Int} (h : IB W m L) (hb : Below W.heap.size W W') : IB W' m L := (hb.block m h.lt).trans h
theorem IB.made (W : World) (n : Nat) : IB (W.alloc (.cells (madeCells #[.int .i64 0] n) 2)) W.heap.size (List.replicate n 0) := by
  unfold IB
  rw [heap_alloc_new]
  have : madeCells #[Value.int .i64 0] n = ((List.replicate n (0 : Int)).map (Value.int .i64)).toArray := by
    apply Array.ext
    · rw [size_madeCells]; simp
    · intro i h1 h2
      simp [madeCells, Nat.mod_one]
  rw [this]
/-- How many of the pairs have a number, ahead and behind. -/
def cntP (ps : List (Nat × Nat)) (j : Nat) : Nat := ps.countP (fun p => p.1 == j) + ps.countP (fun p => p.2 == j)
def tabP (n : Nat) (ps : List (Nat × Nat)) : List Int := (List.range n).map fun j => (cntP ps j : Int)
theorem cntP_snoc (ps : List (Nat × Nat)) (p : Nat × Nat) (j : Nat) : cntP (ps ++ [p]) j = cntP ps j + (if p.1 = j then 1 else 0) + (if p.2 = j then 1 else 0) := by
  unfold cntP
  rw [List.countP_append, List.countP_append]
  simp only [List.countP_cons, List.countP_nil, beq_iff_eq]
  omega
theorem cntP_le (ps : List (Nat × Nat)) (j : Nat) : cntP ps j ≤ 2 * ps.length := by
  unfold cntP
  have h1 := List.countP_le_length (p := fun p : Nat × Nat => p.1 == j) (l := ps)
  have h2 := List.countP_le_length (p := fun p : Nat × Nat => p.2 == j) (l := ps)
  omega
theorem tabP_len (n : Nat) (ps : List (Nat × Nat)) : (tabP n ps).length = n := by simp [tabP]
theorem tabP_nil (n : Nat) : tabP n [] = List.replicate n 0 := by
  have : (fun j : Nat => ((cntP [] j : Nat) : Int)) = fun _ => 0 := by funext j; simp [cntP]
  unfold tabP
  rw [this, List.map_const', List.length_range]
theorem tabP_at {n : Nat} (ps : List (Nat × Nat)) {j : Nat} (hj : j < n) : (tabP n ps)[j]? = some (cntP ps j : Int) := by
  simp [tabP, hj]
theorem tabP_two {n : Nat} (ps : List (Nat × Nat)) {i j : Nat} (hi : i < n) (hj : j < n) : (((tabP n ps).set i ((cntP ps i : Int) + 1)).set j (((cntP ps j : Int) + (if i = j then 1 else 0)) + 1)) = tabP n (ps ++ [(i, j)]) := by
  apply List.ext_getElem?
  intro k
  by_cases hk : k < n
  · rw [tabP_at _ hk, cntP_snoc]
    rw [List.getElem?_set, List.getElem?_set, tabP_at _ hk]
    simp only [List.length_set, tabP_len]
    by_cases e1 : j = k
    · subst e1
      simp [hj]
      by_cases e2 : i = j <;> simp [e2]
    · simp [e1]
      by_cases e2 : i = k
      · subst e2
        simp [hi]
      · simp [e2]
  · rw [List.getElem?_eq_none (by simp [tabP_len]; omega), List.getElem?_eq_none (by simp [tabP_len]; omega)]
/-- The pairs of the rows: from, to. -/
def prs : Nat → List (List Ed) → List (Nat × Nat)
  | _, [] => []
  | i, l :: O => l.map (fun e => (i, e.t.toNat)) ++ prs (i + 1) O
theorem prs_app (O : List (List Ed)) (l : List Ed) : ∀ i, prs i (O ++ [l]) = prs i O ++ l.map (fun e => (i + O.length, e.t.toNat)) := by
  induction O with
  | nil => intro i; simp [prs]
  | cons a O ih => intro i; simp [prs, ih, Nat.add_assoc, Nat.add_comm 1]
theorem flatA_at : ∀ (L : List Ed) (k : Nat) (h : k < L.length), (L.flatMap encA2)[k * 2]? = some (.int .i64 L[k].t) ∧ (L.flatMap encA2)[k * 2 + 1]? = some (.int .i64 L[k].w)
  | [], k, h => by simp at h
  | e :: L, 0, h => by simp [encA2]
  | e :: L, k + 1, h => by
    have := flatA_at L k (by simpa using h)
    rw [List.flatMap_cons]
    have e1 : (k + 1) * 2 = k * 2 + 2 := by omega
    rw [e1]
    simpa [encA2] using this
theorem arc_at {W : World} {base : Nat} {v : Value} {L : List Ed} (h : W.ownsRow base 93 2 v L.length (L.flatMap encA2)) (hl : 0 < L.length) : ∃ g cap, v = .slice (some ⟨g, 0, none⟩) L.length cap ∧ ∀ k (hk : k < L.length), W.cell? ⟨g, k * 2, none⟩ = some (.int .i64 L[k].t) ∧ W.cell? ⟨g, k * 2 + 1, none⟩ = some (.int .i64 L[k].w) := by
  obtain ⟨g, cap, cur, rfl, hc, hB, ht⟩ := own_blk h hl
  refine ⟨g, cap, rfl, fun k hk => ?_⟩
  obtain ⟨e1, e2⟩ := flatA_at L k hk
  rw [← ht, List.getElem?_take, if_pos (by omega)] at e1 e2
  exact ⟨(hB.cell _).trans e1, (hB.cell _).trans e2⟩
theorem prs_len (O : List (List Ed)) : ∀ i, (prs i O).length = (O.map List.length).sum := by
  induction O with
  | nil => intro i; rfl
  | cons a O ih => intro i; simp [prs, ih]
set_option maxRecDepth 100000 in
set_option maxHeartbeats 8000000 in
theorem degrees_any {w : World} {P : Nat → Prop} {ao : Option Addr} {G : List Vx} (cap : Nat) (h : VxAt w P ao G) (hok : ∀ v ∈ G, v.ok) (hr : Rise (ids G)) (hth : thereE G = true) (hl : G.length ≤ 256) (he : (evs G).length ≤ 2048) (O : List (List Ed)) (hO : (foldW (ids G) G.length (evs G)).1 = O) (hOl : ∀ l ∈ O, ∀ e ∈ l, 0 ≤ e.t ∧ e.t < G.length) (hOs : (O.map List.length).sum ≤ 2048) :
    Calls Try.prog 28 #[.agg #[.slice ao G.length cap]] w fun r w' => (∃ m, r = .returned (.slice (some ⟨m, 0, none⟩) G.length G.length) ∧ IB w' m (tabP G.length (prs 0 O)) ∧ w.heap.size ≤ m) ∧ Below w.heap.size w w' := by
  obtain ⟨i0, hi, hz0, hz1, hz2⟩ := info_parts infoSI
  obtain ⟨n, hn⟩ : ∃ n, G.length = n := ⟨_, rfl⟩
  have hn256 : n ≤ 256 := by rw [← hn]; exact hl
  have hOn : O.length = n := by rw [← hO, ← hn]; exact (foldW_lens _ _ _).1
  have hmk : ∀ W : World, (Instr.makeSlice 38 (.int .i64 (n : Int)) (.int .i64 (n : Int))).run Try.prog W = .ok (.slice (some ⟨W.heap.size, 0, none⟩) n n) (W.alloc (.cells (madeCells #[.int .i64 0] n) 2)) := fun W => by
    have := run_make (P := Try.prog) W 38 2 i0 (.int .i64 0) Try.underlying38 hi hz0 .i64 .i64 n n (by omega) (by omega) (by rw [hz2]; omega) (by omega)
    simpa [hz1, Value.cells] using this
  have HWv : Hid (∀ W, Below w.heap.size w W → Calls Try.prog 41 #[.agg #[.slice ao n cap]] W fun r w' => (∃ gi ci g1 g2 B, r = .returned (.agg #[.slice (some ⟨gi, 0, none⟩) n ci, .slice (some ⟨g1, 0, none⟩) n n, .slice (some ⟨g2, 0, none⟩) n n]) ∧ WebAt w' W.heap.size gi ci g1 g2 B n (ids G) O ((foldW (ids G) n (evs G)).2.map nearL)) ∧ Below W.heap.size W w') := fun W hb => by
    have := weave_any cap (h.new hb) hok hr hth hl he
    rw [hO, hn] at this
    exact this
  rw [hn] at hOl ⊢
  have HOl : Hid _ := hOl
  have HOs : Hid _ := hOs
  clear h hok hr hth he hO hOl hn hOs
  go_enter Try.func28, Try.ntmps28
  go_wp2_with (go_at_call 41; refine (HWv.out _ (one_new _ _)).mono ?_; rintro r w1 ⟨⟨gi, ci, g1, g2, B, rfl, hw1⟩, hb1⟩)
  obtain ⟨vs, hM⟩ := hw1.om
  have HM : Hid _ := hM
  have hg1 := lt_of_block hM.blk
  have hs1 := hb1.size
  rw [World.size_alloc] at hs1
  obtain ⟨m, hm⟩ : ∃ m, w1.heap.size + 1 = m := ⟨_, rfl⟩
  have hmw : w1.heap.size < m := by omega
  generalize hW2 : World.alloc (World.alloc w1 _) _ = W2
  have HI0 : Hid (IB W2 m (tabP n [])) := by
    rw [tabP_nil, ← hW2, ← hm]
    have := IB.made (w1.alloc (.cells #[.slice (some ⟨gi, 0, none⟩) n ci, .slice (some ⟨g1, 0, none⟩) n n, .slice (some ⟨g2, 0, none⟩) n n] 81)) n
    rw [World.size_alloc] at this
    exact this
  have HF0 : Hid (Fr w1 W2 (fun k => k = m)) := by
    rw [← hW2]
    exact (Fr.alloc _ _ _).trans (Fr.alloc _ _ _) (fun _ _ h => h)
  have HBe : Hid (Below w.heap.size w w1) := (one_new w _).trans (hb1.mono (by rw [World.size_alloc]; omega))
  rw [hm]
  clear hW2 hM hw1 hb1 HWv hmk
  go_loopw [5, 6, 8, 18] (fun _ _ _ i wr => ∃ j : Nat, j ≤ n ∧ i = .int .i64 j ∧ Hid (IB wr m (tabP n (prs 0 (O.take j)))) ∧ Hid (Fr w1 wr (fun k => k = m))) (fun _ _ _ i _ => n - (intOf i).toNat)
  case atStart => exact ⟨0, Nat.zero_le _, rfl, HI0.out, HF0.out⟩
  case round =>
    obtain ⟨j, hj, rfl, HI, HF⟩ := hrel
    by_cases hlt : j < n
    · have hjO : j < O.length := by rw [hOn]; exact hlt
      have hM2 := HM.out.kept HF.out (by omega) (fun k hk e => by have := (HM.out.lt hk).2; omega)
      obtain ⟨u, hu, cu, fu, ou⟩ := hM2.at_ hjO
      have hOj : ∀ e ∈ O[j], 0 ≤ e.t ∧ e.t < n := HOl.out _ (List.getElem_mem hjO)
      have HOj : Hid _ := hOj
      have hsum : (prs 0 (O.take j)).length + O[j].length ≤ 2048 := by
        rw [prs_len]
        have h1 := HOs.out
        have h2 : (O.map List.length).sum = ((O.take j).map List.length).sum + (O[j].length + ((O.drop (j + 1)).map List.length).sum) := by
          conv => lhs; rw [← List.take_append_drop j O]
          rw [List.map_append, List.sum_append, List.drop_eq_getElem_cons hjO, List.map_cons, List.sum_cons]
        omega
      have HT : Hid (prs 0 (O.take (j + 1)) = prs 0 (O.take j) ++ O[j].map (fun e => (j, e.t.toNat))) := by
        show _ = _
        rw [List.take_add_one, List.getElem?_eq_getElem hjO]
        simp only [Option.toList_some]
        rw [prs_app, List.length_take, Nat.min_eq_left (by omega)]
        simp
      have HOu : Hid _ := ou
      obtain ⟨row, hrow⟩ : ∃ row, O[j] = row := ⟨_, rfl⟩
      obtain ⟨ps, hps⟩ : ∃ ps, prs 0 (O.take j) = ps := ⟨_, rfl⟩
      rw [hrow] at HOu HOj HT hsum
      rw [hps] at HT hsum HI
      obtain ⟨p, c, rfl⟩ : ∃ p c, u = .slice p row.length c := by
        rcases HOu.out.2 with ⟨e1, e2⟩ | ⟨g, cap, cur, e1, _⟩
        · exact ⟨none, 0, by rw [e2]; exact e1⟩
        · exact ⟨_, _, e1⟩
      have HPc : Hid (0 < row.length → ∃ g, p = some ⟨g, 0, none⟩ ∧ g < w1.heap.size ∧ ∀ k (hk : k < row.length), w1.cell? ⟨g, k * 2, none⟩ = some (.int .i64 row[k].t) ∧ w1.cell? ⟨g, k * 2 + 1, none⟩ = some (.int .i64 row[k].w)) := fun h0 => by
        obtain ⟨u', hu', cu', fu', ou'⟩ := HM.out.at_ hjO
        rw [hu] at hu'
        cases hu'
        rw [hrow] at ou'
        obtain ⟨g, cap, e1, e2⟩ := arc_at ou' h0
        cases e1
        exact ⟨g, rfl, (HM.out.lt ⟨j, _, hu, rfl⟩).2, e2⟩
      clear hM2 ou hOj hrow hps hu
      go_wp2
      go_loopw [8, 25] (fun _ i wy => ∃ k : Nat, k ≤ row.length ∧ i = .int .i64 k ∧ Hid (IB wy m (tabP n (ps ++ (row.take k).map (fun e => (j, e.t.toNat))))) ∧ Hid (Fr w1 wy (fun q => q = m))) (fun _ i _ => row.length - (intOf i).toNat)
      case atStart => exact ⟨0, Nat.zero_le _, rfl, (show IB _ _ _ by simpa using HI.out), HF.out⟩
      case round =>
        obtain ⟨k, hk, rfl, HI1, HF1⟩ := hrel
        by_cases hlk : k < row.length
        · obtain ⟨g, rfl, hg, hc⟩ := HPc.out (by omega)
          obtain ⟨c0, c1⟩ := hc k hlk
          have d0 := fr_cell HF1.out (by show ¬ _ = _; omega) c0
          have d1 := fr_cell HF1.out (by show ¬ _ = _; omega) c1
          obtain ⟨ht0, ht1⟩ := HOj.out _ (List.getElem_mem hlk)
          have HS : Hid ((row.take (k + 1)).map (fun e => (j, e.t.toNat)) = (row.take k).map (fun e => (j, e.t.toNat)) ++ [(j, row[k].t.toNat)]) := by
            show _ = _
            rw [List.take_add_one, List.getElem?_eq_getElem hlk, List.map_append]
            rfl
          have hpl : (ps ++ (row.take k).map (fun e => (j, e.t.toNat))).length ≤ 2048 := by simp; omega
          obtain ⟨t, ht⟩ : ∃ t : Nat, row[k].t = (t : Int) := ⟨row[k].t.toNat, by omega⟩
          rw [ht] at d0 ht1 HS
          rw [Int.toNat_natCast] at HS
          have htn : t < n := by omega
          generalize row[k].w = y at d1
          generalize hqs : ps ++ (row.take k).map (fun e => (j, e.t.toNat)) = qs at HI1 hpl
          have hj1 := cntP_le qs j
          have hj2 := cntP_le qs t
          have hl1 : j < (tabP n qs).length := by rw [tabP_len]; exact hlt
          have a0 := IB.cell HI1.out hl1
          have a1 : (tabP n qs)[j] = (cntP qs j : Int) := (List.getElem?_eq_some_iff.1 (tabP_at qs hlt)).2
          rw [a1] at a0
          clear c0 c1 hc a1
          have hmy : m < wr.heap.size := IB.lt HI1.out
          go_upto_region 9 with (fail)
          generalize hW3 : World.alloc wr _ = W3
          have b3 : Below wr.heap.size wr W3 := by rw [← hW3]; exact one_new _ _
          have q0 : W3.cell? ⟨wr.heap.size, 0, none⟩ = some (.int .i64 (t : Int)) := by rw [← hW3]; exact (box2 (heap_alloc_new _ _)).1
          have HI3 : Hid (IB W3 m (tabP n qs)) := IB.new HI1.out b3
          have HF3 : Hid (Fr w1 W3 (fun q => q = m)) := HF1.out.trans (Fr.ofBelow b3 (fun q => q = m)) (fun _ _ h => h)
          have a3 := IB.cell HI3.out hl1
          have a1 : (tabP n qs)[j] = (cntP qs j : Int) := (List.getElem?_eq_some_iff.1 (tabP_at qs hlt)).2
          rw [a1] at a3
          obtain ⟨a3, a4⟩ := a3
          clear hW3 b3 a0 d0 d1 a1
          have hw3 : wrap64 ((cntP qs j : Int) + 1) = (cntP qs j : Int) + 1 := by unfold wrap64; omega
          go_upto_region 10 with (fail)
          try rw [hw3]
          generalize hW4 : World.setCell W3 _ _ = W4
          have HI4 : Hid (IB W4 m ((tabP n qs).set j ((cntP qs j : Int) + 1))) := by rw [← hW4]; exact IB.set HI3.out _ _
          have f4 : Fr W3 W4 (fun q => q = m) := by rw [← hW4]; exact Fr.setCell _ _ _ rfl
          have HF4 : Hid (Fr w1 W4 (fun q => q = m)) := HF3.out.trans f4 (fun _ _ h => h)
          have q4 := fr_cell f4 (by show ¬ _ = _; omega) q0
          have hl4 : t < ((tabP n qs).set j ((cntP qs j : Int) + 1)).length := by rw [List.length_set, tabP_len]; exact htn
          have x4 := IB.cell HI4.out hl4
          have a5 : ((tabP n qs).set j ((cntP qs j : Int) + 1))[t] = (cntP qs t : Int) + (if j = t then 1 else 0) := by
            have e := (List.getElem?_eq_some_iff.1 (tabP_at qs htn)).2
            rw [List.getElem_set]
            by_cases e1 : j = t
            · subst e1; simp
            · simp [e1, e]
          rw [a5] at x4
          obtain ⟨x4, x5⟩ := x4
          obtain ⟨z, hz⟩ : ∃ z : Int, (cntP qs t : Int) + (if j = t then 1 else 0) = z := ⟨_, rfl⟩
          have hz1 : 0 ≤ z ∧ z ≤ 5000 := by rw [← hz]; split <;> omega
          rw [hz] at x4
          have hw4 : wrap64 (z + 1) = z + 1 := by unfold wrap64; omega
          clear hW4 f4 q0 a3 a4 a5 hw3
          go_wp2
          try rw [hw4]
          generalize hW5 : World.setCell W4 _ _ = W5
          have HI5 : Hid (IB W5 m (tabP n (ps ++ (row.take (k + 1)).map (fun e => (j, e.t.toNat))))) := by
            rw [HS.out, ← List.append_assoc, hqs, ← tabP_two qs hlt htn, hz, ← hW5]
            exact IB.set HI4.out _ _
          have HF5 : Hid (Fr w1 W5 (fun q => q = m)) := by rw [← hW5]; exact HF4.out.trans (Fr.setCell (S := fun q => q = m) _ _ _ rfl) (fun _ _ h => h)
          go_roundw
          case rel => exact ⟨k + 1, by omega, by go_num, HI5, HF5⟩
          case measure => simp [intOf]; omega
        · obtain rfl : k = row.length := by omega
          have HI6 : Hid (IB wr m (tabP n (prs 0 (O.take (j + 1))))) := by
            rw [HT.out]
            have := HI1.out
            rw [List.take_of_length_le (Nat.le_refl _)] at this
            exact this
          go_wp2
          go_roundw
          case rel => exact ⟨j + 1, by omega, by go_num, HI6, HF1⟩
          case measure => simp [intOf]; omega
    · obtain rfl : j = n := by omega
      rw [List.take_of_length_le (by omega)] at HI
      go_wp2
      go_ret
      have l1 : Below w.heap.size w wr := HBe.out.trans (HF.out.below HBe.out.size (fun k hk => by omega))
      exact ⟨⟨m, rfl, HI.out, by omega⟩, l1⟩
end Go.Proofs.Ytbilpiodoincgaa
