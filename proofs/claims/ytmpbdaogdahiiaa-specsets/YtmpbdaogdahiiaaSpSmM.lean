import Derived.Test.YtmpbdaogdahiiaaSpCoM
import Derived.Lib.SlicesCompact
import Derived.WalkKit
section
/- spec.Triangles. -/
namespace Go.Proofs.Ytmpbdaogdahiiaa
open Go.RowKit Go.Shelf
attribute [local go_sem] Oper.semAt_some
/-- How many behind a place are neighbours of one. -/
def triA (N : List (List Int)) (H : List Int) (a : Int) : Nat := H.countP (fun c => (N.getD a.toNat []).contains c)
def triB (N : List (List Int)) (H L : List Int) : Nat := (L.map (triA N H)).sum
/-- How many pairs of neighbours, one lesser and one greater, are neighbours. -/
def tri (N : List (List Int)) (i : Nat) : Nat := triB N ((N.getD i []).drop (findN (N.getD i []) i)) ((N.getD i []).take (findN (N.getD i []) i))
theorem triA_le (N : List (List Int)) (H : List Int) (a : Int) : triA N H a ≤ H.length := List.countP_le_length
theorem triB_le (N : List (List Int)) (H : List Int) : ∀ L : List Int, triB N H L ≤ L.length * H.length
  | [] => by simp [triB]
  | a :: L => by
    have h1 := triB_le N H L
    have h2 := triA_le N H a
    have e : triB N H (a :: L) = triA N H a + triB N H L := by simp [triB]
    rw [e, List.length_cons, Nat.succ_mul]
    omega
theorem triB_snoc (N : List (List Int)) (H L : List Int) (a : Int) : triB N H (L ++ [a]) = triB N H L + triA N H a := by simp [triB]
/-- A table, as far as it is filled. -/
def tabF (f : Nat → Nat) (n j : Nat) : List Int := (List.range n).map fun i => if i < j then (f i : Int) else 0
theorem tabF_len (f : Nat → Nat) (n j : Nat) : (tabF f n j).length = n := by simp [tabF]
theorem tabF_zero (f : Nat → Nat) (n : Nat) : tabF f n 0 = List.replicate n 0 := by
  apply List.ext_getElem?
  intro i
  by_cases h : i < n <;> simp [tabF, h]
theorem tabF_set (f : Nat → Nat) (n j : Nat) : (tabF f n j).set j (f j : Int) = tabF f n (j + 1) := by
  apply List.ext_getElem?
  intro i
  rw [List.getElem?_set]
  by_cases h : i < n
  · by_cases e : j = i
    · subst e
      simp [tabF, h]
    · have : (i < j + 1) ↔ (i < j) := by omega
      simp [tabF, h, e, this]
  · by_cases e : j = i
    · subst e; simp [tabF, h]
    · simp [tabF, h, e]
theorem tabF_same (f : Nat → Nat) (n j : Nat) : (tabF f n j).set j 0 = tabF f n j := by
  apply List.ext_getElem?
  intro i
  rw [List.getElem?_set]
  by_cases e : j = i
  · subst e
    by_cases h : j < n <;> simp [tabF, h]
  · simp [e]
set_option maxRecDepth 100000 in
set_option maxHeartbeats 2000000 in
theorem triangles_any {w : World} {P : Nat → Prop} {ao : Option Addr} {G : List Vx} (cap : Nat) (h : VxAt w P ao G) (hok : ∀ v ∈ G, v.ok) (hr : Rise (ids G)) (hth : thereE G = true) (hl : G.length ≤ 256) (he : (evs G).length ≤ 2048) :
    Calls Try.prog 13 #[.agg #[.slice ao G.length cap]] w fun r w' => (∃ m, r = .returned (.slice (some ⟨m, 0, none⟩) G.length G.length) ∧ IB w' m (tabF (tri (nearR G)) G.length G.length) ∧ w.heap.size ≤ m) ∧ Below w.heap.size w w' := by
  obtain ⟨i0, hi, hz0, hz1, hz2⟩ := info_parts infoSI
  have HRow : Hid (∀ i, i < G.length → Rise ((nearR G).getD i []) ∧ ((nearR G).getD i []).length ≤ 4096) := fun i hi => ⟨(nearR_row hr hth he hi).1, (nearR_row hr hth he hi).2.1⟩
  have HR2 : Hid (Rows2 (nearR G) G.length) := rows2_near hr hth he
  have HWv : Hid (∀ W, Below w.heap.size w W → Calls Try.prog 31 #[.agg #[.slice ao G.length cap]] W fun r w' => (∃ gi ci g1 g2 B, r = .returned (.agg #[.slice (some ⟨gi, 0, none⟩) G.length ci, .slice (some ⟨g1, 0, none⟩) G.length G.length, .slice (some ⟨g2, 0, none⟩) G.length G.length]) ∧ WebAt w' W.heap.size gi ci g1 g2 B G.length (ids G) (foldW (ids G) G.length (evs G)).1 (nearR G)) ∧ Below W.heap.size W w') := fun W hb => weave_any cap (h.new hb) hok hr hth hl he
  have hNl := nearR_len G
  generalize (foldW (ids G) G.length (evs G)).1 = O at HWv
  generalize nearR G = N at HRow HR2 HWv hNl ⊢
  generalize ids G = I at HWv
  obtain ⟨n, hn⟩ : ∃ n, G.length = n := ⟨_, rfl⟩
  rw [hn] at HRow HR2 HWv hNl hl ⊢
  have hmk : ∀ W : World, (Instr.makeSlice 36 (.int .i64 (n : Int)) (.int .i64 (n : Int))).run Try.prog W = .ok (.slice (some ⟨W.heap.size, 0, none⟩) n n) (W.alloc (.cells (madeCells #[.int .i64 0] n) 2)) := fun W => by
    have := run_make (P := Try.prog) W 36 2 i0 (.int .i64 0) Try.underlying36 hi hz0 .i64 .i64 n n (by omega) (by omega) (by rw [hz2]; omega) (by omega)
    simpa [hz1, Value.cells] using this
  clear h hok hr hth he hn
  go_enter Try.func13, Try.ntmps13
  go_wp2_with (go_at_call 31; refine (HWv.out _ (one_new _ _)).mono ?_; rintro r w1 ⟨⟨gi, ci, g1, g2, B, rfl, hw1⟩, hb1⟩)
  obtain ⟨vs, hM⟩ := hw1.nm
  have HM : Hid _ := hM
  have hg2 := lt_of_block hM.blk
  have hs1 := hb1.size
  rw [World.size_alloc] at hs1
  obtain ⟨m, hm⟩ : ∃ m, w1.heap.size + 1 = m := ⟨_, rfl⟩
  have hmw : w1.heap.size < m := by omega
  generalize hW2 : World.alloc (World.alloc w1 _) _ = W2
  have HI0 : Hid (IB W2 m (tabF (tri N) n 0)) := by
    rw [tabF_zero, ← hW2, ← hm]
    have := IB.made (w1.alloc (.cells #[.slice (some ⟨gi, 0, none⟩) n ci, .slice (some ⟨g1, 0, none⟩) n n, .slice (some ⟨g2, 0, none⟩) n n] 76)) n
    rw [World.size_alloc] at this
    exact this
  have HWb : Hid (W2.heap[w1.heap.size]? = some (.cells #[.slice (some ⟨gi, 0, none⟩) n ci, .slice (some ⟨g1, 0, none⟩) n n, .slice (some ⟨g2, 0, none⟩) n n] 76 (0, 0))) := by
    rw [← hW2]
    exact ((one_new (w1.alloc (.cells #[.slice (some ⟨gi, 0, none⟩) n ci, .slice (some ⟨g1, 0, none⟩) n n, .slice (some ⟨g2, 0, none⟩) n n] 76)) _).block _ (by rw [World.size_alloc]; omega)).trans (heap_alloc_new _ _)
  have HF0 : Hid (Fr w1 W2 (fun k => k = m)) := by
    rw [← hW2]
    exact (Fr.alloc _ _ _).trans (Fr.alloc _ _ _) (fun _ _ h => h)
  have HBe : Hid (Below w.heap.size w w1) := (one_new w _).trans (hb1.mono (by rw [World.size_alloc]; omega))
  have HAt : Hid (∀ W j, j < n → Fr W2 W (fun k => k = m) → ∃ u, vs[j]? = some u ∧ W.cell? ⟨g2, j, none⟩ = some u ∧ RwI W 3 B u (N.getD j [])) := fun W j hj f => by
    have hjN : j < N.length := by rw [hNl]; exact hj
    have hM2 := HM.out.kept (HF0.out.trans f (fun _ _ h => h)) (by omega) (fun k hk e => by have := (HM.out.lt hk).2; omega)
    obtain ⟨u, hu, cu, fu, ou⟩ := hM2.at_ hjN
    rw [flat_I1] at ou
    have gN : N.getD j [] = N[j] := by simp [List.getD, hjN]
    rw [← gN] at ou
    exact ⟨u, hu, cu, ou⟩
  have HNb : Hid (∀ W (a b : Nat), a < n → Fr W2 W (fun k => k = m) → Calls Try.prog 33 #[.agg #[.slice (some ⟨gi, 0, none⟩) n ci, .slice (some ⟨g1, 0, none⟩) n n, .slice (some ⟨g2, 0, none⟩) n n], .int .i64 (a : Nat), .int .i64 (b : Nat)] W fun r w' => r = .returned (.bool ((N.getD a []).contains (b : Int))) ∧ Below W.heap.size W w') := fun W a b ha f => by
    obtain ⟨u, hu, cu, ou⟩ := HAt.out W a ha f
    exact neighbours_any a b ha cu ou (HRow.out a ha).1 (HRow.out a ha).2
  rw [hm]
  clear hW2 hM hw1 hb1 HWv hmk
  go_loopw [5, 6, 7, 8, 10, 12, 22] (fun _ _ _ _ _ _ i wr => ∃ j : Nat, j ≤ n ∧ i = .int .i64 j ∧ Hid (IB wr m (tabF (tri N) n j)) ∧ Hid (Fr W2 wr (fun k => k = m))) (fun _ _ _ _ _ _ i _ => n - (intOf i).toNat)
  case atStart => exact ⟨0, Nat.zero_le _, rfl, HI0.out, Fr.refl _ _⟩
  case round =>
    obtain ⟨j, hj, rfl, HI, HF⟩ := hrel
    by_cases hlt : j < n
    · obtain ⟨u, hu, cu, ou⟩ := HAt.out wr j hlt HF.out
      obtain ⟨hrr, hrl⟩ := HRow.out j hlt
      have HSr : Hid (Calls Try.prog 32 #[u, .int .i64 (j : Nat)] wr fun r w' => r = .returned (.tuple #[.int .i64 (findN (N.getD j []) j), .bool (foundB (N.getD j []) j)]) ∧ Below wr.heap.size wr w') := srchI_any (j : Int) ou hrr hrl
      have hfl := findN_le (N.getD j []) (j : Int)
      have HTs : Hid ((tabF (tri N) n j).set j (tri N j : Int) = tabF (tri N) n (j + 1)) := tabF_set _ _ _
      have HTe : Hid (tri N j = triB N ((N.getD j []).drop (findN (N.getD j []) j)) ((N.getD j []).take (findN (N.getD j []) j))) := rfl
      have HT0 : Hid ((tabF (tri N) n j).set j 0 = tabF (tri N) n j) := tabF_same _ _ _
      have HNat : Hid (∀ x ∈ N.getD j [], ∃ a : Nat, a < n ∧ x = a) := HR2.out.nat j hlt
      have HCe : Hid (∀ W, Fr W2 W (fun k => k = m) → ∀ (g cp : Nat), u = .slice (some ⟨g, 0, none⟩) (N.getD j []).length cp → ∀ k (hk : k < (N.getD j []).length), W.cell? ⟨g, k, none⟩ = some (.int .i64 (N.getD j [])[k])) := fun W f g cp e k hk => by
        obtain ⟨u', hu', _, ou'⟩ := HAt.out W j hlt f
        rw [hu] at hu'
        cases hu'
        rw [e] at ou'
        obtain ⟨_, hc⟩ := ri_at ou'
        obtain ⟨g', e', _, hcell⟩ := hc (by omega)
        cases e'
        exact (hcell k hk).1
      have HOu : Hid _ := ou
      have hTl := tabF_len (tri N) n j
      generalize tri N j = tj at HTs HTe
      generalize foundB (N.getD j []) (j : Int) = fo at HSr
      generalize findN (N.getD j []) (j : Int) = at_ at HSr hfl HTe
      generalize N.getD j [] = row at HOu hrl HSr hfl HTe HNat HCe
      generalize tabF (tri N) n j = T0 at HI HTs HT0 hTl
      have hjT : j < T0.length := by rw [hTl]; exact hlt
      clear ou hrr
      rcases HOu.out.2 with ⟨rfl, e2⟩ | ⟨g, cp, cur, rfl, hBg, hg, hcp, hcm, hcs, hct⟩
      · obtain rfl : at_ = 0 := by omega
        have HI1 : Hid (IB wr m (tabF (tri N) n (j + 1))) := by
          rw [← HTs.out, HTe.out]
          simp only [List.take_zero]
          have : triB N (List.drop 0 row) [] = 0 := rfl
          rw [this]
          have := HT0.out
          simp only [Int.natCast_zero] at this ⊢
          rw [this]
          exact HI.out
        go_wp2_with (go_at_call 32; refine HSr.out.mono ?_; rintro r w5 ⟨rfl, hb5⟩; have HB5 : Hid _ := hb5; clear hb5)
        go_loopw [10, 12, 37] (fun _ _ i wy => i = .int .i64 0 ∧ Hid (Below wr.heap.size wr wy)) (fun _ _ _ _ => 0)
        case atStart => exact ⟨rfl, HB5.out⟩
        case round =>
          obtain ⟨rfl, HB6⟩ := hrel
          go_wp2
          go_roundw
          case rel => exact ⟨j + 1, by omega, by go_num, IB.new HI1.out HB6.out, HF.out.trans (Fr.ofBelow HB6.out _) (fun _ _ h => h)⟩
          case measure => simp [intOf]; omega
      · have b0 : (0 : Int) ≤ (at_ : Int) := by omega
        have b1 : (at_ : Int) ≤ (row.length : Int) := by omega
        have b2 : (row.length : Int) ≤ (cp : Int) := by omega
        have b3 : (at_ : Int) ≤ (cp : Int) := by omega
        clear hBg hg hcm hcs hct HOu hu
        have HI5 : Hid (IB wr m (T0.set j ((triB N (row.drop at_) (row.take 0) : Nat) : Int))) := by
          have e : ((triB N (row.drop at_) (row.take 0) : Nat) : Int) = 0 := rfl
          rw [e, HT0.out]
          exact HI.out
        go_wp2_with (go_at_call 32; refine HSr.out.mono ?_; rintro r w5 ⟨rfl, hb5⟩; have HB5 : Hid _ := hb5; clear hb5)
        go_loopw [10, 12, 37] (fun _ _ i wy => ∃ q : Nat, q ≤ at_ ∧ i = .int .i64 q ∧ Hid (IB wy m (T0.set j ((triB N (row.drop at_) (row.take q) : Nat) : Int))) ∧ Hid (Fr W2 wy (fun k => k = m))) (fun _ _ i _ => at_ - (intOf i).toNat)
        case atStart => exact ⟨0, Nat.zero_le _, rfl, IB.new HI5.out HB5.out, HF.out.trans (Fr.ofBelow HB5.out _) (fun _ _ h => h)⟩
        case round =>
          obtain ⟨q, hq, rfl, HI6, HF6⟩ := hrel
          by_cases hlq : q < at_
          · have hqr : q < row.length := by omega
            have d0 := HCe.out _ HF6.out g cp rfl q hqr
            obtain ⟨a, han, ha⟩ := HNat.out _ (List.getElem_mem hqr)
            have HSn : Hid (triB N (row.drop at_) (row.take (q + 1)) = triB N (row.drop at_) (row.take q) + triA N (row.drop at_) (a : Int)) := by
              show _ = _
              rw [← ha, ← triB_snoc, List.take_add_one, List.getElem?_eq_getElem hqr]
              rfl
            have hsb : triB N (row.drop at_) (row.take q) ≤ 16777216 := by
              refine Nat.le_trans (triB_le N (row.drop at_) (row.take q)) ?_
              have h1 : (row.take q).length ≤ 4096 := by rw [List.length_take]; omega
              have h2 : (row.drop at_).length ≤ 4096 := by rw [List.length_drop]; omega
              exact Nat.mul_le_mul h1 h2
            rw [ha] at d0
            generalize triB N (row.drop at_) (row.take q) = s0 at HI6 HSn hsb
            clear ha
            by_cases hca : cp = at_
            · have HI7 : Hid (IB wr m (T0.set j ((triB N (row.drop at_) (row.take (q + 1)) : Nat) : Int))) := by
                have e : row.drop at_ = [] := List.drop_eq_nil_of_le (by omega)
                have e2 : triA N ([] : List Int) (a : Int) = 0 := rfl
                rw [HSn.out, e, e2]
                exact HI6.out
              have hz : row.length - at_ = 0 := by omega
              go_wp2
              go_loopw [12, 45] (fun _ i wz => i = .int .i64 0 ∧ Hid (wz = wr)) (fun _ _ _ => 0)
              case atStart => exact ⟨rfl, rfl⟩
              case round =>
                obtain ⟨rfl, HE⟩ := hrel
                obtain rfl := HE.out
                go_wp2
                go_roundw
                case rel => exact ⟨q + 1, by omega, by go_num, HI7, HF6⟩
                case measure => simp [intOf]; omega
            · go_wp2
              go_loopw [12, 45] (fun _ i wz => ∃ k : Nat, k ≤ row.length - at_ ∧ i = .int .i64 k ∧ Hid (IB wz m (T0.set j ((s0 + triA N ((row.drop at_).take k) (a : Int) : Nat) : Int))) ∧ Hid (Fr W2 wz (fun k => k = m))) (fun _ i _ => row.length - at_ - (intOf i).toNat)
              case atStart => exact ⟨0, Nat.zero_le _, rfl, HI6.out, HF6.out⟩
              case round =>
                obtain ⟨k, hk, rfl, HI7, HF7⟩ := hrel
                by_cases hlk : k < row.length - at_
                · have hk2 : at_ + k < row.length := by omega
                  have d1 := HCe.out _ HF7.out g cp rfl (at_ + k) hk2
                  obtain ⟨b, hbn, hb⟩ := HNat.out _ (List.getElem_mem hk2)
                  have HSk : Hid (triA N ((row.drop at_).take (k + 1)) (a : Int) = triA N ((row.drop at_).take k) (a : Int) + (if (N.getD a []).contains (b : Int) = true then 1 else 0)) := by
                    show _ = _
                    have e : (row.drop at_)[k]? = some (b : Int) := by rw [List.getElem?_drop, List.getElem?_eq_getElem hk2, hb]
                    rw [List.take_add_one, e]
                    unfold triA
                    rw [List.countP_append, Int.toNat_natCast]
                    simp only [Option.toList_some, List.countP_cons, List.countP_nil, Nat.zero_add]
                  have hsk : triA N ((row.drop at_).take k) (a : Int) ≤ 4096 := by
                    refine Nat.le_trans (triA_le _ _ _) ?_
                    rw [List.length_take, List.length_drop]; omega
                  rw [hb] at d1
                  generalize triA N ((row.drop at_).take k) (a : Int) = s1 at HI7 HSk hsk
                  have HWb' : Hid (wr.heap[w1.heap.size]? = some (.cells #[.slice (some ⟨gi, 0, none⟩) n ci, .slice (some ⟨g1, 0, none⟩) n n, .slice (some ⟨g2, 0, none⟩) n n] 76 (0, 0))) := (HF7.out.block _ (lt_of_block HWb.out) (by show ¬ _ = _; omega)).trans HWb.out
                  have hjl : j < (T0.set j ((s0 + s1 : Nat) : Int)).length := by rw [List.length_set]; exact hjT
                  have HAc : Hid (∀ W, Below wr.heap.size wr W → W.cell? ⟨m, j, none⟩ = some (.int .i64 ((s0 + s1 : Nat) : Int)) ∧ W.frozen? ⟨m, j, none⟩ = false) := fun W hb => by
                    have := IB.cell (IB.new HI7.out hb) hjl
                    rw [List.getElem_set_self] at this
                    exact this
                  obtain ⟨s, hs⟩ : ∃ s : Nat, s0 + s1 = s := ⟨_, rfl⟩
                  have hss : s ≤ 20000000 := by omega
                  rw [hs] at HI7 HAc
                  clear hb hjl
                  cases hcb : (N.getD a []).contains (b : Int) with
                  | true =>
                    have HCl : Hid (Calls Try.prog 33 #[.agg #[.slice (some ⟨gi, 0, none⟩) n ci, .slice (some ⟨g1, 0, none⟩) n n, .slice (some ⟨g2, 0, none⟩) n n], .int .i64 (a : Nat), .int .i64 (b : Nat)] wr fun r w' => r = .returned (.bool true) ∧ Below wr.heap.size wr w') := by
                      have := HNb.out wr a b han HF7.out
                      rw [hcb] at this
                      exact this
                    have HK : Hid (s0 + triA N ((row.drop at_).take (k + 1)) (a : Int) = s + 1) := by
                      show _ = _
                      rw [HSk.out, hcb, if_pos rfl]
                      omega
                    clear hcb
                    go_wp2_with (first
                      | (refine wpList_load_row rfl 76 _ rfl w1.heap.size rfl 76 #[.slice (some ⟨gi, 0, none⟩) n ci, .slice (some ⟨g1, 0, none⟩) n n, .slice (some ⟨g2, 0, none⟩) n n] (0, 0) _ HWb'.out Try.underlying76 rfl size_web ?_)
                      | (go_at_call 33; refine HCl.out.mono ?_; rintro r w7 ⟨rfl, hb7⟩; obtain ⟨x0, x1⟩ := HAc.out _ hb7; have HB7 : Hid _ := hb7; clear hb7))
                    generalize hW8 : World.setCell _ _ _ = W8
                    have HI8 : Hid (IB W8 m (T0.set j ((s0 + triA N ((row.drop at_).take (k + 1)) (a : Int) : Nat) : Int))) := by
                      have := IB.set (IB.new HI7.out HB7.out) j (((s + 1 : Nat)) : Int)
                      rw [List.set_set] at this
                      rw [HK.out, ← hW8]
                      have e : wrap64 ((s : Int) + 1) = ((s + 1 : Nat) : Int) := by unfold wrap64; omega
                      first
                        | exact this
                        | (rw [e]; exact this)
                    have HF8 : Hid (Fr W2 W8 (fun q => q = m)) := by rw [← hW8]; exact (HF7.out.trans (Fr.ofBelow HB7.out (fun q => q = m)) (fun _ _ h => h)).trans (Fr.setCell (S := fun q => q = m) _ _ _ rfl) (fun _ _ h => h)
                    go_wp2
                    go_roundw
                    case rel => exact ⟨k + 1, by omega, by go_num, HI8, HF8⟩
                    case measure => simp [intOf]; omega
                  | false =>
                    have HCl : Hid (Calls Try.prog 33 #[.agg #[.slice (some ⟨gi, 0, none⟩) n ci, .slice (some ⟨g1, 0, none⟩) n n, .slice (some ⟨g2, 0, none⟩) n n], .int .i64 (a : Nat), .int .i64 (b : Nat)] wr fun r w' => r = .returned (.bool false) ∧ Below wr.heap.size wr w') := by
                      have := HNb.out wr a b han HF7.out
                      rw [hcb] at this
                      exact this
                    have HK : Hid (s0 + triA N ((row.drop at_).take (k + 1)) (a : Int) = s) := by
                      show _ = _
                      rw [HSk.out, hcb, if_neg (by simp)]
                      omega
                    clear hcb
                    go_wp2_with (first
                      | (refine wpList_load_row rfl 76 _ rfl w1.heap.size rfl 76 #[.slice (some ⟨gi, 0, none⟩) n ci, .slice (some ⟨g1, 0, none⟩) n n, .slice (some ⟨g2, 0, none⟩) n n] (0, 0) _ HWb'.out Try.underlying76 rfl size_web ?_)
                      | (go_at_call 33; refine HCl.out.mono ?_; rintro r w7 ⟨rfl, hb7⟩; have HB7 : Hid _ := hb7; clear hb7))
                    go_roundw
                    case rel => exact ⟨k + 1, by omega, by go_num, (by rw [HK.out]; exact IB.new HI7.out HB7.out), HF7.out.trans (Fr.ofBelow HB7.out (fun q => q = m)) (fun _ _ h => h)⟩
                    case measure => simp [intOf]; omega
                · obtain rfl : k = row.length - at_ := by omega
                  have HI8 : Hid (IB wr m (T0.set j ((triB N (row.drop at_) (row.take (q + 1)) : Nat) : Int))) := by
                    rw [HSn.out]
                    have := HI7.out
                    rw [List.take_of_length_le (by rw [List.length_drop]; omega)] at this
                    exact this
                  go_wp2
                  go_roundw
                  case rel => exact ⟨q + 1, by omega, by go_num, HI8, HF7⟩
                  case measure => simp [intOf]; omega
          · obtain rfl : q = at_ := by omega
            have HI7 : Hid (IB wr m (tabF (tri N) n (j + 1))) := by rw [← HTs.out, HTe.out]; exact HI6.out
            go_wp2
            go_roundw
            case rel => exact ⟨j + 1, by omega, by go_num, HI7, HF6⟩
            case measure => simp [intOf]; omega
    · obtain rfl : j = n := by omega
      go_wp2
      go_ret
      have hFt : Fr w1 wr (fun k => k = m) := HF0.out.trans HF.out (fun _ _ h => h)
      exact ⟨⟨m, rfl, HI.out, by omega⟩, HBe.out.trans (hFt.below HBe.out.size (fun k hk => by omega))⟩
end Go.Proofs.Ytmpbdaogdahiiaa
end

section
/- Numbers, each once, rising: what sorting and striking doubles makes, what putting one by one makes; partitions in turn. Plain data. -/
namespace Go.Proofs.Ytmpbdaogdahiiaa
open Go
/-- Rising, each once. -/
def RiseI (L : List Int) : Prop := L.Pairwise (· < ·)
theorem rise_ext : ∀ {A B : List Int}, RiseI A → RiseI B → (∀ x, x ∈ A ↔ x ∈ B) → A = B
  | [], [], _, _, _ => rfl
  | [], b :: B, _, _, h => by have := (h b).2 List.mem_cons_self; cases this
  | a :: A, [], _, _, h => by have := (h a).1 List.mem_cons_self; cases this
  | a :: A, b :: B, hA, hB, h => by
    have hA' := List.pairwise_cons.1 hA
    have hB' := List.pairwise_cons.1 hB
    have e : a = b := by
      rcases List.mem_cons.1 ((h a).1 List.mem_cons_self) with h1 | h1
      · exact h1
      · rcases List.mem_cons.1 ((h b).2 List.mem_cons_self) with h2 | h2
        · exact h2.symm
        · have := hB'.1 a h1
          have := hA'.1 b h2
          omega
    subst e
    rw [rise_ext hA'.2 hB'.2 (fun x => ?_)]
    constructor
    · intro hx
      rcases List.mem_cons.1 ((h x).1 (List.mem_cons_of_mem _ hx)) with h1 | h1
      · have := hA'.1 x hx; omega
      · exact h1
    · intro hx
      rcases List.mem_cons.1 ((h x).2 (List.mem_cons_of_mem _ hx)) with h1 | h1
      · have := hB'.1 x hx; omega
      · exact h1
end Go.Proofs.Ytmpbdaogdahiiaa
end

section
/- SpecSets, plain: rows of neighbours over all places; triangles, cores, who is left out of one. -/
namespace Go.Proofs.Ytmpbdaogdahiiaa
/-- Is a a neighbour of i? -/
def nbB (N : List (List Int)) (i a : Nat) : Bool := (N.getD i []).contains ((a : Nat) : Int)
theorem nbB_iff {N : List (List Int)} {i a : Nat} : nbB N i a = true ↔ ((a : Nat) : Int) ∈ N.getD i [] := by unfold nbB; simp
theorem near_nb {G : List Vx} (hr : Rise (ids G)) (hth : thereE G = true) (he : (evs G).length ≤ 2048) {i a : Nat} (hi : i < G.length) (ha : a < G.length) : nearD G i a = nbB (nearR G) i a := by
  rw [Bool.eq_iff_iff, nearD_iff hi ha, nbB_iff, (nearR_row hr hth he hi).2.2]
  constructor
  · exact fun h => ⟨a, rfl, h⟩
  · rintro ⟨j, e, h⟩
    have : a = j := by omega
    subst this
    exact h
theorem rise_pwS {L : List Int} (h : Rise L) : RiseI L := by
  unfold RiseI
  rw [List.pairwise_iff_getElem]
  intro i j hi hj hij
  exact h.lt j i hj hij
/-- Over all places. -/
def atN (f : Nat → Bool) (n : Nat) : List Int := ((List.range n).filter f).map (fun a : Nat => (a : Int))
theorem atN_mem {f : Nat → Bool} {n : Nat} {x : Int} : x ∈ atN f n ↔ ∃ a : Nat, a < n ∧ f a = true ∧ x = a := by
  unfold atN
  rw [List.mem_map]
  constructor
  · rintro ⟨a, h, rfl⟩
    rw [List.mem_filter, List.mem_range] at h
    exact ⟨a, h.1, h.2, rfl⟩
  · rintro ⟨a, h1, h2, rfl⟩
    exact ⟨a, List.mem_filter.2 ⟨List.mem_range.2 h1, h2⟩, rfl⟩
theorem atN_rise (f : Nat → Bool) (n : Nat) : RiseI (atN f n) := by
  unfold RiseI atN
  refine List.pairwise_map.2 ?_
  refine (List.Pairwise.filter _ List.pairwise_lt_range).imp ?_
  intro a b h
  omega
theorem atN_count (f : Nat → Bool) (n : Nat) (g : Int → Bool) : (atN f n).countP g = (List.range n).countP (fun a => f a && g ((a : Nat) : Int)) := by
  unfold atN
  rw [List.countP_map, List.countP_filter]
  congr 1
  funext a
  simp only [Function.comp]
  exact Bool.and_comm _ _
theorem atN_sum (f : Nat → Bool) (n : Nat) (g : Int → Nat) : ((atN f n).map g).sum = ((List.range n).map (fun a => if f a then g ((a : Nat) : Int) else 0)).sum := by
  unfold atN
  induction (List.range n) with
  | nil => rfl
  | cons a l ih =>
    by_cases h : f a = true
    · rw [List.filter_cons_of_pos h]
      simp only [List.map_cons, List.sum_cons, if_pos h]
      rw [ih]
    · rw [List.filter_cons_of_neg h]
      simp only [List.map_cons, List.sum_cons, if_neg h]
      rw [ih]
      omega
section
variable {N : List (List Int)} {n : Nat}
theorem row_is (hR : Rows2 N n) (hp : ∀ i, i < n → RiseI (N.getD i [])) {i : Nat} (hi : i < n) : N.getD i [] = atN (nbB N i) n := by
  refine rise_ext (hp i hi) (atN_rise _ _) (fun x => ?_)
  rw [atN_mem]
  constructor
  · intro hx
    obtain ⟨j, hj, rfl⟩ := hR.nat i hi x hx
    exact ⟨j, hj, nbB_iff.2 hx, rfl⟩
  · rintro ⟨a, _, h, rfl⟩
    exact nbB_iff.1 h
theorem take_find {L : List Int} (h : RiseI L) (x : Int) : L.take (findN L x) = L.filter (fun y => decide (y < x)) := by
  induction L with
  | nil => rfl
  | cons a l ih =>
    have hp := List.pairwise_cons.1 h
    by_cases ha : a < x
    · have e : findN (a :: l) x = findN l x + 1 := by unfold findN; rw [List.takeWhile_cons, if_pos (by simpa using ha)]; rfl
      rw [e, List.take_succ_cons, List.filter_cons_of_pos (by simpa using ha), ih hp.2]
    · have e : findN (a :: l) x = 0 := by unfold findN; rw [List.takeWhile_cons, if_neg (by simpa using ha)]; rfl
      rw [e, List.take_zero]
      symm
      rw [List.filter_eq_nil_iff]
      intro y hy
      rcases List.mem_cons.1 hy with rfl | hy
      · simpa using ha
      · have := hp.1 y hy
        simp
        omega
theorem drop_find {L : List Int} (h : RiseI L) (x : Int) (hx : x ∉ L) : L.drop (findN L x) = L.filter (fun y => decide (x < y)) := by
  induction L with
  | nil => rfl
  | cons a l ih =>
    have hp := List.pairwise_cons.1 h
    have hax : a ≠ x := fun e => hx (by rw [e]; exact List.mem_cons_self)
    have hxl : x ∉ l := fun e => hx (List.mem_cons_of_mem _ e)
    by_cases ha : a < x
    · have e : findN (a :: l) x = findN l x + 1 := by unfold findN; rw [List.takeWhile_cons, if_pos (by simpa using ha)]; rfl
      rw [e, List.drop_succ_cons, List.filter_cons_of_neg (by simp; omega), ih hp.2 hxl]
    · have e : findN (a :: l) x = 0 := by unfold findN; rw [List.takeWhile_cons, if_neg (by simpa using ha)]; rfl
      rw [e, List.drop_zero]
      symm
      rw [List.filter_eq_self]
      intro y hy
      rcases List.mem_cons.1 hy with rfl | hy
      · simp; omega
      · have := hp.1 y hy
        simp
        omega
theorem atN_filter (f : Nat → Bool) (n : Nat) (g : Int → Bool) : (atN f n).filter g = atN (fun a => f a && g ((a : Nat) : Int)) n := by
  unfold atN
  rw [List.filter_map, List.filter_filter]
  congr 2
  funext a
  simp only [Function.comp]
  exact Bool.and_comm _ _
/-- Those in the middle of three, by places: as the law counts. -/
def subT (N : List (List Int)) (i a m : Nat) : Nat := (List.range m).countP (fun c => decide (a < c) && (decide (a < i) && (decide (i < c) && (nbB N i c && nbB N a c))))
def cntT (N : List (List Int)) (n i m : Nat) : Nat := ((List.range m).map (fun a => if nbB N i a then subT N i a n else 0)).sum
theorem tri_is (hR : Rows2 N n) (hp : ∀ i, i < n → RiseI (N.getD i [])) {i : Nat} (hi : i < n) : tri N i = cntT N n i n := by
  unfold tri
  have hx := hR.self i hi
  rw [drop_find (hp i hi) _ hx, take_find (hp i hi)]
  rw [row_is hR hp hi, atN_filter, atN_filter]
  unfold triB cntT
  rw [atN_sum]
  congr 1
  apply List.map_congr_left
  intro a ha
  rw [List.mem_range] at ha
  by_cases h1 : nbB N i a = true
  · rw [if_pos h1]
    by_cases h2 : a < i
    · have e : (nbB N i a && decide (((a : Nat) : Int) < (i : Int))) = true := by rw [h1]; simp; omega
      rw [if_pos e]
      unfold triA subT
      rw [atN_count, Int.toNat_natCast]
      apply List.countP_congr
      intro c _
      show (((nbB N i c && decide ((i : Int) < (c : Int))) && nbB N a c) = true) ↔ _
      simp only [Bool.and_eq_true, decide_eq_true_eq]
      constructor
      · rintro ⟨⟨h3, h4⟩, h5⟩
        exact ⟨by omega, h2, by omega, h3, h5⟩
      · rintro ⟨_, _, h4, h3, h5⟩
        exact ⟨⟨h3, by omega⟩, h5⟩
    · have e : ¬ (nbB N i a && decide (((a : Nat) : Int) < (i : Int))) = true := by rw [h1]; simp; omega
      rw [if_neg e]
      symm
      unfold subT
      rw [List.countP_eq_zero]
      intro c _
      simp [h2]
  · rw [if_neg h1, if_neg (by simp [h1])]
theorem subT_start (N : List (List Int)) (i a : Nat) : subT N i a (a + 1) = 0 := by
  unfold subT
  rw [List.countP_eq_zero]
  intro c hc
  rw [List.mem_range] at hc
  have : ¬ a < c := by omega
  simp [this]
theorem subT_succ (N : List (List Int)) (i a m : Nat) : subT N i a (m + 1) = subT N i a m + (if (decide (a < m) && (decide (a < i) && (decide (i < m) && (nbB N i m && nbB N a m)))) then 1 else 0) := by
  unfold subT
  rw [List.range_succ, List.countP_append, List.countP_singleton]
theorem subT_le (N : List (List Int)) (i a m : Nat) : subT N i a m ≤ m := by
  unfold subT
  have := List.countP_le_length (p := fun c => decide (a < c) && (decide (a < i) && (decide (i < c) && (nbB N i c && nbB N a c)))) (l := List.range m)
  rwa [List.length_range] at this
theorem cntT_succ (N : List (List Int)) (n i m : Nat) : cntT N n i (m + 1) = cntT N n i m + (if nbB N i m then subT N i m n else 0) := by
  unfold cntT
  rw [List.range_succ, List.map_append, List.sum_append]
  simp
theorem cntT_le (N : List (List Int)) (n i : Nat) : ∀ m, cntT N n i m ≤ m * n
  | 0 => by simp [cntT]
  | m + 1 => by
    rw [cntT_succ, Nat.add_mul, Nat.one_mul]
    have := cntT_le N n i m
    have := subT_le N i m n
    split <;> omega
/-- How many neighbours are in a core. -/
def inC (N : List (List Int)) (L : List Int) (i m : Nat) : Nat := (List.range m).countP (fun a => nbB N i a && decide (0 ≤ L.getD a 0))
theorem inC_succ (N : List (List Int)) (L : List Int) (i m : Nat) : inC N L i (m + 1) = inC N L i m + (if (nbB N i m && decide (0 ≤ L.getD m 0)) then 1 else 0) := by
  unfold inC
  rw [List.range_succ, List.countP_append, List.countP_singleton]
theorem inC_le (N : List (List Int)) (L : List Int) (i m : Nat) : inC N L i m ≤ m := by
  unfold inC
  have := List.countP_le_length (p := fun a => nbB N i a && decide (0 ≤ L.getD a 0)) (l := List.range m)
  rwa [List.length_range] at this
theorem cntC_is (hR : Rows2 N n) (hp : ∀ i, i < n → RiseI (N.getD i [])) {i : Nat} (hi : i < n) (R : List Nat) : cntC N R i = (List.range n).countP (fun a => nbB N i a && !R.contains a) := by
  unfold cntC
  conv => lhs; rw [row_is hR hp hi]
  rw [atN_count]
  rfl
theorem core_in {k : Int} {L : List Int} {R : List Nat} (h : CoreI N n k L R) {a : Nat} (ha : a < n) : decide (0 ≤ L.getD a 0) = !R.contains a := by
  by_cases hr : a ∈ R
  · rw [h.out a hr]
    simp [hr]
  · rw [h.inn a ha hr]
    simp [hr]
theorem inC_is (hR : Rows2 N n) (hp : ∀ i, i < n → RiseI (N.getD i [])) {k : Int} {L : List Int} {R : List Nat} (h : CoreI N n k L R) {i : Nat} (hi : i < n) (hL : 0 ≤ L.getD i 0) : L.getD i 0 = inC N L i n := by
  have hir : i ∉ R := fun e => by rw [h.out i e] at hL; omega
  rw [h.inn i hi hir, cntC_is hR hp hi]
  congr 1
  unfold inC
  apply List.countP_congr
  intro a ha
  rw [List.mem_range] at ha
  rw [core_in h ha]
/-- How many neighbours are left. -/
def inG (N : List (List Int)) (Ft : List Bool) (i m : Nat) : Nat := (List.range m).countP (fun a => Ft.getD a false && nbB N i a)
theorem inG_succ (N : List (List Int)) (Ft : List Bool) (i m : Nat) : inG N Ft i (m + 1) = inG N Ft i m + (if (Ft.getD m false && nbB N i m) then 1 else 0) := by
  unfold inG
  rw [List.range_succ, List.countP_append, List.countP_singleton]
theorem inG_le (N : List (List Int)) (Ft : List Bool) (i m : Nat) : inG N Ft i m ≤ m := by
  unfold inG
  have := List.countP_le_length (p := fun a => Ft.getD a false && nbB N i a) (l := List.range m)
  rwa [List.length_range] at this
/-- What holds in turn t, behind m places: who stays is in; those that left first are out. -/
structure GrI (n : Nat) (R : List Nat) (t m : Nat) (Ft : List Bool) : Prop where
  len : Ft.length = n
  stay : ∀ i, i < n → i ∉ R → Ft.getD i false = true
  gone : ∀ s (h : s < R.length), s < t → Ft.getD R[s] false = false
  now : ∀ (h : t < R.length), R[t] < m → Ft.getD R[t] false = false
theorem GrI.start (n : Nat) (R : List Nat) : GrI n R 0 0 (List.replicate n true) :=
  ⟨by simp, fun i hi _ => by simp [List.getD, hi], fun s _ h => by omega, fun _ h => by omega⟩
theorem GrI.turn {R : List Nat} {t : Nat} {Ft : List Bool} (hs : ∀ r ∈ R, r < n) (h : GrI n R t n Ft) : GrI n R (t + 1) 0 Ft :=
  ⟨h.len, h.stay, fun s hsl hst => by
    rcases Nat.lt_or_ge s t with h1 | h1
    · exact h.gone s hsl h1
    · obtain rfl : s = t := by omega
      exact h.now hsl (hs _ (List.getElem_mem hsl)), fun _ h => by omega⟩
theorem GrI.keep {k : Int} {L : List Int} {R : List Nat} {t i : Nat} {Ft : List Bool} (hR : Rows2 N n) (hp : ∀ i, i < n → RiseI (N.getD i [])) (hC : CoreI N n k L R) (h : GrI n R t i Ft) (hi : i < n) (hk : ¬ (inG N Ft i n : Int) < k) : GrI n R t (i + 1) Ft := by
  refine ⟨h.len, h.stay, h.gone, fun ht hti => ?_⟩
  rcases Nat.lt_or_ge R[t] i with h1 | h1
  · exact h.now ht h1
  · exfalso
    have e : R[t] = i := by omega
    apply hk
    have h2 := hC.chn t ht
    rw [cntC_is hR hp (by rw [e]; exact hi), e] at h2
    refine Int.lt_of_le_of_lt ?_ h2
    have : inG N Ft i n ≤ (List.range n).countP (fun a => nbB N i a && !(R.take t).contains a) := by
      unfold inG
      apply List.countP_mono_left
      intro a ha hfa
      rw [Bool.and_eq_true] at hfa
      rw [Bool.and_eq_true]
      refine ⟨hfa.2, ?_⟩
      simp only [Bool.not_eq_true', ← Bool.not_eq_true]
      intro hc
      have hc2 : a ∈ R.take t := by simpa using hc
      obtain ⟨s, hs, rfl⟩ := List.getElem_of_mem hc2
      rw [List.length_take] at hs
      rw [List.getElem_take] at hfa
      rw [h.gone s (by omega) (by omega)] at hfa
      exact absurd hfa.1 (by simp)
    omega
theorem GrI.drop {k : Int} {L : List Int} {R : List Nat} {t i : Nat} {Ft : List Bool} (hR : Rows2 N n) (hp : ∀ i, i < n → RiseI (N.getD i [])) (hC : CoreI N n k L R) (hL : ∀ i, i < n → 0 ≤ L.getD i 0 → k ≤ L.getD i 0) (h : GrI n R t i Ft) (hi : i < n) (hk : (inG N Ft i n : Int) < k) : GrI n R t (i + 1) (Ft.set i false) := by
  have hg : ∀ a, (Ft.set i false).getD a false = if a = i then false else Ft.getD a false := fun a => by
    simp only [List.getD, List.getElem?_set]
    by_cases e : i = a
    · subst e
      simp [h.len, hi]
    · rw [if_neg e, if_neg (fun e2 => e e2.symm)]
  have hir : i ∈ R := by
    apply Classical.byContradiction
    intro hir
    have h1 := hC.inn i hi hir
    have h2 := hL i hi (by rw [h1]; omega)
    rw [h1, cntC_is hR hp hi] at h2
    have : (List.range n).countP (fun a => nbB N i a && !R.contains a) ≤ inG N Ft i n := by
      unfold inG
      apply List.countP_mono_left
      intro a ha hfa
      rw [List.mem_range] at ha
      rw [Bool.and_eq_true] at hfa ⊢
      refine ⟨h.stay a ha (fun e => ?_), hfa.1⟩
      simp [e] at hfa
    omega
  refine ⟨by rw [List.length_set]; exact h.len, fun a ha har => ?_, fun s hs hst => ?_, fun ht hti => ?_⟩
  · rw [hg, if_neg (fun e => har (by rw [e]; exact hir))]
    exact h.stay a ha har
  · rw [hg]
    split
    · rfl
    · exact h.gone s hs hst
  · rw [hg]
    split
    · rfl
    · exact h.now ht (by omega)
theorem nodup_short : ∀ {S : List Nat} {m : Nat}, S.Nodup → (∀ x ∈ S, x < m) → S.length ≤ m := by
  intro S m hn h
  have h1 : ∀ {S L : List Nat}, S.Nodup → (∀ x ∈ S, x ∈ L) → S.length ≤ L.length := by
    intro S
    induction S with
    | nil => intro L _ _; exact Nat.zero_le _
    | cons a S ih =>
      intro L hn h
      have hn' := List.nodup_cons.1 hn
      have ha := h a List.mem_cons_self
      have := ih (L := L.erase a) hn'.2 (fun x hx => (List.mem_erase_of_ne (by rintro rfl; exact hn'.1 hx)).2 (h x (List.mem_cons_of_mem _ hx)))
      rw [List.length_erase_of_mem ha] at this
      have := List.length_pos_of_mem ha
      simp only [List.length_cons]
      omega
  have := h1 hn (L := List.range m) (fun x hx => List.mem_range.2 (h x hx))
  rwa [List.length_range] at this
theorem GrI.done {k : Int} {L : List Int} {R : List Nat} {Ft : List Bool} (hC : CoreI N n k L R) (h : GrI n R n 0 Ft) {i : Nat} (hi : i < n) : Ft.getD i false = decide (0 ≤ L.getD i 0) := by
  rw [core_in hC hi]
  by_cases hr : i ∈ R
  · obtain ⟨s, hs, rfl⟩ := List.getElem_of_mem hr
    have hl := nodup_short hC.nod hC.sub
    rw [h.gone s hs (by omega)]
    simp
  · rw [h.stay i hi hr]
    simp [hr]
end
end Go.Proofs.Ytmpbdaogdahiiaa
end
