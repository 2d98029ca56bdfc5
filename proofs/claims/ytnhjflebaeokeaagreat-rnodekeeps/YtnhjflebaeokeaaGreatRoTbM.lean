import Derived.Test.YtnhjflebaeokeaaGreatRoPutM
section
/- rnode: the bytes of a snapshot. -/
namespace Go.Proofs.YtnhjflebaeokeaaGreat
open Go.RowKit
attribute [local go_sem] Oper.semAt_some
theorem ba_size0 {s : ByteArray} (h : s.size = 0) : s = { data := #[] } := by
  apply ByteArray.ext
  have : s.data.size = 0 := h
  rw [Array.size_eq_zero_iff] at this
  rw [this]
theorem base_end {w W w1 w4 : World} (h0 : Below w.heap.size w W) (h1 : Below W.heap.size W w1) (f : Fr w1 w4 (fun k => k = W.heap.size ∨ (Value.slice none 0 0).ownBlock = some k)) : Below w.heap.size w w4 := by
  have h := h0.trans (h1.mono h0.size)
  exact h.trans (f.below h.size (fun k hk => by
    rcases hk with rfl | hk
    · exact h0.size
    · cases hk))
set_option maxRecDepth 100000 in
set_option maxHeartbeats 2000000 in
theorem putBase_any {w : World} (h : Hd) (ok : h.ok) (lv : Value) :
    Calls Tryz.prog 104 #[hdV h lv] w fun r w' => r = .returned (.string (str (baseB h))) ∧ Below w.heap.size w w' := by
  have HOk : Hid h.ok := ok
  obtain ⟨vw, nm, bi, bv, base, L⟩ := h
  simp only [hdV]
  have HNum : Hid (bi ≤ 9223372036854775807 ∧ bv ≤ 9223372036854775807 ∧ base.size ≤ 900000) := by
    have k1 := ok.bi1
    have k2 := ok.bv1
    have k3 := ok.room
    simp only at k1 k2 k3
    exact ⟨by omega, by omega, by omega⟩
  have HLn : Hid ((numB bi.toNat).length ≤ 10 ∧ (numB bv.toNat).length ≤ 10) := by
    have k := HNum.out
    exact ⟨numB_len10 (by omega), numB_len10 (by omega)⟩
  clear ok
  go_enter Tryz.func104, Tryz.ntmps104
  go_upto_region 1 with (fail)
  generalize hW : World.alloc _ _ = W
  have b0 : Below w.heap.size w W := by rw [← hW]; exact vone_new _ _
  have hZ : W.heap[w.heap.size]? = some (.cells #[.int .i64 vw, .int .i64 nm, .int .i64 bi, .int .i64 bv, .string base, lv] 66 (0, 0)) := by rw [← hW]; exact heap_alloc_new _ _
  obtain ⟨q, hq⟩ : ∃ q, w.heap.size = q := ⟨_, rfl⟩
  have HQ : Hid (w.heap.size = q) := hq
  have HB0 : Hid (Below w.heap.size w W) := b0
  rw [hq] at hZ ⊢
  have HZ : Hid _ := hZ
  obtain ⟨a0, a1, a2, a3, a4, a5⟩ := hbox6 hZ
  clear hW b0 hZ hq
  by_cases h0 : bi = 0 ∧ bv = 0 ∧ base.size = 0
  · have HF : Hid (baseB ⟨vw, nm, bi, bv, base, L⟩ = []) := by show _ = _; unfold baseB; exact if_pos h0
    obtain ⟨rfl, rfl, h3⟩ := h0
    obtain rfl := ba_size0 h3
    clear h3 HLn HNum
    go_wp2
    go_ret
    exact ⟨by rw [HF.out]; rfl, HB0.out⟩
  · have HF : Hid (baseB ⟨vw, nm, bi, bv, base, L⟩ = numB bi.toNat ++ numB bv.toNat ++ textB base.data.toList) := by show _ = _; unfold baseB; exact if_neg h0
    have hqp : q ≠ W.heap.size := by have := vlt_blk HZ.out; omega
    have hvq : (Value.slice none 0 0).ownBlock ≠ some q := by simp [Value.ownBlock]
    have H2 : Hid (([] : List UInt8).length + 10 ≤ 140737488355328) := by show _ ≤ _; simp
    have H3 : Hid (([] ++ numB bi.toNat).length + 10 ≤ 140737488355328) := by show _ ≤ _; have := HLn.out; simp; omega
    have H4 : Hid (([] ++ numB bi.toNat ++ numB bv.toNat).length + base.size + 10 ≤ 140737488355328) := by show _ ≤ _; have := HLn.out; have := HNum.out; simp; omega
    by_cases k1 : bi = 0
    case neg =>
      have k1b : (bi == 0) = false := by simpa using k1
      go_wp2_with (first
        | (go_at_call 134; refine (newwriter_any _).mono ?_; rintro r w1 ⟨rfl, hw1, hb1⟩; have c2 := (hb1.cell (p := ⟨q, 2, none⟩) (vlt_cell a2)).trans a2; have c3 := (hb1.cell (p := ⟨q, 3, none⟩) (vlt_cell a3)).trans a3; have c4 := (hb1.cell (p := ⟨q, 4, none⟩) (vlt_cell a4)).trans a4; have B1 : Hid _ := hb1; have T1 : Hid (WTo w1 w1 (W.heap.size + 1) W.heap.size (.slice none 0 0) []) := WTo.refl hw1; have tk1 : Hid True := trivial; clear hw1 hb1 a0 a1 a2 a3 a4 a5)
        | (go_at_call 135; first
          | (have _t := tk1; refine (wcount_v bi T1.out HNum.out.1 H2.out).mono ?_; rintro r w2 ⟨rfl, hT2⟩; have d3 := hT2.cell hqp hvq c3; have d4 := hT2.cell hqp hvq c4; have T2 : Hid _ := hT2; clear hT2 tk1)
          | (refine (wcount_v bv T2.out HNum.out.2.1 H3.out).mono ?_; rintro r w3 ⟨rfl, hT3⟩; have e4 := hT3.cell hqp hvq c4; have T3 : Hid _ := hT3; clear hT3))
        | (go_at_call 136; refine (wtext_v base T3.out H4.out).mono ?_; rintro r w4 ⟨rfl, hT4⟩; obtain ⟨v4, hw4, hf4, -⟩ := hT4; have W4 : Hid _ := hw4; have HB4 : Hid (Below w.heap.size w w4) := base_end HB0.out B1.out hf4; clear hw4 hf4)
        | (go_at_call 137; refine (wall_any W4.out).mono ?_; rintro r wz ⟨rfl, hz⟩; rw [hz]; clear hz))
      go_ret
      exact ⟨by rw [HF.out]; simp, HB4.out⟩
    subst k1
    by_cases k2 : bv = 0
    case neg =>
      have k2b : (bv == 0) = false := by simpa using k2
      go_wp2_with (first
        | (go_at_call 134; refine (newwriter_any _).mono ?_; rintro r w1 ⟨rfl, hw1, hb1⟩; have c2 := (hb1.cell (p := ⟨q, 2, none⟩) (vlt_cell a2)).trans a2; have c3 := (hb1.cell (p := ⟨q, 3, none⟩) (vlt_cell a3)).trans a3; have c4 := (hb1.cell (p := ⟨q, 4, none⟩) (vlt_cell a4)).trans a4; have B1 : Hid _ := hb1; have T1 : Hid (WTo w1 w1 (W.heap.size + 1) W.heap.size (.slice none 0 0) []) := WTo.refl hw1; have tk1 : Hid True := trivial; clear hw1 hb1 a0 a1 a2 a3 a4 a5)
        | (go_at_call 135; first
          | (have _t := tk1; refine (wcount_v 0 T1.out HNum.out.1 H2.out).mono ?_; rintro r w2 ⟨rfl, hT2⟩; have d3 := hT2.cell hqp hvq c3; have d4 := hT2.cell hqp hvq c4; have T2 : Hid _ := hT2; clear hT2 tk1)
          | (refine (wcount_v bv T2.out HNum.out.2.1 H3.out).mono ?_; rintro r w3 ⟨rfl, hT3⟩; have e4 := hT3.cell hqp hvq c4; have T3 : Hid _ := hT3; clear hT3))
        | (go_at_call 136; refine (wtext_v base T3.out H4.out).mono ?_; rintro r w4 ⟨rfl, hT4⟩; obtain ⟨v4, hw4, hf4, -⟩ := hT4; have W4 : Hid _ := hw4; have HB4 : Hid (Below w.heap.size w w4) := base_end HB0.out B1.out hf4; clear hw4 hf4)
        | (go_at_call 137; refine (wall_any W4.out).mono ?_; rintro r wz ⟨rfl, hz⟩; rw [hz]; clear hz))
      go_ret
      exact ⟨by rw [HF.out]; simp, HB4.out⟩
    subst k2
    have k3 : base.toList.isEmpty = false := by
      rw [ByteArray.toList_eq]
      cases hl : base.data.toList with
      | nil =>
        refine absurd ⟨rfl, rfl, ?_⟩ h0
        have : base.data.toList.length = 0 := by rw [hl]; rfl
        simpa using this
      | cons _ _ => rfl
    go_wp2_with (first
      | (go_at_call 134; refine (newwriter_any _).mono ?_; rintro r w1 ⟨rfl, hw1, hb1⟩; have c2 := (hb1.cell (p := ⟨q, 2, none⟩) (vlt_cell a2)).trans a2; have c3 := (hb1.cell (p := ⟨q, 3, none⟩) (vlt_cell a3)).trans a3; have c4 := (hb1.cell (p := ⟨q, 4, none⟩) (vlt_cell a4)).trans a4; have B1 : Hid _ := hb1; have T1 : Hid (WTo w1 w1 (W.heap.size + 1) W.heap.size (.slice none 0 0) []) := WTo.refl hw1; have tk1 : Hid True := trivial; clear hw1 hb1 a0 a1 a2 a3 a4 a5)
      | (go_at_call 135; first
        | (have _t := tk1; refine (wcount_v 0 T1.out HNum.out.1 H2.out).mono ?_; rintro r w2 ⟨rfl, hT2⟩; have d3 := hT2.cell hqp hvq c3; have d4 := hT2.cell hqp hvq c4; have T2 : Hid _ := hT2; clear hT2 tk1)
        | (refine (wcount_v 0 T2.out HNum.out.2.1 H3.out).mono ?_; rintro r w3 ⟨rfl, hT3⟩; have e4 := hT3.cell hqp hvq c4; have T3 : Hid _ := hT3; clear hT3))
      | (go_at_call 136; refine (wtext_v base T3.out H4.out).mono ?_; rintro r w4 ⟨rfl, hT4⟩; obtain ⟨v4, hw4, hf4, -⟩ := hT4; have W4 : Hid _ := hw4; have HB4 : Hid (Below w.heap.size w w4) := base_end HB0.out B1.out hf4; clear hw4 hf4)
      | (go_at_call 137; refine (wall_any W4.out).mono ?_; rintro r wz ⟨rfl, hz⟩; rw [hz]; clear hz))
    go_ret
    exact ⟨by rw [HF.out]; simp, HB4.out⟩
end Go.Proofs.YtnhjflebaeokeaaGreat
end

section
/- rnode.takeBase: the bytes of a snapshot are read. -/
namespace Go.Proofs.YtnhjflebaeokeaaGreat
open Go.RowKit
attribute [local go_sem] Oper.semAt_some
theorem size_hard : (Tryz.prog.info? 66).map (·.size) = some 6 := by kernel_rfl
set_option linter.unusedSimpArgs false in
set_option maxRecDepth 100000 in
set_option maxHeartbeats 2000000 in
theorem takeBase_none (w : World) : Calls Tryz.prog 83 #[.string (str [])] w fun r w' => r = .returned (.tuple #[.agg #[.int .i64 0, .int .i64 0, .int .i64 0, .int .i64 0, .string (str []), .slice none 0 0], .bool true]) ∧ Below w.heap.size w w' := by
  go_enter Tryz.func83, Tryz.ntmps83
  go_upto_region 1 with (fail)
  generalize hW : World.alloc _ _ = W
  have b0 : Below w.heap.size w W := by rw [← hW]; exact vone_new _ _
  have hZ : W.heap[w.heap.size]? = some (.cells #[.int .i64 0, .int .i64 0, .int .i64 0, .int .i64 0, .string (str []), .slice none 0 0] 66 (0, 0)) := by rw [← hW]; exact heap_alloc_new _ _
  obtain ⟨q, hq⟩ : ∃ q, w.heap.size = q := ⟨_, rfl⟩
  have HQ : Hid (w.heap.size = q) := hq
  rw [hq] at hZ ⊢
  have HB0 : Hid (Below w.heap.size w W) := b0
  have HZ : Hid _ := hZ
  have hse : (str []).toList.isEmpty = true := by rw [ByteArray.toList_eq]; rfl
  clear hW b0 hZ hq
  go_wp2_with (refine wpList_store_row rfl 66 _ _ rfl q #[.int .i64 0, .int .i64 0, .int .i64 0, .int .i64 0, .string (str []), .slice none 0 0] rfl rfl 66 #[.int .i64 0, .int .i64 0, .int .i64 0, .int .i64 0, .string (str []), .slice none 0 0] HZ.out size_hard rfl (by simp [Value.oneCell']) ?_)
  refine bodyPost_ret (v := .tuple #[.agg #[.int .i64 0, .int .i64 0, .int .i64 0, .int .i64 0, .string (str []), .slice none 0 0], .bool true]) (res_ctV Tryz.results83 _ _ q 66 _ (0, 0) _ rfl (setRow_heap _ _ _ _ _ _ HZ.out) Tryz.underlying66 rfl size_hard) rfl ?_
  refine ⟨rfl, HB0.out.trans ((vfr_setRow W q _).below HB0.out.size (fun k hk => by have := HQ.out; omega))⟩
set_option linter.unusedSimpArgs false in
set_option maxRecDepth 100000 in
set_option maxHeartbeats 2000000 in
theorem takeBase_some {w : World} {s : ByteArray} {n0 a0 n1 a1 a2 : Nat} {e0 e1 e2 : Int} {t : ByteArray} (hs : s.size ≤ maxLen) (hs0 : s.size ≠ 0) (h0 : rdCount s 0 0 2147483647 = (n0, a0, e0)) (h1 : rdCount s a0 e0 2147483647 = (n1, a1, e1)) (h2 : rdText s a1 e1 = (t, a2, e2)) :
    Calls Tryz.prog 83 #[.string s] w fun r w' => r = .returned (.tuple #[.agg #[.int .i64 0, .int .i64 0, .int .i64 (n0 : Int), .int .i64 (n1 : Int), .string t, .slice none 0 0], .bool (rdEnd s a2 e2 == 0)]) ∧ Below w.heap.size w w' := by
  have H0 : Hid (rdCount s 0 0 2147483647 = (n0, a0, e0)) := h0
  have H1 : Hid (rdCount s a0 e0 2147483647 = (n1, a1, e1)) := h1
  have H2 : Hid (rdText s a1 e1 = (t, a2, e2)) := h2
  have HA0 : Hid (a0 ≤ s.size) := (rdCount_to (most := 2147483647) (Nat.zero_le _) h0).1
  have HA1 : Hid (a1 ≤ s.size) := (rdCount_to (most := 2147483647) HA0.out h1).1
  have HA2 : Hid (a2 ≤ s.size) := rdText_leV HA1.out h2
  have HS : Hid (s.size ≤ maxLen) := hs
  have hse : s.toList.isEmpty = false := by
    rw [ByteArray.toList_eq]
    cases hl : s.data.toList with
    | nil =>
      refine absurd ?_ hs0
      have : s.data.toList.length = 0 := by rw [hl]; rfl
      simpa using this
    | cons _ _ => rfl
  obtain ⟨z, hz⟩ : ∃ z, rdEnd s a2 e2 = z := ⟨_, rfl⟩
  have HZE : Hid (rdEnd s a2 e2 = z) := hz
  rw [hz]
  clear h0 h1 h2 hs hs0 hz
  go_enter Tryz.func83, Tryz.ntmps83
  go_upto_region 1 with (fail)
  generalize hW : World.alloc _ _ = W
  have b0 : Below w.heap.size w W := by rw [← hW]; exact vone_new _ _
  have hZ : W.heap[w.heap.size]? = some (.cells #[.int .i64 0, .int .i64 0, .int .i64 0, .int .i64 0, .string (str []), .slice none 0 0] 66 (0, 0)) := by rw [← hW]; exact heap_alloc_new _ _
  obtain ⟨q, hq⟩ : ∃ q, w.heap.size = q := ⟨_, rfl⟩
  have HQ : Hid (w.heap.size = q) := hq
  rw [hq] at hZ ⊢
  have HB0 : Hid (Below w.heap.size w W) := b0
  have HZ : Hid _ := hZ
  clear hW b0 hZ hq
  go_upto_region 4 with (go_at_call 118; refine (newreader_any s _).mono ?_; rintro r w1 ⟨rfl, hr1, hb1⟩)
  obtain ⟨p, hp⟩ : ∃ p, W.heap.size = p := ⟨_, rfl⟩
  have HP : Hid (W.heap.size = p) := hp
  rw [hp] at hr1 ⊢
  have HR1 : Hid (Rd w1 p s 0 0) := hr1
  have HB1 : Hid (Below W.heap.size W w1) := hb1
  have tk1 : Hid True := trivial
  clear hr1 hb1 hp
  go_upto_region 5 with (first
    | (go_at_call 119; first
      | (have _t := tk1; refine (rct_most HR1.out HS.out (Nat.zero_le _) H0.out).mono ?_; rintro r w2 ⟨rfl, hr2, hf2⟩; have HR2 : Hid (Rd w2 p s a0 e0) := hr2; have HF2 : Hid (Fr w1 w2 (fun k => k = p)) := hf2; clear hr2 hf2 tk1)
      | (refine (rct_most HR2.out HS.out HA0.out H1.out).mono ?_; rintro r w3 ⟨rfl, hr3, hf3⟩; have HR3 : Hid (Rd w3 p s a1 e1) := hr3; have HF3 : Hid (Fr w1 w3 (fun k => k = p)) := HF2.out.trans hf3 (fun _ _ h => h); clear hr3 hf3))
    | (go_at_call 120; refine (rtx HR3.out HS.out HA1.out H2.out).mono ?_; rintro r w4 ⟨rfl, hr4, hf4⟩; have HR4 : Hid (Rd w4 p s a2 e2) := hr4; have HF4 : Hid (Fr w1 w4 (fun k => k = p)) := HF3.out.trans hf4 (fun _ _ h => h); clear hr4 hf4)
    | (refine wpList_store_row rfl 66 _ _ rfl _ #[.int .i64 0, .int .i64 0, .int .i64 (n0 : Int), .int .i64 (n1 : Int), .string t, .slice none 0 0] rfl rfl 66 #[.int .i64 0, .int .i64 0, .int .i64 0, .int .i64 0, .string (str []), .slice none 0 0] (heap_alloc_new _ _) size_hard rfl (by simp [Value.oneCell']) ?_))
  generalize hW5 : World.setRow _ _ _ = W5
  have hbx : W5.heap[w4.heap.size]? = some (.cells #[.int .i64 0, .int .i64 0, .int .i64 (n0 : Int), .int .i64 (n1 : Int), .string t, .slice none 0 0] 66 (0, 0)) := by rw [← hW5]; exact setRow_heap _ _ _ _ _ _ (heap_alloc_new _ _)
  have hb5 : Below w4.heap.size w4 W5 := by rw [← hW5]; exact ((Fr.alloc w4 _ (fun _ => False)).trans (vfr_setRow _ _ _) (fun i hi e => absurd e (by omega))).below (Nat.le_refl _) (fun _ h => h.elim)
  have HR5 : Hid (Rd W5 p s a2 e2) := Rd.below HR4.out hb5
  have HZ5 : Hid (W5.heap[q]? = some (.cells #[.int .i64 0, .int .i64 0, .int .i64 0, .int .i64 0, .string (str []), .slice none 0 0] 66 (0, 0))) := by
    have l1 := vlt_blk HZ.out
    have z1 := (HB1.out.block q l1).trans HZ.out
    have z4 := (HF4.out.block q (vlt_blk z1) (by have := HP.out; omega)).trans z1
    exact (hb5.block q (vlt_blk z4)).trans z4
  have HBW5 : Hid (Below w.heap.size w W5) := by
    have k1 : Below w.heap.size w w1 := HB0.out.trans (HB1.out.mono HB0.out.size)
    have k2 : Below w.heap.size w w4 := k1.trans (HF4.out.below k1.size (fun k hk => by have := HP.out; have := HB0.out.size; omega))
    exact k2.trans (hb5.mono k2.size)
  obtain ⟨g, hg⟩ : ∃ g, w4.heap.size = g := ⟨_, rfl⟩
  have HGq : Hid (g ≠ q ∧ g ≠ p) := by
    have l1 := vlt_blk HZ.out
    have l2 := HB1.out.size
    have l3 := HF4.out.size
    have l4 := vlt_blk HR1.out
    have := HP.out
    exact ⟨by omega, by omega⟩
  rw [hg] at hbx ⊢
  have HBx : Hid (W5.heap[g]? = some (.cells #[.int .i64 0, .int .i64 0, .int .i64 (n0 : Int), .int .i64 (n1 : Int), .string t, .slice none 0 0] 66 (0, 0))) := hbx
  clear hW5 hbx hb5 hg
  obtain ⟨Wd, hWd⟩ : ∃ Wd, W5.drew = Wd := ⟨_, rfl⟩
  have bd : Below W5.heap.size W5 Wd := by rw [← hWd]; exact Below.drew (Below.refl _ _)
  have hBd : Wd.heap[g]? = some (.cells #[.int .i64 0, .int .i64 0, .int .i64 (n0 : Int), .int .i64 (n1 : Int), .string t, .slice none 0 0] 66 (0, 0)) := (bd.block g (vlt_blk HBx.out)).trans HBx.out
  have HZd : Hid (Wd.heap[q]? = some (.cells #[.int .i64 0, .int .i64 0, .int .i64 0, .int .i64 0, .string (str []), .slice none 0 0] 66 (0, 0))) := (bd.block q (vlt_blk HZ5.out)).trans HZ5.out
  have HRd : Hid (Rd Wd p s a2 e2) := Rd.below HR5.out bd
  have HBWd : Hid (Below w.heap.size w Wd) := HBW5.out.trans (bd.mono HBW5.out.size)
  obtain ⟨y0, y1, y2, y3, y4, y5⟩ := hbox6 hBd
  have HBxd : Hid (Wd.heap[g]? = some (.cells #[.int .i64 0, .int .i64 0, .int .i64 (n0 : Int), .int .i64 (n1 : Int), .string t, .slice none 0 0] 66 (0, 0))) := hBd
  refine wp_calmV ?_
  refine wp_region_L [] (fun w' : World => w'.cell? ⟨g, 0, none⟩ = some (.int .i64 0) ∧ w'.cell? ⟨g, 1, none⟩ = some (.int .i64 0) ∧ w'.cell? ⟨g, 2, none⟩ = some (.int .i64 (n0 : Int)) ∧ w'.cell? ⟨g, 3, none⟩ = some (.int .i64 (n1 : Int)) ∧ w'.cell? ⟨g, 4, none⟩ = some (.string t) ∧ w'.cell? ⟨g, 5, none⟩ = some (.slice none 0 0)) (by kernel_rfl) ?_
  rw [hWd]
  have hS : (fun w' : World => w'.cell? ⟨g, 0, none⟩ = some (.int .i64 0) ∧ w'.cell? ⟨g, 1, none⟩ = some (.int .i64 0) ∧ w'.cell? ⟨g, 2, none⟩ = some (.int .i64 (n0 : Int)) ∧ w'.cell? ⟨g, 3, none⟩ = some (.int .i64 (n1 : Int)) ∧ w'.cell? ⟨g, 4, none⟩ = some (.string t) ∧ w'.cell? ⟨g, 5, none⟩ = some (.slice none 0 0)) Wd := ⟨y0, y1, y2, y3, y4, y5⟩
  clear hWd bd hBd y0 y1 y2 y3 y4 y5
  refine wpAnyL_take (i := 0) 18 (v := .agg #[.int .i64 0, .int .i64 0, .int .i64 (n0 : Int), .int .i64 (n1 : Int), .string t, .slice none 0 0]) rfl rfl (by kernel_rfl) (by kernel_rfl) (by kernel_rfl) (by kernel_rfl) (by kernel_rfl) (by kernel_rfl) (fun _ _ _ h => h) hS (by rfl) (by intro w' hSw; obtain ⟨y0, y1, y2, y3, y4, y5⟩ := hSw; go_simp <;> with_reducible rfl) ?_
  simp only [Act.put, List.setIfInBounds_toArray, List.set_cons_zero, List.set_cons_succ]
  refine wpAnyL_take (i := 1) 19 (v := .pointer (some ⟨p, 0, none⟩)) rfl rfl (by kernel_rfl) (by kernel_rfl) (by kernel_rfl) (by kernel_rfl) (by kernel_rfl) (by kernel_rfl) (fun _ _ _ h => h) hS (by rfl) (by intro w' hSw; obtain ⟨y0, y1, y2, y3, y4, y5⟩ := hSw; go_simp <;> with_reducible rfl) ?_
  simp only [Act.put, List.setIfInBounds_toArray, List.set_cons_zero, List.set_cons_succ]
  refine wpAnyL_one (i := 2) (by kernel_rfl) rfl (fun Ka hKa => ?_)
  go_simp
  refine Calls.mono (rend_any HRd.out HS.out HA2.out) ?_
  rintro r w6 ⟨rfl, -, hf6⟩
  rw [HZE.out]
  have hB6 : w6.heap[g]? = some (.cells #[.int .i64 0, .int .i64 0, .int .i64 (n0 : Int), .int .i64 (n1 : Int), .string t, .slice none 0 0] 66 (0, 0)) := (hf6.block g (vlt_blk HBxd.out) HGq.out.2).trans HBxd.out
  have HZ6 : Hid (w6.heap[q]? = some (.cells #[.int .i64 0, .int .i64 0, .int .i64 0, .int .i64 0, .string (str []), .slice none 0 0] 66 (0, 0))) := (hf6.block q (vlt_blk HZd.out) (by have := HP.out; have := vlt_blk HZ.out; omega)).trans HZd.out
  have HBW6 : Hid (Below w.heap.size w w6) := HBWd.out.trans (hf6.below HBWd.out.size (fun k hk => by have := HP.out; have := HB0.out.size; omega))
  obtain ⟨y0, y1, y2, y3, y4, y5⟩ := hbox6 hB6
  have hS1 : (fun w' : World => w'.cell? ⟨g, 0, none⟩ = some (.int .i64 0) ∧ w'.cell? ⟨g, 1, none⟩ = some (.int .i64 0) ∧ w'.cell? ⟨g, 2, none⟩ = some (.int .i64 (n0 : Int)) ∧ w'.cell? ⟨g, 3, none⟩ = some (.int .i64 (n1 : Int)) ∧ w'.cell? ⟨g, 4, none⟩ = some (.string t) ∧ w'.cell? ⟨g, 5, none⟩ = some (.slice none 0 0)) w6 := ⟨y0, y1, y2, y3, y4, y5⟩
  refine hKa.out _ _ (fun _ => hS1) ?_
  clear hKa Ka hS hf6
  try simp only [Act.put, List.setIfInBounds_toArray, List.set_cons_zero, List.set_cons_succ]
  refine wpAnyL_take (i := 3) 21 (v := .bool (z == 0)) rfl rfl (by kernel_rfl) (by kernel_rfl) (by kernel_rfl) (by kernel_rfl) (by kernel_rfl) (by kernel_rfl) (fun _ _ _ h => h) hS1 (by rfl) (by intro w' hSw; obtain ⟨y0, y1, y2, y3, y4, y5⟩ := hSw; go_simp <;> with_reducible rfl) ?_
  simp only [Act.put, List.setIfInBounds_toArray, List.set_cons_zero, List.set_cons_succ]
  refine wpAnyL_one (i := 4) (by kernel_rfl) rfl (fun Ka hKa => ?_)
  refine wp_store_row 66 _ _ rfl q #[.int .i64 0, .int .i64 0, .int .i64 (n0 : Int), .int .i64 (n1 : Int), .string t, .slice none 0 0] rfl rfl 66 #[.int .i64 0, .int .i64 0, .int .i64 0, .int .i64 0, .string (str []), .slice none 0 0] HZ6.out size_hard rfl (by simp [Value.oneCell']) ?_
  have f7 := vfr_setRow w6 q #[.int .i64 0, .int .i64 0, .int .i64 (n0 : Int), .int .i64 (n1 : Int), .string t, .slice none 0 0]
  have hB7 : (w6.setRow q #[.int .i64 0, .int .i64 0, .int .i64 (n0 : Int), .int .i64 (n1 : Int), .string t, .slice none 0 0]).heap[g]? = some (.cells #[.int .i64 0, .int .i64 0, .int .i64 (n0 : Int), .int .i64 (n1 : Int), .string t, .slice none 0 0] 66 (0, 0)) := (f7.block g (vlt_blk hB6) HGq.out.1).trans hB6
  obtain ⟨x0, x1, x2, x3, x4, x5⟩ := hbox6 hB7
  refine hKa.out _ _ (fun _ => ⟨x0, x1, x2, x3, x4, x5⟩) ?_
  have hS2 : (fun w' : World => w'.cell? ⟨g, 0, none⟩ = some (.int .i64 0) ∧ w'.cell? ⟨g, 1, none⟩ = some (.int .i64 0) ∧ w'.cell? ⟨g, 2, none⟩ = some (.int .i64 (n0 : Int)) ∧ w'.cell? ⟨g, 3, none⟩ = some (.int .i64 (n1 : Int)) ∧ w'.cell? ⟨g, 4, none⟩ = some (.string t) ∧ w'.cell? ⟨g, 5, none⟩ = some (.slice none 0 0)) (w6.setRow q #[.int .i64 0, .int .i64 0, .int .i64 (n0 : Int), .int .i64 (n1 : Int), .string t, .slice none 0 0]) := ⟨x0, x1, x2, x3, x4, x5⟩
  clear hKa Ka
  try simp only [Act.put, List.setIfInBounds_toArray, List.set_cons_zero, List.set_cons_succ]
  refine wpAnyL_one (i := 5) (by kernel_rfl) rfl (fun Ka hKa => ?_)
  go_simp
  refine hKa.out _ _ (fun _ => hS2) ?_
  clear hKa Ka
  try simp only [Act.put, List.setIfInBounds_toArray, List.set_cons_zero, List.set_cons_succ]
  refine wpAnyL_done (by kernel_rfl) ?_ _
  have HZ7 : Hid ((w6.setRow q #[.int .i64 0, .int .i64 0, .int .i64 (n0 : Int), .int .i64 (n1 : Int), .string t, .slice none 0 0]).heap[q]? = some (.cells #[.int .i64 0, .int .i64 0, .int .i64 (n0 : Int), .int .i64 (n1 : Int), .string t, .slice none 0 0] 66 (0, 0))) := setRow_heap _ _ _ _ _ _ HZ6.out
  have HB7 : Hid (Below w.heap.size w (w6.setRow q #[.int .i64 0, .int .i64 0, .int .i64 (n0 : Int), .int .i64 (n1 : Int), .string t, .slice none 0 0])) := HBW6.out.trans (f7.below HBW6.out.size (fun k hk => by have := HQ.out; omega))
  clear hS1 hS2 f7 hB7 x0 x1 x2 x3 x4 x5 y0 y1 y2 y3 y4 y5
  go_wp2
  refine bodyPost_ret (v := .tuple #[.agg #[.int .i64 0, .int .i64 0, .int .i64 (n0 : Int), .int .i64 (n1 : Int), .string t, .slice none 0 0], .bool (z == 0)]) (res_ctV Tryz.results83 _ _ q 66 _ (0, 0) _ rfl HZ7.out Tryz.underlying66 rfl size_hard) rfl ?_
  exact ⟨rfl, HB7.out⟩
end Go.Proofs.YtnhjflebaeokeaaGreat
end
