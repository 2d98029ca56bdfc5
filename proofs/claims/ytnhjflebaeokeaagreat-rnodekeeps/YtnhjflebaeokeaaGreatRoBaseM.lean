import Derived.Test.YtnhjflebaeokeaaGreatRoPutM
/- rnode: the bytes of a snapshot. -/
namespace Go.Proofs.YtnhjflebaeokeaaGreat
open Go.RowKit
attribute [local go_sem] Oper.semAt_some
theorem ba_size0 {s : ByteArray} (h : s.size = 0) : s = { data := #[] } := by
  apply ByteArray.ext
  have : s.data.size = 0 := h
  rw [Array.size_eq_zero_iff] at this
  rw [this]
theorem base_end {w W w1 w4 : World} (h0 : Below w.heap.size w W) (h1 : Below W.heap.size W w1) (f : Fr w1 w4 (fun k => k = W.heap.size ∨ (Value.slice none 0 0).ownBlock = some k)) : Below w.heap.size w w4 := by
  have h := h0.trans (h1.mono h0.size)
  exact h.trans (f.below h.size (fun k hk => by
    rcases hk with rfl | hk
    · exact h0.size
    · cases hk))
set_option maxRecDepth 100000 in
set_option maxHeartbeats 2000000 in
theorem putBase_any {w : World} (h : Hd) (ok : h.ok) (lv : Value) :
    Calls Tryz.prog 104 #[hdV h lv] w fun r w' => r = .returned (.string (str (baseB h))) ∧ Below w.heap.size w w' := by
  have HOk : Hid h.ok := ok
  obtain ⟨vw, nm, bi, bv, base, L⟩ := h
  simp only [hdV]
  have HNum : Hid (bi ≤ 9223372036854775807 ∧ bv ≤ 9223372036854775807 ∧ base.size ≤ 900000) := by
    have k1 := ok.bi1
    have k2 := ok.bv1
    have k3 := ok.room
    simp only at k1 k2 k3
    exact ⟨by omega, by omega, by omega⟩
  have HLn : Hid ((numB bi.toNat).length ≤ 10 ∧ (numB bv.toNat).length ≤ 10) := by
    have k := HNum.out
    exact ⟨numB_len10 (by omega), numB_len10 (by omega)⟩
  clear ok
  go_enter Tryz.func104, Tryz.ntmps104
  go_upto_region 1 with (fail)
  generalize hW : World.alloc _ _ = W
  have b0 : Below w.heap.size w W := by rw [← hW]; exact vone_new _ _
  have hZ : W.heap[w.heap.size]? = some (.cells #[.int .i64 vw, .int .i64 nm, .int .i64 bi, .int .i64 bv, .string base, lv] 66 (0, 0)) := by rw [← hW]; exact heap_alloc_new _ _
  obtain ⟨q, hq⟩ : ∃ q, w.heap.size = q := ⟨_, rfl⟩
  have HQ : Hid (w.heap.size = q) := hq
  have HB0 : Hid (Below w.heap.size w W) := b0
  rw [hq] at hZ ⊢
  have HZ : Hid _ := hZ
  obtain ⟨a0, a1, a2, a3, a4, a5⟩ := hbox6 hZ
  clear hW b0 hZ hq
  by_cases h0 : bi = 0 ∧ bv = 0 ∧ base.size = 0
  · have HF : Hid (baseB ⟨vw, nm, bi, bv, base, L⟩ = []) := by show _ = _; unfold baseB; exact if_pos h0
    obtain ⟨rfl, rfl, h3⟩ := h0
    obtain rfl := ba_size0 h3
    clear h3 HLn HNum
    go_wp2
    go_ret
    exact ⟨by rw [HF.out]; rfl, HB0.out⟩
  · have HF : Hid (baseB ⟨vw, nm, bi, bv, base, L⟩ = numB bi.toNat ++ numB bv.toNat ++ textB base.data.toList) := by show _ = _; unfold baseB; exact if_neg h0
    have hqp : q ≠ W.heap.size := by have := vlt_blk HZ.out; omega
    have hvq : (Value.slice none 0 0).ownBlock ≠ some q := by simp [Value.ownBlock]
    have H2 : Hid (([] : List UInt8).length + 10 ≤ 140737488355328) := by show _ ≤ _; simp
    have H3 : Hid (([] ++ numB bi.toNat).length + 10 ≤ 140737488355328) := by show _ ≤ _; have := HLn.out; simp; omega
    have H4 : Hid (([] ++ numB bi.toNat ++ numB bv.toNat).length + base.size + 10 ≤ 140737488355328) := by show _ ≤ _; have := HLn.out; have := HNum.out; simp; omega
    by_cases k1 : bi = 0
    case neg =>
      have k1b : (bi == 0) = false := by simpa using k1
      go_wp2_with (first
        | (go_at_call 134; refine (newwriter_any _).mono ?_; rintro r w1 ⟨rfl, hw1, hb1⟩; have c2 := (hb1.cell (p := ⟨q, 2, none⟩) (vlt_cell a2)).trans a2; have c3 := (hb1.cell (p := ⟨q, 3, none⟩) (vlt_cell a3)).trans a3; have c4 := (hb1.cell (p := ⟨q, 4, none⟩) (vlt_cell a4)).trans a4; have B1 : Hid _ := hb1; have T1 : Hid (WTo w1 w1 (W.heap.size + 1) W.heap.size (.slice none 0 0) []) := WTo.refl hw1; have tk1 : Hid True := trivial; clear hw1 hb1 a0 a1 a2 a3 a4 a5)
        | (go_at_call 135; first
          | (have _t := tk1; refine (wcount_v bi T1.out HNum.out.1 H2.out).mono ?_; rintro r w2 ⟨rfl, hT2⟩; have d3 := hT2.cell hqp hvq c3; have d4 := hT2.cell hqp hvq c4; have T2 : Hid _ := hT2; clear hT2 tk1)
          | (refine (wcount_v bv T2.out HNum.out.2.1 H3.out).mono ?_; rintro r w3 ⟨rfl, hT3⟩; have e4 := hT3.cell hqp hvq c4; have T3 : Hid _ := hT3; clear hT3))
        | (go_at_call 136; refine (wtext_v base T3.out H4.out).mono ?_; rintro r w4 ⟨rfl, hT4⟩; obtain ⟨v4, hw4, hf4, -⟩ := hT4; have W4 : Hid _ := hw4; have HB4 : Hid (Below w.heap.size w w4) := base_end HB0.out B1.out hf4; clear hw4 hf4)
        | (go_at_call 137; refine (wall_any W4.out).mono ?_; rintro r wz ⟨rfl, hz⟩; rw [hz]; clear hz))
      go_ret
      exact ⟨by rw [HF.out]; simp, HB4.out⟩
    subst k1
    by_cases k2 : bv = 0
    case neg =>
      have k2b : (bv == 0) = false := by simpa using k2
      go_wp2_with (first
        | (go_at_call 134; refine (newwriter_any _).mono ?_; rintro r w1 ⟨rfl, hw1, hb1⟩; have c2 := (hb1.cell (p := ⟨q, 2, none⟩) (vlt_cell a2)).trans a2; have c3 := (hb1.cell (p := ⟨q, 3, none⟩) (vlt_cell a3)).trans a3; have c4 := (hb1.cell (p := ⟨q, 4, none⟩) (vlt_cell a4)).trans a4; have B1 : Hid _ := hb1; have T1 : Hid (WTo w1 w1 (W.heap.size + 1) W.heap.size (.slice none 0 0) []) := WTo.refl hw1; have tk1 : Hid True := trivial; clear hw1 hb1 a0 a1 a2 a3 a4 a5)
        | (go_at_call 135; first
          | (have _t := tk1; refine (wcount_v 0 T1.out HNum.out.1 H2.out).mono ?_; rintro r w2 ⟨rfl, hT2⟩; have d3 := hT2.cell hqp hvq c3; have d4 := hT2.cell hqp hvq c4; have T2 : Hid _ := hT2; clear hT2 tk1)
          | (refine (wcount_v bv T2.out HNum.out.2.1 H3.out).mono ?_; rintro r w3 ⟨rfl, hT3⟩; have e4 := hT3.cell hqp hvq c4; have T3 : Hid _ := hT3; clear hT3))
        | (go_at_call 136; refine (wtext_v base T3.out H4.out).mono ?_; rintro r w4 ⟨rfl, hT4⟩; obtain ⟨v4, hw4, hf4, -⟩ := hT4; have W4 : Hid _ := hw4; have HB4 : Hid (Below w.heap.size w w4) := base_end HB0.out B1.out hf4; clear hw4 hf4)
        | (go_at_call 137; refine (wall_any W4.out).mono ?_; rintro r wz ⟨rfl, hz⟩; rw [hz]; clear hz))
      go_ret
      exact ⟨by rw [HF.out]; simp, HB4.out⟩
    subst k2
    have k3 : base.toList.isEmpty = false := by
      rw [ByteArray.toList_eq]
      cases hl : base.data.toList with
      | nil =>
        refine absurd ⟨rfl, rfl, ?_⟩ h0
        have : base.data.toList.length = 0 := by rw [hl]; rfl
        simpa using this
      | cons _ _ => rfl
    go_wp2_with (first
      | (go_at_call 134; refine (newwriter_any _).mono ?_; rintro r w1 ⟨rfl, hw1, hb1⟩; have c2 := (hb1.cell (p := ⟨q, 2, none⟩) (vlt_cell a2)).trans a2; have c3 := (hb1.cell (p := ⟨q, 3, none⟩) (vlt_cell a3)).trans a3; have c4 := (hb1.cell (p := ⟨q, 4, none⟩) (vlt_cell a4)).trans a4; have B1 : Hid _ := hb1; have T1 : Hid (WTo w1 w1 (W.heap.size + 1) W.heap.size (.slice none 0 0) []) := WTo.refl hw1; have tk1 : Hid True := trivial; clear hw1 hb1 a0 a1 a2 a3 a4 a5)
      | (go_at_call 135; first
        | (have _t := tk1; refine (wcount_v 0 T1.out HNum.out.1 H2.out).mono ?_; rintro r w2 ⟨rfl, hT2⟩; have d3 := hT2.cell hqp hvq c3; have d4 := hT2.cell hqp hvq c4; have T2 : Hid _ := hT2; clear hT2 tk1)
        | (refine (wcount_v 0 T2.out HNum.out.2.1 H3.out).mono ?_; rintro r w3 ⟨rfl, hT3⟩; have e4 := hT3.cell hqp hvq c4; have T3 : Hid _ := hT3; clear hT3))
      | (go_at_call 136; refine (wtext_v base T3.out H4.out).mono ?_; rintro r w4 ⟨rfl, hT4⟩; obtain ⟨v4, hw4, hf4, -⟩ := hT4; have W4 : Hid _ := hw4; have HB4 : Hid (Below w.heap.size w w4) := base_end HB0.out B1.out hf4; clear hw4 hf4)
      | (go_at_call 137; refine (wall_any W4.out).mono ?_; rintro r wz ⟨rfl, hz⟩; rw [hz]; clear hz))
    go_ret
    exact ⟨by rw [HF.out]; simp, HB4.out⟩
end Go.Proofs.YtnhjflebaeokeaaGreat
