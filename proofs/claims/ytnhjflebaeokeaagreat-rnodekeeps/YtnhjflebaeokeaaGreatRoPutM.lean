import Derived.Test.YtnhjflebaeokeaaGreatVwTeM
import Derived.Test.YtnhjflebaeokeaaGreatFrameWM
/- rnode: the bytes of a snapshot and of a record. -/
namespace Go.Proofs.YtnhjflebaeokeaaGreat
open Go.RowKit
attribute [local go_sem] Oper.semAt_some
/-- What a master keeps, on plain data. -/
structure Hd where
  vw : Int
  nm : Int
  bi : Int
  bv : Int
  base : ByteArray
  log : List Ent
def hdV (h : Hd) (lv : Value) : Value := .agg #[.int .i64 h.vw, .int .i64 h.nm, .int .i64 h.bi, .int .i64 h.bv, .string h.base, lv]
/-- The bytes of a record of all entries but the first so many. -/
def recB (h : Hd) (same : Nat) : List UInt8 := numB h.vw.toNat ++ numB h.nm.toNat ++ numB (h.bi + same).toNat ++ numB (h.log.length - same) ++ (h.log.drop same).flatMap entB
def baseB (h : Hd) : List UInt8 := if h.bi = 0 ∧ h.bv = 0 ∧ h.base.size = 0 then [] else numB h.bi.toNat ++ numB h.bv.toNat ++ textB h.base.data.toList
/-- What may be kept: numbers, at most 1000 entries, of some room. -/
structure Hd.ok (h : Hd) : Prop where
  vw0 : 0 ≤ h.vw
  vw1 : h.vw ≤ 2147483647
  nm0 : 0 ≤ h.nm
  nm1 : h.nm ≤ 2147483647
  bi0 : 0 ≤ h.bi
  bi1 : h.bi ≤ 2147483647
  bv0 : 0 ≤ h.bv
  bv1 : h.bv ≤ 2147483647
  len : h.log.length ≤ 1000
  ev : ∀ e ∈ h.log, 0 ≤ e.v ∧ e.v ≤ 2147483647
  room : h.base.size + entsN h.log ≤ 900000
theorem entsN_drop (L : List Ent) (j : Nat) : entsN (L.drop j) ≤ entsN L := by
  have h : entsN L = entsN (L.take j) + entsN (L.drop j) := by
    conv => lhs; rw [← List.take_append_drop j L]
    unfold entsN
    rw [List.map_append, List.sum_append]
  omega
set_option maxRecDepth 100000 in
set_option maxHeartbeats 2000000 in
theorem putRec_any {w : World} (h : Hd) (ok : h.ok) {lv : Value} {B same : Nat} (hE0 : EnO w B lv h.log) (hs : same ≤ h.log.length) :
    Calls Tryz.prog 105 #[hdV h lv, .int .i64 (same : Int)] w fun r w' => r = .returned (.string (str (recB h same))) ∧ Below w.heap.size w w' := by
  have hE := hE0.toS
  obtain ⟨ao, cap, rfl, hcap⟩ := hE.shape
  have hao : (ao = none ∧ cap = 0) ∨ ∃ g, ao = some ⟨g, 0, none⟩ := by
    rcases hE0.2 with ⟨e, -⟩ | ⟨g, cap', cur, e, -⟩
    · injection e with e1 e2 e3
      exact .inl ⟨e1, e3⟩
    · injection e with e1 e2 e3
      exact .inr ⟨g, e1⟩
  have HAo : Hid _ := hao
  clear hao hE0
  have HE : Hid (EnS w (.slice ao h.log.length cap) h.log) := hE
  have HOk : Hid h.ok := ok
  have hlen := ok.len
  have hb0 := ok.bi0
  have hb1 := ok.bi1
  obtain ⟨vw, nm, bi, bv, base, L⟩ := h
  simp only at hs hcap hlen hb0 hb1 HE
  obtain ⟨n, hn⟩ : ∃ n, L.length = n := ⟨_, rfl⟩
  have HN : Hid (L.length = n) := hn
  rw [hn] at hs hcap hlen HE
  simp only [hdV]
  rw [hn]
  clear hE ok hn
  go_enter Tryz.func105, Tryz.ntmps105
  go_upto_region 1 with (fail)
  generalize hW : World.alloc _ _ = W
  have b0 : Below w.heap.size w W := by rw [← hW]; exact vone_new _ _
  have hZ : W.heap[w.heap.size]? = some (.cells #[.int .i64 vw, .int .i64 nm, .int .i64 bi, .int .i64 bv, .string base, .slice ao n cap] 66 (0, 0)) := by rw [← hW]; exact heap_alloc_new _ _
  obtain ⟨q, hq⟩ : ∃ q, w.heap.size = q := ⟨_, rfl⟩
  have HQ : Hid (w.heap.size = q) := hq
  have HB0 : Hid (Below w.heap.size w W) := b0
  rw [hq] at hZ ⊢
  have HZ : Hid _ := hZ
  have HE0 : Hid (EnS W (.slice ao n cap) L) := HE.out.new b0
  obtain ⟨a0, a1, a2, a3, a4, a5⟩ := hbox6 hZ
  clear hW b0 hZ hq
  go_upto_region 2 with (go_at_call 134; refine (newwriter_any _).mono ?_; rintro r w1 ⟨rfl, hw1, hb1⟩)
  obtain ⟨p, hp⟩ : ∃ p, W.heap.size = p := ⟨_, rfl⟩
  have HP : Hid (W.heap.size = p) := hp
  have hqp : q ≠ p := by have := vlt_blk HZ.out; omega
  have hvq : (Value.slice none 0 0).ownBlock ≠ some q := by simp [Value.ownBlock]
  have B1 : Hid (Below W.heap.size W w1) := hb1
  have c0 := (hb1.cell (p := ⟨q, 0, none⟩) (vlt_cell a0)).trans a0
  have c1 := (hb1.cell (p := ⟨q, 1, none⟩) (vlt_cell a1)).trans a1
  have c2 := (hb1.cell (p := ⟨q, 2, none⟩) (vlt_cell a2)).trans a2
  have c5 := (hb1.cell (p := ⟨q, 5, none⟩) (vlt_cell a5)).trans a5
  rw [hp] at hw1 ⊢
  have T1 : Hid (WTo w1 w1 (p + 1) p (.slice none 0 0) []) := WTo.refl hw1
  clear hw1 hb1 hp a0 a1 a2 a3 a4 a5
  have HLn : Hid ((numB vw.toNat).length ≤ 10 ∧ (numB nm.toNat).length ≤ 10 ∧ (numB (bi + same).toNat).length ≤ 10 ∧ (numB (n - same)).length ≤ 10) := by
    have k := HOk.out
    have k1 := k.vw1
    have k2 := k.nm1
    simp only at k1 k2
    exact ⟨numB_len10 (by omega), numB_len10 (by omega), numB_len10 (by omega), numB_len10 (by omega)⟩
  have hsI : (same : Int) ≤ n := by omega
  have hs0 : (0 : Int) ≤ same := by omega
  have hcI : (n : Int) ≤ cap := by omega
  have HV : Hid (vw ≤ 9223372036854775807 ∧ nm ≤ 9223372036854775807) := by
    have k1 := HOk.out.vw1
    have k2 := HOk.out.nm1
    simp only at k1 k2
    exact ⟨by omega, by omega⟩
  have H2 : Hid (([] : List UInt8).length + 10 ≤ 140737488355328) := by show _ ≤ _; simp
  go_upto_region 3 with (go_at_call 135; refine (wcount_v vw T1.out HV.out.1 H2.out).mono ?_; rintro r w2 ⟨rfl, hT2⟩; have d1 := hT2.cell hqp hvq c1; have d2 := hT2.cell hqp hvq c2; have d5 := hT2.cell hqp hvq c5; have T2 : Hid _ := hT2; clear hT2)
  have H3 : Hid (([] ++ numB vw.toNat).length + 10 ≤ 140737488355328) := by show _ ≤ _; have := HLn.out; simp; omega
  go_upto_region 4 with (go_at_call 135; refine (wcount_v nm T2.out HV.out.2 H3.out).mono ?_; rintro r w3 ⟨rfl, hT3⟩; have e2 := hT3.cell hqp hvq c2; have e5 := hT3.cell hqp hvq c5; have T3 : Hid _ := hT3; clear hT3)
  have H4 : Hid (([] ++ numB vw.toNat ++ numB nm.toNat).length + 10 ≤ 140737488355328 ∧ bi + same ≤ 9223372036854775807) := by have := HLn.out; exact ⟨by simp; omega, by omega⟩
  go_upto_region 5 with (go_at_call 135; refine (wcount_v (bi + same) T3.out H4.out.2 H4.out.1).mono ?_; rintro r w4 ⟨rfl, hT4⟩; have f5 := hT4.cell hqp hvq c5; have T4 : Hid _ := hT4; clear hT4)
  have H5 : Hid (([] ++ numB vw.toNat ++ numB nm.toNat ++ numB (bi + same).toNat).length + 10 ≤ 140737488355328 ∧ (n : Int) - same ≤ 9223372036854775807 ∧ ((n : Int) - same).toNat = n - same) := by have := HLn.out; exact ⟨by simp; omega, by omega, by omega⟩
  go_upto_region 6 with (go_at_call 135; refine (wcount_v ((n : Int) - same) T4.out H5.out.2.1 H5.out.1).mono ?_; rintro r w5 ⟨rfl, hT5⟩; rw [H5.out.2.2] at hT5; have g5 := hT5.cell hqp hvq c5; have T5 : Hid _ := hT5; clear hT5)
  obtain ⟨pre, hpre⟩ : ∃ pre, [] ++ numB vw.toNat ++ numB nm.toNat ++ numB (bi + same).toNat ++ numB (n - same) = pre := ⟨_, rfl⟩
  have HPre : Hid (pre.length ≤ 40 ∧ recB ⟨vw, nm, bi, bv, base, L⟩ same = pre ++ (L.drop same).flatMap entB) := by
    have := HLn.out
    refine ⟨by rw [← hpre]; simp; omega, ?_⟩
    unfold recB
    rw [← hpre, ← HN.out]
    simp
  rw [hpre] at T5
  clear hpre H2 H3 H4 H5 T1 T2 T3 T4 c0 c1 c2 c5 d1 d2 d5 e2 e5 f5
  obtain ⟨X, hX⟩ : ∃ X, L.drop same = X := ⟨_, rfl⟩
  have HXl : Hid (X.length = n - same) := by show _ = _; rw [← hX, List.length_drop, HN.out]
  have hsub := HE0.out.sub same n cap hs (by have := HN.out; omega) (by omega)
  rw [List.take_of_length_le (by have := HN.out; omega), hX] at hsub
  have HSub : Hid (EnS W (.slice (subV ao cap same) (n - same) (cap - same)) X) := hsub
  have HX : Hid (L.drop same = X) := hX
  clear hsub hX
  go_cut [33, 34, 35] (fun v m i wx => m = .int .i64 ((n - same : Nat) : Int) ∧ EnS W v X ∧ i = .int .i64 0 ∧ wx = w5)
  case first =>
    by_cases hcs : cap = same
    · have e : subV ao cap same = ao := by unfold subV; rw [if_pos hcs]
      have hns : n = same := by omega
      rw [e] at HSub
      subst hcs
      subst hns
      rw [Nat.sub_self] at HSub
      go_wp2
      go_meet
      exact ⟨by simp, HSub.out, rfl, rfl⟩
    · obtain ⟨g, rfl⟩ : ∃ g, ao = some ⟨g, 0, none⟩ := by
        rcases HAo.out with ⟨-, e⟩ | h
        · omega
        · exact h
      have e : subV (some ⟨g, 0, none⟩) cap same = some ⟨g, 0 + same * 2, none⟩ := by unfold subV; rw [if_neg hcs]; rfl
      rw [e] at HSub
      have hcl : (same : Int) < cap := by omega
      have hsb : ((n - same : Nat) : Int) = (n : Int) - same := by omega
      have HSb : Hid (((n - same : Nat) : Int) = (n : Int) - same) := hsb
      have HS2 : Hid (EnS W (.slice (some ⟨g, same * 2, none⟩) (n - same) (cap - same)) X) := by have := HSub.out; rw [Nat.zero_add] at this; exact this
      clear hsb e HSub
      go_wp2
      go_meet
      refine ⟨?_, ?_, rfl, rfl⟩
      · first | rfl | (simp; omega) | (rw [HSb.out]; rfl)
      · first | exact HS2.out | simpa using HS2.out
  case rest =>
    obtain ⟨rfl, hEx, rfl, rfl⟩ := hcut
    obtain ⟨xo, xc, rfl, hxc⟩ := hEx.shape
    have HEx : Hid (EnS W (.slice xo X.length xc) X) := hEx
    have HEv : Hid (∀ e ∈ X, e.v ≤ 9223372036854775807) := fun e he => by
      rw [← HX.out] at he
      have := (HOk.out.ev e (List.mem_of_mem_drop he)).2
      omega
    have HEr : Hid (entsN X ≤ 900000) := by
      show _ ≤ _
      have h1 := HOk.out.room
      have h2 := entsN_drop L same
      simp only at h1
      rw [← HX.out]
      omega
    rw [← HXl.out]
    have hXn : X.length ≤ 1000 := by have := HXl.out; omega
    clear hEx HSub hs hcap hsI hs0 hcI
    go_wp2
    go_loopw [35] (fun i wr => ∃ j : Nat, j ≤ X.length ∧ i = .int .i64 j ∧ WTo w1 wr (p + 1) p (.slice none 0 0) (pre ++ (X.take j).flatMap entB)) (fun i _ => X.length - (intOf i).toNat)
    case atStart => exact ⟨0, Nat.zero_le _, rfl, by rw [List.take_zero, List.flatMap_nil, List.append_nil]; exact T5.out⟩
    case round =>
      obtain ⟨j, hj, rfl, hTj⟩ := hrel
      by_cases hlt : j < X.length
      · obtain ⟨b, off, rfl, e0, e1⟩ : ∃ b off, xo = some ⟨b, off, none⟩ ∧ W.cell? ⟨b, off + j * 2, none⟩ = some (.int .i64 X[j].v) ∧ W.cell? ⟨b, off + j * 2 + 1, none⟩ = some (.string X[j].s) := by
          obtain ⟨ao', cap', e, -, h2⟩ := HEx.out
          injection e with e1 e2 e3
          subst e1
          obtain ⟨b, off, e, hc⟩ := h2 (by omega)
          exact ⟨b, off, e, hc j hlt⟩
        have n1 : b ≠ p := by have := vlt_cell e0; have := HP.out; omega
        have n2 : (Value.slice none 0 0).ownBlock ≠ some b := by simp [Value.ownBlock]
        have c0 := hTj.cell n1 n2 ((B1.out.cell (p := ⟨b, off + j * 2, none⟩) (vlt_cell e0)).trans e0)
        have c1 := hTj.cell n1 n2 ((B1.out.cell (p := ⟨b, off + j * 2 + 1, none⟩) (vlt_cell e1)).trans e1)
        have HS : Hid _ := entsB_snoc X j hlt
        have HX' : Hid (X[j].v ≤ 9223372036854775807) := HEv.out _ (List.getElem_mem _)
        have HRj : Hid ((pre ++ (X.take j).flatMap entB).length + X[j].s.size + 30 ≤ 140737488355328) := by
          show _ ≤ _
          have h2 := HEr.out
          have h1 := ents_take X HEv.out (by omega) j (by omega)
          have h3 := entsN_take X j hlt
          have h4 := HPre.out.1
          rw [List.length_append]
          omega
        generalize X[j] = y at c0 c1 HS HX' HRj
        have HTj : Hid (WTo w1 (wr.alloc (.cells #[.int .i64 y.v, .string y.s] 106)) (p + 1) p (.slice none 0 0) (pre ++ (X.take j).flatMap entB)) := hTj.alloc _
        have hjI : (j : Int) < X.length := by omega
        have hj0 : (0 : Int) ≤ j := by omega
        clear hTj e0 e1
        go_wp2_with (go_at_call 138; refine (putE_w y HTj.out HX'.out HRj.out).mono ?_; rintro r w4 ⟨rfl, hT4⟩; have HT4 : Hid (WTo w1 w4 (p + 1) p (.slice none 0 0) (pre ++ (X.take j).flatMap entB ++ entB y)) := hT4; clear hT4)
        go_roundw
        case rel => exact ⟨j + 1, by omega, by go_num, by rw [HS.out, ← List.append_assoc]; exact HT4.out⟩
        case measure => simp [intOf]; omega
      · obtain rfl : j = X.length := by omega
        rw [List.take_length] at hTj
        have HTj : Hid (WTo w1 wr (p + 1) p (.slice none 0 0) (pre ++ X.flatMap entB)) := hTj
        have HBf : Hid (Below w.heap.size w wr) := by
          obtain ⟨v9, -, hf9, -⟩ := hTj
          have hp := HP.out
          have h1 : Below w.heap.size w w1 := HB0.out.trans (B1.out.mono HB0.out.size)
          exact h1.trans (hf9.below h1.size (fun k hk => by
            rcases hk with rfl | hk
            · have := HB0.out.size; omega
            · cases hk))
        clear hTj
        obtain ⟨v9, hw9, -, -⟩ := HTj.out
        have HW9 : Hid (Wr wr (p + 1) p v9 (pre ++ X.flatMap entB)) := hw9
        clear hw9
        go_wp2_with (go_at_call 137; refine (wall_any HW9.out).mono ?_; rintro r wz ⟨rfl, hz⟩; rw [hz]; clear hz)
        go_ret
        exact ⟨by rw [HPre.out.2, HX.out]; rfl, HBf.out⟩
end Go.Proofs.YtnhjflebaeokeaaGreat
