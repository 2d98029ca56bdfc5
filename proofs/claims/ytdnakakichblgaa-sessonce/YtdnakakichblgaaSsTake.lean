/- Take: a table off bytes. -/
import Derived.Test.YtdnakakichblgaaSsFoll
import Derived.Test.YtdnakakichblgaaSsKeep
namespace Go.Proofs.Ytdnakakichblgaa
open Go.RowKit Go.Maps
attribute [local go_sem] Oper.semAt_some
theorem srd_sg {w : World} {p : Nat} {s : ByteArray} {a : Nat} {e : Int} (h : Rd w p s a e) (hs : s.size ≤ maxLen) (ha : a ≤ s.size) {n a' : Nat} {e' : Int} (hq : rdNum s a e = (n, a', e')) :
    Calls Try.prog 38 #[.pointer (some ⟨p, 0, none⟩)] w fun r w' => r = .returned (.int .i64 (unfoldN n)) ∧ Rd w' p s a' e' ∧ Fr w w' (fun k => k = p) := by
  have := rsigned_any h hs ha
  rw [hq] at this
  exact this
theorem srd_most {w : World} {p : Nat} {s : ByteArray} {a : Nat} {e : Int} (h : Rd w p s a e) (hs : s.size ≤ maxLen) (ha : a ≤ s.size) {n a' : Nat} {e' : Int} (hq : rdCount s a e 2147483647 = (n, a', e')) :
    Calls Try.prog 37 #[.pointer (some ⟨p, 0, none⟩), .int .i64 2147483647] w fun r w' => r = .returned (.int .i64 n) ∧ Rd w' p s a' e' ∧ Fr w w' (fun k => k = p) := by
  have := rcount_any (most := 2147483647) h hs ha (by decide)
  rw [hq] at this
  exact this
theorem srd_64 {w : World} {p : Nat} {s : ByteArray} {a : Nat} {e : Int} (h : Rd w p s a e) (hs : s.size ≤ maxLen) (ha : a ≤ s.size) {n a' : Nat} {e' : Int} (hq : rdCount s a e 64 = (n, a', e')) :
    Calls Try.prog 37 #[.pointer (some ⟨p, 0, none⟩), .int .i64 64] w fun r w' => r = .returned (.int .i64 n) ∧ Rd w' p s a' e' ∧ Fr w w' (fun k => k = p) := by
  have := rcount_any (most := 64) h hs ha (by decide)
  rw [hq] at this
  exact this
theorem srd_tx {w : World} {p : Nat} {s : ByteArray} {a : Nat} {e : Int} (h : Rd w p s a e) (hs : s.size ≤ maxLen) (ha : a ≤ s.size) {t : ByteArray} {a' : Nat} {e' : Int} (hq : rdText s a e = (t, a', e')) :
    Calls Try.prog 39 #[.pointer (some ⟨p, 0, none⟩)] w fun r w' => r = .returned (.string t) ∧ Rd w' p s a' e' ∧ Fr w w' (fun k => k = p) := by
  have := rtext_any h hs ha
  rw [hq] at this
  exact this
theorem rdText_leS {s x : ByteArray} {a a' : Nat} {e e' : Int} (ha : a ≤ s.size) (h : rdText s a e = (x, a', e')) : a' ≤ s.size := by
  by_cases he : e = 0
  · subst he
    rcases three s a ha with ⟨m, k, hp, h1, h2, h3, h4⟩ | ⟨m, k, x, hp, hx⟩
    · have hq : rdText s a 0 = if s.size - (a + k) < m then (ByteArray.empty, a, 4) else (s.extract (a + k) (a + k + m), a + k + m, 0) := rd_ok hp
      rw [hq] at h
      split at h <;> simp only [Prod.mk.injEq] at h <;> omega
    · rw [show rdText s a 0 = (ByteArray.empty, a, (x : Int)) from rd_bad hp hx] at h
      simp only [Prod.mk.injEq] at h; omega
  · rw [show rdText s a e = (ByteArray.empty, a, e) from rd_err he] at h
    simp only [Prod.mk.injEq] at h; omega
/-- A reader is no block of a table. -/
theorem TA.read {w : World} {B pt : Nat} {v : Value} {L : List Req} {p : Nat} {s : ByteArray} {a e : Int} (h : TA w B pt v L) (hr : Rd w p s a e) : pt ≠ p ∧ ∀ k, v.ownBlock = some k → k ≠ p := by
  unfold Rd at hr
  refine ⟨fun e => ?_, fun k hk e => ?_⟩
  · have h1 := h.box
    rw [e, hr] at h1
    simp at h1
  · obtain ⟨_, c, f, h1⟩ := srow_tag h.row hk
    rw [e, hr] at h1
    simp at h1
theorem TA.reads {w w' : World} {B pt : Nat} {v : Value} {L : List Req} {p : Nat} {s : ByteArray} {a e : Int} (h : TA w B pt v L) (hr : Rd w p s a e) (f : Fr w w' (fun k => k = p)) : TA w' B pt v L := h.kept f (h.read hr).1 (fun k hk => (h.read hr).2 k hk)
set_option linter.unusedSimpArgs false in
set_option maxRecDepth 100000 in
set_option maxHeartbeats 4000000 in
theorem stake {w : World} {p : Nat} {s : ByteArray} {a : Nat} {e : Int} (h : Rd w p s a e) (hs : s.size ≤ maxLen) (ha : a ≤ s.size) : Calls Try.prog 21 #[.pointer (some ⟨p, 0, none⟩)] w fun r w' =>
    r = .returned (if (rdTab s a e).2.2 = 0 then .pointer (some ⟨w.heap.size, 0, none⟩) else .pointer none) ∧ Rd w' p s (rdTab s a e).2.1 (rdTab s a e).2.2 ∧ (∃ v, TA w' w.heap.size w.heap.size v (rdTab s a e).1) ∧ Fr w w' (fun k => k = p) := by
  have HR : Hid (Rd w p s a e) := h
  have HS : Hid (s.size ≤ maxLen) := hs
  have HA : Hid (a ≤ s.size) := ha
  obtain ⟨m, a0, e0, hq0⟩ : ∃ m a0 e0, rdCount s a e 64 = (m, a0, e0) := ⟨_, _, _, rfl⟩
  have HQ0 : Hid (rdCount s a e 64 = (m, a0, e0)) := hq0
  obtain ⟨g1, g2, _, _⟩ := rdCount_to (most := 64) ha hq0
  have HA0 : Hid (a0 ≤ s.size) := g1
  obtain ⟨R, hR⟩ : ∃ R, rdTab s a e = R := ⟨_, rfl⟩
  have HRt : Hid (rdReqs s m [] a0 e0 = R) := by
    show _ = _
    rw [← hR]
    unfold rdTab
    rw [hq0]
  rw [hR]
  obtain ⟨ans, hans⟩ : ∃ ans, (if R.2.2 = 0 then Value.pointer (some ⟨w.heap.size, 0, none⟩) else .pointer none) = ans := ⟨_, rfl⟩
  have HAns : Hid ((if R.2.2 = 0 then Value.pointer (some ⟨w.heap.size, 0, none⟩) else .pointer none) = ans) := hans
  rw [hans]
  clear hans
  have hpl : p < w.heap.size := slt_blk h
  have HPl : Hid (p < w.heap.size) := hpl
  clear h hs ha hR hq0 g1 hpl
  have hN := snew w w.heap.size (Nat.le_refl _)
  go_enter Try.func21, Try.ntmps21
  go_upto_region 2 with (go_at_call 6; refine hN.mono ?_; rintro r w1 ⟨rfl, hT1, hb1⟩)
  have HT1 : Hid (TA w1 w.heap.size w.heap.size (.slice none 0 0) []) := hT1
  have HR1 : Hid (Rd w1 p s a e) := HR.out.below hb1
  have HF1 : Hid (Fr w w1 (fun k => k = p)) := Fr.ofBelow hb1 _
  clear hN hT1 hb1
  obtain ⟨pt, hpt⟩ : ∃ pt, w.heap.size = pt := ⟨_, rfl⟩
  have HPt : Hid (w.heap.size = pt) := hpt
  have HT1 : Hid (TA w1 pt pt (.slice none 0 0) []) := by rw [← hpt]; exact HT1.out
  rw [hpt]
  clear hpt
  have hC := srd_64 HR1.out HS.out HA.out HQ0.out
  go_upto_region 3 with (go_at_call 37; refine hC.mono ?_; rintro r w2 ⟨rfl, hr2, hf2⟩)
  have HR2 : Hid (Rd w2 p s a0 e0) := hr2
  have HT2 : Hid (TA w2 pt pt (.slice none 0 0) []) := HT1.out.reads HR1.out hf2
  have HF2 : Hid (Fr w w2 (fun k => k = p)) := HF1.out.trans hf2 (fun _ _ h => h)
  clear hC hr2 hf2
  go_loopw [8] (fun i wr => ∃ (j : Nat) (M : List Req) (v : Value) (a1 : Nat) (e1 : Int), j ≤ m ∧ i = .int .i64 j ∧ Hid (M.length = j) ∧ Hid (rdReqs s (m - j) M a1 e1 = R) ∧ Hid (TA wr pt pt v M) ∧ Hid (Rd wr p s a1 e1) ∧ Hid (a1 ≤ s.size) ∧ Hid (Fr w wr (fun k => k = p))) (fun i _ => m - (intOf i).toNat)
  case atStart => exact ⟨0, [], _, a0, e0, Nat.zero_le _, rfl, rfl, HRt, HT2, HR2, HA0, HF2⟩
  case round =>
    obtain ⟨j, M, v, a1, e1, hj, rfl, HM, HRj, HTj, HRd, HA1, HFj⟩ := hrel
    clear HR HA HQ0 HA0 HRt HR1 HF1 HT1 HR2 HT2 HF2
    by_cases hlt : j < m
    · obtain ⟨n1, b1, f1, hq1⟩ : ∃ n1 b1 f1, rdNum s a1 e1 = (n1, b1, f1) := ⟨_, _, _, rfl⟩
      obtain ⟨n2, b2, f2, hq2⟩ : ∃ n2 b2 f2, rdCount s b1 f1 2147483647 = (n2, b2, f2) := ⟨_, _, _, rfl⟩
      obtain ⟨t, b3, f3, hq3⟩ : ∃ t b3 f3, rdText s b2 f2 = (t, b3, f3) := ⟨_, _, _, rfl⟩
      have HQ1 : Hid (rdNum s a1 e1 = (n1, b1, f1)) := hq1
      have HQ2 : Hid (rdCount s b1 f1 2147483647 = (n2, b2, f2)) := hq2
      have HQ3 : Hid (rdText s b2 f2 = (t, b3, f3)) := hq3
      have HB1 : Hid (b1 ≤ s.size) := (rdNum_to HA1.out hq1).1
      have HB2 : Hid (b2 ≤ s.size) := (rdCount_to (most := 2147483647) HB1.out hq2).1
      have HB3 : Hid (b3 ≤ s.size) := rdText_leS HB2.out hq3
      have HStep : Hid (rdReqs s (m - (j + 1)) (M ++ [⟨unfoldN n1, n2, t⟩]) b3 (if follB M ⟨unfoldN n1, n2, t⟩ = true then f3 else rdFail f3 6) = R) := by
        show _ = _
        rw [← HRj.out, show m - j = m - (j + 1) + 1 by omega, rdReqs_step hq1 hq2 hq3]
      clear hq1 hq2 hq3
      have hjm : (j : Int) < m := by omega
      go_upto_region 5 with (first
        | (go_at_call 38; refine (srd_sg HRd.out HS.out HA1.out HQ1.out).mono ?_; rintro r w3 ⟨rfl, hr3, hf3⟩; have HR3 : Hid (Rd w3 p s b1 f1) := hr3; have HF3 : Hid (Fr wr w3 (fun k => k = p)) := hf3; clear hr3 hf3)
        | (go_at_call 37; refine (srd_most HR3.out HS.out HB1.out HQ2.out).mono ?_; rintro r w4 ⟨rfl, hr4, hf4⟩; have HR4 : Hid (Rd w4 p s b2 f2) := hr4; have HF4 : Hid (Fr wr w4 (fun k => k = p)) := HF3.out.trans hf4 (fun _ _ h => h); clear hr4 hf4)
        | (go_at_call 39; refine (srd_tx HR4.out HS.out HB2.out HQ3.out).mono ?_; rintro r w5 ⟨rfl, hr5, hf5⟩; have HR5 : Hid (Rd w5 p s b3 f3) := hr5; have HF5 : Hid (Fr wr w5 (fun k => k = p)) := HF4.out.trans hf5 (fun _ _ h => h); clear hr5 hf5))
      generalize hW : World.alloc _ _ = W
      have bW : Below w5.heap.size w5 W := by rw [← hW]; exact sone_new _ _
      have hZ : W.heap[w5.heap.size]? = some (.cells #[.int .i64 (unfoldN n1), .int .i64 n2, .string t] 60 (0, 0)) := by rw [← hW]; exact heap_alloc_new _ _
      have HT5 : Hid (TA w5 pt pt v M) := HTj.out.reads HRd.out HF5.out
      have HTW : Hid (TA W pt pt v M) := HT5.out.new bW
      have HRW : Hid (Rd W p s b3 f3) := HR5.out.below bW
      have HFW : Hid (Fr w W (fun k => k = p)) := (HFj.out.trans HF5.out (fun _ _ h => h)).trans (Fr.ofBelow bW _) (fun _ _ h => h)
      have HQne : Hid (∀ k, v.ownBlock = some k → k ≠ w5.heap.size) := fun k hk e => by have := (HT5.out.row.lt k hk).2; omega
      clear hW bW HT5 HF5 HR5 HF4 HF3 HR4 HR3 HTj HRd HFj
      generalize w5.heap.size = q at hZ HQne ⊢
      obtain ⟨x, hx⟩ : ∃ x : Req, x = ⟨unfoldN n1, n2, t⟩ := ⟨_, rfl⟩
      have ek : unfoldN n1 = x.k := by rw [hx]
      have en : (n2 : Int) = x.n := by rw [hx]
      have et : t = x.s := by rw [hx]
      rw [← hx] at HStep
      clear hx
      rw [ek, en, et] at hZ ⊢
      clear ek en et HQ1 HQ2 HQ3
      have HZ : Hid (W.heap[q]? = some (.cells #[.int .i64 x.k, .int .i64 x.n, .string x.s] 60 (0, 0))) := hZ
      obtain ⟨z0, z1, z2, _, _, _⟩ := sbox3 hZ
      clear hZ
      have HMl : Hid (M.length ≤ 1000000) := by show _ ≤ _; rw [HM.out]; omega
      have hFo := sfoll HTW.out HMl.out x
      by_cases hfb : follB M x = true
      · have HStep2 : Hid (rdReqs s (m - (j + 1)) (M ++ [x]) b3 f3 = R) := by
          have := HStep.out
          rw [if_pos hfb] at this
          exact this
        rw [hfb] at hFo
        go_upto_region 7 with (go_at_call 40; refine hFo.mono ?_; rintro r w6 ⟨rfl, hb6⟩)
        have HTX : Hid (TA w6 pt pt v M) := HTW.out.new hb6
        have HRX : Hid (Rd w6 p s b3 f3) := HRW.out.below hb6
        have HFX : Hid (Fr w w6 (fun k => k = p)) := HFW.out.trans (Fr.ofBelow hb6 _) (fun _ _ h => h)
        have HZX : Hid (w6.heap[q]? = some (.cells #[.int .i64 x.k, .int .i64 x.n, .string x.s] 60 (0, 0))) := (hb6.block q (slt_blk HZ.out)).trans HZ.out
        clear hb6 hFo z0 z1 z2
        obtain ⟨ao, c, rfl, hcap, hg⟩ := HTX.out.row.shape
        obtain ⟨Wd, hWd⟩ : ∃ Wd, w6.drew = Wd := ⟨_, rfl⟩
        have bd : Below w6.heap.size w6 Wd := by rw [← hWd]; exact Below.drew (Below.refl _ _)
        have HT3 : Hid (TA Wd pt pt (.slice ao M.length c) M) := HTX.out.new bd
        have c0 := HT3.out.c0
        have HZ3 : Wd.heap[q]? = some (.cells #[.int .i64 x.k, .int .i64 x.n, .string x.s] 60 (0, 0)) := (bd.block q (slt_blk HZX.out)).trans HZX.out
        obtain ⟨y0, y1, y2, _, _, _⟩ := sbox3 HZ3
        have HR3 : Hid (Rd Wd p s b3 f3) := HRX.out.below bd
        have HF3 : Hid (Fr w Wd (fun k => k = p)) := HFX.out.trans (Fr.ofBelow bd _) (fun _ _ h => h)
        refine wp_calmS ?_
        refine wp_region_L [10] (fun w' : World => w'.cell? ⟨pt, 0, none⟩ = some (.slice ao M.length c) ∧ w'.cell? ⟨q, 0, none⟩ = some (.int .i64 x.k) ∧ w'.cell? ⟨q, 1, none⟩ = some (.int .i64 x.n) ∧ w'.cell? ⟨q, 2, none⟩ = some (.string x.s)) (by kernel_rfl) ?_
        rw [hWd]
        clear hWd bd HZ3
        have hS : (fun w' : World => w'.cell? ⟨pt, 0, none⟩ = some (.slice ao M.length c) ∧ w'.cell? ⟨q, 0, none⟩ = some (.int .i64 x.k) ∧ w'.cell? ⟨q, 1, none⟩ = some (.int .i64 x.n) ∧ w'.cell? ⟨q, 2, none⟩ = some (.string x.s)) Wd := ⟨c0, y0, y1, y2⟩
        refine wpAnyL_take (i := 0) 23 (v := .pointer (some ⟨pt, 0, none⟩)) rfl rfl (by kernel_rfl) (by kernel_rfl) (by kernel_rfl) (by kernel_rfl) (by kernel_rfl) (by kernel_rfl) (fun _ _ _ h => h) hS (by rfl) (by intro w' hSw; obtain ⟨y0, y1, y2, y3⟩ := hSw; go_simp <;> with_reducible rfl) ?_
        simp only [Act.put, List.setIfInBounds_toArray, List.set_cons_zero, List.set_cons_succ]
        refine wpAnyL_take (i := 1) 24 (v := .pointer (some ⟨pt, 0, none⟩)) rfl rfl (by kernel_rfl) (by kernel_rfl) (by kernel_rfl) (by kernel_rfl) (by kernel_rfl) (by kernel_rfl) (fun _ _ _ h => h) hS (by rfl) (by intro w' hSw; obtain ⟨y0, y1, y2, y3⟩ := hSw; go_simp <;> with_reducible rfl) ?_
        simp only [Act.put, List.setIfInBounds_toArray, List.set_cons_zero, List.set_cons_succ]
        refine wpAnyL_take (i := 2) 25 (v := .pointer (some ⟨pt, 0, none⟩)) rfl rfl (by kernel_rfl) (by kernel_rfl) (by kernel_rfl) (by kernel_rfl) (by kernel_rfl) (by kernel_rfl) (fun _ _ _ h => h) hS (by rfl) (by intro w' hSw; obtain ⟨y0, y1, y2, y3⟩ := hSw; go_simp <;> with_reducible rfl) ?_
        simp only [Act.put, List.setIfInBounds_toArray, List.set_cons_zero, List.set_cons_succ]
        refine wpAnyL_take (i := 3) 26 (v := .pointer (some ⟨pt, 0, none⟩)) rfl rfl (by kernel_rfl) (by kernel_rfl) (by kernel_rfl) (by kernel_rfl) (by kernel_rfl) (by kernel_rfl) (fun _ _ _ h => h) hS (by rfl) (by intro w' hSw; obtain ⟨y0, y1, y2, y3⟩ := hSw; go_simp <;> with_reducible rfl) ?_
        simp only [Act.put, List.setIfInBounds_toArray, List.set_cons_zero, List.set_cons_succ]
        refine wpAnyL_take (i := 4) 27 (v := .slice ao M.length c) rfl rfl (by kernel_rfl) (by kernel_rfl) (by kernel_rfl) (by kernel_rfl) (by kernel_rfl) (by kernel_rfl) (fun _ _ _ h => h) hS (by rfl) (by intro w' hSw; obtain ⟨y0, y1, y2, y3⟩ := hSw; go_simp <;> with_reducible rfl) ?_
        simp only [Act.put, List.setIfInBounds_toArray, List.set_cons_zero, List.set_cons_succ]
        refine wpAnyL_take (i := 5) 28 (v := .agg #[.int .i64 x.k, .int .i64 x.n, .string x.s]) rfl rfl (by kernel_rfl) (by kernel_rfl) (by kernel_rfl) (by kernel_rfl) (by kernel_rfl) (by kernel_rfl) (fun _ _ _ h => h) hS (by rfl) (by intro w' hSw; obtain ⟨y0, y1, y2, y3⟩ := hSw; go_simp <;> with_reducible rfl) ?_
        simp only [Act.put, List.setIfInBounds_toArray, List.set_cons_zero, List.set_cons_succ]
        refine wpAnyL_one (i := 6) (by kernel_rfl) rfl (fun Ka hKa => ?_)
        go_simp
        generalize hX : World.alloc _ _ = X
        have bx : Below Wd.heap.size Wd X := by rw [← hX]; exact sone_new _ _
        have hXn : X.heap[Wd.heap.size]? = some (.cells #[.int .i64 x.k, .int .i64 x.n, .string x.s] 60 (0, 0)) := by rw [← hX]; exact heap_alloc_new _ _
        have HT4 : Hid (TA X pt pt (.slice ao M.length c) M) := HT3.out.new bx
        have hS4 : (fun w' : World => w'.cell? ⟨pt, 0, none⟩ = some (.slice ao M.length c) ∧ w'.cell? ⟨q, 0, none⟩ = some (.int .i64 x.k) ∧ w'.cell? ⟨q, 1, none⟩ = some (.int .i64 x.n) ∧ w'.cell? ⟨q, 2, none⟩ = some (.string x.s)) X := ⟨HT4.out.c0, (bx.cell (p := ⟨q, 0, none⟩) (slt_cell y0)).trans y0, (bx.cell (p := ⟨q, 1, none⟩) (slt_cell y1)).trans y1, (bx.cell (p := ⟨q, 2, none⟩) (slt_cell y2)).trans y2⟩
        refine hKa.out _ _ (fun _ => hS4) ?_
        clear hKa Ka
        try simp only [Act.put, List.setIfInBounds_toArray, List.set_cons_zero, List.set_cons_succ]
        have HSrc : Hid (RqS X (.slice (some ⟨Wd.heap.size, 0, none⟩) 1 1) [x]) := RqS.one hXn 1 (Nat.le_refl _)
        have HR4 : Hid (Rd X p s b3 f3) := HR3.out.below bx
        have HF4 : Hid (Fr w X (fun k => k = p)) := HF3.out.trans (Fr.ofBelow bx _) (fun _ _ h => h)
        have HSz : Hid (Wd.heap.size ≤ X.heap.size) := bx.size
        have HWs : Hid (pt ≤ Wd.heap.size) := by show _ ≤ _; have := HT3.out.lt; omega
        generalize Wd.heap.size = vb at HSrc HSz HWs ⊢
        clear hX bx hXn
        refine wpAnyL_one (i := 7) (by kernel_rfl) rfl (fun Ka hKa => ?_)
        refine stp_appQ rqT_asked rfl (.tmp 27) (.tmp 29) rfl (R := M) (S := [x]) rfl rfl HT4.out.row HSrc.out (by have := HMl.out; simp; omega) HT4.out.base ?_
        intro v2 X2 hrow hf2 hrw
        have HLen : Hid ((M ++ [x]).length = j + 1) := by show _ = _; rw [List.length_append, HM.out]; rfl
        generalize M ++ [x] = M2 at hrow HStep2 HLen
        have hpo : ¬ (Value.slice ao M.length c).ownBlock = some pt := HT4.out.ne
        have hqo : ¬ (Value.slice ao M.length c).ownBlock = some q := fun e => HQne.out q e rfl
        have c4 : X2.cell? ⟨pt, 0, none⟩ = some (.slice ao M.length c) := sfr_cell hf2 hpo HT4.out.c0
        have hS5 : (fun w' : World => w'.cell? ⟨pt, 0, none⟩ = some (.slice ao M.length c) ∧ w'.cell? ⟨q, 0, none⟩ = some (.int .i64 x.k) ∧ w'.cell? ⟨q, 1, none⟩ = some (.int .i64 x.n) ∧ w'.cell? ⟨q, 2, none⟩ = some (.string x.s)) X2 := ⟨c4, sfr_cell hf2 hqo hS4.2.1, sfr_cell hf2 hqo hS4.2.2.1, sfr_cell hf2 hqo hS4.2.2.2⟩
        have hbx : X2.heap[pt]? = some (.cells #[.slice ao M.length c] 58 (0, 0)) := (hf2.block pt HT4.out.lt hpo).trans HT4.out.box
        have HBx : Hid (X2.heap[pt]? = some (.cells #[.slice ao M.length c] 58 (0, 0))) := hbx
        have hfz : X2.frozen? ⟨pt, 0, none⟩ = false := by simp [World.frozen?, hbx]
        obtain ⟨ao2, c2, rfl, _, _⟩ := hrow.shape
        refine hKa.out _ _ (fun _ => hS5) ?_
        clear hKa Ka hbx
        try simp only [Act.put, List.setIfInBounds_toArray, List.set_cons_zero, List.set_cons_succ]
        refine wpAnyL_take (i := 8) 31 (v := .pointer (some ⟨pt, 0, none⟩)) rfl rfl (by kernel_rfl) (by kernel_rfl) (by kernel_rfl) (by kernel_rfl) (by kernel_rfl) (by kernel_rfl) (fun _ _ _ h => h) hS5 (by rfl) (by intro w' hSw; obtain ⟨y0, y1, y2, y3⟩ := hSw; go_simp <;> with_reducible rfl) ?_
        simp only [Act.put, List.setIfInBounds_toArray, List.set_cons_zero, List.set_cons_succ]
        refine wpAnyL_take (i := 9) 32 (v := .pointer (some ⟨pt, 0, none⟩)) rfl rfl (by kernel_rfl) (by kernel_rfl) (by kernel_rfl) (by kernel_rfl) (by kernel_rfl) (by kernel_rfl) (fun _ _ _ h => h) hS5 (by rfl) (by intro w' hSw; obtain ⟨y0, y1, y2, y3⟩ := hSw; go_simp <;> with_reducible rfl) ?_
        simp only [Act.put, List.setIfInBounds_toArray, List.set_cons_zero, List.set_cons_succ]
        refine wpAnyL_one (i := 10) (by kernel_rfl) rfl (fun Ka hKa => ?_)
        go_simp
        refine hKa.out _ _ (fun h => absurd h (Bool.eq_false_iff.1 (by kernel_rfl))) ?_
        clear hKa Ka
        refine wpAnyL_done (by kernel_rfl) ?_ _
        generalize hX3 : World.setCell _ _ _ = X3
        have f5 : Fr X2 X3 (fun k => k = pt) := by rw [← hX3]; exact Fr.setCell (S := fun k => k = pt) X2 ⟨pt, 0, none⟩ (.slice ao2 M2.length c2) rfl
        have hrp : ∀ k, (Value.slice ao2 M2.length c2).ownBlock = some k → ¬ k = pt := fun k hk e => by
          subst e
          obtain ⟨_, cc, ff, ht⟩ := srow_tag hrow hk
          rw [HBx.out] at ht
          simp at ht
        have HTn : Hid (TA X3 pt pt (.slice ao2 M2.length c2) M2) := ⟨by rw [← hX3]; exact sblk_set (i := 0) _ HBx.out, HT4.out.low, hrow.kept f5 hrp⟩
        have hpp := (HT4.out.read HR4.out).1
        have HRn : Hid (Rd X3 p s b3 f3) := (HR4.out.kept hf2 (fun e => (HT4.out.read HR4.out).2 _ e rfl)).kept f5 (fun e => hpp e.symm)
        have HFn : Hid (Fr w X3 (fun k => k = p)) := by
          have hP := HPt.out
          refine (HF4.out.trans hf2 (fun k hk e => ?_)).trans f5 (fun k hk e => by omega)
          have := (HT4.out.row.lt k e).1
          omega
        clear hX3 f5 hrp hpp hrow hf2 hrw
        go_wp2
        go_roundw
        case rel => exact ⟨j + 1, M2, _, b3, f3, by omega, by go_num, HLen, HStep2, HTn, HRn, HB3, HFn⟩
        case measure => simp [intOf]; omega
      · have hfb' : follB M x = false := by simpa using hfb
        have HStep2 : Hid (rdReqs s (m - (j + 1)) (M ++ [x]) b3 (rdFail f3 6) = R) := by
          have := HStep.out
          rw [if_neg hfb] at this
          exact this
        rw [hfb'] at hFo
        go_upto_region 6 with (go_at_call 40; refine hFo.mono ?_; rintro r w5b ⟨rfl, hb6⟩)
        have HTX1 : Hid (TA w5b pt pt v M) := HTW.out.new hb6
        have HRX1 : Hid (Rd w5b p s b3 f3) := HRW.out.below hb6
        have HFX1 : Hid (Fr w w5b (fun k => k = p)) := HFW.out.trans (Fr.ofBelow hb6 _) (fun _ _ h => h)
        have HZX1 : Hid (w5b.heap[q]? = some (.cells #[.int .i64 x.k, .int .i64 x.n, .string x.s] 60 (0, 0))) := (hb6.block q (slt_blk HZ.out)).trans HZ.out
        clear hb6 hFo z0 z1 z2
        have hFa := rfail_any (x := 6) HRX1.out
        go_upto_region 7 with (go_at_call 41; refine hFa.mono ?_; rintro r w6 ⟨rfl, hr6, hf6⟩)
        have HTX : Hid (TA w6 pt pt v M) := HTX1.out.reads HRX1.out hf6
        have HRX : Hid (Rd w6 p s b3 (rdFail f3 6)) := hr6
        have HFX : Hid (Fr w w6 (fun k => k = p)) := HFX1.out.trans hf6 (fun _ _ h => h)
        have hqp : q ≠ p := fun e => by
          have h1 := HZX1.out
          have h2 := HRX1.out
          unfold Rd at h2
          rw [e, h2] at h1
          simp at h1
        have HZX : Hid (w6.heap[q]? = some (.cells #[.int .i64 x.k, .int .i64 x.n, .string x.s] 60 (0, 0))) := (hf6.block q (slt_blk HZX1.out) hqp).trans HZX1.out
        clear hr6 hf6 hFa
        generalize rdFail f3 6 = f3 at HRX HStep2
        obtain ⟨ao, c, rfl, hcap, hg⟩ := HTX.out.row.shape
        obtain ⟨Wd, hWd⟩ : ∃ Wd, w6.drew = Wd := ⟨_, rfl⟩
        have bd : Below w6.heap.size w6 Wd := by rw [← hWd]; exact Below.drew (Below.refl _ _)
        have HT3 : Hid (TA Wd pt pt (.slice ao M.length c) M) := HTX.out.new bd
        have c0 := HT3.out.c0
        have HZ3 : Wd.heap[q]? = some (.cells #[.int .i64 x.k, .int .i64 x.n, .string x.s] 60 (0, 0)) := (bd.block q (slt_blk HZX.out)).trans HZX.out
        obtain ⟨y0, y1, y2, _, _, _⟩ := sbox3 HZ3
        have HR3 : Hid (Rd Wd p s b3 f3) := HRX.out.below bd
        have HF3 : Hid (Fr w Wd (fun k => k = p)) := HFX.out.trans (Fr.ofBelow bd _) (fun _ _ h => h)
        refine wp_calmS ?_
        refine wp_region_L [10] (fun w' : World => w'.cell? ⟨pt, 0, none⟩ = some (.slice ao M.length c) ∧ w'.cell? ⟨q, 0, none⟩ = some (.int .i64 x.k) ∧ w'.cell? ⟨q, 1, none⟩ = some (.int .i64 x.n) ∧ w'.cell? ⟨q, 2, none⟩ = some (.string x.s)) (by kernel_rfl) ?_
        rw [hWd]
        clear hWd bd HZ3
        have hS : (fun w' : World => w'.cell? ⟨pt, 0, none⟩ = some (.slice ao M.length c) ∧ w'.cell? ⟨q, 0, none⟩ = some (.int .i64 x.k) ∧ w'.cell? ⟨q, 1, none⟩ = some (.int .i64 x.n) ∧ w'.cell? ⟨q, 2, none⟩ = some (.string x.s)) Wd := ⟨c0, y0, y1, y2⟩
        refine wpAnyL_take (i := 0) 23 (v := .pointer (some ⟨pt, 0, none⟩)) rfl rfl (by kernel_rfl) (by kernel_rfl) (by kernel_rfl) (by kernel_rfl) (by kernel_rfl) (by kernel_rfl) (fun _ _ _ h => h) hS (by rfl) (by intro w' hSw; obtain ⟨y0, y1, y2, y3⟩ := hSw; go_simp <;> with_reducible rfl) ?_
        simp only [Act.put, List.setIfInBounds_toArray, List.set_cons_zero, List.set_cons_succ]
        refine wpAnyL_take (i := 1) 24 (v := .pointer (some ⟨pt, 0, none⟩)) rfl rfl (by kernel_rfl) (by kernel_rfl) (by kernel_rfl) (by kernel_rfl) (by kernel_rfl) (by kernel_rfl) (fun _ _ _ h => h) hS (by rfl) (by intro w' hSw; obtain ⟨y0, y1, y2, y3⟩ := hSw; go_simp <;> with_reducible rfl) ?_
        simp only [Act.put, List.setIfInBounds_toArray, List.set_cons_zero, List.set_cons_succ]
        refine wpAnyL_take (i := 2) 25 (v := .pointer (some ⟨pt, 0, none⟩)) rfl rfl (by kernel_rfl) (by kernel_rfl) (by kernel_rfl) (by kernel_rfl) (by kernel_rfl) (by kernel_rfl) (fun _ _ _ h => h) hS (by rfl) (by intro w' hSw; obtain ⟨y0, y1, y2, y3⟩ := hSw; go_simp <;> with_reducible rfl) ?_
        simp only [Act.put, List.setIfInBounds_toArray, List.set_cons_zero, List.set_cons_succ]
        refine wpAnyL_take (i := 3) 26 (v := .pointer (some ⟨pt, 0, none⟩)) rfl rfl (by kernel_rfl) (by kernel_rfl) (by kernel_rfl) (by kernel_rfl) (by kernel_rfl) (by kernel_rfl) (fun _ _ _ h => h) hS (by rfl) (by intro w' hSw; obtain ⟨y0, y1, y2, y3⟩ := hSw; go_simp <;> with_reducible rfl) ?_
        simp only [Act.put, List.setIfInBounds_toArray, List.set_cons_zero, List.set_cons_succ]
        refine wpAnyL_take (i := 4) 27 (v := .slice ao M.length c) rfl rfl (by kernel_rfl) (by kernel_rfl) (by kernel_rfl) (by kernel_rfl) (by kernel_rfl) (by kernel_rfl) (fun _ _ _ h => h) hS (by rfl) (by intro w' hSw; obtain ⟨y0, y1, y2, y3⟩ := hSw; go_simp <;> with_reducible rfl) ?_
        simp only [Act.put, List.setIfInBounds_toArray, List.set_cons_zero, List.set_cons_succ]
        refine wpAnyL_take (i := 5) 28 (v := .agg #[.int .i64 x.k, .int .i64 x.n, .string x.s]) rfl rfl (by kernel_rfl) (by kernel_rfl) (by kernel_rfl) (by kernel_rfl) (by kernel_rfl) (by kernel_rfl) (fun _ _ _ h => h) hS (by rfl) (by intro w' hSw; obtain ⟨y0, y1, y2, y3⟩ := hSw; go_simp <;> with_reducible rfl) ?_
        simp only [Act.put, List.setIfInBounds_toArray, List.set_cons_zero, List.set_cons_succ]
        refine wpAnyL_one (i := 6) (by kernel_rfl) rfl (fun Ka hKa => ?_)
        go_simp
        generalize hX : World.alloc _ _ = X
        have bx : Below Wd.heap.size Wd X := by rw [← hX]; exact sone_new _ _
        have hXn : X.heap[Wd.heap.size]? = some (.cells #[.int .i64 x.k, .int .i64 x.n, .string x.s] 60 (0, 0)) := by rw [← hX]; exact heap_alloc_new _ _
        have HT4 : Hid (TA X pt pt (.slice ao M.length c) M) := HT3.out.new bx
        have hS4 : (fun w' : World => w'.cell? ⟨pt, 0, none⟩ = some (.slice ao M.length c) ∧ w'.cell? ⟨q, 0, none⟩ = some (.int .i64 x.k) ∧ w'.cell? ⟨q, 1, none⟩ = some (.int .i64 x.n) ∧ w'.cell? ⟨q, 2, none⟩ = some (.string x.s)) X := ⟨HT4.out.c0, (bx.cell (p := ⟨q, 0, none⟩) (slt_cell y0)).trans y0, (bx.cell (p := ⟨q, 1, none⟩) (slt_cell y1)).trans y1, (bx.cell (p := ⟨q, 2, none⟩) (slt_cell y2)).trans y2⟩
        refine hKa.out _ _ (fun _ => hS4) ?_
        clear hKa Ka
        try simp only [Act.put, List.setIfInBounds_toArray, List.set_cons_zero, List.set_cons_succ]
        have HSrc : Hid (RqS X (.slice (some ⟨Wd.heap.size, 0, none⟩) 1 1) [x]) := RqS.one hXn 1 (Nat.le_refl _)
        have HR4 : Hid (Rd X p s b3 f3) := HR3.out.below bx
        have HF4 : Hid (Fr w X (fun k => k = p)) := HF3.out.trans (Fr.ofBelow bx _) (fun _ _ h => h)
        have HSz : Hid (Wd.heap.size ≤ X.heap.size) := bx.size
        have HWs : Hid (pt ≤ Wd.heap.size) := by show _ ≤ _; have := HT3.out.lt; omega
        generalize Wd.heap.size = vb at HSrc HSz HWs ⊢
        clear hX bx hXn
        refine wpAnyL_one (i := 7) (by kernel_rfl) rfl (fun Ka hKa => ?_)
        refine stp_appQ rqT_asked rfl (.tmp 27) (.tmp 29) rfl (R := M) (S := [x]) rfl rfl HT4.out.row HSrc.out (by have := HMl.out; simp; omega) HT4.out.base ?_
        intro v2 X2 hrow hf2 hrw
        have HLen : Hid ((M ++ [x]).length = j + 1) := by show _ = _; rw [List.length_append, HM.out]; rfl
        generalize M ++ [x] = M2 at hrow HStep2 HLen
        have hpo : ¬ (Value.slice ao M.length c).ownBlock = some pt := HT4.out.ne
        have hqo : ¬ (Value.slice ao M.length c).ownBlock = some q := fun e => HQne.out q e rfl
        have c4 : X2.cell? ⟨pt, 0, none⟩ = some (.slice ao M.length c) := sfr_cell hf2 hpo HT4.out.c0
        have hS5 : (fun w' : World => w'.cell? ⟨pt, 0, none⟩ = some (.slice ao M.length c) ∧ w'.cell? ⟨q, 0, none⟩ = some (.int .i64 x.k) ∧ w'.cell? ⟨q, 1, none⟩ = some (.int .i64 x.n) ∧ w'.cell? ⟨q, 2, none⟩ = some (.string x.s)) X2 := ⟨c4, sfr_cell hf2 hqo hS4.2.1, sfr_cell hf2 hqo hS4.2.2.1, sfr_cell hf2 hqo hS4.2.2.2⟩
        have hbx : X2.heap[pt]? = some (.cells #[.slice ao M.length c] 58 (0, 0)) := (hf2.block pt HT4.out.lt hpo).trans HT4.out.box
        have HBx : Hid (X2.heap[pt]? = some (.cells #[.slice ao M.length c] 58 (0, 0))) := hbx
        have hfz : X2.frozen? ⟨pt, 0, none⟩ = false := by simp [World.frozen?, hbx]
        obtain ⟨ao2, c2, rfl, _, _⟩ := hrow.shape
        refine hKa.out _ _ (fun _ => hS5) ?_
        clear hKa Ka hbx
        try simp only [Act.put, List.setIfInBounds_toArray, List.set_cons_zero, List.set_cons_succ]
        refine wpAnyL_take (i := 8) 31 (v := .pointer (some ⟨pt, 0, none⟩)) rfl rfl (by kernel_rfl) (by kernel_rfl) (by kernel_rfl) (by kernel_rfl) (by kernel_rfl) (by kernel_rfl) (fun _ _ _ h => h) hS5 (by rfl) (by intro w' hSw; obtain ⟨y0, y1, y2, y3⟩ := hSw; go_simp <;> with_reducible rfl) ?_
        simp only [Act.put, List.setIfInBounds_toArray, List.set_cons_zero, List.set_cons_succ]
        refine wpAnyL_take (i := 9) 32 (v := .pointer (some ⟨pt, 0, none⟩)) rfl rfl (by kernel_rfl) (by kernel_rfl) (by kernel_rfl) (by kernel_rfl) (by kernel_rfl) (by kernel_rfl) (fun _ _ _ h => h) hS5 (by rfl) (by intro w' hSw; obtain ⟨y0, y1, y2, y3⟩ := hSw; go_simp <;> with_reducible rfl) ?_
        simp only [Act.put, List.setIfInBounds_toArray, List.set_cons_zero, List.set_cons_succ]
        refine wpAnyL_one (i := 10) (by kernel_rfl) rfl (fun Ka hKa => ?_)
        go_simp
        refine hKa.out _ _ (fun h => absurd h (Bool.eq_false_iff.1 (by kernel_rfl))) ?_
        clear hKa Ka
        refine wpAnyL_done (by kernel_rfl) ?_ _
        generalize hX3 : World.setCell _ _ _ = X3
        have f5 : Fr X2 X3 (fun k => k = pt) := by rw [← hX3]; exact Fr.setCell (S := fun k => k = pt) X2 ⟨pt, 0, none⟩ (.slice ao2 M2.length c2) rfl
        have hrp : ∀ k, (Value.slice ao2 M2.length c2).ownBlock = some k → ¬ k = pt := fun k hk e => by
          subst e
          obtain ⟨_, cc, ff, ht⟩ := srow_tag hrow hk
          rw [HBx.out] at ht
          simp at ht
        have HTn : Hid (TA X3 pt pt (.slice ao2 M2.length c2) M2) := ⟨by rw [← hX3]; exact sblk_set (i := 0) _ HBx.out, HT4.out.low, hrow.kept f5 hrp⟩
        have hpp := (HT4.out.read HR4.out).1
        have HRn : Hid (Rd X3 p s b3 f3) := (HR4.out.kept hf2 (fun e => (HT4.out.read HR4.out).2 _ e rfl)).kept f5 (fun e => hpp e.symm)
        have HFn : Hid (Fr w X3 (fun k => k = p)) := by
          have hP := HPt.out
          refine (HF4.out.trans hf2 (fun k hk e => ?_)).trans f5 (fun k hk e => by omega)
          have := (HT4.out.row.lt k e).1
          omega
        clear hX3 f5 hrp hpp hrow hf2 hrw
        go_wp2
        go_roundw
        case rel => exact ⟨j + 1, M2, _, b3, f3, by omega, by go_num, HLen, HStep2, HTn, HRn, HB3, HFn⟩
        case measure => simp [intOf]; omega
    · have HE : Hid (rdReqs s 0 M a1 e1 = R) := by
        have := HRj.out
        rw [show m - j = 0 by omega] at this
        exact this
      have hjm : ¬ (j : Int) < m := by omega
      by_cases he : e1 = 0
      · subst he
        have HV : Hid (R = (M, a1, 0)) := HE.out.symm
        go_wp2_with (go_at_call 25; refine (err_any HRd.out).mono ?_; rintro r wr ⟨rfl, rfl⟩)
        go_ret
        have hA := HAns.out
        have hP := HPt.out
        rw [HV.out] at hA ⊢
        rw [← hA, hP]
        exact ⟨rfl, HRd.out, ⟨_, HTj.out⟩, HFj.out⟩
      · have HV : Hid (R = (M, a1, e1)) := HE.out.symm
        have HNe : Hid (e1 ≠ 0) := he
        have he' : (e1 != 0) = true := by simpa using he
        go_wp2_with (go_at_call 25; refine (err_any HRd.out).mono ?_; rintro r wr ⟨rfl, rfl⟩)
        all_goals
          go_ret
          have hA := HAns.out
          have hP := HPt.out
          rw [HV.out] at hA ⊢
          simp only at hA
          rw [if_neg HNe.out] at hA
          rw [← hA, hP]
          exact ⟨rfl, HRd.out, ⟨_, HTj.out⟩, HFj.out⟩
end Go.Proofs.Ytdnakakichblgaa
