/- What WalPlays returns: true. -/
import Derived.Test.YtdapapnkmicklaaWlPlay
import Derived.Deep.CutBlock
import Derived.Deep.DeepCutAuto
namespace Go.Proofs.Ytdapapnkmicklaa
open Go.RowKit Go.Maps
attribute [local go_sem] Oper.semAt_some
/-- An act, as a value's parts. -/
structure ActW where
  k : Int
  s : Bs
  lo : Option Addr
  ln : Nat
  lc : Nat
  L : List Bs
  f0 : Int
  f1 : Int
  f2 : Int
def ActsW (w : World) (b off : Nat) (Y : List ActW) : Prop := ∀ j (h : j < Y.length), (w.cell? ⟨b, off + j * 6, none⟩ = some (.int .i64 Y[j].k) ∧ w.cell? ⟨b, off + j * 6 + 1, none⟩ = some (.string (str Y[j].s)) ∧ w.cell? ⟨b, off + j * 6 + 2, none⟩ = some (.slice Y[j].lo Y[j].ln Y[j].lc) ∧ w.cell? ⟨b, off + j * 6 + 3, none⟩ = some (.int .i64 Y[j].f0) ∧ w.cell? ⟨b, off + j * 6 + 4, none⟩ = some (.int .i64 Y[j].f1) ∧ w.cell? ⟨b, off + j * 6 + 5, none⟩ = some (.int .i64 Y[j].f2)) ∧ TxS w (.slice Y[j].lo Y[j].ln Y[j].lc) Y[j].L ∧ Y[j].s.length ≤ 140737488351232
theorem p_first {w wx : World} {n0 q : Nat} (h1 : Lg wx n0 q n0 [] (.slice none 0 0) []) (h2 : DkAt wx n0 n0 wk1) (h3 : Below n0 w wx) (h4 : n0 ≤ wx.heap.size) : PL w n0 0 wx q (.slice none 0 0) [] [] wk1 := by
  have hc := cl0.anew (A := dk0) (M := 1000000) (F := frs [[]]) (Nat.le_trans frs0 (by decide))
  refine ⟨h1, h2, ?_, hc.2, Nat.le_refl _, Nat.le_refl _, fun x hx => (by cases hx), by decide, h3, h4⟩
  have h5 := hc.1
  exact ⟨h5.loose, h5.dead, h5.sort, h5.fit.mono (by decide), h5.len, h5.n⟩
theorem str_neW (a : Bs) : ((str a).toList == (str a).toList) = true := by rw [str_eqB]; simp
/-- An act's box is no block that a log writes. -/
theorem act_no {W : World} {n0 q p ab : Nat} {snap : Bs} {rv : Value} {R : List Bs} {cs : Array Value} (h : W.heap[ab]? = some (.cells cs 47 (0, 0))) (hl : Lg W n0 q p snap rv R) : ((n0 ≤ ab ∧ DkB W ab) ∨ ab = q ∨ rv.ownBlock = some ab) → False := by
  rintro (⟨_, ⟨es, c, hm⟩ | ⟨c, t, f, hm, ht⟩⟩ | rfl | hr)
  · rw [h] at hm; cases hm
  · rw [h] at hm
    cases hm
    rcases ht with ht | ht <;> exact absurd ht (by decide)
  · rw [hl.blk] at h
    cases h
  · obtain ⟨_, c, f, hb⟩ := hl.row.tag hr
    rw [h] at hb
    cases hb
set_option maxRecDepth 100000 in
set_option maxHeartbeats 4000000 in
theorem plays_any {w : World} {ao : Option Addr} {cap : Nat} {Y : List ActW} (hY : 0 < Y.length → ∃ b off, ao = some ⟨b, off, none⟩ ∧ ActsW w b off Y) : Calls Try.prog 4 #[.slice ao Y.length cap] w fun r w' => r = .returned (.bool true) ∧ Below w.heap.size w w' := by
  have hN := new_any w
  have HY : Hid (0 < Y.length → ∃ b off, ao = some ⟨b, off, none⟩ ∧ ActsW w b off Y) := hY
  obtain ⟨n0, hn0⟩ : ∃ n0, w.heap.size = n0 := ⟨_, rfl⟩
  rw [hn0] at hN ⊢
  have HO1 : Hid (∀ W, DkAt W n0 n0 dk0 → n0 ≤ W.heap.size → Calls Try.prog 12 #[.pointer (some ⟨n0, 0, none⟩)] W fun r w' => ∃ q, r = .returned (.tuple #[.pointer (some ⟨q, 0, none⟩), .int .i64 0, .int .i64 0]) ∧ W.heap.size ≤ q ∧ Lg w' n0 q n0 [] (.slice none 0 0) [] ∧ DkAt w' n0 n0 wk1 ∧ FrD n0 W w') := fun W h hB => open_first h hB
  have HNw : Hid (w.heap.size = n0) := hn0
  obtain ⟨y0, hy0⟩ : ∃ y0, Y.length = y0 := ⟨_, rfl⟩
  have HY0 : Hid (Y.length = y0) := hy0
  rw [hy0]
  clear hY hn0 hy0
  go_enter Try.func4, Try.ntmps4
  go_wp2_with (first
    | (go_at_call 8; refine hN.mono ?_; rintro r w1 ⟨rfl, hD, hb1⟩; have HD1 : Hid (DkAt w1 n0 n0 dk0) := ⟨_, _, _, hD⟩; have HB1 : Hid (Below n0 w w1) := hb1; have HS1 : Hid (n0 ≤ w1.heap.size) := (by have := hb1.size; have := HNw.out; show _ ≤ _; omega); clear hD hb1)
    | (go_at_call 12; refine (HO1.out _ HD1.out HS1.out).mono ?_; rintro r w2 ⟨q, rfl, _, hL, hD, hF⟩; have HP2 : Hid (PL w n0 0 w2 q (.slice none 0 0) [] [] wk1) := p_first hL hD (HB1.out.trans (FrD.below hF HS1.out)) (Nat.le_trans HS1.out hF.size); clear hD hL hF)
    | (go_at_call 13; refine (awake12 _).mono ?_; rintro r w3 ⟨rfl, hb⟩; have HP3 : Hid (PL w n0 0 w3 q (.slice none 0 0) [] [] wk1) := HP2.out.new hb; clear hb))
  have HP4 : Hid (PL w n0 0 (w3.alloc (.cells #[] 9)) q (.slice none 0 0) [] [] wk1) := HP3.out.new (one_newD _ _)
  have HA4 : Hid (PA2 n0 (w3.alloc (.cells #[] 9)) (.slice none 0 0) (.slice (some ⟨w3.heap.size, 0, none⟩) 0 0) []) := ⟨(tx_empty w3).low HP3.out.low, fun j hj => by cases hj⟩
  go_loopw [4, 5, 6, 7, 8, 9, 10] (fun s4 _ _ s7 s8 i _ wr => ∃ (k q : Nat) (snap : Bs) (oo : Option Addr) (m c : Nat), i = .int .i64 k ∧ k ≤ y0 ∧ k ≤ 30 ∧ s4 = .pointer (some ⟨q, 0, none⟩) ∧ s7 = .string (str snap) ∧ s8 = .slice oo m c ∧ Hid (∃ rv R A, PL w n0 k wr q rv snap R A ∧ PA2 n0 wr rv (.slice oo m c) R)) (fun _ _ _ _ _ i _ _ => y0 - (intOf i).toNat)
  case atStart => exact ⟨0, q, [], _, _, _, rfl, Nat.zero_le _, Nat.zero_le _, rfl, rfl, rfl, ⟨_, _, _, HP4.out, HA4.out⟩⟩
  case round =>
    obtain ⟨k, q, snap, oo, m, c, rfl, hk, hk30, rfl, rfl, rfl, HX⟩ := hrel
    by_cases hlt : k < y0 ∧ k < 30
    · obtain ⟨hl1, hl2⟩ := hlt
      obtain ⟨rv, R, A, hP, hA⟩ := HX.out
      have HP : Hid (PL w n0 k wr q rv snap R A) := hP
      have HA : Hid (PA2 n0 wr rv (.slice oo m c) R) := hA
      have hm : m = R.length := by
        obtain ⟨_, _, e⟩ := hA.all.shape
        cases e
        rfl
      subst hm
      have hkl : k < Y.length := by have := HY0.out; omega
      obtain ⟨b, off, rfl, hcs⟩ := HY.out (by omega)
      obtain ⟨⟨z0, z1, z2, z3, z4, z5⟩, hTx, hsn⟩ := hcs k hkl
      have kc : ∀ (oo : Nat) (uu : Value), w.cell? ⟨b, oo, none⟩ = some uu → wr.cell? ⟨b, oo, none⟩ = some uu := fun oo uu h => (hP.bel.cell (p := ⟨b, oo, none⟩) (by have := lt_cellD h; have := HNw.out; show b < n0; omega)).trans h
      replace z0 := kc _ _ z0
      replace z1 := kc _ _ z1
      replace z2 := kc _ _ z2
      replace z3 := kc _ _ z3
      replace z4 := kc _ _ z4
      replace z5 := kc _ _ z5
      have HTx : Hid (∀ W, Below n0 w W → TxS W (.slice Y[k].lo Y[k].ln Y[k].lc) Y[k].L) := fun W hW => hTx.new (by rw [HNw.out]; exact hW)
      have HSn : Hid (Y[k].s.length ≤ 140737488351232) := hsn
      have HL1 : Hid (k < y0) := hl1
      have HL2 : Hid (k < 30) := hl2
      clear hcs hP hA kc hTx hsn HX
      generalize Y[k] = y at z0 z1 z2 z3 z4 z5 HTx HSn
      clear hkl
      go_upto_region 10 with (fail)
      generalize hW : World.alloc _ _ = W
      have HQ1 : Hid (W.heap[wr.heap.size]? = some (.cells #[.int .i64 y.k, .string (str y.s), .slice y.lo y.ln y.lc, .int .i64 y.f0, .int .i64 y.f1, .int .i64 y.f2] 47 (0, 0))) := by
        show _ = _
        rw [← hW]
        exact heap_alloc_new _ _
      have hbW : Below wr.heap.size wr W := by rw [← hW]; exact one_newD _ _
      have HP1 : Hid (PL w n0 k W q rv snap R A) := HP.out.new hbW
      have HA1 : Hid (PA2 n0 W rv (.slice oo R.length c) R) := HA.out.new hbW
      have HR9 : Hid (R.length + (cutT y.L).length ≤ 2000000000) := by
        have h1 := HP.out.len
        have h2 := cutT_len y.L
        have h3 := HL2.out
        show _ ≤ _
        omega
      have HCut : Hid (∀ V, Below n0 w V → Calls Try.prog 15 #[.slice y.lo y.ln y.lc] V fun r w' => ∃ v', r = .returned v' ∧ TxO w' V.heap.size v' (cutT y.L) ∧ Below V.heap.size V w') := fun V hV => cut_any (HTx.out V hV)
      clear hW hbW HP HA z0 z1 z2 z3 z4 z5 HTx
      generalize wr.heap.size = ab at HQ1 ⊢
      obtain ⟨yk, ys, lo, ln, lc, yL, yf0, yf1, yf2⟩ := y
      simp only at HQ1 HCut HSn HR9 ⊢
      have d0 : W.cell? ⟨ab, 0, none⟩ = some (.int .i64 yk) := cell_blk (i := 0) HQ1.out
      have d1 : W.cell? ⟨ab, 1, none⟩ = some (.string (str ys)) := cell_blk (i := 1) HQ1.out
      have d2 : W.cell? ⟨ab, 2, none⟩ = some (.slice lo ln lc) := cell_blk (i := 2) HQ1.out
      have d4 : W.cell? ⟨ab, 4, none⟩ = some (.int .i64 yf1) := cell_blk (i := 4) HQ1.out
      have d5 : W.cell? ⟨ab, 5, none⟩ = some (.int .i64 yf2) := cell_blk (i := 5) HQ1.out
      go_upto_block 2 with (fail)
      go_cut [4, 5, 6, 7, 8] (fun s4 _ _ s7 s8 wx => ∃ (q : Nat) (snap : Bs) (oo : Option Addr) (m c : Nat), s4 = .pointer (some ⟨q, 0, none⟩) ∧ s7 = .string (str snap) ∧ s8 = .slice oo m c ∧ ∃ rv R A, PL w n0 (k + 1) wx q rv snap R A ∧ PA2 n0 wx rv (.slice oo m c) R)
      case first =>
        by_cases h3 : yk = 3
        · subst h3
          have hP0 := HP1.out
          go_upto_region 15 with (fail)
          have e1 := d1
          have e2 := d2
          have bd : Below W.heap.size W W.drew := Below.drew (Below.refl _ _)
          obtain ⟨Wd, hWd⟩ : ∃ Wd, W.drew = Wd := ⟨_, rfl⟩
          rw [hWd] at bd
          have HBdWd : Hid (Below W.heap.size W Wd) := bd
          have hS : (fun w' : World => w'.cell? ⟨ab, 1, none⟩ = some (.string (str ys)) ∧ w'.cell? ⟨ab, 2, none⟩ = some (.slice lo ln lc)) Wd := ⟨(bd.cell (p := ⟨ab, 1, none⟩) (lt_cellD e1)).trans e1, (bd.cell (p := ⟨ab, 2, none⟩) (lt_cellD e2)).trans e2⟩
          have HSWd : Hid (Wd.cell? ⟨ab, 1, none⟩ = some (.string (str ys)) ∧ Wd.cell? ⟨ab, 2, none⟩ = some (.slice lo ln lc)) := hS
          clear bd
          refine wp_calmD ?_
          refine wp_region_L [6] (fun w' : World => w'.cell? ⟨ab, 1, none⟩ = some (.string (str ys)) ∧ w'.cell? ⟨ab, 2, none⟩ = some (.slice lo ln lc)) (by kernel_rfl) ?_
          rw [hWd]
          clear hWd
          refine wpAnyL_take (i := 0) 62 (v := .pointer (some ⟨q, 0, none⟩)) rfl rfl (by kernel_rfl) (by kernel_rfl) (by kernel_rfl) (by kernel_rfl) (by kernel_rfl) (by kernel_rfl) (fun _ _ _ h => h) hS (by rfl) (by intro w' hSw; obtain ⟨y1, y2⟩ := hSw; go_simp <;> with_reducible rfl) ?_
          simp only [Act.put, List.setIfInBounds_toArray, List.set_cons_zero, List.set_cons_succ]
          refine wpAnyL_take (i := 1) 63 (v := .pointer (some ⟨ab, 1, none⟩)) rfl rfl (by kernel_rfl) (by kernel_rfl) (by kernel_rfl) (by kernel_rfl) (by kernel_rfl) (by kernel_rfl) (fun _ _ _ h => h) hS (by rfl) (by intro w' hSw; obtain ⟨y1, y2⟩ := hSw; go_simp <;> with_reducible rfl) ?_
          simp only [Act.put, List.setIfInBounds_toArray, List.set_cons_zero, List.set_cons_succ]
          refine wpAnyL_take (i := 2) 64 (v := .string (str ys)) rfl rfl (by kernel_rfl) (by kernel_rfl) (by kernel_rfl) (by kernel_rfl) (by kernel_rfl) (by kernel_rfl) (fun _ _ _ h => h) hS (by rfl) (by intro w' hSw; obtain ⟨y1, y2⟩ := hSw; go_simp <;> with_reducible rfl) ?_
          simp only [Act.put, List.setIfInBounds_toArray, List.set_cons_zero, List.set_cons_succ]
          refine wpAnyL_take (i := 3) 65 (v := .pointer (some ⟨ab, 2, none⟩)) rfl rfl (by kernel_rfl) (by kernel_rfl) (by kernel_rfl) (by kernel_rfl) (by kernel_rfl) (by kernel_rfl) (fun _ _ _ h => h) hS (by rfl) (by intro w' hSw; obtain ⟨y1, y2⟩ := hSw; go_simp <;> with_reducible rfl) ?_
          simp only [Act.put, List.setIfInBounds_toArray, List.set_cons_zero, List.set_cons_succ]
          refine wpAnyL_take (i := 4) 66 (v := .slice lo ln lc) rfl rfl (by kernel_rfl) (by kernel_rfl) (by kernel_rfl) (by kernel_rfl) (by kernel_rfl) (by kernel_rfl) (fun _ _ _ h => h) hS (by rfl) (by intro w' hSw; obtain ⟨y1, y2⟩ := hSw; go_simp <;> with_reducible rfl) ?_
          simp only [Act.put, List.setIfInBounds_toArray, List.set_cons_zero, List.set_cons_succ]
          refine wpAnyL_one (i := 5) (by kernel_rfl) rfl (fun Ka hKa => ?_)
          go_simp
          refine (HCut.out _ (HP1.out.new HBdWd.out).bel).mono ?_
          rintro r w5 ⟨v5, rfl, ho, hb⟩
          obtain ⟨a5, c5, rfl⟩ := ho.shape
          have HO5 : Hid (TxO w5 0 (.slice a5 (cutT yL).length c5) (cutT yL)) := ho.low (Nat.zero_le _)
          have HP5 : Hid (PL w n0 k w5 q rv snap R A) := (HP1.out.new HBdWd.out).new hb
          have HQ5 : Hid (w5.heap[ab]? = some (.cells #[.int .i64 3, .string (str ys), .slice lo ln lc, .int .i64 yf0, .int .i64 yf1, .int .i64 yf2] 47 (0, 0))) := by
            have h1 := (HBdWd.out.block ab (lt_blk HQ1.out)).trans HQ1.out
            exact (hb.block ab (lt_blk h1)).trans h1
          have hS5 : (fun w' : World => w'.cell? ⟨ab, 1, none⟩ = some (.string (str ys)) ∧ w'.cell? ⟨ab, 2, none⟩ = some (.slice lo ln lc)) w5 := ⟨cell_blk (i := 1) HQ5.out, cell_blk (i := 2) HQ5.out⟩
          refine hKa.out _ _ (fun _ => hS5) ?_
          clear hKa Ka ho hb hS hS5 HSWd
          try simp only [Act.put, List.setIfInBounds_toArray, List.set_cons_zero, List.set_cons_succ]
          refine wpAnyL_one (i := 6) (by kernel_rfl) rfl (fun Ka hKa => ?_)
          go_simp
          refine (p_reset HP5.out (Nat.le_of_lt HL2.out) HO5.out HSn.out).mono ?_
          rintro r w6 ⟨rfl, rv6, A6, hP6, hF6⟩
          have HP6 : Hid (PL w n0 (k + 1) w6 q rv6 ys (cutT yL) A6) := hP6
          have e6 : w6.heap[ab]? = _ := (hF6.block ab (lt_blk HQ5.out) (fun s => act_no HQ5.out HP5.out.lg (s.imp_right .inl))).trans HQ5.out
          have HQ6 : Hid (w6.heap[ab]? = some (.cells #[.int .i64 3, .string (str ys), .slice lo ln lc, .int .i64 yf0, .int .i64 yf1, .int .i64 yf2] 47 (0, 0))) := e6
          refine hKa.out _ _ (fun h => absurd h (Bool.eq_false_iff.1 (by kernel_rfl))) ?_
          clear hKa Ka hP6 hF6 e6
          try simp only [Act.put, List.setIfInBounds_toArray, List.set_cons_zero, List.set_cons_succ]
          refine wpAnyL_one (i := 7) (by kernel_rfl) rfl (fun Ka hKa => ?_)
          go_simp
          refine hKa.out _ _ (fun h => absurd h (Bool.eq_false_iff.1 (by kernel_rfl))) ?_
          clear hKa Ka
          try simp only [Act.put, List.setIfInBounds_toArray, List.set_cons_zero, List.set_cons_succ]
          refine wpAnyL_done (by kernel_rfl) ?_ _
          go_upto_region 17 with (fail)
          have e1 := cell_blk (i := 1) HQ6.out
          have e2 := cell_blk (i := 2) HQ6.out
          simp only [List.getElem?_toArray, List.getElem?_cons_succ, List.getElem?_cons_zero] at e1 e2
          have bd : Below w6.heap.size w6 w6.drew := Below.drew (Below.refl _ _)
          obtain ⟨Wf, hWd⟩ : ∃ Wf, w6.drew = Wf := ⟨_, rfl⟩
          rw [hWd] at bd
          have HBdWf : Hid (Below w6.heap.size w6 Wf) := bd
          have hS : (fun w' : World => w'.cell? ⟨ab, 1, none⟩ = some (.string (str ys)) ∧ w'.cell? ⟨ab, 2, none⟩ = some (.slice lo ln lc)) Wf := ⟨(bd.cell (p := ⟨ab, 1, none⟩) (lt_cellD e1)).trans e1, (bd.cell (p := ⟨ab, 2, none⟩) (lt_cellD e2)).trans e2⟩
          have HSWf : Hid (Wf.cell? ⟨ab, 1, none⟩ = some (.string (str ys)) ∧ Wf.cell? ⟨ab, 2, none⟩ = some (.slice lo ln lc)) := hS
          clear bd
          refine wp_calmD ?_
          refine wp_region_L [] (fun w' : World => w'.cell? ⟨ab, 1, none⟩ = some (.string (str ys)) ∧ w'.cell? ⟨ab, 2, none⟩ = some (.slice lo ln lc)) (by kernel_rfl) ?_
          rw [hWd]
          clear hWd
          refine wpAnyL_take (i := 0) 70 (v := .pointer (some ⟨ab, 1, none⟩)) rfl rfl (by kernel_rfl) (by kernel_rfl) (by kernel_rfl) (by kernel_rfl) (by kernel_rfl) (by kernel_rfl) (fun _ _ _ h => h) hS (by rfl) (by intro w' hSw; obtain ⟨y1, y2⟩ := hSw; go_simp <;> with_reducible rfl) ?_
          simp only [Act.put, List.setIfInBounds_toArray, List.set_cons_zero, List.set_cons_succ]
          refine wpAnyL_take (i := 1) 71 (v := .string (str ys)) rfl rfl (by kernel_rfl) (by kernel_rfl) (by kernel_rfl) (by kernel_rfl) (by kernel_rfl) (by kernel_rfl) (fun _ _ _ h => h) hS (by rfl) (by intro w' hSw; obtain ⟨y1, y2⟩ := hSw; go_simp <;> with_reducible rfl) ?_
          simp only [Act.put, List.setIfInBounds_toArray, List.set_cons_zero, List.set_cons_succ]
          refine wpAnyL_take (i := 2) 72 (v := .pointer (some ⟨ab, 2, none⟩)) rfl rfl (by kernel_rfl) (by kernel_rfl) (by kernel_rfl) (by kernel_rfl) (by kernel_rfl) (by kernel_rfl) (fun _ _ _ h => h) hS (by rfl) (by intro w' hSw; obtain ⟨y1, y2⟩ := hSw; go_simp <;> with_reducible rfl) ?_
          simp only [Act.put, List.setIfInBounds_toArray, List.set_cons_zero, List.set_cons_succ]
          refine wpAnyL_take (i := 3) 73 (v := .slice lo ln lc) rfl rfl (by kernel_rfl) (by kernel_rfl) (by kernel_rfl) (by kernel_rfl) (by kernel_rfl) (by kernel_rfl) (fun _ _ _ h => h) hS (by rfl) (by intro w' hSw; obtain ⟨y1, y2⟩ := hSw; go_simp <;> with_reducible rfl) ?_
          simp only [Act.put, List.setIfInBounds_toArray, List.set_cons_zero, List.set_cons_succ]
          refine wpAnyL_one (i := 4) (by kernel_rfl) rfl (fun Ka hKa => ?_)
          go_simp
          refine (HCut.out _ (HP6.out.new HBdWf.out).bel).mono ?_
          rintro r w7 ⟨v7, rfl, ho, hb⟩
          obtain ⟨a7, c7, rfl⟩ := ho.shape
          have HA7 : Hid (PA2 n0 w7 rv6 (.slice a7 (cutT yL).length c7) (cutT yL)) := ⟨ho.low (HP6.out.new HBdWf.out).low, fun j hj e => by
            have h1 := (ho.tag e).1
            have h2 := (HP6.out.new HBdWf.out).lg.row.lt hj
            omega⟩
          have HP7 : Hid (PL w n0 (k + 1) w7 q rv6 ys (cutT yL) A6) := (HP6.out.new HBdWf.out).new hb
          have hS7 : (fun w' : World => w'.cell? ⟨ab, 1, none⟩ = some (.string (str ys)) ∧ w'.cell? ⟨ab, 2, none⟩ = some (.slice lo ln lc)) w7 := ⟨(hb.cell (p := ⟨ab, 1, none⟩) (lt_cellD HSWf.out.1)).trans HSWf.out.1, (hb.cell (p := ⟨ab, 2, none⟩) (lt_cellD HSWf.out.2)).trans HSWf.out.2⟩
          have HS7 : Hid _ := hS7
          refine hKa.out _ _ (fun _ => hS7) ?_
          clear hKa Ka ho hb hS
          try simp only [Act.put, List.setIfInBounds_toArray, List.set_cons_zero, List.set_cons_succ]
          refine wpAnyL_one (i := 5) (by kernel_rfl) rfl (fun Ka hKa => ?_)
          go_simp
          refine hKa.out _ _ (fun _ => hS7) ?_
          clear hKa Ka
          try simp only [Act.put, List.setIfInBounds_toArray, List.set_cons_zero, List.set_cons_succ]
          refine wpAnyL_one (i := 6) (by kernel_rfl) rfl (fun Ka hKa => ?_)
          go_simp
          refine hKa.out _ _ (fun _ => hS7) ?_
          clear hKa Ka hS7
          try simp only [Act.put, List.setIfInBounds_toArray, List.set_cons_zero, List.set_cons_succ]
          refine wpAnyL_done (by kernel_rfl) ?_ _
          go_wp2
          go_meet
          exact ⟨q, ys, _, _, _, rfl, rfl, rfl, rv6, _, A6, HP7.out, HA7.out⟩
        · by_cases h4 : yk = 4
          · subst h4
            go_wp2_with (go_at_call 12; refine (p_open HP1.out HA1.out (Nat.le_succ_of_le (Nat.le_of_lt HL2.out))).mono ?_; rintro r w8 ⟨q8, rv8, rfl, hP, hA⟩; have HP8 : Hid (PL w n0 k w8 q8 rv8 snap R A) := hP; have HA8 : Hid (PA2 n0 w8 rv8 (.slice oo R.length c) R) := hA; clear hP hA)
            go_meet
            exact ⟨q8, snap, _, _, _, rfl, rfl, rfl, rv8, R, A, HP8.out.more, HA8.out⟩
          · by_cases h5 : yk = 5
            · subst h5
              go_wp2_with (first
                | (go_at_call 16; refine (p_crash HP1.out HA1.out (Nat.le_succ_of_le (Nat.le_of_lt HL2.out)) _ _).mono ?_; rintro r w6 ⟨rfl, hX, hL, hA⟩; have HX6 : Hid (PX w n0 k w6 snap R A yf1 yf2) := hX; have HG6 : Hid (Lg w6 n0 q n0 snap rv R) := hL; have HA6 : Hid (PA2 n0 w6 rv (.slice oo R.length c) R) := hA; clear hX hL hA)
                | (go_at_call 17; refine (p_up HP1.out HX6.out HG6.out HA6.out).mono ?_; rintro r w7 ⟨rfl, hP, hA⟩; have HP7 : Hid (PL w n0 k w7 q rv snap R A) := hP; have HA7 : Hid (PA2 n0 w7 rv (.slice oo R.length c) R) := hA; clear hP hA)
                | (go_at_call 12; refine (p_open HP7.out HA7.out (Nat.le_succ_of_le (Nat.le_of_lt HL2.out))).mono ?_; rintro r w8 ⟨q8, rv8, rfl, hP, hA⟩; have HP8 : Hid (PL w n0 k w8 q8 rv8 snap R A) := hP; have HA8 : Hid (PA2 n0 w8 rv8 (.slice oo R.length c) R) := hA; clear hP hA))
              go_meet
              exact ⟨q8, snap, _, _, _, rfl, rfl, rfl, rv8, R, A, HP8.out.more, HA8.out⟩
            · have h3b : (yk == 3) = false := by simpa using h3
              have h4b : (yk == 4) = false := by simpa using h4
              have h5b : (yk == 5) = false := by simpa using h5
              have t1 : True := trivial
              go_wp2_with (first
                | (go_at_call 15; have _t := t1; clear t1; refine (HCut.out _ HP1.out.bel).mono ?_; rintro r w5 ⟨v5, rfl, ho, hb⟩; obtain ⟨a5, c5, rfl⟩ := ho.shape; have HO5 : Hid (TxO w5 0 (.slice a5 (cutT yL).length c5) (cutT yL)) := ho.low (Nat.zero_le _); have HP5 : Hid (PL w n0 k w5 q rv snap R A) := HP1.out.new hb; have HA5 : Hid (PA2 n0 w5 rv (.slice oo R.length c) R) := HA1.out.new hb; have HQ5 : Hid (w5.heap[ab]? = some (.cells #[.int .i64 yk, .string (str ys), .slice lo ln lc, .int .i64 yf0, .int .i64 yf1, .int .i64 yf2] 47 (0, 0))) := (hb.block ab (lt_blk HQ1.out)).trans HQ1.out; clear ho hb)
                | (go_at_call 18; refine (p_add HP5.out HA5.out (Nat.le_of_lt HL2.out) HO5.out).mono ?_; rintro r w6 ⟨rfl, rv6, A6, hP6, hT6, hp6, hF6⟩; have HP6 : Hid (PL w n0 (k + 1) w6 q rv6 snap (R ++ cutT yL) A6) := hP6; have HT6 : Hid (TxO w6 n0 (.slice oo R.length c) R) := hT6; have HK6 : Hid (∀ j, rv6.ownBlock = some j → (Value.slice oo R.length c).ownBlock ≠ some j) := hp6; have e6 : w6.heap[ab]? = _ := (hF6.block ab (lt_blk HQ5.out) (fun s => act_no HQ5.out HP5.out.lg s)).trans HQ5.out; have e2 : w6.cell? ⟨ab, 2, none⟩ = some (.slice lo ln lc) := cell_blk (i := 2) e6; clear e6 hP6 hT6 hp6 hF6)
                | (go_at_call 15; refine (HCut.out _ HP6.out.bel).mono ?_; rintro r w7 ⟨v7, rfl, ho, hb⟩; obtain ⟨a7, c7, rfl⟩ := ho.shape; have HO7 : Hid (TxO w7 w6.heap.size (.slice a7 (cutT yL).length c7) (cutT yL)) := ho; have HP7 : Hid (PL w n0 (k + 1) w7 q rv6 snap (R ++ cutT yL) A6) := HP6.out.new hb; have HT7 : Hid (TxO w7 n0 (.slice oo R.length c) R) := HT6.out.new hb; clear ho hb)
                | (at_builtin; refine wpl_appT rfl rfl rfl rfl HT7.out HO7.out.toS HR9.out HP7.out.low ?_; intro v8 w8 o8 f8 b8; have HX8 : Hid (PL w n0 (k + 1) w8 q rv6 snap (R ++ cutT yL) A6 ∧ PA2 n0 w8 rv6 v8 (R ++ cutT yL)) := p_app HP7.out HT7.out HK6.out o8 f8 b8; obtain ⟨a8, c8, rfl⟩ := o8.shape; clear o8 f8 b8))
              go_meet
              exact ⟨q, snap, _, _, _, rfl, rfl, rfl, rv6, _, A6, HX8.out.1, by simpa using HX8.out.2⟩
      case rest =>
        obtain ⟨q9, sn9, o9, m9, c9, rfl, rfl, rfl, rv9, R9, A9, hP9, hA9⟩ := hcut
        have HP9 : Hid (PL w n0 (k + 1) wc q9 rv9 sn9 R9 A9) := hP9
        have HA9 : Hid (PA2 n0 wc rv9 (.slice o9 m9 c9) R9) := hA9
        have hm9 : m9 = R9.length := by
          obtain ⟨_, _, e⟩ := hA9.all.shape
          cases e
          rfl
        have HN9 : Hid (R9.length ≤ 1000000) := by
          have h1 := hP9.len
          have h2 := HL2.out
          show _ ≤ _
          omega
        subst hm9
        clear hP9 hA9 HP1 HA1 HQ1 HCut HSn HR9 d0 d1 d2 d4 d5
        have heq := str_neW sn9
        go_wp2_with (first
          | (go_at_call 19; refine (snap_any HP9.out.lg).mono ?_; rintro r w12 ⟨rfl, hw⟩; rw [hw]; clear hw)
          | (go_at_call 20; refine (len_any HP9.out.lg).mono ?_; rintro r w12 ⟨rfl, hw⟩; rw [hw]; clear hw)
          | (go_at_call 22; refine (all_any HP9.out.lg HN9.out).mono ?_; rintro r w13 ⟨v13, rfl, ho, hb⟩; obtain ⟨a13, c13, rfl⟩ := ho.shape; have HO13 : Hid (TxO w13 wc.heap.size (.slice a13 R9.length c13) R9) := ho; have HP13 : Hid (PL w n0 (k + 1) w13 q9 rv9 sn9 R9 A9) := HP9.out.new hb; have HA13 : Hid (PA2 n0 w13 rv9 (.slice o9 R9.length c9) R9) := HA9.out.new hb; clear ho hb)
          | (go_at_call 21; refine (same_any HO13.out.toS HA13.out.all.toS HN9.out).mono ?_; rintro r w14 ⟨rfl, hb⟩; have HP14 : Hid (PL w n0 (k + 1) w14 q9 rv9 sn9 R9 A9) := HP13.out.new hb; have HA14 : Hid (PA2 n0 w14 rv9 (.slice o9 R9.length c9) R9) := HA13.out.new hb; clear hb))
        go_roundw
        case rel => exact ⟨k + 1, q9, sn9, _, _, _, by go_num, HL1.out, HL2.out, rfl, rfl, rfl, ⟨rv9, R9, A9, HP14.out, HA14.out⟩⟩
        case measure => have := HL1.out; simp [intOf]; omega
    · obtain ⟨rv, R, A, hP, hA⟩ := HX.out
      have HBe : Hid (Below n0 w wr) := hP.bel
      clear hP hA
      by_cases h1 : k < y0
      · have h2 : ¬ (k : Int) < 30 := by omega
        go_wp2
        go_ret
        exact ⟨rfl, HBe.out⟩
      · go_wp2
        go_ret
        exact ⟨rfl, HBe.out⟩
end Go.Proofs.Ytdapapnkmicklaa
