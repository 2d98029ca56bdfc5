/- What WalFalls returns: true. -/
import Derived.Test.YtdapapnkmicklaaLawWPlaysM
import Derived.Test.YtdapapnkmicklaaLawWPlaysM
import Derived.Deep.CutBlock
import Derived.Deep.DeepCutAuto
namespace Go.Proofs.Ytdapapnkmicklaa
open Go.RowKit Go.Maps
attribute [local go_sem] Oper.semAt_some
/-- What the law holds behind k acts: what was told, the list, the fall's box, the disk with power or without. -/
structure FI (w : World) (wb n0 fb q : Nat) (at_ fk ft : Int) (k : Nat) (wx : World) (snap : Bs) (av : Value) (R : List Bs) (A : Dk) (v : Value) : Prop where
  pf : PF k snap R A
  all : TxO wx n0 av R
  box : wx.heap[fb]? = some (.cells #[.int .i64 at_, .int .i64 fk, .int .i64 ft] 34 (0, 0))
  bel : Below wb w wx
  low : n0 ≤ wx.heap.size
  hn : wb ≤ n0
structure FA (n0 q : Nat) (wx : World) (snap : Bs) (av : Value) (R : List Bs) (A : Dk) (v : Value) (rv : Value) (L : Falls) : Prop where
  pq : PQ n0 wx q rv snap R A v L
  apart : ∀ j, rv.ownBlock = some j → av.ownBlock ≠ some j
theorem FI.new {w wx wy : World} {wb n0 fb q k : Nat} {at_ fk ft : Int} {snap : Bs} {av v : Value} {R : List Bs} {A : Dk} (h : FI w wb n0 fb q at_ fk ft k wx snap av R A v) (hb : Below wx.heap.size wx wy) : FI w wb n0 fb q at_ fk ft k wy snap av R A v :=
  ⟨h.pf, h.all.new hb, (hb.block fb (lt_blk h.box)).trans h.box, h.bel.trans (hb.mono (Nat.le_trans h.hn h.low)), Nat.le_trans h.low hb.size, h.hn⟩
theorem FI.frD {w wx wy : World} {wb n0 fb q k : Nat} {at_ fk ft : Int} {snap : Bs} {av v : Value} {R : List Bs} {A : Dk} (h : FI w wb n0 fb q at_ fk ft k wx snap av R A v) (f : FrD n0 wx wy) : FI w wb n0 fb q at_ fk ft k wy snap av R A v :=
  ⟨h.pf, h.all.frD f, blk_frD2 h.box f (by decide) (by decide), h.bel.trans ((FrD.below f h.low).mono h.hn), Nat.le_trans h.low f.size, h.hn⟩
theorem FI.base {w wx wy : World} {wb n0 fb q q' k : Nat} {at_ fk ft : Int} {snap snap' : Bs} {av v rv : Value} {R R' : List Bs} {A : Dk} (h : FI w wb n0 fb q at_ fk ft k wx snap av R A v) (hl : Lg wx n0 q' n0 snap' rv R') (f : Fr wx wy (fun k => (n0 ≤ k ∧ DkB wx k) ∨ k = q' ∨ rv.ownBlock = some k)) : wy.heap[fb]? = some (.cells #[.int .i64 at_, .int .i64 fk, .int .i64 ft] 34 (0, 0)) ∧ Below wb w wy ∧ n0 ≤ wy.heap.size := by
  refine ⟨(f.block fb (lt_blk h.box) (fun s => other_no h.box (by decide) (by decide) (by decide) (by decide) hl s)).trans h.box, h.bel.trans ((f.below h.low (fun j hj => ?_)).mono h.hn), Nat.le_trans h.low f.size⟩
  rcases hj with hj | hj | hj
  · exact hj.1
  · rw [hj]; exact hl.hq
  · exact (hl.row.tag hj).1
theorem fi_add {w wx wy : World} {wb n0 fb q k d : Nat} {at_ fk ft : Int} {snap : Bs} {av v rv rv' x : Value} {R S : List Bs} {A A' : Dk} {L : Falls} (h : FI w wb n0 fb q at_ fk ft k wx snap av R A v) (ha : FA n0 q wx snap av R A v rv L) (hm : TxO wx d x S) (hd : n0 ≤ d) (hr : ∀ j, rv.ownBlock = some j → j < d) (hQ : PQ n0 wy q rv' snap S A' v L) (hP : PF (k + 1) snap S A') (hr' : ∀ j, rv'.ownBlock = some j → rv.ownBlock = some j ∨ wx.heap.size ≤ j) (f : Fr wx wy (fun k => (n0 ≤ k ∧ DkB wx k) ∨ k = q ∨ rv.ownBlock = some k)) : FI w wb n0 fb q at_ fk ft (k + 1) wy snap x S A' v ∧ FA n0 q wy snap x S A' v rv' L := by
  obtain ⟨h1, h2, h3⟩ := h.base ha.pq.lg f
  have hx : TxO wy d x S := hm.kept f (fun j hj s => by
    obtain ⟨hjd, c', g', hb'⟩ := hm.tag hj
    rcases s with s | s | s
    · rcases s.2 with ⟨es, c'', hm'⟩ | ⟨c'', t, f', hm', ht⟩
      · rw [hb'] at hm'; cases hm'
      · rw [hb'] at hm'
        cases hm'
        rcases ht with ht | ht <;> exact absurd ht (by decide)
    · rw [s, ha.pq.lg.blk] at hb'
      cases hb'
    · have := hr j s
      omega)
  refine ⟨⟨hP, hx.low hd, h1, h2, h3, h.hn⟩, ⟨hQ, fun j hj e => ?_⟩⟩
  have h4 := (hm.tag e).1
  have h5 := hm.lt e
  rcases hr' j hj with h6 | h6
  · have := hr j h6
    omega
  · omega
/-- Texts put behind no text, in a row without room. -/
theorem stp_app0 {ops : Array Oper} {o : Oper} {a : Act} {w : World} {K : Act → World → Prop} {Q : Exit → Act → World → Prop} {E : Prop} (hgd : o.guard = none) (s x : Operand) (hop : o.op = .call { callee := .builtin .append, args := #[s, x], argTypes := #[45, 45] })
    {B e1 : Nat} {xv : Value} {S : List Bs} (hs : a.eval s = .slice (some ⟨e1, 0, none⟩) 0 0) (hx : a.eval x = xv) (hv : TxO w B (.slice (some ⟨e1, 0, none⟩) 0 0) []) (hS : TxS w xv S) (hl : ([] : List Bs).length + S.length ≤ 2000000000) (hB : B ≤ w.heap.size)
    (h : ∀ v' w', TxO w' B v' S → Below w.heap.size w w' → K (a.put o.dst v') w') : if Region.wanted o (yielded ops a.tmps) = true then Oper.wp Try.prog o a w K Q else E := by
  have hw : Region.wanted o (yielded ops a.tmps) = true := by simp [Region.wanted, hgd]
  rw [if_pos hw]
  obtain ⟨i, hi, hz, hsize, hby⟩ := infoS
  have ht := Try.underlying45
  obtain ⟨ao, c, rfl, hc, hcs⟩ := hS
  simp only [List.length_nil, Nat.zero_add] at hl
  have key : ∃ v' w', (Builtin.append_ #[45, 45] o.type #[.slice (some ⟨e1, 0, none⟩) 0 0, .slice ao S.length c]).run Try.prog w = .ok v' w' ∧ TxO w' B v' S ∧ Below w.heap.size w w' := by
    by_cases hm : 0 < S.length
    · obtain ⟨b, off, rfl, hcell⟩ := hcs hm
      obtain ⟨v', w', hr, h7, h8⟩ := run_append_arg_grows (P := Try.prog) w 45 o.type 9 i _ 1 16 ht hi hz hsize hby rfl (by decide) ⟨e1, 0, none⟩ 0 0 [] rfl (fun j u hu => by cases hu) ⟨b, off, none⟩ S.length c (txc S) (by rw [txc_len, Nat.mul_one]) (fun j u hu => by
        obtain ⟨hj, rfl⟩ := txc_get hu
        rw [Addr.add_lit]
        exact hcell j hj) (by omega) (by unfold maxLen; omega) (by omega)
      have hT := row_txo (R := []) (S := S) (by simpa [txc] using h7)
      rw [List.nil_append] at hT
      exact ⟨v', w', hr, hT.low hB, ⟨h8.os, h8.tape, h8.output, h8.size, fun k hk => h8.block k hk (by simp)⟩⟩
    · have e0 : S = [] := List.length_eq_zero_iff.1 (by omega)
      subst e0
      exact ⟨_, _, run_append_noneT w _ o.type _ i ht hi (some ⟨e1, 0, none⟩) ao 0 0 c (Nat.le_refl _), hv, Below.refl _ _⟩
  obtain ⟨v', w', hr, h2, h3⟩ := key
  unfold Oper.wp execOp
  simp only [hop, resolve, invoke, builtin, Sem.run_bind, Sem.run_pure, Result.andThen_ok, List.map_toArray, List.map_cons, List.map_nil, hs, hx, hr]
  exact h v' w' h2 h3
theorem pf_first : PF 0 [] [] wk1 := by
  have hc := cl0.anew (A := dk0) (M := 1000000) (F := frs [[]]) (Nat.le_trans frs0 (by decide))
  refine ⟨?_, hc.2, Nat.le_refl _, Nat.le_refl _, fun x hx => (by cases hx), by decide⟩
  have h5 := hc.1
  exact ⟨h5.loose, h5.dead, h5.sort, h5.fit.mono (by decide), h5.len, h5.n, h5.plan⟩
set_option maxRecDepth 100000 in
set_option maxHeartbeats 4000000 in
set_option linter.unusedSimpArgs false in
theorem falls_any {w : World} {ao : Option Addr} {cap : Nat} {Y : List ActW} (hY : 0 < Y.length → ∃ b off, ao = some ⟨b, off, none⟩ ∧ ActsW w b off Y) (fa fk ft : Int) (hfa : fa ≤ 9223372036854775807) : Calls Try.prog 5 #[.slice ao Y.length cap, .agg #[.int .i64 fa, .int .i64 fk, .int .i64 ft]] w fun r w' => r = .returned (.bool true) ∧ Below w.heap.size w w' := by
  have HY : Hid (0 < Y.length → ∃ b off, ao = some ⟨b, off, none⟩ ∧ ActsW w b off Y) := hY
  obtain ⟨y0, hy0⟩ : ∃ y0, Y.length = y0 := ⟨_, rfl⟩
  have HY0 : Hid (Y.length = y0) := hy0
  rw [hy0]
  clear hY hy0
  obtain ⟨wb, hwb⟩ : ∃ wb, w.heap.size = wb := ⟨_, rfl⟩
  have HWb : Hid (w.heap.size = wb) := hwb
  go_enter Try.func5, Try.ntmps5
  go_upto_region 1 with (fail)
  generalize hW : World.alloc _ _ = W
  have HB0 : Hid (Below wb w W) := by show Below _ _ _; rw [← hW, ← hwb]; exact one_newD _ _
  have HX0 : Hid (W.heap[wb]? = some (.cells #[.int .i64 fa, .int .i64 fk, .int .i64 ft] 34 (0, 0))) := by show _ = _; rw [← hW, ← hwb]; exact heap_alloc_new _ _
  clear hW hwb
  have hN := new_any W
  obtain ⟨n0, hn0⟩ : ∃ n0, W.heap.size = n0 := ⟨_, rfl⟩
  rw [hn0] at hN
  have HNw : Hid (wb < n0 ∧ W.heap.size = n0) := ⟨by rw [← hn0]; exact lt_blk HX0.out, hn0⟩
  have HO1 : Hid (∀ V, DkAt V n0 n0 dk0 → n0 ≤ V.heap.size → Calls Try.prog 12 #[.pointer (some ⟨n0, 0, none⟩)] V fun r w' => ∃ q, r = .returned (.tuple #[.pointer (some ⟨q, 0, none⟩), .int .i64 0, .int .i64 0]) ∧ V.heap.size ≤ q ∧ Lg w' n0 q n0 [] (.slice none 0 0) [] ∧ DkAt w' n0 n0 wk1 ∧ FrD n0 V w') := fun V h hB => open_first h hB
  clear hn0
  go_upto_region 5 with (first
    | (go_at_call 8; refine hN.mono ?_; rintro r w1 ⟨rfl, hD, hb1⟩; have HD1 : Hid (DkAt w1 n0 n0 dk0) := ⟨_, _, _, hD⟩; have HB1 : Hid (Below n0 W w1) := hb1; have HS1 : Hid (n0 ≤ w1.heap.size) := (by have h1 := hb1.size; have h2 := HNw.out.2; show _ ≤ _; omega); clear hD hb1)
    | (go_at_call 12; refine (HO1.out _ HD1.out HS1.out).mono ?_; rintro r w2 ⟨q, rfl, _, hL, hD, hF⟩; have HL2 : Hid (Lg w2 n0 q n0 [] (.slice none 0 0) []) := hL; have HD2 : Hid (DkAt w2 n0 n0 wk1) := hD; have HB2 : Hid (Below n0 W w2) := HB1.out.trans (FrD.below hF HS1.out); have HS2 : Hid (n0 ≤ w2.heap.size) := Nat.le_trans HS1.out hF.size; clear hD hL hF)
    | (go_at_call 13; refine (awake12 _).mono ?_; rintro r w3 ⟨rfl, hb⟩; have HL3 : Hid (Lg w3 n0 q n0 [] (.slice none 0 0) []) := HL2.out.new hb; have HD3 : Hid (DkAt w3 n0 n0 wk1) := HD2.out.new hb; have HB3 : Hid (Below n0 W w3) := HB2.out.trans (hb.mono HS2.out); have HS3 : Hid (n0 ≤ w3.heap.size) := Nat.le_trans HS2.out hb.size; clear hb))
  have HX3 : Hid (w3.heap[wb]? = some (.cells #[.int .i64 fa, .int .i64 fk, .int .i64 ft] 34 (0, 0))) := (HB3.out.block wb HNw.out.1).trans HX0.out
  obtain ⟨x0, x1, x2, f0, f1, f2⟩ := box3 HX3.out
  go_upto_if 38 with (fail)
  go_cut [38] (fun _ wx => wx.heap[wb]? = some (.cells #[.int .i64 (max fa 0), .int .i64 fk, .int .i64 ft] 34 (0, 0)) ∧ Lg wx n0 q n0 [] (.slice none 0 0) [] ∧ DkAt wx n0 n0 wk1 ∧ Below wb w wx ∧ n0 ≤ wx.heap.size)
  case first =>
    have HBw : Hid (Below wb w w3) := HB0.out.trans (HB3.out.mono (Nat.le_of_lt HNw.out.1))
    by_cases hlt : fa < 0
    · have hm : max fa 0 = 0 := by omega
      have HM : Hid (max fa 0 = 0) := hm
      have fs : Fr w3 (w3.setCell ⟨wb, 0, none⟩ (.int .i64 0)) (fun k => k = wb) := Fr.setCell (S := fun k => k = wb) w3 ⟨wb, 0, none⟩ _ rfl
      have HE : Hid ((w3.setCell ⟨wb, 0, none⟩ (.int .i64 0)).heap[wb]? = some (.cells #[.int .i64 0, .int .i64 fk, .int .i64 ft] 34 (0, 0))) := blk_set (i := 0) (.int .i64 0) HX3.out
      have HF : Hid (Fr w3 (w3.setCell ⟨wb, 0, none⟩ (.int .i64 0)) (fun k => k = wb)) := fs
      clear hm fs
      go_wp2
      go_meet
      rw [HM.out]
      have hwl : wb < w3.heap.size := lt_blk HX3.out
      refine ⟨HE.out, ⟨(HF.out.block q (lt_blk HL3.out.blk) (fun e => by have h1 := HL3.out.hq; have h2 := HNw.out.1; omega)).trans HL3.out.blk, HL3.out.row.kept HF.out (fun j hj => by cases hj), HL3.out.hq⟩, dk_keep HD3.out HF.out (fun k hk => by rw [hk]; exact ⟨_, _, _, HX3.out, by decide, by decide⟩), HBw.out.trans (HF.out.below (Nat.le_of_lt hwl) (fun k hk => by omega)), Nat.le_trans HS3.out HF.out.size⟩
    · have hm : max fa 0 = fa := by omega
      have HM : Hid (max fa 0 = fa) := hm
      clear hm
      go_wp2
      go_meet
      rw [HM.out]
      exact ⟨HX3.out, HL3.out, HD3.out, HBw.out, HS3.out⟩
  case rest =>
    obtain ⟨hX, hL, hD, hB, hS⟩ := hcut
    have hg0 : 0 ≤ max fa 0 := by omega
    have hg1 : max fa 0 ≤ 9223372036854775807 := by omega
    have HX4 : Hid (wc.heap[wb]? = some (.cells #[.int .i64 (max fa 0), .int .i64 fk, .int .i64 ft] 34 (0, 0))) := hX
    have HL4 : Hid (Lg wc n0 q n0 [] (.slice none 0 0) []) := hL
    have HD4 : Hid (DkAt wc n0 n0 wk1) := hD
    have HB4 : Hid (Below wb w wc) := hB
    have HS4 : Hid (n0 ≤ wc.heap.size) := hS
    clear hX hL hD hB hS x0 x1 x2 f0 f1 f2 HX3 HL3 HD3 HB3 HS3 HL2 HD2 HB2 HS2 HD1 HB1 HS1 HX0 HB0 HO1 hN hfa
    generalize max fa 0 = ga at hg0 hg1 HX4 ⊢
    go_upto_region 7 with (fail)
    have bd : Below wc.heap.size wc wc.drew := Below.drew (Below.refl _ _)
    obtain ⟨Wd, hWd⟩ : ∃ Wd, wc.drew = Wd := ⟨_, rfl⟩
    rw [hWd] at bd
    have HX5 : Hid (Wd.heap[wb]? = some (.cells #[.int .i64 ga, .int .i64 fk, .int .i64 ft] 34 (0, 0))) := (bd.block wb (lt_blk HX4.out)).trans HX4.out
    have HL5 : Hid (Lg Wd n0 q n0 [] (.slice none 0 0) []) := HL4.out.new bd
    have HD5 : Hid (DkAt Wd n0 n0 wk1) := HD4.out.new bd
    have HB5 : Hid (Below wb w Wd) := HB4.out.trans (bd.mono (Nat.le_trans (Nat.le_of_lt HNw.out.1) HS4.out))
    have HS5 : Hid (n0 ≤ Wd.heap.size) := Nat.le_trans HS4.out bd.size
    have hS : (fun w' : World => w'.cell? ⟨wb, 0, none⟩ = some (.int .i64 ga)) Wd := cell_blk (i := 0) HX5.out
    have hch : Calls Try.prog 23 #[.pointer (some ⟨n0, 0, none⟩)] Wd fun r w' => r = .returned (.int .i64 2) ∧ w' = Wd := changes_any HD5.out
    clear bd HX4 HL4 HD4 HB4 HS4
    refine wp_calmD ?_
    refine wp_region_L [7] (fun w' : World => w'.cell? ⟨wb, 0, none⟩ = some (.int .i64 ga)) (by kernel_rfl) ?_
    rw [hWd]
    clear hWd
    refine wpAnyL_take (i := 0) 40 (v := .pointer (some ⟨n0, 0, none⟩)) rfl rfl (by kernel_rfl) (by kernel_rfl) (by kernel_rfl) (by kernel_rfl) (by kernel_rfl) (by kernel_rfl) (fun _ _ _ h => h) hS (by rfl) (by intro w' hSw; have y0 : w'.cell? ⟨wb, 0, none⟩ = some (.int .i64 ga) := hSw; clear hSw; go_simp <;> with_reducible rfl) ?_
    simp only [Act.put, List.setIfInBounds_toArray, List.set_cons_zero, List.set_cons_succ]
    refine wpAnyL_take (i := 2) 42 (v := .pointer (some ⟨wb, 0, none⟩)) rfl rfl (by kernel_rfl) (by kernel_rfl) (by kernel_rfl) (by kernel_rfl) (by kernel_rfl) (by kernel_rfl) (fun _ _ _ h => h) hS (by rfl) (by intro w' hSw; have y0 : w'.cell? ⟨wb, 0, none⟩ = some (.int .i64 ga) := hSw; clear hSw; go_simp <;> with_reducible rfl) ?_
    simp only [Act.put, List.setIfInBounds_toArray, List.set_cons_zero, List.set_cons_succ]
    refine wpAnyL_take (i := 3) 43 (v := .int .i64 ga) rfl rfl (by kernel_rfl) (by kernel_rfl) (by kernel_rfl) (by kernel_rfl) (by kernel_rfl) (by kernel_rfl) (fun _ _ _ h => h) hS (by rfl) (by intro w' hSw; have y0 : w'.cell? ⟨wb, 0, none⟩ = some (.int .i64 ga) := hSw; clear hSw; go_simp <;> with_reducible rfl) ?_
    simp only [Act.put, List.setIfInBounds_toArray, List.set_cons_zero, List.set_cons_succ]
    refine wpAnyL_take (i := 4) 44 (v := .int .i64 (ga.tmod 40)) rfl rfl (by kernel_rfl) (by kernel_rfl) (by kernel_rfl) (by kernel_rfl) (by kernel_rfl) (by kernel_rfl) (fun _ _ _ h => h) hS (by rfl) (by intro w' hSw; have y0 : w'.cell? ⟨wb, 0, none⟩ = some (.int .i64 ga) := hSw; clear hSw; go_simp <;> with_reducible rfl) ?_
    simp only [Act.put, List.setIfInBounds_toArray, List.set_cons_zero, List.set_cons_succ]
    have ht0 : 0 ≤ ga.tmod 40 := Int.tmod_nonneg 40 hg0
    have ht1 : ga.tmod 40 < 40 := Int.tmod_lt_of_pos ga (by decide)
    generalize ga.tmod 40 = gm at ht0 ht1 ⊢
    have hwr : IntKind.i64.wrap (2 + gm) = 2 + gm := by rw [IntKind.wrap_i64]; omega
    refine wpAnyL_one (i := 1) (by kernel_rfl) rfl (fun Ka hKa => ?_)
    go_simp
    refine hch.mono ?_
    rintro r w5 ⟨rfl, hw⟩
    rw [hw]
    clear hw
    refine hKa.out _ _ (fun _ => hS) ?_
    clear hKa Ka hch
    try simp only [Act.put, List.setIfInBounds_toArray, List.set_cons_zero, List.set_cons_succ]
    refine wpAnyL_one (i := 5) (by kernel_rfl) rfl (fun Ka hKa => ?_)
    go_simp
    refine hKa.out _ _ (fun _ => hS) ?_
    clear hKa Ka
    try simp only [Act.put, List.setIfInBounds_toArray, List.set_cons_zero, List.set_cons_succ]
    refine wpAnyL_one (i := 6) (by kernel_rfl) rfl (fun Ka hKa => ?_)
    go_simp
    refine hKa.out _ _ (fun _ => hS) ?_
    clear hKa Ka
    try simp only [Act.put, List.setIfInBounds_toArray, List.set_cons_zero, List.set_cons_succ]
    have y0 : Wd.cell? ⟨wb, 0, none⟩ = some (.int .i64 ga) := hS
    have g0 : Wd.frozen? ⟨wb, 0, none⟩ = false := by have := HX5.out; simp [World.frozen?, this]
    refine wpAnyL_one (i := 7) (by kernel_rfl) rfl (fun Ka hKa => ?_)
    go_simp
    refine hKa.out _ _ (fun h => absurd h (Bool.eq_false_iff.1 (by kernel_rfl))) ?_
    clear hKa Ka hS y0 g0
    try simp only [Act.put, List.setIfInBounds_toArray, List.set_cons_zero, List.set_cons_succ]
    refine wpAnyL_done (by kernel_rfl) ?_ _
    have fs : Fr Wd (Wd.setCell ⟨wb, 0, none⟩ (.int .i64 (2 + gm))) (fun k => k = wb) := Fr.setCell (S := fun k => k = wb) Wd ⟨wb, 0, none⟩ _ rfl
    have hX6 := blk_set (i := 0) (.int .i64 (2 + gm)) HX5.out
    obtain ⟨W6, hW6⟩ : ∃ W6, Wd.setCell ⟨wb, 0, none⟩ (.int .i64 (2 + gm)) = W6 := ⟨_, rfl⟩
    rw [hW6] at fs hX6 ⊢
    have HX6 : Hid (W6.heap[wb]? = some (.cells #[.int .i64 (2 + gm), .int .i64 fk, .int .i64 ft] 34 (0, 0))) := hX6
    have HL6 : Hid (Lg W6 n0 q n0 [] (.slice none 0 0) []) := ⟨(fs.block q (lt_blk HL5.out.blk) (fun e => by have h1 := HL5.out.hq; have h2 := HNw.out.1; omega)).trans HL5.out.blk, HL5.out.row.kept fs (fun j hj => by cases hj), HL5.out.hq⟩
    have HD6 : Hid (DkAt W6 n0 n0 wk1) := dk_keep HD5.out fs (fun k hk => by rw [hk]; exact ⟨_, _, _, HX5.out, by decide, by decide⟩)
    have HB6 : Hid (Below wb w W6) := HB5.out.trans (fs.below (Nat.le_of_lt (lt_blk HX5.out)) (fun k hk => by omega))
    have HS6 : Hid (n0 ≤ W6.heap.size) := Nat.le_trans HS5.out fs.size
    clear hW6 fs hX6 HX5 HL5 HD5 HB5 HS5
    obtain ⟨x0, x1, x2, _, _, _⟩ := box3 HX6.out
    have HPl : Hid (∀ (V : World) (b : Nat), V.heap[b]? = some (.cells #[.int .i64 (2 + gm), .int .i64 fk, .int .i64 ft] 34 (0, 0)) → DkAt V n0 n0 wk1 → n0 ≤ V.heap.size → Calls Try.prog 24 #[.pointer (some ⟨n0, 0, none⟩), .slice (some ⟨b, 0, none⟩) 1 1] V fun r w' => r = .returned (.tuple #[]) ∧ ∃ v', DkAt w' n0 n0 (wk1.wp v') ∧ PlanIs w' v' [(2 + gm, fk, ft)] ∧ FrD n0 V w') := fun V b hb hD hB => by
      obtain ⟨z0, z1, z2, _, _, _⟩ := box3 hb
      exact plan_one (off := 0) z0 z1 z2 (by show ¬ (2 + gm < (2 : Int)); omega) hD hB
    go_upto_block 0 with (go_at_call 24; refine (HPl.out _ _ (heap_alloc_new _ _) (HD6.out.new (one_newD _ _)) (Nat.le_trans HS6.out (one_newD _ _).size)).mono ?_; rintro r w8 ⟨rfl, v8, hD, hp, hF⟩; have HF8 : Hid (FrD n0 W6 w8) := (FrD.new (one_newD _ _)).trans hF; have HD8 : Hid (DkAt w8 n0 n0 (wk1.wp v8)) := hD; have HP8 : Hid (PlanIs w8 v8 [(2 + gm, fk, ft)]) := hp; clear hD hp hF)
    clear x0 x1 x2 HPl
    have HFI8 : Hid (FI w wb n0 wb q (2 + gm) fk ft 0 w8 [] (.slice none 0 0) [] wk1 v8) := ⟨pf_first, TxO.nil _ _, blk_frD2 HX6.out HF8.out (by decide) (by decide), HB6.out.trans ((FrD.below HF8.out HS6.out).mono (Nat.le_of_lt HNw.out.1)), Nat.le_trans HS6.out HF8.out.size, Nat.le_of_lt HNw.out.1⟩
    have HL8 : Hid (Lg w8 n0 q n0 [] (.slice none 0 0) []) := HL6.out.frD HF8.out
    have hFI9 := (HFI8.out.new (one_newD w8 (.cells #[] 9))).new (one_newD (w8.alloc (.cells #[] 9)) (.cells #[] 9))
    have hT9 := ((tx_empty w8).low HFI8.out.low).new (one_newD (w8.alloc (.cells #[] 9)) (.cells #[] 9))
    have HFI9 : Hid (FI w wb n0 wb q (2 + gm) fk ft 0 ((w8.alloc (.cells #[] 9)).alloc (.cells #[] 9)) [] (.slice (some ⟨w8.heap.size, 0, none⟩) 0 0) [] wk1 v8) := { hFI9 with all := hT9 }
    have HFA9 : Hid (FA n0 q ((w8.alloc (.cells #[] 9)).alloc (.cells #[] 9)) [] (.slice (some ⟨w8.heap.size, 0, none⟩) 0 0) [] wk1 v8 (.slice none 0 0) [(2 + gm, fk, ft)]) := ⟨(⟨HL8.out, HD8.out, HP8.out⟩ : PQ n0 w8 q (.slice none 0 0) [] [] wk1 v8 [(2 + gm, fk, ft)]).new (one_newD _ _) |>.new (one_newD _ _), fun j hj => by cases hj⟩
    clear hFI9 hT9 HFI8 HL8 HD8 HP8 HF8 HX6 HL6 HD6 HB6 HS6
    generalize ((w8.alloc (.cells #[] 9)).alloc (.cells #[] 9)) = W9 at HFI9 HFA9 ⊢
    generalize w8.heap.size = a9 at HFI9 HFA9 ⊢
    go_cut [9, 10] (fun s9 s10 wx => ∃ (k : Nat) (snap : Bs) (oo : Option Addr) (m c : Nat) (R : List Bs) (A : Dk) (v : Value), s9 = .string (str snap) ∧ s10 = .slice oo m c ∧ k ≤ 31 ∧ FI w wb n0 wb q (2 + gm) fk ft k wx snap (.slice oo m c) R A v ∧ (DkAt wx n0 n0 (A.wp v) ∨ DkAt wx n0 n0 (A.off.wp v)))
    case first =>
      go_wp2
      go_loopw [9, 10, 11, 12, 13, 14] (fun s9 s10 _ _ i _ wr => ∃ (k : Nat) (snap : Bs) (oo : Option Addr) (m c : Nat), i = .int .i64 k ∧ k ≤ y0 ∧ k ≤ 30 ∧ s9 = .string (str snap) ∧ s10 = .slice oo m c ∧ Hid (∃ R A v, FI w wb n0 wb q (2 + gm) fk ft k wr snap (.slice oo m c) R A v ∧ ((∃ rv, FA n0 q wr snap (.slice oo m c) R A v rv [(2 + gm, fk, ft)]) ∨ DkAt wr n0 n0 (A.off.wp v)))) (fun _ _ _ _ i _ _ => y0 - (intOf i).toNat)
      case atStart => exact ⟨0, [], _, _, _, rfl, Nat.zero_le _, Nat.zero_le _, rfl, rfl, ⟨[], wk1, v8, HFI9.out, .inl ⟨_, HFA9.out⟩⟩⟩
      case round =>
        obtain ⟨k, snap, oo, m, c, rfl, hk, hk30, rfl, rfl, HX⟩ := hrel
        obtain ⟨R, A, v, hI, hst⟩ := HX.out
        have HIr : Hid (FI w wb n0 wb q (2 + gm) fk ft k wr snap (.slice oo m c) R A v) := hI
        have hk31 : k ≤ 31 := by omega
        clear HX hI
        rcases hst with ⟨rv, hA⟩ | hD
        · have HAr : Hid (FA n0 q wr snap (.slice oo m c) R A v rv [(2 + gm, fk, ft)]) := hA
          have HDe : Hid (Calls Try.prog 25 #[.pointer (some ⟨n0, 0, none⟩)] wr fun r w' => r = .returned (.bool false) ∧ w' = wr) := by
            obtain ⟨mn, ms, lv, h⟩ := hA.pq.dk
            have h2 := dead_any h
            have h3 : (A.wp v).dead = false := HIr.out.pf.cl.dead
            rw [h3] at h2
            exact h2
          clear hA
          by_cases hlt : k < y0 ∧ k < 30
          · obtain ⟨hl1, hl2⟩ := hlt
            have hm : m = R.length := by
              obtain ⟨_, _, e⟩ := HIr.out.all.shape
              cases e
              rfl
            subst hm
            have hkl : k < Y.length := by have := HY0.out; omega
            obtain ⟨b, off, rfl, hcs⟩ := HY.out (by omega)
            obtain ⟨⟨z0, z1, z2, z3, z4, z5⟩, hTx, hsn⟩ := hcs k hkl
            have kc : ∀ (oo : Nat) (uu : Value), w.cell? ⟨b, oo, none⟩ = some uu → wr.cell? ⟨b, oo, none⟩ = some uu := fun oo uu h => (HIr.out.bel.cell (p := ⟨b, oo, none⟩) (by have := lt_cellD h; have := HWb.out; show b < wb; omega)).trans h
            replace z0 := kc _ _ z0
            replace z1 := kc _ _ z1
            replace z2 := kc _ _ z2
            replace z3 := kc _ _ z3
            replace z4 := kc _ _ z4
            replace z5 := kc _ _ z5
            have HTx : Hid (∀ V, Below wb w V → TxS V (.slice Y[k].lo Y[k].ln Y[k].lc) Y[k].L) := fun V hV => hTx.new (by rw [HWb.out]; exact hV)
            have HSn : Hid (Y[k].s.length ≤ 140737488351232) := hsn
            have HL1 : Hid (k < y0) := hl1
            have HL2 : Hid (k < 30) := hl2
            clear hcs kc hTx hsn
            generalize Y[k] = y at z0 z1 z2 z3 z4 z5 HTx HSn
            clear hkl
            go_upto_region 15 with (go_at_call 25; refine HDe.out.mono ?_; rintro r w4 ⟨rfl, hw⟩; rw [hw]; clear hw)
            generalize hW : World.alloc _ _ = W
            have HQW : Hid (W.heap[wr.heap.size]? = some (.cells #[.int .i64 y.k, .string (str y.s), .slice y.lo y.ln y.lc, .int .i64 y.f0, .int .i64 y.f1, .int .i64 y.f2] 47 (0, 0))) := by
              show _ = _
              rw [← hW]
              exact heap_alloc_new _ _
            have hbW : Below wr.heap.size wr W := by rw [← hW]; exact one_newD _ _
            have HIW : Hid (FI w wb n0 wb q (2 + gm) fk ft k W snap (.slice oo R.length c) R A v) := HIr.out.new hbW
            have HAW : Hid (FA n0 q W snap (.slice oo R.length c) R A v rv [(2 + gm, fk, ft)]) := ⟨HAr.out.pq.new hbW, HAr.out.apart⟩
            have HCut : Hid (∀ V, Below wb w V → Calls Try.prog 15 #[.slice y.lo y.ln y.lc] V fun r w' => ∃ v', r = .returned v' ∧ TxO w' V.heap.size v' (cutT y.L) ∧ Below V.heap.size V w') := fun V hV => cut_any (HTx.out V hV)
            clear hW hbW HIr HAr HDe z0 z1 z2 z3 z4 z5 HTx HFI9 HFA9
            generalize wr.heap.size = ab at HQW ⊢
            obtain ⟨yk, ys, lo, ln, lc, yL, yf0, yf1, yf2⟩ := y
            simp only at HQW HCut HSn ⊢
            have d0 : W.cell? ⟨ab, 0, none⟩ = some (.int .i64 yk) := cell_blk (i := 0) HQW.out
            by_cases h3 : yk = 3
            · subst h3
              go_upto_region 16 with (fail)
              have bd : Below W.heap.size W W.drew := Below.drew (Below.refl _ _)
              obtain ⟨Wd, hWd⟩ : ∃ Wd, W.drew = Wd := ⟨_, rfl⟩
              rw [hWd] at bd
              have HBdWd : Hid (Below W.heap.size W Wd) := bd
              have HQWd : Hid (Wd.heap[ab]? = some (.cells #[.int .i64 3, .string (str ys), .slice lo ln lc, .int .i64 yf0, .int .i64 yf1, .int .i64 yf2] 47 (0, 0))) := (bd.block ab (lt_blk HQW.out)).trans HQW.out
              have hS : (fun w' : World => w'.cell? ⟨ab, 1, none⟩ = some (.string (str ys)) ∧ w'.cell? ⟨ab, 2, none⟩ = some (.slice lo ln lc)) Wd := ⟨cell_blk (i := 1) HQWd.out, cell_blk (i := 2) HQWd.out⟩
              have HIWd : Hid (FI w wb n0 wb q (2 + gm) fk ft k Wd snap (.slice oo R.length c) R A v) := HIW.out.new bd
              have HAWd : Hid (FA n0 q Wd snap (.slice oo R.length c) R A v rv [(2 + gm, fk, ft)]) := ⟨HAW.out.pq.new bd, HAW.out.apart⟩
              clear bd
              refine wp_calmD ?_
              refine wp_region_L [] (fun w' : World => w'.cell? ⟨ab, 1, none⟩ = some (.string (str ys)) ∧ w'.cell? ⟨ab, 2, none⟩ = some (.slice lo ln lc)) (by kernel_rfl) ?_
              rw [hWd]
              clear hWd
              refine wpAnyL_take (i := 0) 75 (v := .pointer (some ⟨ab, 1, none⟩)) rfl rfl (by kernel_rfl) (by kernel_rfl) (by kernel_rfl) (by kernel_rfl) (by kernel_rfl) (by kernel_rfl) (fun _ _ _ h => h) hS (by rfl) (by intro w' hSw; obtain ⟨y1, y2⟩ := hSw; go_simp <;> with_reducible rfl) ?_
              simp only [Act.put, List.setIfInBounds_toArray, List.set_cons_zero, List.set_cons_succ]
              refine wpAnyL_take (i := 1) 76 (v := .string (str ys)) rfl rfl (by kernel_rfl) (by kernel_rfl) (by kernel_rfl) (by kernel_rfl) (by kernel_rfl) (by kernel_rfl) (fun _ _ _ h => h) hS (by rfl) (by intro w' hSw; obtain ⟨y1, y2⟩ := hSw; go_simp <;> with_reducible rfl) ?_
              simp only [Act.put, List.setIfInBounds_toArray, List.set_cons_zero, List.set_cons_succ]
              refine wpAnyL_take (i := 2) 77 (v := .pointer (some ⟨ab, 2, none⟩)) rfl rfl (by kernel_rfl) (by kernel_rfl) (by kernel_rfl) (by kernel_rfl) (by kernel_rfl) (by kernel_rfl) (fun _ _ _ h => h) hS (by rfl) (by intro w' hSw; obtain ⟨y1, y2⟩ := hSw; go_simp <;> with_reducible rfl) ?_
              simp only [Act.put, List.setIfInBounds_toArray, List.set_cons_zero, List.set_cons_succ]
              refine wpAnyL_take (i := 3) 78 (v := .slice lo ln lc) rfl rfl (by kernel_rfl) (by kernel_rfl) (by kernel_rfl) (by kernel_rfl) (by kernel_rfl) (by kernel_rfl) (fun _ _ _ h => h) hS (by rfl) (by intro w' hSw; obtain ⟨y1, y2⟩ := hSw; go_simp <;> with_reducible rfl) ?_
              simp only [Act.put, List.setIfInBounds_toArray, List.set_cons_zero, List.set_cons_succ]
              refine wpAnyL_one (i := 4) (by kernel_rfl) rfl (fun Ka hKa => ?_)
              go_simp
              refine (HCut.out _ HIWd.out.bel).mono ?_
              rintro r w5 ⟨v5, rfl, ho, hb⟩
              obtain ⟨a5, c5, rfl⟩ := ho.shape
              have HO5 : Hid (TxO w5 Wd.heap.size (.slice a5 (cutT yL).length c5) (cutT yL)) := ho
              have HQw5 : Hid (w5.heap[ab]? = some (.cells #[.int .i64 3, .string (str ys), .slice lo ln lc, .int .i64 yf0, .int .i64 yf1, .int .i64 yf2] 47 (0, 0))) := (hb.block ab (lt_blk HQWd.out)).trans HQWd.out
              have HIw5 : Hid (FI w wb n0 wb q (2 + gm) fk ft k w5 snap (.slice oo R.length c) R A v) := HIWd.out.new hb
              have HAw5 : Hid (FA n0 q w5 snap (.slice oo R.length c) R A v rv [(2 + gm, fk, ft)]) := ⟨HAWd.out.pq.new hb, HAWd.out.apart⟩
              have hSw5 : (fun w' : World => w'.cell? ⟨ab, 1, none⟩ = some (.string (str ys)) ∧ w'.cell? ⟨ab, 2, none⟩ = some (.slice lo ln lc)) w5 := ⟨cell_blk (i := 1) HQw5.out, cell_blk (i := 2) HQw5.out⟩
              refine hKa.out _ _ (fun _ => hSw5) ?_
              clear hKa Ka ho hb hS
              try simp only [Act.put, List.setIfInBounds_toArray, List.set_cons_zero, List.set_cons_succ]
              refine wpAnyL_one (i := 5) (by kernel_rfl) rfl (fun Ka hKa => ?_)
              go_simp
              refine hKa.out _ _ (fun _ => hSw5) ?_
              clear hKa Ka
              try simp only [Act.put, List.setIfInBounds_toArray, List.set_cons_zero, List.set_cons_succ]
              refine wpAnyL_one (i := 6) (by kernel_rfl) rfl (fun Ka hKa => ?_)
              go_simp
              refine hKa.out _ _ (fun _ => hSw5) ?_
              clear hKa Ka hSw5
              try simp only [Act.put, List.setIfInBounds_toArray, List.set_cons_zero, List.set_cons_succ]
              refine wpAnyL_done (by kernel_rfl) ?_ _
              go_upto_region 17 with (fail)
              have bd : Below w5.heap.size w5 w5.drew := Below.drew (Below.refl _ _)
              obtain ⟨Wf, hWd⟩ : ∃ Wf, w5.drew = Wf := ⟨_, rfl⟩
              rw [hWd] at bd
              have HBdWf : Hid (Below w5.heap.size w5 Wf) := bd
              have HQWf : Hid (Wf.heap[ab]? = some (.cells #[.int .i64 3, .string (str ys), .slice lo ln lc, .int .i64 yf0, .int .i64 yf1, .int .i64 yf2] 47 (0, 0))) := (bd.block ab (lt_blk HQw5.out)).trans HQw5.out
              have hS : (fun w' : World => w'.cell? ⟨ab, 1, none⟩ = some (.string (str ys)) ∧ w'.cell? ⟨ab, 2, none⟩ = some (.slice lo ln lc)) Wf := ⟨cell_blk (i := 1) HQWf.out, cell_blk (i := 2) HQWf.out⟩
              have HIWf : Hid (FI w wb n0 wb q (2 + gm) fk ft k Wf snap (.slice oo R.length c) R A v) := HIw5.out.new bd
              have HAWf : Hid (FA n0 q Wf snap (.slice oo R.length c) R A v rv [(2 + gm, fk, ft)]) := ⟨HAw5.out.pq.new bd, HAw5.out.apart⟩
              clear bd
              refine wp_calmD ?_
              refine wp_region_L [6] (fun w' : World => w'.cell? ⟨ab, 1, none⟩ = some (.string (str ys)) ∧ w'.cell? ⟨ab, 2, none⟩ = some (.slice lo ln lc)) (by kernel_rfl) ?_
              rw [hWd]
              clear hWd
              refine wpAnyL_take (i := 0) 80 (v := .pointer (some ⟨q, 0, none⟩)) rfl rfl (by kernel_rfl) (by kernel_rfl) (by kernel_rfl) (by kernel_rfl) (by kernel_rfl) (by kernel_rfl) (fun _ _ _ h => h) hS (by rfl) (by intro w' hSw; obtain ⟨y1, y2⟩ := hSw; go_simp <;> with_reducible rfl) ?_
              simp only [Act.put, List.setIfInBounds_toArray, List.set_cons_zero, List.set_cons_succ]
              refine wpAnyL_take (i := 1) 81 (v := .pointer (some ⟨ab, 1, none⟩)) rfl rfl (by kernel_rfl) (by kernel_rfl) (by kernel_rfl) (by kernel_rfl) (by kernel_rfl) (by kernel_rfl) (fun _ _ _ h => h) hS (by rfl) (by intro w' hSw; obtain ⟨y1, y2⟩ := hSw; go_simp <;> with_reducible rfl) ?_
              simp only [Act.put, List.setIfInBounds_toArray, List.set_cons_zero, List.set_cons_succ]
              refine wpAnyL_take (i := 2) 82 (v := .string (str ys)) rfl rfl (by kernel_rfl) (by kernel_rfl) (by kernel_rfl) (by kernel_rfl) (by kernel_rfl) (by kernel_rfl) (fun _ _ _ h => h) hS (by rfl) (by intro w' hSw; obtain ⟨y1, y2⟩ := hSw; go_simp <;> with_reducible rfl) ?_
              simp only [Act.put, List.setIfInBounds_toArray, List.set_cons_zero, List.set_cons_succ]
              refine wpAnyL_take (i := 3) 83 (v := .pointer (some ⟨ab, 2, none⟩)) rfl rfl (by kernel_rfl) (by kernel_rfl) (by kernel_rfl) (by kernel_rfl) (by kernel_rfl) (by kernel_rfl) (fun _ _ _ h => h) hS (by rfl) (by intro w' hSw; obtain ⟨y1, y2⟩ := hSw; go_simp <;> with_reducible rfl) ?_
              simp only [Act.put, List.setIfInBounds_toArray, List.set_cons_zero, List.set_cons_succ]
              refine wpAnyL_take (i := 4) 84 (v := .slice lo ln lc) rfl rfl (by kernel_rfl) (by kernel_rfl) (by kernel_rfl) (by kernel_rfl) (by kernel_rfl) (by kernel_rfl) (fun _ _ _ h => h) hS (by rfl) (by intro w' hSw; obtain ⟨y1, y2⟩ := hSw; go_simp <;> with_reducible rfl) ?_
              simp only [Act.put, List.setIfInBounds_toArray, List.set_cons_zero, List.set_cons_succ]
              refine wpAnyL_one (i := 5) (by kernel_rfl) rfl (fun Ka hKa => ?_)
              go_simp
              refine (HCut.out _ HIWf.out.bel).mono ?_
              rintro r w6 ⟨v6, rfl, ho, hb⟩
              obtain ⟨a6, c6, rfl⟩ := ho.shape
              have HO6 : Hid (TxO w6 0 (.slice a6 (cutT yL).length c6) (cutT yL)) := ho.low (Nat.zero_le _)
              have HM6 : Hid (TxO w6 Wd.heap.size (.slice a5 (cutT yL).length c5) (cutT yL)) := (HO5.out.new HBdWf.out).new hb
              have HQw6 : Hid (w6.heap[ab]? = some (.cells #[.int .i64 3, .string (str ys), .slice lo ln lc, .int .i64 yf0, .int .i64 yf1, .int .i64 yf2] 47 (0, 0))) := (hb.block ab (lt_blk HQWf.out)).trans HQWf.out
              have HIw6 : Hid (FI w wb n0 wb q (2 + gm) fk ft k w6 snap (.slice oo R.length c) R A v) := HIWf.out.new hb
              have HAw6 : Hid (FA n0 q w6 snap (.slice oo R.length c) R A v rv [(2 + gm, fk, ft)]) := ⟨HAWf.out.pq.new hb, HAWf.out.apart⟩
              have hSw6 : (fun w' : World => w'.cell? ⟨ab, 1, none⟩ = some (.string (str ys)) ∧ w'.cell? ⟨ab, 2, none⟩ = some (.slice lo ln lc)) w6 := ⟨cell_blk (i := 1) HQw6.out, cell_blk (i := 2) HQw6.out⟩
              refine hKa.out _ _ (fun _ => hSw6) ?_
              clear hKa Ka ho hb hS hSw6
              try simp only [Act.put, List.setIfInBounds_toArray, List.set_cons_zero, List.set_cons_succ]
              have HDl : Hid (n0 ≤ Wd.heap.size) := HIWd.out.low
              by_cases hit : (2 + gm = (A.n : Int)) ∨ (2 + gm = ((A.n + 1 : Nat) : Int))
              · refine wpAnyL_one (i := 6) (by kernel_rfl) rfl (fun Ka hKa => ?_)
                go_simp
                refine (q_reset7 HAw6.out.pq HIw6.out.pf HIw6.out.low (Nat.le_of_lt HL2.out) HO6.out HSn.out hit).mono ?_
                rintro r w7 ⟨rfl, A7, ⟨v7, hD7, hF7⟩, hP7⟩
                have HD7 : Hid (DkAt w7 n0 n0 (A7.off.wp v7)) := hD7
                have HI7 : Hid (FI w wb n0 wb q (2 + gm) fk ft (k + 1) w7 snap (.slice oo R.length c) R A7 v7) := { HIw6.out.frD hF7 with pf := hP7 }
                refine hKa.out _ _ (fun h => absurd h (Bool.eq_false_iff.1 (by kernel_rfl))) ?_
                clear hKa Ka hD7 hF7 hP7 hit
                try simp only [Act.put, List.setIfInBounds_toArray, List.set_cons_zero, List.set_cons_succ]
                refine wpAnyL_one (i := 7) (by kernel_rfl) rfl (fun Ka hKa => ?_)
                go_simp
                refine hKa.out _ _ (fun h => absurd h (Bool.eq_false_iff.1 (by kernel_rfl))) ?_
                clear hKa Ka
                try simp only [Act.put, List.setIfInBounds_toArray, List.set_cons_zero, List.set_cons_succ]
                refine wpAnyL_done (by kernel_rfl) ?_ _
                go_wp2
                go_roundw
                case rel => exact ⟨k + 1, snap, _, _, _, by go_num, HL1.out, HL2.out, rfl, rfl, ⟨R, A7, v7, HI7.out, .inr HD7.out⟩⟩
                case measure => have := HL1.out; simp [intOf]; omega
              · have hf0 : Free [(2 + gm, fk, ft)] A.n := fun f hf => by
                  obtain rfl : (2 + gm, fk, ft) = f := by simpa using hf
                  exact fun e => hit (.inl e)
                have hf1 : Free [(2 + gm, fk, ft)] (A.n + 1) := fun f hf => by
                  obtain rfl : (2 + gm, fk, ft) = f := by simpa using hf
                  exact fun e => hit (.inr e)
                refine wpAnyL_one (i := 6) (by kernel_rfl) rfl (fun Ka hKa => ?_)
                go_simp
                refine (q_reset HAw6.out.pq HIw6.out.pf HIw6.out.low (Nat.le_of_lt HL2.out) HO6.out HSn.out hf0 hf1).mono ?_
                rintro r w7 ⟨rfl, rv7, A7, hQ7, hP7, hr7, hF7⟩
                have hF7' : Fr w6 w7 (fun k => (n0 ≤ k ∧ DkB w6 k) ∨ k = q ∨ rv.ownBlock = some k) := Fr.mono hF7 (fun j _ s => s.imp_right .inl)
                obtain ⟨hx7, hb7, hl7⟩ := HIw6.out.base HAw6.out.pq.lg hF7'
                have hM7 : TxO w7 Wd.heap.size (.slice a5 (cutT yL).length c5) (cutT yL) := HM6.out.kept hF7 (fun j hj s => by
                  obtain ⟨_, c', g', hb'⟩ := HM6.out.tag hj
                  rcases s with s | s
                  · rcases s.2 with ⟨es, c'', hm⟩ | ⟨c'', t, f', hm, ht⟩
                    · rw [hb'] at hm; cases hm
                    · rw [hb'] at hm
                      cases hm
                      rcases ht with ht | ht <;> exact absurd ht (by decide)
                  · rw [s, HAw6.out.pq.lg.blk] at hb'
                    cases hb')
                have HI7 : Hid (FI w wb n0 wb q (2 + gm) fk ft (k + 1) w7 ys (.slice a5 (cutT yL).length c5) (cutT yL) A7 v) := ⟨hP7, hM7.low HDl.out, hx7, hb7, hl7, HIw6.out.hn⟩
                have HA7 : Hid (FA n0 q w7 ys (.slice a5 (cutT yL).length c5) (cutT yL) A7 v rv7 [(2 + gm, fk, ft)]) := ⟨hQ7, fun j hj e => by
                  have h1 := hr7 j hj
                  have h2 := HM6.out.lt e
                  omega⟩
                refine hKa.out _ _ (fun h => absurd h (Bool.eq_false_iff.1 (by kernel_rfl))) ?_
                clear hKa Ka hQ7 hP7 hr7 hF7 hF7' hx7 hb7 hl7 hM7 hit hf0 hf1
                try simp only [Act.put, List.setIfInBounds_toArray, List.set_cons_zero, List.set_cons_succ]
                refine wpAnyL_one (i := 7) (by kernel_rfl) rfl (fun Ka hKa => ?_)
                go_simp
                refine hKa.out _ _ (fun h => absurd h (Bool.eq_false_iff.1 (by kernel_rfl))) ?_
                clear hKa Ka
                try simp only [Act.put, List.setIfInBounds_toArray, List.set_cons_zero, List.set_cons_succ]
                refine wpAnyL_done (by kernel_rfl) ?_ _
                go_wp2
                go_roundw
                case rel => exact ⟨k + 1, ys, _, _, _, by go_num, HL1.out, HL2.out, rfl, rfl, ⟨cutT yL, A7, v, HI7.out, .inl ⟨rv7, HA7.out⟩⟩⟩
                case measure => have := HL1.out; simp [intOf]; omega
            · have h3b : (yk == 3) = false := by simpa using h3
              go_upto_region 19 with (fail)
              have bd : Below W.heap.size W W.drew := Below.drew (Below.refl _ _)
              obtain ⟨Wd, hWd⟩ : ∃ Wd, W.drew = Wd := ⟨_, rfl⟩
              rw [hWd] at bd
              have HBdWd : Hid (Below W.heap.size W Wd) := bd
              have HQWd : Hid (Wd.heap[ab]? = some (.cells #[.int .i64 yk, .string (str ys), .slice lo ln lc, .int .i64 yf0, .int .i64 yf1, .int .i64 yf2] 47 (0, 0))) := (bd.block ab (lt_blk HQW.out)).trans HQW.out
              have hS : (fun w' : World => w'.cell? ⟨ab, 1, none⟩ = some (.string (str ys)) ∧ w'.cell? ⟨ab, 2, none⟩ = some (.slice lo ln lc)) Wd := ⟨cell_blk (i := 1) HQWd.out, cell_blk (i := 2) HQWd.out⟩
              have HIWd : Hid (FI w wb n0 wb q (2 + gm) fk ft k Wd snap (.slice oo R.length c) R A v) := HIW.out.new bd
              have HAWd : Hid (FA n0 q Wd snap (.slice oo R.length c) R A v rv [(2 + gm, fk, ft)]) := ⟨HAW.out.pq.new bd, HAW.out.apart⟩
              clear bd
              obtain ⟨nb, hnb⟩ : ∃ nb, Wd.heap.size = nb := ⟨_, rfl⟩
              have HNb : Hid (Wd.heap.size = nb) := hnb
              have HXWd : Hid (Below nb Wd Wd) := Below.refl _ _
              have HXsWd : Hid (nb ≤ Wd.heap.size) := (by show nb ≤ _; omega)
              clear hnb
              have HLn : Hid (([] : List Bs).length + R.length ≤ 2000000000) := by have h1 := HIWd.out.pf.len; have h2 := HL2.out; show _ ≤ _; simp; omega
              have HL9 : Hid (R.length + (cutT yL).length ≤ 2000000000) := by have h1 := HIWd.out.pf.len; have h2 := HL2.out; have h3 := cutT_len yL; show _ ≤ _; omega
              go_cut [11, 12] (fun s11 s12 wx => ∃ (a7 : Option Addr) (m7 c7 : Nat), s11 = .string (str snap) ∧ s12 = .slice a7 m7 c7 ∧ TxO wx nb (.slice a7 m7 c7) (R ++ cutT yL) ∧ Below nb Wd wx)
              case first =>
                refine wp_calmD ?_
                refine wp_region_L [] (fun w' : World => w'.cell? ⟨ab, 1, none⟩ = some (.string (str ys)) ∧ w'.cell? ⟨ab, 2, none⟩ = some (.slice lo ln lc)) (by kernel_rfl) ?_
                rw [hWd]
                clear hWd
                refine wpAnyL_take (i := 0) 90 (v := .string (str snap)) rfl rfl (by kernel_rfl) (by kernel_rfl) (by kernel_rfl) (by kernel_rfl) (by kernel_rfl) (by kernel_rfl) (fun _ _ _ h => h) hS (by rfl) (by intro w' hSw; obtain ⟨y1, y2⟩ := hSw; go_simp <;> with_reducible rfl) ?_
                simp only [Act.put, List.setIfInBounds_toArray, List.set_cons_zero, List.set_cons_succ]
                refine wpAnyL_take (i := 2) 92 (v := .slice oo R.length c) rfl rfl (by kernel_rfl) (by kernel_rfl) (by kernel_rfl) (by kernel_rfl) (by kernel_rfl) (by kernel_rfl) (fun _ _ _ h => h) hS (by rfl) (by intro w' hSw; obtain ⟨y1, y2⟩ := hSw; go_simp <;> with_reducible rfl) ?_
                simp only [Act.put, List.setIfInBounds_toArray, List.set_cons_zero, List.set_cons_succ]
                refine wpAnyL_take (i := 4) 94 (v := .pointer (some ⟨ab, 2, none⟩)) rfl rfl (by kernel_rfl) (by kernel_rfl) (by kernel_rfl) (by kernel_rfl) (by kernel_rfl) (by kernel_rfl) (fun _ _ _ h => h) hS (by rfl) (by intro w' hSw; obtain ⟨y1, y2⟩ := hSw; go_simp <;> with_reducible rfl) ?_
                simp only [Act.put, List.setIfInBounds_toArray, List.set_cons_zero, List.set_cons_succ]
                refine wpAnyL_take (i := 5) 95 (v := .slice lo ln lc) rfl rfl (by kernel_rfl) (by kernel_rfl) (by kernel_rfl) (by kernel_rfl) (by kernel_rfl) (by kernel_rfl) (fun _ _ _ h => h) hS (by rfl) (by intro w' hSw; obtain ⟨y1, y2⟩ := hSw; go_simp <;> with_reducible rfl) ?_
                simp only [Act.put, List.setIfInBounds_toArray, List.set_cons_zero, List.set_cons_succ]
                refine wpAnyL_one (i := 1) (by kernel_rfl) rfl (fun Ka hKa => ?_)
                go_simp
                have hb : Below Wd.heap.size Wd (Wd.alloc (.cells #[] 9)) := one_newD _ _
                have HEy1 : Hid (TxO (Wd.alloc (.cells #[] 9)) nb (.slice (some ⟨Wd.heap.size, 0, none⟩) 0 0) []) := (tx_empty Wd).low HXsWd.out
                have HXy1 : Hid (Below nb Wd (Wd.alloc (.cells #[] 9))) := HXWd.out.trans (hb.mono HXsWd.out)
                have HXsy1 : Hid (nb ≤ (Wd.alloc (.cells #[] 9)).heap.size) := Nat.le_trans HXsWd.out hb.size
                have HQy1 : Hid ((Wd.alloc (.cells #[] 9)).heap[ab]? = some (.cells #[.int .i64 yk, .string (str ys), .slice lo ln lc, .int .i64 yf0, .int .i64 yf1, .int .i64 yf2] 47 (0, 0))) := (hb.block ab (lt_blk HQWd.out)).trans HQWd.out
                have hSS : (fun w' : World => w'.cell? ⟨ab, 1, none⟩ = some (.string (str ys)) ∧ w'.cell? ⟨ab, 2, none⟩ = some (.slice lo ln lc)) (Wd.alloc (.cells #[] 9)) := ⟨cell_blk (i := 1) HQy1.out, cell_blk (i := 2) HQy1.out⟩
                refine hKa.out _ _ (fun _ => hSS) ?_
                clear hKa Ka hb hSS
                generalize Wd.heap.size = e1 at HEy1 ⊢
                generalize Wd.alloc (.cells #[] 9) = y1 at HEy1 HXy1 HXsy1 HQy1 ⊢
                try simp only [Act.put, List.setIfInBounds_toArray, List.set_cons_zero, List.set_cons_succ]
                refine wpAnyL_one (i := 3) (by kernel_rfl) rfl (fun Ka hKa => ?_)
                refine stp_app0 rfl _ _ rfl rfl rfl HEy1.out ((HIWd.out.all.new (HNb.out ▸ HXy1.out)).toS) HLn.out HXsy1.out ?_
                intro v3 y2 o3 hb
                have HTy2 : Hid (TxO y2 nb v3 R) := o3
                obtain ⟨a3, c3, rfl⟩ := o3.shape
                have HXy2 : Hid (Below nb Wd y2) := HXy1.out.trans (hb.mono HXsy1.out)
                have HXsy2 : Hid (nb ≤ y2.heap.size) := Nat.le_trans HXsy1.out hb.size
                have HQy2 : Hid (y2.heap[ab]? = some (.cells #[.int .i64 yk, .string (str ys), .slice lo ln lc, .int .i64 yf0, .int .i64 yf1, .int .i64 yf2] 47 (0, 0))) := (hb.block ab (lt_blk HQy1.out)).trans HQy1.out
                have HEy2 : Hid (TxO y2 nb (.slice (some ⟨e1, 0, none⟩) 0 0) []) := HEy1.out.new hb
                have hSS : (fun w' : World => w'.cell? ⟨ab, 1, none⟩ = some (.string (str ys)) ∧ w'.cell? ⟨ab, 2, none⟩ = some (.slice lo ln lc)) y2 := ⟨cell_blk (i := 1) HQy2.out, cell_blk (i := 2) HQy2.out⟩
                refine hKa.out _ _ (fun _ => hSS) ?_
                clear hKa Ka hb hSS o3
                try simp only [Act.put, List.setIfInBounds_toArray, List.set_cons_zero, List.set_cons_succ]
                refine wpAnyL_one (i := 6) (by kernel_rfl) rfl (fun Ka hKa => ?_)
                go_simp
                refine (HCut.out _ (HIWd.out.new (HNb.out ▸ HXy2.out)).bel).mono ?_
                rintro r y3 ⟨v6, rfl, ho, hb⟩
                obtain ⟨a6, c6, rfl⟩ := ho.shape
                have HCy3 : Hid (TxO y3 nb (.slice a6 (cutT yL).length c6) (cutT yL)) := ho.low HXsy2.out
                have HXy3 : Hid (Below nb Wd y3) := HXy2.out.trans (hb.mono HXsy2.out)
                have HXsy3 : Hid (nb ≤ y3.heap.size) := Nat.le_trans HXsy2.out hb.size
                have HQy3 : Hid (y3.heap[ab]? = some (.cells #[.int .i64 yk, .string (str ys), .slice lo ln lc, .int .i64 yf0, .int .i64 yf1, .int .i64 yf2] 47 (0, 0))) := (hb.block ab (lt_blk HQy2.out)).trans HQy2.out
                have HEy3 : Hid (TxO y3 nb (.slice (some ⟨e1, 0, none⟩) 0 0) []) := HEy2.out.new hb
                have HTy3 : Hid (TxO y3 nb (.slice a3 R.length c3) R) := HTy2.out.new hb
                have hSS : (fun w' : World => w'.cell? ⟨ab, 1, none⟩ = some (.string (str ys)) ∧ w'.cell? ⟨ab, 2, none⟩ = some (.slice lo ln lc)) y3 := ⟨cell_blk (i := 1) HQy3.out, cell_blk (i := 2) HQy3.out⟩
                refine hKa.out _ _ (fun _ => hSS) ?_
                clear hKa Ka hb hSS ho
                try simp only [Act.put, List.setIfInBounds_toArray, List.set_cons_zero, List.set_cons_succ]
                refine wpAnyL_one (i := 7) (by kernel_rfl) rfl (fun Ka hKa => ?_)
                refine stp_appT rfl _ _ rfl rfl rfl HTy3.out HCy3.out.toS HL9.out HXsy3.out ?_
                intro v7 w7 o7 f7 b7
                have HM7 : Hid (TxO w7 nb v7 (R ++ cutT yL)) := o7
                have HX7 : Hid (Below nb Wd w7) := HXy3.out.trans (HTy3.out.below HXsy3.out f7)
                obtain ⟨a7, c7, rfl⟩ := o7.shape
                have HQw7 : Hid (w7.heap[ab]? = some (.cells #[.int .i64 yk, .string (str ys), .slice lo ln lc, .int .i64 yf0, .int .i64 yf1, .int .i64 yf2] 47 (0, 0))) := (HX7.out.block ab (by have h1 := lt_blk HQWd.out; have h2 := HNb.out; omega)).trans HQWd.out
                have hSS : (fun w' : World => w'.cell? ⟨ab, 1, none⟩ = some (.string (str ys)) ∧ w'.cell? ⟨ab, 2, none⟩ = some (.slice lo ln lc)) w7 := ⟨cell_blk (i := 1) HQw7.out, cell_blk (i := 2) HQw7.out⟩
                refine hKa.out _ _ (fun _ => hSS) ?_
                clear hKa Ka o7 f7 b7
                try simp only [Act.put, List.setIfInBounds_toArray, List.set_cons_zero, List.set_cons_succ]
                refine wpAnyL_one (i := 8) (by kernel_rfl) rfl (fun Ka hKa => ?_)
                go_simp
                refine hKa.out _ _ (fun _ => hSS) ?_
                clear hKa Ka
                try simp only [Act.put, List.setIfInBounds_toArray, List.set_cons_zero, List.set_cons_succ]
                refine wpAnyL_one (i := 9) (by kernel_rfl) rfl (fun Ka hKa => ?_)
                go_simp
                refine hKa.out _ _ (fun _ => hSS) ?_
                clear hKa Ka hSS
                try simp only [Act.put, List.setIfInBounds_toArray, List.set_cons_zero, List.set_cons_succ]
                refine wpAnyL_done (by kernel_rfl) ?_ _
                go_wp2
                go_meet
                exact ⟨_, _, _, rfl, rfl, (by have h := HM7.out; rw [List.length_append] at h; exact h), HX7.out⟩
              case rest =>
                obtain ⟨a7, m7, c7, rfl, rfl, hM, hX0⟩ := hcut
                have hX : Below Wd.heap.size Wd wc := HNb.out ▸ hX0
                have hm7 : m7 = (R ++ cutT yL).length := by
                  obtain ⟨_, _, e⟩ := hM.shape
                  cases e
                  rfl
                have HM7 : Hid (TxO wc nb (.slice a7 m7 c7) (R ++ cutT yL)) := hM
                have HI7 : Hid (FI w wb n0 wb q (2 + gm) fk ft k wc snap (.slice oo R.length c) R A v) := HIWd.out.new hX
                have HA7 : Hid (FA n0 q wc snap (.slice oo R.length c) R A v rv [(2 + gm, fk, ft)]) := ⟨HAWd.out.pq.new hX, HAWd.out.apart⟩
                have HQ7 : Hid (wc.heap[ab]? = some (.cells #[.int .i64 yk, .string (str ys), .slice lo ln lc, .int .i64 yf0, .int .i64 yf1, .int .i64 yf2] 47 (0, 0))) := (hX.block ab (lt_blk HQWd.out)).trans HQWd.out
                have e2 : wc.cell? ⟨ab, 2, none⟩ = some (.slice lo ln lc) := cell_blk (i := 2) HQ7.out
                have HDl : Hid (n0 ≤ nb) := HNb.out ▸ HIWd.out.low
                have HRb : Hid (∀ j, rv.ownBlock = some j → j < nb) := fun j hj => HNb.out ▸ HAWd.out.pq.lg.row.lt hj
                clear hM hX hX0
                by_cases hit : 2 + gm = (A.n : Int)
                · have HIt : Hid (2 + gm = (A.n : Int)) := hit
                  clear hit hm7
                  go_wp2_with (first
                    | (go_at_call 15; refine (HCut.out _ HI7.out.bel).mono ?_; rintro r w8 ⟨v8, rfl, ho, hb⟩; obtain ⟨a8, c8, rfl⟩ := ho.shape; have HO8 : Hid (TxO w8 0 (.slice a8 (cutT yL).length c8) (cutT yL)) := ho.low (Nat.zero_le _); have HI8 : Hid (FI w wb n0 wb q (2 + gm) fk ft k w8 snap (.slice oo R.length c) R A v) := HI7.out.new hb; have HA8 : Hid (FA n0 q w8 snap (.slice oo R.length c) R A v rv [(2 + gm, fk, ft)]) := ⟨HA7.out.pq.new hb, HA7.out.apart⟩; clear ho hb)
                    | (go_at_call 18; refine (q_add7 HA8.out.pq HI8.out.pf HI8.out.low (Nat.le_of_lt HL2.out) HO8.out HIt.out).mono ?_; rintro r w9 ⟨rfl, A9, ⟨v9, hD9, hF9⟩, hP9⟩; have HD9 : Hid (DkAt w9 n0 n0 (A9.off.wp v9)) := hD9; have HI9 : Hid (FI w wb n0 wb q (2 + gm) fk ft (k + 1) w9 snap (.slice oo R.length c) R A9 v9) := { HI8.out.frD hF9 with pf := hP9 }; clear hD9 hF9 hP9))
                  go_roundw
                  case rel => exact ⟨k + 1, snap, _, _, _, by go_num, HL1.out, HL2.out, rfl, rfl, ⟨R, A9, v9, HI9.out, .inr HD9.out⟩⟩
                  case measure => have := HL1.out; simp [intOf]; omega
                · have hf0 : Free [(2 + gm, fk, ft)] A.n := fun f hf => by
                    obtain rfl : (2 + gm, fk, ft) = f := by simpa using hf
                    exact hit
                  go_wp2_with (first
                    | (go_at_call 15; refine (HCut.out _ HI7.out.bel).mono ?_; rintro r w8 ⟨v8, rfl, ho, hb⟩; obtain ⟨a8, c8, rfl⟩ := ho.shape; have HO8 : Hid (TxO w8 0 (.slice a8 (cutT yL).length c8) (cutT yL)) := ho.low (Nat.zero_le _); have HI8 : Hid (FI w wb n0 wb q (2 + gm) fk ft k w8 snap (.slice oo R.length c) R A v) := HI7.out.new hb; have HA8 : Hid (FA n0 q w8 snap (.slice oo R.length c) R A v rv [(2 + gm, fk, ft)]) := ⟨HA7.out.pq.new hb, HA7.out.apart⟩; have HM8 : Hid (TxO w8 nb (.slice a7 m7 c7) (R ++ cutT yL)) := HM7.out.new hb; clear ho hb)
                    | (go_at_call 18; refine (q_add HA8.out.pq HI8.out.pf HI8.out.low (Nat.le_of_lt HL2.out) HO8.out hf0).mono ?_; rintro r w9 ⟨rfl, rv9, A9, hQ9, hP9, hr9, hF9⟩; have HX9 : Hid (FI w wb n0 wb q (2 + gm) fk ft (k + 1) w9 snap (.slice a7 m7 c7) (R ++ cutT yL) A9 v ∧ FA n0 q w9 snap (.slice a7 m7 c7) (R ++ cutT yL) A9 v rv9 [(2 + gm, fk, ft)]) := fi_add HI8.out HA8.out HM8.out HDl.out HRb.out hQ9 hP9 hr9 hF9; clear hQ9 hP9 hr9 hF9))
                  go_roundw
                  case rel => exact ⟨k + 1, snap, _, _, _, by go_num, HL1.out, HL2.out, rfl, rfl, ⟨R ++ cutT yL, A9, v, (by have h := HX9.out.1; rw [hm7, List.length_append] at h; exact h), .inl ⟨rv9, (by have h := HX9.out.2; rw [hm7, List.length_append] at h; exact h)⟩⟩⟩
                  case measure => have := HL1.out; simp [intOf]; omega
          · by_cases h1 : k < y0
            · have h2 : ¬ (k : Int) < 30 := by omega
              go_wp2
              go_meet
              case rel => exact ⟨k, snap, oo, m, c, R, A, v, rfl, rfl, hk31, HIr.out, .inl HAr.out.pq.dk⟩
            · go_wp2
              go_meet
              case rel => exact ⟨k, snap, oo, m, c, R, A, v, rfl, rfl, hk31, HIr.out, .inl HAr.out.pq.dk⟩
        · have HDd : Hid (DkAt wr n0 n0 (A.off.wp v)) := hD
          have HDe : Hid (Calls Try.prog 25 #[.pointer (some ⟨n0, 0, none⟩)] wr fun r w' => r = .returned (.bool true) ∧ w' = wr) := by
            obtain ⟨mn, ms, lv, h⟩ := hD
            exact dead_any h
          clear hD
          by_cases h1 : k < y0
          · by_cases h2 : k < 30
            · have h2' : (k : Int) < 30 := by omega
              go_wp2_with (go_at_call 25; refine HDe.out.mono ?_; rintro r w4 ⟨rfl, hw⟩; rw [hw]; clear hw)
              go_meet
              case rel => exact ⟨k, snap, oo, m, c, R, A, v, rfl, rfl, hk31, HIr.out, .inr HDd.out⟩
            · have h2' : ¬ (k : Int) < 30 := by omega
              go_wp2
              go_meet
              case rel => exact ⟨k, snap, oo, m, c, R, A, v, rfl, rfl, hk31, HIr.out, .inr HDd.out⟩
          · go_wp2
            go_meet
            case rel => exact ⟨k, snap, oo, m, c, R, A, v, rfl, rfl, hk31, HIr.out, .inr HDd.out⟩
    case rest =>
      obtain ⟨k, snap, oo, m, c, R, A, v, rfl, rfl, hk, hI, hd⟩ := hcut
      have HI : Hid (FI w wb n0 wb q (2 + gm) fk ft k wc snap (.slice oo m c) R A v) := hI
      have HDd : Hid (DkAt wc n0 n0 (A.wp v) ∨ DkAt wc n0 n0 (A.off.wp v)) := hd
      have HK : Hid (k ≤ 31) := hk
      have hm : m = R.length := by
        obtain ⟨_, _, e⟩ := hI.all.shape
        cases e
        rfl
      have HN : Hid (R.length ≤ 1000000) := by have h1 := hI.pf.len; show _ ≤ _; omega
      subst hm
      obtain ⟨x0, x1, x2, _, _, _⟩ := box3 hI.box
      have heq := str_neW snap
      clear hI hd HFI9 HFA9
      go_wp2_with (first
        | (go_at_call 16; refine (f_crash HDd.out HI.out.pf HK.out HI.out.low _ _).mono ?_; rintro r w1 ⟨rfl, hD, hF⟩; have HD1 : Hid (DkAt w1 n0 n0 (A.off.wp v)) := hD; have HI1 : Hid (FI w wb n0 wb q (2 + gm) fk ft k w1 snap (.slice oo R.length c) R A v) := HI.out.frD hF; clear hD hF)
        | (go_at_call 17; refine (f_up HD1.out HI1.out.pf).mono ?_; rintro r w2 ⟨rfl, hD, hF⟩; have HD2 : Hid (DkAt w2 n0 n0 (A.wp v)) := hD; have HI2 : Hid (FI w wb n0 wb q (2 + gm) fk ft k w2 snap (.slice oo R.length c) R A v) := HI1.out.frD hF; clear hD hF)
        | (go_at_call 24; refine (f_plan HD2.out HI2.out.pf HI2.out.low).mono ?_; rintro r w3 ⟨rfl, hD, hF⟩; have HD3 : Hid (DkAt w3 n0 n0 A) := hD; have HI3 : Hid (FI w wb n0 wb q (2 + gm) fk ft k w3 snap (.slice oo R.length c) R A v) := HI2.out.frD hF; clear hD hF)
        | (go_at_call 12; refine (f_open HD3.out HI3.out.pf HK.out HI3.out.low).mono ?_; rintro r w4 ⟨q4, rv4, rfl, hL, hF⟩; have HL4 : Hid (Lg w4 n0 q4 n0 snap rv4 R) := hL; have HI4 : Hid (FI w wb n0 wb q (2 + gm) fk ft k w4 snap (.slice oo R.length c) R A v) := HI3.out.frD hF; clear hL hF)
        | (go_at_call 22; refine (all_any HL4.out HN.out).mono ?_; rintro r w5 ⟨v5, rfl, ho, hb⟩; obtain ⟨a5, c5, rfl⟩ := ho.shape; have HO5 : Hid (TxO w5 w4.heap.size (.slice a5 R.length c5) R) := ho; have HL5 : Hid (Lg w5 n0 q4 n0 snap rv4 R) := HL4.out.new hb; have HI5 : Hid (FI w wb n0 wb q (2 + gm) fk ft k w5 snap (.slice oo R.length c) R A v) := HI4.out.new hb; clear ho hb)
        | (go_at_call 19; refine (snap_any HL5.out).mono ?_; rintro r w6 ⟨rfl, hw⟩; rw [hw]; clear hw)
        | (go_at_call 21; refine (same_any HO5.out.toS HI5.out.all.toS HN.out).mono ?_; rintro r w7 ⟨rfl, hb⟩; have HI7 : Hid (FI w wb n0 wb q (2 + gm) fk ft k w7 snap (.slice oo R.length c) R A v) := HI5.out.new hb; clear hb))
      go_ret
      exact ⟨rfl, by rw [HWb.out]; exact HI7.out.bel⟩
end Go.Proofs.Ytdapapnkmicklaa
