/- Something done to both disks: appended, written, moved or removed. -/
import Derived.Test.YthpojidkmmflhaaRfDo
namespace Go.Proofs.Ythpojidkmmflhaa
open Go.RowKit Go.Maps
attribute [local go_sem] Oper.semAt_some
def zd5 : Array Value := #[.slice none 0 0, .slice none 0 0, .int .i64 0, .slice none 0 0, .bool false]
theorem box8 {w : World} {b : Nat} {x0 x1 x2 x3 x4 x5 x6 x7 : Value} {t : TypeId} (h : w.heap[b]? = some (.cells #[x0, x1, x2, x3, x4, x5, x6, x7] t (0, 0))) : w.cell? ⟨b, 0, none⟩ = some x0 ∧ w.cell? ⟨b, 1, none⟩ = some x1 ∧ w.cell? ⟨b, 2, none⟩ = some x2 ∧ w.cell? ⟨b, 3, none⟩ = some x3 ∧ w.cell? ⟨b, 4, none⟩ = some x4 ∧ w.cell? ⟨b, 5, none⟩ = some x5 ∧ w.cell? ⟨b, 6, none⟩ = some x6 ∧ w.cell? ⟨b, 7, none⟩ = some x7 := by
  simp [World.cell?, h]
theorem one_boxes {w W : World} (cm ca : Array Value) (hW : ((w.alloc (.cells cm 30)).alloc (.cells ca 37)).alloc (.cells #[.slice none 0 0, .slice none 0 0, .int .i64 0, .slice none 0 0, .bool false] 30) = W) : Below w.heap.size w W ∧ W.heap[w.heap.size]? = some (.cells cm 30 (0, 0)) ∧ W.heap[w.heap.size + 1]? = some (.cells ca 37 (0, 0)) ∧ W.heap[w.heap.size + 1 + 1]? = some (.cells zd5 30 (0, 0)) := by
  have s1 := World.size_alloc w (.cells cm 30)
  have s2 := World.size_alloc (w.alloc (.cells cm 30)) (.cells ca 37)
  have b1 := one_newD w (.cells cm 30)
  have b2 := one_newD (w.alloc (.cells cm 30)) (.cells ca 37)
  have b3 := one_newD ((w.alloc (.cells cm 30)).alloc (.cells ca 37)) (.cells #[.slice none 0 0, .slice none 0 0, .int .i64 0, .slice none 0 0, .bool false] 30)
  have h1 := heap_alloc_new w (.cells cm 30)
  have h2 := heap_alloc_new (w.alloc (.cells cm 30)) (.cells ca 37)
  have h3 := heap_alloc_new ((w.alloc (.cells cm 30)).alloc (.cells ca 37)) (.cells #[.slice none 0 0, .slice none 0 0, .int .i64 0, .slice none 0 0, .bool false] 30)
  have b23 := b2.trans (b3.mono b2.size)
  have k1 := (b23.block _ (lt_blk h1)).trans h1
  have k2 := (b3.block _ (lt_blk h2)).trans h2
  rw [s1] at k2
  rw [s2, s1] at h3
  rw [hW] at k1 k2 h3 b23
  exact ⟨b1.trans (b23.mono b1.size), k1, k2, h3⟩
theorem blk_frD {w w' : World} {B k : Nat} {cs : Array Value} {t : TypeId} (h : w.heap[k]? = some (.cells cs t (0, 0))) (f : FrD B w w') (h1 : t ≠ 60) (h2 : t ≠ 71) : w'.heap[k]? = some (.cells cs t (0, 0)) := by
  refine (Fr.block f k (lt_blk h) (fun s => ?_)).trans h
  rcases s.2 with ⟨es, c', hm⟩ | ⟨c', t', f', hm, ht⟩
  · rw [h] at hm; cases hm
  · rw [h] at hm
    cases hm
    rcases ht with ht | ht
    · exact h1 ht
    · exact h2 ht
theorem res_tct {fn : Func} {a p u : Tmp} {ty : TypeId} (h : fn.results = #[.tmp a, .cell p ty, .tmp u]) (tmps : Array Value) (w : World) (g : Nat) (t : TypeId) (cs : Array Value) (fr : Nat × Nat) (d : TypeDesc)
    (hp : tmps.getD p undef = .pointer (some ⟨g, 0, none⟩)) (hg : w.heap[g]? = some (.cells cs t fr))
    (hu : Try.prog.underlying ty = some d) (hd : (match d with | .struct _ | .array _ _ => true | _ => false) = true) (hi : (Try.prog.info? ty).map (·.size) = some cs.size) :
    (results fn tmps).run Try.prog w = .ok (.tuple #[tmps.getD a undef, .agg cs, tmps.getD u undef]) w := by
  have hp' : tmps[p]?.getD undef = .pointer (some ⟨g, 0, none⟩) := by simpa using hp
  simp [results, h, hp', asAddr, run_loadVar_row (P := Try.prog) w g t ty cs fr d hg hu (by cases d <;> first | rfl | exact hd) hi]
/-- Five stores into a box of the document's disk leave a disk alone. -/
theorem set5_below {W : World} {B p q : Nat} {A : Dk} {cs : Array Value} (hD : DkAt W B p A) (hq : W.heap[q]? = some (.cells cs 30 (0, 0))) (x0 x1 x2 x3 x4 : Value) : DkAt (((((W.setCell ⟨q, 0, none⟩ x0).setCell ⟨q, 1, none⟩ x1).setCell ⟨q, 2, none⟩ x2).setCell ⟨q, 3, none⟩ x3).setCell ⟨q, 4, none⟩ x4) B p A := by
  obtain ⟨mn, ms, lv, h⟩ := hD
  refine ⟨mn, ms, lv, h.kept (set5_fr W q x0 x1 x2 x3 x4) (fun k e => ?_)⟩
  subst e
  refine ⟨fun e => ?_, fun e => ?_, fun e => ?_, fun e => ?_⟩
  · rw [e, h.blk] at hq; cases hq
  · obtain ⟨es, c, hh⟩ := map_tag h.now e
    rw [hq] at hh; cases hh
  · obtain ⟨es, c, hh⟩ := map_tag h.sure e
    rw [hq] at hh; cases hh
  · obtain ⟨_, c, f, hh⟩ := row_tag h.row e
    rw [hq] at hh; cases hh
theorem one_keepN {w W : World} {B p q : Nat} {A : Dk} {cs : Array Value} {x0 x1 x2 x3 x4 : Value} (hD : DkAt W B p A) (hq : W.heap[q]? = some (.cells cs 30 (0, 0))) (hw : w.heap.size ≤ q) (hF : FrD B w W) : DkAt (((((W.setCell ⟨q, 0, none⟩ x0).setCell ⟨q, 1, none⟩ x1).setCell ⟨q, 2, none⟩ x2).setCell ⟨q, 3, none⟩ x3).setCell ⟨q, 4, none⟩ x4) B p A ∧ FrD B w (((((W.setCell ⟨q, 0, none⟩ x0).setCell ⟨q, 1, none⟩ x1).setCell ⟨q, 2, none⟩ x2).setCell ⟨q, 3, none⟩ x3).setCell ⟨q, 4, none⟩ x4) := by
  refine ⟨set5_below hD hq _ _ _ _ _, ?_⟩
  have f5 := set5_fr W q x0 x1 x2 x3 x4
  exact ⟨f5.os.trans hF.os, f5.tape.trans hF.tape, f5.output.trans hF.output, Nat.le_trans hF.size f5.size, fun k hk hn => (f5.block k (Nat.lt_of_lt_of_le hk hF.size) (by omega)).trans (hF.block k hk hn)⟩
theorem one_keepD {w W : World} {B p q : Nat} {A : Dk} {cs : Array Value} {x0 x1 x2 x3 x4 v : Value} {L : List Chg} (hD : DkAt W B p A) (hq : W.heap[q]? = some (.cells cs 30 (0, 0))) (hw : w.heap.size ≤ q) (hF : FrD B w W) (hM : ChAt W v L) : DkAt (((((W.setCell ⟨q, 0, none⟩ x0).setCell ⟨q, 1, none⟩ x1).setCell ⟨q, 2, none⟩ x2).setCell ⟨q, 3, none⟩ x3).setCell ⟨q, 4, none⟩ x4) B p A ∧ ChAt (((((W.setCell ⟨q, 0, none⟩ x0).setCell ⟨q, 1, none⟩ x1).setCell ⟨q, 2, none⟩ x2).setCell ⟨q, 3, none⟩ x3).setCell ⟨q, 4, none⟩ x4) v L ∧ FrD B w (((((W.setCell ⟨q, 0, none⟩ x0).setCell ⟨q, 1, none⟩ x1).setCell ⟨q, 2, none⟩ x2).setCell ⟨q, 3, none⟩ x3).setCell ⟨q, 4, none⟩ x4) := by
  obtain ⟨h1, h2⟩ := one_keepN (x0 := x0) (x1 := x1) (x2 := x2) (x3 := x3) (x4 := x4) hD hq hw hF
  refine ⟨h1, row_keep hM (set5_fr W q x0 x1 x2 x3 x4) (fun k hk e => ?_), h2⟩
  subst e
  obtain ⟨_, cc, ff, hh⟩ := row_tag hM hk
  rw [hq] at hh
  cases hh
section
variable {w : World} {B p : Nat} {A R : Dk} {mn ms : Option Nat} {dlv : Value} {nm tt ss : Bs} {sa la pa : Option Addr} {sm sc lm lc pn pc nk M M2 : Nat} {f0 f1 f2 : Int}
set_option linter.unusedSimpArgs false in
set_option linter.unusedVariables false in
set_option maxRecDepth 100000 in
set_option maxHeartbeats 8000000 in
theorem one_0ok (hD : DA w B p A mn ms dlv) (hB : B ≤ w.heap.size) (hd : A.dead = false) (hF : FlAt w (.slice sa sm sc) R.sure) (hC : ChAt w (.slice la lm lc) R.loose) (hok : ∀ c ∈ R.loose, c.okR) (hbR : BdA R M2) (hbA : BdA A M) (hlA : A.loose.length ≤ 1000000) (hnow : R.now = A.now) (hlR : R.loose.length ≤ 1000000) (hnk : nk ≤ 1000000) (hm : nm.length ≤ maxLen) (ht : tt.length ≤ maxLen) (hs : ss.length ≤ 4611686018427387903) (hn : nameB nm = true) : Calls Try.prog 8 #[.pointer (some ⟨p, 0, none⟩), .agg #[.slice sa sm sc, .slice la lm lc, .int .i64 nk, .slice none 0 0, .bool false], .agg #[.int .i64 0, .string (str nm), .string (str tt), .string (str ss), .int .i64 f0, .int .i64 f1, .int .i64 f2, .slice pa pn pc]] w fun r w' => ∃ la2 lm2 lc2, r = .returned (.tuple #[.pointer (some ⟨p, 0, none⟩), .agg #[.slice sa sm sc, .slice la2 lm2 lc2, .int .i64 ((nk : Int) + 1), .slice none 0 0, .bool false], .bool true]) ∧ DkAt w' B p (A.add ⟨0, nm, [], ss⟩) ∧ ChAt w' (.slice la2 lm2 lc2) (R.loose ++ [⟨0, nm, tt, ss⟩]) ∧ FrD B w w' := by
  have HRd : Hid (∀ V, Below w.heap.size w V → Calls Try.prog 28 #[.agg #[.slice sa sm sc, .slice la lm lc, .int .i64 nk, .slice none 0 0, .bool false], .string (str nm)] V fun r w' => r = .returned (.tuple #[.string (str (ofF nm R.now)), .bool (getF nm R.now).isSome]) ∧ Below V.heap.size V w') := fun V hV => rread_any (row_new hF hV) (row_new hC hV) hok hbR
  have HN1 : Hid (∀ V, Calls Try.prog 20 #[.string (str nm)] V fun r w' => r = .returned (.bool true) ∧ w' = V) := fun V => by rw [← hn]; exact refname_any (str nm) V hm
  have HDo : Hid (∀ V, Below w.heap.size w V → Calls Try.prog 29 #[.agg #[.slice sa sm sc, .slice la lm lc, .int .i64 nk, .slice none 0 0, .bool false], .agg #[.int .i64 0, .string (str nm), .string (str tt), .string (str ss)]] V fun r w' => ∃ v', r = .returned (.tuple #[.agg #[.slice sa sm sc, v', .int .i64 ((nk : Int) + 1), .slice none 0 0, .bool false], .int .i64 0]) ∧ ChAt w' v' (R.loose ++ [⟨0, nm, tt, ss⟩]) ∧ Below V.heap.size V w') := fun V hV => rdo_any (c := ⟨0, nm, tt, ss⟩) (row_new hC hV) hlR hnk
  have HCo : Hid (∀ V, Below w.heap.size w V → Calls Try.prog 11 #[.pointer (some ⟨p, 0, none⟩), .string (str nm), .string (str ss)] V fun r w' => r = .returned (.int .i64 0) ∧ DkAt w' B p (A.add ⟨0, nm, [], ss⟩) ∧ FrD B V w') := fun V hV => by
    have hDV := hD.new hV
    have hBV := Nat.le_trans hB hV.size
    exact append_ok hDV hBV hd hn (hbA.toBd _ hs hlA)
  generalize (getF nm R.now).isSome = thb at HRd
  generalize ofF nm R.now = oo at HRd
  clear hD hB hd hF hC hok hbR hbA hnow
  go_enter Try.func8, Try.ntmps8
  go_upto_region 1 with (fail)
  generalize hW : World.alloc _ _ = W
  obtain ⟨hb, k4, k5, k7⟩ := one_boxes (w := w) #[.slice sa sm sc, .slice la lm lc, .int .i64 nk, .slice none 0 0, .bool false] #[.int .i64 0, .string (str nm), .string (str tt), .string (str ss), .int .i64 f0, .int .i64 f1, .int .i64 f2, .slice pa pn pc] hW
  clear hW
  obtain ⟨q4, e4⟩ : ∃ q, w.heap.size = q := ⟨_, rfl⟩
  obtain ⟨q5, e5⟩ : ∃ q, w.heap.size + 1 = q := ⟨_, rfl⟩
  obtain ⟨q7, e7⟩ : ∃ q, w.heap.size + 1 + 1 = q := ⟨_, rfl⟩
  have HE : Hid (w.heap.size = q4 ∧ w.heap.size + 1 = q5 ∧ w.heap.size + 1 + 1 = q7) := ⟨e4, e5, e7⟩
  have HB0 : Hid (Below w.heap.size w W) := hb
  rw [e7] at k7
  rw [e5] at k5
  rw [e4] at k4
  rw [e7, e5, e4]
  clear e4 e5 e7 hb
  obtain ⟨c0, c1, c2, c3, c4⟩ := box5 k4
  obtain ⟨a0, a1, a2, a3, a4, a5, a6, a7⟩ := box8 k5
  have HK4 : Hid _ := k4
  have HK5 : Hid _ := k5
  have HK7 : Hid _ := k7
  clear k4 k5 k7
  have hRd := HRd.out W HB0.out
  go_upto_region 3 with (go_at_call 28; refine hRd.mono ?_; rintro r w1 ⟨rfl, hb1⟩; have HB1 : Hid (Below W.heap.size W w1) := hb1; clear hb1)
  have HBw : Hid (Below w.heap.size w w1) := HB0.out.trans (HB1.out.mono HB0.out.size)
  have HL4 : Hid (w1.heap[q4]? = some (.cells #[.slice sa sm sc, .slice la lm lc, .int .i64 nk, .slice none 0 0, .bool false] 30 (0, 0))) := (HB1.out.block _ (lt_blk HK4.out)).trans HK4.out
  have HL5 : Hid (w1.heap[q5]? = some (.cells #[.int .i64 0, .string (str nm), .string (str tt), .string (str ss), .int .i64 f0, .int .i64 f1, .int .i64 f2, .slice pa pn pc] 37 (0, 0))) := (HB1.out.block _ (lt_blk HK5.out)).trans HK5.out
  have HL7 : Hid (w1.heap[q7]? = some (.cells zd5 30 (0, 0))) := (HB1.out.block _ (lt_blk HK7.out)).trans HK7.out
  clear c0 c1 c2 c3 c4 a0 a1 a2 a3 a4 a5 a6 a7 hRd HRd HK4 HK5 HK7 HB1 HB0
  obtain ⟨c0, c1, c2, c3, c4⟩ := box5 HL4.out
  obtain ⟨a0, a1, a2, a3, a4, a5, a6, a7⟩ := box8 HL5.out
  have g0 := fro5 HL4.out 0
  have g1 := fro5 HL4.out 1
  have g2 := fro5 HL4.out 2
  have g3 := fro5 HL4.out 3
  have g4 := fro5 HL4.out 4
  have hN1 := HN1.out w1
  go_upto_region 13 with (first | (go_at_call 20; refine hN1.mono ?_; rintro r w1 ⟨rfl, rfl⟩))
  have hDo := HDo.out w1 HBw.out
  go_upto_region 14 with (go_at_call 29; refine hDo.mono ?_; rintro r w2 ⟨v2, rfl, m2, hb2⟩; obtain ⟨la2, lc2, rfl, _, _⟩ := ch_shape m2; have HM2 : Hid _ := m2; have HB2 : Hid (Below w1.heap.size w1 w2) := hb2; have l4 := (hb2.block _ (lt_blk HL4.out)).trans HL4.out; obtain ⟨c0, c1, c2, c3, c4⟩ := box5 l4; have g0 := fro5 l4 0; have g1 := fro5 l4 1; have g2 := fro5 l4 2; have g3 := fro5 l4 3; have g4 := fro5 l4 4; have HP4 : Hid _ := l4; clear m2 hb2 l4)
  obtain ⟨lm2, hlm2⟩ : ∃ lm2, R.loose.length + 1 = lm2 := ⟨_, rfl⟩
  generalize hV : World.setCell _ _ _ = V
  have HLM : Hid _ := hlm2
  rw [hlm2] at hV ⊢
  have HV4 : Hid (V.heap[q4]? = some (.cells #[.slice sa sm sc, .slice la2 lm2 lc2, .int .i64 ((nk : Int) + 1), .slice none 0 0, .bool false] 30 (0, 0))) := by show _ = _; rw [← hV]; exact set5 _ _ _ _ _ HP4.out
  have fs : Fr w2 V (fun k => k = q4) := by rw [← hV]; exact set5_fr _ q4 _ _ _ _ _
  have hE := HE.out
  have bw2 := HBw.out.trans (HB2.out.mono HBw.out.size)
  have HBV : Hid (Below w.heap.size w V) := bw2.trans (Fr.below fs bw2.size (fun k e => by omega))
  have HV5 : Hid (V.heap[q5]? = some (.cells #[.int .i64 0, .string (str nm), .string (str tt), .string (str ss), .int .i64 f0, .int .i64 f1, .int .i64 f2, .slice pa pn pc] 37 (0, 0))) := (fs.block q5 (Nat.lt_of_lt_of_le (lt_blk HL5.out) HB2.out.size) (by omega)).trans ((HB2.out.block _ (lt_blk HL5.out)).trans HL5.out)
  have HV7 : Hid (V.heap[q7]? = some (.cells zd5 30 (0, 0))) := (fs.block q7 (Nat.lt_of_lt_of_le (lt_blk HL7.out) HB2.out.size) (by omega)).trans ((HB2.out.block _ (lt_blk HL7.out)).trans HL7.out)
  have HMV : Hid (ChAt V (.slice la2 lm2 lc2) (R.loose ++ [⟨0, nm, tt, ss⟩])) := by
    have := HM2.out
    rw [show (R.loose ++ [(⟨0, nm, tt, ss⟩ : Chg)]).length = lm2 by rw [List.length_append, ← hlm2]; rfl] at this
    have t2 : ChAt w2 (.slice la2 lm2 lc2) (R.loose ++ [⟨0, nm, tt, ss⟩]) := by
      unfold ChAt
      rw [show (R.loose ++ [(⟨0, nm, tt, ss⟩ : Chg)]).length = lm2 by rw [List.length_append, ← hlm2]; rfl]
      exact this
    exact row_keep t2 fs (fun k hk e => by
      subst e
      obtain ⟨_, cc, ff, hh⟩ := row_tag this hk
      rw [HP4.out] at hh
      cases hh)
  clear hV fs hE bw2 c0 c1 c2 c3 c4 g0 g1 g2 g3 g4 a0 a1 a2 a3 a4 a5 a6 a7 hlm2 hDo hN1 HM2 HP4 HB2
  obtain ⟨a0, a1, a2, a3, a4, a5, a6, a7⟩ := box8 HV5.out
  have hCo := HCo.out V HBV.out
  go_upto_region 45 with (go_at_call 11; refine Calls.mono hCo ?_; rintro r w4 ⟨rfl, hD4, hF4⟩; have HD4 : Hid _ := hD4; have HF4 : Hid (FrD B V w4) := hF4; clear hD4 hF4)
  have b4 := blk_frD HV4.out HF4.out (by decide) (by decide)
  have b7 := blk_frD HV7.out HF4.out (by decide) (by decide)
  have HM4 : Hid (ChAt w4 (.slice la2 lm2 lc2) (R.loose ++ [⟨0, nm, tt, ss⟩])) := row_frD HMV.out HF4.out (by decide) (by decide)
  have HFw : Hid (FrD B w w4) := FrD.trans (FrD.new HBV.out) HF4.out
  clear hCo
  have bd : Below w4.heap.size w4 w4.drew := Below.drew (Below.refl _ _)
  obtain ⟨Wd, hWd⟩ : ∃ Wd, w4.drew = Wd := ⟨_, rfl⟩
  rw [hWd] at bd
  have d4 : Wd.heap[q4]? = some (.cells #[.slice sa sm sc, .slice la2 lm2 lc2, .int .i64 ((nk : Int) + 1), .slice none 0 0, .bool false] 30 (0, 0)) := (bd.block _ (lt_blk b4)).trans b4
  have d7 : Wd.heap[q7]? = some (.cells zd5 30 (0, 0)) := (bd.block _ (lt_blk b7)).trans b7
  have HD7 : Hid _ := d7
  have HDd : Hid _ := DkAt.new HD4.out bd
  have HFd : Hid _ := FrD.trans HFw.out (FrD.new bd)
  have HMd : Hid _ := row_new HM4.out bd
  have hS : (fun w' : World => w'.cell? ⟨q4, 0, none⟩ = some (.slice sa sm sc) ∧ w'.cell? ⟨q4, 1, none⟩ = some (.slice la2 lm2 lc2) ∧ w'.cell? ⟨q4, 2, none⟩ = some (.int .i64 ((nk : Int) + 1)) ∧ w'.cell? ⟨q4, 3, none⟩ = some (.slice none 0 0) ∧ w'.cell? ⟨q4, 4, none⟩ = some (.bool false)) Wd := box5 d4
  have HS : Hid _ := hS
  have z7 := box5 d7
  obtain ⟨x0, x1, x2, x3, x4⟩ := z7
  have y0 := fro5 d7 0
  have y1 := fro5 d7 1
  have y2 := fro5 d7 2
  have y3 := fro5 d7 3
  have y4 := fro5 d7 4
  have HNq : Hid (q4 ≠ q7 ∧ w.heap.size ≤ q7) := by have := HE.out; exact ⟨by omega, by omega⟩
  clear b4 b7 bd d4 d7
  refine wp_calmD ?_
  refine wp_region_L [] (fun w' : World => w'.cell? ⟨q4, 0, none⟩ = some (.slice sa sm sc) ∧ w'.cell? ⟨q4, 1, none⟩ = some (.slice la2 lm2 lc2) ∧ w'.cell? ⟨q4, 2, none⟩ = some (.int .i64 ((nk : Int) + 1)) ∧ w'.cell? ⟨q4, 3, none⟩ = some (.slice none 0 0) ∧ w'.cell? ⟨q4, 4, none⟩ = some (.bool false)) (by kernel_rfl) ?_
  rw [hWd]
  clear hWd
  refine wpAnyL_take (i := 0) 213 (v := .pointer (some ⟨p, 0, none⟩)) rfl rfl (by kernel_rfl) (by kernel_rfl) (by kernel_rfl) (by kernel_rfl) (by kernel_rfl) (by kernel_rfl) (fun _ _ _ h => h) hS (by rfl) (by intro w' hSw; obtain ⟨y0, y1, y2, y3, y4⟩ := hSw; go_simp <;> with_reducible rfl) ?_
  simp only [Act.put, List.setIfInBounds_toArray, List.set_cons_zero, List.set_cons_succ]
  refine wpAnyL_take (i := 1) 214 (v := .agg #[.slice sa sm sc, .slice la2 lm2 lc2, .int .i64 ((nk : Int) + 1), .slice none 0 0, .bool false]) rfl rfl (by kernel_rfl) (by kernel_rfl) (by kernel_rfl) (by kernel_rfl) (by kernel_rfl) (by kernel_rfl) (fun _ _ _ h => h) hS (by rfl) (by intro w' hSw; obtain ⟨y0, y1, y2, y3, y4⟩ := hSw; go_simp <;> with_reducible rfl) ?_
  simp only [Act.put, List.setIfInBounds_toArray, List.set_cons_zero, List.set_cons_succ]
  refine wpAnyL_take (i := 2) 215 (v := .int .i64 0) rfl rfl (by kernel_rfl) (by kernel_rfl) (by kernel_rfl) (by kernel_rfl) (by kernel_rfl) (by kernel_rfl) (fun _ _ _ h => h) hS (by rfl) (by intro w' hSw; obtain ⟨y0, y1, y2, y3, y4⟩ := hSw; go_simp <;> with_reducible rfl) ?_
  simp only [Act.put, List.setIfInBounds_toArray, List.set_cons_zero, List.set_cons_succ]
  refine wpAnyL_take (i := 3) 216 (v := .int .i64 0) rfl rfl (by kernel_rfl) (by kernel_rfl) (by kernel_rfl) (by kernel_rfl) (by kernel_rfl) (by kernel_rfl) (fun _ _ _ h => h) hS (by rfl) (by intro w' hSw; obtain ⟨y0, y1, y2, y3, y4⟩ := hSw; go_simp <;> with_reducible rfl) ?_
  simp only [Act.put, List.setIfInBounds_toArray, List.set_cons_zero, List.set_cons_succ]
  refine wpAnyL_take (i := 4) 217 (v := .bool true) rfl rfl (by kernel_rfl) (by kernel_rfl) (by kernel_rfl) (by kernel_rfl) (by kernel_rfl) (by kernel_rfl) (fun _ _ _ h => h) hS (by rfl) (by intro w' hSw; obtain ⟨y0, y1, y2, y3, y4⟩ := hSw; go_simp <;> with_reducible rfl) ?_
  simp only [Act.put, List.setIfInBounds_toArray, List.set_cons_zero, List.set_cons_succ]
  refine wpAnyL_one (i := 5) (by kernel_rfl) rfl (fun Ka hKa => ?_)
  go_simp
  refine hKa.out _ _ (fun _ => HS.out) ?_
  clear hKa Ka
  try simp only [Act.put, List.setIfInBounds_toArray, List.set_cons_zero, List.set_cons_succ]
  refine wpAnyL_one (i := 6) (by kernel_rfl) rfl (fun Kb hKb => ?_)
  go_simp
  have f5 := fun x0 x1 x2 x3 x4 => set5_fr Wd q7 x0 x1 x2 x3 x4
  refine hKb.out _ _ (fun _ => ⟨fr_cellD (f5 _ _ _ _ _) HNq.out.1 HS.out.1, fr_cellD (f5 _ _ _ _ _) HNq.out.1 HS.out.2.1, fr_cellD (f5 _ _ _ _ _) HNq.out.1 HS.out.2.2.1, fr_cellD (f5 _ _ _ _ _) HNq.out.1 HS.out.2.2.2.1, fr_cellD (f5 _ _ _ _ _) HNq.out.1 HS.out.2.2.2.2⟩) ?_
  clear hKb Kb f5 x0 x1 x2 x3 x4 y0 y1 y2 y3 y4 hS
  try simp only [Act.put, List.setIfInBounds_toArray, List.set_cons_zero, List.set_cons_succ]
  refine wpAnyL_one (i := 7) (by kernel_rfl) rfl (fun Kc hKc => ?_)
  go_simp
  refine hKc.out _ _ (fun _ => ?_) ?_
  · have f5 := fun x0 x1 x2 x3 x4 => set5_fr Wd q7 x0 x1 x2 x3 x4
    exact ⟨fr_cellD (f5 _ _ _ _ _) HNq.out.1 HS.out.1, fr_cellD (f5 _ _ _ _ _) HNq.out.1 HS.out.2.1, fr_cellD (f5 _ _ _ _ _) HNq.out.1 HS.out.2.2.1, fr_cellD (f5 _ _ _ _ _) HNq.out.1 HS.out.2.2.2.1, fr_cellD (f5 _ _ _ _ _) HNq.out.1 HS.out.2.2.2.2⟩
  clear hKc Kc
  refine wpAnyL_done (by kernel_rfl) ?_ _
  go_wp2_with (fail)
  refine bodyPost_ret (v := .tuple #[.pointer (some ⟨p, 0, none⟩), .agg #[.slice sa sm sc, .slice la2 lm2 lc2, .int .i64 ((nk : Int) + 1), .slice none 0 0, .bool false], .bool true]) (res_tct Try.results8 _ _ q7 30 _ (0, 0) _ rfl (set5 _ _ _ _ _ HD7.out) Try.underlying30 rfl size_rd) rfl ?_
  exact ⟨_, _, _, rfl, one_keepD HDd.out HD7.out HNq.out.2 HFd.out HMd.out⟩
set_option linter.unusedSimpArgs false in
set_option linter.unusedVariables false in
set_option maxRecDepth 100000 in
set_option maxHeartbeats 8000000 in
theorem one_0bad (hD : DA w B p A mn ms dlv) (hB : B ≤ w.heap.size) (hd : A.dead = false) (hF : FlAt w (.slice sa sm sc) R.sure) (hC : ChAt w (.slice la lm lc) R.loose) (hok : ∀ c ∈ R.loose, c.okR) (hbR : BdA R M2) (hbA : BdA A M) (hlA : A.loose.length ≤ 1000000) (hnow : R.now = A.now) (hlR : R.loose.length ≤ 1000000) (hnk : nk ≤ 1000000) (hm : nm.length ≤ maxLen) (ht : tt.length ≤ maxLen) (hs : ss.length ≤ 4611686018427387903) (hn : nameB nm = false) : Calls Try.prog 8 #[.pointer (some ⟨p, 0, none⟩), .agg #[.slice sa sm sc, .slice la lm lc, .int .i64 nk, .slice none 0 0, .bool false], .agg #[.int .i64 0, .string (str nm), .string (str tt), .string (str ss), .int .i64 f0, .int .i64 f1, .int .i64 f2, .slice pa pn pc]] w fun r w' => r = .returned (.tuple #[.pointer (some ⟨p, 0, none⟩), .agg #[.slice sa sm sc, .slice la lm lc, .int .i64 nk, .slice none 0 0, .bool false], .bool true]) ∧ DkAt w' B p A ∧ FrD B w w' := by
  have HRd : Hid (∀ V, Below w.heap.size w V → Calls Try.prog 28 #[.agg #[.slice sa sm sc, .slice la lm lc, .int .i64 nk, .slice none 0 0, .bool false], .string (str nm)] V fun r w' => r = .returned (.tuple #[.string (str (ofF nm R.now)), .bool (getF nm R.now).isSome]) ∧ Below V.heap.size V w') := fun V hV => rread_any (row_new hF hV) (row_new hC hV) hok hbR
  have HN1 : Hid (∀ V, Calls Try.prog 20 #[.string (str nm)] V fun r w' => r = .returned (.bool false) ∧ w' = V) := fun V => by rw [← hn]; exact refname_any (str nm) V hm
  have HCo : Hid (∀ V, Below w.heap.size w V → Calls Try.prog 11 #[.pointer (some ⟨p, 0, none⟩), .string (str nm), .string (str ss)] V fun r w' => r = .returned (.int .i64 110) ∧ Below V.heap.size V w') := fun V hV => by
    have hDV := hD.new hV
    have hBV := Nat.le_trans hB hV.size
    exact append_bad hDV hd hm hn
  have HDA : Hid (DkAt w B p A) := ⟨_, _, _, hD⟩
  generalize (getF nm R.now).isSome = thb at HRd
  generalize ofF nm R.now = oo at HRd
  clear hD hB hd hF hC hok hbR hbA hnow
  go_enter Try.func8, Try.ntmps8
  go_upto_region 1 with (fail)
  generalize hW : World.alloc _ _ = W
  obtain ⟨hb, k4, k5, k7⟩ := one_boxes (w := w) #[.slice sa sm sc, .slice la lm lc, .int .i64 nk, .slice none 0 0, .bool false] #[.int .i64 0, .string (str nm), .string (str tt), .string (str ss), .int .i64 f0, .int .i64 f1, .int .i64 f2, .slice pa pn pc] hW
  clear hW
  obtain ⟨q4, e4⟩ : ∃ q, w.heap.size = q := ⟨_, rfl⟩
  obtain ⟨q5, e5⟩ : ∃ q, w.heap.size + 1 = q := ⟨_, rfl⟩
  obtain ⟨q7, e7⟩ : ∃ q, w.heap.size + 1 + 1 = q := ⟨_, rfl⟩
  have HE : Hid (w.heap.size = q4 ∧ w.heap.size + 1 = q5 ∧ w.heap.size + 1 + 1 = q7) := ⟨e4, e5, e7⟩
  have HB0 : Hid (Below w.heap.size w W) := hb
  rw [e7] at k7
  rw [e5] at k5
  rw [e4] at k4
  rw [e7, e5, e4]
  clear e4 e5 e7 hb
  obtain ⟨c0, c1, c2, c3, c4⟩ := box5 k4
  obtain ⟨a0, a1, a2, a3, a4, a5, a6, a7⟩ := box8 k5
  have HK4 : Hid _ := k4
  have HK5 : Hid _ := k5
  have HK7 : Hid _ := k7
  clear k4 k5 k7
  have hRd := HRd.out W HB0.out
  go_upto_region 3 with (go_at_call 28; refine hRd.mono ?_; rintro r w1 ⟨rfl, hb1⟩; have HB1 : Hid (Below W.heap.size W w1) := hb1; clear hb1)
  have HBw : Hid (Below w.heap.size w w1) := HB0.out.trans (HB1.out.mono HB0.out.size)
  have HL4 : Hid (w1.heap[q4]? = some (.cells #[.slice sa sm sc, .slice la lm lc, .int .i64 nk, .slice none 0 0, .bool false] 30 (0, 0))) := (HB1.out.block _ (lt_blk HK4.out)).trans HK4.out
  have HL5 : Hid (w1.heap[q5]? = some (.cells #[.int .i64 0, .string (str nm), .string (str tt), .string (str ss), .int .i64 f0, .int .i64 f1, .int .i64 f2, .slice pa pn pc] 37 (0, 0))) := (HB1.out.block _ (lt_blk HK5.out)).trans HK5.out
  have HL7 : Hid (w1.heap[q7]? = some (.cells zd5 30 (0, 0))) := (HB1.out.block _ (lt_blk HK7.out)).trans HK7.out
  clear c0 c1 c2 c3 c4 a0 a1 a2 a3 a4 a5 a6 a7 hRd HRd HK4 HK5 HK7 HB1 HB0
  obtain ⟨c0, c1, c2, c3, c4⟩ := box5 HL4.out
  obtain ⟨a0, a1, a2, a3, a4, a5, a6, a7⟩ := box8 HL5.out
  have g0 := fro5 HL4.out 0
  have g1 := fro5 HL4.out 1
  have g2 := fro5 HL4.out 2
  have g3 := fro5 HL4.out 3
  have g4 := fro5 HL4.out 4
  have hN1 := HN1.out w1
  go_upto_region 14 with (first | (go_at_call 20; refine hN1.mono ?_; rintro r w1 ⟨rfl, rfl⟩))
  have hCo := HCo.out w1 HBw.out
  go_upto_region 45 with (go_at_call 11; refine Calls.mono hCo ?_; rintro r w4 ⟨rfl, hb4⟩; have HB4 : Hid (Below w1.heap.size w1 w4) := hb4; clear hb4)
  have b4 := (HB4.out.block _ (lt_blk HL4.out)).trans HL4.out
  have b7 := (HB4.out.block _ (lt_blk HL7.out)).trans HL7.out
  have bb := HBw.out.trans (HB4.out.mono HBw.out.size)
  have HD4 : Hid (DkAt w4 B p A) := HDA.out.new bb
  have HFw : Hid (FrD B w w4) := FrD.new bb
  clear bb
  clear hCo
  have bd : Below w4.heap.size w4 w4.drew := Below.drew (Below.refl _ _)
  obtain ⟨Wd, hWd⟩ : ∃ Wd, w4.drew = Wd := ⟨_, rfl⟩
  rw [hWd] at bd
  have d4 : Wd.heap[q4]? = some (.cells #[.slice sa sm sc, .slice la lm lc, .int .i64 nk, .slice none 0 0, .bool false] 30 (0, 0)) := (bd.block _ (lt_blk b4)).trans b4
  have d7 : Wd.heap[q7]? = some (.cells zd5 30 (0, 0)) := (bd.block _ (lt_blk b7)).trans b7
  have HD7 : Hid _ := d7
  have HDd : Hid _ := DkAt.new HD4.out bd
  have HFd : Hid _ := FrD.trans HFw.out (FrD.new bd)
  have hS : (fun w' : World => w'.cell? ⟨q4, 0, none⟩ = some (.slice sa sm sc) ∧ w'.cell? ⟨q4, 1, none⟩ = some (.slice la lm lc) ∧ w'.cell? ⟨q4, 2, none⟩ = some (.int .i64 nk) ∧ w'.cell? ⟨q4, 3, none⟩ = some (.slice none 0 0) ∧ w'.cell? ⟨q4, 4, none⟩ = some (.bool false)) Wd := box5 d4
  have HS : Hid _ := hS
  have z7 := box5 d7
  obtain ⟨x0, x1, x2, x3, x4⟩ := z7
  have y0 := fro5 d7 0
  have y1 := fro5 d7 1
  have y2 := fro5 d7 2
  have y3 := fro5 d7 3
  have y4 := fro5 d7 4
  have HNq : Hid (q4 ≠ q7 ∧ w.heap.size ≤ q7) := by have := HE.out; exact ⟨by omega, by omega⟩
  clear b4 b7 bd d4 d7
  refine wp_calmD ?_
  refine wp_region_L [] (fun w' : World => w'.cell? ⟨q4, 0, none⟩ = some (.slice sa sm sc) ∧ w'.cell? ⟨q4, 1, none⟩ = some (.slice la lm lc) ∧ w'.cell? ⟨q4, 2, none⟩ = some (.int .i64 nk) ∧ w'.cell? ⟨q4, 3, none⟩ = some (.slice none 0 0) ∧ w'.cell? ⟨q4, 4, none⟩ = some (.bool false)) (by kernel_rfl) ?_
  rw [hWd]
  clear hWd
  refine wpAnyL_take (i := 0) 213 (v := .pointer (some ⟨p, 0, none⟩)) rfl rfl (by kernel_rfl) (by kernel_rfl) (by kernel_rfl) (by kernel_rfl) (by kernel_rfl) (by kernel_rfl) (fun _ _ _ h => h) hS (by rfl) (by intro w' hSw; obtain ⟨y0, y1, y2, y3, y4⟩ := hSw; go_simp <;> with_reducible rfl) ?_
  simp only [Act.put, List.setIfInBounds_toArray, List.set_cons_zero, List.set_cons_succ]
  refine wpAnyL_take (i := 1) 214 (v := .agg #[.slice sa sm sc, .slice la lm lc, .int .i64 nk, .slice none 0 0, .bool false]) rfl rfl (by kernel_rfl) (by kernel_rfl) (by kernel_rfl) (by kernel_rfl) (by kernel_rfl) (by kernel_rfl) (fun _ _ _ h => h) hS (by rfl) (by intro w' hSw; obtain ⟨y0, y1, y2, y3, y4⟩ := hSw; go_simp <;> with_reducible rfl) ?_
  simp only [Act.put, List.setIfInBounds_toArray, List.set_cons_zero, List.set_cons_succ]
  refine wpAnyL_take (i := 2) 215 (v := .int .i64 110) rfl rfl (by kernel_rfl) (by kernel_rfl) (by kernel_rfl) (by kernel_rfl) (by kernel_rfl) (by kernel_rfl) (fun _ _ _ h => h) hS (by rfl) (by intro w' hSw; obtain ⟨y0, y1, y2, y3, y4⟩ := hSw; go_simp <;> with_reducible rfl) ?_
  simp only [Act.put, List.setIfInBounds_toArray, List.set_cons_zero, List.set_cons_succ]
  refine wpAnyL_take (i := 3) 216 (v := .int .i64 110) rfl rfl (by kernel_rfl) (by kernel_rfl) (by kernel_rfl) (by kernel_rfl) (by kernel_rfl) (by kernel_rfl) (fun _ _ _ h => h) hS (by rfl) (by intro w' hSw; obtain ⟨y0, y1, y2, y3, y4⟩ := hSw; go_simp <;> with_reducible rfl) ?_
  simp only [Act.put, List.setIfInBounds_toArray, List.set_cons_zero, List.set_cons_succ]
  refine wpAnyL_take (i := 4) 217 (v := .bool true) rfl rfl (by kernel_rfl) (by kernel_rfl) (by kernel_rfl) (by kernel_rfl) (by kernel_rfl) (by kernel_rfl) (fun _ _ _ h => h) hS (by rfl) (by intro w' hSw; obtain ⟨y0, y1, y2, y3, y4⟩ := hSw; go_simp <;> with_reducible rfl) ?_
  simp only [Act.put, List.setIfInBounds_toArray, List.set_cons_zero, List.set_cons_succ]
  refine wpAnyL_one (i := 5) (by kernel_rfl) rfl (fun Ka hKa => ?_)
  go_simp
  refine hKa.out _ _ (fun _ => HS.out) ?_
  clear hKa Ka
  try simp only [Act.put, List.setIfInBounds_toArray, List.set_cons_zero, List.set_cons_succ]
  refine wpAnyL_one (i := 6) (by kernel_rfl) rfl (fun Kb hKb => ?_)
  go_simp
  have f5 := fun x0 x1 x2 x3 x4 => set5_fr Wd q7 x0 x1 x2 x3 x4
  refine hKb.out _ _ (fun _ => ⟨fr_cellD (f5 _ _ _ _ _) HNq.out.1 HS.out.1, fr_cellD (f5 _ _ _ _ _) HNq.out.1 HS.out.2.1, fr_cellD (f5 _ _ _ _ _) HNq.out.1 HS.out.2.2.1, fr_cellD (f5 _ _ _ _ _) HNq.out.1 HS.out.2.2.2.1, fr_cellD (f5 _ _ _ _ _) HNq.out.1 HS.out.2.2.2.2⟩) ?_
  clear hKb Kb f5 x0 x1 x2 x3 x4 y0 y1 y2 y3 y4 hS
  try simp only [Act.put, List.setIfInBounds_toArray, List.set_cons_zero, List.set_cons_succ]
  refine wpAnyL_one (i := 7) (by kernel_rfl) rfl (fun Kc hKc => ?_)
  go_simp
  refine hKc.out _ _ (fun _ => ?_) ?_
  · have f5 := fun x0 x1 x2 x3 x4 => set5_fr Wd q7 x0 x1 x2 x3 x4
    exact ⟨fr_cellD (f5 _ _ _ _ _) HNq.out.1 HS.out.1, fr_cellD (f5 _ _ _ _ _) HNq.out.1 HS.out.2.1, fr_cellD (f5 _ _ _ _ _) HNq.out.1 HS.out.2.2.1, fr_cellD (f5 _ _ _ _ _) HNq.out.1 HS.out.2.2.2.1, fr_cellD (f5 _ _ _ _ _) HNq.out.1 HS.out.2.2.2.2⟩
  clear hKc Kc
  refine wpAnyL_done (by kernel_rfl) ?_ _
  go_wp2_with (fail)
  refine bodyPost_ret (v := .tuple #[.pointer (some ⟨p, 0, none⟩), .agg #[.slice sa sm sc, .slice la lm lc, .int .i64 nk, .slice none 0 0, .bool false], .bool true]) (res_tct Try.results8 _ _ q7 30 _ (0, 0) _ rfl (set5 _ _ _ _ _ HD7.out) Try.underlying30 rfl size_rd) rfl ?_
  exact ⟨rfl, one_keepN HDd.out HD7.out HNq.out.2 HFd.out⟩
set_option linter.unusedSimpArgs false in
set_option linter.unusedVariables false in
set_option maxRecDepth 100000 in
set_option maxHeartbeats 8000000 in
theorem one_1ok (hD : DA w B p A mn ms dlv) (hB : B ≤ w.heap.size) (hd : A.dead = false) (hF : FlAt w (.slice sa sm sc) R.sure) (hC : ChAt w (.slice la lm lc) R.loose) (hok : ∀ c ∈ R.loose, c.okR) (hbR : BdA R M2) (hbA : BdA A M) (hlA : A.loose.length ≤ 1000000) (hnow : R.now = A.now) (hlR : R.loose.length ≤ 1000000) (hnk : nk ≤ 1000000) (hm : nm.length ≤ maxLen) (ht : tt.length ≤ maxLen) (hs : ss.length ≤ 4611686018427387903) (hn : nameB nm = true) : Calls Try.prog 8 #[.pointer (some ⟨p, 0, none⟩), .agg #[.slice sa sm sc, .slice la lm lc, .int .i64 nk, .slice none 0 0, .bool false], .agg #[.int .i64 1, .string (str nm), .string (str tt), .string (str ss), .int .i64 f0, .int .i64 f1, .int .i64 f2, .slice pa pn pc]] w fun r w' => ∃ la2 lm2 lc2, r = .returned (.tuple #[.pointer (some ⟨p, 0, none⟩), .agg #[.slice sa sm sc, .slice la2 lm2 lc2, .int .i64 ((nk : Int) + 1), .slice none 0 0, .bool false], .bool true]) ∧ DkAt w' B p (A.add ⟨1, nm, [], ss⟩) ∧ ChAt w' (.slice la2 lm2 lc2) (R.loose ++ [⟨1, nm, tt, ss⟩]) ∧ FrD B w w' := by
  have HRd : Hid (∀ V, Below w.heap.size w V → Calls Try.prog 28 #[.agg #[.slice sa sm sc, .slice la lm lc, .int .i64 nk, .slice none 0 0, .bool false], .string (str nm)] V fun r w' => r = .returned (.tuple #[.string (str (ofF nm R.now)), .bool (getF nm R.now).isSome]) ∧ Below V.heap.size V w') := fun V hV => rread_any (row_new hF hV) (row_new hC hV) hok hbR
  have HN1 : Hid (∀ V, Calls Try.prog 20 #[.string (str nm)] V fun r w' => r = .returned (.bool true) ∧ w' = V) := fun V => by rw [← hn]; exact refname_any (str nm) V hm
  have HDo : Hid (∀ V, Below w.heap.size w V → Calls Try.prog 29 #[.agg #[.slice sa sm sc, .slice la lm lc, .int .i64 nk, .slice none 0 0, .bool false], .agg #[.int .i64 1, .string (str nm), .string (str tt), .string (str ss)]] V fun r w' => ∃ v', r = .returned (.tuple #[.agg #[.slice sa sm sc, v', .int .i64 ((nk : Int) + 1), .slice none 0 0, .bool false], .int .i64 0]) ∧ ChAt w' v' (R.loose ++ [⟨1, nm, tt, ss⟩]) ∧ Below V.heap.size V w') := fun V hV => rdo_any (c := ⟨1, nm, tt, ss⟩) (row_new hC hV) hlR hnk
  have HCo : Hid (∀ V, Below w.heap.size w V → Calls Try.prog 21 #[.pointer (some ⟨p, 0, none⟩), .string (str nm), .string (str ss)] V fun r w' => r = .returned (.int .i64 0) ∧ DkAt w' B p (A.add ⟨1, nm, [], ss⟩) ∧ FrD B V w') := fun V hV => by
    have hDV := hD.new hV
    have hBV := Nat.le_trans hB hV.size
    exact write_ok hDV hBV hd hn (hbA.toBd _ hs hlA)
  generalize (getF nm R.now).isSome = thb at HRd
  generalize ofF nm R.now = oo at HRd
  clear hD hB hd hF hC hok hbR hbA hnow
  go_enter Try.func8, Try.ntmps8
  go_upto_region 1 with (fail)
  generalize hW : World.alloc _ _ = W
  obtain ⟨hb, k4, k5, k7⟩ := one_boxes (w := w) #[.slice sa sm sc, .slice la lm lc, .int .i64 nk, .slice none 0 0, .bool false] #[.int .i64 1, .string (str nm), .string (str tt), .string (str ss), .int .i64 f0, .int .i64 f1, .int .i64 f2, .slice pa pn pc] hW
  clear hW
  obtain ⟨q4, e4⟩ : ∃ q, w.heap.size = q := ⟨_, rfl⟩
  obtain ⟨q5, e5⟩ : ∃ q, w.heap.size + 1 = q := ⟨_, rfl⟩
  obtain ⟨q7, e7⟩ : ∃ q, w.heap.size + 1 + 1 = q := ⟨_, rfl⟩
  have HE : Hid (w.heap.size = q4 ∧ w.heap.size + 1 = q5 ∧ w.heap.size + 1 + 1 = q7) := ⟨e4, e5, e7⟩
  have HB0 : Hid (Below w.heap.size w W) := hb
  rw [e7] at k7
  rw [e5] at k5
  rw [e4] at k4
  rw [e7, e5, e4]
  clear e4 e5 e7 hb
  obtain ⟨c0, c1, c2, c3, c4⟩ := box5 k4
  obtain ⟨a0, a1, a2, a3, a4, a5, a6, a7⟩ := box8 k5
  have HK4 : Hid _ := k4
  have HK5 : Hid _ := k5
  have HK7 : Hid _ := k7
  clear k4 k5 k7
  have hRd := HRd.out W HB0.out
  go_upto_region 3 with (go_at_call 28; refine hRd.mono ?_; rintro r w1 ⟨rfl, hb1⟩; have HB1 : Hid (Below W.heap.size W w1) := hb1; clear hb1)
  have HBw : Hid (Below w.heap.size w w1) := HB0.out.trans (HB1.out.mono HB0.out.size)
  have HL4 : Hid (w1.heap[q4]? = some (.cells #[.slice sa sm sc, .slice la lm lc, .int .i64 nk, .slice none 0 0, .bool false] 30 (0, 0))) := (HB1.out.block _ (lt_blk HK4.out)).trans HK4.out
  have HL5 : Hid (w1.heap[q5]? = some (.cells #[.int .i64 1, .string (str nm), .string (str tt), .string (str ss), .int .i64 f0, .int .i64 f1, .int .i64 f2, .slice pa pn pc] 37 (0, 0))) := (HB1.out.block _ (lt_blk HK5.out)).trans HK5.out
  have HL7 : Hid (w1.heap[q7]? = some (.cells zd5 30 (0, 0))) := (HB1.out.block _ (lt_blk HK7.out)).trans HK7.out
  clear c0 c1 c2 c3 c4 a0 a1 a2 a3 a4 a5 a6 a7 hRd HRd HK4 HK5 HK7 HB1 HB0
  obtain ⟨c0, c1, c2, c3, c4⟩ := box5 HL4.out
  obtain ⟨a0, a1, a2, a3, a4, a5, a6, a7⟩ := box8 HL5.out
  have g0 := fro5 HL4.out 0
  have g1 := fro5 HL4.out 1
  have g2 := fro5 HL4.out 2
  have g3 := fro5 HL4.out 3
  have g4 := fro5 HL4.out 4
  have hN1 := HN1.out w1
  go_upto_region 13 with (first | (go_at_call 20; refine hN1.mono ?_; rintro r w1 ⟨rfl, rfl⟩))
  have hDo := HDo.out w1 HBw.out
  go_upto_region 14 with (go_at_call 29; refine hDo.mono ?_; rintro r w2 ⟨v2, rfl, m2, hb2⟩; obtain ⟨la2, lc2, rfl, _, _⟩ := ch_shape m2; have HM2 : Hid _ := m2; have HB2 : Hid (Below w1.heap.size w1 w2) := hb2; have l4 := (hb2.block _ (lt_blk HL4.out)).trans HL4.out; obtain ⟨c0, c1, c2, c3, c4⟩ := box5 l4; have g0 := fro5 l4 0; have g1 := fro5 l4 1; have g2 := fro5 l4 2; have g3 := fro5 l4 3; have g4 := fro5 l4 4; have HP4 : Hid _ := l4; clear m2 hb2 l4)
  obtain ⟨lm2, hlm2⟩ : ∃ lm2, R.loose.length + 1 = lm2 := ⟨_, rfl⟩
  generalize hV : World.setCell _ _ _ = V
  have HLM : Hid _ := hlm2
  rw [hlm2] at hV ⊢
  have HV4 : Hid (V.heap[q4]? = some (.cells #[.slice sa sm sc, .slice la2 lm2 lc2, .int .i64 ((nk : Int) + 1), .slice none 0 0, .bool false] 30 (0, 0))) := by show _ = _; rw [← hV]; exact set5 _ _ _ _ _ HP4.out
  have fs : Fr w2 V (fun k => k = q4) := by rw [← hV]; exact set5_fr _ q4 _ _ _ _ _
  have hE := HE.out
  have bw2 := HBw.out.trans (HB2.out.mono HBw.out.size)
  have HBV : Hid (Below w.heap.size w V) := bw2.trans (Fr.below fs bw2.size (fun k e => by omega))
  have HV5 : Hid (V.heap[q5]? = some (.cells #[.int .i64 1, .string (str nm), .string (str tt), .string (str ss), .int .i64 f0, .int .i64 f1, .int .i64 f2, .slice pa pn pc] 37 (0, 0))) := (fs.block q5 (Nat.lt_of_lt_of_le (lt_blk HL5.out) HB2.out.size) (by omega)).trans ((HB2.out.block _ (lt_blk HL5.out)).trans HL5.out)
  have HV7 : Hid (V.heap[q7]? = some (.cells zd5 30 (0, 0))) := (fs.block q7 (Nat.lt_of_lt_of_le (lt_blk HL7.out) HB2.out.size) (by omega)).trans ((HB2.out.block _ (lt_blk HL7.out)).trans HL7.out)
  have HMV : Hid (ChAt V (.slice la2 lm2 lc2) (R.loose ++ [⟨1, nm, tt, ss⟩])) := by
    have := HM2.out
    rw [show (R.loose ++ [(⟨1, nm, tt, ss⟩ : Chg)]).length = lm2 by rw [List.length_append, ← hlm2]; rfl] at this
    have t2 : ChAt w2 (.slice la2 lm2 lc2) (R.loose ++ [⟨1, nm, tt, ss⟩]) := by
      unfold ChAt
      rw [show (R.loose ++ [(⟨1, nm, tt, ss⟩ : Chg)]).length = lm2 by rw [List.length_append, ← hlm2]; rfl]
      exact this
    exact row_keep t2 fs (fun k hk e => by
      subst e
      obtain ⟨_, cc, ff, hh⟩ := row_tag this hk
      rw [HP4.out] at hh
      cases hh)
  clear hV fs hE bw2 c0 c1 c2 c3 c4 g0 g1 g2 g3 g4 a0 a1 a2 a3 a4 a5 a6 a7 hlm2 hDo hN1 HM2 HP4 HB2
  obtain ⟨a0, a1, a2, a3, a4, a5, a6, a7⟩ := box8 HV5.out
  have hCo := HCo.out V HBV.out
  go_upto_region 45 with (go_at_call 21; refine Calls.mono hCo ?_; rintro r w4 ⟨rfl, hD4, hF4⟩; have HD4 : Hid _ := hD4; have HF4 : Hid (FrD B V w4) := hF4; clear hD4 hF4)
  have b4 := blk_frD HV4.out HF4.out (by decide) (by decide)
  have b7 := blk_frD HV7.out HF4.out (by decide) (by decide)
  have HM4 : Hid (ChAt w4 (.slice la2 lm2 lc2) (R.loose ++ [⟨1, nm, tt, ss⟩])) := row_frD HMV.out HF4.out (by decide) (by decide)
  have HFw : Hid (FrD B w w4) := FrD.trans (FrD.new HBV.out) HF4.out
  clear hCo
  have bd : Below w4.heap.size w4 w4.drew := Below.drew (Below.refl _ _)
  obtain ⟨Wd, hWd⟩ : ∃ Wd, w4.drew = Wd := ⟨_, rfl⟩
  rw [hWd] at bd
  have d4 : Wd.heap[q4]? = some (.cells #[.slice sa sm sc, .slice la2 lm2 lc2, .int .i64 ((nk : Int) + 1), .slice none 0 0, .bool false] 30 (0, 0)) := (bd.block _ (lt_blk b4)).trans b4
  have d7 : Wd.heap[q7]? = some (.cells zd5 30 (0, 0)) := (bd.block _ (lt_blk b7)).trans b7
  have HD7 : Hid _ := d7
  have HDd : Hid _ := DkAt.new HD4.out bd
  have HFd : Hid _ := FrD.trans HFw.out (FrD.new bd)
  have HMd : Hid _ := row_new HM4.out bd
  have hS : (fun w' : World => w'.cell? ⟨q4, 0, none⟩ = some (.slice sa sm sc) ∧ w'.cell? ⟨q4, 1, none⟩ = some (.slice la2 lm2 lc2) ∧ w'.cell? ⟨q4, 2, none⟩ = some (.int .i64 ((nk : Int) + 1)) ∧ w'.cell? ⟨q4, 3, none⟩ = some (.slice none 0 0) ∧ w'.cell? ⟨q4, 4, none⟩ = some (.bool false)) Wd := box5 d4
  have HS : Hid _ := hS
  have z7 := box5 d7
  obtain ⟨x0, x1, x2, x3, x4⟩ := z7
  have y0 := fro5 d7 0
  have y1 := fro5 d7 1
  have y2 := fro5 d7 2
  have y3 := fro5 d7 3
  have y4 := fro5 d7 4
  have HNq : Hid (q4 ≠ q7 ∧ w.heap.size ≤ q7) := by have := HE.out; exact ⟨by omega, by omega⟩
  clear b4 b7 bd d4 d7
  refine wp_calmD ?_
  refine wp_region_L [] (fun w' : World => w'.cell? ⟨q4, 0, none⟩ = some (.slice sa sm sc) ∧ w'.cell? ⟨q4, 1, none⟩ = some (.slice la2 lm2 lc2) ∧ w'.cell? ⟨q4, 2, none⟩ = some (.int .i64 ((nk : Int) + 1)) ∧ w'.cell? ⟨q4, 3, none⟩ = some (.slice none 0 0) ∧ w'.cell? ⟨q4, 4, none⟩ = some (.bool false)) (by kernel_rfl) ?_
  rw [hWd]
  clear hWd
  refine wpAnyL_take (i := 0) 213 (v := .pointer (some ⟨p, 0, none⟩)) rfl rfl (by kernel_rfl) (by kernel_rfl) (by kernel_rfl) (by kernel_rfl) (by kernel_rfl) (by kernel_rfl) (fun _ _ _ h => h) hS (by rfl) (by intro w' hSw; obtain ⟨y0, y1, y2, y3, y4⟩ := hSw; go_simp <;> with_reducible rfl) ?_
  simp only [Act.put, List.setIfInBounds_toArray, List.set_cons_zero, List.set_cons_succ]
  refine wpAnyL_take (i := 1) 214 (v := .agg #[.slice sa sm sc, .slice la2 lm2 lc2, .int .i64 ((nk : Int) + 1), .slice none 0 0, .bool false]) rfl rfl (by kernel_rfl) (by kernel_rfl) (by kernel_rfl) (by kernel_rfl) (by kernel_rfl) (by kernel_rfl) (fun _ _ _ h => h) hS (by rfl) (by intro w' hSw; obtain ⟨y0, y1, y2, y3, y4⟩ := hSw; go_simp <;> with_reducible rfl) ?_
  simp only [Act.put, List.setIfInBounds_toArray, List.set_cons_zero, List.set_cons_succ]
  refine wpAnyL_take (i := 2) 215 (v := .int .i64 0) rfl rfl (by kernel_rfl) (by kernel_rfl) (by kernel_rfl) (by kernel_rfl) (by kernel_rfl) (by kernel_rfl) (fun _ _ _ h => h) hS (by rfl) (by intro w' hSw; obtain ⟨y0, y1, y2, y3, y4⟩ := hSw; go_simp <;> with_reducible rfl) ?_
  simp only [Act.put, List.setIfInBounds_toArray, List.set_cons_zero, List.set_cons_succ]
  refine wpAnyL_take (i := 3) 216 (v := .int .i64 0) rfl rfl (by kernel_rfl) (by kernel_rfl) (by kernel_rfl) (by kernel_rfl) (by kernel_rfl) (by kernel_rfl) (fun _ _ _ h => h) hS (by rfl) (by intro w' hSw; obtain ⟨y0, y1, y2, y3, y4⟩ := hSw; go_simp <;> with_reducible rfl) ?_
  simp only [Act.put, List.setIfInBounds_toArray, List.set_cons_zero, List.set_cons_succ]
  refine wpAnyL_take (i := 4) 217 (v := .bool true) rfl rfl (by kernel_rfl) (by kernel_rfl) (by kernel_rfl) (by kernel_rfl) (by kernel_rfl) (by kernel_rfl) (fun _ _ _ h => h) hS (by rfl) (by intro w' hSw; obtain ⟨y0, y1, y2, y3, y4⟩ := hSw; go_simp <;> with_reducible rfl) ?_
  simp only [Act.put, List.setIfInBounds_toArray, List.set_cons_zero, List.set_cons_succ]
  refine wpAnyL_one (i := 5) (by kernel_rfl) rfl (fun Ka hKa => ?_)
  go_simp
  refine hKa.out _ _ (fun _ => HS.out) ?_
  clear hKa Ka
  try simp only [Act.put, List.setIfInBounds_toArray, List.set_cons_zero, List.set_cons_succ]
  refine wpAnyL_one (i := 6) (by kernel_rfl) rfl (fun Kb hKb => ?_)
  go_simp
  have f5 := fun x0 x1 x2 x3 x4 => set5_fr Wd q7 x0 x1 x2 x3 x4
  refine hKb.out _ _ (fun _ => ⟨fr_cellD (f5 _ _ _ _ _) HNq.out.1 HS.out.1, fr_cellD (f5 _ _ _ _ _) HNq.out.1 HS.out.2.1, fr_cellD (f5 _ _ _ _ _) HNq.out.1 HS.out.2.2.1, fr_cellD (f5 _ _ _ _ _) HNq.out.1 HS.out.2.2.2.1, fr_cellD (f5 _ _ _ _ _) HNq.out.1 HS.out.2.2.2.2⟩) ?_
  clear hKb Kb f5 x0 x1 x2 x3 x4 y0 y1 y2 y3 y4 hS
  try simp only [Act.put, List.setIfInBounds_toArray, List.set_cons_zero, List.set_cons_succ]
  refine wpAnyL_one (i := 7) (by kernel_rfl) rfl (fun Kc hKc => ?_)
  go_simp
  refine hKc.out _ _ (fun _ => ?_) ?_
  · have f5 := fun x0 x1 x2 x3 x4 => set5_fr Wd q7 x0 x1 x2 x3 x4
    exact ⟨fr_cellD (f5 _ _ _ _ _) HNq.out.1 HS.out.1, fr_cellD (f5 _ _ _ _ _) HNq.out.1 HS.out.2.1, fr_cellD (f5 _ _ _ _ _) HNq.out.1 HS.out.2.2.1, fr_cellD (f5 _ _ _ _ _) HNq.out.1 HS.out.2.2.2.1, fr_cellD (f5 _ _ _ _ _) HNq.out.1 HS.out.2.2.2.2⟩
  clear hKc Kc
  refine wpAnyL_done (by kernel_rfl) ?_ _
  go_wp2_with (fail)
  refine bodyPost_ret (v := .tuple #[.pointer (some ⟨p, 0, none⟩), .agg #[.slice sa sm sc, .slice la2 lm2 lc2, .int .i64 ((nk : Int) + 1), .slice none 0 0, .bool false], .bool true]) (res_tct Try.results8 _ _ q7 30 _ (0, 0) _ rfl (set5 _ _ _ _ _ HD7.out) Try.underlying30 rfl size_rd) rfl ?_
  exact ⟨_, _, _, rfl, one_keepD HDd.out HD7.out HNq.out.2 HFd.out HMd.out⟩
end
end Go.Proofs.Ythpojidkmmflhaa
