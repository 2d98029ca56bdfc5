/- Something done to both disks: appended, written, moved or removed. -/
import Derived.Test.YthpojidkmmflhaaDkOneA
namespace Go.Proofs.Ythpojidkmmflhaa
open Go.RowKit Go.Maps
attribute [local go_sem] Oper.semAt_some
section
variable {w : World} {B p : Nat} {A R : Dk} {mn ms : Option Nat} {dlv : Value} {nm tt ss : Bs} {sa la pa : Option Addr} {sm sc lm lc pn pc nk M M2 : Nat} {f0 f1 f2 : Int}
set_option linter.unusedSimpArgs false in
set_option linter.unusedVariables false in
set_option maxRecDepth 100000 in
set_option maxHeartbeats 8000000 in
theorem one_1bad (hD : DA w B p A mn ms dlv) (hB : B ≤ w.heap.size) (hd : A.dead = false) (hF : FlAt w (.slice sa sm sc) R.sure) (hC : ChAt w (.slice la lm lc) R.loose) (hok : ∀ c ∈ R.loose, c.okR) (hbR : BdA R M2) (hbA : BdA A M) (hlA : A.loose.length ≤ 1000000) (hnow : R.now = A.now) (hlR : R.loose.length ≤ 1000000) (hnk : nk ≤ 1000000) (hm : nm.length ≤ maxLen) (ht : tt.length ≤ maxLen) (hs : ss.length ≤ 4611686018427387903) (hn : nameB nm = false) : Calls Try.prog 8 #[.pointer (some ⟨p, 0, none⟩), .agg #[.slice sa sm sc, .slice la lm lc, .int .i64 nk, .slice none 0 0, .bool false], .agg #[.int .i64 1, .string (str nm), .string (str tt), .string (str ss), .int .i64 f0, .int .i64 f1, .int .i64 f2, .slice pa pn pc]] w fun r w' => r = .returned (.tuple #[.pointer (some ⟨p, 0, none⟩), .agg #[.slice sa sm sc, .slice la lm lc, .int .i64 nk, .slice none 0 0, .bool false], .bool true]) ∧ DkAt w' B p A ∧ FrD B w w' := by
  have HRd : Hid (∀ V, Below w.heap.size w V → Calls Try.prog 28 #[.agg #[.slice sa sm sc, .slice la lm lc, .int .i64 nk, .slice none 0 0, .bool false], .string (str nm)] V fun r w' => r = .returned (.tuple #[.string (str (ofF nm R.now)), .bool (getF nm R.now).isSome]) ∧ Below V.heap.size V w') := fun V hV => rread_any (row_new hF hV) (row_new hC hV) hok hbR
  have HN1 : Hid (∀ V, Calls Try.prog 20 #[.string (str nm)] V fun r w' => r = .returned (.bool false) ∧ w' = V) := fun V => by rw [← hn]; exact refname_any (str nm) V hm
  have HCo : Hid (∀ V, Below w.heap.size w V → Calls Try.prog 21 #[.pointer (some ⟨p, 0, none⟩), .string (str nm), .string (str ss)] V fun r w' => r = .returned (.int .i64 110) ∧ Below V.heap.size V w') := fun V hV => by
    have hDV := hD.new hV
    have hBV := Nat.le_trans hB hV.size
    exact write_bad hDV hd hm hn
  have HDA : Hid (DkAt w B p A) := ⟨_, _, _, hD⟩
  generalize (getF nm R.now).isSome = thb at HRd
  generalize ofF nm R.now = oo at HRd
  clear hD hB hd hF hC hok hbR hbA hnow
  go_enter Try.func8, Try.ntmps8
  go_upto_region 1 with (fail)
  generalize hW : World.alloc _ _ = W
  obtain ⟨hb, k4, k5, k7⟩ := one_boxes (w := w) #[.slice sa sm sc, .slice la lm lc, .int .i64 nk, .slice none 0 0, .bool false] #[.int .i64 1, .string (str nm), .string (str tt), .string (str ss), .int .i64 f0, .int .i64 f1, .int .i64 f2, .slice pa pn pc] hW
  clear hW
  obtain ⟨q4, e4⟩ : ∃ q, w.heap.size = q := ⟨_, rfl⟩
  obtain ⟨q5, e5⟩ : ∃ q, w.heap.size + 1 = q := ⟨_, rfl⟩
  obtain ⟨q7, e7⟩ : ∃ q, w.heap.size + 1 + 1 = q := ⟨_, rfl⟩
  have HE : Hid (w.heap.size = q4 ∧ w.heap.size + 1 = q5 ∧ w.heap.size + 1 + 1 = q7) := ⟨e4, e5, e7⟩
  have HB0 : Hid (Below w.heap.size w W) := hb
  rw [e7] at k7
  rw [e5] at k5
  rw [e4] at k4
  rw [e7, e5, e4]
  clear e4 e5 e7 hb
  obtain ⟨c0, c1, c2, c3, c4⟩ := box5 k4
  obtain ⟨a0, a1, a2, a3, a4, a5, a6, a7⟩ := box8 k5
  have HK4 : Hid _ := k4
  have HK5 : Hid _ := k5
  have HK7 : Hid _ := k7
  clear k4 k5 k7
  have hRd := HRd.out W HB0.out
  go_upto_region 3 with (go_at_call 28; refine hRd.mono ?_; rintro r w1 ⟨rfl, hb1⟩; have HB1 : Hid (Below W.heap.size W w1) := hb1; clear hb1)
  have HBw : Hid (Below w.heap.size w w1) := HB0.out.trans (HB1.out.mono HB0.out.size)
  have HL4 : Hid (w1.heap[q4]? = some (.cells #[.slice sa sm sc, .slice la lm lc, .int .i64 nk, .slice none 0 0, .bool false] 30 (0, 0))) := (HB1.out.block _ (lt_blk HK4.out)).trans HK4.out
  have HL5 : Hid (w1.heap[q5]? = some (.cells #[.int .i64 1, .string (str nm), .string (str tt), .string (str ss), .int .i64 f0, .int .i64 f1, .int .i64 f2, .slice pa pn pc] 37 (0, 0))) := (HB1.out.block _ (lt_blk HK5.out)).trans HK5.out
  have HL7 : Hid (w1.heap[q7]? = some (.cells zd5 30 (0, 0))) := (HB1.out.block _ (lt_blk HK7.out)).trans HK7.out
  clear c0 c1 c2 c3 c4 a0 a1 a2 a3 a4 a5 a6 a7 hRd HRd HK4 HK5 HK7 HB1 HB0
  obtain ⟨c0, c1, c2, c3, c4⟩ := box5 HL4.out
  obtain ⟨a0, a1, a2, a3, a4, a5, a6, a7⟩ := box8 HL5.out
  have g0 := fro5 HL4.out 0
  have g1 := fro5 HL4.out 1
  have g2 := fro5 HL4.out 2
  have g3 := fro5 HL4.out 3
  have g4 := fro5 HL4.out 4
  have hN1 := HN1.out w1
  go_upto_region 14 with (first | (go_at_call 20; refine hN1.mono ?_; rintro r w1 ⟨rfl, rfl⟩))
  have hCo := HCo.out w1 HBw.out
  go_upto_region 45 with (go_at_call 21; refine Calls.mono hCo ?_; rintro r w4 ⟨rfl, hb4⟩; have HB4 : Hid (Below w1.heap.size w1 w4) := hb4; clear hb4)
  have b4 := (HB4.out.block _ (lt_blk HL4.out)).trans HL4.out
  have b7 := (HB4.out.block _ (lt_blk HL7.out)).trans HL7.out
  have bb := HBw.out.trans (HB4.out.mono HBw.out.size)
  have HD4 : Hid (DkAt w4 B p A) := HDA.out.new bb
  have HFw : Hid (FrD B w w4) := FrD.new bb
  clear bb
  clear hCo
  have bd : Below w4.heap.size w4 w4.drew := Below.drew (Below.refl _ _)
  obtain ⟨Wd, hWd⟩ : ∃ Wd, w4.drew = Wd := ⟨_, rfl⟩
  rw [hWd] at bd
  have d4 : Wd.heap[q4]? = some (.cells #[.slice sa sm sc, .slice la lm lc, .int .i64 nk, .slice none 0 0, .bool false] 30 (0, 0)) := (bd.block _ (lt_blk b4)).trans b4
  have d7 : Wd.heap[q7]? = some (.cells zd5 30 (0, 0)) := (bd.block _ (lt_blk b7)).trans b7
  have HD7 : Hid _ := d7
  have HDd : Hid _ := DkAt.new HD4.out bd
  have HFd : Hid _ := FrD.trans HFw.out (FrD.new bd)
  have hS : (fun w' : World => w'.cell? ⟨q4, 0, none⟩ = some (.slice sa sm sc) ∧ w'.cell? ⟨q4, 1, none⟩ = some (.slice la lm lc) ∧ w'.cell? ⟨q4, 2, none⟩ = some (.int .i64 nk) ∧ w'.cell? ⟨q4, 3, none⟩ = some (.slice none 0 0) ∧ w'.cell? ⟨q4, 4, none⟩ = some (.bool false)) Wd := box5 d4
  have HS : Hid _ := hS
  have z7 := box5 d7
  obtain ⟨x0, x1, x2, x3, x4⟩ := z7
  have y0 := fro5 d7 0
  have y1 := fro5 d7 1
  have y2 := fro5 d7 2
  have y3 := fro5 d7 3
  have y4 := fro5 d7 4
  have HNq : Hid (q4 ≠ q7 ∧ w.heap.size ≤ q7) := by have := HE.out; exact ⟨by omega, by omega⟩
  clear b4 b7 bd d4 d7
  refine wp_calmD ?_
  refine wp_region_L [] (fun w' : World => w'.cell? ⟨q4, 0, none⟩ = some (.slice sa sm sc) ∧ w'.cell? ⟨q4, 1, none⟩ = some (.slice la lm lc) ∧ w'.cell? ⟨q4, 2, none⟩ = some (.int .i64 nk) ∧ w'.cell? ⟨q4, 3, none⟩ = some (.slice none 0 0) ∧ w'.cell? ⟨q4, 4, none⟩ = some (.bool false)) (by kernel_rfl) ?_
  rw [hWd]
  clear hWd
  refine wpAnyL_take (i := 0) 213 (v := .pointer (some ⟨p, 0, none⟩)) rfl rfl (by kernel_rfl) (by kernel_rfl) (by kernel_rfl) (by kernel_rfl) (by kernel_rfl) (by kernel_rfl) (fun _ _ _ h => h) hS (by rfl) (by intro w' hSw; obtain ⟨y0, y1, y2, y3, y4⟩ := hSw; go_simp <;> with_reducible rfl) ?_
  simp only [Act.put, List.setIfInBounds_toArray, List.set_cons_zero, List.set_cons_succ]
  refine wpAnyL_take (i := 1) 214 (v := .agg #[.slice sa sm sc, .slice la lm lc, .int .i64 nk, .slice none 0 0, .bool false]) rfl rfl (by kernel_rfl) (by kernel_rfl) (by kernel_rfl) (by kernel_rfl) (by kernel_rfl) (by kernel_rfl) (fun _ _ _ h => h) hS (by rfl) (by intro w' hSw; obtain ⟨y0, y1, y2, y3, y4⟩ := hSw; go_simp <;> with_reducible rfl) ?_
  simp only [Act.put, List.setIfInBounds_toArray, List.set_cons_zero, List.set_cons_succ]
  refine wpAnyL_take (i := 2) 215 (v := .int .i64 110) rfl rfl (by kernel_rfl) (by kernel_rfl) (by kernel_rfl) (by kernel_rfl) (by kernel_rfl) (by kernel_rfl) (fun _ _ _ h => h) hS (by rfl) (by intro w' hSw; obtain ⟨y0, y1, y2, y3, y4⟩ := hSw; go_simp <;> with_reducible rfl) ?_
  simp only [Act.put, List.setIfInBounds_toArray, List.set_cons_zero, List.set_cons_succ]
  refine wpAnyL_take (i := 3) 216 (v := .int .i64 110) rfl rfl (by kernel_rfl) (by kernel_rfl) (by kernel_rfl) (by kernel_rfl) (by kernel_rfl) (by kernel_rfl) (fun _ _ _ h => h) hS (by rfl) (by intro w' hSw; obtain ⟨y0, y1, y2, y3, y4⟩ := hSw; go_simp <;> with_reducible rfl) ?_
  simp only [Act.put, List.setIfInBounds_toArray, List.set_cons_zero, List.set_cons_succ]
  refine wpAnyL_take (i := 4) 217 (v := .bool true) rfl rfl (by kernel_rfl) (by kernel_rfl) (by kernel_rfl) (by kernel_rfl) (by kernel_rfl) (by kernel_rfl) (fun _ _ _ h => h) hS (by rfl) (by intro w' hSw; obtain ⟨y0, y1, y2, y3, y4⟩ := hSw; go_simp <;> with_reducible rfl) ?_
  simp only [Act.put, List.setIfInBounds_toArray, List.set_cons_zero, List.set_cons_succ]
  refine wpAnyL_one (i := 5) (by kernel_rfl) rfl (fun Ka hKa => ?_)
  go_simp
  refine hKa.out _ _ (fun _ => HS.out) ?_
  clear hKa Ka
  try simp only [Act.put, List.setIfInBounds_toArray, List.set_cons_zero, List.set_cons_succ]
  refine wpAnyL_one (i := 6) (by kernel_rfl) rfl (fun Kb hKb => ?_)
  go_simp
  have f5 := fun x0 x1 x2 x3 x4 => set5_fr Wd q7 x0 x1 x2 x3 x4
  refine hKb.out _ _ (fun _ => ⟨fr_cellD (f5 _ _ _ _ _) HNq.out.1 HS.out.1, fr_cellD (f5 _ _ _ _ _) HNq.out.1 HS.out.2.1, fr_cellD (f5 _ _ _ _ _) HNq.out.1 HS.out.2.2.1, fr_cellD (f5 _ _ _ _ _) HNq.out.1 HS.out.2.2.2.1, fr_cellD (f5 _ _ _ _ _) HNq.out.1 HS.out.2.2.2.2⟩) ?_
  clear hKb Kb f5 x0 x1 x2 x3 x4 y0 y1 y2 y3 y4 hS
  try simp only [Act.put, List.setIfInBounds_toArray, List.set_cons_zero, List.set_cons_succ]
  refine wpAnyL_one (i := 7) (by kernel_rfl) rfl (fun Kc hKc => ?_)
  go_simp
  refine hKc.out _ _ (fun _ => ?_) ?_
  · have f5 := fun x0 x1 x2 x3 x4 => set5_fr Wd q7 x0 x1 x2 x3 x4
    exact ⟨fr_cellD (f5 _ _ _ _ _) HNq.out.1 HS.out.1, fr_cellD (f5 _ _ _ _ _) HNq.out.1 HS.out.2.1, fr_cellD (f5 _ _ _ _ _) HNq.out.1 HS.out.2.2.1, fr_cellD (f5 _ _ _ _ _) HNq.out.1 HS.out.2.2.2.1, fr_cellD (f5 _ _ _ _ _) HNq.out.1 HS.out.2.2.2.2⟩
  clear hKc Kc
  refine wpAnyL_done (by kernel_rfl) ?_ _
  go_wp2_with (fail)
  refine bodyPost_ret (v := .tuple #[.pointer (some ⟨p, 0, none⟩), .agg #[.slice sa sm sc, .slice la lm lc, .int .i64 nk, .slice none 0 0, .bool false], .bool true]) (res_tct Try.results8 _ _ q7 30 _ (0, 0) _ rfl (set5 _ _ _ _ _ HD7.out) Try.underlying30 rfl size_rd) rfl ?_
  exact ⟨rfl, one_keepN HDd.out HD7.out HNq.out.2 HFd.out⟩
set_option linter.unusedSimpArgs false in
set_option linter.unusedVariables false in
set_option maxRecDepth 100000 in
set_option maxHeartbeats 8000000 in
theorem one_2bad1 (hD : DA w B p A mn ms dlv) (hB : B ≤ w.heap.size) (hd : A.dead = false) (hF : FlAt w (.slice sa sm sc) R.sure) (hC : ChAt w (.slice la lm lc) R.loose) (hok : ∀ c ∈ R.loose, c.okR) (hbR : BdA R M2) (hbA : BdA A M) (hlA : A.loose.length ≤ 1000000) (hnow : R.now = A.now) (hlR : R.loose.length ≤ 1000000) (hnk : nk ≤ 1000000) (hm : nm.length ≤ maxLen) (ht : tt.length ≤ maxLen) (hs : ss.length ≤ 4611686018427387903) (hn : nameB nm = false) : Calls Try.prog 8 #[.pointer (some ⟨p, 0, none⟩), .agg #[.slice sa sm sc, .slice la lm lc, .int .i64 nk, .slice none 0 0, .bool false], .agg #[.int .i64 2, .string (str nm), .string (str tt), .string (str ss), .int .i64 f0, .int .i64 f1, .int .i64 f2, .slice pa pn pc]] w fun r w' => r = .returned (.tuple #[.pointer (some ⟨p, 0, none⟩), .agg #[.slice sa sm sc, .slice la lm lc, .int .i64 nk, .slice none 0 0, .bool false], .bool true]) ∧ DkAt w' B p A ∧ FrD B w w' := by
  have HRd : Hid (∀ V, Below w.heap.size w V → Calls Try.prog 28 #[.agg #[.slice sa sm sc, .slice la lm lc, .int .i64 nk, .slice none 0 0, .bool false], .string (str nm)] V fun r w' => r = .returned (.tuple #[.string (str (ofF nm R.now)), .bool (getF nm R.now).isSome]) ∧ Below V.heap.size V w') := fun V hV => rread_any (row_new hF hV) (row_new hC hV) hok hbR
  have HN1 : Hid (∀ V, Calls Try.prog 20 #[.string (str nm)] V fun r w' => r = .returned (.bool false) ∧ w' = V) := fun V => by rw [← hn]; exact refname_any (str nm) V hm
  have HCo : Hid (∀ V, Below w.heap.size w V → Calls Try.prog 22 #[.pointer (some ⟨p, 0, none⟩), .string (str nm), .string (str tt)] V fun r w' => r = .returned (.int .i64 110) ∧ Below V.heap.size V w') := fun V hV => by
    have hDV := hD.new hV
    have hBV := Nat.le_trans hB hV.size
    exact move_bad hDV hd hm ht (by rw [hn]; rfl)
  have HDA : Hid (DkAt w B p A) := ⟨_, _, _, hD⟩
  generalize (getF nm R.now).isSome = thb at HRd
  generalize ofF nm R.now = oo at HRd
  clear hD hB hd hF hC hok hbR hbA hnow
  go_enter Try.func8, Try.ntmps8
  go_upto_region 1 with (fail)
  generalize hW : World.alloc _ _ = W
  obtain ⟨hb, k4, k5, k7⟩ := one_boxes (w := w) #[.slice sa sm sc, .slice la lm lc, .int .i64 nk, .slice none 0 0, .bool false] #[.int .i64 2, .string (str nm), .string (str tt), .string (str ss), .int .i64 f0, .int .i64 f1, .int .i64 f2, .slice pa pn pc] hW
  clear hW
  obtain ⟨q4, e4⟩ : ∃ q, w.heap.size = q := ⟨_, rfl⟩
  obtain ⟨q5, e5⟩ : ∃ q, w.heap.size + 1 = q := ⟨_, rfl⟩
  obtain ⟨q7, e7⟩ : ∃ q, w.heap.size + 1 + 1 = q := ⟨_, rfl⟩
  have HE : Hid (w.heap.size = q4 ∧ w.heap.size + 1 = q5 ∧ w.heap.size + 1 + 1 = q7) := ⟨e4, e5, e7⟩
  have HB0 : Hid (Below w.heap.size w W) := hb
  rw [e7] at k7
  rw [e5] at k5
  rw [e4] at k4
  rw [e7, e5, e4]
  clear e4 e5 e7 hb
  obtain ⟨c0, c1, c2, c3, c4⟩ := box5 k4
  obtain ⟨a0, a1, a2, a3, a4, a5, a6, a7⟩ := box8 k5
  have HK4 : Hid _ := k4
  have HK5 : Hid _ := k5
  have HK7 : Hid _ := k7
  clear k4 k5 k7
  have hRd := HRd.out W HB0.out
  go_upto_region 3 with (go_at_call 28; refine hRd.mono ?_; rintro r w1 ⟨rfl, hb1⟩; have HB1 : Hid (Below W.heap.size W w1) := hb1; clear hb1)
  have HBw : Hid (Below w.heap.size w w1) := HB0.out.trans (HB1.out.mono HB0.out.size)
  have HL4 : Hid (w1.heap[q4]? = some (.cells #[.slice sa sm sc, .slice la lm lc, .int .i64 nk, .slice none 0 0, .bool false] 30 (0, 0))) := (HB1.out.block _ (lt_blk HK4.out)).trans HK4.out
  have HL5 : Hid (w1.heap[q5]? = some (.cells #[.int .i64 2, .string (str nm), .string (str tt), .string (str ss), .int .i64 f0, .int .i64 f1, .int .i64 f2, .slice pa pn pc] 37 (0, 0))) := (HB1.out.block _ (lt_blk HK5.out)).trans HK5.out
  have HL7 : Hid (w1.heap[q7]? = some (.cells zd5 30 (0, 0))) := (HB1.out.block _ (lt_blk HK7.out)).trans HK7.out
  clear c0 c1 c2 c3 c4 a0 a1 a2 a3 a4 a5 a6 a7 hRd HRd HK4 HK5 HK7 HB1 HB0
  obtain ⟨c0, c1, c2, c3, c4⟩ := box5 HL4.out
  obtain ⟨a0, a1, a2, a3, a4, a5, a6, a7⟩ := box8 HL5.out
  have g0 := fro5 HL4.out 0
  have g1 := fro5 HL4.out 1
  have g2 := fro5 HL4.out 2
  have g3 := fro5 HL4.out 3
  have g4 := fro5 HL4.out 4
  have hN1 := HN1.out w1
  go_upto_region 14 with (first | (go_at_call 20; refine hN1.mono ?_; rintro r w1 ⟨rfl, rfl⟩))
  have hCo := HCo.out w1 HBw.out
  go_upto_region 45 with (go_at_call 22; refine Calls.mono hCo ?_; rintro r w4 ⟨rfl, hb4⟩; have HB4 : Hid (Below w1.heap.size w1 w4) := hb4; clear hb4)
  have b4 := (HB4.out.block _ (lt_blk HL4.out)).trans HL4.out
  have b7 := (HB4.out.block _ (lt_blk HL7.out)).trans HL7.out
  have bb := HBw.out.trans (HB4.out.mono HBw.out.size)
  have HD4 : Hid (DkAt w4 B p A) := HDA.out.new bb
  have HFw : Hid (FrD B w w4) := FrD.new bb
  clear bb
  clear hCo
  have bd : Below w4.heap.size w4 w4.drew := Below.drew (Below.refl _ _)
  obtain ⟨Wd, hWd⟩ : ∃ Wd, w4.drew = Wd := ⟨_, rfl⟩
  rw [hWd] at bd
  have d4 : Wd.heap[q4]? = some (.cells #[.slice sa sm sc, .slice la lm lc, .int .i64 nk, .slice none 0 0, .bool false] 30 (0, 0)) := (bd.block _ (lt_blk b4)).trans b4
  have d7 : Wd.heap[q7]? = some (.cells zd5 30 (0, 0)) := (bd.block _ (lt_blk b7)).trans b7
  have HD7 : Hid _ := d7
  have HDd : Hid _ := DkAt.new HD4.out bd
  have HFd : Hid _ := FrD.trans HFw.out (FrD.new bd)
  have hS : (fun w' : World => w'.cell? ⟨q4, 0, none⟩ = some (.slice sa sm sc) ∧ w'.cell? ⟨q4, 1, none⟩ = some (.slice la lm lc) ∧ w'.cell? ⟨q4, 2, none⟩ = some (.int .i64 nk) ∧ w'.cell? ⟨q4, 3, none⟩ = some (.slice none 0 0) ∧ w'.cell? ⟨q4, 4, none⟩ = some (.bool false)) Wd := box5 d4
  have HS : Hid _ := hS
  have z7 := box5 d7
  obtain ⟨x0, x1, x2, x3, x4⟩ := z7
  have y0 := fro5 d7 0
  have y1 := fro5 d7 1
  have y2 := fro5 d7 2
  have y3 := fro5 d7 3
  have y4 := fro5 d7 4
  have HNq : Hid (q4 ≠ q7 ∧ w.heap.size ≤ q7) := by have := HE.out; exact ⟨by omega, by omega⟩
  clear b4 b7 bd d4 d7
  refine wp_calmD ?_
  refine wp_region_L [] (fun w' : World => w'.cell? ⟨q4, 0, none⟩ = some (.slice sa sm sc) ∧ w'.cell? ⟨q4, 1, none⟩ = some (.slice la lm lc) ∧ w'.cell? ⟨q4, 2, none⟩ = some (.int .i64 nk) ∧ w'.cell? ⟨q4, 3, none⟩ = some (.slice none 0 0) ∧ w'.cell? ⟨q4, 4, none⟩ = some (.bool false)) (by kernel_rfl) ?_
  rw [hWd]
  clear hWd
  refine wpAnyL_take (i := 0) 213 (v := .pointer (some ⟨p, 0, none⟩)) rfl rfl (by kernel_rfl) (by kernel_rfl) (by kernel_rfl) (by kernel_rfl) (by kernel_rfl) (by kernel_rfl) (fun _ _ _ h => h) hS (by rfl) (by intro w' hSw; obtain ⟨y0, y1, y2, y3, y4⟩ := hSw; go_simp <;> with_reducible rfl) ?_
  simp only [Act.put, List.setIfInBounds_toArray, List.set_cons_zero, List.set_cons_succ]
  refine wpAnyL_take (i := 1) 214 (v := .agg #[.slice sa sm sc, .slice la lm lc, .int .i64 nk, .slice none 0 0, .bool false]) rfl rfl (by kernel_rfl) (by kernel_rfl) (by kernel_rfl) (by kernel_rfl) (by kernel_rfl) (by kernel_rfl) (fun _ _ _ h => h) hS (by rfl) (by intro w' hSw; obtain ⟨y0, y1, y2, y3, y4⟩ := hSw; go_simp <;> with_reducible rfl) ?_
  simp only [Act.put, List.setIfInBounds_toArray, List.set_cons_zero, List.set_cons_succ]
  refine wpAnyL_take (i := 2) 215 (v := .int .i64 110) rfl rfl (by kernel_rfl) (by kernel_rfl) (by kernel_rfl) (by kernel_rfl) (by kernel_rfl) (by kernel_rfl) (fun _ _ _ h => h) hS (by rfl) (by intro w' hSw; obtain ⟨y0, y1, y2, y3, y4⟩ := hSw; go_simp <;> with_reducible rfl) ?_
  simp only [Act.put, List.setIfInBounds_toArray, List.set_cons_zero, List.set_cons_succ]
  refine wpAnyL_take (i := 3) 216 (v := .int .i64 110) rfl rfl (by kernel_rfl) (by kernel_rfl) (by kernel_rfl) (by kernel_rfl) (by kernel_rfl) (by kernel_rfl) (fun _ _ _ h => h) hS (by rfl) (by intro w' hSw; obtain ⟨y0, y1, y2, y3, y4⟩ := hSw; go_simp <;> with_reducible rfl) ?_
  simp only [Act.put, List.setIfInBounds_toArray, List.set_cons_zero, List.set_cons_succ]
  refine wpAnyL_take (i := 4) 217 (v := .bool true) rfl rfl (by kernel_rfl) (by kernel_rfl) (by kernel_rfl) (by kernel_rfl) (by kernel_rfl) (by kernel_rfl) (fun _ _ _ h => h) hS (by rfl) (by intro w' hSw; obtain ⟨y0, y1, y2, y3, y4⟩ := hSw; go_simp <;> with_reducible rfl) ?_
  simp only [Act.put, List.setIfInBounds_toArray, List.set_cons_zero, List.set_cons_succ]
  refine wpAnyL_one (i := 5) (by kernel_rfl) rfl (fun Ka hKa => ?_)
  go_simp
  refine hKa.out _ _ (fun _ => HS.out) ?_
  clear hKa Ka
  try simp only [Act.put, List.setIfInBounds_toArray, List.set_cons_zero, List.set_cons_succ]
  refine wpAnyL_one (i := 6) (by kernel_rfl) rfl (fun Kb hKb => ?_)
  go_simp
  have f5 := fun x0 x1 x2 x3 x4 => set5_fr Wd q7 x0 x1 x2 x3 x4
  refine hKb.out _ _ (fun _ => ⟨fr_cellD (f5 _ _ _ _ _) HNq.out.1 HS.out.1, fr_cellD (f5 _ _ _ _ _) HNq.out.1 HS.out.2.1, fr_cellD (f5 _ _ _ _ _) HNq.out.1 HS.out.2.2.1, fr_cellD (f5 _ _ _ _ _) HNq.out.1 HS.out.2.2.2.1, fr_cellD (f5 _ _ _ _ _) HNq.out.1 HS.out.2.2.2.2⟩) ?_
  clear hKb Kb f5 x0 x1 x2 x3 x4 y0 y1 y2 y3 y4 hS
  try simp only [Act.put, List.setIfInBounds_toArray, List.set_cons_zero, List.set_cons_succ]
  refine wpAnyL_one (i := 7) (by kernel_rfl) rfl (fun Kc hKc => ?_)
  go_simp
  refine hKc.out _ _ (fun _ => ?_) ?_
  · have f5 := fun x0 x1 x2 x3 x4 => set5_fr Wd q7 x0 x1 x2 x3 x4
    exact ⟨fr_cellD (f5 _ _ _ _ _) HNq.out.1 HS.out.1, fr_cellD (f5 _ _ _ _ _) HNq.out.1 HS.out.2.1, fr_cellD (f5 _ _ _ _ _) HNq.out.1 HS.out.2.2.1, fr_cellD (f5 _ _ _ _ _) HNq.out.1 HS.out.2.2.2.1, fr_cellD (f5 _ _ _ _ _) HNq.out.1 HS.out.2.2.2.2⟩
  clear hKc Kc
  refine wpAnyL_done (by kernel_rfl) ?_ _
  go_wp2_with (fail)
  refine bodyPost_ret (v := .tuple #[.pointer (some ⟨p, 0, none⟩), .agg #[.slice sa sm sc, .slice la lm lc, .int .i64 nk, .slice none 0 0, .bool false], .bool true]) (res_tct Try.results8 _ _ q7 30 _ (0, 0) _ rfl (set5 _ _ _ _ _ HD7.out) Try.underlying30 rfl size_rd) rfl ?_
  exact ⟨rfl, one_keepN HDd.out HD7.out HNq.out.2 HFd.out⟩
set_option linter.unusedSimpArgs false in
set_option linter.unusedVariables false in
set_option maxRecDepth 100000 in
set_option maxHeartbeats 8000000 in
theorem one_2bad2 (hD : DA w B p A mn ms dlv) (hB : B ≤ w.heap.size) (hd : A.dead = false) (hF : FlAt w (.slice sa sm sc) R.sure) (hC : ChAt w (.slice la lm lc) R.loose) (hok : ∀ c ∈ R.loose, c.okR) (hbR : BdA R M2) (hbA : BdA A M) (hlA : A.loose.length ≤ 1000000) (hnow : R.now = A.now) (hlR : R.loose.length ≤ 1000000) (hnk : nk ≤ 1000000) (hm : nm.length ≤ maxLen) (ht : tt.length ≤ maxLen) (hs : ss.length ≤ 4611686018427387903) (hn : nameB nm = true) (hn2 : nameB tt = false) : Calls Try.prog 8 #[.pointer (some ⟨p, 0, none⟩), .agg #[.slice sa sm sc, .slice la lm lc, .int .i64 nk, .slice none 0 0, .bool false], .agg #[.int .i64 2, .string (str nm), .string (str tt), .string (str ss), .int .i64 f0, .int .i64 f1, .int .i64 f2, .slice pa pn pc]] w fun r w' => r = .returned (.tuple #[.pointer (some ⟨p, 0, none⟩), .agg #[.slice sa sm sc, .slice la lm lc, .int .i64 nk, .slice none 0 0, .bool false], .bool true]) ∧ DkAt w' B p A ∧ FrD B w w' := by
  have HRd : Hid (∀ V, Below w.heap.size w V → Calls Try.prog 28 #[.agg #[.slice sa sm sc, .slice la lm lc, .int .i64 nk, .slice none 0 0, .bool false], .string (str nm)] V fun r w' => r = .returned (.tuple #[.string (str (ofF nm R.now)), .bool (getF nm R.now).isSome]) ∧ Below V.heap.size V w') := fun V hV => rread_any (row_new hF hV) (row_new hC hV) hok hbR
  have HN1 : Hid (∀ V, Calls Try.prog 20 #[.string (str nm)] V fun r w' => r = .returned (.bool true) ∧ w' = V) := fun V => by rw [← hn]; exact refname_any (str nm) V hm
  have HN2 : Hid (∀ V, Calls Try.prog 20 #[.string (str tt)] V fun r w' => r = .returned (.bool false) ∧ w' = V) := fun V => by rw [← hn2]; exact refname_any (str tt) V ht
  have HCo : Hid (∀ V, Below w.heap.size w V → Calls Try.prog 22 #[.pointer (some ⟨p, 0, none⟩), .string (str nm), .string (str tt)] V fun r w' => r = .returned (.int .i64 110) ∧ Below V.heap.size V w') := fun V hV => by
    have hDV := hD.new hV
    have hBV := Nat.le_trans hB hV.size
    exact move_bad hDV hd hm ht (by rw [hn, hn2]; rfl)
  have HDA : Hid (DkAt w B p A) := ⟨_, _, _, hD⟩
  generalize (getF nm R.now).isSome = thb at HRd
  generalize ofF nm R.now = oo at HRd
  clear hD hB hd hF hC hok hbR hbA hnow
  go_enter Try.func8, Try.ntmps8
  go_upto_region 1 with (fail)
  generalize hW : World.alloc _ _ = W
  obtain ⟨hb, k4, k5, k7⟩ := one_boxes (w := w) #[.slice sa sm sc, .slice la lm lc, .int .i64 nk, .slice none 0 0, .bool false] #[.int .i64 2, .string (str nm), .string (str tt), .string (str ss), .int .i64 f0, .int .i64 f1, .int .i64 f2, .slice pa pn pc] hW
  clear hW
  obtain ⟨q4, e4⟩ : ∃ q, w.heap.size = q := ⟨_, rfl⟩
  obtain ⟨q5, e5⟩ : ∃ q, w.heap.size + 1 = q := ⟨_, rfl⟩
  obtain ⟨q7, e7⟩ : ∃ q, w.heap.size + 1 + 1 = q := ⟨_, rfl⟩
  have HE : Hid (w.heap.size = q4 ∧ w.heap.size + 1 = q5 ∧ w.heap.size + 1 + 1 = q7) := ⟨e4, e5, e7⟩
  have HB0 : Hid (Below w.heap.size w W) := hb
  rw [e7] at k7
  rw [e5] at k5
  rw [e4] at k4
  rw [e7, e5, e4]
  clear e4 e5 e7 hb
  obtain ⟨c0, c1, c2, c3, c4⟩ := box5 k4
  obtain ⟨a0, a1, a2, a3, a4, a5, a6, a7⟩ := box8 k5
  have HK4 : Hid _ := k4
  have HK5 : Hid _ := k5
  have HK7 : Hid _ := k7
  clear k4 k5 k7
  have hRd := HRd.out W HB0.out
  go_upto_region 3 with (go_at_call 28; refine hRd.mono ?_; rintro r w1 ⟨rfl, hb1⟩; have HB1 : Hid (Below W.heap.size W w1) := hb1; clear hb1)
  have HBw : Hid (Below w.heap.size w w1) := HB0.out.trans (HB1.out.mono HB0.out.size)
  have HL4 : Hid (w1.heap[q4]? = some (.cells #[.slice sa sm sc, .slice la lm lc, .int .i64 nk, .slice none 0 0, .bool false] 30 (0, 0))) := (HB1.out.block _ (lt_blk HK4.out)).trans HK4.out
  have HL5 : Hid (w1.heap[q5]? = some (.cells #[.int .i64 2, .string (str nm), .string (str tt), .string (str ss), .int .i64 f0, .int .i64 f1, .int .i64 f2, .slice pa pn pc] 37 (0, 0))) := (HB1.out.block _ (lt_blk HK5.out)).trans HK5.out
  have HL7 : Hid (w1.heap[q7]? = some (.cells zd5 30 (0, 0))) := (HB1.out.block _ (lt_blk HK7.out)).trans HK7.out
  clear c0 c1 c2 c3 c4 a0 a1 a2 a3 a4 a5 a6 a7 hRd HRd HK4 HK5 HK7 HB1 HB0
  obtain ⟨c0, c1, c2, c3, c4⟩ := box5 HL4.out
  obtain ⟨a0, a1, a2, a3, a4, a5, a6, a7⟩ := box8 HL5.out
  have g0 := fro5 HL4.out 0
  have g1 := fro5 HL4.out 1
  have g2 := fro5 HL4.out 2
  have g3 := fro5 HL4.out 3
  have g4 := fro5 HL4.out 4
  have hN1 := HN1.out w1
  have hN2 := HN2.out w1
  have tk1 : True := trivial
  go_upto_region 14 with (first | (go_at_call 20; have _t := tk1; refine hN1.mono ?_; rintro r w1 ⟨rfl, rfl⟩; clear tk1) | (go_at_call 20; refine hN2.mono ?_; rintro r w1 ⟨rfl, rfl⟩))
  have hCo := HCo.out w1 HBw.out
  go_upto_region 45 with (go_at_call 22; refine Calls.mono hCo ?_; rintro r w4 ⟨rfl, hb4⟩; have HB4 : Hid (Below w1.heap.size w1 w4) := hb4; clear hb4)
  have b4 := (HB4.out.block _ (lt_blk HL4.out)).trans HL4.out
  have b7 := (HB4.out.block _ (lt_blk HL7.out)).trans HL7.out
  have bb := HBw.out.trans (HB4.out.mono HBw.out.size)
  have HD4 : Hid (DkAt w4 B p A) := HDA.out.new bb
  have HFw : Hid (FrD B w w4) := FrD.new bb
  clear bb
  clear hCo
  have bd : Below w4.heap.size w4 w4.drew := Below.drew (Below.refl _ _)
  obtain ⟨Wd, hWd⟩ : ∃ Wd, w4.drew = Wd := ⟨_, rfl⟩
  rw [hWd] at bd
  have d4 : Wd.heap[q4]? = some (.cells #[.slice sa sm sc, .slice la lm lc, .int .i64 nk, .slice none 0 0, .bool false] 30 (0, 0)) := (bd.block _ (lt_blk b4)).trans b4
  have d7 : Wd.heap[q7]? = some (.cells zd5 30 (0, 0)) := (bd.block _ (lt_blk b7)).trans b7
  have HD7 : Hid _ := d7
  have HDd : Hid _ := DkAt.new HD4.out bd
  have HFd : Hid _ := FrD.trans HFw.out (FrD.new bd)
  have hS : (fun w' : World => w'.cell? ⟨q4, 0, none⟩ = some (.slice sa sm sc) ∧ w'.cell? ⟨q4, 1, none⟩ = some (.slice la lm lc) ∧ w'.cell? ⟨q4, 2, none⟩ = some (.int .i64 nk) ∧ w'.cell? ⟨q4, 3, none⟩ = some (.slice none 0 0) ∧ w'.cell? ⟨q4, 4, none⟩ = some (.bool false)) Wd := box5 d4
  have HS : Hid _ := hS
  have z7 := box5 d7
  obtain ⟨x0, x1, x2, x3, x4⟩ := z7
  have y0 := fro5 d7 0
  have y1 := fro5 d7 1
  have y2 := fro5 d7 2
  have y3 := fro5 d7 3
  have y4 := fro5 d7 4
  have HNq : Hid (q4 ≠ q7 ∧ w.heap.size ≤ q7) := by have := HE.out; exact ⟨by omega, by omega⟩
  clear b4 b7 bd d4 d7
  refine wp_calmD ?_
  refine wp_region_L [] (fun w' : World => w'.cell? ⟨q4, 0, none⟩ = some (.slice sa sm sc) ∧ w'.cell? ⟨q4, 1, none⟩ = some (.slice la lm lc) ∧ w'.cell? ⟨q4, 2, none⟩ = some (.int .i64 nk) ∧ w'.cell? ⟨q4, 3, none⟩ = some (.slice none 0 0) ∧ w'.cell? ⟨q4, 4, none⟩ = some (.bool false)) (by kernel_rfl) ?_
  rw [hWd]
  clear hWd
  refine wpAnyL_take (i := 0) 213 (v := .pointer (some ⟨p, 0, none⟩)) rfl rfl (by kernel_rfl) (by kernel_rfl) (by kernel_rfl) (by kernel_rfl) (by kernel_rfl) (by kernel_rfl) (fun _ _ _ h => h) hS (by rfl) (by intro w' hSw; obtain ⟨y0, y1, y2, y3, y4⟩ := hSw; go_simp <;> with_reducible rfl) ?_
  simp only [Act.put, List.setIfInBounds_toArray, List.set_cons_zero, List.set_cons_succ]
  refine wpAnyL_take (i := 1) 214 (v := .agg #[.slice sa sm sc, .slice la lm lc, .int .i64 nk, .slice none 0 0, .bool false]) rfl rfl (by kernel_rfl) (by kernel_rfl) (by kernel_rfl) (by kernel_rfl) (by kernel_rfl) (by kernel_rfl) (fun _ _ _ h => h) hS (by rfl) (by intro w' hSw; obtain ⟨y0, y1, y2, y3, y4⟩ := hSw; go_simp <;> with_reducible rfl) ?_
  simp only [Act.put, List.setIfInBounds_toArray, List.set_cons_zero, List.set_cons_succ]
  refine wpAnyL_take (i := 2) 215 (v := .int .i64 110) rfl rfl (by kernel_rfl) (by kernel_rfl) (by kernel_rfl) (by kernel_rfl) (by kernel_rfl) (by kernel_rfl) (fun _ _ _ h => h) hS (by rfl) (by intro w' hSw; obtain ⟨y0, y1, y2, y3, y4⟩ := hSw; go_simp <;> with_reducible rfl) ?_
  simp only [Act.put, List.setIfInBounds_toArray, List.set_cons_zero, List.set_cons_succ]
  refine wpAnyL_take (i := 3) 216 (v := .int .i64 110) rfl rfl (by kernel_rfl) (by kernel_rfl) (by kernel_rfl) (by kernel_rfl) (by kernel_rfl) (by kernel_rfl) (fun _ _ _ h => h) hS (by rfl) (by intro w' hSw; obtain ⟨y0, y1, y2, y3, y4⟩ := hSw; go_simp <;> with_reducible rfl) ?_
  simp only [Act.put, List.setIfInBounds_toArray, List.set_cons_zero, List.set_cons_succ]
  refine wpAnyL_take (i := 4) 217 (v := .bool true) rfl rfl (by kernel_rfl) (by kernel_rfl) (by kernel_rfl) (by kernel_rfl) (by kernel_rfl) (by kernel_rfl) (fun _ _ _ h => h) hS (by rfl) (by intro w' hSw; obtain ⟨y0, y1, y2, y3, y4⟩ := hSw; go_simp <;> with_reducible rfl) ?_
  simp only [Act.put, List.setIfInBounds_toArray, List.set_cons_zero, List.set_cons_succ]
  refine wpAnyL_one (i := 5) (by kernel_rfl) rfl (fun Ka hKa => ?_)
  go_simp
  refine hKa.out _ _ (fun _ => HS.out) ?_
  clear hKa Ka
  try simp only [Act.put, List.setIfInBounds_toArray, List.set_cons_zero, List.set_cons_succ]
  refine wpAnyL_one (i := 6) (by kernel_rfl) rfl (fun Kb hKb => ?_)
  go_simp
  have f5 := fun x0 x1 x2 x3 x4 => set5_fr Wd q7 x0 x1 x2 x3 x4
  refine hKb.out _ _ (fun _ => ⟨fr_cellD (f5 _ _ _ _ _) HNq.out.1 HS.out.1, fr_cellD (f5 _ _ _ _ _) HNq.out.1 HS.out.2.1, fr_cellD (f5 _ _ _ _ _) HNq.out.1 HS.out.2.2.1, fr_cellD (f5 _ _ _ _ _) HNq.out.1 HS.out.2.2.2.1, fr_cellD (f5 _ _ _ _ _) HNq.out.1 HS.out.2.2.2.2⟩) ?_
  clear hKb Kb f5 x0 x1 x2 x3 x4 y0 y1 y2 y3 y4 hS
  try simp only [Act.put, List.setIfInBounds_toArray, List.set_cons_zero, List.set_cons_succ]
  refine wpAnyL_one (i := 7) (by kernel_rfl) rfl (fun Kc hKc => ?_)
  go_simp
  refine hKc.out _ _ (fun _ => ?_) ?_
  · have f5 := fun x0 x1 x2 x3 x4 => set5_fr Wd q7 x0 x1 x2 x3 x4
    exact ⟨fr_cellD (f5 _ _ _ _ _) HNq.out.1 HS.out.1, fr_cellD (f5 _ _ _ _ _) HNq.out.1 HS.out.2.1, fr_cellD (f5 _ _ _ _ _) HNq.out.1 HS.out.2.2.1, fr_cellD (f5 _ _ _ _ _) HNq.out.1 HS.out.2.2.2.1, fr_cellD (f5 _ _ _ _ _) HNq.out.1 HS.out.2.2.2.2⟩
  clear hKc Kc
  refine wpAnyL_done (by kernel_rfl) ?_ _
  go_wp2_with (fail)
  refine bodyPost_ret (v := .tuple #[.pointer (some ⟨p, 0, none⟩), .agg #[.slice sa sm sc, .slice la lm lc, .int .i64 nk, .slice none 0 0, .bool false], .bool true]) (res_tct Try.results8 _ _ q7 30 _ (0, 0) _ rfl (set5 _ _ _ _ _ HD7.out) Try.underlying30 rfl size_rd) rfl ?_
  exact ⟨rfl, one_keepN HDd.out HD7.out HNq.out.2 HFd.out⟩
end
end Go.Proofs.Ythpojidkmmflhaa
