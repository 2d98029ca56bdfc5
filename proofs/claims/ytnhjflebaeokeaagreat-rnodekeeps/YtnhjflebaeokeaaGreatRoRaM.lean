import Derived.Test.YtnhjflebaeokeaaGreatRoWrM
import Derived.Deep.MidRow
section
/- rnode: write, where nothing is another one. -/
namespace Go.Proofs.YtnhjflebaeokeaaGreat
open Go.RowKit
attribute [local go_sem] Oper.semAt_some
set_option linter.unusedSimpArgs false in
set_option maxRecDepth 100000 in
set_option maxHeartbeats 4000000 in
/-- Nothing is another one. -/
theorem write_same {w : World} {B C np dp lq vp D p : Nat} {h g : Hd} {kv lv rv : Value} {cm at_ : Int} {dead : Bool} {snap : Bs} {R : List Bs} (hN : w.heap[np]? = some (.cells (roC dp lq vp g kv cm at_ dead) 87 (0, 0))) (hLg : Lg w D lq p snap rv R) (ok : h.ok) (gl : g.log.length ≤ 1000) (hE : EnO w B lv h.log) (hK : EnO w C kv g.log) (hb : h.bi = g.bi) (hr : R.length ≤ 40) (hne : h.vw = g.vw ∧ h.nm = g.nm ∧ h.log = g.log) :
    Calls Tryz.prog 67 #[.pointer (some ⟨np, 0, none⟩), hdV h lv] w fun r w' => r = .returned (.int .i64 0) ∧ Below w.heap.size w w' := by
  have HN : Hid (w.heap[np]? = some (.cells (roC dp lq vp g kv cm at_ dead) 87 (0, 0))) := hN
  have HLg : Hid (Lg w D lq p snap rv R) := hLg
  have HOk : Hid h.ok := ok
  have HE : Hid (EnO w B lv h.log) := hE
  have HK : Hid (EnO w C kv g.log) := hK
  have HNe : Hid _ := hne
  have HGl : Hid (g.log.length ≤ 1000) := gl
  obtain ⟨lo, lc, rfl, -, -⟩ := hE.shape
  obtain ⟨ko, kc, rfl, -, -⟩ := hK.shape
  simp only [hdV]
  have HBi : Hid (h.bi = g.bi) := hb
  clear hN hLg ok hE hK hne gl hb
  go_enter Tryz.func67, Tryz.ntmps67
  go_upto_region 1 with (fail)
  generalize hW : World.alloc _ _ = W
  have b0 : Below w.heap.size w W := by rw [← hW]; exact vone_new _ _
  have hZ : W.heap[w.heap.size]? = some (.cells #[.int .i64 h.vw, .int .i64 h.nm, .int .i64 h.bi, .int .i64 h.bv, .string h.base, .slice lo h.log.length lc] 66 (0, 0)) := by rw [← hW]; exact heap_alloc_new _ _
  obtain ⟨q, hq⟩ : ∃ q, w.heap.size = q := ⟨_, rfl⟩
  rw [hq] at hZ ⊢
  have HB0 : Hid (Below w.heap.size w W) := b0
  have HZ : Hid _ := hZ
  have HNW : Hid (W.heap[np]? = some (.cells #[.pointer (some ⟨dp, 0, none⟩), .pointer (some ⟨lq, 0, none⟩), .pointer (some ⟨vp, 0, none⟩), .int .i64 g.vw, .int .i64 g.nm, .int .i64 g.bi, .int .i64 g.bv, .string g.base, .slice ko g.log.length kc, .int .i64 cm, .int .i64 at_, .bool dead] 87 (0, 0))) := (b0.block np (vlt_blk HN.out)).trans HN.out
  obtain ⟨a0, a1, a2, a3, a4, a5⟩ := hbox6 hZ
  obtain ⟨c0, c1, c2, c3, c4, c5, c8, -, -, -⟩ := robox HNW.out
  have hbe : (h.bi == g.bi) = true := by simpa using HBi.out
  have hbn : (h.bi != g.bi) = false := by simpa using HBi.out
  have hrI : (R.length : Int) ≤ 40 := by omega
  clear hW b0 hZ hq
  go_quiet ((go_at_call 102; exact Calls.quiet_of_same (len_any ((Lg.new HLg.out HB0.out).new (below_dn _ _)))))
  have hdec : decide (40 < (R.length : Int)) = false := by simp; omega
  go_upto_region 3 with (fail)
  obtain ⟨same, hsame⟩ : ∃ same, alikeN h.log g.log = same := ⟨_, rfl⟩
  have HSa : Hid (alikeN h.log g.log = same) := hsame
  obtain ⟨Wd, hWd⟩ : ∃ Wd, (W.drewN nq).drew = Wd := ⟨_, rfl⟩
  have bd : Below W.heap.size W Wd := by rw [← hWd]; exact Below.drew (below_dn _ _)
  have HBd : Hid (Below w.heap.size w Wd) := HB0.out.trans (bd.mono HB0.out.size)
  have HZd : Hid (Wd.heap[q]? = some (.cells #[.int .i64 h.vw, .int .i64 h.nm, .int .i64 h.bi, .int .i64 h.bv, .string h.base, .slice lo h.log.length lc] 66 (0, 0))) := (bd.block q (vlt_blk HZ.out)).trans HZ.out
  have HNd : Hid (Wd.heap[np]? = some (.cells #[.pointer (some ⟨dp, 0, none⟩), .pointer (some ⟨lq, 0, none⟩), .pointer (some ⟨vp, 0, none⟩), .int .i64 g.vw, .int .i64 g.nm, .int .i64 g.bi, .int .i64 g.bv, .string g.base, .slice ko g.log.length kc, .int .i64 cm, .int .i64 at_, .bool dead] 87 (0, 0))) := (bd.block np (vlt_blk HNW.out)).trans HNW.out
  have y5 := (hbox6 HZd.out).2.2.2.2.2
  have y8 := (robox HNd.out).2.2.2.2.2.2.1
  refine wp_calmV ?_
  refine wp_region_L [] (fun w' : World => w'.cell? ⟨q, 5, none⟩ = some (.slice lo h.log.length lc) ∧ w'.cell? ⟨np, 8, none⟩ = some (.slice ko g.log.length kc)) (by kernel_rfl) ?_
  rw [show (W.drewN nq).drew = Wd from hWd]
  have hS : (fun w' : World => w'.cell? ⟨q, 5, none⟩ = some (.slice lo h.log.length lc) ∧ w'.cell? ⟨np, 8, none⟩ = some (.slice ko g.log.length kc)) Wd := ⟨y5, y8⟩
  clear hWd bd a0 a1 a2 a3 a4 a5 c0 c1 c2 c3 c4 c5 c8 hsame hdec hbe hbn HZ HNW
  refine wpAnyL_take (i := 0) 32 (v := .pointer (some ⟨q, 5, none⟩)) rfl rfl (by kernel_rfl) (by kernel_rfl) (by kernel_rfl) (by kernel_rfl) (by kernel_rfl) (by kernel_rfl) (fun _ _ _ h => h) hS (by rfl) (by intro w' hSw; obtain ⟨y0, y1⟩ := hSw; go_simp <;> with_reducible rfl) ?_
  simp only [Act.put, List.setIfInBounds_toArray, List.set_cons_zero, List.set_cons_succ]
  refine wpAnyL_take (i := 1) 33 (v := .slice lo h.log.length lc) rfl rfl (by kernel_rfl) (by kernel_rfl) (by kernel_rfl) (by kernel_rfl) (by kernel_rfl) (by kernel_rfl) (fun _ _ _ h => h) hS (by rfl) (by intro w' hSw; obtain ⟨y0, y1⟩ := hSw; go_simp <;> with_reducible rfl) ?_
  simp only [Act.put, List.setIfInBounds_toArray, List.set_cons_zero, List.set_cons_succ]
  refine wpAnyL_take (i := 2) 34 (v := .pointer (some ⟨np, 0, none⟩)) rfl rfl (by kernel_rfl) (by kernel_rfl) (by kernel_rfl) (by kernel_rfl) (by kernel_rfl) (by kernel_rfl) (fun _ _ _ h => h) hS (by rfl) (by intro w' hSw; obtain ⟨y0, y1⟩ := hSw; go_simp <;> with_reducible rfl) ?_
  simp only [Act.put, List.setIfInBounds_toArray, List.set_cons_zero, List.set_cons_succ]
  refine wpAnyL_take (i := 3) 35 (v := .pointer (some ⟨np, 0, none⟩)) rfl rfl (by kernel_rfl) (by kernel_rfl) (by kernel_rfl) (by kernel_rfl) (by kernel_rfl) (by kernel_rfl) (fun _ _ _ h => h) hS (by rfl) (by intro w' hSw; obtain ⟨y0, y1⟩ := hSw; go_simp <;> with_reducible rfl) ?_
  simp only [Act.put, List.setIfInBounds_toArray, List.set_cons_zero, List.set_cons_succ]
  refine wpAnyL_take (i := 4) 36 (v := .pointer (some ⟨np, 3, none⟩)) rfl rfl (by kernel_rfl) (by kernel_rfl) (by kernel_rfl) (by kernel_rfl) (by kernel_rfl) (by kernel_rfl) (fun _ _ _ h => h) hS (by rfl) (by intro w' hSw; obtain ⟨y0, y1⟩ := hSw; go_simp <;> with_reducible rfl) ?_
  simp only [Act.put, List.setIfInBounds_toArray, List.set_cons_zero, List.set_cons_succ]
  refine wpAnyL_take (i := 5) 37 (v := .pointer (some ⟨np, 8, none⟩)) rfl rfl (by kernel_rfl) (by kernel_rfl) (by kernel_rfl) (by kernel_rfl) (by kernel_rfl) (by kernel_rfl) (fun _ _ _ h => h) hS (by rfl) (by intro w' hSw; obtain ⟨y0, y1⟩ := hSw; go_simp <;> with_reducible rfl) ?_
  simp only [Act.put, List.setIfInBounds_toArray, List.set_cons_zero, List.set_cons_succ]
  refine wpAnyL_take (i := 6) 38 (v := .slice ko g.log.length kc) rfl rfl (by kernel_rfl) (by kernel_rfl) (by kernel_rfl) (by kernel_rfl) (by kernel_rfl) (by kernel_rfl) (fun _ _ _ h => h) hS (by rfl) (by intro w' hSw; obtain ⟨y0, y1⟩ := hSw; go_simp <;> with_reducible rfl) ?_
  simp only [Act.put, List.setIfInBounds_toArray, List.set_cons_zero, List.set_cons_succ]
  refine wpAnyL_one (i := 7) (by kernel_rfl) rfl (fun Ka hKa => ?_)
  go_simp
  refine Calls.mono (alike_any (HE.out.toS.new HBd.out) (HK.out.toS.new HBd.out) HOk.out.len HGl.out) ?_
  rintro rr w3 ⟨rfl, hb3⟩
  rw [HSa.out]
  have HB3 : Hid (Below w.heap.size w w3) := HBd.out.trans (hb3.mono HBd.out.size)
  have hZ3 : w3.heap[q]? = some (.cells #[.int .i64 h.vw, .int .i64 h.nm, .int .i64 h.bi, .int .i64 h.bv, .string h.base, .slice lo h.log.length lc] 66 (0, 0)) := (hb3.block q (vlt_blk HZd.out)).trans HZd.out
  have hN3 : w3.heap[np]? = some (.cells #[.pointer (some ⟨dp, 0, none⟩), .pointer (some ⟨lq, 0, none⟩), .pointer (some ⟨vp, 0, none⟩), .int .i64 g.vw, .int .i64 g.nm, .int .i64 g.bi, .int .i64 g.bv, .string g.base, .slice ko g.log.length kc, .int .i64 cm, .int .i64 at_, .bool dead] 87 (0, 0)) := (hb3.block np (vlt_blk HNd.out)).trans HNd.out
  have HZ3 : Hid (w3.heap[q]? = some (.cells #[.int .i64 h.vw, .int .i64 h.nm, .int .i64 h.bi, .int .i64 h.bv, .string h.base, .slice lo h.log.length lc] 66 (0, 0))) := hZ3
  have HN3 : Hid (w3.heap[np]? = some (.cells #[.pointer (some ⟨dp, 0, none⟩), .pointer (some ⟨lq, 0, none⟩), .pointer (some ⟨vp, 0, none⟩), .int .i64 g.vw, .int .i64 g.nm, .int .i64 g.bi, .int .i64 g.bv, .string g.base, .slice ko g.log.length kc, .int .i64 cm, .int .i64 at_, .bool dead] 87 (0, 0))) := hN3
  obtain ⟨z0, z1, z2, z3, z4, z5⟩ := hbox6 hZ3
  obtain ⟨d0, d1, d2, d3, d4, d5, d8, -, -, -⟩ := robox hN3
  refine hKa.out _ _ (fun _ => ⟨z5, d8⟩) ?_
  have hS1 : (fun w' : World => w'.cell? ⟨q, 5, none⟩ = some (.slice lo h.log.length lc) ∧ w'.cell? ⟨np, 8, none⟩ = some (.slice ko g.log.length kc)) w3 := ⟨z5, d8⟩
  clear hKa Ka hS hb3 hZ3 hN3 y5 y8
  try simp only [Act.put, List.setIfInBounds_toArray, List.set_cons_zero, List.set_cons_succ]
  refine wpAnyL_one (i := 8) (by kernel_rfl) rfl (fun Ka hKa => ?_)
  go_simp
  refine hKa.out _ _ (fun _ => hS1) ?_
  clear hKa Ka hS1
  try simp only [Act.put, List.setIfInBounds_toArray, List.set_cons_zero, List.set_cons_succ]
  refine wpAnyL_done (by kernel_rfl) ?_ _
  have e1b : (h.vw == g.vw) = true := by simpa using HNe.out.1
  have e2b : (h.nm == g.nm) = true := by simpa using HNe.out.2.1
  have hsn : same = h.log.length ∧ same = g.log.length := by
    have k := HNe.out.2.2
    have k2 := HSa.out
    rw [k] at k2 ⊢
    rw [alikeN_all _ _ rfl, Nat.min_self] at k2
    exact ⟨k2.symm, k2.symm⟩
  have e3b : ((same : Int) == (h.log.length : Int)) = true := by have := hsn.1; simp; omega
  have e4b : ((same : Int) == (g.log.length : Int)) = true := by have := hsn.2; simp; omega
  clear hsn
  go_upto_region 4 with (fail)
  go_quiet (fail)
  go_wp2
  go_ret
  exact ⟨rfl, HB3.out.trans ((below_dn _ _).mono HB3.out.size)⟩
end Go.Proofs.YtnhjflebaeokeaaGreat
end

section
/- rnode: write, where the log is laid anew. -/
namespace Go.Proofs.YtnhjflebaeokeaaGreat
open Go.RowKit
attribute [local go_sem] Oper.semAt_some
set_option linter.unusedSimpArgs false in
set_option maxRecDepth 100000 in
set_option maxHeartbeats 4000000 in
/-- The log is laid anew. -/
theorem write_reset {Post : Int → World → Prop} {w : World} {B np dp lq vp D p : Nat} {h g : Hd} {kv lv rv : Value} {cm at_ : Int} {dead : Bool} {snap : Bs} {R : List Bs} (hN : w.heap[np]? = some (.cells (roC dp lq vp g kv cm at_ dead) 87 (0, 0))) (hLg : Lg w D lq p snap rv R) (ok : h.ok) (hE : EnO w B lv h.log) (hc : h.bi ≠ g.bi ∨ 40 < R.length)
    (hRe : ∀ W, Below w.heap.size w W → ∀ v, TxO W 0 v [recB h 0] → Calls Tryz.prog 103 #[.pointer (some ⟨lq, 0, none⟩), .string (str (baseB h)), v] W fun r w' => ∃ e, r = .returned (.int .i64 e) ∧ Post e w') :
    Calls Tryz.prog 67 #[.pointer (some ⟨np, 0, none⟩), hdV h lv] w fun r w' => ∃ e, r = .returned (.int .i64 e) ∧ Post e w' := by
  have HN : Hid (w.heap[np]? = some (.cells (roC dp lq vp g kv cm at_ dead) 87 (0, 0))) := hN
  have HLg : Hid (Lg w D lq p snap rv R) := hLg
  have HOk : Hid h.ok := ok
  have HE : Hid (EnO w B lv h.log) := hE
  have HRe : Hid _ := hRe
  have HCo : Hid (h.bi ≠ g.bi ∨ 40 < R.length) := hc
  obtain ⟨lo, lc, rfl, -, -⟩ := hE.shape
  simp only [hdV]
  clear hN hLg ok hE hRe hc
  go_enter Tryz.func67, Tryz.ntmps67
  go_upto_region 1 with (fail)
  generalize hW : World.alloc _ _ = W
  have b0 : Below w.heap.size w W := by rw [← hW]; exact vone_new _ _
  have hZ : W.heap[w.heap.size]? = some (.cells #[.int .i64 h.vw, .int .i64 h.nm, .int .i64 h.bi, .int .i64 h.bv, .string h.base, .slice lo h.log.length lc] 66 (0, 0)) := by rw [← hW]; exact heap_alloc_new _ _
  obtain ⟨q, hq⟩ : ∃ q, w.heap.size = q := ⟨_, rfl⟩
  rw [hq] at hZ ⊢
  have HB0 : Hid (Below w.heap.size w W) := b0
  have HZ : Hid _ := hZ
  have HNW : Hid (W.heap[np]? = some (.cells #[.pointer (some ⟨dp, 0, none⟩), .pointer (some ⟨lq, 0, none⟩), .pointer (some ⟨vp, 0, none⟩), .int .i64 g.vw, .int .i64 g.nm, .int .i64 g.bi, .int .i64 g.bv, .string g.base, kv, .int .i64 cm, .int .i64 at_, .bool dead] 87 (0, 0))) := (b0.block np (vlt_blk HN.out)).trans HN.out
  obtain ⟨a0, a1, a2, a3, a4, a5⟩ := hbox6 hZ
  obtain ⟨c0, c1, c2, c3, c4, c5, c8, -, -, -⟩ := robox HNW.out
  clear hW b0 hZ hq
  go_cut [21] (fun v wx => v = .bool true ∧ ∃ n, wx = W.drewN n)
  case first =>
    by_cases hb : h.bi = g.bi
    · have hbe : (h.bi == g.bi) = true := by simpa using hb
      have hbn : (h.bi != g.bi) = false := by simpa using hb
      have hdec : decide (40 < (R.length : Int)) = true := by
        rcases HCo.out with k | k
        · exact absurd hb k
        · simp; omega
      clear hb
      go_quiet ((go_at_call 102; exact Calls.quiet_of_same (len_any ((Lg.new HLg.out HB0.out).new (below_dn _ _)))))
      go_wp2
      go_meet
      exact ⟨rfl, _, rfl⟩
    · have hbe : (h.bi == g.bi) = false := by simpa using hb
      have hbn : (h.bi != g.bi) = true := by simpa using hb
      go_quiet (fail)
      go_wp2
      go_meet
      exact ⟨rfl, _, rfl⟩
  case rest =>
    obtain ⟨rfl, nq2, rfl⟩ := hcut
    clear a0 a1 a2 a3 a4 a5 c0 c1 c2 c3 c4 c5 c8
    go_upto_region 2 with (fail)
    obtain ⟨We, hWe⟩ : ∃ We, (W.drewN nq2).drew = We := ⟨_, rfl⟩
    have be : Below W.heap.size W We := by rw [← hWe]; exact Below.drew (below_dn _ _)
    have HBe : Hid (Below w.heap.size w We) := HB0.out.trans (be.mono HB0.out.size)
    have hZe : We.heap[q]? = some (.cells #[.int .i64 h.vw, .int .i64 h.nm, .int .i64 h.bi, .int .i64 h.bv, .string h.base, .slice lo h.log.length lc] 66 (0, 0)) := (be.block q (vlt_blk HZ.out)).trans HZ.out
    have hNe : We.heap[np]? = some (.cells #[.pointer (some ⟨dp, 0, none⟩), .pointer (some ⟨lq, 0, none⟩), .pointer (some ⟨vp, 0, none⟩), .int .i64 g.vw, .int .i64 g.nm, .int .i64 g.bi, .int .i64 g.bv, .string g.base, kv, .int .i64 cm, .int .i64 at_, .bool dead] 87 (0, 0)) := (be.block np (vlt_blk HNW.out)).trans HNW.out
    have HZe : Hid (We.heap[q]? = some (.cells #[.int .i64 h.vw, .int .i64 h.nm, .int .i64 h.bi, .int .i64 h.bv, .string h.base, .slice lo h.log.length lc] 66 (0, 0))) := hZe
    have HNo : Hid (We.heap[np]? = some (.cells #[.pointer (some ⟨dp, 0, none⟩), .pointer (some ⟨lq, 0, none⟩), .pointer (some ⟨vp, 0, none⟩), .int .i64 g.vw, .int .i64 g.nm, .int .i64 g.bi, .int .i64 g.bv, .string g.base, kv, .int .i64 cm, .int .i64 at_, .bool dead] 87 (0, 0))) := hNe
    obtain ⟨z0, z1, z2, z3, z4, z5⟩ := hbox6 hZe
    have d1 := (robox hNe).2.1
    refine wp_calmV ?_
    refine wp_region_L [9] (fun w' : World => w'.cell? ⟨q, 0, none⟩ = some (.int .i64 h.vw) ∧ w'.cell? ⟨q, 1, none⟩ = some (.int .i64 h.nm) ∧ w'.cell? ⟨q, 2, none⟩ = some (.int .i64 h.bi) ∧ w'.cell? ⟨q, 3, none⟩ = some (.int .i64 h.bv) ∧ w'.cell? ⟨q, 4, none⟩ = some (.string h.base) ∧ w'.cell? ⟨q, 5, none⟩ = some (.slice lo h.log.length lc) ∧ w'.cell? ⟨np, 1, none⟩ = some (.pointer (some ⟨lq, 0, none⟩))) (by kernel_rfl) ?_
    rw [show (W.drewN nq2).drew = We from hWe]
    have hS : (fun w' : World => w'.cell? ⟨q, 0, none⟩ = some (.int .i64 h.vw) ∧ w'.cell? ⟨q, 1, none⟩ = some (.int .i64 h.nm) ∧ w'.cell? ⟨q, 2, none⟩ = some (.int .i64 h.bi) ∧ w'.cell? ⟨q, 3, none⟩ = some (.int .i64 h.bv) ∧ w'.cell? ⟨q, 4, none⟩ = some (.string h.base) ∧ w'.cell? ⟨q, 5, none⟩ = some (.slice lo h.log.length lc) ∧ w'.cell? ⟨np, 1, none⟩ = some (.pointer (some ⟨lq, 0, none⟩))) We := ⟨z0, z1, z2, z3, z4, z5, d1⟩
    clear hWe be hZe hNe
    refine wpAnyL_take (i := 0) 22 (v := .pointer (some ⟨np, 0, none⟩)) rfl rfl (by kernel_rfl) (by kernel_rfl) (by kernel_rfl) (by kernel_rfl) (by kernel_rfl) (by kernel_rfl) (fun _ _ _ h => h) hS (by rfl) (by intro w' hSw; obtain ⟨y0, y1, y2, y3, y4, y5, y6⟩ := hSw; go_simp <;> with_reducible rfl) ?_
    simp only [Act.put, List.setIfInBounds_toArray, List.set_cons_zero, List.set_cons_succ]
    refine wpAnyL_take (i := 1) 23 (v := .pointer (some ⟨np, 0, none⟩)) rfl rfl (by kernel_rfl) (by kernel_rfl) (by kernel_rfl) (by kernel_rfl) (by kernel_rfl) (by kernel_rfl) (fun _ _ _ h => h) hS (by rfl) (by intro w' hSw; obtain ⟨y0, y1, y2, y3, y4, y5, y6⟩ := hSw; go_simp <;> with_reducible rfl) ?_
    simp only [Act.put, List.setIfInBounds_toArray, List.set_cons_zero, List.set_cons_succ]
    refine wpAnyL_take (i := 2) 24 (v := .pointer (some ⟨np, 1, none⟩)) rfl rfl (by kernel_rfl) (by kernel_rfl) (by kernel_rfl) (by kernel_rfl) (by kernel_rfl) (by kernel_rfl) (fun _ _ _ h => h) hS (by rfl) (by intro w' hSw; obtain ⟨y0, y1, y2, y3, y4, y5, y6⟩ := hSw; go_simp <;> with_reducible rfl) ?_
    simp only [Act.put, List.setIfInBounds_toArray, List.set_cons_zero, List.set_cons_succ]
    refine wpAnyL_take (i := 3) 25 (v := .pointer (some ⟨lq, 0, none⟩)) rfl rfl (by kernel_rfl) (by kernel_rfl) (by kernel_rfl) (by kernel_rfl) (by kernel_rfl) (by kernel_rfl) (fun _ _ _ h => h) hS (by rfl) (by intro w' hSw; obtain ⟨y0, y1, y2, y3, y4, y5, y6⟩ := hSw; go_simp <;> with_reducible rfl) ?_
    simp only [Act.put, List.setIfInBounds_toArray, List.set_cons_zero, List.set_cons_succ]
    refine wpAnyL_take (i := 4) 26 (v := .agg #[.int .i64 h.vw, .int .i64 h.nm, .int .i64 h.bi, .int .i64 h.bv, .string h.base, .slice lo h.log.length lc]) rfl rfl (by kernel_rfl) (by kernel_rfl) (by kernel_rfl) (by kernel_rfl) (by kernel_rfl) (by kernel_rfl) (fun _ _ _ h => h) hS (by rfl) (by intro w' hSw; obtain ⟨y0, y1, y2, y3, y4, y5, y6⟩ := hSw; go_simp <;> with_reducible rfl) ?_
    simp only [Act.put, List.setIfInBounds_toArray, List.set_cons_zero, List.set_cons_succ]
    refine wpAnyL_take (i := 6) 28 (v := .agg #[.int .i64 h.vw, .int .i64 h.nm, .int .i64 h.bi, .int .i64 h.bv, .string h.base, .slice lo h.log.length lc]) rfl rfl (by kernel_rfl) (by kernel_rfl) (by kernel_rfl) (by kernel_rfl) (by kernel_rfl) (by kernel_rfl) (fun _ _ _ h => h) hS (by rfl) (by intro w' hSw; obtain ⟨y0, y1, y2, y3, y4, y5, y6⟩ := hSw; go_simp <;> with_reducible rfl) ?_
    simp only [Act.put, List.setIfInBounds_toArray, List.set_cons_zero, List.set_cons_succ]
    refine wpAnyL_one (i := 5) (by kernel_rfl) rfl (fun Ka hKa => ?_)
    go_simp
    have HPb : Hid (Calls Tryz.prog 104 #[.agg #[.int .i64 h.vw, .int .i64 h.nm, .int .i64 h.bi, .int .i64 h.bv, .string h.base, .slice lo h.log.length lc]] We fun r w' => r = .returned (.string (str (baseB h))) ∧ Below We.heap.size We w') := putBase_any h HOk.out _
    refine Calls.mono HPb.out ?_
    rintro rr w5 ⟨rfl, hb5⟩
    have HB5 : Hid (Below w.heap.size w w5) := HBe.out.trans (hb5.mono HBe.out.size)
    have hZ5 : w5.heap[q]? = some (.cells #[.int .i64 h.vw, .int .i64 h.nm, .int .i64 h.bi, .int .i64 h.bv, .string h.base, .slice lo h.log.length lc] 66 (0, 0)) := (hb5.block q (vlt_blk HZe.out)).trans HZe.out
    have hN5 : w5.heap[np]? = some (.cells #[.pointer (some ⟨dp, 0, none⟩), .pointer (some ⟨lq, 0, none⟩), .pointer (some ⟨vp, 0, none⟩), .int .i64 g.vw, .int .i64 g.nm, .int .i64 g.bi, .int .i64 g.bv, .string g.base, kv, .int .i64 cm, .int .i64 at_, .bool dead] 87 (0, 0)) := (hb5.block np (vlt_blk HNo.out)).trans HNo.out
    have HZ5 : Hid (w5.heap[q]? = some (.cells #[.int .i64 h.vw, .int .i64 h.nm, .int .i64 h.bi, .int .i64 h.bv, .string h.base, .slice lo h.log.length lc] 66 (0, 0))) := hZ5
    have HN5 : Hid (w5.heap[np]? = some (.cells #[.pointer (some ⟨dp, 0, none⟩), .pointer (some ⟨lq, 0, none⟩), .pointer (some ⟨vp, 0, none⟩), .int .i64 g.vw, .int .i64 g.nm, .int .i64 g.bi, .int .i64 g.bv, .string g.base, kv, .int .i64 cm, .int .i64 at_, .bool dead] 87 (0, 0))) := hN5
    obtain ⟨y0, y1, y2, y3, y4, y5⟩ := hbox6 hZ5
    have x1 := (robox hN5).2.1
    refine hKa.out _ _ (fun _ => ⟨y0, y1, y2, y3, y4, y5, x1⟩) ?_
    clear hKa Ka hS hb5 hZ5 hN5 z0 z1 z2 z3 z4 z5 d1
    try simp only [Act.put, List.setIfInBounds_toArray, List.set_cons_zero, List.set_cons_succ]
    refine wpAnyL_one (i := 7) (by kernel_rfl) rfl (fun Ka hKa => ?_)
    go_simp
    have HPr : Hid (Calls Tryz.prog 105 #[.agg #[.int .i64 h.vw, .int .i64 h.nm, .int .i64 h.bi, .int .i64 h.bv, .string h.base, .slice lo h.log.length lc], .int .i64 0] w5 fun r w' => r = .returned (.string (str (recB h 0))) ∧ Below w5.heap.size w5 w') := putRec_any (same := 0) h HOk.out (HE.out.new HB5.out) (Nat.zero_le _)
    refine Calls.mono HPr.out ?_
    rintro rr w6 ⟨rfl, hb6⟩
    have HB6 : Hid (Below w.heap.size w w6) := HB5.out.trans (hb6.mono HB5.out.size)
    have hZ6 : w6.heap[q]? = some (.cells #[.int .i64 h.vw, .int .i64 h.nm, .int .i64 h.bi, .int .i64 h.bv, .string h.base, .slice lo h.log.length lc] 66 (0, 0)) := (hb6.block q (vlt_blk HZ5.out)).trans HZ5.out
    have hN6 : w6.heap[np]? = some (.cells #[.pointer (some ⟨dp, 0, none⟩), .pointer (some ⟨lq, 0, none⟩), .pointer (some ⟨vp, 0, none⟩), .int .i64 g.vw, .int .i64 g.nm, .int .i64 g.bi, .int .i64 g.bv, .string g.base, kv, .int .i64 cm, .int .i64 at_, .bool dead] 87 (0, 0)) := (hb6.block np (vlt_blk HN5.out)).trans HN5.out
    have HZ6 : Hid (w6.heap[q]? = some (.cells #[.int .i64 h.vw, .int .i64 h.nm, .int .i64 h.bi, .int .i64 h.bv, .string h.base, .slice lo h.log.length lc] 66 (0, 0))) := hZ6
    have HN6 : Hid (w6.heap[np]? = some (.cells #[.pointer (some ⟨dp, 0, none⟩), .pointer (some ⟨lq, 0, none⟩), .pointer (some ⟨vp, 0, none⟩), .int .i64 g.vw, .int .i64 g.nm, .int .i64 g.bi, .int .i64 g.bv, .string g.base, kv, .int .i64 cm, .int .i64 at_, .bool dead] 87 (0, 0))) := hN6
    obtain ⟨u0, u1, u2, u3, u4, u5⟩ := hbox6 hZ6
    have v1 := (robox hN6).2.1
    refine hKa.out _ _ (fun _ => ⟨u0, u1, u2, u3, u4, u5, v1⟩) ?_
    clear hKa Ka hb6 hZ6 hN6 y0 y1 y2 y3 y4 y5 x1
    try simp only [Act.put, List.setIfInBounds_toArray, List.set_cons_zero, List.set_cons_succ]
    refine wpAnyL_one (i := 8) (by kernel_rfl) rfl (fun Ka hKa => ?_)
    go_simp
    have hT7 := tx1 w6 (recB h 0)
    have hb7 : Below w6.heap.size w6 (w6.alloc (.cells #[.string (str (recB h 0))] 9)) := vone_new _ _
    generalize hW7 : w6.alloc (.cells #[.string (str (recB h 0))] 9) = W7 at hT7 hb7 ⊢
    have HB7 : Hid (Below w.heap.size w W7) := HB6.out.trans (hb7.mono HB6.out.size)
    have hZ7 : W7.heap[q]? = some (.cells #[.int .i64 h.vw, .int .i64 h.nm, .int .i64 h.bi, .int .i64 h.bv, .string h.base, .slice lo h.log.length lc] 66 (0, 0)) := (hb7.block q (vlt_blk HZ6.out)).trans HZ6.out
    have hN7 : W7.heap[np]? = some (.cells #[.pointer (some ⟨dp, 0, none⟩), .pointer (some ⟨lq, 0, none⟩), .pointer (some ⟨vp, 0, none⟩), .int .i64 g.vw, .int .i64 g.nm, .int .i64 g.bi, .int .i64 g.bv, .string g.base, kv, .int .i64 cm, .int .i64 at_, .bool dead] 87 (0, 0)) := (hb7.block np (vlt_blk HN6.out)).trans HN6.out
    obtain ⟨s0, s1, s2, s3, s4, s5⟩ := hbox6 hZ7
    have t1 := (robox hN7).2.1
    refine hKa.out _ _ (fun _ => ⟨s0, s1, s2, s3, s4, s5, t1⟩) ?_
    have HT7 : Hid (TxO W7 0 (.slice (some ⟨w6.heap.size, 0, none⟩) 1 1) [recB h 0]) := hT7
    clear hKa Ka hW7 hb7 hZ7 hN7 hT7 u0 u1 u2 u3 u4 u5 v1
    try simp only [Act.put, List.setIfInBounds_toArray, List.set_cons_zero, List.set_cons_succ]
    refine wpAnyL_one (i := 9) (by kernel_rfl) rfl (fun Ka hKa => ?_)
    go_simp
    have HAd : Hid _ := HRe.out W7 HB7.out (.slice (some ⟨w6.heap.size, 0, none⟩) 1 1) HT7.out
    refine Calls.mono HAd.out ?_
    rintro rr w8 ⟨er, rfl, hP8⟩
    have HP8 : Hid (Post er w8) := hP8
    refine hKa.out _ _ (fun hh => absurd hh (Bool.eq_false_iff.1 (by kernel_rfl))) ?_
    clear hKa Ka hP8 s0 s1 s2 s3 s4 s5 t1
    try simp only [Act.put, List.setIfInBounds_toArray, List.set_cons_zero, List.set_cons_succ]
    refine wpAnyL_one (i := 10) (by kernel_rfl) rfl (fun Ka hKa => ?_)
    go_simp
    refine hKa.out _ _ (fun hh => absurd hh (Bool.eq_false_iff.1 (by kernel_rfl))) ?_
    clear hKa Ka
    try simp only [Act.put, List.setIfInBounds_toArray, List.set_cons_zero, List.set_cons_succ]
    refine wpAnyL_done (by kernel_rfl) ?_ _
    go_wp2
    go_ret
    exact ⟨er, rfl, HP8.out⟩
end Go.Proofs.YtnhjflebaeokeaaGreat
end

section
/- rnode: what must be is kept. -/
namespace Go.Proofs.YtnhjflebaeokeaaGreat
open Go.RowKit
attribute [local go_sem] Oper.semAt_some
def hdOf (A : Nd) : Hd := ⟨A.vw, A.nm, A.bi, A.bv, A.base, A.log⟩
theorem there_np {w : World} {b o n : Nat} {cs : Array Value} {t : TypeId} (h : w.heap[b]? = some (.cells cs t (0, 0))) (hn : o + n ≤ cs.size) : w.there b o n := fun j hj => by
  refine ⟨?_, by simp [World.frozen?, h]⟩
  rw [vcell_blk h]
  simp
  omega
theorem fr_setCellsR (b : Nat) {S : Nat → Prop} (hS : S b) : ∀ (vs : List Value) (o : Nat) (w : World), Fr w (w.setCells b o vs) S
  | [], _, w => Fr.refl w S
  | v :: r, o, w => (Fr.setCell w ⟨b, o, none⟩ v hS).trans (fr_setCellsR b hS r (o + 1) _) (fun _ _ h => h)
theorem np_six {w : World} {b : Nat} {t : TypeId} {x0 x1 x2 x3 x4 x5 x6 x7 x8 x9 x10 x11 y3 y4 y5 y6 y7 y8 y9 : Value} (h : w.heap[b]? = some (.cells #[x0, x1, x2, x3, x4, x5, x6, x7, x8, x9, x10, x11] t (0, 0))) :
    ((w.setCells b 3 [y3, y4, y5, y6, y7, y8]).setCell ⟨b, 9, none⟩ y9).heap[b]? = some (.cells #[x0, x1, x2, y3, y4, y5, y6, y7, y8, y9, x10, x11] t (0, 0)) ∧ (w.setCells b 3 [y3, y4, y5, y6, y7, y8]).heap[b]? = some (.cells #[x0, x1, x2, y3, y4, y5, y6, y7, y8, x9, x10, x11] t (0, 0)) ∧ Fr w (w.setCells b 3 [y3, y4, y5, y6, y7, y8]) (fun k => k = b) ∧ Fr w ((w.setCells b 3 [y3, y4, y5, y6, y7, y8]).setCell ⟨b, 9, none⟩ y9) (fun k => k = b) := by
  have k3 : (w.setCell ⟨b, 3, none⟩ y3).heap[b]? = some (.cells #[x0, x1, x2, y3, x4, x5, x6, x7, x8, x9, x10, x11] t (0, 0)) := vblk_set (i := 3) y3 h
  have k4 : ((w.setCell ⟨b, 3, none⟩ y3).setCell ⟨b, 4, none⟩ y4).heap[b]? = some (.cells #[x0, x1, x2, y3, y4, x5, x6, x7, x8, x9, x10, x11] t (0, 0)) := vblk_set (i := 4) y4 k3
  have k5 : (((w.setCell ⟨b, 3, none⟩ y3).setCell ⟨b, 4, none⟩ y4).setCell ⟨b, 5, none⟩ y5).heap[b]? = some (.cells #[x0, x1, x2, y3, y4, y5, x6, x7, x8, x9, x10, x11] t (0, 0)) := vblk_set (i := 5) y5 k4
  have k6 : ((((w.setCell ⟨b, 3, none⟩ y3).setCell ⟨b, 4, none⟩ y4).setCell ⟨b, 5, none⟩ y5).setCell ⟨b, 6, none⟩ y6).heap[b]? = some (.cells #[x0, x1, x2, y3, y4, y5, y6, x7, x8, x9, x10, x11] t (0, 0)) := vblk_set (i := 6) y6 k5
  have k7 : (((((w.setCell ⟨b, 3, none⟩ y3).setCell ⟨b, 4, none⟩ y4).setCell ⟨b, 5, none⟩ y5).setCell ⟨b, 6, none⟩ y6).setCell ⟨b, 7, none⟩ y7).heap[b]? = some (.cells #[x0, x1, x2, y3, y4, y5, y6, y7, x8, x9, x10, x11] t (0, 0)) := vblk_set (i := 7) y7 k6
  have k8 : ((((((w.setCell ⟨b, 3, none⟩ y3).setCell ⟨b, 4, none⟩ y4).setCell ⟨b, 5, none⟩ y5).setCell ⟨b, 6, none⟩ y6).setCell ⟨b, 7, none⟩ y7).setCell ⟨b, 8, none⟩ y8).heap[b]? = some (.cells #[x0, x1, x2, y3, y4, y5, y6, y7, y8, x9, x10, x11] t (0, 0)) := vblk_set (i := 8) y8 k7
  have k9 : (((((((w.setCell ⟨b, 3, none⟩ y3).setCell ⟨b, 4, none⟩ y4).setCell ⟨b, 5, none⟩ y5).setCell ⟨b, 6, none⟩ y6).setCell ⟨b, 7, none⟩ y7).setCell ⟨b, 8, none⟩ y8).setCell ⟨b, 9, none⟩ y9).heap[b]? = some (.cells #[x0, x1, x2, y3, y4, y5, y6, y7, y8, y9, x10, x11] t (0, 0)) := vblk_set (i := 9) y9 k8
  have f := fr_setCellsR b (S := fun k => k = b) rfl [y3, y4, y5, y6, y7, y8] 3 w
  refine ⟨?_, ?_, f, f.trans (Fr.setCell (S := fun k => k = b) _ ⟨b, 9, none⟩ _ rfl) (fun _ _ h => h)⟩
  · simp only [World.setCells]
    exact k9
  · simp only [World.setCells]
    exact k8
set_option linter.unusedSimpArgs false in
set_option maxRecDepth 100000 in
set_option maxHeartbeats 2000000 in
/-- Keep, by what its write does. -/
theorem keep_core {Post : Value → World → Prop} {w : World} {S : Nat → Prop} {np dp lq vp : Nat} {g : Hd} {kv : Value} {cm at_ : Int} {dead : Bool} {A : Nd} (hN : w.heap[np]? = some (.cells (roC dp lq vp g kv cm at_ dead) 87 (0, 0))) (hV : NdAt w S vp A) (ok : A.ok)
    (hWr : ∀ (W : World) (lv : Value), Below w.heap.size w W → EnO W w.heap.size lv A.log → Calls Tryz.prog 67 #[.pointer (some ⟨np, 0, none⟩), hdV (hdOf A) lv] W fun r w' => r = .returned (.int .i64 0) ∧ w'.heap[np]? = some (.cells (roC dp lq vp g kv cm at_ dead) 87 (0, 0)) ∧ NdAt w' S vp A ∧ (∀ (q : Nat) (cs : Array Value), W.heap[q]? = some (.cells cs 66 (0, 0)) → w'.heap[q]? = some (.cells cs 66 (0, 0))) ∧ Post lv w') :
    Calls Tryz.prog 39 #[.pointer (some ⟨np, 0, none⟩)] w fun r w' => r = .returned (.int .i64 0) ∧ ∃ lv w1, Post lv w1 ∧ w'.heap[np]? = some (.cells (roC dp lq vp (hdOf A) lv A.cm at_ dead) 87 (0, 0)) ∧ Fr w1 w' (fun k => k = np) := by
  have HN : Hid (w.heap[np]? = some (.cells #[.pointer (some ⟨dp, 0, none⟩), .pointer (some ⟨lq, 0, none⟩), .pointer (some ⟨vp, 0, none⟩), .int .i64 g.vw, .int .i64 g.nm, .int .i64 g.bi, .int .i64 g.bv, .string g.base, kv, .int .i64 cm, .int .i64 at_, .bool dead] 87 (0, 0))) := hN
  have HV : Hid (NdAt w S vp A) := hV
  have HOk : Hid A.ok := ok
  have HWr : Hid _ := hWr
  obtain ⟨c0, c1, c2, -⟩ := robox HN.out
  have HHd : Hid (Calls Tryz.prog 29 #[.pointer (some ⟨vp, 0, none⟩)] w fun r w' => ∃ lv', r = .returned (.agg #[.int .i64 A.vw, .int .i64 A.nm, .int .i64 A.bi, .int .i64 A.bv, .string A.base, lv']) ∧ EnO w' w.heap.size lv' A.log ∧ Below w.heap.size w w') := by
    obtain ⟨lv, mw, mg, mu, mk, hNA⟩ := hV
    exact hard_any hNA ok
  clear hN hV ok hWr
  go_enter Tryz.func39, Tryz.ntmps39
  go_upto_region 2 with (first
    | (go_at_call 29; refine HHd.out.mono ?_; rintro rr w1 ⟨lv, rfl, hE1, hb1⟩; obtain ⟨lo, ln, lc, rfl⟩ : ∃ lo ln lc, lv = .slice lo ln lc := (by obtain ⟨a, b, e, -⟩ := hE1.shape; exact ⟨a, _, b, e⟩); have HE1 : Hid (EnO w1 w.heap.size (.slice lo ln lc) A.log) := hE1; have HB1 : Hid (Below w.heap.size w w1) := hb1; clear hE1 hb1)
    | (refine wpList_store_row rfl 66 _ _ rfl _ #[.int .i64 A.vw, .int .i64 A.nm, .int .i64 A.bi, .int .i64 A.bv, .string A.base, .slice lo ln lc] rfl rfl 66 #[.int .i64 0, .int .i64 0, .int .i64 0, .int .i64 0, .string (str []), .slice none 0 0] (heap_alloc_new _ _) size_hard rfl (by simp [Value.oneCell']) ?_))
  generalize hW2 : World.setRow _ _ _ = W2
  have hbx : W2.heap[w1.heap.size]? = some (.cells #[.int .i64 A.vw, .int .i64 A.nm, .int .i64 A.bi, .int .i64 A.bv, .string A.base, .slice lo ln lc] 66 (0, 0)) := by rw [← hW2]; exact setRow_heap _ _ _ _ _ _ (heap_alloc_new _ _)
  have hb2 : Below w1.heap.size w1 W2 := by rw [← hW2]; exact ((Fr.alloc w1 _ (fun _ => False)).trans (vfr_setRow _ _ _) (fun i hi e => absurd e (by omega))).below (Nat.le_refl _) (fun _ h => h.elim)
  have HB2 : Hid (Below w.heap.size w W2) := HB1.out.trans (hb2.mono HB1.out.size)
  have HE2 : Hid (EnO W2 w.heap.size (.slice lo ln lc) A.log) := HE1.out.new hb2
  obtain ⟨q, hq⟩ : ∃ q, w1.heap.size = q := ⟨_, rfl⟩
  rw [hq] at hbx ⊢
  have HBx : Hid (W2.heap[q]? = some (.cells #[.int .i64 A.vw, .int .i64 A.nm, .int .i64 A.bi, .int .i64 A.bv, .string A.base, .slice lo ln lc] 66 (0, 0))) := hbx
  have HW2 : Hid (Calls Tryz.prog 67 #[.pointer (some ⟨np, 0, none⟩), .agg #[.int .i64 A.vw, .int .i64 A.nm, .int .i64 A.bi, .int .i64 A.bv, .string A.base, .slice lo ln lc]] W2 fun r w' => r = .returned (.int .i64 0) ∧ w'.heap[np]? = some (.cells #[.pointer (some ⟨dp, 0, none⟩), .pointer (some ⟨lq, 0, none⟩), .pointer (some ⟨vp, 0, none⟩), .int .i64 g.vw, .int .i64 g.nm, .int .i64 g.bi, .int .i64 g.bv, .string g.base, kv, .int .i64 cm, .int .i64 at_, .bool dead] 87 (0, 0)) ∧ NdAt w' S vp A ∧ (∀ (q : Nat) (cs : Array Value), W2.heap[q]? = some (.cells cs 66 (0, 0)) → w'.heap[q]? = some (.cells cs 66 (0, 0))) ∧ Post (.slice lo ln lc) w') := HWr.out W2 (.slice lo ln lc) HB2.out HE2.out
  clear hW2 hbx hb2 hq HE1 HHd
  go_upto_region 6 with (first
    | (refine wpList_load_row rfl 66 _ rfl q rfl 66 #[.int .i64 A.vw, .int .i64 A.nm, .int .i64 A.bi, .int .i64 A.bv, .string A.base, .slice lo ln lc] (0, 0) _ HBx.out Tryz.underlying66 rfl size_hard ?_)
    | (go_at_call 67; refine HW2.out.mono ?_; rintro rr w3 ⟨rfl, hN3, hV3, hH3, hP3⟩; have HN3 : Hid (w3.heap[np]? = some (.cells #[.pointer (some ⟨dp, 0, none⟩), .pointer (some ⟨lq, 0, none⟩), .pointer (some ⟨vp, 0, none⟩), .int .i64 g.vw, .int .i64 g.nm, .int .i64 g.bi, .int .i64 g.bv, .string g.base, kv, .int .i64 cm, .int .i64 at_, .bool dead] 87 (0, 0))) := hN3; have HV3 : Hid (NdAt w3 S vp A) := hV3; have HX3 : Hid (w3.heap[q]? = some (.cells #[.int .i64 A.vw, .int .i64 A.nm, .int .i64 A.bi, .int .i64 A.bv, .string A.base, .slice lo ln lc] 66 (0, 0))) := hH3 q _ HBx.out; have HP3 : Hid (Post (.slice lo ln lc) w3) := hP3; clear hN3 hV3 hH3 hP3))
  obtain ⟨Wd, hWd⟩ : ∃ Wd, w3.drew = Wd := ⟨_, rfl⟩
  have bd : Below w3.heap.size w3 Wd := by rw [← hWd]; exact Below.drew (Below.refl _ _)
  have hNd : Wd.heap[np]? = some (.cells #[.pointer (some ⟨dp, 0, none⟩), .pointer (some ⟨lq, 0, none⟩), .pointer (some ⟨vp, 0, none⟩), .int .i64 g.vw, .int .i64 g.nm, .int .i64 g.bi, .int .i64 g.bv, .string g.base, kv, .int .i64 cm, .int .i64 at_, .bool dead] 87 (0, 0)) := (bd.block np (vlt_blk HN3.out)).trans HN3.out
  have hXd : Wd.heap[q]? = some (.cells #[.int .i64 A.vw, .int .i64 A.nm, .int .i64 A.bi, .int .i64 A.bv, .string A.base, .slice lo ln lc] 66 (0, 0)) := (bd.block q (vlt_blk HX3.out)).trans HX3.out
  have HVd : Hid (NdAt Wd S vp A) := HV3.out.new bd
  have HBd : Hid (Below w3.heap.size w3 Wd) := bd
  have hqn : q ≠ np := fun e => by subst e; rw [hNd] at hXd; cases hXd
  obtain ⟨z0, z1, z2, z3, z4, z5⟩ := hbox6 hXd
  have d2 := (robox hNd).2.2.1
  refine wp_calmV ?_
  refine wp_region_L [] (fun w' : World => w'.cell? ⟨q, 0, none⟩ = some (.int .i64 A.vw) ∧ w'.cell? ⟨q, 1, none⟩ = some (.int .i64 A.nm) ∧ w'.cell? ⟨q, 2, none⟩ = some (.int .i64 A.bi) ∧ w'.cell? ⟨q, 3, none⟩ = some (.int .i64 A.bv) ∧ w'.cell? ⟨q, 4, none⟩ = some (.string A.base) ∧ w'.cell? ⟨q, 5, none⟩ = some (.slice lo ln lc) ∧ w'.cell? ⟨np, 2, none⟩ = some (.pointer (some ⟨vp, 0, none⟩))) (by kernel_rfl) ?_
  rw [hWd]
  have hS : (fun w' : World => w'.cell? ⟨q, 0, none⟩ = some (.int .i64 A.vw) ∧ w'.cell? ⟨q, 1, none⟩ = some (.int .i64 A.nm) ∧ w'.cell? ⟨q, 2, none⟩ = some (.int .i64 A.bi) ∧ w'.cell? ⟨q, 3, none⟩ = some (.int .i64 A.bv) ∧ w'.cell? ⟨q, 4, none⟩ = some (.string A.base) ∧ w'.cell? ⟨q, 5, none⟩ = some (.slice lo ln lc) ∧ w'.cell? ⟨np, 2, none⟩ = some (.pointer (some ⟨vp, 0, none⟩))) Wd := ⟨z0, z1, z2, z3, z4, z5, d2⟩
  clear hWd bd c0 c1 c2
  refine wpAnyL_take (i := 0) 18 (v := .pointer (some ⟨np, 0, none⟩)) rfl rfl (by kernel_rfl) (by kernel_rfl) (by kernel_rfl) (by kernel_rfl) (by kernel_rfl) (by kernel_rfl) (fun _ _ _ h => h) hS (by rfl) (by intro w' hSw; obtain ⟨y0, y1, y2, y3, y4, y5, y6⟩ := hSw; go_simp <;> with_reducible rfl) ?_
  simp only [Act.put, List.setIfInBounds_toArray, List.set_cons_zero, List.set_cons_succ]
  refine wpAnyL_take (i := 1) 19 (v := .pointer (some ⟨np, 0, none⟩)) rfl rfl (by kernel_rfl) (by kernel_rfl) (by kernel_rfl) (by kernel_rfl) (by kernel_rfl) (by kernel_rfl) (fun _ _ _ h => h) hS (by rfl) (by intro w' hSw; obtain ⟨y0, y1, y2, y3, y4, y5, y6⟩ := hSw; go_simp <;> with_reducible rfl) ?_
  simp only [Act.put, List.setIfInBounds_toArray, List.set_cons_zero, List.set_cons_succ]
  refine wpAnyL_take (i := 2) 20 (v := .agg #[.int .i64 A.vw, .int .i64 A.nm, .int .i64 A.bi, .int .i64 A.bv, .string A.base, .slice lo ln lc]) rfl rfl (by kernel_rfl) (by kernel_rfl) (by kernel_rfl) (by kernel_rfl) (by kernel_rfl) (by kernel_rfl) (fun _ _ _ h => h) hS (by rfl) (by intro w' hSw; obtain ⟨y0, y1, y2, y3, y4, y5, y6⟩ := hSw; go_simp <;> with_reducible rfl) ?_
  simp only [Act.put, List.setIfInBounds_toArray, List.set_cons_zero, List.set_cons_succ]
  refine wpAnyL_take (i := 3) 21 (v := .pointer (some ⟨np, 0, none⟩)) rfl rfl (by kernel_rfl) (by kernel_rfl) (by kernel_rfl) (by kernel_rfl) (by kernel_rfl) (by kernel_rfl) (fun _ _ _ h => h) hS (by rfl) (by intro w' hSw; obtain ⟨y0, y1, y2, y3, y4, y5, y6⟩ := hSw; go_simp <;> with_reducible rfl) ?_
  simp only [Act.put, List.setIfInBounds_toArray, List.set_cons_zero, List.set_cons_succ]
  refine wpAnyL_take (i := 4) 22 (v := .pointer (some ⟨np, 0, none⟩)) rfl rfl (by kernel_rfl) (by kernel_rfl) (by kernel_rfl) (by kernel_rfl) (by kernel_rfl) (by kernel_rfl) (fun _ _ _ h => h) hS (by rfl) (by intro w' hSw; obtain ⟨y0, y1, y2, y3, y4, y5, y6⟩ := hSw; go_simp <;> with_reducible rfl) ?_
  simp only [Act.put, List.setIfInBounds_toArray, List.set_cons_zero, List.set_cons_succ]
  refine wpAnyL_take (i := 5) 23 (v := .pointer (some ⟨np, 2, none⟩)) rfl rfl (by kernel_rfl) (by kernel_rfl) (by kernel_rfl) (by kernel_rfl) (by kernel_rfl) (by kernel_rfl) (fun _ _ _ h => h) hS (by rfl) (by intro w' hSw; obtain ⟨y0, y1, y2, y3, y4, y5, y6⟩ := hSw; go_simp <;> with_reducible rfl) ?_
  simp only [Act.put, List.setIfInBounds_toArray, List.set_cons_zero, List.set_cons_succ]
  refine wpAnyL_take (i := 6) 24 (v := .pointer (some ⟨vp, 0, none⟩)) rfl rfl (by kernel_rfl) (by kernel_rfl) (by kernel_rfl) (by kernel_rfl) (by kernel_rfl) (by kernel_rfl) (fun _ _ _ h => h) hS (by rfl) (by intro w' hSw; obtain ⟨y0, y1, y2, y3, y4, y5, y6⟩ := hSw; go_simp <;> with_reducible rfl) ?_
  simp only [Act.put, List.setIfInBounds_toArray, List.set_cons_zero, List.set_cons_succ]
  refine wpAnyL_one (i := 7) (by kernel_rfl) rfl (fun Ka hKa => ?_)
  go_simp
  have HCm : Hid (Calls Tryz.prog 53 #[.pointer (some ⟨vp, 0, none⟩)] Wd fun r w' => r = .returned (.int .i64 A.cm) ∧ ∃ q, w' = Wd.drewN q) := by
    obtain ⟨lv, mw, mg, mu, mk, hNA⟩ := HVd.out
    exact commit_any hNA HOk.out
  refine Calls.mono HCm.out ?_
  rintro rr w4 ⟨rfl, nq, hw4⟩
  have b4 : Below Wd.heap.size Wd w4 := by rw [hw4]; exact below_dn _ _
  have hN4 : w4.heap[np]? = some (.cells #[.pointer (some ⟨dp, 0, none⟩), .pointer (some ⟨lq, 0, none⟩), .pointer (some ⟨vp, 0, none⟩), .int .i64 g.vw, .int .i64 g.nm, .int .i64 g.bi, .int .i64 g.bv, .string g.base, kv, .int .i64 cm, .int .i64 at_, .bool dead] 87 (0, 0)) := (b4.block np (vlt_blk hNd)).trans hNd
  have hX4 : w4.heap[q]? = some (.cells #[.int .i64 A.vw, .int .i64 A.nm, .int .i64 A.bi, .int .i64 A.bv, .string A.base, .slice lo ln lc] 66 (0, 0)) := (b4.block q (vlt_blk hXd)).trans hXd
  have HB4 : Hid (Below w3.heap.size w3 w4) := HBd.out.trans (b4.mono HBd.out.size)
  obtain ⟨u0, u1, u2, u3, u4, u5⟩ := hbox6 hX4
  have v2 := (robox hN4).2.2.1
  have hS1 : (fun w' : World => w'.cell? ⟨q, 0, none⟩ = some (.int .i64 A.vw) ∧ w'.cell? ⟨q, 1, none⟩ = some (.int .i64 A.nm) ∧ w'.cell? ⟨q, 2, none⟩ = some (.int .i64 A.bi) ∧ w'.cell? ⟨q, 3, none⟩ = some (.int .i64 A.bv) ∧ w'.cell? ⟨q, 4, none⟩ = some (.string A.base) ∧ w'.cell? ⟨q, 5, none⟩ = some (.slice lo ln lc) ∧ w'.cell? ⟨np, 2, none⟩ = some (.pointer (some ⟨vp, 0, none⟩))) w4 := ⟨u0, u1, u2, u3, u4, u5, v2⟩
  refine hKa.out _ _ (fun _ => hS1) ?_
  clear hKa Ka hS hw4 b4 z0 z1 z2 z3 z4 z5 d2 HCm
  try simp only [Act.put, List.setIfInBounds_toArray, List.set_cons_zero, List.set_cons_succ]
  refine wpAnyL_take (i := 8) 26 (v := .pointer (some ⟨np, 0, none⟩)) rfl rfl (by kernel_rfl) (by kernel_rfl) (by kernel_rfl) (by kernel_rfl) (by kernel_rfl) (by kernel_rfl) (fun _ _ _ h => h) hS1 (by rfl) (by intro w' hSw; obtain ⟨y0, y1, y2, y3, y4, y5, y6⟩ := hSw; go_simp <;> with_reducible rfl) ?_
  simp only [Act.put, List.setIfInBounds_toArray, List.set_cons_zero, List.set_cons_succ]
  refine wpAnyL_take (i := 9) 27 (v := .pointer (some ⟨np, 3, none⟩)) rfl rfl (by kernel_rfl) (by kernel_rfl) (by kernel_rfl) (by kernel_rfl) (by kernel_rfl) (by kernel_rfl) (fun _ _ _ h => h) hS1 (by rfl) (by intro w' hSw; obtain ⟨y0, y1, y2, y3, y4, y5, y6⟩ := hSw; go_simp <;> with_reducible rfl) ?_
  simp only [Act.put, List.setIfInBounds_toArray, List.set_cons_zero, List.set_cons_succ]
  refine wpAnyL_one (i := 10) (by kernel_rfl) rfl (fun Ka hKa => ?_)
  refine wp_store_mid 66 _ _ rfl np 3 #[.int .i64 A.vw, .int .i64 A.nm, .int .i64 A.bi, .int .i64 A.bv, .string A.base, .slice lo ln lc] rfl rfl (there_np hN4 (by simp)) size_hard (by simp [Value.oneCell']) ?_
  obtain ⟨n9, n8, fa, fb⟩ := np_six (y3 := .int .i64 A.vw) (y4 := .int .i64 A.nm) (y5 := .int .i64 A.bi) (y6 := .int .i64 A.bv) (y7 := .string A.base) (y8 := .slice lo ln lc) (y9 := .int .i64 A.cm) hN4
  have HN9 : Hid _ := n9
  have HFb : Hid _ := fb
  have hX5 := (fa.block q (vlt_blk hX4) hqn).trans hX4
  obtain ⟨x0, x1, x2, x3, x4, x5⟩ := hbox6 hX5
  have y2 := (robox n8).2.2.1
  have c9 := (robox n8).2.2.2.2.2.2.2.1
  have f9 := vfree n8 9
  refine hKa.out _ _ (fun _ => ⟨x0, x1, x2, x3, x4, x5, y2⟩) ?_
  have hS2 : (fun w' : World => w'.cell? ⟨q, 0, none⟩ = some (.int .i64 A.vw) ∧ w'.cell? ⟨q, 1, none⟩ = some (.int .i64 A.nm) ∧ w'.cell? ⟨q, 2, none⟩ = some (.int .i64 A.bi) ∧ w'.cell? ⟨q, 3, none⟩ = some (.int .i64 A.bv) ∧ w'.cell? ⟨q, 4, none⟩ = some (.string A.base) ∧ w'.cell? ⟨q, 5, none⟩ = some (.slice lo ln lc) ∧ w'.cell? ⟨np, 2, none⟩ = some (.pointer (some ⟨vp, 0, none⟩))) (w4.setCells np 3 [.int .i64 A.vw, .int .i64 A.nm, .int .i64 A.bi, .int .i64 A.bv, .string A.base, .slice lo ln lc]) := ⟨x0, x1, x2, x3, x4, x5, y2⟩
  clear hKa Ka n9 fb
  try simp only [Act.put, List.setIfInBounds_toArray, List.set_cons_zero, List.set_cons_succ]
  generalize hW5 : w4.setCells np 3 _ = W5 at *
  refine wpAnyL_one (i := 11) (by kernel_rfl) rfl (fun Ka hKa => ?_)
  go_simp
  refine hKa.out _ _ (fun _ => hS2) ?_
  clear hKa Ka
  try simp only [Act.put, List.setIfInBounds_toArray, List.set_cons_zero, List.set_cons_succ]
  refine wpAnyL_one (i := 12) (by kernel_rfl) rfl (fun Ka hKa => ?_)
  go_simp
  refine hKa.out _ _ (fun _ => hS2) ?_
  clear hKa Ka
  try simp only [Act.put, List.setIfInBounds_toArray, List.set_cons_zero, List.set_cons_succ]
  refine wpAnyL_one (i := 13) (by kernel_rfl) rfl (fun Ka hKa => ?_)
  go_simp
  refine hKa.out _ _ (fun hh => ?_) ?_
  · have fs : Fr W5 (W5.setCell ⟨np, 9, none⟩ (.int .i64 A.cm)) (fun k => k = np) := Fr.setCell (S := fun k => k = np) _ ⟨np, 9, none⟩ _ rfl
    have hX6 := (fs.block q (vlt_blk hX5) hqn).trans hX5
    obtain ⟨p0, p1, p2, p3, p4, p5⟩ := hbox6 hX6
    have y2' := (robox HN9.out).2.2.1
    exact ⟨p0, p1, p2, p3, p4, p5, y2'⟩
  clear hKa Ka
  try simp only [Act.put, List.setIfInBounds_toArray, List.set_cons_zero, List.set_cons_succ]
  refine wpAnyL_done (by kernel_rfl) ?_ _
  clear hS1 hS2 x0 x1 x2 x3 x4 x5 y2 u0 u1 u2 u3 u4 u5 v2 c9 f9
  go_wp2
  go_ret
  exact ⟨rfl, _, w3, HP3.out, HN9.out, (Fr.ofBelow HB4.out _).trans HFb.out (fun _ _ h => h)⟩
end Go.Proofs.YtnhjflebaeokeaaGreat
end

section
/- rnode: a master on its disk, in memory; what must be is kept. -/
namespace Go.Proofs.YtnhjflebaeokeaaGreat
open Go.RowKit
variable {Xm : Nat → Prop}
/-- A master, its log and its disk. S: the blocks of the master in view. -/
structure RA (Xm : Nat → Prop) (w : World) (S : Nat → Prop) (B np dp lq vp : Nat) (A : Nd) (g : Hd) (kv rv : Value) (cm at_ : Int) (D : Dk) (R : List Bs) : Prop where
  blk : w.heap[np]? = some (.cells (roC dp lq vp g kv cm at_ false) 87 (0, 0))
  disk : DkAt Xm w B dp D
  log : Lg w B lq dp (baseB g) rv R
  view : NdAt w S vp A
  kept : EnO w B kv g.log
  xs : ∀ k, S k → Xm k
  nl : ¬ S lq
  nr : ∀ k, rv.ownBlock = some k → ¬ S k
  nn : ¬ S np
  nk : ∀ k, kv.ownBlock = some k → ¬ S k
  hB : B ≤ w.heap.size
  nB : B ≤ np
  SB : ∀ k, S k → B ≤ k
  bd : ∀ k, S k → k < w.heap.size
/-- What stands on the disk. -/
structure PD (D : Dk) (g : Hd) (R : List Bs) (k : Nat) : Prop where
  cl : Cl D 1000000000000 k
  file : getF log_ D.sure = some (frs (baseB g :: R))
  rd : Reads ⟨0, 0, g.bi, g.bv, g.base, []⟩ R g
  len : R.length ≤ 41
  ok : g.ok
  sm : ∀ x ∈ R, x.length ≤ 990000
theorem recB_small (h : Hd) (ok : h.ok) (same : Nat) (hs : same ≤ h.log.length) : (recB h same).length ≤ 990000 := by
  have k1 := numB_len10 (n := h.vw.toNat) (by have := ok.vw1; omega)
  have k2 := numB_len10 (n := h.nm.toNat) (by have := ok.nm1; omega)
  have k3 := numB_len10 (n := (h.bi + same).toNat) (by have := ok.bi1; have := ok.len; omega)
  have k4 := numB_len10 (n := h.log.length - same) (by have := ok.len; omega)
  have k5 := ents_take (h.log.drop same) (fun e he => by have := (ok.ev e (List.mem_of_mem_drop he)).2; omega) (by have := entsN_drop h.log same; have := ok.room; omega) _ (Nat.le_refl _)
  rw [List.take_length] at k5
  have k6 := entsN_drop h.log same
  have k7 := ok.room
  unfold recB
  simp only [List.length_append]
  omega
theorem frs_small {x : Bs} (h : x.length ≤ 990000) : (frs [x]).length ≤ 1000000 := by
  rw [frs_one]
  have := frameB_le x (by omega)
  omega
theorem frs_len : ∀ (l : List Bs), (∀ x ∈ l, x.length ≤ 1000000) → (frs l).length ≤ 1000020 * l.length
  | [], _ => by simp [frs]
  | x :: l, h => by
    have h1 := frs_len l (fun y hy => h y (List.mem_cons_of_mem _ hy))
    have h2 := h x List.mem_cons_self
    have h3 := frameB_le x (by omega)
    have h4 : (frs (x :: l)).length = (frameB x).length + (frs l).length := by simp [frs]
    rw [h4, List.length_cons]
    omega
theorem f3_not {W : World} {B lq dp k : Nat} {snap : Bs} {rv : Value} {R : List Bs} {cs : Array Value} {t : TypeId} {f : Nat × Nat} (hL : Lg W B lq dp snap rv R) (h : W.heap[k]? = some (.cells cs t f)) (h1 : t ≠ 83) (h2 : t ≠ 122) (h3 : t ≠ 144) (h4 : t ≠ 9) : ¬ ((B ≤ k ∧ DkB Xm W k) ∨ k = lq ∨ rv.ownBlock = some k) := by
  rintro (⟨-, ⟨es, c, hm⟩ | ⟨c, t', f', hm, ht⟩, -⟩ | rfl | hr)
  · rw [h] at hm; cases hm
  · rw [h] at hm
    cases hm
    rcases ht with e | e
    · exact h1 e
    · exact h2 e
  · have := hL.blk
    rw [h] at this
    cases this
    exact h3 rfl
  · obtain ⟨_, c, f', hm⟩ := hL.row.tag hr
    rw [h] at hm
    cases hm
    exact h4 rfl
end Go.Proofs.YtnhjflebaeokeaaGreat
end
