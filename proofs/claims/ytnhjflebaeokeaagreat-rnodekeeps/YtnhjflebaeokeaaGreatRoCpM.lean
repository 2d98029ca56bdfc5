import Derived.Test.YtnhjflebaeokeaaGreatRoNyM
section
/- rnode: a master alone stands up from its disk. -/
namespace Go.Proofs.YtnhjflebaeokeaaGreat
open Go.RowKit
attribute [local go_sem] Oper.semAt_some
variable {Xm : Nat → Prop}
theorem hd_zero : ∀ x : Hd, x.vw = 0 → x.nm = 0 → (⟨0, 0, x.bi, x.bv, x.base, x.log⟩ : Hd) = x := by
  rintro ⟨a, b, c, d, e, f⟩ h1 h2
  simp only at h1 h2
  subst h1
  subst h2
  rfl
set_option linter.unusedSimpArgs false in
set_option maxRecDepth 100000 in
set_option maxHeartbeats 2000000 in
theorem open_core {J : Nat → Prop} {w : World} {B dp k : Nat} {D : Dk} {g : Hd} {R : List Bs} {A : Nd} (hO : Calls Tryz.prog 50 #[.pointer (some ⟨dp, 0, none⟩)] w fun r w' => ∃ q rv n, r = .returned (.tuple #[.pointer (some ⟨q, 0, none⟩), .int .i64 n, .int .i64 0]) ∧ Lg w' B q dp (baseB g) rv R ∧ DkAt Xm w' B dp D ∧ FrD Xm B w w' ∧ ∀ k, rv.ownBlock = some k → w.heap.size ≤ k) (hJ : ∀ i, J i → ∃ c f, w.heap[i]? = some (.cells c 9 f)) (hB : B ≤ w.heap.size) (hP : PD D g R k) (hv : g.vw = 0 ∧ g.nm = 0) (hA : (Nd.born 0 1 0 0 g.bi g.bv g.base g.log).counted = A) :
    Calls Tryz.prog 26 #[.pointer (some ⟨dp, 0, none⟩), .int .i64 0, .int .i64 1] w fun r w' => ∃ np, r = .returned (.tuple #[.pointer (some ⟨np, 0, none⟩), .int .i64 0]) ∧ RK J w' B np dp A g.bi k ∧ FrD Xm B w w' := by
  have HO : Hid _ := hO
  have HJ : Hid (∀ i, J i → ∃ c f, w.heap[i]? = some (.cells c 9 f)) := hJ
  have HP : Hid (PD D g R k) := hP
  have HG : Hid (g.vw = 0 ∧ g.nm = 0) := hv
  have HAe : Hid ((Nd.born 0 1 0 0 g.bi g.bv g.base g.log).counted = A) := hA
  have HM : Hid (mayN 0 1 g.vw g.nm g.bi g.log.length = true) := by
    show _ = _
    have k1 := hP.ok.bi0
    have k2 := hP.ok.bi1
    have k3 := hP.ok.len
    rw [hv.1, hv.2]
    simp [mayN, mayI, numI, k1, k2, k3]
  clear hO hJ hP hv hA
  go_enter Tryz.func26, Tryz.ntmps26
  go_upto_region 4 with (go_at_call 50; refine Calls.mono HO.out ?_; rintro rr w1 ⟨lq, rv, n, rfl, hL1, hD1, hb1, hv1⟩; have HV1 : Hid (∀ k, rv.ownBlock = some k → w.heap.size ≤ k) := hv1; have HL1 : Hid (Lg w1 B lq dp (baseB g) rv R) := hL1; have HD1 : Hid (DkAt Xm w1 B dp D) := hD1; have HB1 : Hid (Below B w w1) := FrD.below hb1 hB; have HF1 : Hid (FrD Xm B w w1) := hb1; clear hL1 hD1 hb1 hv1)
  have HRb : Hid (Calls Tryz.prog 51 #[.pointer (some ⟨lq, 0, none⟩)] w1 fun r w' => ∃ v, r = .returned (.tuple #[hdV g v, .bool true]) ∧ EnO w' w1.heap.size v g.log ∧ Below w1.heap.size w1 w') := readBack_any g g HL1.out HP.out.ok HP.out.rd (by have := HP.out.len; omega)
  go_upto_region 5 with (first
    | (go_at_call 51; refine Calls.mono HRb.out ?_; rintro rr w2 ⟨v, rfl, hE2, hb2⟩; obtain ⟨vo, vn, vc, rfl⟩ : ∃ vo vn vc, v = .slice vo vn vc := (by obtain ⟨a, b, e, -⟩ := hE2.shape; exact ⟨a, _, b, e⟩); have HE2 : Hid (EnO w2 w1.heap.size (.slice vo vn vc) g.log) := hE2; have HB2 : Hid (Below w1.heap.size w1 w2) := hb2; clear hE2 hb2; simp only [hdV])
    | (refine wpList_store_row rfl 66 _ _ rfl _ #[.int .i64 g.vw, .int .i64 g.nm, .int .i64 g.bi, .int .i64 g.bv, .string g.base, .slice vo vn vc] rfl rfl 66 #[.int .i64 0, .int .i64 0, .int .i64 0, .int .i64 0, .string (str []), .slice none 0 0] (heap_alloc_new _ _) size_hard rfl (by simp [Value.oneCell']) ?_))
  generalize hW3 : World.setRow _ _ _ = W3
  have hbx : W3.heap[w2.heap.size]? = some (.cells #[.int .i64 g.vw, .int .i64 g.nm, .int .i64 g.bi, .int .i64 g.bv, .string g.base, .slice vo vn vc] 66 (0, 0)) := by rw [← hW3]; exact setRow_heap _ _ _ _ _ _ (heap_alloc_new _ _)
  have hb3 : Below w2.heap.size w2 W3 := by rw [← hW3]; exact ((Fr.alloc w2 _ (fun _ => False)).trans (vfr_setRow _ _ _) (fun i hi e => absurd e (by omega))).below (Nat.le_refl _) (fun _ h => h.elim)
  have HB3 : Hid (Below w1.heap.size w1 W3) := HB2.out.trans (hb3.mono HB2.out.size)
  have HE3 : Hid (EnO W3 w1.heap.size (.slice vo vn vc) g.log) := HE2.out.new hb3
  obtain ⟨b, hbb⟩ : ∃ b, w2.heap.size = b := ⟨_, rfl⟩
  rw [hbb] at hbx ⊢
  have HBx : Hid (W3.heap[b]? = some (.cells #[.int .i64 g.vw, .int .i64 g.nm, .int .i64 g.bi, .int .i64 g.bv, .string g.base, .slice vo vn vc] 66 (0, 0))) := hbx
  have HNw : Hid (Calls Tryz.prog 52 #[.int .i64 0, .int .i64 1, .agg #[.int .i64 g.vw, .int .i64 g.nm, .int .i64 g.bi, .int .i64 g.bv, .string g.base, .slice vo vn vc]] W3 fun r w' => ∃ p, r = .returned (.tuple #[.pointer (some ⟨p, 0, none⟩), .int .i64 0]) ∧ NdAt w' (fun k => W3.heap.size ≤ k) p A ∧ Below W3.heap.size W3 w') := by
    have := new_ok (me := 0) (all := 1) (vw := g.vw) (nm := g.nm) (bi := g.bi) (bv := g.bv) (base := g.base) HE3.out.toS HM.out
    rw [HG.out.1, HG.out.2, HAe.out] at this
    rw [HG.out.1, HG.out.2]
    exact this
  clear hW3 hbx hb3 hbb
  go_upto_region 10 with (first
    | (refine wpList_load_row rfl 66 _ rfl b rfl 66 #[.int .i64 g.vw, .int .i64 g.nm, .int .i64 g.bi, .int .i64 g.bv, .string g.base, .slice vo vn vc] (0, 0) _ HBx.out Tryz.underlying66 rfl size_hard ?_)
    | (go_at_call 52; refine Calls.mono HNw.out ?_; rintro rr w4 ⟨vp, rfl, hV4, hb4⟩; have HV4 : Hid (NdAt w4 (fun k => W3.heap.size ≤ k) vp A) := hV4; have HB4 : Hid (Below W3.heap.size W3 w4) := hb4; clear hV4 hb4))
  obtain ⟨Wd, hWd⟩ : ∃ Wd, w4.drew = Wd := ⟨_, rfl⟩
  have bd : Below w4.heap.size w4 Wd := by rw [← hWd]; exact Below.drew (Below.refl _ _)
  have HBd : Hid (Below W3.heap.size W3 Wd) := HB4.out.trans (bd.mono HB4.out.size)
  have hXd : Wd.heap[b]? = some (.cells #[.int .i64 g.vw, .int .i64 g.nm, .int .i64 g.bi, .int .i64 g.bv, .string g.base, .slice vo vn vc] 66 (0, 0)) := (HBd.out.block b (vlt_blk HBx.out)).trans HBx.out
  have HVd : Hid (NdAt Wd (fun k => W3.heap.size ≤ k) vp A) := HV4.out.new bd
  obtain ⟨z0, z1, z2, z3, z4, z5⟩ := hbox6 hXd
  refine wp_calmV ?_
  refine wp_region_L [] (fun w' : World => w'.cell? ⟨b, 0, none⟩ = some (.int .i64 g.vw) ∧ w'.cell? ⟨b, 1, none⟩ = some (.int .i64 g.nm) ∧ w'.cell? ⟨b, 2, none⟩ = some (.int .i64 g.bi) ∧ w'.cell? ⟨b, 3, none⟩ = some (.int .i64 g.bv) ∧ w'.cell? ⟨b, 4, none⟩ = some (.string g.base) ∧ w'.cell? ⟨b, 5, none⟩ = some (.slice vo vn vc)) (by kernel_rfl) ?_
  rw [hWd]
  have hS : (fun w' : World => w'.cell? ⟨b, 0, none⟩ = some (.int .i64 g.vw) ∧ w'.cell? ⟨b, 1, none⟩ = some (.int .i64 g.nm) ∧ w'.cell? ⟨b, 2, none⟩ = some (.int .i64 g.bi) ∧ w'.cell? ⟨b, 3, none⟩ = some (.int .i64 g.bv) ∧ w'.cell? ⟨b, 4, none⟩ = some (.string g.base) ∧ w'.cell? ⟨b, 5, none⟩ = some (.slice vo vn vc)) Wd := ⟨z0, z1, z2, z3, z4, z5⟩
  clear hWd bd
  refine wpAnyL_take (i := 0) 40 (v := .pointer (some ⟨dp, 0, none⟩)) rfl rfl (by kernel_rfl) (by kernel_rfl) (by kernel_rfl) (by kernel_rfl) (by kernel_rfl) (by kernel_rfl) (fun _ _ _ h => h) hS (by rfl) (by intro w' hSw; obtain ⟨y0, y1, y2, y3, y4, y5⟩ := hSw; go_simp <;> with_reducible rfl) ?_
  simp only [Act.put, List.setIfInBounds_toArray, List.set_cons_zero, List.set_cons_succ]
  refine wpAnyL_take (i := 1) 41 (v := .pointer (some ⟨lq, 0, none⟩)) rfl rfl (by kernel_rfl) (by kernel_rfl) (by kernel_rfl) (by kernel_rfl) (by kernel_rfl) (by kernel_rfl) (fun _ _ _ h => h) hS (by rfl) (by intro w' hSw; obtain ⟨y0, y1, y2, y3, y4, y5⟩ := hSw; go_simp <;> with_reducible rfl) ?_
  simp only [Act.put, List.setIfInBounds_toArray, List.set_cons_zero, List.set_cons_succ]
  refine wpAnyL_take (i := 2) 42 (v := .pointer (some ⟨vp, 0, none⟩)) rfl rfl (by kernel_rfl) (by kernel_rfl) (by kernel_rfl) (by kernel_rfl) (by kernel_rfl) (by kernel_rfl) (fun _ _ _ h => h) hS (by rfl) (by intro w' hSw; obtain ⟨y0, y1, y2, y3, y4, y5⟩ := hSw; go_simp <;> with_reducible rfl) ?_
  simp only [Act.put, List.setIfInBounds_toArray, List.set_cons_zero, List.set_cons_succ]
  refine wpAnyL_take (i := 3) 43 (v := .agg #[.int .i64 g.vw, .int .i64 g.nm, .int .i64 g.bi, .int .i64 g.bv, .string g.base, .slice vo vn vc]) rfl rfl (by kernel_rfl) (by kernel_rfl) (by kernel_rfl) (by kernel_rfl) (by kernel_rfl) (by kernel_rfl) (fun _ _ _ h => h) hS (by rfl) (by intro w' hSw; obtain ⟨y0, y1, y2, y3, y4, y5⟩ := hSw; go_simp <;> with_reducible rfl) ?_
  simp only [Act.put, List.setIfInBounds_toArray, List.set_cons_zero, List.set_cons_succ]
  refine wpAnyL_take (i := 4) 44 (v := .pointer (some ⟨vp, 0, none⟩)) rfl rfl (by kernel_rfl) (by kernel_rfl) (by kernel_rfl) (by kernel_rfl) (by kernel_rfl) (by kernel_rfl) (fun _ _ _ h => h) hS (by rfl) (by intro w' hSw; obtain ⟨y0, y1, y2, y3, y4, y5⟩ := hSw; go_simp <;> with_reducible rfl) ?_
  simp only [Act.put, List.setIfInBounds_toArray, List.set_cons_zero, List.set_cons_succ]
  refine wpAnyL_take (i := 6) 46 (v := .pointer (some ⟨b, 2, none⟩)) rfl rfl (by kernel_rfl) (by kernel_rfl) (by kernel_rfl) (by kernel_rfl) (by kernel_rfl) (by kernel_rfl) (fun _ _ _ h => h) hS (by rfl) (by intro w' hSw; obtain ⟨y0, y1, y2, y3, y4, y5⟩ := hSw; go_simp <;> with_reducible rfl) ?_
  simp only [Act.put, List.setIfInBounds_toArray, List.set_cons_zero, List.set_cons_succ]
  refine wpAnyL_take (i := 7) 47 (v := .int .i64 g.bi) rfl rfl (by kernel_rfl) (by kernel_rfl) (by kernel_rfl) (by kernel_rfl) (by kernel_rfl) (by kernel_rfl) (fun _ _ _ h => h) hS (by rfl) (by intro w' hSw; obtain ⟨y0, y1, y2, y3, y4, y5⟩ := hSw; go_simp <;> with_reducible rfl) ?_
  simp only [Act.put, List.setIfInBounds_toArray, List.set_cons_zero, List.set_cons_succ]
  refine wpAnyL_one (i := 5) (by kernel_rfl) rfl (fun Ka hKa => ?_)
  go_simp
  have HAl : Hid (Alone A) := by
    rw [← HAe.out]
    refine Alone.born ?_
    have := HM.out
    rw [HG.out.1, HG.out.2] at this
    exact this
  have HCm : Hid (Calls Tryz.prog 53 #[.pointer (some ⟨vp, 0, none⟩)] Wd fun r w' => r = .returned (.int .i64 A.cm) ∧ ∃ q, w' = Wd.drewN q) := by
    obtain ⟨lv, mw, mg, mu, mk, hNA⟩ := HVd.out
    exact commit_any hNA HAl.out.ok
  refine Calls.mono HCm.out ?_
  rintro rr w5 ⟨rfl, nq, hw5⟩
  have b5 : Below Wd.heap.size Wd w5 := by rw [hw5]; exact below_dn _ _
  have HB5 : Hid (Below W3.heap.size W3 w5) := HBd.out.trans (b5.mono HBd.out.size)
  have hX5 : w5.heap[b]? = some (.cells #[.int .i64 g.vw, .int .i64 g.nm, .int .i64 g.bi, .int .i64 g.bv, .string g.base, .slice vo vn vc] 66 (0, 0)) := (b5.block b (vlt_blk hXd)).trans hXd
  have HV5 : Hid (NdAt w5 (fun k => W3.heap.size ≤ k) vp A) := HVd.out.new b5
  obtain ⟨u0, u1, u2, u3, u4, u5⟩ := hbox6 hX5
  have hS1 : (fun w' : World => w'.cell? ⟨b, 0, none⟩ = some (.int .i64 g.vw) ∧ w'.cell? ⟨b, 1, none⟩ = some (.int .i64 g.nm) ∧ w'.cell? ⟨b, 2, none⟩ = some (.int .i64 g.bi) ∧ w'.cell? ⟨b, 3, none⟩ = some (.int .i64 g.bv) ∧ w'.cell? ⟨b, 4, none⟩ = some (.string g.base) ∧ w'.cell? ⟨b, 5, none⟩ = some (.slice vo vn vc)) w5 := ⟨u0, u1, u2, u3, u4, u5⟩
  refine hKa.out _ _ (fun _ => hS1) ?_
  clear hKa Ka hS hw5 b5 z0 z1 z2 z3 z4 z5 hXd
  try simp only [Act.put, List.setIfInBounds_toArray, List.set_cons_zero, List.set_cons_succ]
  refine wpAnyL_take (i := 8) 48 (v := .agg #[.pointer (some ⟨dp, 0, none⟩), .pointer (some ⟨lq, 0, none⟩), .pointer (some ⟨vp, 0, none⟩), .int .i64 g.vw, .int .i64 g.nm, .int .i64 g.bi, .int .i64 g.bv, .string g.base, .slice vo vn vc, .int .i64 A.cm, .int .i64 g.bi, .bool false]) rfl rfl (by kernel_rfl) (by kernel_rfl) (by kernel_rfl) (by kernel_rfl) (by kernel_rfl) (by kernel_rfl) (fun _ _ _ h => h) hS1 (by rfl) (by intro w' hSw; obtain ⟨y0, y1, y2, y3, y4, y5⟩ := hSw; go_simp <;> with_reducible rfl) ?_
  simp only [Act.put, List.setIfInBounds_toArray, List.set_cons_zero, List.set_cons_succ]
  refine wpAnyL_one (i := 9) (by kernel_rfl) rfl (fun Ka hKa => ?_)
  go_simp
  have b6 := vone_new w5 (.cells #[.pointer (some ⟨dp, 0, none⟩), .pointer (some ⟨lq, 0, none⟩), .pointer (some ⟨vp, 0, none⟩), .int .i64 g.vw, .int .i64 g.nm, .int .i64 g.bi, .int .i64 g.bv, .string g.base, .slice vo vn vc, .int .i64 A.cm, .int .i64 g.bi, .bool false] 87)
  have hN6 := heap_alloc_new w5 (.cells #[.pointer (some ⟨dp, 0, none⟩), .pointer (some ⟨lq, 0, none⟩), .pointer (some ⟨vp, 0, none⟩), .int .i64 g.vw, .int .i64 g.nm, .int .i64 g.bi, .int .i64 g.bv, .string g.base, .slice vo vn vc, .int .i64 A.cm, .int .i64 g.bi, .bool false] 87)
  generalize hW6 : w5.alloc (.cells #[.pointer (some ⟨dp, 0, none⟩), .pointer (some ⟨lq, 0, none⟩), .pointer (some ⟨vp, 0, none⟩), .int .i64 g.vw, .int .i64 g.nm, .int .i64 g.bi, .int .i64 g.bv, .string g.base, .slice vo vn vc, .int .i64 A.cm, .int .i64 g.bi, .bool false] 87) = W6 at b6 hN6 ⊢
  have hX6 : W6.heap[b]? = some (.cells #[.int .i64 g.vw, .int .i64 g.nm, .int .i64 g.bi, .int .i64 g.bv, .string g.base, .slice vo vn vc] 66 (0, 0)) := (b6.block b (vlt_blk hX5)).trans hX5
  obtain ⟨s0, s1, s2, s3, s4, s5⟩ := hbox6 hX6
  have hS2 : (fun w' : World => w'.cell? ⟨b, 0, none⟩ = some (.int .i64 g.vw) ∧ w'.cell? ⟨b, 1, none⟩ = some (.int .i64 g.nm) ∧ w'.cell? ⟨b, 2, none⟩ = some (.int .i64 g.bi) ∧ w'.cell? ⟨b, 3, none⟩ = some (.int .i64 g.bv) ∧ w'.cell? ⟨b, 4, none⟩ = some (.string g.base) ∧ w'.cell? ⟨b, 5, none⟩ = some (.slice vo vn vc)) W6 := ⟨s0, s1, s2, s3, s4, s5⟩
  refine hKa.out _ _ (fun _ => hS2) ?_
  clear hKa Ka
  try simp only [Act.put, List.setIfInBounds_toArray, List.set_cons_zero, List.set_cons_succ]
  refine wpAnyL_one (i := 10) (by kernel_rfl) rfl (fun Ka hKa => ?_)
  go_simp
  refine hKa.out _ _ (fun _ => hS2) ?_
  clear hKa Ka
  try simp only [Act.put, List.setIfInBounds_toArray, List.set_cons_zero, List.set_cons_succ]
  refine wpAnyL_one (i := 11) (by kernel_rfl) rfl (fun Ka hKa => ?_)
  go_simp
  refine hKa.out _ _ (fun _ => hS2) ?_
  clear hKa Ka
  try simp only [Act.put, List.setIfInBounds_toArray, List.set_cons_zero, List.set_cons_succ]
  refine wpAnyL_done (by kernel_rfl) ?_ _
  have HN6 : Hid _ := hN6
  have HB6 : Hid (Below w5.heap.size w5 W6) := b6
  clear hS1 hS2 s0 s1 s2 s3 s4 s5 u0 u1 u2 u3 u4 u5 hX6 hX5 hW6 hN6 b6
  go_wp2
  refine bodyPost_ret (results_tmp2 rfl _ _ _) rfl ?_
  have hg : hdOf A = g := by
    rw [← HAe.out]
    exact hd_zero g HG.out.1 HG.out.2
  have e1 : Below W3.heap.size W3 W6 := HB5.out.trans (HB6.out.mono HB5.out.size)
  have e2 : Below w1.heap.size w1 W6 := HB3.out.trans (e1.mono HB3.out.size)
  have e3 : B ≤ w1.heap.size := Nat.le_trans hB HB1.out.size
  have e4 : FrD Xm B w W6 := HF1.out.trans (FrD.new e2)
  have hL3 := HL1.out.new HB3.out
  have hlq := lt_blk hL3.blk
  have hD6 := (HD1.out.new HB3.out).others HB5.out
  have hcm : A.tk ≤ 2 := by
    rw [← HAe.out]
    show (0 : Int) ≤ 2
    decide
  refine ⟨w5.heap.size, rfl, ⟨_, fun k => W3.heap.size ≤ k ∧ k < w5.heap.size, lq, vp, .slice vo vn vc, rv, D, R, ⟨?_, hD6.new HB6.out, ?_, ((HV5.out.mono (T := fun k => W3.heap.size ≤ k ∧ k < w5.heap.size) (fun k hk s => ⟨s, hk⟩)).new HB6.out), ?_, fun k s => .inr s, ?_, ?_, ?_, ?_, Nat.le_trans e3 e2.size, ?_, ?_, ?_⟩, ?_, HAl.out, hcm, fun i hi => ?_⟩, e4⟩
  · rw [hg]
    exact HN6.out
  · rw [hg]
    exact hL3.new e1
  · rw [hg]
    exact (HE3.out.new e1).low e3
  · rintro ⟨s, -⟩
    omega
  · rintro k hk ⟨s, -⟩
    obtain ⟨_, c, f, hm⟩ := hL3.row.tag hk
    have := lt_blk hm
    omega
  · rintro ⟨-, s⟩
    omega
  · rintro k hk ⟨s, -⟩
    obtain ⟨_, c, f, hm⟩ := vrow_tag HE3.out hk
    have := vlt_blk hm
    omega
  · have := HB3.out.size
    have := HB5.out.size
    omega
  · rintro k ⟨s, -⟩
    have := HB3.out.size
    omega
  · rintro k ⟨-, s⟩
    have := HB6.out.size
    omega
  · rw [hg]
    exact HP.out
  · obtain ⟨c, f, h3⟩ := HJ.out i hi
    have hlt := vlt_blk h3
    have k1 := HB1.out.size
    have k2 := HB3.out.size
    refine ⟨fun s => by omega, fun e => by have := HV1.out i e; omega, c, f, (e4.block i hlt (fun s => ?_)).trans h3⟩
    rcases s.2.1 with ⟨es, c', hm⟩ | ⟨c', t', f', hm, ht⟩
    · rw [h3] at hm
      cases hm
    · rw [h3] at hm
      cases hm
      rcases ht with e | e <;> cases e
end Go.Proofs.YtnhjflebaeokeaaGreat
end

section
/- rnode: a snapshot is laid. -/
namespace Go.Proofs.YtnhjflebaeokeaaGreat
open Go.RowKit
attribute [local go_sem] Oper.semAt_some
set_option linter.unusedSimpArgs false in
set_option maxRecDepth 100000 in
set_option maxHeartbeats 2000000 in
theorem compact_rno {J : Nat → Prop} {w : World} {B np dp k : Nat} {A : Nd} {at_ : Int} (h : RK J w B np dp A at_ k) (s : ByteArray) (hm : at_ ≤ 2147483647) (hn : at_ ≤ A.bi) :
    Calls Tryz.prog 12 #[.pointer (some ⟨np, 0, none⟩), .string s] w fun r w' => r = .returned (.tuple #[.bool false, .int .i64 0]) ∧ RK J w' B np dp A at_ k ∧ Below B w w' ∧ JK J w w' := by
  obtain ⟨Xm, S, lq, vp, kv, rv, D, R, hR, hP, hA, ht, hJ⟩ := h
  have HJ0 : Hid (JO J w S rv) := hJ
  clear hJ
  have HR : Hid (RA Xm w S B np dp lq vp A (hdOf A) kv rv A.cm at_ D R) := hR
  have HP : Hid (PD D (hdOf A) R k) := hP
  have HA : Hid (Alone A) := hA
  have HT : Hid (A.tk ≤ 2) := ht
  have HD : Hid (Calls Tryz.prog 22 #[.pointer (some ⟨np, 0, none⟩)] w fun r w' => r = .returned (.bool false) ∧ RA Xm w' S B np dp lq vp A (hdOf A) kv rv A.cm at_ D R ∧ Fr w w' (fun k => k = np)) := dead_ra hR hP.live
  clear hR hP hA ht
  go_enter Tryz.func12, Tryz.ntmps12
  go_upto_region 3 with (go_at_call 22; refine Calls.mono HD.out ?_; rintro rr w1 ⟨rfl, hR1, hf1⟩; have HR1 : Hid (RA Xm w1 S B np dp lq vp A (hdOf A) kv rv A.cm at_ D R) := hR1; have HB1 : Hid (Below B w w1) := below_np HR.out.hB HR.out.nB hf1; have HK1 : Hid (JK J w w1) := HJ0.out.own HR.out hf1; clear hR1 hf1)
  obtain ⟨Wd, hWd⟩ : ∃ Wd, w1.drew = Wd := ⟨_, rfl⟩
  have bd : Below w1.heap.size w1 Wd := by rw [← hWd]; exact Below.drew (Below.refl _ _)
  have HRd : Hid (RA Xm Wd S B np dp lq vp A (hdOf A) kv rv A.cm at_ D R) := HR1.out.new bd
  have HBd : Hid (Below B w Wd) := HB1.out.trans (bd.mono (Nat.le_trans HR.out.hB HB1.out.size))
  have HKd : Hid (JK J w Wd) := HK1.out.trans ((HJ0.out.of HK1.out).new bd)
  have hbk := HRd.out.blk
  unfold roC at hbk
  have y10 := (robox hbk).2.2.2.2.2.2.2.2.1
  have y2 := (robox hbk).2.2.1
  have hdm : decide (2147483647 < at_) = false := by simp; omega
  refine wp_calmV ?_
  refine wp_region_L [] (fun w' : World => w'.cell? ⟨np, 10, none⟩ = some (.int .i64 at_) ∧ w'.cell? ⟨np, 2, none⟩ = some (.pointer (some ⟨vp, 0, none⟩))) (by kernel_rfl) ?_
  rw [hWd]
  have hS : (fun w' : World => w'.cell? ⟨np, 10, none⟩ = some (.int .i64 at_) ∧ w'.cell? ⟨np, 2, none⟩ = some (.pointer (some ⟨vp, 0, none⟩))) Wd := ⟨y10, y2⟩
  clear hWd bd hbk
  refine wpAnyL_take (i := 0) 9 (v := .pointer (some ⟨np, 0, none⟩)) rfl rfl (by kernel_rfl) (by kernel_rfl) (by kernel_rfl) (by kernel_rfl) (by kernel_rfl) (by kernel_rfl) (fun _ _ _ h => h) hS (by rfl) (by intro w' hSw; obtain ⟨y0, y1⟩ := hSw; go_simp <;> with_reducible rfl) ?_
  simp only [Act.put, List.setIfInBounds_toArray, List.set_cons_zero, List.set_cons_succ]
  refine wpAnyL_take (i := 1) 10 (v := .pointer (some ⟨np, 0, none⟩)) rfl rfl (by kernel_rfl) (by kernel_rfl) (by kernel_rfl) (by kernel_rfl) (by kernel_rfl) (by kernel_rfl) (fun _ _ _ h => h) hS (by rfl) (by intro w' hSw; obtain ⟨y0, y1⟩ := hSw; go_simp <;> with_reducible rfl) ?_
  simp only [Act.put, List.setIfInBounds_toArray, List.set_cons_zero, List.set_cons_succ]
  refine wpAnyL_take (i := 2) 11 (v := .pointer (some ⟨np, 10, none⟩)) rfl rfl (by kernel_rfl) (by kernel_rfl) (by kernel_rfl) (by kernel_rfl) (by kernel_rfl) (by kernel_rfl) (fun _ _ _ h => h) hS (by rfl) (by intro w' hSw; obtain ⟨y0, y1⟩ := hSw; go_simp <;> with_reducible rfl) ?_
  simp only [Act.put, List.setIfInBounds_toArray, List.set_cons_zero, List.set_cons_succ]
  refine wpAnyL_take (i := 3) 12 (v := .int .i64 at_) rfl rfl (by kernel_rfl) (by kernel_rfl) (by kernel_rfl) (by kernel_rfl) (by kernel_rfl) (by kernel_rfl) (fun _ _ _ h => h) hS (by rfl) (by intro w' hSw; obtain ⟨y0, y1⟩ := hSw; go_simp <;> with_reducible rfl) ?_
  simp only [Act.put, List.setIfInBounds_toArray, List.set_cons_zero, List.set_cons_succ]
  refine wpAnyL_take (i := 4) 13 (v := .bool false) rfl rfl (by kernel_rfl) (by kernel_rfl) (by kernel_rfl) (by kernel_rfl) (by kernel_rfl) (by kernel_rfl) (fun _ _ _ h => h) hS (by rfl) (by intro w' hSw; obtain ⟨y0, y1⟩ := hSw; go_simp <;> with_reducible rfl) ?_
  simp only [Act.put, List.setIfInBounds_toArray, List.set_cons_zero, List.set_cons_succ]
  refine wpAnyL_take (i := 5) 14 (v := .bool false) rfl rfl (by kernel_rfl) (by kernel_rfl) (by kernel_rfl) (by kernel_rfl) (by kernel_rfl) (by kernel_rfl) (fun _ _ _ h => h) hS (by rfl) (by intro w' hSw; obtain ⟨y0, y1⟩ := hSw; go_simp <;> with_reducible rfl) ?_
  simp only [Act.put, List.setIfInBounds_toArray, List.set_cons_zero, List.set_cons_succ]
  refine wpAnyL_take (i := 6) 15 (v := .pointer (some ⟨np, 0, none⟩)) rfl rfl (by kernel_rfl) (by kernel_rfl) (by kernel_rfl) (by kernel_rfl) (by kernel_rfl) (by kernel_rfl) (fun _ _ _ h => h) hS (by rfl) (by intro w' hSw; obtain ⟨y0, y1⟩ := hSw; go_simp <;> with_reducible rfl) ?_
  simp only [Act.put, List.setIfInBounds_toArray, List.set_cons_zero, List.set_cons_succ]
  refine wpAnyL_take (i := 7) 16 (v := .pointer (some ⟨np, 0, none⟩)) rfl rfl (by kernel_rfl) (by kernel_rfl) (by kernel_rfl) (by kernel_rfl) (by kernel_rfl) (by kernel_rfl) (fun _ _ _ h => h) hS (by rfl) (by intro w' hSw; obtain ⟨y0, y1⟩ := hSw; go_simp <;> with_reducible rfl) ?_
  simp only [Act.put, List.setIfInBounds_toArray, List.set_cons_zero, List.set_cons_succ]
  refine wpAnyL_take (i := 8) 17 (v := .pointer (some ⟨np, 2, none⟩)) rfl rfl (by kernel_rfl) (by kernel_rfl) (by kernel_rfl) (by kernel_rfl) (by kernel_rfl) (by kernel_rfl) (fun _ _ _ h => h) hS (by rfl) (by intro w' hSw; obtain ⟨y0, y1⟩ := hSw; go_simp <;> with_reducible rfl) ?_
  simp only [Act.put, List.setIfInBounds_toArray, List.set_cons_zero, List.set_cons_succ]
  refine wpAnyL_take (i := 9) 18 (v := .pointer (some ⟨vp, 0, none⟩)) rfl rfl (by kernel_rfl) (by kernel_rfl) (by kernel_rfl) (by kernel_rfl) (by kernel_rfl) (by kernel_rfl) (fun _ _ _ h => h) hS (by rfl) (by intro w' hSw; obtain ⟨y0, y1⟩ := hSw; go_simp <;> with_reducible rfl) ?_
  simp only [Act.put, List.setIfInBounds_toArray, List.set_cons_zero, List.set_cons_succ]
  refine wpAnyL_take (i := 10) 19 (v := .pointer (some ⟨np, 0, none⟩)) rfl rfl (by kernel_rfl) (by kernel_rfl) (by kernel_rfl) (by kernel_rfl) (by kernel_rfl) (by kernel_rfl) (fun _ _ _ h => h) hS (by rfl) (by intro w' hSw; obtain ⟨y0, y1⟩ := hSw; go_simp <;> with_reducible rfl) ?_
  simp only [Act.put, List.setIfInBounds_toArray, List.set_cons_zero, List.set_cons_succ]
  refine wpAnyL_take (i := 11) 20 (v := .pointer (some ⟨np, 0, none⟩)) rfl rfl (by kernel_rfl) (by kernel_rfl) (by kernel_rfl) (by kernel_rfl) (by kernel_rfl) (by kernel_rfl) (fun _ _ _ h => h) hS (by rfl) (by intro w' hSw; obtain ⟨y0, y1⟩ := hSw; go_simp <;> with_reducible rfl) ?_
  simp only [Act.put, List.setIfInBounds_toArray, List.set_cons_zero, List.set_cons_succ]
  refine wpAnyL_take (i := 12) 21 (v := .pointer (some ⟨np, 10, none⟩)) rfl rfl (by kernel_rfl) (by kernel_rfl) (by kernel_rfl) (by kernel_rfl) (by kernel_rfl) (by kernel_rfl) (fun _ _ _ h => h) hS (by rfl) (by intro w' hSw; obtain ⟨y0, y1⟩ := hSw; go_simp <;> with_reducible rfl) ?_
  simp only [Act.put, List.setIfInBounds_toArray, List.set_cons_zero, List.set_cons_succ]
  refine wpAnyL_take (i := 13) 22 (v := .int .i64 at_) rfl rfl (by kernel_rfl) (by kernel_rfl) (by kernel_rfl) (by kernel_rfl) (by kernel_rfl) (by kernel_rfl) (fun _ _ _ h => h) hS (by rfl) (by intro w' hSw; obtain ⟨y0, y1⟩ := hSw; go_simp <;> with_reducible rfl) ?_
  simp only [Act.put, List.setIfInBounds_toArray, List.set_cons_zero, List.set_cons_succ]
  refine wpAnyL_take (i := 14) 23 (v := .string s) rfl rfl (by kernel_rfl) (by kernel_rfl) (by kernel_rfl) (by kernel_rfl) (by kernel_rfl) (by kernel_rfl) (fun _ _ _ h => h) hS (by rfl) (by intro w' hSw; obtain ⟨y0, y1⟩ := hSw; go_simp <;> with_reducible rfl) ?_
  simp only [Act.put, List.setIfInBounds_toArray, List.set_cons_zero, List.set_cons_succ]
  refine wpAnyL_one (i := 15) (by kernel_rfl) rfl (fun Ka hKa => ?_)
  go_simp
  have HCo : Hid (Calls Tryz.prog 38 #[.pointer (some ⟨vp, 0, none⟩), .int .i64 at_, .string s] Wd fun r w' => r = .returned (.bool false) ∧ Below Wd.heap.size Wd w') := by
    obtain ⟨lv, mw, mg, mu, mk, hNA⟩ := HRd.out.view
    exact compact_no hNA HA.out.ok (.inl hn) s
  refine Calls.mono HCo.out ?_
  rintro rr w2 ⟨rfl, hb2⟩
  have HR2 : Hid (RA Xm w2 S B np dp lq vp A (hdOf A) kv rv A.cm at_ D R) := HRd.out.new hb2
  have HB2 : Hid (Below B w w2) := HBd.out.trans (hb2.mono (Nat.le_trans HR.out.hB HBd.out.size))
  have HK2 : Hid (JK J w w2) := HKd.out.trans ((HJ0.out.of HKd.out).new hb2)
  have u10 := (hb2.cell (p := ⟨np, 10, none⟩) (vlt_cell y10)).trans y10
  have u2 := (hb2.cell (p := ⟨np, 2, none⟩) (vlt_cell y2)).trans y2
  refine hKa.out _ _ (fun _ => ⟨u10, u2⟩) ?_
  have hS2 : (fun w' : World => w'.cell? ⟨np, 10, none⟩ = some (.int .i64 at_) ∧ w'.cell? ⟨np, 2, none⟩ = some (.pointer (some ⟨vp, 0, none⟩))) w2 := ⟨u10, u2⟩
  clear hKa Ka hS y10 y2 hb2 HCo
  try simp only [Act.put, List.setIfInBounds_toArray, List.set_cons_zero, List.set_cons_succ]
  refine wpAnyL_one (i := 16) (by kernel_rfl) rfl (fun Ka hKa => ?_)
  go_simp
  refine hKa.out _ _ (fun _ => hS2) ?_
  clear hKa Ka
  try simp only [Act.put, List.setIfInBounds_toArray, List.set_cons_zero, List.set_cons_succ]
  refine wpAnyL_one (i := 17) (by kernel_rfl) rfl (fun Ka hKa => ?_)
  go_simp
  refine hKa.out _ _ (fun _ => hS2) ?_
  clear hKa Ka
  try simp only [Act.put, List.setIfInBounds_toArray, List.set_cons_zero, List.set_cons_succ]
  refine wpAnyL_done (by kernel_rfl) ?_ _
  clear hS2 u10 u2
  go_wp2
  refine bodyPost_ret (results_tmp2 rfl _ _ _) rfl ?_
  exact ⟨rfl, ⟨Xm, S, lq, vp, kv, rv, D, R, HR2.out, HP.out, HA.out, HT.out, HJ0.out.of HK2.out⟩, HB2.out, HK2.out⟩
set_option linter.unusedSimpArgs false in
set_option maxRecDepth 100000 in
set_option maxHeartbeats 2000000 in
theorem compact_rya {J : Nat → Prop} {w : World} {B np dp k : Nat} {A : Nd} {at_ : Int} (h : RK J w B np dp A at_ k) (s : ByteArray) (hm : at_ ≤ 2147483647) (hk : k ≤ 80000) {j : Nat} (hj : j < A.log.length) (hi : at_ - A.bi - 1 = j) (hc : at_ ≤ A.cm) (hal : Alone (A.packed (j + 1) A.log[j] s)) (hok : (hdOf (A.packed (j + 1) A.log[j] s)).ok) :
    Calls Tryz.prog 12 #[.pointer (some ⟨np, 0, none⟩), .string s] w fun r w' => r = .returned (.tuple #[.bool true, .int .i64 0]) ∧ RK J w' B np dp (A.packed (j + 1) A.log[j] s) at_ (k + 2) ∧ Below B w w' ∧ JK J w w' := by
  obtain ⟨Xm, S, lq, vp, kv, rv, D, R, hR, hP, hA, ht, hJ⟩ := h
  have HJ0 : Hid (JO J w S rv) := hJ
  clear hJ
  have HR : Hid (RA Xm w S B np dp lq vp A (hdOf A) kv rv A.cm at_ D R) := hR
  have HP : Hid (PD D (hdOf A) R k) := hP
  have HA : Hid (Alone A) := hA
  have HT : Hid (A.tk ≤ 2) := ht
  have HD : Hid (Calls Tryz.prog 22 #[.pointer (some ⟨np, 0, none⟩)] w fun r w' => r = .returned (.bool false) ∧ RA Xm w' S B np dp lq vp A (hdOf A) kv rv A.cm at_ D R ∧ Fr w w' (fun k => k = np)) := dead_ra hR hP.live
  have HAl : Hid (Alone (A.packed (j + 1) A.log[j] s)) := hal
  have HOk : Hid ((hdOf (A.packed (j + 1) A.log[j] s)).ok) := hok
  have HJ : Hid (j < A.log.length ∧ at_ - A.bi - 1 = j ∧ at_ ≤ A.cm) := ⟨hj, hi, hc⟩
  obtain ⟨A2, hA2⟩ : ∃ A2, A.packed (j + 1) A.log[j] s = A2 := ⟨_, rfl⟩
  have HA2 : Hid (A.packed (j + 1) A.log[j] s = A2) := hA2
  have HBi : Hid (A2.bi ≠ (hdOf A).bi) := by
    rw [← hA2]
    show A.bi + ((j + 1 : Nat) : Int) ≠ A.bi
    omega
  have HT2 : Hid (A2.tk ≤ 2) := by rw [← hA2]; exact ht
  rw [hA2] at HAl HOk ⊢
  clear hA2 hal hok hi hc
  clear hR hP hA ht
  go_enter Tryz.func12, Tryz.ntmps12
  go_upto_region 3 with (go_at_call 22; refine Calls.mono HD.out ?_; rintro rr w1 ⟨rfl, hR1, hf1⟩; have HR1 : Hid (RA Xm w1 S B np dp lq vp A (hdOf A) kv rv A.cm at_ D R) := hR1; have HB1 : Hid (Below B w w1) := below_np HR.out.hB HR.out.nB hf1; have HK1 : Hid (JK J w w1) := HJ0.out.own HR.out hf1; clear hR1 hf1)
  obtain ⟨Wd, hWd⟩ : ∃ Wd, w1.drew = Wd := ⟨_, rfl⟩
  have bd : Below w1.heap.size w1 Wd := by rw [← hWd]; exact Below.drew (Below.refl _ _)
  have HRd : Hid (RA Xm Wd S B np dp lq vp A (hdOf A) kv rv A.cm at_ D R) := HR1.out.new bd
  have HBd : Hid (Below B w Wd) := HB1.out.trans (bd.mono (Nat.le_trans HR.out.hB HB1.out.size))
  have HKd : Hid (JK J w Wd) := HK1.out.trans ((HJ0.out.of HK1.out).new bd)
  have hbk := HRd.out.blk
  unfold roC at hbk
  have y10 := (robox hbk).2.2.2.2.2.2.2.2.1
  have y2 := (robox hbk).2.2.1
  have hdm : decide (2147483647 < at_) = false := by simp; omega
  refine wp_calmV ?_
  refine wp_region_L [] (fun w' : World => w'.cell? ⟨np, 10, none⟩ = some (.int .i64 at_) ∧ w'.cell? ⟨np, 2, none⟩ = some (.pointer (some ⟨vp, 0, none⟩))) (by kernel_rfl) ?_
  rw [hWd]
  have hS : (fun w' : World => w'.cell? ⟨np, 10, none⟩ = some (.int .i64 at_) ∧ w'.cell? ⟨np, 2, none⟩ = some (.pointer (some ⟨vp, 0, none⟩))) Wd := ⟨y10, y2⟩
  clear hWd bd hbk
  refine wpAnyL_take (i := 0) 9 (v := .pointer (some ⟨np, 0, none⟩)) rfl rfl (by kernel_rfl) (by kernel_rfl) (by kernel_rfl) (by kernel_rfl) (by kernel_rfl) (by kernel_rfl) (fun _ _ _ h => h) hS (by rfl) (by intro w' hSw; obtain ⟨y0, y1⟩ := hSw; go_simp <;> with_reducible rfl) ?_
  simp only [Act.put, List.setIfInBounds_toArray, List.set_cons_zero, List.set_cons_succ]
  refine wpAnyL_take (i := 1) 10 (v := .pointer (some ⟨np, 0, none⟩)) rfl rfl (by kernel_rfl) (by kernel_rfl) (by kernel_rfl) (by kernel_rfl) (by kernel_rfl) (by kernel_rfl) (fun _ _ _ h => h) hS (by rfl) (by intro w' hSw; obtain ⟨y0, y1⟩ := hSw; go_simp <;> with_reducible rfl) ?_
  simp only [Act.put, List.setIfInBounds_toArray, List.set_cons_zero, List.set_cons_succ]
  refine wpAnyL_take (i := 2) 11 (v := .pointer (some ⟨np, 10, none⟩)) rfl rfl (by kernel_rfl) (by kernel_rfl) (by kernel_rfl) (by kernel_rfl) (by kernel_rfl) (by kernel_rfl) (fun _ _ _ h => h) hS (by rfl) (by intro w' hSw; obtain ⟨y0, y1⟩ := hSw; go_simp <;> with_reducible rfl) ?_
  simp only [Act.put, List.setIfInBounds_toArray, List.set_cons_zero, List.set_cons_succ]
  refine wpAnyL_take (i := 3) 12 (v := .int .i64 at_) rfl rfl (by kernel_rfl) (by kernel_rfl) (by kernel_rfl) (by kernel_rfl) (by kernel_rfl) (by kernel_rfl) (fun _ _ _ h => h) hS (by rfl) (by intro w' hSw; obtain ⟨y0, y1⟩ := hSw; go_simp <;> with_reducible rfl) ?_
  simp only [Act.put, List.setIfInBounds_toArray, List.set_cons_zero, List.set_cons_succ]
  refine wpAnyL_take (i := 4) 13 (v := .bool false) rfl rfl (by kernel_rfl) (by kernel_rfl) (by kernel_rfl) (by kernel_rfl) (by kernel_rfl) (by kernel_rfl) (fun _ _ _ h => h) hS (by rfl) (by intro w' hSw; obtain ⟨y0, y1⟩ := hSw; go_simp <;> with_reducible rfl) ?_
  simp only [Act.put, List.setIfInBounds_toArray, List.set_cons_zero, List.set_cons_succ]
  refine wpAnyL_take (i := 5) 14 (v := .bool false) rfl rfl (by kernel_rfl) (by kernel_rfl) (by kernel_rfl) (by kernel_rfl) (by kernel_rfl) (by kernel_rfl) (fun _ _ _ h => h) hS (by rfl) (by intro w' hSw; obtain ⟨y0, y1⟩ := hSw; go_simp <;> with_reducible rfl) ?_
  simp only [Act.put, List.setIfInBounds_toArray, List.set_cons_zero, List.set_cons_succ]
  refine wpAnyL_take (i := 6) 15 (v := .pointer (some ⟨np, 0, none⟩)) rfl rfl (by kernel_rfl) (by kernel_rfl) (by kernel_rfl) (by kernel_rfl) (by kernel_rfl) (by kernel_rfl) (fun _ _ _ h => h) hS (by rfl) (by intro w' hSw; obtain ⟨y0, y1⟩ := hSw; go_simp <;> with_reducible rfl) ?_
  simp only [Act.put, List.setIfInBounds_toArray, List.set_cons_zero, List.set_cons_succ]
  refine wpAnyL_take (i := 7) 16 (v := .pointer (some ⟨np, 0, none⟩)) rfl rfl (by kernel_rfl) (by kernel_rfl) (by kernel_rfl) (by kernel_rfl) (by kernel_rfl) (by kernel_rfl) (fun _ _ _ h => h) hS (by rfl) (by intro w' hSw; obtain ⟨y0, y1⟩ := hSw; go_simp <;> with_reducible rfl) ?_
  simp only [Act.put, List.setIfInBounds_toArray, List.set_cons_zero, List.set_cons_succ]
  refine wpAnyL_take (i := 8) 17 (v := .pointer (some ⟨np, 2, none⟩)) rfl rfl (by kernel_rfl) (by kernel_rfl) (by kernel_rfl) (by kernel_rfl) (by kernel_rfl) (by kernel_rfl) (fun _ _ _ h => h) hS (by rfl) (by intro w' hSw; obtain ⟨y0, y1⟩ := hSw; go_simp <;> with_reducible rfl) ?_
  simp only [Act.put, List.setIfInBounds_toArray, List.set_cons_zero, List.set_cons_succ]
  refine wpAnyL_take (i := 9) 18 (v := .pointer (some ⟨vp, 0, none⟩)) rfl rfl (by kernel_rfl) (by kernel_rfl) (by kernel_rfl) (by kernel_rfl) (by kernel_rfl) (by kernel_rfl) (fun _ _ _ h => h) hS (by rfl) (by intro w' hSw; obtain ⟨y0, y1⟩ := hSw; go_simp <;> with_reducible rfl) ?_
  simp only [Act.put, List.setIfInBounds_toArray, List.set_cons_zero, List.set_cons_succ]
  refine wpAnyL_take (i := 10) 19 (v := .pointer (some ⟨np, 0, none⟩)) rfl rfl (by kernel_rfl) (by kernel_rfl) (by kernel_rfl) (by kernel_rfl) (by kernel_rfl) (by kernel_rfl) (fun _ _ _ h => h) hS (by rfl) (by intro w' hSw; obtain ⟨y0, y1⟩ := hSw; go_simp <;> with_reducible rfl) ?_
  simp only [Act.put, List.setIfInBounds_toArray, List.set_cons_zero, List.set_cons_succ]
  refine wpAnyL_take (i := 11) 20 (v := .pointer (some ⟨np, 0, none⟩)) rfl rfl (by kernel_rfl) (by kernel_rfl) (by kernel_rfl) (by kernel_rfl) (by kernel_rfl) (by kernel_rfl) (fun _ _ _ h => h) hS (by rfl) (by intro w' hSw; obtain ⟨y0, y1⟩ := hSw; go_simp <;> with_reducible rfl) ?_
  simp only [Act.put, List.setIfInBounds_toArray, List.set_cons_zero, List.set_cons_succ]
  refine wpAnyL_take (i := 12) 21 (v := .pointer (some ⟨np, 10, none⟩)) rfl rfl (by kernel_rfl) (by kernel_rfl) (by kernel_rfl) (by kernel_rfl) (by kernel_rfl) (by kernel_rfl) (fun _ _ _ h => h) hS (by rfl) (by intro w' hSw; obtain ⟨y0, y1⟩ := hSw; go_simp <;> with_reducible rfl) ?_
  simp only [Act.put, List.setIfInBounds_toArray, List.set_cons_zero, List.set_cons_succ]
  refine wpAnyL_take (i := 13) 22 (v := .int .i64 at_) rfl rfl (by kernel_rfl) (by kernel_rfl) (by kernel_rfl) (by kernel_rfl) (by kernel_rfl) (by kernel_rfl) (fun _ _ _ h => h) hS (by rfl) (by intro w' hSw; obtain ⟨y0, y1⟩ := hSw; go_simp <;> with_reducible rfl) ?_
  simp only [Act.put, List.setIfInBounds_toArray, List.set_cons_zero, List.set_cons_succ]
  refine wpAnyL_take (i := 14) 23 (v := .string s) rfl rfl (by kernel_rfl) (by kernel_rfl) (by kernel_rfl) (by kernel_rfl) (by kernel_rfl) (by kernel_rfl) (fun _ _ _ h => h) hS (by rfl) (by intro w' hSw; obtain ⟨y0, y1⟩ := hSw; go_simp <;> with_reducible rfl) ?_
  simp only [Act.put, List.setIfInBounds_toArray, List.set_cons_zero, List.set_cons_succ]
  refine wpAnyL_one (i := 15) (by kernel_rfl) rfl (fun Ka hKa => ?_)
  go_simp
  have HCo : Hid (Calls Tryz.prog 38 #[.pointer (some ⟨vp, 0, none⟩), .int .i64 at_, .string s] Wd fun r w' => r = .returned (.bool true) ∧ NdAt w' (fun k => S k ∨ Wd.heap.size ≤ k) vp A2 ∧ Fr Wd w' S) := by
    obtain ⟨lv, mw, mg, mu, mk, hNA⟩ := HRd.out.view
    refine (compact_yes hNA HA.out.ok HJ.out.1 HJ.out.2.1 HJ.out.2.2 s).mono ?_
    rintro r w' ⟨rfl, h5, h6⟩
    rw [HA2.out] at h5
    refine ⟨rfl, h5, h6.mono (fun i _ x => ?_)⟩
    rcases x with rfl | x
    · exact hNA.sp
    · exact hNA.sl i x
  refine Calls.mono HCo.out ?_
  rintro rr w2 ⟨rfl, hV2, hf2⟩
  have HR2 : Hid _ := HRd.out.viewed hf2 hV2
  have HB2 : Hid (Below B w w2) := HBd.out.trans (hf2.below (Nat.le_trans HR.out.hB HBd.out.size) HRd.out.SB)
  have HK2 : Hid (JK J w w2) := HKd.out.trans ((HJ0.out.of HKd.out).seen hf2)
  have HO2 : Hid (JO J w2 (fun k => S k ∨ (Wd.heap.size ≤ k ∧ k < w2.heap.size)) rv) := ((HJ0.out.of HKd.out).more w2.heap.size).of ((HJ0.out.of HKd.out).seen hf2)
  have hbk := HR2.out.blk
  unfold roC at hbk
  have u10 := (robox hbk).2.2.2.2.2.2.2.2.1
  have u2 := (robox hbk).2.2.1
  refine hKa.out _ _ (fun _ => ⟨u10, u2⟩) ?_
  have hS2 : (fun w' : World => w'.cell? ⟨np, 10, none⟩ = some (.int .i64 at_) ∧ w'.cell? ⟨np, 2, none⟩ = some (.pointer (some ⟨vp, 0, none⟩))) w2 := ⟨u10, u2⟩
  clear hKa Ka hS y10 y2 hf2 hV2 HCo hbk
  try simp only [Act.put, List.setIfInBounds_toArray, List.set_cons_zero, List.set_cons_succ]
  refine wpAnyL_one (i := 16) (by kernel_rfl) rfl (fun Ka hKa => ?_)
  go_simp
  refine hKa.out _ _ (fun _ => hS2) ?_
  clear hKa Ka
  try simp only [Act.put, List.setIfInBounds_toArray, List.set_cons_zero, List.set_cons_succ]
  refine wpAnyL_one (i := 17) (by kernel_rfl) rfl (fun Ka hKa => ?_)
  go_simp
  refine hKa.out _ _ (fun _ => hS2) ?_
  clear hKa Ka
  try simp only [Act.put, List.setIfInBounds_toArray, List.set_cons_zero, List.set_cons_succ]
  refine wpAnyL_done (by kernel_rfl) ?_ _
  clear hS2 u10 u2
  go_wp2_with (go_at_call 39; refine Calls.mono (keep_ra HR2.out HAl.out.ok HOk.out HP.out hk (.inl HBi.out)) ?_; rintro rr w3 ⟨rfl, kv', rv', D', R', hR3, hP3, hb3, hs3⟩; have HX : Hid (RK J w3 B np dp A2 at_ (k + 2)) := ⟨_, _, _, _, _, _, _, _, hR3, hP3, HAl.out, HT2.out, (HO2.out.told hs3).2⟩; have HK3 : Hid (JK J w w3) := HK2.out.trans (HO2.out.told hs3).1; have HB3 : Hid (Below B w w3) := HB2.out.trans hb3; clear hR3 hP3 hb3 hs3)
  refine bodyPost_ret (results_tmp2 rfl _ _ _) rfl ?_
  exact ⟨rfl, HX.out, HB3.out, HK3.out⟩
end Go.Proofs.YtnhjflebaeokeaaGreat
end
