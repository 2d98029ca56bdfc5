import Derived.Test.YtidghoipmggklaaGreatMaG1M
import Derived.Test.YtidghoipmggklaaGreatSsDoWM
import Derived.Test.YtidghoipmggklaaGreatGrPutM
import Derived.Test.YtidghoipmggklaaGreatWriterWM
import Derived.Test.YtidghoipmggklaaGreatProg
import Derived.Laws.BitsAllLaws
import Derived.WalkKit
import Derived.WalkSpells
import Derived.WalkLawsBesides
import Derived.Test.YtidghoipmggklaaGreatRdRoundM
import Derived.Test.YtidghoipmggklaaGreatReader2M
section
/- submit at a master that has no job yet, and a worker: the job begins. -/
namespace Go.Proofs.YtidghoipmggklaaGreat
open Go.RowKit Go.Maps
attribute [local go_sem] Oper.semAt_some
theorem infoMj : (Tryz.prog.info? 170).map (fun i => (i.zero, i.size, i.bytes)) = some (some (.agg #[.string ByteArray.empty, .slice none 0 0, .slice none 0 0, .int .i64 0, .int .i64 0, .int .i64 0, .int .i64 0, .int .i64 0, .int .i64 0, .int .i64 0, .slice none 0 0]), 11, 144) := by kernel_rfl
theorem w_cells {W : World} {b : Nat} {cs : List Value} {t : TypeId} (h : W.heap[b]? = some (.cells cs.toArray t (0, 0))) : ∀ (j : Nat) (v : Value), cs[j]? = some v → W.cell? ((⟨b, 0, none⟩ : Addr).add j) = some v := by
  intro j v hv
  have hadd : (⟨b, 0, none⟩ : Addr).add j = ⟨b, j, none⟩ := by unfold Addr.add; split <;> simp_all
  rw [hadd]
  simpa [World.cell?, h] using hv
theorem jb_of_own {w : World} {B : Nat} {v : Value} {a b c d e f : Value} {s : Int} (h : w.ownsRow B 170 11 v 1 [a, b, c, d, e, f, .int .i64 s, .int .i64 0, .int .i64 0, .int .i64 0, .slice none 0 0]) : ∃ jb jc, v = .slice (some ⟨jb, 0, none⟩) 1 jc ∧ JbAt w jb [a, b, c, d, e, f] s ∧ B ≤ jb := by
  rcases h.2 with ⟨_, h2⟩ | ⟨g, cap, cur, h1, h2, h3, h4, _, h6, h7⟩
  · cases h2
  · exact ⟨g, cap, h1, ⟨rfl, cur, h3, by omega, (by have h8 := h7; rw [Nat.one_mul] at h8; exact h8)⟩, h2⟩
theorem RunAt.kept {w0 w w' : World} {p jb jc : Nat} {ax : Value} {mb : Option Nat} {ep : Int} {M : List Pz} {sp : List Value} {pa : Int} {q hb : Nat} {av : Value} (h : RunAt w0 w p jb jc ax mb ep M sp pa q hb av) {S : Nat → Prop} (f : Fr w w' S) (h1 : ¬ S p) (h2 : ¬ S jb) (h3 : ∀ k, w0.heap.size ≤ k → ¬ S k) (h4 : ∀ b, mb = some b → ¬ S b) : RunAt w0 w' p jb jc ax mb ep M sp pa q hb av :=
  ⟨h.ma.kept f h1 h4, h.jb.kept f h2, (f.block q (ma_lt h.cr) (h3 q h.lq)).trans h.cr, (f.block hb (ma_lt h.hd) (h3 hb h.lh)).trans h.hd, h.lq, h.lh, h.as_.kept f (fun k hk => h3 k (GO.lt h.as_ k hk).1)⟩
theorem RunAt.low {w0 w1 w : World} {p jb jc : Nat} {ax : Value} {mb : Option Nat} {ep : Int} {M : List Pz} {sp : List Value} {pa : Int} {q hb : Nat} {av : Value} (h : RunAt w1 w p jb jc ax mb ep M sp pa q hb av) (hl : w0.heap.size ≤ w1.heap.size) : RunAt w0 w p jb jc ax mb ep M sp pa q hb av := ⟨h.ma, h.jb, h.cr, h.hd, Nat.le_trans hl h.lq, Nat.le_trans hl h.lh, h.as_.lower hl⟩
set_option linter.unusedSimpArgs false in
set_option maxRecDepth 100000 in
set_option maxHeartbeats 4000000 in
theorem msubmit {w : World} {p : Nat} {ax : Value} {mb : Option Nat} {M : List Pz} {s t : ByteArray} {G : List Vx} {ps : List Int} {st se pa : Int} (h : MaBox w p ax mb (.slice none 0 0) 0 (.pointer none) M) (h0 : 0 < M.length) (hl : M.length ≤ 999999)
    (hD : ∀ W : World, Calls Tryz.prog 12 #[.string s] W fun r w' => (∃ go gc po pc, r = .returned (.tuple #[.agg #[.string t, .slice go G.length gc, .slice po ps.length pc, .int .i64 st, .int .i64 se, .int .i64 pa], .int .i64 0]) ∧ VxAt w' (fun k => W.heap.size ≤ k) go G ∧ IsP w' (fun k => W.heap.size ≤ k) po ps) ∧ Below W.heap.size W w') :
    Calls Tryz.prog 70 #[.pointer (some ⟨p, 0, none⟩), .string s] w fun r w' => r = .returned (.agg #[.int .i64 0, .int .i64 1]) ∧ ∃ jb jc q hb av go gc po pc, RunAt w w' p jb jc ax mb 1 M [.string t, .slice go G.length gc, .slice po ps.length pc, .int .i64 st, .int .i64 se, .int .i64 pa] pa q hb av ∧ VxAt w' (fun k => w.heap.size ≤ k) go G ∧ IsP w' (fun k => w.heap.size ≤ k) po ps ∧ w.heap.size ≤ jb ∧ Fr w w' (fun k => k = p) := by
  obtain ⟨ij, hij, z0, z1, z2⟩ := info_parts infoMj
  have HA : Hid (MaBox w p ax mb (.slice none 0 0) 0 (.pointer none) M) := h
  have H0 : Hid (0 < M.length) := h0
  have HL : Hid (M.length ≤ 999999) := hl
  have HD : Hid _ := hD
  have HPs : Hid (p < w.heap.size) := h.lt
  have HMb : Hid (∀ b, mb = some b → b < w.heap.size) := fun b hb => by subst hb; exact WkAt.lt h.wk
  have HW0s : Hid (∀ W0 : World, w.alloc (.cells #[.int .i64 0, .int .i64 0] 62) = W0 → W0.heap.size = w.heap.size + 1) := fun W0 e => by rw [← e]; simp
  obtain ⟨gl, hgl⟩ : ∃ gl, G.length = gl := ⟨_, rfl⟩
  obtain ⟨pl, hpl⟩ : ∃ pl, ps.length = pl := ⟨_, rfl⟩
  obtain ⟨W0, hW0⟩ : ∃ W0, w.alloc (.cells #[.int .i64 0, .int .i64 0] 62) = W0 := ⟨_, rfl⟩
  have b0 : Below w.heap.size w W0 := by rw [← hW0]; exact ma_new _ _
  have k0 := heap_alloc_new w (.cells #[.int .i64 0, .int .i64 0] 62)
  rw [hW0] at k0
  obtain ⟨gr, hgr⟩ : ∃ gr, w.heap.size = gr := ⟨_, rfl⟩
  have HGr : Hid (w.heap.size = gr) := hgr
  rw [hgr] at k0
  have HZ0 : Hid (W0.heap.size = gr + 1) := by show _ = _; rw [← hgr]; exact HW0s.out W0 hW0
  have HK0 : Hid (W0.heap[gr]? = some (.cells #[.int .i64 0, .int .i64 0] 62 (0, 0))) := k0
  have HB0 : Hid (Below w.heap.size w W0) := b0
  clear h hD b0 k0 h0
  rw [hgl, hpl]
  rw [hgl, hpl] at HD
  go_enter Tryz.func70, Tryz.ntmps70
  go_upto_region 2 with (go_at_call 12; refine (HD.out _).mono ?_; rintro r w2 ⟨⟨go, gc, po, pc, rfl, hv2, hp2⟩, hb2⟩)
  have HV2 : Hid (VxAt w2 (fun k => W0.heap.size ≤ k) go G) := hv2
  have HP2 : Hid (IsP w2 (fun k => W0.heap.size ≤ k) po ps) := hp2
  have HB2 : Hid (Below W0.heap.size W0 w2) := hb2
  clear hv2 hp2 hb2 hW0
  generalize hW5 : World.alloc w2 _ = W5
  obtain ⟨bk, hbk⟩ : ∃ bk, w2.heap.size = bk := ⟨_, rfl⟩
  have hbx := heap_alloc_new w2 (.cells #[.string t, .slice go gl gc, .slice po pl pc, .int .i64 st, .int .i64 se, .int .i64 pa] 27)
  have HB5 : Hid (Below w2.heap.size w2 W5) := by rw [← hW5]; exact ma_new _ _
  rw [hW5, hbk] at hbx
  rw [hbk]
  have d0 : W5.cell? ⟨bk, 0, none⟩ = some (.string t) := by simp [World.cell?, hbx]
  have d1 : W5.cell? ⟨bk, 1, none⟩ = some (.slice go gl gc) := by simp [World.cell?, hbx]
  have d2 : W5.cell? ⟨bk, 2, none⟩ = some (.slice po pl pc) := by simp [World.cell?, hbx]
  have d3 : W5.cell? ⟨bk, 3, none⟩ = some (.int .i64 st) := by simp [World.cell?, hbx]
  have d4 : W5.cell? ⟨bk, 4, none⟩ = some (.int .i64 se) := by simp [World.cell?, hbx]
  have d5 : W5.cell? ⟨bk, 5, none⟩ = some (.int .i64 pa) := by simp [World.cell?, hbx]
  have HB05 : Hid (Below W0.heap.size W0 W5) := HB2.out.trans (HB5.out.mono HB2.out.size)
  have HBw : Hid (Below w.heap.size w W5) := HB0.out.trans (HB05.out.mono HB0.out.size)
  have HA5 : Hid (MaBox W5 p ax mb (.slice none 0 0) 0 (.pointer none) M) := HA.out.new HBw.out
  have HK5 : Hid (W5.heap[gr]? = some (.cells #[.int .i64 0, .int .i64 0] 62 (0, 0))) := (HB05.out.block gr (ma_lt HK0.out)).trans HK0.out
  have HV5 : Hid (VxAt W5 (fun k => W0.heap.size ≤ k) go G) := HV2.out.new HB5.out
  have HP5 : Hid (IsP W5 (fun k => W0.heap.size ≤ k) po ps) := HP2.out.new HB5.out
  clear hW5 hbk hbx
  have c2 := HA5.out.c.2.2.1
  go_upto_region 6 with (go_at_call 31; refine (mopen_none HA5.out).mono ?_; rintro r w6 ⟨rfl, e6⟩; obtain rfl : W5 = w6 := e6.symm)
  obtain ⟨Wd, hWd⟩ : ∃ Wd, World.drew W5 = Wd := ⟨_, rfl⟩
  have bd : Below W5.heap.size W5 Wd := by rw [← hWd]; exact ((Below.refl _ W5).drew)
  have hS0 : (fun w' : World => w'.cell? ⟨p, 2, none⟩ = some (.slice none 0 0) ∧ w'.cell? ⟨bk, 0, none⟩ = some (.string t) ∧ w'.cell? ⟨bk, 1, none⟩ = some (.slice go gl gc) ∧ w'.cell? ⟨bk, 2, none⟩ = some (.slice po pl pc) ∧ w'.cell? ⟨bk, 3, none⟩ = some (.int .i64 st) ∧ w'.cell? ⟨bk, 4, none⟩ = some (.int .i64 se) ∧ w'.cell? ⟨bk, 5, none⟩ = some (.int .i64 pa)) Wd := ⟨(bd.cell (ma_ltc c2)).trans c2, (bd.cell (ma_ltc d0)).trans d0, (bd.cell (ma_ltc d1)).trans d1, (bd.cell (ma_ltc d2)).trans d2, (bd.cell (ma_ltc d3)).trans d3, (bd.cell (ma_ltc d4)).trans d4, (bd.cell (ma_ltc d5)).trans d5⟩
  refine ma_calm ?_
  refine wp_region_L [11] (fun w' : World => w'.cell? ⟨p, 2, none⟩ = some (.slice none 0 0) ∧ w'.cell? ⟨bk, 0, none⟩ = some (.string t) ∧ w'.cell? ⟨bk, 1, none⟩ = some (.slice go gl gc) ∧ w'.cell? ⟨bk, 2, none⟩ = some (.slice po pl pc) ∧ w'.cell? ⟨bk, 3, none⟩ = some (.int .i64 st) ∧ w'.cell? ⟨bk, 4, none⟩ = some (.int .i64 se) ∧ w'.cell? ⟨bk, 5, none⟩ = some (.int .i64 pa)) (by kernel_rfl) ?_
  rw [hWd]
  clear hWd
  refine wpAnyL_take (i := 0) 29 (v := .pointer (some ⟨p, 0, none⟩)) rfl rfl (by kernel_rfl) (by kernel_rfl) (by kernel_rfl) (by kernel_rfl) (by kernel_rfl) (by kernel_rfl) (fun _ _ _ h => h) hS0 (by rfl) (by intro w' hSw; obtain ⟨y0, y1, y2, y3, y4, y5, y6⟩ := hSw; go_simp <;> with_reducible rfl) ?_
  simp only [Act.put, List.setIfInBounds_toArray, List.set_cons_zero, List.set_cons_succ]
  refine wpAnyL_take (i := 1) 30 (v := .pointer (some ⟨p, 0, none⟩)) rfl rfl (by kernel_rfl) (by kernel_rfl) (by kernel_rfl) (by kernel_rfl) (by kernel_rfl) (by kernel_rfl) (fun _ _ _ h => h) hS0 (by rfl) (by intro w' hSw; obtain ⟨y0, y1, y2, y3, y4, y5, y6⟩ := hSw; go_simp <;> with_reducible rfl) ?_
  simp only [Act.put, List.setIfInBounds_toArray, List.set_cons_zero, List.set_cons_succ]
  refine wpAnyL_take (i := 2) 31 (v := .pointer (some ⟨p, 0, none⟩)) rfl rfl (by kernel_rfl) (by kernel_rfl) (by kernel_rfl) (by kernel_rfl) (by kernel_rfl) (by kernel_rfl) (fun _ _ _ h => h) hS0 (by rfl) (by intro w' hSw; obtain ⟨y0, y1, y2, y3, y4, y5, y6⟩ := hSw; go_simp <;> with_reducible rfl) ?_
  simp only [Act.put, List.setIfInBounds_toArray, List.set_cons_zero, List.set_cons_succ]
  refine wpAnyL_take (i := 3) 32 (v := .pointer (some ⟨p, 2, none⟩)) rfl rfl (by kernel_rfl) (by kernel_rfl) (by kernel_rfl) (by kernel_rfl) (by kernel_rfl) (by kernel_rfl) (fun _ _ _ h => h) hS0 (by rfl) (by intro w' hSw; obtain ⟨y0, y1, y2, y3, y4, y5, y6⟩ := hSw; go_simp <;> with_reducible rfl) ?_
  simp only [Act.put, List.setIfInBounds_toArray, List.set_cons_zero, List.set_cons_succ]
  refine wpAnyL_take (i := 4) 33 (v := .slice none 0 0) rfl rfl (by kernel_rfl) (by kernel_rfl) (by kernel_rfl) (by kernel_rfl) (by kernel_rfl) (by kernel_rfl) (fun _ _ _ h => h) hS0 (by rfl) (by intro w' hSw; obtain ⟨y0, y1, y2, y3, y4, y5, y6⟩ := hSw; go_simp <;> with_reducible rfl) ?_
  simp only [Act.put, List.setIfInBounds_toArray, List.set_cons_zero, List.set_cons_succ]
  refine wpAnyL_take (i := 5) 34 (v := .agg #[.string t, .slice go gl gc, .slice po pl pc, .int .i64 st, .int .i64 se, .int .i64 pa]) rfl rfl (by kernel_rfl) (by kernel_rfl) (by kernel_rfl) (by kernel_rfl) (by kernel_rfl) (by kernel_rfl) (fun _ _ _ h => h) hS0 (by rfl) (by intro w' hSw; obtain ⟨y0, y1, y2, y3, y4, y5, y6⟩ := hSw; go_simp <;> with_reducible rfl) ?_
  simp only [Act.put, List.setIfInBounds_toArray, List.set_cons_zero, List.set_cons_succ]
  refine wpAnyL_take (i := 6) 35 (v := .agg #[.string t, .slice go gl gc, .slice po pl pc, .int .i64 st, .int .i64 se, .int .i64 pa, .int .i64 1, .int .i64 0, .int .i64 0, .int .i64 0, .slice none 0 0]) rfl rfl (by kernel_rfl) (by kernel_rfl) (by kernel_rfl) (by kernel_rfl) (by kernel_rfl) (by kernel_rfl) (fun _ _ _ h => h) hS0 (by rfl) (by intro w' hSw; obtain ⟨y0, y1, y2, y3, y4, y5, y6⟩ := hSw; go_simp <;> with_reducible rfl) ?_
  simp only [Act.put, List.setIfInBounds_toArray, List.set_cons_zero, List.set_cons_succ]
  refine wpAnyL_one (i := 7) (by kernel_rfl) rfl (fun Ka hKa => ?_)
  go_simp
  obtain ⟨We, hWe⟩ : ∃ We, Wd.alloc (.cells #[.string t, .slice go gl gc, .slice po pl pc, .int .i64 st, .int .i64 se, .int .i64 pa, .int .i64 1, .int .i64 0, .int .i64 0, .int .i64 0, .slice none 0 0] 170) = We := ⟨_, rfl⟩
  have be : Below Wd.heap.size Wd We := by rw [← hWe]; exact ma_new _ _
  have hne := heap_alloc_new Wd (.cells #[.string t, .slice go gl gc, .slice po pl pc, .int .i64 st, .int .i64 se, .int .i64 pa, .int .i64 1, .int .i64 0, .int .i64 0, .int .i64 0, .slice none 0 0] 170)
  try rw [hWe]
  rw [hWe] at hne
  have hS1 : (fun w' : World => w'.cell? ⟨p, 2, none⟩ = some (.slice none 0 0) ∧ w'.cell? ⟨bk, 0, none⟩ = some (.string t) ∧ w'.cell? ⟨bk, 1, none⟩ = some (.slice go gl gc) ∧ w'.cell? ⟨bk, 2, none⟩ = some (.slice po pl pc) ∧ w'.cell? ⟨bk, 3, none⟩ = some (.int .i64 st) ∧ w'.cell? ⟨bk, 4, none⟩ = some (.int .i64 se) ∧ w'.cell? ⟨bk, 5, none⟩ = some (.int .i64 pa)) We := ⟨(be.cell (ma_ltc hS0.1)).trans hS0.1, (be.cell (ma_ltc hS0.2.1)).trans hS0.2.1, (be.cell (ma_ltc hS0.2.2.1)).trans hS0.2.2.1, (be.cell (ma_ltc hS0.2.2.2.1)).trans hS0.2.2.2.1, (be.cell (ma_ltc hS0.2.2.2.2.1)).trans hS0.2.2.2.2.1, (be.cell (ma_ltc hS0.2.2.2.2.2.1)).trans hS0.2.2.2.2.2.1, (be.cell (ma_ltc hS0.2.2.2.2.2.2)).trans hS0.2.2.2.2.2.2⟩
  refine hKa.out _ _ (fun _ => hS1) ?_
  clear hKa Ka
  try simp only [Act.put, List.setIfInBounds_toArray, List.set_cons_zero, List.set_cons_succ]
  have b5e : Below W5.heap.size W5 We := bd.trans (be.mono bd.size)
  refine wpAnyL_one (i := 8) (by kernel_rfl) rfl (fun Kb hKb => ?_)
  refine step_append_own rfl (.tmp 33) (.tmp 36) 157 rfl W5.heap.size 170 ij _ 11 144 Tryz.underlying157 hij z0 z1 z2 rfl (by decide) (.slice none 0 0) _ _ (by simp [Act.eval]) (World.ownsRow_nil _ _ _ _) ⟨Wd.heap.size, 0, none⟩ 1 1 [.string t, .slice go gl gc, .slice po pl pc, .int .i64 st, .int .i64 se, .int .i64 pa, .int .i64 1, .int .i64 0, .int .i64 0, .int .i64 0, .slice none 0 0] (by simp [Act.eval]) rfl (w_cells hne) (by intro u hu; simp at hu; rcases hu with rfl | rfl | rfl | rfl | rfl | rfl | rfl | rfl | rfl | rfl | rfl <;> rfl) (by decide) (by decide) b5e.size ?_
  intro v1 w1 own1 gr1 _
  obtain ⟨jb, jc, rfl, hJ1, hjb⟩ := jb_of_own own1
  have f1 : Fr We w1 (fun _ => False) := Fr.grown gr1 (fun k hk => by cases hk)
  have b1 : Below We.heap.size We w1 := ⟨f1.os, f1.tape, f1.output, f1.size, fun k hk => f1.block k hk (fun h => h)⟩
  have hS2 : (fun w' : World => w'.cell? ⟨p, 2, none⟩ = some (.slice none 0 0) ∧ w'.cell? ⟨bk, 0, none⟩ = some (.string t) ∧ w'.cell? ⟨bk, 1, none⟩ = some (.slice go gl gc) ∧ w'.cell? ⟨bk, 2, none⟩ = some (.slice po pl pc) ∧ w'.cell? ⟨bk, 3, none⟩ = some (.int .i64 st) ∧ w'.cell? ⟨bk, 4, none⟩ = some (.int .i64 se) ∧ w'.cell? ⟨bk, 5, none⟩ = some (.int .i64 pa)) w1 := ⟨(b1.cell (ma_ltc hS1.1)).trans hS1.1, (b1.cell (ma_ltc hS1.2.1)).trans hS1.2.1, (b1.cell (ma_ltc hS1.2.2.1)).trans hS1.2.2.1, (b1.cell (ma_ltc hS1.2.2.2.1)).trans hS1.2.2.2.1, (b1.cell (ma_ltc hS1.2.2.2.2.1)).trans hS1.2.2.2.2.1, (b1.cell (ma_ltc hS1.2.2.2.2.2.1)).trans hS1.2.2.2.2.2.1, (b1.cell (ma_ltc hS1.2.2.2.2.2.2)).trans hS1.2.2.2.2.2.2⟩
  have b51 : Below W5.heap.size W5 w1 := b5e.trans (b1.mono b5e.size)
  refine hKb.out _ _ (fun _ => hS2) ?_
  clear hKb Kb
  try simp only [Act.put, List.setIfInBounds_toArray, List.set_cons_zero, List.set_cons_succ]
  refine wpAnyL_take (i := 9) 38 (v := .pointer (some ⟨p, 0, none⟩)) rfl rfl (by kernel_rfl) (by kernel_rfl) (by kernel_rfl) (by kernel_rfl) (by kernel_rfl) (by kernel_rfl) (fun _ _ _ h => h) hS2 (by rfl) (by intro w' hSw; obtain ⟨y0, y1, y2, y3, y4, y5, y6⟩ := hSw; go_simp <;> with_reducible rfl) ?_
  simp only [Act.put, List.setIfInBounds_toArray, List.set_cons_zero, List.set_cons_succ]
  refine wpAnyL_take (i := 10) 39 (v := .pointer (some ⟨p, 2, none⟩)) rfl rfl (by kernel_rfl) (by kernel_rfl) (by kernel_rfl) (by kernel_rfl) (by kernel_rfl) (by kernel_rfl) (fun _ _ _ h => h) hS2 (by rfl) (by intro w' hSw; obtain ⟨y0, y1, y2, y3, y4, y5, y6⟩ := hSw; go_simp <;> with_reducible rfl) ?_
  simp only [Act.put, List.setIfInBounds_toArray, List.set_cons_zero, List.set_cons_succ]
  have HA1 : Hid (MaBox w1 p ax mb (.slice none 0 0) 0 (.pointer none) M) := HA5.out.new b51
  have g2 := HA1.out.f 2
  have cc2 := HA1.out.c.2.2.1
  refine wpAnyL_one (i := 11) (by kernel_rfl) rfl (fun Kc hKc => ?_)
  go_simp
  generalize hX : World.setCell _ _ _ = W9
  have HA9 : Hid (MaBox W9 p ax mb (.slice (some ⟨jb, 0, none⟩) 1 jc) 0 (.pointer none) M) := by
    rw [← hX]
    exact ⟨ma_set (.slice (some ⟨jb, 0, none⟩) 1 jc) HA1.out.box, HA1.out.wk.kept (Fr.setCell (S := fun k => k = p) _ _ _ rfl) (fun b hb => HA1.out.ne b hb), HA1.out.ne⟩
  have f9 : Fr w1 W9 (fun k => k = p) := by rw [← hX]; exact Fr.setCell (S := fun k => k = p) _ _ _ rfl
  refine hKc.out _ _ (fun h => absurd h (Bool.eq_false_iff.1 (by kernel_rfl))) ?_
  clear hKc Kc hX
  try simp only [Act.put, List.setIfInBounds_toArray, List.set_cons_zero, List.set_cons_succ]
  refine wpAnyL_done (by kernel_rfl) ?_ _
  have HJ9 : Hid (JbAt W9 jb [.string t, .slice go gl gc, .slice po pl pc, .int .i64 st, .int .i64 se, .int .i64 pa] 1) := hJ1.kept f9 (fun e => by have := HA5.out.lt; omega)
  have HF9 : Hid (Fr W5 W9 (fun k => k = p)) := (Fr.ofBelow b51 (fun k => k = p)).trans f9 (fun _ _ h => h)
  have HJb : Hid (W5.heap.size ≤ jb) := hjb
  have hGo := mgoon_one HA9.out HJ9.out ⟨Int.le_refl _, by decide⟩ H0.out HL.out
  have e2 := HA9.out.c.2.2.1
  clear hS0 hS1 hS2 own1 gr1 hJ1 f1 b1 b51 b5e be bd hne f9 g2 cc2 c2 d0 d1 d2 d3 d4 d5 hjb
  go_wp2_with (first
    | (go_at_call 129; refine hGo.mono ?_; rintro r w10 ⟨rfl, q, hb, av, hR, hF⟩; have HR : Hid (RunAt W9 w10 p jb jc ax mb (0 + 1) M [.string t, .slice go gl gc, .slice po pl pc, .int .i64 st, .int .i64 se, .int .i64 pa] pa q hb av) := hR; have HF10 : Hid (Fr W9 w10 (fun k => k = p ∨ k = jb)) := hF; have HK10 : Hid (w10.heap[gr]? = some (.cells #[.int .i64 0, .int .i64 0] 62 (0, 0))) := (hF.block gr (by have h1 := ma_lt HK5.out; have := HF9.out.size; omega) (fun e => Or.elim e (fun e => by have := HPs.out; have := HGr.out; omega) (fun e => by have h1 := ma_lt HK5.out; have := HJb.out; omega))).trans ((HF9.out.block gr (ma_lt HK5.out) (fun e => by have := HPs.out; have := HGr.out; omega)).trans HK5.out); clear hR hF)
    | (refine wpList_store_row rfl 62 _ _ rfl gr #[.int .i64 0, .int .i64 1] rfl rfl 62 #[.int .i64 0, .int .i64 0] HK10.out size_reply rfl (by simp [Value.oneCell']) ?_))
  refine bodyPost_ret (v := .agg #[.int .i64 0, .int .i64 1]) (results_cell_row Tryz.results70 _ _ gr 62 _ (0, 0) _ rfl (setRow_heap _ _ _ _ _ _ HK10.out) Tryz.underlying62 rfl size_reply) rfl ?_
  have f11 := ap_setRow w10 gr #[.int .i64 0, .int .i64 1]
  have s9 := HF9.out.size
  have s5 := ma_lt HK5.out
  have hgr := HGr.out
  have hps := HPs.out
  have hjb := HJb.out
  have hz0 := HZ0.out
  have f5 : Fr W5 (w10.setRow gr #[.int .i64 0, .int .i64 1]) (fun k => k = p ∨ k = gr) := ((HF9.out.mono (fun k _ hk => .inl hk)).trans HF10.out (fun k hk e => by
    rcases e with e | e
    · exact .inl e
    · omega)).trans f11 (fun k _ hk => .inr hk)
  refine ⟨rfl, jb, jc, q, hb, av, go, gc, po, pc, ?_, ?_, ?_, by have := HBw.out.size; omega, ?_⟩
  · exact (HR.out.kept f11 (fun e => by omega) (fun e => by omega) (fun k hk e => by omega) (fun b hb e => by have := HMb.out b hb; omega)).low (Nat.le_trans HBw.out.size s9)
  · exact HV5.out.kept f5 (fun k _ hk => ⟨fun e => by rcases e with e | e <;> omega, by omega⟩)
  · exact HP5.out.kept f5 (fun k _ hk => ⟨fun e => by rcases e with e | e <;> omega, by omega⟩)
  · exact (Fr.ofBelow HBw.out (fun k => k = p)).trans f5 (fun k hk e => by
      rcases e with e | e
      · exact e
      · omega)
end Go.Proofs.YtidghoipmggklaaGreat
end

section
/- Put: a table as bytes. -/
namespace Go.Proofs.YtidghoipmggklaaGreat
open Go.RowKit
attribute [local go_sem] Oper.semAt_some
/-- What a writer writes is no block of a table. -/
theorem TA.apart {w : World} {B p : Nat} {v : Value} {L : List Req} {base pw : Nat} {vw : Value} {l : List UInt8} (h : TA w B p v L) (hw : Wr w base pw vw l) : p ≠ pw ∧ vw.ownBlock ≠ some p ∧ ∀ k, v.ownBlock = some k → k ≠ pw ∧ vw.ownBlock ≠ some k := by
  refine ⟨fun e => ?_, fun e => ?_, fun k hk => ⟨fun e => ?_, fun e => ?_⟩⟩
  · have h1 := h.box
    rw [e, hw.blk] at h1
    simp at h1
  · obtain ⟨_, c, f, h1⟩ := srow_tag hw.own e
    rw [h.box] at h1
    simp at h1
  · obtain ⟨_, c, f, h1⟩ := srow_tag h.row hk
    rw [e, hw.blk] at h1
    simp at h1
  · obtain ⟨_, c, f, h1⟩ := srow_tag h.row hk
    obtain ⟨_, c2, f2, h2⟩ := srow_tag hw.own e
    rw [h1] at h2
    simp at h2
end Go.Proofs.YtidghoipmggklaaGreat
end

section
/- Take: a table off bytes. -/
namespace Go.Proofs.YtidghoipmggklaaGreat
open Go.RowKit Go.Maps
attribute [local go_sem] Oper.semAt_some
theorem srd_most {w : World} {p : Nat} {s : ByteArray} {a : Nat} {e : Int} (h : Rd w p s a e) (hs : s.size ≤ maxLen) (ha : a ≤ s.size) {n a' : Nat} {e' : Int} (hq : rdCount s a e 2147483647 = (n, a', e')) :
    Calls Tryz.prog 56 #[.pointer (some ⟨p, 0, none⟩), .int .i64 2147483647] w fun r w' => r = .returned (.int .i64 n) ∧ Rd w' p s a' e' ∧ Fr w w' (fun k => k = p) := by
  have := rcount_any (most := 2147483647) h hs ha (by decide)
  rw [hq] at this
  exact this
/-- A reader is no block of a table. -/
theorem TA.read {w : World} {B pt : Nat} {v : Value} {L : List Req} {p : Nat} {s : ByteArray} {a e : Int} (h : TA w B pt v L) (hr : Rd w p s a e) : pt ≠ p ∧ ∀ k, v.ownBlock = some k → k ≠ p := by
  unfold Rd at hr
  refine ⟨fun e => ?_, fun k hk e => ?_⟩
  · have h1 := h.box
    rw [e, hr] at h1
    simp at h1
  · obtain ⟨_, c, f, h1⟩ := srow_tag h.row hk
    rw [e, hr] at h1
    simp at h1
theorem TA.reads {w w' : World} {B pt : Nat} {v : Value} {L : List Req} {p : Nat} {s : ByteArray} {a e : Int} (h : TA w B pt v L) (hr : Rd w p s a e) (f : Fr w w' (fun k => k = p)) : TA w' B pt v L := h.kept f (h.read hr).1 (fun k hk => (h.read hr).2 k hk)
end Go.Proofs.YtidghoipmggklaaGreat
end

section
/- A reply as sessions keep it, and back. -/
namespace Go.Proofs.YtidghoipmggklaaGreat
open Go.RowKit
attribute [local go_sem] Oper.semAt_some
/-- The bytes of a reply. -/
def repB (e i : Nat) : List UInt8 := numB e ++ numB i
set_option maxRecDepth 100000 in
theorem mtextof {w : World} (e i : Nat) (he : e ≤ 2147483647) (hi : i ≤ 2147483647) : Calls Tryz.prog 128 #[.agg #[.int .i64 e, .int .i64 i]] w fun r w' => r = .returned (.string (str (repB e i))) ∧ Below w.heap.size w w' := by
  obtain ⟨W0, hW0⟩ : ∃ W0, w.alloc (.cells #[.int .i64 e, .int .i64 i] 62) = W0 := ⟨_, rfl⟩
  have b0 : Below w.heap.size w W0 := by rw [← hW0]; exact ma_new _ _
  have k0 := heap_alloc_new w (.cells #[.int .i64 e, .int .i64 i] 62)
  rw [hW0] at k0
  have hz0 : W0.heap.size = w.heap.size + 1 := by rw [← hW0]; simp
  obtain ⟨g, hg⟩ : ∃ g, w.heap.size = g := ⟨_, rfl⟩
  have HG : Hid (w.heap.size = g) := hg
  rw [hg] at k0
  have c0 : W0.cell? ⟨g, 0, none⟩ = some (.int .i64 e) := by simp [World.cell?, k0]
  have c1 : W0.cell? ⟨g, 1, none⟩ = some (.int .i64 i) := by simp [World.cell?, k0]
  have HB0 : Hid (Below w.heap.size w W0) := b0
  have HZ0 : Hid (W0.heap.size = g + 1) := by show _ = _; rw [hz0, hg]
  have HE : Hid (e ≤ 2147483647 ∧ i ≤ 2147483647) := ⟨he, hi⟩
  clear b0 k0 hz0
  go_enter Tryz.func128, Tryz.ntmps128
  go_upto_region 2 with (go_at_call 13; refine (newwriter_any _).mono ?_; rintro r w1 ⟨rfl, hw1, hb1⟩)
  have HW1 : Hid (WTo w1 w1 (W0.heap.size + 1) W0.heap.size (.slice none 0 0) []) := WTo.refl hw1
  have HB1 : Hid (Below W0.heap.size W0 w1) := hb1
  have d0 := (hb1.cell (ma_ltc c0)).trans c0
  have d1 := (hb1.cell (ma_ltc c1)).trans c1
  have HZ : Hid (W0.heap.size = g + 1) := HZ0.out
  clear hw1 hb1 c0 c1 hW0 hg
  have hC1 := wcount_w e HW1.out (by have := HE.out.1; omega) (by decide)
  obtain ⟨pw, hpw⟩ : ∃ pw, W0.heap.size = pw := ⟨_, rfl⟩
  rw [hpw] at HW1 hC1 HZ ⊢
  go_upto_region 3 with (go_at_call 51; refine hC1.mono ?_; rintro r w2 ⟨rfl, hw2⟩)
  have HW2 : Hid (WTo w1 w2 (pw + 1) pw (.slice none 0 0) ([] ++ numB e)) := hw2
  have HF2 : Hid (Fr w1 w2 (fun k => k = pw)) := by
    obtain ⟨_, _, f, _⟩ := hw2
    exact f.mono (fun k _ h => by rcases h with h | h <;> first | exact h | cases h)
  have d3 := ma_frc HF2.out (by have := HZ.out; omega) d1
  have hC2 := wcount_w i HW2.out (by have := HE.out.2; omega) (by have := numB_len10 (n := e) (by have := HE.out.1; omega); simp; omega)
  clear hw2 hC1 d0 d1
  go_upto_region 4 with (go_at_call 51; refine hC2.mono ?_; rintro r w3 ⟨rfl, hw3⟩)
  obtain ⟨v3, hw3, hf3, _⟩ := hw3
  have HF3 : Hid (Fr w1 w3 (fun k => k = pw)) := hf3.mono (fun k _ h => by rcases h with h | h <;> first | exact h | cases h)
  have hA := wall_any hw3
  clear hC2 d3
  go_wp2_with (go_at_call 16; refine hA.mono ?_; rintro r w4 ⟨rfl, rfl⟩)
  go_ret
  have h1 : Below w.heap.size w w1 := HB0.out.trans (HB1.out.mono HB0.out.size)
  exact ⟨by simp [repB], h1.trans (HF3.out.below h1.size (fun k hk => by have := HZ.out; have := HG.out; omega))⟩
theorem rep_read (e i : Nat) (he : e ≤ 2147483647) (hi : i ≤ 2147483647) : rdCount (str (repB e i)) 0 0 2147483647 = (e, (numB e).length, 0) ∧ rdCount (str (repB e i)) (numB e).length 0 2147483647 = (i, (repB e i).length, 0) ∧ rdEnd (str (repB e i)) (repB e i).length 0 = 0 ∧ (str (repB e i)).size = (repB e i).length := by
  have hd : (str (repB e i)).data.toList = repB e i := rfl
  refine ⟨?_, ?_, ?_, rfl⟩
  · have := count_at (s := str (repB e i)) (a := []) (c := numB i) (n := e) (most := 2147483647) (by rw [hd]; rfl) he (by decide)
    simpa using this
  · have := count_at (s := str (repB e i)) (a := numB e) (c := []) (n := i) (most := 2147483647) (by rw [hd]; simp [repB]) hi (by decide)
    simpa [repB] using this
  · unfold rdEnd
    simp [show (str (repB e i)).size = (repB e i).length from rfl]
set_option maxRecDepth 100000 in
set_option maxHeartbeats 1000000 in
theorem mreplyof {w : World} (e i : Nat) (he : e ≤ 2147483647) (hi : i ≤ 2147483647) : Calls Tryz.prog 78 #[.string (str (repB e i))] w fun r w' => r = .returned (.agg #[.int .i64 e, .int .i64 i]) ∧ Below w.heap.size w w' := by
  obtain ⟨r1, r2, r3, r4⟩ := rep_read e i he hi
  have hsz : (str (repB e i)).size ≤ maxLen := by
    rw [r4]
    have h1 := numB_len10 (n := e) (by omega)
    have h2 := numB_len10 (n := i) (by omega)
    unfold maxLen repB
    rw [List.length_append]
    omega
  have hl1 : (numB e).length ≤ (str (repB e i)).size := by rw [r4]; simp [repB]
  have hl2 : (repB e i).length ≤ (str (repB e i)).size := by rw [r4]; exact Nat.le_refl _
  have HR1 : Hid _ := r1
  have HR2 : Hid _ := r2
  have HR3 : Hid _ := r3
  have HSz : Hid _ := hsz
  have HL1 : Hid _ := hl1
  have HL2 : Hid _ := hl2
  obtain ⟨W0, hW0⟩ : ∃ W0, w.alloc (.cells #[.int .i64 0, .int .i64 0] 62) = W0 := ⟨_, rfl⟩
  have b0 : Below w.heap.size w W0 := by rw [← hW0]; exact ma_new _ _
  have k0 := heap_alloc_new w (.cells #[.int .i64 0, .int .i64 0] 62)
  rw [hW0] at k0
  have hz0 : W0.heap.size = w.heap.size + 1 := by rw [← hW0]; simp
  obtain ⟨g, hg⟩ : ∃ g, w.heap.size = g := ⟨_, rfl⟩
  have HG : Hid (w.heap.size = g) := hg
  rw [hg] at k0
  have HK0 : Hid (W0.heap[g]? = some (.cells #[.int .i64 0, .int .i64 0] 62 (0, 0))) := k0
  have HB0 : Hid (Below w.heap.size w W0) := b0
  have HZ0 : Hid (W0.heap.size = g + 1) := by show _ = _; rw [hz0, hg]
  generalize (repB e i).length = n2 at HR2 HR3 HL2
  generalize (numB e).length = n1 at HR1 HR2 HL1
  generalize str (repB e i) = s at HR1 HR2 HR3 HSz HL1 HL2 ⊢
  clear b0 k0 hz0 r1 r2 r3 r4 hsz hl1 hl2
  go_enter Tryz.func78, Tryz.ntmps78
  go_upto_region 2 with (go_at_call 15; refine (newreader_any s _).mono ?_; rintro r w1 ⟨rfl, hw1, hb1⟩)
  have HW1 : Hid (Rd w1 W0.heap.size s 0 0) := hw1
  have HB1 : Hid (Below W0.heap.size W0 w1) := hb1
  clear hw1 hb1 hW0 hg
  have tk1 : Hid True := trivial
  have hC1 := srd_most HW1.out HSz.out (Nat.zero_le _) HR1.out
  go_upto_region 3 with (first
    | (go_at_call 56; have _t := tk1; refine hC1.mono ?_; rintro r w2 ⟨rfl, hw2, hf2⟩; clear tk1 _t; have HW2 : Hid (Rd w2 W0.heap.size s n1 0) := hw2; have HF2 : Hid (Fr w1 w2 (fun k => k = W0.heap.size)) := hf2; clear hw2 hf2 hC1; have hC2 := srd_most HW2.out HSz.out HL1.out HR2.out)
    | (go_at_call 56; refine hC2.mono ?_; rintro r w3 ⟨rfl, hw3, hf3⟩; have HW3 : Hid (Rd w3 W0.heap.size s n2 0) := hw3; have HF3 : Hid (Fr w2 w3 (fun k => k = W0.heap.size)) := hf3; clear hw3 hf3 hC2))
  generalize hW4 : World.alloc w3 _ = W4
  obtain ⟨bk, hbk⟩ : ∃ bk, w3.heap.size = bk := ⟨_, rfl⟩
  have hbx := heap_alloc_new w3 (.cells #[.int .i64 e, .int .i64 i] 62)
  have HB4 : Hid (Below w3.heap.size w3 W4) := by rw [← hW4]; exact ma_new _ _
  rw [hW4, hbk] at hbx
  rw [hbk]
  have HX4 : Hid (W4.heap[bk]? = some (.cells #[.int .i64 e, .int .i64 i] 62 (0, 0))) := hbx
  have HW4 : Hid (Rd W4 W0.heap.size s n2 0) := HW3.out.below HB4.out
  have HF14 : Hid (Fr w1 W4 (fun k => k = W0.heap.size)) := (HF2.out.trans HF3.out (fun _ _ h => h)).trans (Fr.ofBelow HB4.out (fun k => k = W0.heap.size)) (fun _ _ h => h)
  have HBk : Hid (w1.heap.size ≤ bk) := by show _ ≤ _; rw [← hbk]; exact Nat.le_trans HF2.out.size HF3.out.size
  have HK4 : Hid (W4.heap[g]? = some (.cells #[.int .i64 0, .int .i64 0] 62 (0, 0))) := (HF14.out.block g (by have := ma_lt HK0.out; have := HB1.out.size; omega) (by have := HZ0.out; omega)).trans ((HB1.out.block g (ma_lt HK0.out)).trans HK0.out)
  have HLt : Hid (W0.heap.size < w1.heap.size) := HW1.out.lt
  clear hW4 hbk hbx
  have hEn := rend_to HW4.out HSz.out HL2.out HR3.out
  obtain ⟨e0, e1⟩ : W4.cell? ⟨bk, 0, none⟩ = some (.int .i64 e) ∧ W4.cell? ⟨bk, 1, none⟩ = some (.int .i64 i) := by constructor <;> simp [World.cell?, HX4.out]
  go_wp2_with (first
    | (go_at_call 48; refine hEn.mono ?_; rintro r w5 ⟨rfl, hw5, hf5⟩; have HF5 : Hid (Fr W4 w5 (fun k => k = W0.heap.size)) := hf5; have HK5 : Hid (w5.heap[g]? = some (.cells #[.int .i64 0, .int .i64 0] 62 (0, 0))) := (hf5.block g (ma_lt HK4.out) (by have := HZ0.out; omega)).trans HK4.out; have e5 := ma_frc hf5 (by have := HBk.out; have := HLt.out; omega) e0; have e6 := ma_frc hf5 (by have := HBk.out; have := HLt.out; omega) e1; clear hw5 hf5)
    | (refine wpList_store_row rfl 62 _ _ rfl g #[.int .i64 e, .int .i64 i] rfl rfl 62 #[.int .i64 0, .int .i64 0] HK5.out size_reply rfl (by simp [Value.oneCell']) ?_))
  refine bodyPost_ret (v := .agg #[.int .i64 e, .int .i64 i]) (results_cell_row Tryz.results78 _ _ g 62 _ (0, 0) _ rfl (setRow_heap _ _ _ _ _ _ HK5.out) Tryz.underlying62 rfl size_reply) rfl ?_
  refine ⟨rfl, ?_⟩
  have h1 : Below w.heap.size w w1 := HB0.out.trans (HB1.out.mono HB0.out.size)
  have h2 := h1.trans ((HF14.out.trans HF5.out (fun _ _ h => h)).below h1.size (fun k hk => by have := HB0.out.size; omega))
  exact h2.trans ((ap_setRow w5 g #[.int .i64 e, .int .i64 i]).below h2.size (fun k hk => by have := HG.out; omega))
end Go.Proofs.YtidghoipmggklaaGreat
end

section
/- What a request to submit does: the functions that are handed in. -/
namespace Go.Proofs.YtidghoipmggklaaGreat
open Go.RowKit Go.Maps
attribute [local go_sem] Oper.semAt_some
/-- What there is behind a job that was submitted, and began. -/
def SubSt (w0 w : World) (p : Nat) (ax : Value) (mb : Option Nat) (M : List Pz) (t : ByteArray) (G : List Vx) (ps : List Int) (st se pa : Int) : Prop := ∃ jb jc q hb av go gc po pc, RunAt w0 w p jb jc ax mb 1 M [.string t, .slice go G.length gc, .slice po ps.length pc, .int .i64 st, .int .i64 se, .int .i64 pa] pa q hb av ∧ VxAt w (fun k => w0.heap.size ≤ k) go G ∧ IsP w (fun k => w0.heap.size ≤ k) po ps ∧ w0.heap.size ≤ jb
section
variable {w0 w1 w w' : World} {p : Nat} {ax : Value} {mb : Option Nat} {M : List Pz} {t : ByteArray} {G : List Vx} {ps : List Int} {st se pa : Int}
theorem SubSt.kept (h : SubSt w0 w p ax mb M t G ps st se pa) {S : Nat → Prop} (f : Fr w w' S) (h1 : ¬ S p) (h3 : ∀ k, w0.heap.size ≤ k → ¬ S k) (h4 : ∀ b, mb = some b → ¬ S b) : SubSt w0 w' p ax mb M t G ps st se pa := by
  obtain ⟨jb, jc, q, hb, av, go, gc, po, pc, g1, g2, g3, g4⟩ := h
  exact ⟨jb, jc, q, hb, av, go, gc, po, pc, g1.kept f h1 (h3 jb g4) h3 h4, g2.kept f (fun k _ hk => ⟨h3 k hk, hk⟩), g3.kept f (fun k _ hk => ⟨h3 k hk, hk⟩), g4⟩
theorem SubSt.low (h : SubSt w1 w p ax mb M t G ps st se pa) (hl : w0.heap.size ≤ w1.heap.size) : SubSt w0 w p ax mb M t G ps st se pa := by
  obtain ⟨jb, jc, q, hb, av, go, gc, po, pc, g1, g2, g3, g4⟩ := h
  exact ⟨jb, jc, q, hb, av, go, gc, po, pc, g1.low hl, g2.mono (fun k _ hk => Nat.le_trans hl hk), g3.mono (fun k _ hk => Nat.le_trans hl hk), Nat.le_trans hl g4⟩
end
/-- The bytes are a job's. -/
def DecOk (s t : ByteArray) (G : List Vx) (ps : List Int) (st se pa : Int) : Prop := ∀ W : World, Calls Tryz.prog 12 #[.string s] W fun r w' => (∃ go gc po pc, r = .returned (.tuple #[.agg #[.string t, .slice go G.length gc, .slice po ps.length pc, .int .i64 st, .int .i64 se, .int .i64 pa], .int .i64 0]) ∧ VxAt w' (fun k => W.heap.size ≤ k) go G ∧ IsP w' (fun k => W.heap.size ≤ k) po ps) ∧ Below W.heap.size W w'
section
variable {w : World} {p : Nat} {ax : Value} {mb : Option Nat} {M : List Pz} {s t : ByteArray} {G : List Vx} {ps : List Int} {st se pa : Int}
theorem MaBox.mlt {js cr : Value} {ep : Int} (h : MaBox w p ax mb js ep cr M) : ∀ b, mb = some b → b < w.heap.size := fun b hb => by subst hb; exact WkAt.lt h.wk
set_option maxRecDepth 100000 in
set_option maxHeartbeats 1000000 in
theorem mapply1 (h : MaBox w p ax mb (.slice none 0 0) 0 (.pointer none) M) (h0 : 0 < M.length) (hl : M.length ≤ 999999) (hD : DecOk s t G ps st se pa) {bm bc : Nat} (hm : w.cell? ⟨bm, 0, none⟩ = some (.pointer (some ⟨p, 0, none⟩))) (hc : w.cell? ⟨bc, 3, none⟩ = some (.string s)) :
    Calls Tryz.prog 69 #[.pointer (some ⟨bm, 0, none⟩), .pointer (some ⟨bc, 0, none⟩)] w fun r w' => r = .returned (.agg #[.int .i64 0, .int .i64 1]) ∧ SubSt w w' p ax mb M t G ps st se pa ∧ Fr w w' (fun k => k = p) := by
  have HA : Hid (MaBox w p ax mb (.slice none 0 0) 0 (.pointer none) M) := h
  have HMb : Hid (∀ b, mb = some b → b < w.heap.size) := h.mlt
  have HPs : Hid (p < w.heap.size) := h.lt
  obtain ⟨W0, hW0⟩ : ∃ W0, w.alloc (.cells #[.int .i64 0, .int .i64 0] 62) = W0 := ⟨_, rfl⟩
  have b0 : Below w.heap.size w W0 := by rw [← hW0]; exact ma_new _ _
  have k0 := heap_alloc_new w (.cells #[.int .i64 0, .int .i64 0] 62)
  rw [hW0] at k0
  have hz0 : W0.heap.size = w.heap.size + 1 := by rw [← hW0]; simp
  obtain ⟨g, hg⟩ : ∃ g, w.heap.size = g := ⟨_, rfl⟩
  have HG : Hid (w.heap.size = g) := hg
  rw [hg] at k0
  have HK0 : Hid (W0.heap[g]? = some (.cells #[.int .i64 0, .int .i64 0] 62 (0, 0))) := k0
  have HB0 : Hid (Below w.heap.size w W0) := b0
  have HZ0 : Hid (W0.heap.size = g + 1) := by show _ = _; rw [hz0, hg]
  have c0 := (b0.cell (ma_ltc hm)).trans hm
  have c3 := (b0.cell (ma_ltc hc)).trans hc
  have hSb := msubmit (h.new b0) h0 hl hD
  clear h b0 k0 hz0 hm hc hD
  go_enter Tryz.func69, Tryz.ntmps69
  go_wp2_with (first
    | (go_at_call 70; refine hSb.mono ?_; rintro r w5 ⟨rfl, jb, jc, q, hb, av, go, gc, po, pc, q1, q2, q3, q4, q5⟩; have HQ : Hid (SubSt W0 w5 p ax mb M t G ps st se pa) := ⟨jb, jc, q, hb, av, go, gc, po, pc, q1, q2, q3, q4⟩; have HF5 : Hid (Fr W0 w5 (fun k => k = p)) := q5; have HK5 : Hid (w5.heap[g]? = some (.cells #[.int .i64 0, .int .i64 0] 62 (0, 0))) := (q5.block g (ma_lt HK0.out) (by have := HPs.out; have := HG.out; omega)).trans HK0.out; clear q1 q2 q3 q4 q5)
    | (refine wpList_store_row rfl 62 _ _ rfl g #[.int .i64 0, .int .i64 1] rfl rfl 62 #[.int .i64 0, .int .i64 0] HK5.out size_reply rfl (by simp [Value.oneCell']) ?_))
  refine bodyPost_ret (v := .agg #[.int .i64 0, .int .i64 1]) (results_cell_row Tryz.results69 _ _ g 62 _ (0, 0) _ rfl (setRow_heap _ _ _ _ _ _ HK5.out) Tryz.underlying62 rfl size_reply) rfl ?_
  have f6 := ap_setRow w5 g #[.int .i64 0, .int .i64 1]
  have hps := HPs.out
  have hgg := HG.out
  have hz := HZ0.out
  refine ⟨rfl, (HQ.out.kept f6 (fun e => by omega) (fun k hk e => by omega) (fun b hb e => by have := HMb.out b hb; omega)).low HB0.out.size, ?_⟩
  exact ((Fr.ofBelow HB0.out (fun k => k = p)).trans HF5.out (fun _ _ h => h)).trans f6 (fun k hk e => by omega)
theorem enters_ap : ∀ args w, (callFunc 69 args).run Tryz.prog w = .ok (.enter 69 args) w := enters_of Tryz.func69 (by kernel_rfl) rfl
theorem enters_rq : ∀ args w, (callFunc 127 args).run Tryz.prog w = .ok (.enter 127 args) w := enters_of Tryz.func127 (by kernel_rfl) rfl
set_option maxRecDepth 100000 in
set_option maxHeartbeats 1000000 in
theorem mreq1 (h : MaBox w p ax mb (.slice none 0 0) 0 (.pointer none) M) (h0 : 0 < M.length) (hl : M.length ≤ 999999) (hD : DecOk s t G ps st se pa) {bm bc bf : Nat} (hm : w.cell? ⟨bm, 0, none⟩ = some (.pointer (some ⟨p, 0, none⟩))) (hc : w.cell? ⟨bc, 3, none⟩ = some (.string s)) (hf : w.cell? ⟨bf, 0, none⟩ = some (.func (.func 69) #[] #[.pointer (some ⟨bm, 0, none⟩), .pointer (some ⟨bc, 0, none⟩)])) :
    Calls Tryz.prog 127 #[.pointer (some ⟨bf, 0, none⟩)] w fun r w' => r = .returned (.string (str (repB 0 1))) ∧ SubSt w w' p ax mb M t G ps st se pa ∧ Fr w w' (fun k => k = p) := by
  have hSb := mapply1 h h0 hl hD hm hc
  have HMb : Hid (∀ b, mb = some b → b < w.heap.size) := h.mlt
  have HPs : Hid (p < w.heap.size) := h.lt
  have eg := enters_ap
  clear h hm hc
  go_enter Tryz.func127, Tryz.ntmps127
  go_wp2_with (first
    | (go_at_call 69; refine hSb.mono ?_; rintro r w5 ⟨rfl, q1, q5⟩; have HQ : Hid (SubSt w w5 p ax mb M t G ps st se pa) := q1; have HF5 : Hid (Fr w w5 (fun k => k = p)) := q5; clear q1 q5)
    | (go_at_call 128; refine (mtextof 0 1 (by decide) (by decide)).mono ?_; rintro r w6 ⟨rfl, hb6⟩))
  go_ret
  have f6 : Fr w5 w6 (fun _ => False) := Fr.ofBelow hb6 _
  exact ⟨rfl, HQ.out.kept f6 (fun h => h) (fun _ _ h => h) (fun _ _ h => h), HF5.out.trans f6 (fun _ _ h => h.elim)⟩
set_option maxRecDepth 100000 in
set_option maxHeartbeats 1000000 in
theorem mtable {js cr : Value} {ep : Int} (h : MaBox w p (.pointer none) mb js ep cr M) : Calls Tryz.prog 76 #[.pointer (some ⟨p, 0, none⟩)] w fun r w' => ∃ tb, r = .returned (.pointer (some ⟨tb, 0, none⟩)) ∧ MaBox w' p (.pointer (some ⟨tb, 0, none⟩)) mb js ep cr M ∧ TA w' w.heap.size tb (.slice none 0 0) [] ∧ w.heap.size ≤ tb ∧ Fr w w' (fun k => k = p) := by
  have HA : Hid (MaBox w p (.pointer none) mb js ep cr M) := h
  have HPs : Hid (p < w.heap.size) := h.lt
  obtain ⟨c0, -, -, -, -⟩ := h.c
  have hN : Calls Tryz.prog 136 #[] w fun r w' => r = .returned (.pointer (some ⟨w.heap.size, 0, none⟩)) ∧ TA w' w.heap.size w.heap.size (.slice none 0 0) [] ∧ Below w.heap.size w w' ∧ w'.cell? ⟨p, 0, none⟩ = some (.pointer none) ∧ w'.frozen? ⟨p, 0, none⟩ = false := (snew w w.heap.size (Nat.le_refl _)).mono (fun r w' ⟨h1, h2, h3⟩ => ⟨h1, h2, h3, (HA.out.new h3).c.1, (HA.out.new h3).f 0⟩)
  clear h
  go_enter Tryz.func76, Tryz.ntmps76
  go_upto_region 3 with (go_at_call 136; refine hN.mono ?_; rintro r w1 ⟨rfl, ht1, hb1, d0, e0⟩)
  generalize hW2 : World.setCell _ _ _ = W2
  obtain ⟨tb, htb⟩ : ∃ tb, w.heap.size = tb := ⟨_, rfl⟩
  rw [htb] at ht1 hW2
  have HF2 : Hid (Fr w1 W2 (fun k => k = p)) := by rw [← hW2]; exact Fr.setCell (S := fun k => k = p) _ _ _ rfl
  have HA1 : Hid (MaBox w1 p (.pointer none) mb js ep cr M) := HA.out.new hb1
  have HA2 : Hid (MaBox W2 p (.pointer (some ⟨tb, 0, none⟩)) mb js ep cr M) := ⟨by rw [← hW2]; exact ma_set (.pointer (some ⟨tb, 0, none⟩)) HA1.out.box, HA1.out.wk.kept HF2.out (fun b hb => HA1.out.ne b hb), HA1.out.ne⟩
  have HT2 : Hid (TA W2 tb tb (.slice none 0 0) []) := ht1.kept HF2.out (fun e => by have := HPs.out; omega) (fun k hk => by cases hk)
  have HFw : Hid (Fr w W2 (fun k => k = p)) := (Fr.ofBelow hb1 (fun k => k = p)).trans HF2.out (fun _ _ h => h)
  obtain ⟨c0, -, -, -, -⟩ := HA2.out.c
  clear hW2 ht1 hb1 hN d0 e0
  go_wp2
  go_ret
  refine ⟨tb, rfl, HA2.out, ?_, Nat.le_of_eq htb, HFw.out⟩
  rw [htb]
  exact HT2.out
end
end Go.Proofs.YtidghoipmggklaaGreat
end

section
/- request at a master that has no table yet: the job is submitted, and begins. -/
namespace Go.Proofs.YtidghoipmggklaaGreat
open Go.RowKit Go.Maps
attribute [local go_sem] Oper.semAt_some
theorem fresh_first (k : Int) : freshR [] k 1 := by
  unfold freshR lookR
  simp [lastR, posR]
set_option maxRecDepth 100000 in
set_option maxHeartbeats 2000000 in
theorem mdo {w wt : World} {p tb : Nat} {mb : Option Nat} {M : List Pz} {s t : ByteArray} {G : List Vx} {ps : List Int} {st se pa sk : Int} {bm bc bf B : Nat} (hp : p < w.heap.size) (hmb : ∀ b, mb = some b → b < w.heap.size) (h0 : 0 < M.length) (hl : M.length ≤ 999999) (hD : DecOk s t G ps st se pa)
    (hm : w.cell? ⟨bm, 0, none⟩ = some (.pointer (some ⟨p, 0, none⟩))) (hc : w.cell? ⟨bc, 3, none⟩ = some (.string s)) (hf : w.cell? ⟨bf, 0, none⟩ = some (.func (.func 69) #[] #[.pointer (some ⟨bm, 0, none⟩), .pointer (some ⟨bc, 0, none⟩)])) (hbm : bm ≠ p) (hbc : bc ≠ p) (hbf : bf ≠ p)
    (hA : MaBox wt p (.pointer (some ⟨tb, 0, none⟩)) mb (.slice none 0 0) 0 (.pointer none) M) (hT : TA wt B tb (.slice none 0 0) []) (htb : w.heap.size ≤ tb) (hft : Fr w wt (fun k => k = p)) :
    Calls Tryz.prog 126 #[.pointer (some ⟨tb, 0, none⟩), .int .i64 sk, .int .i64 1, .func (.func 127) #[] #[.pointer (some ⟨bf, 0, none⟩)]] wt fun r w' => r = .returned (.tuple #[.string (str (repB 0 1)), .bool true, .int .i64 0]) ∧ SubSt w w' p (.pointer (some ⟨tb, 0, none⟩)) mb M t G ps st se pa ∧ Fr w w' (fun k => k = p) := by
  have hm1 := ma_frc hft hbm hm
  have hc1 := ma_frc hft hbc hc
  have hf1 := ma_frc hft hbf hf
  have hbm2 := ma_ltc hm
  have hbc2 := ma_ltc hc
  have hbf2 := ma_ltc hf
  have hst := hft.size
  have hlt := hT.lt
  refine (sdo_freshW hT Tab.nil (k := sk) (n := 1) (by decide) (fresh_first sk) (g := 127) (cb := #[.pointer (some ⟨bf, 0, none⟩)]) (s := str (repB 0 1)) (S := fun k => k = p) (fun k hk => ⟨by omega, by omega, fun e => by cases e⟩) (Q := fun W W' => SubSt W W' p (.pointer (some ⟨tb, 0, none⟩)) mb M t G ps st se pa) (fun W hF => ⟨enters_rq, ?_⟩)).mono ?_
  · have hn : ∀ k, k < w.heap.size → ¬ (k = tb ∨ (Value.slice none 0 0).ownBlock = some k) := fun k hk e => by
      rcases e with e | e
      · omega
      · cases e
    refine (mreq1 (hA.kept hF (hn p hp) (fun b hb => hn b (hmb b hb))) h0 hl hD (ma_frc hF (hn bm hbm2) hm1) (ma_frc hF (hn bc hbc2) hc1) (ma_frc hF (hn bf hbf2) hf1)).mono ?_
    rintro r w' ⟨h1, h2, h3⟩
    exact ⟨h1, h3, h2⟩
  · rintro r w' ⟨h1, w4, w5, v4, v', g1, g2, g3, g4, g5, _⟩
    have hs4 := g1.size
    have g5' : ∀ k, v4.ownBlock = some k → wt.heap.size ≤ k ∧ k < w4.heap.size := fun k hk => by
      rcases g5 k hk with e | e
      · cases e
      · exact e
    refine ⟨h1, (g3.kept g4 (fun e => ?_) (fun k hk e => ?_) (fun b hb e => ?_)).low (by omega), ?_⟩
    · rcases e with e | e
      · omega
      · have := g5' p e; omega
    · rcases e with e | e
      · omega
      · have := g5' k e; omega
    · have hbl := hmb b hb
      rcases e with e | e
      · omega
      · have := g5' b e; omega
    · have f1 : Fr w w4 (fun k => k = p) := hft.trans g1 (fun k hk e => by
        rcases e with e | e
        · omega
        · cases e)
      have f2 : Fr w w5 (fun k => k = p) := f1.trans g2 (fun _ _ h => h)
      exact f2.trans g4 (fun k hk e => by
        rcases e with e | e
        · omega
        · have := g5' k e; omega)
set_option linter.unusedSimpArgs false in
set_option maxRecDepth 100000 in
set_option maxHeartbeats 4000000 in
theorem mrequest {w : World} {p : Nat} {mb : Option Nat} {M : List Pz} {s t : ByteArray} {G : List Vx} {ps : List Int} {st se pa sk : Int} (h : MaBox w p (.pointer none) mb (.slice none 0 0) 0 (.pointer none) M) (h0 : 0 < M.length) (hl : M.length ≤ 999999) (hD : DecOk s t G ps st se pa) {bm bc : Nat} (hm : w.cell? ⟨bm, 0, none⟩ = some (.pointer (some ⟨p, 0, none⟩))) (hc : w.cell? ⟨bc, 3, none⟩ = some (.string s)) (hbm : bm ≠ p) (hbc : bc ≠ p) (x0 x3 x4 x5 x6 x7 x8 x9 x10 x11 x12 x13 x14 x15 x16 x17 x18 x19 x20 x21 x22 x23 x24 x25 x26 : Value) :
    Calls Tryz.prog 68 #[.pointer (some ⟨p, 0, none⟩), .agg #[x0, .int .i64 sk, .int .i64 1, x3, x4, x5, x6, x7, x8, x9, x10, x11, x12, x13, x14, x15, x16, x17, x18, x19, x20, x21, x22, x23, x24, x25, x26], .func (.func 69) #[] #[.pointer (some ⟨bm, 0, none⟩), .pointer (some ⟨bc, 0, none⟩)]] w fun r w' => r = .returned (.tuple #[.agg #[.int .i64 0, .int .i64 1], .int .i64 0]) ∧ ∃ tb, SubSt w w' p (.pointer (some ⟨tb, 0, none⟩)) mb M t G ps st se pa ∧ Fr w w' (fun k => k = p) := by
  have hmf : ∀ (fn : Fn) (first cap : Array Value) (w : World), (Instr.makeFunc fn first cap).run Tryz.prog w = .ok (.func fn first cap) w := fun _ _ _ _ => rfl
  have HMb : Hid (∀ b, mb = some b → b < w.heap.size) := h.mlt
  have HPs : Hid (p < w.heap.size) := h.lt
  obtain ⟨W1, hW1⟩ : ∃ W1, w.alloc (.cells #[x0, .int .i64 sk, .int .i64 1, x3, x4, x5, x6, x7, x8, x9, x10, x11, x12, x13, x14, x15, x16, x17, x18, x19, x20, x21, x22, x23, x24, x25, x26] 59) = W1 := ⟨_, rfl⟩
  obtain ⟨W2, hW2⟩ : ∃ W2, W1.alloc (.cells #[.func (.func 69) #[] #[.pointer (some ⟨bm, 0, none⟩), .pointer (some ⟨bc, 0, none⟩)]] 149) = W2 := ⟨_, rfl⟩
  obtain ⟨W3, hW3⟩ : ∃ W3, W2.alloc (.cells #[.int .i64 0, .int .i64 0] 62) = W3 := ⟨_, rfl⟩
  have b1 : Below w.heap.size w W1 := by rw [← hW1]; exact ma_new _ _
  have b2 : Below W1.heap.size W1 W2 := by rw [← hW2]; exact ma_new _ _
  have b3 : Below W2.heap.size W2 W3 := by rw [← hW3]; exact ma_new _ _
  have s1 : W1.heap.size = w.heap.size + 1 := by rw [← hW1]; simp
  have s2 : W2.heap.size = w.heap.size + 2 := by rw [← hW2, World.size_alloc, s1]
  have s3 : W3.heap.size = w.heap.size + 3 := by rw [← hW3, World.size_alloc, s2]
  have k1 := heap_alloc_new w (.cells #[x0, .int .i64 sk, .int .i64 1, x3, x4, x5, x6, x7, x8, x9, x10, x11, x12, x13, x14, x15, x16, x17, x18, x19, x20, x21, x22, x23, x24, x25, x26] 59)
  rw [hW1] at k1
  have k2 := heap_alloc_new W1 (.cells #[.func (.func 69) #[] #[.pointer (some ⟨bm, 0, none⟩), .pointer (some ⟨bc, 0, none⟩)]] 149)
  rw [hW2] at k2
  have k3 := heap_alloc_new W2 (.cells #[.int .i64 0, .int .i64 0] 62)
  rw [hW3] at k3
  obtain ⟨bd, hbd⟩ : ∃ bd, w.heap.size = bd := ⟨_, rfl⟩
  obtain ⟨bf, hbf⟩ : ∃ bf, W1.heap.size = bf := ⟨_, rfl⟩
  obtain ⟨gr, hgr⟩ : ∃ gr, W2.heap.size = gr := ⟨_, rfl⟩
  rw [hbd] at k1
  rw [hbf] at k2
  rw [hgr] at k3
  have k1' := (b3.block bd (by omega)).trans ((b2.block bd (by omega)).trans k1)
  have k2' := (b3.block bf (by omega)).trans k2
  have d1 : W3.cell? ⟨bd, 1, none⟩ = some (.int .i64 sk) := by simp [World.cell?, k1']
  have d2 : W3.cell? ⟨bd, 2, none⟩ = some (.int .i64 1) := by simp [World.cell?, k1']
  have hf : W3.cell? ⟨bf, 0, none⟩ = some (.func (.func 69) #[] #[.pointer (some ⟨bm, 0, none⟩), .pointer (some ⟨bc, 0, none⟩)]) := by simp [World.cell?, k2']
  have b13 : Below w.heap.size w W3 := (b1.trans (b2.mono (by omega))).trans (b3.mono (by omega))
  have HB : Hid (Below w.heap.size w W3) := b13
  have HA3 : Hid (MaBox W3 p (.pointer none) mb (.slice none 0 0) 0 (.pointer none) M) := h.new b13
  have HRe : Hid (W3.heap[gr]? = some (.cells #[.int .i64 0, .int .i64 0] 62 (0, 0))) := k3
  have HLt : Hid (p < bd) := by have := h.lt; show _ < _; omega
  have HGr : Hid (gr = w.heap.size + 2 ∧ W3.heap.size = w.heap.size + 3) := ⟨by omega, s3⟩
  have hpl := h.lt
  have HDo0 : Hid (∀ wt tb, MaBox wt p (.pointer (some ⟨tb, 0, none⟩)) mb (.slice none 0 0) 0 (.pointer none) M → (∀ {B : Nat}, TA wt B tb (.slice none 0 0) [] → W3.heap.size ≤ tb → Fr W3 wt (fun k => k = p) → Calls Tryz.prog 126 #[.pointer (some ⟨tb, 0, none⟩), .int .i64 sk, .int .i64 1, .func (.func 127) #[] #[.pointer (some ⟨bf, 0, none⟩)]] wt fun r w' => r = .returned (.tuple #[.string (str (repB 0 1)), .bool true, .int .i64 0]) ∧ SubSt W3 w' p (.pointer (some ⟨tb, 0, none⟩)) mb M t G ps st se pa ∧ Fr W3 w' (fun k => k = p))) := fun wt tb hA B hT htb hft =>
    mdo (by omega) (fun b hb => by have := h.mlt b hb; omega) h0 hl hD ((b13.cell (ma_ltc hm)).trans hm) ((b13.cell (ma_ltc hc)).trans hc) hf hbm hbc (by omega) hA hT htb hft
  clear h b1 b2 b3 s1 s2 s3 k1 k2 k3 k1' k2' hm hc hf b13 hD
  go_enter Tryz.func68, Tryz.ntmps68
  go_upto_region 1 with (fail)
  clear hW1 hW2 hW3 hbd hbf hgr
  obtain ⟨Wd, hWd⟩ : ∃ Wd, World.drew W3 = Wd := ⟨_, rfl⟩
  have bd3 : Below W3.heap.size W3 Wd := by rw [← hWd]; exact ((Below.refl _ W3).drew)
  have hS0 : (fun w' : World => w'.cell? ⟨bd, 1, none⟩ = some (.int .i64 sk) ∧ w'.cell? ⟨bd, 2, none⟩ = some (.int .i64 1)) Wd := ⟨(bd3.cell (ma_ltc d1)).trans d1, (bd3.cell (ma_ltc d2)).trans d2⟩
  have HAd : Hid (MaBox Wd p (.pointer none) mb (.slice none 0 0) 0 (.pointer none) M) := HA3.out.new bd3
  have HB3d : Hid (Below W3.heap.size W3 Wd) := bd3
  refine ma_calm ?_
  refine wp_region_L [] (fun w' : World => w'.cell? ⟨bd, 1, none⟩ = some (.int .i64 sk) ∧ w'.cell? ⟨bd, 2, none⟩ = some (.int .i64 1)) (by kernel_rfl) ?_
  rw [hWd]
  clear hWd bd3
  refine wpAnyL_take (i := 0) 12 (v := .pointer (some ⟨p, 0, none⟩)) rfl rfl (by kernel_rfl) (by kernel_rfl) (by kernel_rfl) (by kernel_rfl) (by kernel_rfl) (by kernel_rfl) (fun _ _ _ h => h) hS0 (by rfl) (by intro w' hSw; obtain ⟨y0, y1⟩ := hSw; go_simp <;> with_reducible rfl) ?_
  simp only [Act.put, List.setIfInBounds_toArray, List.set_cons_zero, List.set_cons_succ]
  refine wpAnyL_take (i := 2) 14 (v := .pointer (some ⟨bd, 1, none⟩)) rfl rfl (by kernel_rfl) (by kernel_rfl) (by kernel_rfl) (by kernel_rfl) (by kernel_rfl) (by kernel_rfl) (fun _ _ _ h => h) hS0 (by rfl) (by intro w' hSw; obtain ⟨y0, y1⟩ := hSw; go_simp <;> with_reducible rfl) ?_
  simp only [Act.put, List.setIfInBounds_toArray, List.set_cons_zero, List.set_cons_succ]
  refine wpAnyL_take (i := 3) 15 (v := .int .i64 sk) rfl rfl (by kernel_rfl) (by kernel_rfl) (by kernel_rfl) (by kernel_rfl) (by kernel_rfl) (by kernel_rfl) (fun _ _ _ h => h) hS0 (by rfl) (by intro w' hSw; obtain ⟨y0, y1⟩ := hSw; go_simp <;> with_reducible rfl) ?_
  simp only [Act.put, List.setIfInBounds_toArray, List.set_cons_zero, List.set_cons_succ]
  refine wpAnyL_take (i := 4) 16 (v := .pointer (some ⟨bd, 2, none⟩)) rfl rfl (by kernel_rfl) (by kernel_rfl) (by kernel_rfl) (by kernel_rfl) (by kernel_rfl) (by kernel_rfl) (fun _ _ _ h => h) hS0 (by rfl) (by intro w' hSw; obtain ⟨y0, y1⟩ := hSw; go_simp <;> with_reducible rfl) ?_
  simp only [Act.put, List.setIfInBounds_toArray, List.set_cons_zero, List.set_cons_succ]
  refine wpAnyL_take (i := 5) 17 (v := .int .i64 1) rfl rfl (by kernel_rfl) (by kernel_rfl) (by kernel_rfl) (by kernel_rfl) (by kernel_rfl) (by kernel_rfl) (fun _ _ _ h => h) hS0 (by rfl) (by intro w' hSw; obtain ⟨y0, y1⟩ := hSw; go_simp <;> with_reducible rfl) ?_
  simp only [Act.put, List.setIfInBounds_toArray, List.set_cons_zero, List.set_cons_succ]
  refine wpAnyL_take (i := 6) 18 (v := .func (.func 127) #[] #[.pointer (some ⟨bf, 0, none⟩)]) rfl rfl (by kernel_rfl) (by kernel_rfl) (by kernel_rfl) (by kernel_rfl) (by kernel_rfl) (by kernel_rfl) (fun _ _ _ h => h) hS0 (by rfl) (by intro w' hSw; obtain ⟨y0, y1⟩ := hSw; go_simp <;> with_reducible rfl) ?_
  simp only [Act.put, List.setIfInBounds_toArray, List.set_cons_zero, List.set_cons_succ]
  refine wpAnyL_one (i := 1) (by kernel_rfl) rfl (fun Ka hKa => ?_)
  go_simp
  refine (mtable HAd.out).mono ?_
  rintro r wt ⟨tb, rfl, hAt, hTt, htb, hft⟩
  have HAt : Hid (MaBox wt p (.pointer (some ⟨tb, 0, none⟩)) mb (.slice none 0 0) 0 (.pointer none) M) := hAt
  have HTt : Hid (TA wt Wd.heap.size tb (.slice none 0 0) []) := hTt
  have HTb : Hid (Wd.heap.size ≤ tb) := htb
  have HFt : Hid (Fr Wd wt (fun k => k = p)) := hft
  have hS1 : (fun w' : World => w'.cell? ⟨bd, 1, none⟩ = some (.int .i64 sk) ∧ w'.cell? ⟨bd, 2, none⟩ = some (.int .i64 1)) wt := ⟨ma_frc hft (by have := HLt.out; omega) hS0.1, ma_frc hft (by have := HLt.out; omega) hS0.2⟩
  refine hKa.out _ _ (fun _ => hS1) ?_
  clear hKa Ka hAt hTt htb hft
  try simp only [Act.put, List.setIfInBounds_toArray, List.set_cons_zero, List.set_cons_succ]
  have HDo := HDo0.out wt tb HAt.out HTt.out (Nat.le_trans HB3d.out.size HTb.out) ((Fr.ofBelow HB3d.out (fun k => k = p)).trans HFt.out (fun _ _ h => h))
  refine wpAnyL_one (i := 7) (by kernel_rfl) rfl (fun Kb hKb => ?_)
  go_simp
  refine HDo.mono ?_
  rintro r w6 ⟨rfl, hq6, hf6⟩
  have HQ6 : Hid (SubSt W3 w6 p (.pointer (some ⟨tb, 0, none⟩)) mb M t G ps st se pa) := hq6
  have HF6 : Hid (Fr W3 w6 (fun k => k = p)) := hf6
  have hS2 : (fun w' : World => w'.cell? ⟨bd, 1, none⟩ = some (.int .i64 sk) ∧ w'.cell? ⟨bd, 2, none⟩ = some (.int .i64 1)) w6 := ⟨ma_frc hf6 (by have := HLt.out; omega) d1, ma_frc hf6 (by have := HLt.out; omega) d2⟩
  refine hKb.out _ _ (fun _ => hS2) ?_
  clear hKb Kb hq6 hf6 HDo
  try simp only [Act.put, List.setIfInBounds_toArray, List.set_cons_zero, List.set_cons_succ]
  refine wpAnyL_take (i := 8) 11 (v := .tuple #[.string (str (repB 0 1)), .bool true, .int .i64 0]) rfl rfl (by kernel_rfl) (by kernel_rfl) (by kernel_rfl) (by kernel_rfl) (by kernel_rfl) (by kernel_rfl) (fun _ _ _ h => h) hS2 (by rfl) (by intro w' hSw; obtain ⟨y0, y1⟩ := hSw; go_simp <;> with_reducible rfl) ?_
  simp only [Act.put, List.setIfInBounds_toArray, List.set_cons_zero, List.set_cons_succ]
  refine wpAnyL_take (i := 9) 20 (v := .string (str (repB 0 1))) rfl rfl (by kernel_rfl) (by kernel_rfl) (by kernel_rfl) (by kernel_rfl) (by kernel_rfl) (by kernel_rfl) (fun _ _ _ h => h) hS2 (by rfl) (by intro w' hSw; obtain ⟨y0, y1⟩ := hSw; go_simp <;> with_reducible rfl) ?_
  simp only [Act.put, List.setIfInBounds_toArray, List.set_cons_zero, List.set_cons_succ]
  refine wpAnyL_take (i := 10) 21 (v := .bool true) rfl rfl (by kernel_rfl) (by kernel_rfl) (by kernel_rfl) (by kernel_rfl) (by kernel_rfl) (by kernel_rfl) (fun _ _ _ h => h) hS2 (by rfl) (by intro w' hSw; obtain ⟨y0, y1⟩ := hSw; go_simp <;> with_reducible rfl) ?_
  simp only [Act.put, List.setIfInBounds_toArray, List.set_cons_zero, List.set_cons_succ]
  refine wpAnyL_take (i := 11) 22 (v := .int .i64 0) rfl rfl (by kernel_rfl) (by kernel_rfl) (by kernel_rfl) (by kernel_rfl) (by kernel_rfl) (by kernel_rfl) (fun _ _ _ h => h) hS2 (by rfl) (by intro w' hSw; obtain ⟨y0, y1⟩ := hSw; go_simp <;> with_reducible rfl) ?_
  simp only [Act.put, List.setIfInBounds_toArray, List.set_cons_zero, List.set_cons_succ]
  refine wpAnyL_take (i := 12) 8 (v := .string (str (repB 0 1))) rfl rfl (by kernel_rfl) (by kernel_rfl) (by kernel_rfl) (by kernel_rfl) (by kernel_rfl) (by kernel_rfl) (fun _ _ _ h => h) hS2 (by rfl) (by intro w' hSw; obtain ⟨y0, y1⟩ := hSw; go_simp <;> with_reducible rfl) ?_
  simp only [Act.put, List.setIfInBounds_toArray, List.set_cons_zero, List.set_cons_succ]
  refine wpAnyL_take (i := 13) 9 (v := .bool true) rfl rfl (by kernel_rfl) (by kernel_rfl) (by kernel_rfl) (by kernel_rfl) (by kernel_rfl) (by kernel_rfl) (fun _ _ _ h => h) hS2 (by rfl) (by intro w' hSw; obtain ⟨y0, y1⟩ := hSw; go_simp <;> with_reducible rfl) ?_
  simp only [Act.put, List.setIfInBounds_toArray, List.set_cons_zero, List.set_cons_succ]
  refine wpAnyL_take (i := 14) 10 (v := .int .i64 0) rfl rfl (by kernel_rfl) (by kernel_rfl) (by kernel_rfl) (by kernel_rfl) (by kernel_rfl) (by kernel_rfl) (fun _ _ _ h => h) hS2 (by rfl) (by intro w' hSw; obtain ⟨y0, y1⟩ := hSw; go_simp <;> with_reducible rfl) ?_
  simp only [Act.put, List.setIfInBounds_toArray, List.set_cons_zero, List.set_cons_succ]
  refine wpAnyL_done (by kernel_rfl) ?_ _
  have HK6 : Hid (w6.heap[gr]? = some (.cells #[.int .i64 0, .int .i64 0] 62 (0, 0))) := (HF6.out.block gr (ma_lt HRe.out) (by have := HPs.out; have := HGr.out.1; omega)).trans HRe.out
  clear hS0 hS1 hS2 d1 d2 hmf
  go_wp2_with (first
    | (go_at_call 78; refine (mreplyof 0 1 (by decide) (by decide)).mono ?_; rintro r w7 ⟨rfl, hb7⟩; have HB7 : Hid (Below w6.heap.size w6 w7) := hb7; have HK7 : Hid (w7.heap[gr]? = some (.cells #[.int .i64 0, .int .i64 0] 62 (0, 0))) := (hb7.block gr (ma_lt HK6.out)).trans HK6.out; clear hb7)
    | (refine wpList_store_row rfl 62 _ _ rfl gr #[.int .i64 0, .int .i64 1] rfl rfl 62 #[.int .i64 0, .int .i64 0] HK7.out size_reply rfl (by simp [Value.oneCell']) ?_))
  refine bodyPost_ret (v := .tuple #[.agg #[.int .i64 0, .int .i64 1], .int .i64 0]) (res_ctJ Tryz.results68 _ _ gr 62 _ (0, 0) _ rfl (setRow_heap _ _ _ _ _ _ HK7.out) Tryz.underlying62 rfl size_reply) rfl ?_
  have f8 := ap_setRow w7 gr #[.int .i64 0, .int .i64 1]
  have hps := HPs.out
  have hgr := HGr.out
  have f7 : Fr w6 w7 (fun _ => False) := Fr.ofBelow HB7.out _
  refine ⟨rfl, tb, ((HQ6.out.kept f7 (fun h => h) (fun _ _ h => h) (fun _ _ h => h)).kept f8 (fun e => by omega) (fun k hk e => by omega) (fun b hb e => by have := HMb.out b hb; omega)).low HB.out.size, ?_⟩
  exact (((Fr.ofBelow HB.out (fun k => k = p)).trans HF6.out (fun _ _ h => h)).trans f7 (fun _ _ h => h.elim)).trans f8 (fun k hk e => by omega)
end Go.Proofs.YtidghoipmggklaaGreat
end
