import Derived.Test.YthkfbaoeimjgaaaGreatMaBgM
section
/- goOn of a master whose one job is Queued: it begins. -/
namespace Go.Proofs.YthkfbaoeimjgaaaGreat
open Go.RowKit Go.Maps
attribute [local go_sem] Oper.semAt_some
theorem mopen_none {w : World} {p : Nat} {ax cr : Value} {mb : Option Nat} {ep : Int} {M : List Pz} (h : MaBox w p ax mb (.slice none 0 0) ep cr M) : Calls Tryz.prog 31 #[.pointer (some ⟨p, 0, none⟩)] w fun r w' => r = .returned (.int .i64 0) ∧ w' = w := by
  obtain ⟨-, -, c2, -, -⟩ := h.c
  clear h
  go_enter Tryz.func31, Tryz.ntmps31
  go_wp2
  go_loopw [3, 5, 13] (fun n _ i wr => i = .int .i64 0 ∧ n = .int .i64 0 ∧ wr = w) (fun _ _ _ _ => 0)
  case atStart => exact ⟨rfl, rfl, rfl⟩
  case round =>
    obtain ⟨rfl, rfl, rfl⟩ := hrel
    go_wp2
    go_ret
    exact ⟨rfl, rfl⟩
theorem MaBox.mbc {w : World} {p : Nat} {ax js cr : Value} {mb : Option Nat} {ep : Int} {M : List Pz} (h : MaBox w p ax mb js ep cr M) {k : Nat} {cs : Array Value} {t : TypeId} {f : Nat × Nat} (hk : w.heap[k]? = some (.cells cs t f)) : mb ≠ some k := by
  intro e
  subst e
  obtain ⟨es, c, hm⟩ := WMap.isMap h.wk
  rw [hm] at hk
  cases hk
/-- What there is behind a job's beginning. -/
structure RunAt (w0 w : World) (p jb jc : Nat) (ax : Value) (mb : Option Nat) (ep : Int) (M : List Pz) (sp : List Value) (pa : Int) (q hb : Nat) (av : Value) : Prop where
  ma : MaBox w p ax mb (.slice (some ⟨jb, 0, none⟩) 1 jc) ep (.pointer (some ⟨q, 0, none⟩)) M
  jb : JbAt w jb sp 2
  cr : w.heap[q]? = some (.cells (crCells 1 ep 0 1 av (.map (some hb))).toArray 166 (0, 0))
  hd : w.heap[hb]? = some (.map #[] 0)
  lq : w0.heap.size ≤ q
  lh : w0.heap.size ≤ hb
  as_ : IO_ w w0.heap.size av (asgn pa (risL (M.map (·.k))))
set_option maxRecDepth 100000 in
set_option maxHeartbeats 2000000 in
theorem mgoon_one {w : World} {p jb jc : Nat} {ax : Value} {mb : Option Nat} {ep : Int} {M : List Pz} {t g ps x y : Value} {pa : Int} (h : MaBox w p ax mb (.slice (some ⟨jb, 0, none⟩) 1 jc) ep (.pointer none) M) (hj : JbAt w jb [t, g, ps, x, y, .int .i64 pa] 1) (he : 0 ≤ ep ∧ ep ≤ 1000) (h0 : 0 < M.length) (hl : M.length ≤ 999999) :
    Calls Tryz.prog 129 #[.pointer (some ⟨p, 0, none⟩)] w fun r w' => r = .returned (.tuple #[]) ∧ ∃ q hb av, RunAt w w' p jb jc ax mb (ep + 1) M [t, g, ps, x, y, .int .i64 pa] pa q hb av ∧ Fr w w' (fun k => k = p ∨ k = jb) := by
  have HA : Hid (MaBox w p ax mb (.slice (some ⟨jb, 0, none⟩) 1 jc) ep (.pointer none) M) := h
  have HE : Hid (0 ≤ ep ∧ ep ≤ 1000) := he
  have HL : Hid (M.length ≤ 999999) := hl
  have HJp : Hid (jb ≠ p) := fun e => by
    obtain ⟨cur, h1, _⟩ := hj.row
    have h2 := h.box
    rw [e, h2] at h1
    injection h1 with h1
    injection h1 with _ h1 _
    exact absurd h1 (by decide)
  have HMj : Hid (mb ≠ some jb) := by obtain ⟨cur, h1, _⟩ := hj.row; exact h.mbc h1
  have HMl : Hid (∀ b, mb = some b → b < w.heap.size) := fun b hb => by subst hb; exact WkAt.lt h.wk
  have hF := mfirst_one h hj
  have HPs : Hid (p < w.heap.size ∧ jb < w.heap.size) := ⟨h.lt, hj.lt⟩
  obtain ⟨-, c1, -, -, c4⟩ := h.c
  have hln := fun ty => wlen h.wk ty
  obtain ⟨n, hn⟩ : ∃ n, M.length = n + 1 := ⟨M.length - 1, by omega⟩
  rw [hn] at hln
  have hn0 : ¬ ((n : Int) + 1 = 0) := by omega
  clear h hj h0 hn he
  go_enter Tryz.func129, Tryz.ntmps129
  go_upto_region 2 with (fail)
  clear hln hn0 c1
  have hF2 : Calls Tryz.prog 175 #[.pointer (some ⟨p, 0, none⟩)] w fun r w' => ∃ q, r = .returned (.pointer (some ⟨q, 0, none⟩)) ∧ JbAt w' jb [t, g, ps, x, y, .int .i64 pa] 2 ∧ w'.heap[q]? = some (.cells (crCells 1 0 0 0 (.slice none 0 0) (.map none)).toArray 166 (0, 0)) ∧ w.heap.size ≤ q ∧ Fr w w' (fun k => k = jb) ∧ w'.cell? ⟨p, 4, none⟩ = some (.pointer none) ∧ w'.frozen? ⟨p, 4, none⟩ = false := by
    refine hF.mono ?_
    rintro r w' ⟨q, h1, h2, h3, h4, h5⟩
    have hA' := HA.out.kept h5 (fun e => HJp.out e.symm) (fun b hb e => HMj.out (by rw [hb, e]))
    exact ⟨q, h1, h2, h3, h4, h5, hA'.c.2.2.2.2, hA'.f 4⟩
  clear hF
  go_upto_region 3 with (go_at_call 175; refine hF2.mono ?_; rintro r w1 ⟨q, rfl, hj1, hc1, hq1, hf1, d4, e4⟩)
  have HJ1 : Hid (JbAt w1 jb [t, g, ps, x, y, .int .i64 pa] 2) := hj1
  have HC1 : Hid (w1.heap[q]? = some (.cells (crCells 1 0 0 0 (.slice none 0 0) (.map none)).toArray 166 (0, 0))) := hc1
  have HQ1 : Hid (w.heap.size ≤ q) := hq1
  have HF1 : Hid (Fr w w1 (fun k => k = jb)) := hf1
  have HA1 : Hid (MaBox w1 p ax mb (.slice (some ⟨jb, 0, none⟩) 1 jc) ep (.pointer none) M) := HA.out.kept hf1 (fun e => HJp.out e.symm) (fun b hb e => HMj.out (by rw [hb, e]))
  clear hj1 hc1 hq1 hf1 hF2 c4
  generalize hW2 : World.setCell _ _ _ = W2
  have HF2 : Hid (Fr w1 W2 (fun k => k = p)) := by rw [← hW2]; exact Fr.setCell (S := fun k => k = p) _ _ _ rfl
  have HA2 : Hid (MaBox W2 p ax mb (.slice (some ⟨jb, 0, none⟩) 1 jc) ep (.pointer (some ⟨q, 0, none⟩)) M) := ⟨by rw [← hW2]; exact ma_set (.pointer (some ⟨q, 0, none⟩)) HA1.out.box, HA1.out.wk.kept HF2.out (fun b hb => HA1.out.ne b hb), HA1.out.ne⟩
  have HPq : Hid (p ≠ q) := fun e => by have := HPs.out.1; have := HQ1.out; omega
  have HC2 : Hid (W2.heap[q]? = some (.cells (crCells 1 0 0 0 (.slice none 0 0) (.map none)).toArray 166 (0, 0))) := (HF2.out.block q (ma_lt HC1.out) (fun e => HPq.out e.symm)).trans HC1.out
  have HJ2 : Hid (JbAt W2 jb [t, g, ps, x, y, .int .i64 pa] 2) := HJ1.out.kept HF2.out HJp.out
  obtain ⟨-, -, -, -, c4⟩ := HA2.out.c
  have k4 : W2.cell? ⟨q, 4, none⟩ = some (.slice none 0 0) := by simp [World.cell?, HC2.out, crCells, agZ]
  have hBg := mbegin HA2.out HJ2.out HC2.out HPq.out HJp.out (fun e => by have := HPs.out.2; have := HQ1.out; omega) (fun e => by have := HMl.out q e; have := HQ1.out; omega) HE.out HL.out
  clear hW2 d4 e4
  go_wp2_with (go_at_call 176; refine hBg.mono ?_; rintro r w8 ⟨rfl, av, hb, g1, g2, g3, g4, g5, g6, g7⟩)
  go_end0
  have hsz : w.heap.size ≤ W2.heap.size := Nat.le_trans HF1.out.size HF2.out.size
  refine ⟨rfl, q, hb, av, ⟨g1, g2, g3, g4, HQ1.out, Nat.le_trans hsz g5, g6.lower hsz⟩, ?_⟩
  have f2 : Fr w W2 (fun k => k = p ∨ k = jb) := (HF1.out.mono (fun k _ hk => .inr hk)).trans HF2.out (fun k _ hk => .inl hk)
  refine f2.trans g7 (fun k hk e => ?_)
  rcases e with e | e
  · exact .inl e
  · have := HQ1.out; omega
end Go.Proofs.YthkfbaoeimjgaaaGreat
end

section
/- submit at a master that has no job yet, and a worker: the job begins. -/
namespace Go.Proofs.YthkfbaoeimjgaaaGreat
open Go.RowKit Go.Maps
attribute [local go_sem] Oper.semAt_some
theorem infoMj : (Tryz.prog.info? 170).map (fun i => (i.zero, i.size, i.bytes)) = some (some (.agg #[.string ByteArray.empty, .slice none 0 0, .slice none 0 0, .int .i64 0, .int .i64 0, .int .i64 0, .int .i64 0, .int .i64 0, .int .i64 0, .int .i64 0, .slice none 0 0]), 11, 144) := by kernel_rfl
theorem w_cells {W : World} {b : Nat} {cs : List Value} {t : TypeId} (h : W.heap[b]? = some (.cells cs.toArray t (0, 0))) : ∀ (j : Nat) (v : Value), cs[j]? = some v → W.cell? ((⟨b, 0, none⟩ : Addr).add j) = some v := by
  intro j v hv
  have hadd : (⟨b, 0, none⟩ : Addr).add j = ⟨b, j, none⟩ := by unfold Addr.add; split <;> simp_all
  rw [hadd]
  simpa [World.cell?, h] using hv
theorem jb_of_own {w : World} {B : Nat} {v : Value} {a b c d e f : Value} {s : Int} (h : w.ownsRow B 170 11 v 1 [a, b, c, d, e, f, .int .i64 s, .int .i64 0, .int .i64 0, .int .i64 0, .slice none 0 0]) : ∃ jb jc, v = .slice (some ⟨jb, 0, none⟩) 1 jc ∧ JbAt w jb [a, b, c, d, e, f] s ∧ B ≤ jb := by
  rcases h.2 with ⟨_, h2⟩ | ⟨g, cap, cur, h1, h2, h3, h4, _, h6, h7⟩
  · cases h2
  · exact ⟨g, cap, h1, ⟨rfl, cur, h3, by omega, (by have h8 := h7; rw [Nat.one_mul] at h8; exact h8)⟩, h2⟩
theorem RunAt.kept {w0 w w' : World} {p jb jc : Nat} {ax : Value} {mb : Option Nat} {ep : Int} {M : List Pz} {sp : List Value} {pa : Int} {q hb : Nat} {av : Value} (h : RunAt w0 w p jb jc ax mb ep M sp pa q hb av) {S : Nat → Prop} (f : Fr w w' S) (h1 : ¬ S p) (h2 : ¬ S jb) (h3 : ∀ k, w0.heap.size ≤ k → ¬ S k) (h4 : ∀ b, mb = some b → ¬ S b) : RunAt w0 w' p jb jc ax mb ep M sp pa q hb av :=
  ⟨h.ma.kept f h1 h4, h.jb.kept f h2, (f.block q (ma_lt h.cr) (h3 q h.lq)).trans h.cr, (f.block hb (ma_lt h.hd) (h3 hb h.lh)).trans h.hd, h.lq, h.lh, h.as_.kept f (fun k hk => h3 k (GO.lt h.as_ k hk).1)⟩
theorem RunAt.low {w0 w1 w : World} {p jb jc : Nat} {ax : Value} {mb : Option Nat} {ep : Int} {M : List Pz} {sp : List Value} {pa : Int} {q hb : Nat} {av : Value} (h : RunAt w1 w p jb jc ax mb ep M sp pa q hb av) (hl : w0.heap.size ≤ w1.heap.size) : RunAt w0 w p jb jc ax mb ep M sp pa q hb av := ⟨h.ma, h.jb, h.cr, h.hd, Nat.le_trans hl h.lq, Nat.le_trans hl h.lh, h.as_.lower hl⟩
set_option linter.unusedSimpArgs false in
set_option maxRecDepth 100000 in
set_option maxHeartbeats 4000000 in
theorem msubmit {w : World} {p : Nat} {ax : Value} {mb : Option Nat} {M : List Pz} {s t : ByteArray} {G : List Vx} {ps : List Int} {st se pa : Int} (h : MaBox w p ax mb (.slice none 0 0) 0 (.pointer none) M) (h0 : 0 < M.length) (hl : M.length ≤ 999999)
    (hD : ∀ W : World, Calls Tryz.prog 12 #[.string s] W fun r w' => (∃ go gc po pc, r = .returned (.tuple #[.agg #[.string t, .slice go G.length gc, .slice po ps.length pc, .int .i64 st, .int .i64 se, .int .i64 pa], .int .i64 0]) ∧ VxAt w' (fun k => W.heap.size ≤ k) go G ∧ IsP w' (fun k => W.heap.size ≤ k) po ps) ∧ Below W.heap.size W w') :
    Calls Tryz.prog 70 #[.pointer (some ⟨p, 0, none⟩), .string s] w fun r w' => r = .returned (.agg #[.int .i64 0, .int .i64 1]) ∧ ∃ jb jc q hb av go gc po pc, RunAt w w' p jb jc ax mb 1 M [.string t, .slice go G.length gc, .slice po ps.length pc, .int .i64 st, .int .i64 se, .int .i64 pa] pa q hb av ∧ VxAt w' (fun k => w.heap.size ≤ k) go G ∧ IsP w' (fun k => w.heap.size ≤ k) po ps ∧ w.heap.size ≤ jb ∧ Fr w w' (fun k => k = p) := by
  obtain ⟨ij, hij, z0, z1, z2⟩ := info_parts infoMj
  have HA : Hid (MaBox w p ax mb (.slice none 0 0) 0 (.pointer none) M) := h
  have H0 : Hid (0 < M.length) := h0
  have HL : Hid (M.length ≤ 999999) := hl
  have HD : Hid _ := hD
  have HPs : Hid (p < w.heap.size) := h.lt
  have HMb : Hid (∀ b, mb = some b → b < w.heap.size) := fun b hb => by subst hb; exact WkAt.lt h.wk
  have HW0s : Hid (∀ W0 : World, w.alloc (.cells #[.int .i64 0, .int .i64 0] 62) = W0 → W0.heap.size = w.heap.size + 1) := fun W0 e => by rw [← e]; simp
  obtain ⟨gl, hgl⟩ : ∃ gl, G.length = gl := ⟨_, rfl⟩
  obtain ⟨pl, hpl⟩ : ∃ pl, ps.length = pl := ⟨_, rfl⟩
  obtain ⟨W0, hW0⟩ : ∃ W0, w.alloc (.cells #[.int .i64 0, .int .i64 0] 62) = W0 := ⟨_, rfl⟩
  have b0 : Below w.heap.size w W0 := by rw [← hW0]; exact ma_new _ _
  have k0 := heap_alloc_new w (.cells #[.int .i64 0, .int .i64 0] 62)
  rw [hW0] at k0
  obtain ⟨gr, hgr⟩ : ∃ gr, w.heap.size = gr := ⟨_, rfl⟩
  have HGr : Hid (w.heap.size = gr) := hgr
  rw [hgr] at k0
  have HZ0 : Hid (W0.heap.size = gr + 1) := by show _ = _; rw [← hgr]; exact HW0s.out W0 hW0
  have HK0 : Hid (W0.heap[gr]? = some (.cells #[.int .i64 0, .int .i64 0] 62 (0, 0))) := k0
  have HB0 : Hid (Below w.heap.size w W0) := b0
  clear h hD b0 k0 h0
  rw [hgl, hpl]
  rw [hgl, hpl] at HD
  go_enter Tryz.func70, Tryz.ntmps70
  go_upto_region 2 with (go_at_call 12; refine (HD.out _).mono ?_; rintro r w2 ⟨⟨go, gc, po, pc, rfl, hv2, hp2⟩, hb2⟩)
  have HV2 : Hid (VxAt w2 (fun k => W0.heap.size ≤ k) go G) := hv2
  have HP2 : Hid (IsP w2 (fun k => W0.heap.size ≤ k) po ps) := hp2
  have HB2 : Hid (Below W0.heap.size W0 w2) := hb2
  clear hv2 hp2 hb2 hW0
  generalize hW5 : World.alloc w2 _ = W5
  obtain ⟨bk, hbk⟩ : ∃ bk, w2.heap.size = bk := ⟨_, rfl⟩
  have hbx := heap_alloc_new w2 (.cells #[.string t, .slice go gl gc, .slice po pl pc, .int .i64 st, .int .i64 se, .int .i64 pa] 27)
  have HB5 : Hid (Below w2.heap.size w2 W5) := by rw [← hW5]; exact ma_new _ _
  rw [hW5, hbk] at hbx
  rw [hbk]
  have d0 : W5.cell? ⟨bk, 0, none⟩ = some (.string t) := by simp [World.cell?, hbx]
  have d1 : W5.cell? ⟨bk, 1, none⟩ = some (.slice go gl gc) := by simp [World.cell?, hbx]
  have d2 : W5.cell? ⟨bk, 2, none⟩ = some (.slice po pl pc) := by simp [World.cell?, hbx]
  have d3 : W5.cell? ⟨bk, 3, none⟩ = some (.int .i64 st) := by simp [World.cell?, hbx]
  have d4 : W5.cell? ⟨bk, 4, none⟩ = some (.int .i64 se) := by simp [World.cell?, hbx]
  have d5 : W5.cell? ⟨bk, 5, none⟩ = some (.int .i64 pa) := by simp [World.cell?, hbx]
  have HB05 : Hid (Below W0.heap.size W0 W5) := HB2.out.trans (HB5.out.mono HB2.out.size)
  have HBw : Hid (Below w.heap.size w W5) := HB0.out.trans (HB05.out.mono HB0.out.size)
  have HA5 : Hid (MaBox W5 p ax mb (.slice none 0 0) 0 (.pointer none) M) := HA.out.new HBw.out
  have HK5 : Hid (W5.heap[gr]? = some (.cells #[.int .i64 0, .int .i64 0] 62 (0, 0))) := (HB05.out.block gr (ma_lt HK0.out)).trans HK0.out
  have HV5 : Hid (VxAt W5 (fun k => W0.heap.size ≤ k) go G) := HV2.out.new HB5.out
  have HP5 : Hid (IsP W5 (fun k => W0.heap.size ≤ k) po ps) := HP2.out.new HB5.out
  clear hW5 hbk hbx
  have c2 := HA5.out.c.2.2.1
  go_upto_region 6 with (go_at_call 31; refine (mopen_none HA5.out).mono ?_; rintro r w6 ⟨rfl, e6⟩; obtain rfl : W5 = w6 := e6.symm)
  obtain ⟨Wd, hWd⟩ : ∃ Wd, World.drew W5 = Wd := ⟨_, rfl⟩
  have bd : Below W5.heap.size W5 Wd := by rw [← hWd]; exact ((Below.refl _ W5).drew)
  have hS0 : (fun w' : World => w'.cell? ⟨p, 2, none⟩ = some (.slice none 0 0) ∧ w'.cell? ⟨bk, 0, none⟩ = some (.string t) ∧ w'.cell? ⟨bk, 1, none⟩ = some (.slice go gl gc) ∧ w'.cell? ⟨bk, 2, none⟩ = some (.slice po pl pc) ∧ w'.cell? ⟨bk, 3, none⟩ = some (.int .i64 st) ∧ w'.cell? ⟨bk, 4, none⟩ = some (.int .i64 se) ∧ w'.cell? ⟨bk, 5, none⟩ = some (.int .i64 pa)) Wd := ⟨(bd.cell (ma_ltc c2)).trans c2, (bd.cell (ma_ltc d0)).trans d0, (bd.cell (ma_ltc d1)).trans d1, (bd.cell (ma_ltc d2)).trans d2, (bd.cell (ma_ltc d3)).trans d3, (bd.cell (ma_ltc d4)).trans d4, (bd.cell (ma_ltc d5)).trans d5⟩
  refine ma_calm ?_
  refine wp_region_L [11] (fun w' : World => w'.cell? ⟨p, 2, none⟩ = some (.slice none 0 0) ∧ w'.cell? ⟨bk, 0, none⟩ = some (.string t) ∧ w'.cell? ⟨bk, 1, none⟩ = some (.slice go gl gc) ∧ w'.cell? ⟨bk, 2, none⟩ = some (.slice po pl pc) ∧ w'.cell? ⟨bk, 3, none⟩ = some (.int .i64 st) ∧ w'.cell? ⟨bk, 4, none⟩ = some (.int .i64 se) ∧ w'.cell? ⟨bk, 5, none⟩ = some (.int .i64 pa)) (by kernel_rfl) ?_
  rw [hWd]
  clear hWd
  refine wpAnyL_take (i := 0) 29 (v := .pointer (some ⟨p, 0, none⟩)) rfl rfl (by kernel_rfl) (by kernel_rfl) (by kernel_rfl) (by kernel_rfl) (by kernel_rfl) (by kernel_rfl) (fun _ _ _ h => h) hS0 (by rfl) (by intro w' hSw; obtain ⟨y0, y1, y2, y3, y4, y5, y6⟩ := hSw; go_simp <;> with_reducible rfl) ?_
  simp only [Act.put, List.setIfInBounds_toArray, List.set_cons_zero, List.set_cons_succ]
  refine wpAnyL_take (i := 1) 30 (v := .pointer (some ⟨p, 0, none⟩)) rfl rfl (by kernel_rfl) (by kernel_rfl) (by kernel_rfl) (by kernel_rfl) (by kernel_rfl) (by kernel_rfl) (fun _ _ _ h => h) hS0 (by rfl) (by intro w' hSw; obtain ⟨y0, y1, y2, y3, y4, y5, y6⟩ := hSw; go_simp <;> with_reducible rfl) ?_
  simp only [Act.put, List.setIfInBounds_toArray, List.set_cons_zero, List.set_cons_succ]
  refine wpAnyL_take (i := 2) 31 (v := .pointer (some ⟨p, 0, none⟩)) rfl rfl (by kernel_rfl) (by kernel_rfl) (by kernel_rfl) (by kernel_rfl) (by kernel_rfl) (by kernel_rfl) (fun _ _ _ h => h) hS0 (by rfl) (by intro w' hSw; obtain ⟨y0, y1, y2, y3, y4, y5, y6⟩ := hSw; go_simp <;> with_reducible rfl) ?_
  simp only [Act.put, List.setIfInBounds_toArray, List.set_cons_zero, List.set_cons_succ]
  refine wpAnyL_take (i := 3) 32 (v := .pointer (some ⟨p, 2, none⟩)) rfl rfl (by kernel_rfl) (by kernel_rfl) (by kernel_rfl) (by kernel_rfl) (by kernel_rfl) (by kernel_rfl) (fun _ _ _ h => h) hS0 (by rfl) (by intro w' hSw; obtain ⟨y0, y1, y2, y3, y4, y5, y6⟩ := hSw; go_simp <;> with_reducible rfl) ?_
  simp only [Act.put, List.setIfInBounds_toArray, List.set_cons_zero, List.set_cons_succ]
  refine wpAnyL_take (i := 4) 33 (v := .slice none 0 0) rfl rfl (by kernel_rfl) (by kernel_rfl) (by kernel_rfl) (by kernel_rfl) (by kernel_rfl) (by kernel_rfl) (fun _ _ _ h => h) hS0 (by rfl) (by intro w' hSw; obtain ⟨y0, y1, y2, y3, y4, y5, y6⟩ := hSw; go_simp <;> with_reducible rfl) ?_
  simp only [Act.put, List.setIfInBounds_toArray, List.set_cons_zero, List.set_cons_succ]
  refine wpAnyL_take (i := 5) 34 (v := .agg #[.string t, .slice go gl gc, .slice po pl pc, .int .i64 st, .int .i64 se, .int .i64 pa]) rfl rfl (by kernel_rfl) (by kernel_rfl) (by kernel_rfl) (by kernel_rfl) (by kernel_rfl) (by kernel_rfl) (fun _ _ _ h => h) hS0 (by rfl) (by intro w' hSw; obtain ⟨y0, y1, y2, y3, y4, y5, y6⟩ := hSw; go_simp <;> with_reducible rfl) ?_
  simp only [Act.put, List.setIfInBounds_toArray, List.set_cons_zero, List.set_cons_succ]
  refine wpAnyL_take (i := 6) 35 (v := .agg #[.string t, .slice go gl gc, .slice po pl pc, .int .i64 st, .int .i64 se, .int .i64 pa, .int .i64 1, .int .i64 0, .int .i64 0, .int .i64 0, .slice none 0 0]) rfl rfl (by kernel_rfl) (by kernel_rfl) (by kernel_rfl) (by kernel_rfl) (by kernel_rfl) (by kernel_rfl) (fun _ _ _ h => h) hS0 (by rfl) (by intro w' hSw; obtain ⟨y0, y1, y2, y3, y4, y5, y6⟩ := hSw; go_simp <;> with_reducible rfl) ?_
  simp only [Act.put, List.setIfInBounds_toArray, List.set_cons_zero, List.set_cons_succ]
  refine wpAnyL_one (i := 7) (by kernel_rfl) rfl (fun Ka hKa => ?_)
  go_simp
  obtain ⟨We, hWe⟩ : ∃ We, Wd.alloc (.cells #[.string t, .slice go gl gc, .slice po pl pc, .int .i64 st, .int .i64 se, .int .i64 pa, .int .i64 1, .int .i64 0, .int .i64 0, .int .i64 0, .slice none 0 0] 170) = We := ⟨_, rfl⟩
  have be : Below Wd.heap.size Wd We := by rw [← hWe]; exact ma_new _ _
  have hne := heap_alloc_new Wd (.cells #[.string t, .slice go gl gc, .slice po pl pc, .int .i64 st, .int .i64 se, .int .i64 pa, .int .i64 1, .int .i64 0, .int .i64 0, .int .i64 0, .slice none 0 0] 170)
  try rw [hWe]
  rw [hWe] at hne
  have hS1 : (fun w' : World => w'.cell? ⟨p, 2, none⟩ = some (.slice none 0 0) ∧ w'.cell? ⟨bk, 0, none⟩ = some (.string t) ∧ w'.cell? ⟨bk, 1, none⟩ = some (.slice go gl gc) ∧ w'.cell? ⟨bk, 2, none⟩ = some (.slice po pl pc) ∧ w'.cell? ⟨bk, 3, none⟩ = some (.int .i64 st) ∧ w'.cell? ⟨bk, 4, none⟩ = some (.int .i64 se) ∧ w'.cell? ⟨bk, 5, none⟩ = some (.int .i64 pa)) We := ⟨(be.cell (ma_ltc hS0.1)).trans hS0.1, (be.cell (ma_ltc hS0.2.1)).trans hS0.2.1, (be.cell (ma_ltc hS0.2.2.1)).trans hS0.2.2.1, (be.cell (ma_ltc hS0.2.2.2.1)).trans hS0.2.2.2.1, (be.cell (ma_ltc hS0.2.2.2.2.1)).trans hS0.2.2.2.2.1, (be.cell (ma_ltc hS0.2.2.2.2.2.1)).trans hS0.2.2.2.2.2.1, (be.cell (ma_ltc hS0.2.2.2.2.2.2)).trans hS0.2.2.2.2.2.2⟩
  refine hKa.out _ _ (fun _ => hS1) ?_
  clear hKa Ka
  try simp only [Act.put, List.setIfInBounds_toArray, List.set_cons_zero, List.set_cons_succ]
  have b5e : Below W5.heap.size W5 We := bd.trans (be.mono bd.size)
  refine wpAnyL_one (i := 8) (by kernel_rfl) rfl (fun Kb hKb => ?_)
  refine step_append_own rfl (.tmp 33) (.tmp 36) 157 rfl W5.heap.size 170 ij _ 11 144 Tryz.underlying157 hij z0 z1 z2 rfl (by decide) (.slice none 0 0) _ _ (by simp [Act.eval]) (World.ownsRow_nil _ _ _ _) ⟨Wd.heap.size, 0, none⟩ 1 1 [.string t, .slice go gl gc, .slice po pl pc, .int .i64 st, .int .i64 se, .int .i64 pa, .int .i64 1, .int .i64 0, .int .i64 0, .int .i64 0, .slice none 0 0] (by simp [Act.eval]) rfl (w_cells hne) (by intro u hu; simp at hu; rcases hu with rfl | rfl | rfl | rfl | rfl | rfl | rfl | rfl | rfl | rfl | rfl <;> rfl) (by decide) (by decide) b5e.size ?_
  intro v1 w1 own1 gr1 _
  obtain ⟨jb, jc, rfl, hJ1, hjb⟩ := jb_of_own own1
  have f1 : Fr We w1 (fun _ => False) := Fr.grown gr1 (fun k hk => by cases hk)
  have b1 : Below We.heap.size We w1 := ⟨f1.os, f1.tape, f1.output, f1.size, fun k hk => f1.block k hk (fun h => h)⟩
  have hS2 : (fun w' : World => w'.cell? ⟨p, 2, none⟩ = some (.slice none 0 0) ∧ w'.cell? ⟨bk, 0, none⟩ = some (.string t) ∧ w'.cell? ⟨bk, 1, none⟩ = some (.slice go gl gc) ∧ w'.cell? ⟨bk, 2, none⟩ = some (.slice po pl pc) ∧ w'.cell? ⟨bk, 3, none⟩ = some (.int .i64 st) ∧ w'.cell? ⟨bk, 4, none⟩ = some (.int .i64 se) ∧ w'.cell? ⟨bk, 5, none⟩ = some (.int .i64 pa)) w1 := ⟨(b1.cell (ma_ltc hS1.1)).trans hS1.1, (b1.cell (ma_ltc hS1.2.1)).trans hS1.2.1, (b1.cell (ma_ltc hS1.2.2.1)).trans hS1.2.2.1, (b1.cell (ma_ltc hS1.2.2.2.1)).trans hS1.2.2.2.1, (b1.cell (ma_ltc hS1.2.2.2.2.1)).trans hS1.2.2.2.2.1, (b1.cell (ma_ltc hS1.2.2.2.2.2.1)).trans hS1.2.2.2.2.2.1, (b1.cell (ma_ltc hS1.2.2.2.2.2.2)).trans hS1.2.2.2.2.2.2⟩
  have b51 : Below W5.heap.size W5 w1 := b5e.trans (b1.mono b5e.size)
  refine hKb.out _ _ (fun _ => hS2) ?_
  clear hKb Kb
  try simp only [Act.put, List.setIfInBounds_toArray, List.set_cons_zero, List.set_cons_succ]
  refine wpAnyL_take (i := 9) 38 (v := .pointer (some ⟨p, 0, none⟩)) rfl rfl (by kernel_rfl) (by kernel_rfl) (by kernel_rfl) (by kernel_rfl) (by kernel_rfl) (by kernel_rfl) (fun _ _ _ h => h) hS2 (by rfl) (by intro w' hSw; obtain ⟨y0, y1, y2, y3, y4, y5, y6⟩ := hSw; go_simp <;> with_reducible rfl) ?_
  simp only [Act.put, List.setIfInBounds_toArray, List.set_cons_zero, List.set_cons_succ]
  refine wpAnyL_take (i := 10) 39 (v := .pointer (some ⟨p, 2, none⟩)) rfl rfl (by kernel_rfl) (by kernel_rfl) (by kernel_rfl) (by kernel_rfl) (by kernel_rfl) (by kernel_rfl) (fun _ _ _ h => h) hS2 (by rfl) (by intro w' hSw; obtain ⟨y0, y1, y2, y3, y4, y5, y6⟩ := hSw; go_simp <;> with_reducible rfl) ?_
  simp only [Act.put, List.setIfInBounds_toArray, List.set_cons_zero, List.set_cons_succ]
  have HA1 : Hid (MaBox w1 p ax mb (.slice none 0 0) 0 (.pointer none) M) := HA5.out.new b51
  have g2 := HA1.out.f 2
  have cc2 := HA1.out.c.2.2.1
  refine wpAnyL_one (i := 11) (by kernel_rfl) rfl (fun Kc hKc => ?_)
  go_simp
  generalize hX : World.setCell _ _ _ = W9
  have HA9 : Hid (MaBox W9 p ax mb (.slice (some ⟨jb, 0, none⟩) 1 jc) 0 (.pointer none) M) := by
    rw [← hX]
    exact ⟨ma_set (.slice (some ⟨jb, 0, none⟩) 1 jc) HA1.out.box, HA1.out.wk.kept (Fr.setCell (S := fun k => k = p) _ _ _ rfl) (fun b hb => HA1.out.ne b hb), HA1.out.ne⟩
  have f9 : Fr w1 W9 (fun k => k = p) := by rw [← hX]; exact Fr.setCell (S := fun k => k = p) _ _ _ rfl
  refine hKc.out _ _ (fun h => absurd h (Bool.eq_false_iff.1 (by kernel_rfl))) ?_
  clear hKc Kc hX
  try simp only [Act.put, List.setIfInBounds_toArray, List.set_cons_zero, List.set_cons_succ]
  refine wpAnyL_done (by kernel_rfl) ?_ _
  have HJ9 : Hid (JbAt W9 jb [.string t, .slice go gl gc, .slice po pl pc, .int .i64 st, .int .i64 se, .int .i64 pa] 1) := hJ1.kept f9 (fun e => by have := HA5.out.lt; omega)
  have HF9 : Hid (Fr W5 W9 (fun k => k = p)) := (Fr.ofBelow b51 (fun k => k = p)).trans f9 (fun _ _ h => h)
  have HJb : Hid (W5.heap.size ≤ jb) := hjb
  have hGo := mgoon_one HA9.out HJ9.out ⟨Int.le_refl _, by decide⟩ H0.out HL.out
  have e2 := HA9.out.c.2.2.1
  clear hS0 hS1 hS2 own1 gr1 hJ1 f1 b1 b51 b5e be bd hne f9 g2 cc2 c2 d0 d1 d2 d3 d4 d5 hjb
  go_wp2_with (first
    | (go_at_call 129; refine hGo.mono ?_; rintro r w10 ⟨rfl, q, hb, av, hR, hF⟩; have HR : Hid (RunAt W9 w10 p jb jc ax mb (0 + 1) M [.string t, .slice go gl gc, .slice po pl pc, .int .i64 st, .int .i64 se, .int .i64 pa] pa q hb av) := hR; have HF10 : Hid (Fr W9 w10 (fun k => k = p ∨ k = jb)) := hF; have HK10 : Hid (w10.heap[gr]? = some (.cells #[.int .i64 0, .int .i64 0] 62 (0, 0))) := (hF.block gr (by have h1 := ma_lt HK5.out; have := HF9.out.size; omega) (fun e => Or.elim e (fun e => by have := HPs.out; have := HGr.out; omega) (fun e => by have h1 := ma_lt HK5.out; have := HJb.out; omega))).trans ((HF9.out.block gr (ma_lt HK5.out) (fun e => by have := HPs.out; have := HGr.out; omega)).trans HK5.out); clear hR hF)
    | (refine wpList_store_row rfl 62 _ _ rfl gr #[.int .i64 0, .int .i64 1] rfl rfl 62 #[.int .i64 0, .int .i64 0] HK10.out size_reply rfl (by simp [Value.oneCell']) ?_))
  refine bodyPost_ret (v := .agg #[.int .i64 0, .int .i64 1]) (results_cell_row Tryz.results70 _ _ gr 62 _ (0, 0) _ rfl (setRow_heap _ _ _ _ _ _ HK10.out) Tryz.underlying62 rfl size_reply) rfl ?_
  have f11 := ap_setRow w10 gr #[.int .i64 0, .int .i64 1]
  have s9 := HF9.out.size
  have s5 := ma_lt HK5.out
  have hgr := HGr.out
  have hps := HPs.out
  have hjb := HJb.out
  have hz0 := HZ0.out
  have f5 : Fr W5 (w10.setRow gr #[.int .i64 0, .int .i64 1]) (fun k => k = p ∨ k = gr) := ((HF9.out.mono (fun k _ hk => .inl hk)).trans HF10.out (fun k hk e => by
    rcases e with e | e
    · exact .inl e
    · omega)).trans f11 (fun k _ hk => .inr hk)
  refine ⟨rfl, jb, jc, q, hb, av, go, gc, po, pc, ?_, ?_, ?_, by have := HBw.out.size; omega, ?_⟩
  · exact (HR.out.kept f11 (fun e => by omega) (fun e => by omega) (fun k hk e => by omega) (fun b hb e => by have := HMb.out b hb; omega)).low (Nat.le_trans HBw.out.size s9)
  · exact HV5.out.kept f5 (fun k _ hk => ⟨fun e => by rcases e with e | e <;> omega, by omega⟩)
  · exact HP5.out.kept f5 (fun k _ hk => ⟨fun e => by rcases e with e | e <;> omega, by omega⟩)
  · exact (Fr.ofBelow HBw.out (fun k => k = p)).trans f5 (fun k hk e => by
      rcases e with e | e
      · exact e
      · omega)
end Go.Proofs.YthkfbaoeimjgaaaGreat
end
