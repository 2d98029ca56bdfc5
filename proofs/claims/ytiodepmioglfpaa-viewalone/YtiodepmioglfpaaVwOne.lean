/- A master alone loses its power and stands up again. -/
import Derived.Test.YtiodepmioglfpaaVwAs
namespace Go.Proofs.Ytiodepmioglfpaa
open Go.RowKit Go.Maps
attribute [local go_sem] Oper.semAt_some
theorem RO.set {w : World} {t : TypeId} {g c : Nat} {x : Value} (y : Value) (h : RO w t (.slice (some ⟨g, 0, none⟩) 1 c) [x]) : RO (w.setCell ⟨g, 0, none⟩ y) t (.slice (some ⟨g, 0, none⟩) 1 c) [y] ∧ w.frozen? ⟨g, 0, none⟩ = false := by
  rcases h.2 with ⟨h1, h2⟩ | ⟨g', cap, cur, e, h3, h4, h5, h6, h7, h8⟩
  · cases h1
  · cases e
    refine ⟨⟨rfl, .inr ⟨g, c, cur.setIfInBounds 0 y, rfl, h3, vblk_set (i := 0) y h4, h5, h6, by simpa using h7, ?_⟩⟩, hfree h4 0⟩
    have hs : 0 < cur.size := by
      have : (1 : Nat) ≤ c := h5
      simp at h7
      omega
    apply List.ext_getElem?
    intro i
    match i with
    | 0 =>
      rw [List.getElem?_take_of_lt (by simp), Array.getElem?_toList, Array.getElem?_setIfInBounds_self_of_lt hs]
      rfl
    | i + 1 => simp; omega
/-- A master as it stands up from what it kept. -/
def Nd.again (A : Nd) : Nd := (Nd.born 0 1 0 0 A.bi A.bv A.base A.log).counted
theorem again_may {A : Nd} (h : Alone A) : mayN 0 1 0 0 A.bi A.log.length = true := by
  have h1 := h.ok.bi0
  have h2 := h.ok.bi1
  have h3 := h.ok.len
  simp [mayN, mayI, numI]
  omega
theorem again_had (A : Nd) : A.again.had = A.again.last := rfl
set_option linter.unusedSimpArgs false in
set_option maxRecDepth 100000 in
set_option maxHeartbeats 4000000 in
theorem one_ten {w : World} {S : Nat → Prop} {b p : Nat} {A : Nd} {g c0 gh c1 ma : Nat} {vv : Value} (h : AW w S b p A g c0 gh c1 ma vv) {B : Nat} (hBb : B ≤ b) (hBg : B ≤ g) (hBh : B ≤ gh) (hBw : B ≤ w.heap.size) : Calls Try.prog 40 #[.pointer (some ⟨b, 0, none⟩), .agg #[.int .i64 10, .int .i64 0, .int .i64 0], .int .i64 0] w fun r w' => r = .returned (.bool true) ∧ (∃ S' p', AW w' S' b p' A.again g c0 gh c1 ma vv ∧ ∀ k, S' k → B ≤ k) ∧ Below B w w' := by
  have HH : Hid (AW w S b p A g c0 gh c1 ma vv) := h
  have HBb : Hid (B ≤ b) := hBb
  have HBg : Hid (B ≤ g) := hBg
  have HBh : Hid (B ≤ gh) := hBh
  have HBw : Hid (B ≤ w.heap.size) := hBw
  clear h hBb hBg hBh hBw
  go_enter Try.func40, Try.ntmps40
  go_upto_region 1 with (fail)
  generalize hW : World.alloc _ _ = W
  have hb : Below w.heap.size w W := by rw [← hW]; exact vone_new _ _
  have hQ : W.heap[w.heap.size]? = some (.cells #[.int .i64 10, .int .i64 0, .int .i64 0] 76 (0, 0)) := by rw [← hW]; exact heap_alloc_new _ _
  have hA : AW W S b p A g c0 gh c1 ma vv := by
    have h := HH.out
    obtain ⟨x, hx⟩ := h.h
    exact ⟨(hb.block b (vlt_blk h.box)).trans h.box, h.l.new hb, ⟨x, hx.new hb⟩, h.nd.new hb, h.nb, h.ng, h.nh⟩
  obtain ⟨q, hq⟩ : ∃ q, w.heap.size = q := ⟨_, rfl⟩
  have HQ0 : Hid (w.heap.size = q) := hq
  rw [hq] at hQ ⊢
  have u0 : W.cell? ⟨q, 0, none⟩ = some (.int .i64 10) := vcell_blk hQ
  have u1 : W.cell? ⟨q, 1, none⟩ = some (.int .i64 0) := vcell_blk hQ
  have u2 : W.cell? ⟨q, 2, none⟩ = some (.int .i64 0) := vcell_blk hQ
  have x0 : W.cell? ⟨b, 0, none⟩ = some (.slice (some ⟨g, 0, none⟩) 1 c0) := vcell_blk hA.box
  have x1 : W.cell? ⟨b, 1, none⟩ = some (.slice none 0 0) := vcell_blk hA.box
  have HQ : Hid (W.heap[q]? = some (.cells #[.int .i64 10, .int .i64 0, .int .i64 0] 76 (0, 0))) := hQ
  have HA : Hid (AW W S b p A g c0 gh c1 ma vv) := hA
  have HB : Hid (Below q w W) := by show Below _ _ _; rw [← hq]; exact hb
  clear hW hQ hA hb hq
  go_quiet (fail)
  go_upto_region 18 with (fail)
  obtain ⟨Wd, hWd⟩ : ∃ Wd, (W.drewN nq).drew = Wd := ⟨_, rfl⟩
  have bd : Below W.heap.size W Wd := by rw [← hWd]; exact Below.drew (below_dn _ _)
  have y0 := (bd.cell (p := ⟨b, 0, none⟩) (vlt_cell x0)).trans x0
  have y1 := (bd.cell (p := ⟨b, 1, none⟩) (vlt_cell x1)).trans x1
  have v0 := (bd.cell (p := ⟨q, 0, none⟩) (vlt_cell u0)).trans u0
  have yg : Wd.cell? ⟨g, 0, none⟩ = some (.pointer (some ⟨p, 0, none⟩)) := (HA.out.l.new bd).at_ 0 (by simp)
  have HBd : Hid (Below W.heap.size W Wd) := bd
  have HNd : Hid (AS Wd S p A) := HA.out.nd.new bd
  clear x0 x1 u0 u1 u2 bd
  refine wp_calmV ?_
  refine wp_region_L [] (fun w' : World => w'.cell? ⟨b, 0, none⟩ = some (.slice (some ⟨g, 0, none⟩) 1 c0) ∧ w'.cell? ⟨g, 0, none⟩ = some (.pointer (some ⟨p, 0, none⟩))) (by kernel_rfl) ?_
  rw [show (W.drewN nq).drew = Wd from hWd]
  clear hWd
  have hS : (fun w' : World => w'.cell? ⟨b, 0, none⟩ = some (.slice (some ⟨g, 0, none⟩) 1 c0) ∧ w'.cell? ⟨g, 0, none⟩ = some (.pointer (some ⟨p, 0, none⟩))) Wd := ⟨y0, yg⟩
  refine wpAnyL_take (i := 0) 205 (v := .int .i64 0) rfl rfl (by kernel_rfl) (by kernel_rfl) (by kernel_rfl) (by kernel_rfl) (by kernel_rfl) (by kernel_rfl) (fun _ _ _ h => h) hS (by rfl) (by intro w' hSw; obtain ⟨y0, y1⟩ := hSw; go_simp <;> with_reducible rfl) ?_
  simp only [Act.put, List.setIfInBounds_toArray, List.set_cons_zero, List.set_cons_succ]
  refine wpAnyL_take (i := 1) 206 (v := .pointer (some ⟨b, 0, none⟩)) rfl rfl (by kernel_rfl) (by kernel_rfl) (by kernel_rfl) (by kernel_rfl) (by kernel_rfl) (by kernel_rfl) (fun _ _ _ h => h) hS (by rfl) (by intro w' hSw; obtain ⟨y0, y1⟩ := hSw; go_simp <;> with_reducible rfl) ?_
  simp only [Act.put, List.setIfInBounds_toArray, List.set_cons_zero, List.set_cons_succ]
  refine wpAnyL_take (i := 2) 207 (v := .pointer (some ⟨b, 0, none⟩)) rfl rfl (by kernel_rfl) (by kernel_rfl) (by kernel_rfl) (by kernel_rfl) (by kernel_rfl) (by kernel_rfl) (fun _ _ _ h => h) hS (by rfl) (by intro w' hSw; obtain ⟨y0, y1⟩ := hSw; go_simp <;> with_reducible rfl) ?_
  simp only [Act.put, List.setIfInBounds_toArray, List.set_cons_zero, List.set_cons_succ]
  refine wpAnyL_take (i := 3) 208 (v := .pointer (some ⟨b, 0, none⟩)) rfl rfl (by kernel_rfl) (by kernel_rfl) (by kernel_rfl) (by kernel_rfl) (by kernel_rfl) (by kernel_rfl) (fun _ _ _ h => h) hS (by rfl) (by intro w' hSw; obtain ⟨y0, y1⟩ := hSw; go_simp <;> with_reducible rfl) ?_
  simp only [Act.put, List.setIfInBounds_toArray, List.set_cons_zero, List.set_cons_succ]
  refine wpAnyL_take (i := 4) 209 (v := .slice (some ⟨g, 0, none⟩) 1 c0) rfl rfl (by kernel_rfl) (by kernel_rfl) (by kernel_rfl) (by kernel_rfl) (by kernel_rfl) (by kernel_rfl) (fun _ _ _ h => h) hS (by rfl) (by intro w' hSw; obtain ⟨y0, y1⟩ := hSw; go_simp <;> with_reducible rfl) ?_
  simp only [Act.put, List.setIfInBounds_toArray, List.set_cons_zero, List.set_cons_succ]
  refine wpAnyL_take (i := 5) 210 (v := .int .i64 1) rfl rfl (by kernel_rfl) (by kernel_rfl) (by kernel_rfl) (by kernel_rfl) (by kernel_rfl) (by kernel_rfl) (fun _ _ _ h => h) hS (by rfl) (by intro w' hSw; obtain ⟨y0, y1⟩ := hSw; go_simp <;> with_reducible rfl) ?_
  simp only [Act.put, List.setIfInBounds_toArray, List.set_cons_zero, List.set_cons_succ]
  refine wpAnyL_take (i := 6) 211 (v := .pointer (some ⟨b, 0, none⟩)) rfl rfl (by kernel_rfl) (by kernel_rfl) (by kernel_rfl) (by kernel_rfl) (by kernel_rfl) (by kernel_rfl) (fun _ _ _ h => h) hS (by rfl) (by intro w' hSw; obtain ⟨y0, y1⟩ := hSw; go_simp <;> with_reducible rfl) ?_
  simp only [Act.put, List.setIfInBounds_toArray, List.set_cons_zero, List.set_cons_succ]
  refine wpAnyL_take (i := 7) 212 (v := .pointer (some ⟨b, 0, none⟩)) rfl rfl (by kernel_rfl) (by kernel_rfl) (by kernel_rfl) (by kernel_rfl) (by kernel_rfl) (by kernel_rfl) (fun _ _ _ h => h) hS (by rfl) (by intro w' hSw; obtain ⟨y0, y1⟩ := hSw; go_simp <;> with_reducible rfl) ?_
  simp only [Act.put, List.setIfInBounds_toArray, List.set_cons_zero, List.set_cons_succ]
  refine wpAnyL_take (i := 8) 213 (v := .pointer (some ⟨b, 0, none⟩)) rfl rfl (by kernel_rfl) (by kernel_rfl) (by kernel_rfl) (by kernel_rfl) (by kernel_rfl) (by kernel_rfl) (fun _ _ _ h => h) hS (by rfl) (by intro w' hSw; obtain ⟨y0, y1⟩ := hSw; go_simp <;> with_reducible rfl) ?_
  simp only [Act.put, List.setIfInBounds_toArray, List.set_cons_zero, List.set_cons_succ]
  refine wpAnyL_take (i := 9) 214 (v := .slice (some ⟨g, 0, none⟩) 1 c0) rfl rfl (by kernel_rfl) (by kernel_rfl) (by kernel_rfl) (by kernel_rfl) (by kernel_rfl) (by kernel_rfl) (fun _ _ _ h => h) hS (by rfl) (by intro w' hSw; obtain ⟨y0, y1⟩ := hSw; go_simp <;> with_reducible rfl) ?_
  simp only [Act.put, List.setIfInBounds_toArray, List.set_cons_zero, List.set_cons_succ]
  refine wpAnyL_take (i := 10) 215 (v := .int .i64 0) rfl rfl (by kernel_rfl) (by kernel_rfl) (by kernel_rfl) (by kernel_rfl) (by kernel_rfl) (by kernel_rfl) (fun _ _ _ h => h) hS (by rfl) (by intro w' hSw; obtain ⟨y0, y1⟩ := hSw; go_simp <;> with_reducible rfl) ?_
  simp only [Act.put, List.setIfInBounds_toArray, List.set_cons_zero, List.set_cons_succ]
  refine wpAnyL_take (i := 11) 216 (v := .pointer (some ⟨g, 0, none⟩)) rfl rfl (by kernel_rfl) (by kernel_rfl) (by kernel_rfl) (by kernel_rfl) (by kernel_rfl) (by kernel_rfl) (fun _ _ _ h => h) hS (by rfl) (by intro w' hSw; obtain ⟨y0, y1⟩ := hSw; go_simp <;> with_reducible rfl) ?_
  simp only [Act.put, List.setIfInBounds_toArray, List.set_cons_zero, List.set_cons_succ]
  refine wpAnyL_take (i := 12) 217 (v := .pointer (some ⟨p, 0, none⟩)) rfl rfl (by kernel_rfl) (by kernel_rfl) (by kernel_rfl) (by kernel_rfl) (by kernel_rfl) (by kernel_rfl) (fun _ _ _ h => h) hS (by rfl) (by intro w' hSw; obtain ⟨y0, y1⟩ := hSw; go_simp <;> with_reducible rfl) ?_
  simp only [Act.put, List.setIfInBounds_toArray, List.set_cons_zero, List.set_cons_succ]
  refine wpAnyL_one (i := 13) (by kernel_rfl) rfl (fun Ka hKa => ?_)
  go_simp
  have HHard : Hid (Calls Try.prog 28 #[.pointer (some ⟨p, 0, none⟩)] Wd fun r w' => ∃ lv', r = .returned (.agg #[.int .i64 0, .int .i64 0, .int .i64 A.bi, .int .i64 A.bv, .string A.base, lv']) ∧ EnO w' Wd.heap.size lv' A.log ∧ Below Wd.heap.size Wd w') := by
    obtain ⟨⟨lv, mw, mg, mu, mk, hN⟩, hAl⟩ := HNd.out
    have := hard_any hN hAl.ok
    rw [hAl.vw, hAl.nm] at this
    exact this
  refine Calls.mono HHard.out ?_
  rintro r w3 ⟨lv', rfl, hE3, hb3⟩
  have z0 := (hb3.cell (p := ⟨b, 0, none⟩) (vlt_cell y0)).trans y0
  have zg := (hb3.cell (p := ⟨g, 0, none⟩) (vlt_cell yg)).trans yg
  refine hKa.out _ _ (fun _ => ⟨z0, zg⟩) ?_
  have HE3 : Hid (EnO w3 Wd.heap.size lv' A.log) := hE3
  have HB3 : Hid (Below Wd.heap.size Wd w3) := hb3
  clear hKa Ka hE3 hb3 hS HHard
  try simp only [Act.put, List.setIfInBounds_toArray, List.set_cons_zero, List.set_cons_succ]
  refine wpAnyL_one (i := 14) (by kernel_rfl) rfl (fun Ka hKa => ?_)
  go_simp
  refine Calls.mono (new_ok (bv := A.bv) (base := A.base) HE3.out.toS (again_may HNd.out.2)) ?_
  rintro r w4 ⟨p2, rfl, hN4, hb4⟩
  have s0 := (hb4.cell (p := ⟨b, 0, none⟩) (vlt_cell z0)).trans z0
  have sg := (hb4.cell (p := ⟨g, 0, none⟩) (vlt_cell zg)).trans zg
  refine hKa.out _ _ (fun _ => ⟨s0, sg⟩) ?_
  have HN4 : Hid (NdAt w4 (fun k => w3.heap.size ≤ k ∧ k < w4.heap.size) p2 A.again) := hN4.mono (fun k hk h => ⟨h, hk⟩)
  have HB4 : Hid (Below w3.heap.size w3 w4) := hb4
  clear hKa Ka hN4 hb4
  try simp only [Act.put, List.setIfInBounds_toArray, List.set_cons_zero, List.set_cons_succ]
  have hS4 : (fun w' : World => w'.cell? ⟨b, 0, none⟩ = some (.slice (some ⟨g, 0, none⟩) 1 c0) ∧ w'.cell? ⟨g, 0, none⟩ = some (.pointer (some ⟨p, 0, none⟩))) w4 := ⟨s0, sg⟩
  refine wpAnyL_take (i := 15) 204 (v := .tuple #[.pointer (some ⟨p2, 0, none⟩), .int .i64 0]) rfl rfl (by kernel_rfl) (by kernel_rfl) (by kernel_rfl) (by kernel_rfl) (by kernel_rfl) (by kernel_rfl) (fun _ _ _ h => h) hS4 (by rfl) (by intro w' hSw; obtain ⟨y0, y1⟩ := hSw; go_simp <;> with_reducible rfl) ?_
  simp only [Act.put, List.setIfInBounds_toArray, List.set_cons_zero, List.set_cons_succ]
  refine wpAnyL_take (i := 16) 220 (v := .pointer (some ⟨p2, 0, none⟩)) rfl rfl (by kernel_rfl) (by kernel_rfl) (by kernel_rfl) (by kernel_rfl) (by kernel_rfl) (by kernel_rfl) (fun _ _ _ h => h) hS4 (by rfl) (by intro w' hSw; obtain ⟨y0, y1⟩ := hSw; go_simp <;> with_reducible rfl) ?_
  simp only [Act.put, List.setIfInBounds_toArray, List.set_cons_zero, List.set_cons_succ]
  refine wpAnyL_take (i := 17) 221 (v := .int .i64 0) rfl rfl (by kernel_rfl) (by kernel_rfl) (by kernel_rfl) (by kernel_rfl) (by kernel_rfl) (by kernel_rfl) (fun _ _ _ h => h) hS4 (by rfl) (by intro w' hSw; obtain ⟨y0, y1⟩ := hSw; go_simp <;> with_reducible rfl) ?_
  simp only [Act.put, List.setIfInBounds_toArray, List.set_cons_zero, List.set_cons_succ]
  refine wpAnyL_take (i := 18) 13 (v := .pointer (some ⟨p2, 0, none⟩)) rfl rfl (by kernel_rfl) (by kernel_rfl) (by kernel_rfl) (by kernel_rfl) (by kernel_rfl) (by kernel_rfl) (fun _ _ _ h => h) hS4 (by rfl) (by intro w' hSw; obtain ⟨y0, y1⟩ := hSw; go_simp <;> with_reducible rfl) ?_
  simp only [Act.put, List.setIfInBounds_toArray, List.set_cons_zero, List.set_cons_succ]
  refine wpAnyL_take (i := 19) 14 (v := .int .i64 0) rfl rfl (by kernel_rfl) (by kernel_rfl) (by kernel_rfl) (by kernel_rfl) (by kernel_rfl) (by kernel_rfl) (fun _ _ _ h => h) hS4 (by rfl) (by intro w' hSw; obtain ⟨y0, y1⟩ := hSw; go_simp <;> with_reducible rfl) ?_
  simp only [Act.put, List.setIfInBounds_toArray, List.set_cons_zero, List.set_cons_succ]
  refine wpAnyL_done (by kernel_rfl) ?_ _
  have hbW : Below W.heap.size W w4 := HBd.out.trans ((HB3.out.mono HBd.out.size).trans (HB4.out.mono (Nat.le_trans HBd.out.size HB3.out.size)))
  have hA4 : w4.heap[b]? = _ := (hbW.block b (vlt_blk HA.out.box)).trans HA.out.box
  have hL4 := HA.out.l.new hbW
  obtain ⟨xh, hxh⟩ := HA.out.h
  have hH4 := hxh.new hbW
  have t1 : w4.cell? ⟨b, 1, none⟩ = some (.slice none 0 0) := vcell_blk hA4
  have fg := (hL4.set (.pointer (some ⟨p2, 0, none⟩))).2
  have HA4 : Hid (w4.heap[b]? = some (.cells #[.slice (some ⟨g, 0, none⟩) 1 c0, .slice none 0 0, .map (some ma), .slice (some ⟨gh, 0, none⟩) 1 c1, vv] 70 (0, 0))) := hA4
  have HL4 : Hid (RO w4 51 (.slice (some ⟨g, 0, none⟩) 1 c0) [.pointer (some ⟨p, 0, none⟩)]) := hL4
  have HH4 : Hid (RO w4 3 (.slice (some ⟨gh, 0, none⟩) 1 c1) [.int .i64 xh]) := hH4
  have HBW : Hid (Below W.heap.size W w4) := hbW
  have HG3 : Hid (b < w3.heap.size ∧ g < w3.heap.size ∧ gh < w3.heap.size) := by
    have hs : W.heap.size ≤ w3.heap.size := Nat.le_trans HBd.out.size HB3.out.size
    have h1 := vlt_blk HA.out.box
    have h2 := HA.out.l.lt (k := g) rfl
    have h3 := hxh.lt (k := gh) rfl
    exact ⟨by omega, by omega, by omega⟩
  clear hbW hA4 hL4 hH4 hxh y0 y1 yg z0 zg hS4 v0
  go_upto_region 22 with (fail)
  generalize hW5 : World.setCell _ _ _ = W5
  have f5 : Fr w4 W5 (fun k => k = g) := by rw [← hW5]; exact Fr.setCell (S := fun k => k = g) _ ⟨g, 0, none⟩ _ rfl
  have hL5 : RO W5 51 (.slice (some ⟨g, 0, none⟩) 1 c0) [.pointer (some ⟨p2, 0, none⟩)] := by rw [← hW5]; exact (HL4.out.set _).1
  have hbg : b ≠ g := fun e => by
    obtain ⟨_, c, f, ht⟩ := vrow_tag HL4.out (k := g) rfl
    have h1 := HA4.out
    rw [e, ht] at h1
    injection h1 with h1
    injection h1 with _ h2
    exact absurd h2 (by decide)
  have hhg : gh ≠ g := fun e => by
    obtain ⟨_, c, f, ht⟩ := vrow_tag HL4.out (k := g) rfl
    obtain ⟨_, c', f', ht'⟩ := vrow_tag HH4.out (k := gh) rfl
    rw [e, ht] at ht'
    injection ht' with h1
    injection h1 with _ h2
    exact absurd h2 (by decide)
  have hbh : b ≠ gh := fun e => by
    obtain ⟨_, c', f', ht'⟩ := vrow_tag HH4.out (k := gh) rfl
    have h1 := HA4.out
    rw [e, ht'] at h1
    injection h1 with h1
    injection h1 with _ h2
    exact absurd h2 (by decide)
  have hA5 := (f5.block b (vlt_blk HA4.out) hbg).trans HA4.out
  have hH5 := HH4.out.kept f5 (fun k hk e => by cases hk; exact hhg e)
  have hN5 := HN4.out.kept f5 (fun k _ e hs => by have := HG3.out; omega)
  obtain ⟨Wd2, hWd2⟩ : ∃ Wd, W5.drew = Wd := ⟨_, rfl⟩
  have bd2 : Below W5.heap.size W5 Wd2 := by rw [← hWd2]; exact Below.drew (Below.refl _ _)
  have m3 : Wd2.cell? ⟨b, 3, none⟩ = some (.slice (some ⟨gh, 0, none⟩) 1 c1) := vcell_blk ((bd2.block b (vlt_blk hA5)).trans hA5)
  have HA6 : Hid (Wd2.heap[b]? = some (.cells #[.slice (some ⟨g, 0, none⟩) 1 c0, .slice none 0 0, .map (some ma), .slice (some ⟨gh, 0, none⟩) 1 c1, vv] 70 (0, 0))) := (bd2.block b (vlt_blk hA5)).trans hA5
  have HL6 : Hid (RO Wd2 51 (.slice (some ⟨g, 0, none⟩) 1 c0) [.pointer (some ⟨p2, 0, none⟩)]) := hL5.new bd2
  have HH6 : Hid (RO Wd2 3 (.slice (some ⟨gh, 0, none⟩) 1 c1) [.int .i64 xh]) := hH5.new bd2
  have HN6 : Hid (AS Wd2 (fun k => w3.heap.size ≤ k ∧ k < w4.heap.size) p2 A.again) := ⟨hN5.new bd2, Alone.born (again_may HNd.out.2)⟩
  have HF6 : Hid (Fr w4 Wd2 (fun k => k = g)) := f5.trans (Fr.ofBelow bd2 _) (fun _ _ h => h)
  have HNe : Hid (b ≠ g ∧ gh ≠ g ∧ b ≠ gh) := ⟨hbg, hhg, hbh⟩
  clear hW5 f5 hL5 hA5 hH5 hN5 bd2 hbg hhg hbh HA4 HL4 HH4 HN4
  refine wp_calmV ?_
  refine wp_region_L [8] (fun w' : World => w'.cell? ⟨b, 3, none⟩ = some (.slice (some ⟨gh, 0, none⟩) 1 c1)) (by kernel_rfl) ?_
  rw [hWd2]
  clear hWd2
  have hS : (fun w' : World => w'.cell? ⟨b, 3, none⟩ = some (.slice (some ⟨gh, 0, none⟩) 1 c1)) Wd2 := m3
  refine wpAnyL_take (i := 0) 231 (v := .pointer (some ⟨b, 0, none⟩)) rfl rfl (by kernel_rfl) (by kernel_rfl) (by kernel_rfl) (by kernel_rfl) (by kernel_rfl) (by kernel_rfl) (fun _ _ _ h => h) hS (by rfl) (by intro w' hSw; have y0 := hSw; go_simp <;> with_reducible rfl) ?_
  simp only [Act.put, List.setIfInBounds_toArray, List.set_cons_zero, List.set_cons_succ]
  refine wpAnyL_take (i := 1) 232 (v := .pointer (some ⟨b, 0, none⟩)) rfl rfl (by kernel_rfl) (by kernel_rfl) (by kernel_rfl) (by kernel_rfl) (by kernel_rfl) (by kernel_rfl) (fun _ _ _ h => h) hS (by rfl) (by intro w' hSw; have y0 := hSw; go_simp <;> with_reducible rfl) ?_
  simp only [Act.put, List.setIfInBounds_toArray, List.set_cons_zero, List.set_cons_succ]
  refine wpAnyL_take (i := 2) 233 (v := .pointer (some ⟨b, 3, none⟩)) rfl rfl (by kernel_rfl) (by kernel_rfl) (by kernel_rfl) (by kernel_rfl) (by kernel_rfl) (by kernel_rfl) (fun _ _ _ h => h) hS (by rfl) (by intro w' hSw; have y0 := hSw; go_simp <;> with_reducible rfl) ?_
  simp only [Act.put, List.setIfInBounds_toArray, List.set_cons_zero, List.set_cons_succ]
  refine wpAnyL_take (i := 3) 234 (v := .slice (some ⟨gh, 0, none⟩) 1 c1) rfl rfl (by kernel_rfl) (by kernel_rfl) (by kernel_rfl) (by kernel_rfl) (by kernel_rfl) (by kernel_rfl) (fun _ _ _ h => h) hS (by rfl) (by intro w' hSw; have y0 := hSw; go_simp <;> with_reducible rfl) ?_
  simp only [Act.put, List.setIfInBounds_toArray, List.set_cons_zero, List.set_cons_succ]
  refine wpAnyL_take (i := 4) 235 (v := .int .i64 0) rfl rfl (by kernel_rfl) (by kernel_rfl) (by kernel_rfl) (by kernel_rfl) (by kernel_rfl) (by kernel_rfl) (fun _ _ _ h => h) hS (by rfl) (by intro w' hSw; have y0 := hSw; go_simp <;> with_reducible rfl) ?_
  simp only [Act.put, List.setIfInBounds_toArray, List.set_cons_zero, List.set_cons_succ]
  refine wpAnyL_take (i := 5) 236 (v := .pointer (some ⟨p2, 0, none⟩)) rfl rfl (by kernel_rfl) (by kernel_rfl) (by kernel_rfl) (by kernel_rfl) (by kernel_rfl) (by kernel_rfl) (fun _ _ _ h => h) hS (by rfl) (by intro w' hSw; have y0 := hSw; go_simp <;> with_reducible rfl) ?_
  simp only [Act.put, List.setIfInBounds_toArray, List.set_cons_zero, List.set_cons_succ]
  refine wpAnyL_one (i := 6) (by kernel_rfl) rfl (fun Ka hKa => ?_)
  go_simp
  refine Calls.mono (commit_as HN6.out) ?_
  rintro r w7 ⟨rfl, q7, rfl⟩
  refine hKa.out _ _ (fun _ => hS) ?_
  clear hKa Ka
  try simp only [Act.put, List.setIfInBounds_toArray, List.set_cons_zero, List.set_cons_succ]
  obtain ⟨w7, hw7⟩ : ∃ w7, Wd2.drewN q7 = w7 := ⟨_, rfl⟩
  have b7 : Below Wd2.heap.size Wd2 w7 := by rw [← hw7]; exact below_dn _ _
  rw [hw7]
  have hS7 : (fun w' : World => w'.cell? ⟨b, 3, none⟩ = some (.slice (some ⟨gh, 0, none⟩) 1 c1)) w7 := by rw [← hw7]; exact hS
  refine wpAnyL_take (i := 7) 238 (v := .pointer (some ⟨gh, 0, none⟩)) rfl rfl (by kernel_rfl) (by kernel_rfl) (by kernel_rfl) (by kernel_rfl) (by kernel_rfl) (by kernel_rfl) (fun _ _ _ h => h) hS7 (by rfl) (by intro w' hSw; have y0 := hSw; go_simp <;> with_reducible rfl) ?_
  simp only [Act.put, List.setIfInBounds_toArray, List.set_cons_zero, List.set_cons_succ]
  have hH7 := HH6.out.new b7
  have cg : w7.cell? ⟨gh, 0, none⟩ = some (.int .i64 xh) := hH7.at_ 0 (by simp)
  have fg2 := (hH7.set (.int .i64 A.again.last)).2
  refine wpAnyL_one (i := 8) (by kernel_rfl) rfl (fun Ka hKa => ?_)
  go_simp
  refine hKa.out _ _ (fun h => absurd h (Bool.eq_false_iff.1 (by kernel_rfl))) ?_
  clear hKa Ka
  refine wpAnyL_done (by kernel_rfl) ?_ _
  generalize hW8 : World.setCell _ _ _ = W8
  have f8 : Fr w7 W8 (fun k => k = gh) := by rw [← hW8]; exact Fr.setCell (S := fun k => k = gh) _ ⟨gh, 0, none⟩ _ rfl
  have hH8 : RO W8 3 (.slice (some ⟨gh, 0, none⟩) 1 c1) [.int .i64 A.again.last] := by rw [← hW8]; exact (hH7.set _).1
  obtain ⟨n1, n2, n3⟩ := HNe.out
  have hA8 := (f8.block b (Nat.lt_of_lt_of_le (vlt_blk HA6.out) b7.size) n3).trans ((b7.block b (vlt_blk HA6.out)).trans HA6.out)
  have hL8 := (HL6.out.new b7).kept f8 (fun k hk e => by cases hk; exact n2 e.symm)
  have hN8 := (HN6.out.new b7).kept f8 (fun k _ e hs => by have := HG3.out; omega)
  have w1 : W8.cell? ⟨b, 1, none⟩ = some (.slice none 0 0) := vcell_blk hA8
  have HAW : Hid (AW W8 (fun k => w3.heap.size ≤ k ∧ k < w4.heap.size) b p2 A.again g c0 gh c1 ma vv) := ⟨hA8, hL8, ⟨_, hH8⟩, hN8, by have := HG3.out; omega, by have := HG3.out; omega, by have := HG3.out; omega⟩
  have HLow : Hid (Below B w W8) := by
    have h1 := HBg.out
    have h2 := HBh.out
    have h3 := HBw.out
    have h4 := HQ0.out
    have k1 : Below B w W := HB.out.mono (by omega)
    have k2 : Below B w w4 := k1.trans (HBW.out.mono (by have := k1.size; omega))
    have k3 : Below B w Wd2 := k2.trans (HF6.out.below (by have := k2.size; omega) (fun k e => by omega))
    have k4 : Below B w w7 := k3.trans (b7.mono (by have := k3.size; omega))
    exact k4.trans (f8.below (by have := k4.size; omega) (fun k e => by omega))
  clear hW8 f8 hH8 hA8 hL8 hN8 hH7 cg fg2 b7 hw7 hS hS7 m3
  go_wp2
  go_ret
  refine ⟨rfl, ⟨_, _, HAW.out, fun k hk => ?_⟩, HLow.out⟩
  have h1 := HBb.out
  have h2 := HG3.out
  omega
end Go.Proofs.Ytiodepmioglfpaa
