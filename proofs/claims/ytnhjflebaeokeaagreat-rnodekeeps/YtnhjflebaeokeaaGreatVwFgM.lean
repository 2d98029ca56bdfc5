import Derived.Test.YtnhjflebaeokeaaGreatVwF4M
/- What was gathered is forgotten. -/
namespace Go.Proofs.YtnhjflebaeokeaaGreat
open Go.RowKit Go.Maps
attribute [local go_sem] Oper.semAt_some
/-- A master whose ticks and gatherings are whatever they are. -/
structure NB (w : World) (S : Nat → Prop) (p : Nat) (A : Nd) (lv : Value) (mk : Nat) (x10 x11 x12 x13 x14 : Value) : Prop where
  blk : w.heap[p]? = some (.cells #[.int .i64 A.me, .int .i64 A.all, .int .i64 A.vw, .int .i64 A.nm, .int .i64 A.bi, .int .i64 A.bv, .string A.base, lv, .int .i64 A.cm, .int .i64 A.had, x10, x11, x12, x13, x14, .map (some mk)] 114 (0, 0))
  log : EnO w 0 lv A.log
  kinds : HMap w mk (kindF p)
  sp : S p
  sl : ∀ k, lv.ownBlock = some k → S k
  sk : S mk
def Nd.fresh (A : Nd) : Nd := { A with tk := 0, gave := false, wants := fun x => x == A.me, given := fun _ => none, upTo := fun _ => none }
section
variable {w : World} {S : Nat → Prop} {p : Nat} {A : Nd} {lv : Value} {mk : Nat} {x10 x11 x12 x13 x14 : Value}
theorem NB.cells (h : NB w S p A lv mk x10 x11 x12 x13 x14) : w.cell? ⟨p, 0, none⟩ = some (.int .i64 A.me) ∧ w.cell? ⟨p, 10, none⟩ = some x10 ∧ w.cell? ⟨p, 11, none⟩ = some x11 ∧ w.cell? ⟨p, 12, none⟩ = some x12 ∧ w.cell? ⟨p, 13, none⟩ = some x13 ∧ w.cell? ⟨p, 14, none⟩ = some x14 := by
  have := h.blk
  simp [World.cell?, this]
theorem NB.free (h : NB w S p A lv mk x10 x11 x12 x13 x14) : ∀ i, w.frozen? ⟨p, i, none⟩ = false := by
  have := h.blk
  intro i
  simp [World.frozen?, this]
theorem NB.plt (h : NB w S p A lv mk x10 x11 x12 x13 x14) : p < w.heap.size := vlt_blk h.blk
theorem NB.kept {w' : World} (h : NB w S p A lv mk x10 x11 x12 x13 x14) {U : Nat → Prop} (f : Fr w w' U) (hU : ∀ k, k < w.heap.size → U k → ¬ S k) : NB w' S p A lv mk x10 x11 x12 x13 x14 :=
  { h with
    blk := (f.block p h.plt (fun s => hU p h.plt s h.sp)).trans h.blk
    log := h.log.kept f (fun k e s => hU k (by obtain ⟨_, c, f', hb⟩ := vrow_tag h.log e; exact vlt_blk hb) s (h.sl k e))
    kinds := h.kinds.kept f (fun s => hU _ h.kinds.lt s h.sk) }
theorem NB.new {w' : World} (h : NB w S p A lv mk x10 x11 x12 x13 x14) (hb : Below w.heap.size w w') : NB w' S p A lv mk x10 x11 x12 x13 x14 := h.kept (Fr.ofBelow hb (fun _ => False)) (fun _ _ h => h.elim)
theorem NB.tags (h : NB w S p A lv mk x10 x11 x12 x13 x14) : p ≠ mk ∧ ∀ k, lv.ownBlock = some k → k ≠ p ∧ k ≠ mk := by
  obtain ⟨es, c, hm⟩ := h.kinds.isMap
  refine ⟨fun e => ?_, fun k hk => ?_⟩
  · subst e; rw [h.blk] at hm; cases hm
  · obtain ⟨_, c, f, hb⟩ := vrow_tag h.log hk
    refine ⟨fun e => ?_, fun e => ?_⟩
    · subst e; rw [h.blk] at hb; cases hb
    · subst e; rw [hb] at hm; cases hm
set_option maxRecDepth 100000 in
set_option maxHeartbeats 1000000 in
theorem forget_any (h : NB w S p A lv mk x10 x11 x12 x13 x14) (ok : 0 ≤ A.me ∧ A.me < 7) : Calls Tryz.prog 94 #[.pointer (some ⟨p, 0, none⟩)] w fun r w' => r = .returned (.tuple #[]) ∧ (∃ mw mg mu, NA w' (fun k => S k ∨ w.heap.size ≤ k) p A.fresh lv mw mg mu mk) ∧ Fr w w' (fun k => k = p) := by
  have HH : Hid (NB w S p A lv mk x10 x11 x12 x13 x14) := h
  obtain ⟨c0, c10, _⟩ := h.cells
  have f10 := h.free 10
  have hmm := @run_makeMap Tryz.prog
  clear h
  go_enter Tryz.func94, Tryz.ntmps94
  go_upto_region 1 with (fail)
  generalize hW : World.setCell _ _ _ = W
  have hF : Fr w W (fun k => k = p) := by rw [← hW]; exact Fr.setCell (S := fun k => k = p) w ⟨p, 10, none⟩ _ rfl
  have hP : W.heap[p]? = some (.cells #[.int .i64 A.me, .int .i64 A.all, .int .i64 A.vw, .int .i64 A.nm, .int .i64 A.bi, .int .i64 A.bv, .string A.base, lv, .int .i64 A.cm, .int .i64 A.had, .int .i64 0, x11, x12, x13, x14, .map (some mk)] 114 (0, 0)) := by rw [← hW]; exact vblk_set (i := 10) _ HH.out.blk
  have hSz : W.heap.size = w.heap.size := by rw [← hW]; simp [World.setCell]
  have b1 : Below W.heap.size W (W.alloc (.map #[] 0)) := vone_new W _
  obtain ⟨w2, hput, m2, f2⟩ := (HMap.made W).put (t := 107) (e := 174) (x := A.me) Tryz.underlying107 ok.1 (by omega) (.agg #[])
  have hb2 : Below W.heap.size W w2 := b1.trans (f2.below (by simp) (fun k e => by omega))
  have d0 : W.cell? ⟨p, 0, none⟩ = some (.int .i64 A.me) := by simp [World.cell?, hP]
  have hlt : p < W.heap.size := vlt_blk hP
  have HF : Hid (Fr w W (fun k => k = p)) := hF
  have HP : Hid _ := hP
  have HM : Hid (HMap w2 W.heap.size (fun y => if y = A.me then some (.agg #[]) else none)) := m2
  have HB : Hid (Below W.heap.size W w2) := hb2
  have HSz : Hid (W.heap.size = w.heap.size) := hSz
  clear hW hF hP c0 c10 f10 m2 hb2 b1 f2 hSz
  have hP2 : w2.heap[p]? = _ := (HB.out.block p hlt).trans HP.out
  have k0 : (W.alloc (.map #[] 0)).cell? ⟨p, 0, none⟩ = some (.int .i64 A.me) := ((vone_new W (.map #[] 0)).cell (p := ⟨p, 0, none⟩) hlt).trans d0
  obtain ⟨w4, hw4⟩ : ∃ w4, (w2.alloc (.map #[] 0)).alloc (.map #[] 0) = w4 := ⟨_, rfl⟩
  have b4 : Below w2.heap.size w2 w4 := by rw [← hw4]; exact (vone_new w2 _).trans ((vone_new _ _).mono (by simp))
  have hP4 := (b4.block p (vlt_blk hP2)).trans hP2
  have m3 : HMap w4 w2.heap.size (fun _ => none) := by rw [← hw4]; exact (HMap.made w2).new (vone_new _ _)
  have m4 : HMap w4 (w2.heap.size + 1) (fun _ => none) := by rw [← hw4]; have := HMap.made (w2.alloc (.map #[] 0)); rwa [World.size_alloc] at this
  have q11 : w4.cell? ⟨p, 11, none⟩ = some x11 := by simp [World.cell?, hP4]
  have q12 : w4.cell? ⟨p, 12, none⟩ = some x12 := by simp [World.cell?, hP4]
  have q13 : w4.cell? ⟨p, 13, none⟩ = some x13 := by simp [World.cell?, hP4]
  have q14 : w4.cell? ⟨p, 14, none⟩ = some x14 := by simp [World.cell?, hP4]
  have fz : ∀ i, w4.frozen? ⟨p, i, none⟩ = false := fun i => by simp [World.frozen?, hP4]
  have f11 := fz 11
  have f12 := fz 12
  have f13 := fz 13
  have f14 := fz 14
  have HP4 : Hid _ := hP4
  have H3 : Hid (HMap w4 w2.heap.size (fun _ => none)) := m3
  have H4 : Hid (HMap w4 (w2.heap.size + 1) (fun _ => none)) := m4
  have HB4 : Hid (Below w2.heap.size w2 w4) := b4
  clear hP2 hP4 m3 m4 b4 fz d0
  go_wp2
  go_end0
  generalize hV : World.setCell _ _ _ = V
  have hFV : Fr w4 V (fun k => k = p) := by
    rw [← hV]
    exact (Fr.setCell (S := fun k => k = p) _ ⟨p, 11, none⟩ _ rfl).trans ((Fr.setCell (S := fun k => k = p) _ ⟨p, 12, none⟩ _ rfl).trans ((Fr.setCell (S := fun k => k = p) _ ⟨p, 13, none⟩ _ rfl).trans (Fr.setCell (S := fun k => k = p) _ ⟨p, 14, none⟩ _ rfl) (fun _ _ h => h)) (fun _ _ h => h)) (fun _ _ h => h)
  have hPV : V.heap[p]? = some (.cells (ndCells A.fresh lv W.heap.size w2.heap.size (w2.heap.size + 1) mk) 114 (0, 0)) := by
    rw [← hV]
    exact vblk_set (i := 14) _ (vblk_set (i := 13) _ (vblk_set (i := 12) _ (vblk_set (i := 11) _ HP4.out)))
  have hh := HH.out
  have hS := HSz.out
  have hB := HB.out
  have hB4 := HB4.out
  have s2 : w.heap.size < w2.heap.size := by
    have := HM.out.lt
    omega
  have hF4 : Fr w w4 (fun k => k = p) := HF.out.trans ((Fr.ofBelow hB (fun k => k = p)).trans (Fr.ofBelow hB4 (fun k => k = p)) (fun _ _ h => h)) (fun _ _ h => h)
  have hFw : Fr w V (fun k => k = p) := hF4.trans hFV (fun _ _ h => h)
  obtain ⟨t1, t2⟩ := hh.tags
  have mlt := hh.kinds.lt
  have plt := hh.plt
  have mw := HM.out.new hB4
  refine ⟨rfl, ⟨W.heap.size, w2.heap.size, w2.heap.size + 1, ⟨hPV, hh.log.kept hFw (fun k hk e => (t2 k hk).1 e), (mw.kept hFV (by omega)).ext (fun x => ?_), GvAt.none _ (H3.out.kept hFV (by omega)), (H4.out.kept hFV (by omega)).ext (fun _ => rfl), hh.kinds.kept hFw (fun e => t1 e.symm), .inl hh.sp, fun k hk => .inl (hh.sl k hk), .inr (by omega), .inr (by omega), .inr (by omega), .inl hh.sk, by omega, by omega, by omega, by omega, by omega, by omega⟩⟩, hFw⟩
  show (if x = A.me then some (.agg #[]) else none) = wantsF (fun x => x == A.me) x
  unfold wantsF
  by_cases e : x = A.me <;> simp [e]
end
end Go.Proofs.YtnhjflebaeokeaaGreat
