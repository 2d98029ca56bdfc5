/- A fall strikes: it is taken off the plan. -/
import Derived.Test.YtdapapnkmicklaaDkStr
namespace Go.Proofs.Ytdapapnkmicklaa
open Go.RowKit Go.Maps
attribute [local go_sem] Oper.semAt_some
/-- The disk with another plan. -/
def Dk.wp (A : Dk) (v : Value) : Dk := { A with pv := v }
theorem da_plan {w V : World} {B p : Nat} {A : Dk} {mn ms : Option Nat} {lv : Value} (h : DA w B p A mn ms lv) (hb : Below w.heap.size w V) (v : Value) : DA (V.setCell ⟨p, 3, none⟩ v) B p (A.wp v) mn ms lv ∧ FrD B w (V.setCell ⟨p, 3, none⟩ v) := by
  have hD := h.new hb
  have fs : Fr V (V.setCell ⟨p, 3, none⟩ v) (fun k => k = p) := Fr.setCell (S := fun k => k = p) V ⟨p, 3, none⟩ _ rfl
  exact ⟨⟨blk_set (i := 3) v hD.blk, hD.now.kept fs (fun k e s => hD.pmap.1 (by rw [e, s])), hD.sure.kept fs (fun k e s => hD.pmap.2 (by rw [e, s])), h.two, row_keep hD.row fs (fun k e s => hD.prow (by rw [e, s])), h.ok, h.hp, h.hn, h.hs⟩, (FrD.new hb).trans (hD.frP fs (fun _ e => e))⟩
section
variable {w : World} {B p : Nat} {A : Dk} {mn ms : Option Nat} {lv : Value} {g off m cc : Nat} {f0 f1 f2 : Int}
set_option maxRecDepth 100000 in
set_option maxHeartbeats 800000 in
theorem struck_hit1 (h : DA w B p A mn ms lv) (hB : B ≤ w.heap.size) (hpv : A.pv = .slice (some ⟨g, off, none⟩) (m + 1) 1) (hp0 : w.cell? ⟨g, off, none⟩ = some (.int .i64 f0)) (hp1 : w.cell? ⟨g, off + 1, none⟩ = some (.int .i64 f1)) (hp2 : w.cell? ⟨g, off + 2, none⟩ = some (.int .i64 f2)) (he : f0 = (A.n : Int)) : Calls Try.prog 83 #[.pointer (some ⟨p, 0, none⟩)] w fun r w' => r = .returned (.tuple #[.agg #[.int .i64 f0, .int .i64 f1, .int .i64 f2], .bool true]) ∧ DkAt w' B p (A.wp (.slice (some ⟨g, off, none⟩) m 0)) ∧ FrD B w w' := by
  go_enter Try.func83, Try.ntmps83
  go_upto_region 1 with (fail)
  generalize hW : World.alloc _ _ = W
  have hb : Below w.heap.size w W := by rw [← hW]; exact one_newD w _
  have hZ : W.heap[w.heap.size]? = some (.cells #[.int .i64 0, .int .i64 0, .int .i64 0] 34 (0, 0)) := by rw [← hW]; exact heap_alloc_new w _
  obtain ⟨c0, c1, c2, c3, c4, c5⟩ := (h.new hb).cells
  rw [hpv] at c3
  have x0 := (hb.cell (p := ⟨g, off, none⟩) (World.block_lt_of_cell? w ⟨g, off, none⟩ hp0)).trans hp0
  have x1 := (hb.cell (p := ⟨g, off + 1, none⟩) (World.block_lt_of_cell? w ⟨g, off + 1, none⟩ hp1)).trans hp1
  have x2 := (hb.cell (p := ⟨g, off + 2, none⟩) (World.block_lt_of_cell? w ⟨g, off + 2, none⟩ hp2)).trans hp2
  have hneb : (f0 != (A.n : Int)) = false := by simpa using he
  have hl0 : ((m : Int) + 1 == 0) = false := by simp; omega
  have hl1 : (0 : Int) < (m : Int) + 1 := by omega
  have hl2 : ¬ ((m : Int) + 1 < 1) := by omega
  have HD : Hid (DA w B p A mn ms lv) := h
  have HB : Hid (Below w.heap.size w W) := hb
  have HZ : Hid _ := hZ
  have HB0 : Hid (B ≤ w.heap.size) := hB
  have HPl : Hid (p < w.heap.size) := h.plt
  have HGl : Hid (g < w.heap.size) := World.block_lt_of_cell? w ⟨g, off, none⟩ hp0
  clear hW hZ hb c0 c1 c2 c5 h hpv hp0 hp1 hp2 he hB
  obtain ⟨q, hq⟩ : ∃ q, w.heap.size = q := ⟨_, rfl⟩
  have HQ : Hid (w.heap.size = q) := hq
  rw [hq] at HB HZ HB0 HPl HGl
  rw [hq]
  clear hq
  go_quiet (fail)
  obtain ⟨W2, hW2⟩ : ∃ W2, W.drewN nq = W2 := ⟨_, rfl⟩
  rw [hW2]
  have HB2 : Hid (Below q w W2) := by show Below q w W2; rw [← hW2]; exact bel_drewD HB.out nq
  have HZ2 : Hid (W2.heap[q]? = some (.cells #[.int .i64 0, .int .i64 0, .int .i64 0] 34 (0, 0))) := by show _ = _; rw [← hW2, heap_drewD]; exact HZ.out
  have k0 : ∀ (b o : Nat) (u : Value), W.cell? ⟨b, o, none⟩ = some u → W2.cell? ⟨b, o, none⟩ = some u := fun b o u hu => by rw [← hW2]; exact (World.cell?_of_block (a := ⟨b, o, none⟩) (by rw [heap_drewD])).trans hu
  replace x0 := k0 _ _ _ x0
  replace x1 := k0 _ _ _ x1
  replace x2 := k0 _ _ _ x2
  replace c3 := k0 _ _ _ c3
  replace c4 := k0 _ _ _ c4
  clear hW2 HB HZ k0 c4
  go_upto_region 4 with (fail)
  generalize hW3 : World.alloc _ _ = W3
  have hb3 : Below W2.heap.size W2 W3 := by rw [← hW3]; exact one_newD _ _
  have HV3 : Hid (W3.heap[W2.heap.size]? = some (.cells #[.int .i64 f0, .int .i64 f1, .int .i64 f2] 34 (0, 0))) := by show _ = _; rw [← hW3]; exact heap_alloc_new _ _
  have HZ3 : Hid (W3.heap[q]? = some (.cells #[.int .i64 0, .int .i64 0, .int .i64 0] 34 (0, 0))) := (hb3.block q (lt_blk HZ2.out)).trans HZ2.out
  have hq2 : q < W2.heap.size := lt_blk HZ2.out
  have HB3 : Hid (Below q w W3) := HB2.out.trans (hb3.mono (Nat.le_of_lt hq2))
  have hbl : Below w.heap.size w W3 := by rw [HQ.out]; exact HB3.out
  obtain ⟨d0, d1, d2, d3, d4, d5⟩ := (HD.out.new hbl).cells
  have e3 := (hb3.cell (p := ⟨p, 3, none⟩) (World.block_lt_of_cell? W2 ⟨p, 3, none⟩ c3)).trans c3
  have g3 := (HD.out.new hbl).free 3
  have HN : Hid _ := da_plan HD.out hbl (.slice (some ⟨g, off, none⟩) m 0)
  clear hW3 x0 x1 x2 c3 d0 d1 d2 d3 d4 d5 HZ2
  have hqs : q ≠ W2.heap.size := by omega
  have hpq : p ≠ q := by have := HPl.out; omega
  have hps : p ≠ W2.heap.size := by have := HPl.out; omega
  generalize W2.heap.size = q3 at HV3 hqs hps ⊢
  clear hb3 hbl
  go_upto_region 5 with (fail)
  obtain ⟨W4, hW4⟩ : ∃ W4, W3.setCell ⟨p, 3, none⟩ (.slice (some ⟨g, off, none⟩) m 0) = W4 := ⟨_, rfl⟩
  have fs : Fr W3 W4 (fun k => k = p) := by rw [← hW4]; exact Fr.setCell (S := fun k => k = p) W3 ⟨p, 3, none⟩ _ rfl
  rw [hW4] at HN ⊢
  have HV4 : Hid (W4.heap[q3]? = some (.cells #[.int .i64 f0, .int .i64 f1, .int .i64 f2] 34 (0, 0))) := (fs.block q3 (lt_blk HV3.out) (fun e => hps e.symm)).trans HV3.out
  have HZ4 : Hid (W4.heap[q]? = some (.cells #[.int .i64 0, .int .i64 0, .int .i64 0] 34 (0, 0))) := (fs.block q (lt_blk HZ3.out) (fun e => hpq e.symm)).trans HZ3.out
  obtain ⟨v0, v1, v2, _, _, _⟩ := box3 HV4.out
  obtain ⟨z0, z1, z2, s0, s1, s2⟩ := box3 HZ4.out
  clear hW4 fs e3 g3
  go_wp2
  refine bodyPost_ret (v := .tuple #[.agg #[.int .i64 f0, .int .i64 f1, .int .i64 f2], .bool true]) (res_ctD Try.results83 _ _ q 34 _ (0, 0) _ rfl (set3 _ _ _ HZ4.out) Try.underlying34 rfl size_fall) rfl ?_
  have hD4 := HN.out.1
  have hF4 := HN.out.2
  have f5 := set3_fr W4 q (.int .i64 f0) (.int .i64 f1) (.int .i64 f2)
  refine ⟨rfl, ⟨_, _, _, hD4.kept f5 (fun k hk => ?_)⟩, Fr.trans hF4 f5 (fun k hk e => ?_)⟩
  · subst hk
    have hz := HZ4.out
    refine ⟨fun e => hpq e.symm, fun e => ?_, fun e => ?_, fun e => ?_⟩
    · obtain ⟨es, c', hm'⟩ := map_tag hD4.now e
      rw [hz] at hm'; cases hm'
    · obtain ⟨es, c', hm'⟩ := map_tag hD4.sure e
      rw [hz] at hm'; cases hm'
    · obtain ⟨_, c', g', hm'⟩ := row_tag hD4.row e
      rw [hz] at hm'
      cases hm'
  · have := HQ.out
    omega
set_option maxRecDepth 100000 in
set_option maxHeartbeats 800000 in
theorem struck_hit2 (h : DA w B p A mn ms lv) (hB : B ≤ w.heap.size) (hpv : A.pv = .slice (some ⟨g, off, none⟩) (m + 1) cc) (hcc : ¬ cc = 1) (hp0 : w.cell? ⟨g, off, none⟩ = some (.int .i64 f0)) (hp1 : w.cell? ⟨g, off + 1, none⟩ = some (.int .i64 f1)) (hp2 : w.cell? ⟨g, off + 2, none⟩ = some (.int .i64 f2)) (he : f0 = (A.n : Int)) : Calls Try.prog 83 #[.pointer (some ⟨p, 0, none⟩)] w fun r w' => r = .returned (.tuple #[.agg #[.int .i64 f0, .int .i64 f1, .int .i64 f2], .bool true]) ∧ DkAt w' B p (A.wp (.slice (some ⟨g, off + 3, none⟩) m (cc - 1))) ∧ FrD B w w' := by
  go_enter Try.func83, Try.ntmps83
  go_upto_region 1 with (fail)
  generalize hW : World.alloc _ _ = W
  have hb : Below w.heap.size w W := by rw [← hW]; exact one_newD w _
  have hZ : W.heap[w.heap.size]? = some (.cells #[.int .i64 0, .int .i64 0, .int .i64 0] 34 (0, 0)) := by rw [← hW]; exact heap_alloc_new w _
  obtain ⟨c0, c1, c2, c3, c4, c5⟩ := (h.new hb).cells
  rw [hpv] at c3
  have x0 := (hb.cell (p := ⟨g, off, none⟩) (World.block_lt_of_cell? w ⟨g, off, none⟩ hp0)).trans hp0
  have x1 := (hb.cell (p := ⟨g, off + 1, none⟩) (World.block_lt_of_cell? w ⟨g, off + 1, none⟩ hp1)).trans hp1
  have x2 := (hb.cell (p := ⟨g, off + 2, none⟩) (World.block_lt_of_cell? w ⟨g, off + 2, none⟩ hp2)).trans hp2
  have hneb : (f0 != (A.n : Int)) = false := by simpa using he
  have hl0 : ((m : Int) + 1 == 0) = false := by simp; omega
  have hl1 : (0 : Int) < (m : Int) + 1 := by omega
  have hl2 : ¬ ((m : Int) + 1 < 1) := by omega
  have HD : Hid (DA w B p A mn ms lv) := h
  have HB : Hid (Below w.heap.size w W) := hb
  have HZ : Hid _ := hZ
  have HB0 : Hid (B ≤ w.heap.size) := hB
  have HPl : Hid (p < w.heap.size) := h.plt
  have HGl : Hid (g < w.heap.size) := World.block_lt_of_cell? w ⟨g, off, none⟩ hp0
  clear hW hZ hb c0 c1 c2 c5 h hpv hp0 hp1 hp2 he hB
  obtain ⟨q, hq⟩ : ∃ q, w.heap.size = q := ⟨_, rfl⟩
  have HQ : Hid (w.heap.size = q) := hq
  rw [hq] at HB HZ HB0 HPl HGl
  rw [hq]
  clear hq
  go_quiet (fail)
  obtain ⟨W2, hW2⟩ : ∃ W2, W.drewN nq = W2 := ⟨_, rfl⟩
  rw [hW2]
  have HB2 : Hid (Below q w W2) := by show Below q w W2; rw [← hW2]; exact bel_drewD HB.out nq
  have HZ2 : Hid (W2.heap[q]? = some (.cells #[.int .i64 0, .int .i64 0, .int .i64 0] 34 (0, 0))) := by show _ = _; rw [← hW2, heap_drewD]; exact HZ.out
  have k0 : ∀ (b o : Nat) (u : Value), W.cell? ⟨b, o, none⟩ = some u → W2.cell? ⟨b, o, none⟩ = some u := fun b o u hu => by rw [← hW2]; exact (World.cell?_of_block (a := ⟨b, o, none⟩) (by rw [heap_drewD])).trans hu
  replace x0 := k0 _ _ _ x0
  replace x1 := k0 _ _ _ x1
  replace x2 := k0 _ _ _ x2
  replace c3 := k0 _ _ _ c3
  replace c4 := k0 _ _ _ c4
  clear hW2 HB HZ k0 c4
  go_upto_region 4 with (fail)
  generalize hW3 : World.alloc _ _ = W3
  have hb3 : Below W2.heap.size W2 W3 := by rw [← hW3]; exact one_newD _ _
  have HV3 : Hid (W3.heap[W2.heap.size]? = some (.cells #[.int .i64 f0, .int .i64 f1, .int .i64 f2] 34 (0, 0))) := by show _ = _; rw [← hW3]; exact heap_alloc_new _ _
  have HZ3 : Hid (W3.heap[q]? = some (.cells #[.int .i64 0, .int .i64 0, .int .i64 0] 34 (0, 0))) := (hb3.block q (lt_blk HZ2.out)).trans HZ2.out
  have hq2 : q < W2.heap.size := lt_blk HZ2.out
  have HB3 : Hid (Below q w W3) := HB2.out.trans (hb3.mono (Nat.le_of_lt hq2))
  have hbl : Below w.heap.size w W3 := by rw [HQ.out]; exact HB3.out
  obtain ⟨d0, d1, d2, d3, d4, d5⟩ := (HD.out.new hbl).cells
  have e3 := (hb3.cell (p := ⟨p, 3, none⟩) (World.block_lt_of_cell? W2 ⟨p, 3, none⟩ c3)).trans c3
  have g3 := (HD.out.new hbl).free 3
  have HN : Hid _ := da_plan HD.out hbl (.slice (some ⟨g, off + 3, none⟩) m (cc - 1))
  clear hW3 x0 x1 x2 c3 d0 d1 d2 d3 d4 d5 HZ2
  have hqs : q ≠ W2.heap.size := by omega
  have hpq : p ≠ q := by have := HPl.out; omega
  have hps : p ≠ W2.heap.size := by have := HPl.out; omega
  generalize W2.heap.size = q3 at HV3 hqs hps ⊢
  clear hb3 hbl
  go_upto_region 5 with (fail)
  obtain ⟨W4, hW4⟩ : ∃ W4, W3.setCell ⟨p, 3, none⟩ (.slice (some ⟨g, off + 3, none⟩) m (cc - 1)) = W4 := ⟨_, rfl⟩
  have fs : Fr W3 W4 (fun k => k = p) := by rw [← hW4]; exact Fr.setCell (S := fun k => k = p) W3 ⟨p, 3, none⟩ _ rfl
  rw [hW4] at HN ⊢
  have HV4 : Hid (W4.heap[q3]? = some (.cells #[.int .i64 f0, .int .i64 f1, .int .i64 f2] 34 (0, 0))) := (fs.block q3 (lt_blk HV3.out) (fun e => hps e.symm)).trans HV3.out
  have HZ4 : Hid (W4.heap[q]? = some (.cells #[.int .i64 0, .int .i64 0, .int .i64 0] 34 (0, 0))) := (fs.block q (lt_blk HZ3.out) (fun e => hpq e.symm)).trans HZ3.out
  obtain ⟨v0, v1, v2, _, _, _⟩ := box3 HV4.out
  obtain ⟨z0, z1, z2, s0, s1, s2⟩ := box3 HZ4.out
  clear hW4 fs e3 g3
  go_wp2
  refine bodyPost_ret (v := .tuple #[.agg #[.int .i64 f0, .int .i64 f1, .int .i64 f2], .bool true]) (res_ctD Try.results83 _ _ q 34 _ (0, 0) _ rfl (set3 _ _ _ HZ4.out) Try.underlying34 rfl size_fall) rfl ?_
  have hD4 := HN.out.1
  have hF4 := HN.out.2
  have f5 := set3_fr W4 q (.int .i64 f0) (.int .i64 f1) (.int .i64 f2)
  refine ⟨rfl, ⟨_, _, _, hD4.kept f5 (fun k hk => ?_)⟩, Fr.trans hF4 f5 (fun k hk e => ?_)⟩
  · subst hk
    have hz := HZ4.out
    refine ⟨fun e => hpq e.symm, fun e => ?_, fun e => ?_, fun e => ?_⟩
    · obtain ⟨es, c', hm'⟩ := map_tag hD4.now e
      rw [hz] at hm'; cases hm'
    · obtain ⟨es, c', hm'⟩ := map_tag hD4.sure e
      rw [hz] at hm'; cases hm'
    · obtain ⟨_, c', g', hm'⟩ := row_tag hD4.row e
      rw [hz] at hm'
      cases hm'
  · have := HQ.out
    omega
/-- The plan behind a fall. -/
theorem struck_hit {L : List (Int × Int × Int)} {f : Int × Int × Int} (h : DA w B p A mn ms lv) (hB : B ≤ w.heap.size) (hp : PlanIs w A.pv (f :: L)) (he : f.1 = (A.n : Int)) : Calls Try.prog 83 #[.pointer (some ⟨p, 0, none⟩)] w fun r w' => r = .returned (.tuple #[.agg #[.int .i64 f.1, .int .i64 f.2.1, .int .i64 f.2.2], .bool true]) ∧ ∃ v, DkAt w' B p (A.wp v) ∧ PlanIs w' v L ∧ FrD B w w' := by
  obtain ⟨ao, c, hv, hc, hx⟩ := id hp
  obtain ⟨g, off, cs, fr, rfl, hg, hcs⟩ := hx (by simp)
  obtain ⟨a0, a1, a2⟩ := hcs 0 (by simp)
  rw [Nat.zero_mul, Nat.add_zero] at a0 a1 a2
  simp only [List.length_cons] at hv hc
  have hP : ∀ w' : World, FrD B w w' → PlanIs w' (if c = 1 then .slice (some ⟨g, off, none⟩) L.length 0 else .slice (some ⟨g, off + 3, none⟩) L.length (c - 1)) L := fun w' f => by
    have hp' := hp.frD f
    obtain ⟨ao', c', hv', _, hx'⟩ := hp'
    rw [hv] at hv'
    cases hv'
    obtain ⟨g', off', cs', fr', e', hg', hcs'⟩ := hx' (by simp)
    cases e'
    by_cases h1 : c = 1
    · rw [if_pos h1]
      have e0 : L = [] := List.length_eq_zero_iff.1 (by omega)
      subst e0
      exact ⟨_, 0, rfl, Nat.le_refl _, fun h => absurd h (by simp)⟩
    · rw [if_neg h1]
      refine ⟨_, c - 1, rfl, by omega, fun _ => ⟨g, off + 3, cs', fr', rfl, hg', fun j hj => ?_⟩⟩
      have := hcs' (j + 1) (by simpa using hj)
      rw [show off + (j + 1) * 3 = off + 3 + j * 3 by omega] at this
      exact this
  by_cases h1 : c = 1
  · subst h1
    refine (struck_hit1 h hB hv a0 a1 a2 he).mono ?_
    rintro r w' ⟨rfl, h2, h3⟩
    exact ⟨rfl, _, h2, hP w' h3, h3⟩
  · refine (struck_hit2 h hB hv h1 a0 a1 a2 he).mono ?_
    rintro r w' ⟨rfl, h2, h3⟩
    have := hP w' h3
    rw [if_neg h1] at this
    exact ⟨rfl, _, h2, this, h3⟩
end
end Go.Proofs.Ytdapapnkmicklaa
