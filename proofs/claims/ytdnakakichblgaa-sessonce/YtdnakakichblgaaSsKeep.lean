/- keep: a request is made the last one of its session. -/
import Derived.Test.YtdnakakichblgaaSsTab
import Derived.Test.YtdnakakichblgaaOrdL
import Derived.Deep.RegionLaw
namespace Go.Proofs.Ytdnakakichblgaa
open Go.RowKit Go.Maps
attribute [local go_sem] Oper.semAt_some
theorem wp_calmS {P : Program} {c : Code} {Q : Exit → Act → World → Prop} {a : Act} {w : World} (h : c.wp P (Exit.then (fun a w => Q .normal a w) (fun _ _ _ => False)) a w) : c.wp P Q a w := Code.wp_mono (fun e a w h => by cases e <;> first | exact h | exact h.elim) h
theorem rq_set (l : List Req) (j : Nat) (x : Req) (hj : j < l.length) : (((l.flatMap rq).set (j * 3) (.int .i64 x.k)).set (j * 3 + 1) (.int .i64 x.n)).set (j * 3 + 2) (.string x.s) = (l.set j x).flatMap rq := by
  induction l generalizing j with
  | nil => simp at hj
  | cons c r ih =>
    rw [List.flatMap_cons]
    cases j with
    | zero => simp [rq]
    | succ j =>
      have h1 := ih j (by simpa using hj)
      rw [List.set_cons_succ, List.flatMap_cons, ← h1]
      have e : ∀ (m : List Value) (i : Nat) (u : Value), (rq c ++ m).set ((j + 1) * 3 + i) u = rq c ++ m.set (j * 3 + i) u := fun m i u => by
        have hl : (rq c).length = 3 := rfl
        rw [List.set_append_right _ _ (by rw [hl]; omega), hl, show (j + 1) * 3 + i - 3 = j * 3 + i by omega]
      have e0 := fun m u => e m 0 u
      simp only [Nat.add_zero] at e0
      rw [e0, e, e]
theorem RqO.set {e : TypeId} {w : World} {B g n cap : Nat} {L : List Req} (h : RqO e w B (.slice (some ⟨g, 0, none⟩) n cap) L) (j : Nat) (hj : j < L.length) (x : Req) : RqO e (((w.setCell ⟨g, j * 3, none⟩ (.int .i64 x.k)).setCell ⟨g, j * 3 + 1, none⟩ (.int .i64 x.n)).setCell ⟨g, j * 3 + 2, none⟩ (.string x.s)) B (.slice (some ⟨g, 0, none⟩) n cap) (L.set j x) := by
  obtain ⟨h1, h2⟩ := h
  rcases h2 with ⟨h2, _⟩ | ⟨g', cap', cur, hv, h3, h4, h5, h6, h7, h8⟩
  · cases h2
  · cases hv
    refine ⟨by rw [rq_len], .inr ⟨g, cap, ((cur.setIfInBounds (j * 3) (.int .i64 x.k)).setIfInBounds (j * 3 + 1) (.int .i64 x.n)).setIfInBounds (j * 3 + 2) (.string x.s), by rw [List.length_set], h3, sblk_set (i := j * 3 + 2) _ (sblk_set (i := j * 3 + 1) _ (sblk_set (i := j * 3) _ h4)), by rw [List.length_set]; exact h5, h6, by simpa using h7, ?_⟩⟩
    rw [← rq_set L j x hj, ← h8, List.length_set]
    simp only [Array.toList_setIfInBounds, List.take_set]
theorem RqO.soft {e : TypeId} {w : World} {B g n cap : Nat} {L : List Req} (h : RqO e w B (.slice (some ⟨g, 0, none⟩) n cap) L) (i : Nat) : w.frozen? ⟨g, i, none⟩ = false := by
  rcases h.2 with ⟨h2, _⟩ | ⟨g', cap', cur, hv, h3, h4, _⟩
  · cases h2
  · cases hv
    simp [World.frozen?, h4]
theorem sset3g_fr (W : World) (g i : Nat) (a b c : Value) : Fr W (((W.setCell ⟨g, i, none⟩ a).setCell ⟨g, i + 1, none⟩ b).setCell ⟨g, i + 2, none⟩ c) (fun k => k = g) := ((Fr.setCell (S := fun k => k = g) W ⟨g, i, none⟩ a rfl).trans (Fr.setCell (S := fun k => k = g) _ ⟨g, i + 1, none⟩ b rfl) (fun _ _ h => h)).trans (Fr.setCell (S := fun k => k = g) _ ⟨g, i + 2, none⟩ c rfl) (fun _ _ h => h)
set_option maxRecDepth 100000 in
set_option maxHeartbeats 2000000 in
theorem skeep {w : World} {B p : Nat} {v : Value} {L : List Req} (h : TA w B p v L) (hl : L.length ≤ 1000000) (hr : RiseQ L) {a : Req} (ha : a.n ≠ 0) : Calls Try.prog 31 #[.pointer (some ⟨p, 0, none⟩), .agg #[.int .i64 a.k, .int .i64 a.n, .string a.s]] w fun r w' => r = .returned (.tuple #[]) ∧ TTo w w' B p v (putR L a) := by
  have HT : Hid (TA w B p v L) := h
  have HR : Hid (RiseQ L) := hr
  have hn0 : ¬ a.n = 0 := ha
  clear h hr ha
  go_enter Try.func31, Try.ntmps31
  go_upto_region 1 with (fail)
  generalize hW : World.alloc _ _ = W
  have hB : Below w.heap.size w W := by rw [← hW]; exact sone_new w _
  have hZ : W.heap[w.heap.size]? = some (.cells #[.int .i64 a.k, .int .i64 a.n, .string a.s] 60 (0, 0)) := by rw [← hW]; exact heap_alloc_new w _
  clear hW
  have HQ : Hid (∀ k, v.ownBlock = some k → k < w.heap.size) := fun k hk => (HT.out.row.lt k hk).2
  have HPq : Hid (p < w.heap.size) := HT.out.lt
  obtain ⟨q, hq⟩ : ∃ q, w.heap.size = q := ⟨_, rfl⟩
  have HT1 : Hid (TA W B p v L) := HT.out.new hB
  have HB : Hid (Below w.heap.size w W) := hB
  have HE : Hid (w.heap.size = q) := hq
  rw [hq] at hZ ⊢
  have HZ : Hid (W.heap[q]? = some (.cells #[.int .i64 a.k, .int .i64 a.n, .string a.s] 60 (0, 0))) := hZ
  obtain ⟨u0, u1, u2, _, _, _⟩ := sbox3 hZ
  clear hB hZ hq HT
  have hF := sfind a.k HT1.out hl HR.out
  have HP : Hid (posR L a.k ≤ L.length) := posR_le L a.k
  by_cases hi : isR L a.k = true
  · have hlt : posR L a.k < L.length := by
      unfold isR at hi
      cases e : L[posR L a.k]? with
      | none => rw [e] at hi; simp at hi
      | some y => exact (List.getElem?_eq_some_iff.1 e).1
    have HPut : Hid (putR L a = L.set (posR L a.k) a) := by
      show _ = _
      unfold putR
      rw [if_pos hi]
    rw [hi] at hF
    generalize posR L a.k = j at hlt HPut hF HP
    clear hi
    go_upto_region 3 with (go_at_call 43; refine hF.mono ?_; rintro r w1 ⟨rfl, hb1⟩)
    have HT2 : Hid (TA w1 B p v L) := HT1.out.new hb1
    have HZ2 : Hid (w1.heap[q]? = some (.cells #[.int .i64 a.k, .int .i64 a.n, .string a.s] 60 (0, 0))) := (hb1.block q (slt_blk HZ.out)).trans HZ.out
    have HB2 : Hid (Below w.heap.size w w1) := HB.out.trans (hb1.mono HB.out.size)
    obtain ⟨z0, z1, z2, _, _, _⟩ := sbox3 HZ2.out
    clear hF hb1 u0 u1 u2
    go_upto_region 6 with (fail)
    obtain ⟨ao, c, rfl, hcap, hg⟩ := HT2.out.row.shape
    obtain ⟨g, rfl⟩ := hg (by omega)
    obtain ⟨Wd, hWd⟩ : ∃ Wd, w1.drew = Wd := ⟨_, rfl⟩
    have bd : Below w1.heap.size w1 Wd := by rw [← hWd]; exact Below.drew (Below.refl _ _)
    have HT3 : Hid (TA Wd B p (.slice (some ⟨g, 0, none⟩) L.length c) L) := HT2.out.new bd
    have c0 := HT3.out.c0
    have HZ3 : Wd.heap[q]? = some (.cells #[.int .i64 a.k, .int .i64 a.n, .string a.s] 60 (0, 0)) := (bd.block q (slt_blk HZ2.out)).trans HZ2.out
    obtain ⟨y0, y1, y2, _, _, _⟩ := sbox3 HZ3
    obtain ⟨e0, e1, e2⟩ := HT3.out.row.at_ j hlt
    have s0 := HT3.out.row.soft (j * 3)
    have s1 := HT3.out.row.soft (j * 3 + 1)
    have s2 := HT3.out.row.soft (j * 3 + 2)
    generalize L[j] = old at e0 e1 e2
    have hcL : (j : Int) < L.length := by omega
    refine wp_calmS ?_
    refine wp_region_L [7] (fun w' : World => w'.cell? ⟨p, 0, none⟩ = some (.slice (some ⟨g, 0, none⟩) L.length c) ∧ w'.cell? ⟨q, 0, none⟩ = some (.int .i64 a.k) ∧ w'.cell? ⟨q, 1, none⟩ = some (.int .i64 a.n) ∧ w'.cell? ⟨q, 2, none⟩ = some (.string a.s)) (by kernel_rfl) ?_
    rw [hWd]
    have hS : (fun w' : World => w'.cell? ⟨p, 0, none⟩ = some (.slice (some ⟨g, 0, none⟩) L.length c) ∧ w'.cell? ⟨q, 0, none⟩ = some (.int .i64 a.k) ∧ w'.cell? ⟨q, 1, none⟩ = some (.int .i64 a.n) ∧ w'.cell? ⟨q, 2, none⟩ = some (.string a.s)) Wd := ⟨c0, y0, y1, y2⟩
    refine wpAnyL_take (i := 0) 44 (v := .pointer (some ⟨p, 0, none⟩)) rfl rfl (by kernel_rfl) (by kernel_rfl) (by kernel_rfl) (by kernel_rfl) (by kernel_rfl) (by kernel_rfl) (fun _ _ _ h => h) hS (by rfl) (by intro w' hSw; obtain ⟨y0, y1, y2, y3⟩ := hSw; go_simp <;> with_reducible rfl) ?_
    simp only [Act.put, List.setIfInBounds_toArray, List.set_cons_zero, List.set_cons_succ]
    refine wpAnyL_take (i := 1) 45 (v := .pointer (some ⟨p, 0, none⟩)) rfl rfl (by kernel_rfl) (by kernel_rfl) (by kernel_rfl) (by kernel_rfl) (by kernel_rfl) (by kernel_rfl) (fun _ _ _ h => h) hS (by rfl) (by intro w' hSw; obtain ⟨y0, y1, y2, y3⟩ := hSw; go_simp <;> with_reducible rfl) ?_
    simp only [Act.put, List.setIfInBounds_toArray, List.set_cons_zero, List.set_cons_succ]
    refine wpAnyL_take (i := 2) 46 (v := .pointer (some ⟨p, 0, none⟩)) rfl rfl (by kernel_rfl) (by kernel_rfl) (by kernel_rfl) (by kernel_rfl) (by kernel_rfl) (by kernel_rfl) (fun _ _ _ h => h) hS (by rfl) (by intro w' hSw; obtain ⟨y0, y1, y2, y3⟩ := hSw; go_simp <;> with_reducible rfl) ?_
    simp only [Act.put, List.setIfInBounds_toArray, List.set_cons_zero, List.set_cons_succ]
    refine wpAnyL_take (i := 3) 47 (v := .slice (some ⟨g, 0, none⟩) L.length c) rfl rfl (by kernel_rfl) (by kernel_rfl) (by kernel_rfl) (by kernel_rfl) (by kernel_rfl) (by kernel_rfl) (fun _ _ _ h => h) hS (by rfl) (by intro w' hSw; obtain ⟨y0, y1, y2, y3⟩ := hSw; go_simp <;> with_reducible rfl) ?_
    simp only [Act.put, List.setIfInBounds_toArray, List.set_cons_zero, List.set_cons_succ]
    refine wpAnyL_take (i := 4) 48 (v := .int .i64 j) rfl rfl (by kernel_rfl) (by kernel_rfl) (by kernel_rfl) (by kernel_rfl) (by kernel_rfl) (by kernel_rfl) (fun _ _ _ h => h) hS (by rfl) (by intro w' hSw; obtain ⟨y0, y1, y2, y3⟩ := hSw; go_simp <;> with_reducible rfl) ?_
    simp only [Act.put, List.setIfInBounds_toArray, List.set_cons_zero, List.set_cons_succ]
    refine wpAnyL_take (i := 5) 49 (v := .agg #[.int .i64 a.k, .int .i64 a.n, .string a.s]) rfl rfl (by kernel_rfl) (by kernel_rfl) (by kernel_rfl) (by kernel_rfl) (by kernel_rfl) (by kernel_rfl) (fun _ _ _ h => h) hS (by rfl) (by intro w' hSw; obtain ⟨y0, y1, y2, y3⟩ := hSw; go_simp <;> with_reducible rfl) ?_
    simp only [Act.put, List.setIfInBounds_toArray, List.set_cons_zero, List.set_cons_succ]
    refine wpAnyL_take (i := 6) 50 (v := .pointer (some ⟨g, j * 3, none⟩)) rfl rfl (by kernel_rfl) (by kernel_rfl) (by kernel_rfl) (by kernel_rfl) (by kernel_rfl) (by kernel_rfl) (fun _ _ _ h => h) hS (by rfl) (by intro w' hSw; obtain ⟨y0, y1, y2, y3⟩ := hSw; go_simp <;> with_reducible rfl) ?_
    simp only [Act.put, List.setIfInBounds_toArray, List.set_cons_zero, List.set_cons_succ]
    refine wpAnyL_one (i := 7) (by kernel_rfl) rfl (fun Ka hKa => ?_)
    go_simp
    refine hKa.out _ _ (fun h => absurd h (Bool.eq_false_iff.1 (by kernel_rfl))) ?_
    clear hKa Ka
    refine wpAnyL_done (by kernel_rfl) ?_ _
    go_wp2
    go_end0
    refine ⟨rfl, ?_⟩
    rw [HPut.out]
    have f3 := sset3g_fr Wd g (j * 3) (.int .i64 a.k) (.int .i64 a.n) (.string a.s)
    have hne := HT3.out.ne
    have f1 : Fr w Wd (fun k => k = p ∨ (Value.slice (some ⟨g, 0, none⟩) L.length c).ownBlock = some k) := Fr.ofBelow (HB2.out.trans (bd.mono HB2.out.size)) _
    refine ⟨_, ⟨(f3.block p HT3.out.lt (fun e => hne (by rw [e]; rfl))).trans HT3.out.box, HT3.out.low, HT3.out.row.set j hlt a⟩, f1.trans f3 (fun k _ e => .inr (by rw [e]; rfl)), Row.refl _ _⟩
  · have hif : isR L a.k = false := by simpa using hi
    have HPut : Hid (putR L a = L.take (posR L a.k) ++ a :: L.drop (posR L a.k)) := by
      show _ = _
      unfold putR
      rw [if_neg hi]
    rw [hif] at hF
    generalize posR L a.k = j at HPut hF HP
    clear hi hif
    go_upto_region 3 with (go_at_call 43; refine hF.mono ?_; rintro r w1 ⟨rfl, hb1⟩)
    have HT2 : Hid (TA w1 B p v L) := HT1.out.new hb1
    have HZ2 : Hid (w1.heap[q]? = some (.cells #[.int .i64 a.k, .int .i64 a.n, .string a.s] 60 (0, 0))) := (hb1.block q (slt_blk HZ.out)).trans HZ.out
    have HB2 : Hid (Below w.heap.size w w1) := HB.out.trans (hb1.mono HB.out.size)
    obtain ⟨z0, z1, z2, _, _, _⟩ := sbox3 HZ2.out
    clear hF hb1 u0 u1 u2
    go_upto_region 2 with (fail)
    obtain ⟨ao, c, rfl, hcap, hg⟩ := HT2.out.row.shape
    obtain ⟨Wd, hWd⟩ : ∃ Wd, w1.drew = Wd := ⟨_, rfl⟩
    have bd : Below w1.heap.size w1 Wd := by rw [← hWd]; exact Below.drew (Below.refl _ _)
    have HT3 : Hid (TA Wd B p (.slice ao L.length c) L) := HT2.out.new bd
    have c0 := HT3.out.c0
    have HZ3 : Wd.heap[q]? = some (.cells #[.int .i64 a.k, .int .i64 a.n, .string a.s] 60 (0, 0)) := (bd.block q (slt_blk HZ2.out)).trans HZ2.out
    obtain ⟨y0, y1, y2, _, _, _⟩ := sbox3 HZ3
    refine wp_calmS ?_
    refine wp_region_L [11] (fun w' : World => w'.cell? ⟨p, 0, none⟩ = some (.slice ao L.length c) ∧ w'.cell? ⟨q, 0, none⟩ = some (.int .i64 a.k) ∧ w'.cell? ⟨q, 1, none⟩ = some (.int .i64 a.n) ∧ w'.cell? ⟨q, 2, none⟩ = some (.string a.s)) (by kernel_rfl) ?_
    rw [hWd]
    have hS : (fun w' : World => w'.cell? ⟨p, 0, none⟩ = some (.slice ao L.length c) ∧ w'.cell? ⟨q, 0, none⟩ = some (.int .i64 a.k) ∧ w'.cell? ⟨q, 1, none⟩ = some (.int .i64 a.n) ∧ w'.cell? ⟨q, 2, none⟩ = some (.string a.s)) Wd := ⟨c0, y0, y1, y2⟩
    refine wpAnyL_take (i := 0) 13 (v := .pointer (some ⟨p, 0, none⟩)) rfl rfl (by kernel_rfl) (by kernel_rfl) (by kernel_rfl) (by kernel_rfl) (by kernel_rfl) (by kernel_rfl) (fun _ _ _ h => h) hS (by rfl) (by intro w' hSw; obtain ⟨y0, y1, y2, y3⟩ := hSw; go_simp <;> with_reducible rfl) ?_
    simp only [Act.put, List.setIfInBounds_toArray, List.set_cons_zero, List.set_cons_succ]
    refine wpAnyL_take (i := 1) 14 (v := .pointer (some ⟨p, 0, none⟩)) rfl rfl (by kernel_rfl) (by kernel_rfl) (by kernel_rfl) (by kernel_rfl) (by kernel_rfl) (by kernel_rfl) (fun _ _ _ h => h) hS (by rfl) (by intro w' hSw; obtain ⟨y0, y1, y2, y3⟩ := hSw; go_simp <;> with_reducible rfl) ?_
    simp only [Act.put, List.setIfInBounds_toArray, List.set_cons_zero, List.set_cons_succ]
    refine wpAnyL_take (i := 2) 15 (v := .pointer (some ⟨p, 0, none⟩)) rfl rfl (by kernel_rfl) (by kernel_rfl) (by kernel_rfl) (by kernel_rfl) (by kernel_rfl) (by kernel_rfl) (fun _ _ _ h => h) hS (by rfl) (by intro w' hSw; obtain ⟨y0, y1, y2, y3⟩ := hSw; go_simp <;> with_reducible rfl) ?_
    simp only [Act.put, List.setIfInBounds_toArray, List.set_cons_zero, List.set_cons_succ]
    refine wpAnyL_take (i := 3) 16 (v := .pointer (some ⟨p, 0, none⟩)) rfl rfl (by kernel_rfl) (by kernel_rfl) (by kernel_rfl) (by kernel_rfl) (by kernel_rfl) (by kernel_rfl) (fun _ _ _ h => h) hS (by rfl) (by intro w' hSw; obtain ⟨y0, y1, y2, y3⟩ := hSw; go_simp <;> with_reducible rfl) ?_
    simp only [Act.put, List.setIfInBounds_toArray, List.set_cons_zero, List.set_cons_succ]
    refine wpAnyL_take (i := 4) 17 (v := .slice ao L.length c) rfl rfl (by kernel_rfl) (by kernel_rfl) (by kernel_rfl) (by kernel_rfl) (by kernel_rfl) (by kernel_rfl) (fun _ _ _ h => h) hS (by rfl) (by intro w' hSw; obtain ⟨y0, y1, y2, y3⟩ := hSw; go_simp <;> with_reducible rfl) ?_
    simp only [Act.put, List.setIfInBounds_toArray, List.set_cons_zero, List.set_cons_succ]
    refine wpAnyL_take (i := 5) 18 (v := .int .i64 j) rfl rfl (by kernel_rfl) (by kernel_rfl) (by kernel_rfl) (by kernel_rfl) (by kernel_rfl) (by kernel_rfl) (fun _ _ _ h => h) hS (by rfl) (by intro w' hSw; obtain ⟨y0, y1, y2, y3⟩ := hSw; go_simp <;> with_reducible rfl) ?_
    simp only [Act.put, List.setIfInBounds_toArray, List.set_cons_zero, List.set_cons_succ]
    refine wpAnyL_take (i := 6) 19 (v := .agg #[.int .i64 a.k, .int .i64 a.n, .string a.s]) rfl rfl (by kernel_rfl) (by kernel_rfl) (by kernel_rfl) (by kernel_rfl) (by kernel_rfl) (by kernel_rfl) (fun _ _ _ h => h) hS (by rfl) (by intro w' hSw; obtain ⟨y0, y1, y2, y3⟩ := hSw; go_simp <;> with_reducible rfl) ?_
    simp only [Act.put, List.setIfInBounds_toArray, List.set_cons_zero, List.set_cons_succ]
    refine wpAnyL_one (i := 7) (by kernel_rfl) rfl (fun Ka hKa => ?_)
    go_simp
    generalize hX : World.alloc _ _ = X
    have bx : Below Wd.heap.size Wd X := by rw [← hX]; exact sone_new _ _
    have hXn : X.heap[Wd.heap.size]? = some (.cells #[.int .i64 a.k, .int .i64 a.n, .string a.s] 60 (0, 0)) := by rw [← hX]; exact heap_alloc_new _ _
    have HT4 : Hid (TA X B p (.slice ao L.length c) L) := HT3.out.new bx
    have hS4 : (fun w' : World => w'.cell? ⟨p, 0, none⟩ = some (.slice ao L.length c) ∧ w'.cell? ⟨q, 0, none⟩ = some (.int .i64 a.k) ∧ w'.cell? ⟨q, 1, none⟩ = some (.int .i64 a.n) ∧ w'.cell? ⟨q, 2, none⟩ = some (.string a.s)) X := ⟨HT4.out.c0, (bx.cell (p := ⟨q, 0, none⟩) (slt_cell y0)).trans y0, (bx.cell (p := ⟨q, 1, none⟩) (slt_cell y1)).trans y1, (bx.cell (p := ⟨q, 2, none⟩) (slt_cell y2)).trans y2⟩
    refine hKa.out _ _ (fun _ => hS4) ?_
    clear hKa Ka
    try simp only [Act.put, List.setIfInBounds_toArray, List.set_cons_zero, List.set_cons_succ]
    have hI := insert_any (vb := Wd.heap.size) HT4.out.row j HP.out HT4.out.base hl hXn (fun e => by have := (HT3.out.row.lt _ e).2; omega)
    have HXl : Hid (Below w.heap.size w X) := HB2.out.trans ((bd.mono HB2.out.size).trans (bx.mono (by have := HB2.out.size; have := bd.size; omega)))
    generalize hvb : Wd.heap.size = vb at hI ⊢
    clear hX bx hXn hvb
    refine wpAnyL_one (i := 8) (by kernel_rfl) rfl (fun Ka hKa => ?_)
    go_simp
    refine Calls.mono hI ?_
    rintro r X2 ⟨v2, rfl, hrow, hf2, hrw⟩
    generalize L.take j ++ a :: L.drop j = M at hrow HPut
    have hpo : ¬ (Value.slice ao L.length c).ownBlock = some p := HT4.out.ne
    have hqo : ¬ (Value.slice ao L.length c).ownBlock = some q := fun e => by have h1 := HQ.out q e; have h2 := HE.out; omega
    have c4 : X2.cell? ⟨p, 0, none⟩ = some (.slice ao L.length c) := sfr_cell hf2 hpo HT4.out.c0
    have hS5 : (fun w' : World => w'.cell? ⟨p, 0, none⟩ = some (.slice ao L.length c) ∧ w'.cell? ⟨q, 0, none⟩ = some (.int .i64 a.k) ∧ w'.cell? ⟨q, 1, none⟩ = some (.int .i64 a.n) ∧ w'.cell? ⟨q, 2, none⟩ = some (.string a.s)) X2 := ⟨c4, sfr_cell hf2 hqo hS4.2.1, sfr_cell hf2 hqo hS4.2.2.1, sfr_cell hf2 hqo hS4.2.2.2⟩
    have hfz : X2.frozen? ⟨p, 0, none⟩ = false := by
      have := (hf2.block p HT4.out.lt hpo).trans HT4.out.box
      simp [World.frozen?, this]
    obtain ⟨ao2, c2, rfl, _, _⟩ := hrow.shape
    refine hKa.out _ _ (fun _ => hS5) ?_
    clear hKa Ka
    try simp only [Act.put, List.setIfInBounds_toArray, List.set_cons_zero, List.set_cons_succ]
    refine wpAnyL_take (i := 9) 22 (v := .pointer (some ⟨p, 0, none⟩)) rfl rfl (by kernel_rfl) (by kernel_rfl) (by kernel_rfl) (by kernel_rfl) (by kernel_rfl) (by kernel_rfl) (fun _ _ _ h => h) hS5 (by rfl) (by intro w' hSw; obtain ⟨y0, y1, y2, y3⟩ := hSw; go_simp <;> with_reducible rfl) ?_
    simp only [Act.put, List.setIfInBounds_toArray, List.set_cons_zero, List.set_cons_succ]
    refine wpAnyL_take (i := 10) 23 (v := .pointer (some ⟨p, 0, none⟩)) rfl rfl (by kernel_rfl) (by kernel_rfl) (by kernel_rfl) (by kernel_rfl) (by kernel_rfl) (by kernel_rfl) (fun _ _ _ h => h) hS5 (by rfl) (by intro w' hSw; obtain ⟨y0, y1, y2, y3⟩ := hSw; go_simp <;> with_reducible rfl) ?_
    simp only [Act.put, List.setIfInBounds_toArray, List.set_cons_zero, List.set_cons_succ]
    refine wpAnyL_one (i := 11) (by kernel_rfl) rfl (fun Ka hKa => ?_)
    go_simp
    refine hKa.out _ _ (fun h => absurd h (Bool.eq_false_iff.1 (by kernel_rfl))) ?_
    clear hKa Ka
    refine wpAnyL_done (by kernel_rfl) ?_ _
    go_wp2
    go_end0
    refine ⟨rfl, ?_⟩
    rw [HPut.out]
    have hbx : X2.heap[p]? = some (.cells #[.slice ao L.length c] 58 (0, 0)) := (hf2.block p HT4.out.lt hpo).trans HT4.out.box
    have f4 : Fr w X2 (fun k => k = p ∨ (Value.slice ao L.length c).ownBlock = some k) := (Fr.ofBelow HXl.out _).trans hf2 (fun k _ e => .inr e)
    have f5 := Fr.setCell (S := fun k => k = p) X2 ⟨p, 0, none⟩ (.slice ao2 M.length c2) rfl
    have hrp : ∀ k, (Value.slice ao2 M.length c2).ownBlock = some k → ¬ k = p := fun k hk e => by
      subst e
      obtain ⟨_, cc, ff, ht⟩ := srow_tag hrow hk
      rw [hbx] at ht
      simp at ht
    refine ⟨_, ⟨sblk_set (i := 0) _ hbx, HT4.out.low, hrow.kept f5 hrp⟩, f4.trans f5 (fun k _ e => .inl e), ?_⟩
    rcases hrw with hrw | ⟨gg, hrw, hgg⟩
    · exact .inl hrw
    · exact .inr ⟨gg, hrw, Nat.le_trans HXl.out.size hgg⟩
end Go.Proofs.Ytdnakakichblgaa
