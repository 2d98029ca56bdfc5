/- The document's disk: a change where no plan is laid; Sync. -/
import Derived.Test.YthpojidkmmflhaaRfNow
namespace Go.Proofs.Ythpojidkmmflhaa
open Go.RowKit Go.Maps
attribute [local go_sem] Oper.semAt_some
theorem infoRC : (Try.prog.info? 66).map (fun i => (i.zero, i.size, i.bytes)) = some (some (.agg #[.int .i64 0, .string (str []), .string (str []), .string (str [])]), 4, 56) := by kernel_rfl
theorem ch_fin {w : World} {v : Value} {L : List Chg} {c : Chg} {n B : Nat} (hn : L.length = n) (ho : w.ownsRow B 66 4 v (0 + n + 1) (([] ++ L.flatMap chCells) ++ [.int .i64 c.k, .string (str c.nm), .string (str c.to), .string (str c.s)])) : ChAt w v (L ++ [c]) := by
  have hlen : (L ++ [c]).length = 0 + n + 1 := by rw [List.length_append, hn]; simp
  have hcs : (L ++ [c]).flatMap chCells = ([] ++ L.flatMap chCells) ++ [.int .i64 c.k, .string (str c.nm), .string (str c.to), .string (str c.s)] := by
    rw [List.flatMap_append]
    simp [chCells]
  unfold ChAt
  rw [hlen, hcs]
  refine ⟨ho.1, ?_⟩
  rcases ho.2 with h | ⟨g, cap, cur, h1, _, h3⟩
  · exact .inl h
  · exact .inr ⟨g, cap, cur, h1, Nat.zero_le _, h3⟩
theorem size_rd : (Try.prog.info? 30).map (·.size) = some 5 := by kernel_rfl
theorem set5 {w : World} {g : Nat} {c0 c1 c2 c3 c4 : Value} {t : TypeId} (x0 x1 x2 x3 x4 : Value) (h : w.heap[g]? = some (.cells #[c0, c1, c2, c3, c4] t (0, 0))) : (((((w.setCell ⟨g, 0, none⟩ x0).setCell ⟨g, 1, none⟩ x1).setCell ⟨g, 2, none⟩ x2).setCell ⟨g, 3, none⟩ x3).setCell ⟨g, 4, none⟩ x4).heap[g]? = some (.cells #[x0, x1, x2, x3, x4] t (0, 0)) := by
  have h1 : (w.setCell ⟨g, 0, none⟩ x0).heap[g]? = some (.cells #[x0, c1, c2, c3, c4] t (0, 0)) := blk_set x0 h
  have h2 : ((w.setCell ⟨g, 0, none⟩ x0).setCell ⟨g, 1, none⟩ x1).heap[g]? = some (.cells #[x0, x1, c2, c3, c4] t (0, 0)) := blk_set x1 h1
  have h3 : (((w.setCell ⟨g, 0, none⟩ x0).setCell ⟨g, 1, none⟩ x1).setCell ⟨g, 2, none⟩ x2).heap[g]? = some (.cells #[x0, x1, x2, c3, c4] t (0, 0)) := blk_set x2 h2
  have h4 : ((((w.setCell ⟨g, 0, none⟩ x0).setCell ⟨g, 1, none⟩ x1).setCell ⟨g, 2, none⟩ x2).setCell ⟨g, 3, none⟩ x3).heap[g]? = some (.cells #[x0, x1, x2, x3, c4] t (0, 0)) := blk_set x3 h3
  exact blk_set x4 h4
theorem set5_fr (w : World) (g : Nat) (x0 x1 x2 x3 x4 : Value) : Fr w (((((w.setCell ⟨g, 0, none⟩ x0).setCell ⟨g, 1, none⟩ x1).setCell ⟨g, 2, none⟩ x2).setCell ⟨g, 3, none⟩ x3).setCell ⟨g, 4, none⟩ x4) (fun k => k = g) :=
  ((((Fr.setCell (S := fun k => k = g) w ⟨g, 0, none⟩ x0 rfl).trans (Fr.setCell (S := fun k => k = g) _ ⟨g, 1, none⟩ x1 rfl) (fun _ _ h => h)).trans (Fr.setCell (S := fun k => k = g) _ ⟨g, 2, none⟩ x2 rfl) (fun _ _ h => h)).trans (Fr.setCell (S := fun k => k = g) _ ⟨g, 3, none⟩ x3 rfl) (fun _ _ h => h)).trans (Fr.setCell (S := fun k => k = g) _ ⟨g, 4, none⟩ x4 rfl) (fun _ _ h => h)
theorem fro5 {w : World} {g : Nat} {cs : Array Value} {t : TypeId} (h : w.heap[g]? = some (.cells cs t (0, 0))) (i : Nat) : w.frozen? ⟨g, i, none⟩ = false := by simp [World.frozen?, h]
section
variable {w : World} {sv lv pv dv : Value} {A : Dk} {M : Nat} {nn : Int}
set_option maxRecDepth 100000 in
set_option maxHeartbeats 4000000 in
theorem rsync_any {ap : Option Addr} {np kp : Nat} {db : Bool} (hF : FlAt w sv A.sure) (hC : ChAt w lv A.loose) (hok : ∀ c ∈ A.loose, c.okR) (hbd : BdA A M) (hv : ∃ a m c, sv = .slice a m c) (hl : ∃ a m c, lv = .slice a m c) : Calls Try.prog 12 #[.agg #[sv, lv, .int .i64 nn, .slice ap np kp, .bool db]] w fun r w' => ∃ v', r = .returned (.agg #[v', .slice none 0 0, .int .i64 nn, .slice ap np kp, .bool db]) ∧ FlAt w' v' A.now ∧ Below w.heap.size w w' := by
  have HNow : Hid (∀ W, Below w.heap.size w W → Calls Try.prog 15 #[.agg #[sv, lv, .int .i64 nn, .slice ap np kp, .bool db]] W fun r w' => ∃ v', r = .returned v' ∧ FlAt w' v' A.now ∧ Below W.heap.size W w') := fun W hb => now_any (row_new hF hb) (row_new hC hb) hok hbd
  obtain ⟨sa, sm, sc, rfl⟩ := hv
  obtain ⟨la, lm, lc, rfl⟩ := hl
  clear hF hC hok hbd
  go_enter Try.func12, Try.ntmps12
  go_upto_region 1 with (fail)
  generalize hW : World.alloc _ _ = W
  have hB : Below w.heap.size w W := by rw [← hW]; exact (one_newD _ _).trans ((one_newD _ _).mono (by simp))
  have hQ : W.heap[w.heap.size]? = some (.cells #[.slice sa sm sc, .slice la lm lc, .int .i64 nn, .slice ap np kp, .bool db] 30 (0, 0)) := by rw [← hW]; exact ((one_newD _ _).block _ (by simp)).trans (heap_alloc_new _ _)
  have hR : W.heap[w.heap.size + 1]? = some (.cells #[.slice none 0 0, .slice none 0 0, .int .i64 0, .slice none 0 0, .bool false] 30 (0, 0)) := by
    have e : w.heap.size + 1 = (w.alloc (.cells #[.slice sa sm sc, .slice la lm lc, .int .i64 nn, .slice ap np kp, .bool db] 30)).heap.size := by simp
    rw [← hW, e]
    exact heap_alloc_new _ _
  have hNow := HNow.out W hB
  obtain ⟨c0, c1, c2, c3, c4⟩ := box5 hQ
  have HB : Hid (Below w.heap.size w W) := hB
  have HQ : Hid _ := hQ
  have HR : Hid _ := hR
  clear hW hB hQ hR HNow
  obtain ⟨q, hq⟩ : ∃ q, w.heap.size = q := ⟨_, rfl⟩
  have HWq : Hid (w.heap.size = q) := hq
  rw [hq] at HQ HR c0 c1 c2 c3 c4 ⊢
  clear hq
  go_upto_region 2 with (go_at_call 15; refine hNow.mono ?_; rintro r w1 ⟨v1, rfl, m1, hb1⟩; have hq1 := (hb1.block q (lt_blk HQ.out)).trans HQ.out; have hr1 := (hb1.block (q + 1) (lt_blk HR.out)).trans HR.out; obtain ⟨a1, k1, rfl, _, _⟩ := fl_shape m1; obtain ⟨d0, d1, d2, d3, d4⟩ := box5 hq1; have g0 := fro5 hq1 0; have g1 := fro5 hq1 1; have HM1 : Hid _ := m1; have HB1 : Hid (Below W.heap.size W w1) := hb1; have HQ1 : Hid _ := hq1; have HR1 : Hid _ := hr1; clear m1 hb1 hq1 hr1)
  generalize hW2 : World.setCell _ _ _ = W2
  have q2 : W2.heap[q]? = some (.cells #[.slice a1 A.now.length k1, .slice none 0 0, .int .i64 nn, .slice ap np kp, .bool db] 30 (0, 0)) := by rw [← hW2]; exact blk_set (i := 1) _ (blk_set (i := 0) _ HQ1.out)
  have fs : Fr w1 W2 (fun k => k = q) := by rw [← hW2]; exact (Fr.setCell (S := fun k => k = q) _ ⟨q, 0, none⟩ _ rfl).trans (Fr.setCell (S := fun k => k = q) _ ⟨q, 1, none⟩ _ rfl) (fun _ _ h => h)
  have r2 := (fs.block (q + 1) (lt_blk HR1.out) (by omega)).trans HR1.out
  have hqw := HWq.out
  have HBB : Hid (Below w.heap.size w W2) := by
    have b1 := HB.out.trans (HB1.out.mono HB.out.size)
    exact b1.trans (Fr.below fs b1.size (fun k e => by omega))
  have HM2 : Hid (FlAt W2 (.slice a1 A.now.length k1) A.now) := row_keep HM1.out fs (fun k hk e => by
    subst e
    obtain ⟨_, cc, ff, hh⟩ := row_tag HM1.out hk
    rw [HQ1.out] at hh
    cases hh)
  obtain ⟨e0, e1, e2, e3, e4⟩ := box5 q2
  obtain ⟨x0, x1, x2, x3, x4⟩ := box5 r2
  have y0 := fro5 r2 0
  have y1 := fro5 r2 1
  have y2 := fro5 r2 2
  have y3 := fro5 r2 3
  have y4 := fro5 r2 4
  have HR2 : Hid _ := r2
  clear hW2 q2 r2 fs hqw d0 d1 d2 d3 d4 g0 g1 c0 c1 c2 c3 c4 HM1 HQ1 HR1 HQ HR HB1
  go_wp2
  refine bodyPost_ret (v := .agg #[.slice a1 A.now.length k1, .slice none 0 0, .int .i64 nn, .slice ap np kp, .bool db]) (results_cell_row Try.results12 _ _ (q + 1) 30 _ (0, 0) _ rfl (set5 _ _ _ _ _ HR2.out) Try.underlying30 rfl size_rd) rfl ?_
  have f5 := set5_fr W2 (q + 1) (.slice a1 A.now.length k1) (.slice none 0 0) (.int .i64 nn) (.slice ap np kp) (.bool db)
  refine ⟨_, rfl, row_keep HM2.out f5 (fun k hk e => ?_), HBB.out.trans (Fr.below f5 HBB.out.size (fun k e => by have := HWq.out; omega))⟩
  subst e
  obtain ⟨_, cc, ff, hh⟩ := row_tag HM2.out hk
  rw [HR2.out] at hh
  cases hh
/-- The box with the new row of changes. -/
theorem do_end {Wd w4 : World} {q1 q3 n0 cp m1 k1 : Nat} {ao a1 : Option Addr} {s0 x2 x3 x4 : Value} {L : List Chg} {cz : Array Value} (q14 : w4.heap[q1]? = some (.cells #[s0, .slice ao n0 cp, x2, x3, x4] 30 (0, 0))) (q34 : w4.heap[q3]? = some (.cells cz 30 (0, 0))) (hO : ChAt w4 (.slice a1 m1 k1) L) (hB4 : Below Wd.heap.size Wd w4) (hB : Below w.heap.size w Wd) (h13 : w.heap.size ≤ q1 ∧ q3 ≠ q1) :
    (w4.setCell ⟨q1, 1, none⟩ (.slice a1 m1 k1)).heap[q1]? = some (.cells #[s0, .slice a1 m1 k1, x2, x3, x4] 30 (0, 0)) ∧ (w4.setCell ⟨q1, 1, none⟩ (.slice a1 m1 k1)).heap[q3]? = some (.cells cz 30 (0, 0)) ∧ ChAt (w4.setCell ⟨q1, 1, none⟩ (.slice a1 m1 k1)) (.slice a1 m1 k1) L ∧ Below w.heap.size w (w4.setCell ⟨q1, 1, none⟩ (.slice a1 m1 k1)) := by
  have fs : Fr w4 (w4.setCell ⟨q1, 1, none⟩ (.slice a1 m1 k1)) (fun k => k = q1) := Fr.setCell (S := fun k => k = q1) _ ⟨q1, 1, none⟩ _ rfl
  have b := hB.trans (hB4.mono hB.size)
  refine ⟨blk_set (i := 1) _ q14, (fs.block q3 (lt_blk q34) h13.2).trans q34, row_keep hO fs (fun k hk e => ?_), b.trans (Fr.below fs b.size (fun k e => by have := h13.1; omega))⟩
  subst e
  obtain ⟨_, cc, ff, hh⟩ := row_tag hO hk
  rw [q14] at hh
  cases hh
theorem do_keep {w5 : World} {q3 : Nat} {v : Value} {L : List Chg} {c0 c1 c2 c3 c4 x0 x1 x2 x3 x4 : Value} (h3 : w5.heap[q3]? = some (.cells #[c0, c1, c2, c3, c4] 30 (0, 0))) (hO : ChAt w5 v L) (hB : Below w.heap.size w w5) (hq : w.heap.size ≤ q3) : ChAt (((((w5.setCell ⟨q3, 0, none⟩ x0).setCell ⟨q3, 1, none⟩ x1).setCell ⟨q3, 2, none⟩ x2).setCell ⟨q3, 3, none⟩ x3).setCell ⟨q3, 4, none⟩ x4) v L ∧ Below w.heap.size w (((((w5.setCell ⟨q3, 0, none⟩ x0).setCell ⟨q3, 1, none⟩ x1).setCell ⟨q3, 2, none⟩ x2).setCell ⟨q3, 3, none⟩ x3).setCell ⟨q3, 4, none⟩ x4) := by
  have f5 := set5_fr w5 q3 x0 x1 x2 x3 x4
  refine ⟨row_keep hO f5 (fun k hk e => ?_), hB.trans (Fr.below f5 hB.size (fun k e => by omega))⟩
  subst e
  obtain ⟨_, cc, ff, hh⟩ := row_tag hO hk
  rw [h3] at hh
  cases hh
set_option linter.unusedSimpArgs false in
set_option maxRecDepth 100000 in
set_option maxHeartbeats 4000000 in
theorem rdo_any {sa : Option Addr} {sm sc : Nat} {db : Bool} {L : List Chg} {c : Chg} {nk : Nat} (hC : ChAt w lv L) (hl : L.length ≤ 1000000) (hn : nk ≤ 1000000) : Calls Try.prog 29 #[.agg #[.slice sa sm sc, lv, .int .i64 nk, .slice none 0 0, .bool db], .agg #[.int .i64 c.k, .string (str c.nm), .string (str c.to), .string (str c.s)]] w fun r w' => ∃ v', r = .returned (.tuple #[.agg #[.slice sa sm sc, v', .int .i64 ((nk : Int) + 1), .slice none 0 0, .bool db], .int .i64 0]) ∧ ChAt w' v' (L ++ [c]) ∧ Below w.heap.size w w' := by
  obtain ⟨i0, hi, hz0, hz1, hz2⟩ := d_info infoRC
  obtain ⟨ao, cp, rfl, hcp, hg⟩ := ch_shape hC
  have HL : Hid (ChAt w (.slice ao L.length cp) L) := hC
  clear hC hg
  go_enter Try.func29, Try.ntmps29
  go_upto_region 1 with (fail)
  generalize hW : World.alloc _ _ = W
  have s1 := World.size_alloc w (.cells #[.slice sa sm sc, .slice ao L.length cp, .int .i64 nk, .slice none 0 0, .bool db] 30)
  have s2 := World.size_alloc (w.alloc (.cells #[.slice sa sm sc, .slice ao L.length cp, .int .i64 nk, .slice none 0 0, .bool db] 30)) (.cells #[.int .i64 c.k, .string (str c.nm), .string (str c.to), .string (str c.s)] 66)
  have hb1 := one_newD w (.cells #[.slice sa sm sc, .slice ao L.length cp, .int .i64 nk, .slice none 0 0, .bool db] 30)
  have hb2 := one_newD (w.alloc (.cells #[.slice sa sm sc, .slice ao L.length cp, .int .i64 nk, .slice none 0 0, .bool db] 30)) (.cells #[.int .i64 c.k, .string (str c.nm), .string (str c.to), .string (str c.s)] 66)
  have hb3 := one_newD ((w.alloc (.cells #[.slice sa sm sc, .slice ao L.length cp, .int .i64 nk, .slice none 0 0, .bool db] 30)).alloc (.cells #[.int .i64 c.k, .string (str c.nm), .string (str c.to), .string (str c.s)] 66)) (.cells #[.slice none 0 0, .slice none 0 0, .int .i64 0, .slice none 0 0, .bool false] 30)
  have hq1 := heap_alloc_new w (.cells #[.slice sa sm sc, .slice ao L.length cp, .int .i64 nk, .slice none 0 0, .bool db] 30)
  have hq2 := heap_alloc_new (w.alloc (.cells #[.slice sa sm sc, .slice ao L.length cp, .int .i64 nk, .slice none 0 0, .bool db] 30)) (.cells #[.int .i64 c.k, .string (str c.nm), .string (str c.to), .string (str c.s)] 66)
  have hq3 := heap_alloc_new ((w.alloc (.cells #[.slice sa sm sc, .slice ao L.length cp, .int .i64 nk, .slice none 0 0, .bool db] 30)).alloc (.cells #[.int .i64 c.k, .string (str c.nm), .string (str c.to), .string (str c.s)] 66)) (.cells #[.slice none 0 0, .slice none 0 0, .int .i64 0, .slice none 0 0, .bool false] 30)
  have b23 := hb2.trans (hb3.mono hb2.size)
  have bAll := hb1.trans (b23.mono hb1.size)
  have k1 := (b23.block _ (lt_blk hq1)).trans hq1
  have k2 := (hb3.block _ (lt_blk hq2)).trans hq2
  rw [hW] at k1 k2 hq3 bAll
  rw [s1] at k2
  rw [s2, s1] at hq3
  have HB : Hid (Below w.heap.size w W) := bAll
  obtain ⟨q1, e1⟩ : ∃ q1, w.heap.size = q1 := ⟨_, rfl⟩
  obtain ⟨q2, e2⟩ : ∃ q2, w.heap.size + 1 = q2 := ⟨_, rfl⟩
  obtain ⟨q3, e3⟩ : ∃ q3, w.heap.size + 1 + 1 = q3 := ⟨_, rfl⟩
  have HE : Hid (w.heap.size = q1 ∧ w.heap.size + 1 = q2 ∧ w.heap.size + 1 + 1 = q3) := ⟨e1, e2, e3⟩
  have HQ1 : Hid (W.heap[q1]? = some (.cells #[.slice sa sm sc, .slice ao L.length cp, .int .i64 nk, .slice none 0 0, .bool db] 30 (0, 0))) := by rw [← e1]; exact k1
  have HQ2 : Hid (W.heap[q2]? = some (.cells #[.int .i64 c.k, .string (str c.nm), .string (str c.to), .string (str c.s)] 66 (0, 0))) := by rw [← e2]; exact k2
  have HQ3 : Hid (W.heap[q3]? = some (.cells #[.slice none 0 0, .slice none 0 0, .int .i64 0, .slice none 0 0, .bool false] 30 (0, 0))) := by rw [← e3]; exact hq3
  rw [e3, e2, e1]
  clear s1 s2 hb1 hb2 hb3 hq1 hq2 hq3 b23 bAll k1 k2 hW e1 e2 e3
  obtain ⟨c0, c1, c2, c3, c4⟩ := box5 HQ1.out
  have fz := fro5 HQ1.out 2
  obtain ⟨n0, hn0⟩ : ∃ n0, L.length = n0 := ⟨_, rfl⟩
  have HN0 : Hid (L.length = n0) := hn0
  rw [hn0] at c1 HQ1 hcp hl ⊢
  clear hn0
  go_wp2
  go_loop [6] (fun i => i = .int .i64 0) (fun _ => 0)
  case atStart => rfl
  case round =>
    obtain rfl := hrel
    go_upto_region 9 with (fail)
    generalize hV : World.setCell _ _ _ = V
    have v1 : V.heap[q1]? = some (.cells #[.slice sa sm sc, .slice ao n0 cp, .int .i64 ((nk : Int) + 1), .slice none 0 0, .bool db] 30 (0, 0)) := by rw [← hV]; exact blk_set (i := 2) _ HQ1.out
    have fs : Fr W V (fun k => k = q1) := by rw [← hV]; exact Fr.setCell (S := fun k => k = q1) _ ⟨q1, 2, none⟩ _ rfl
    have hE := HE.out
    have v2 := (fs.block q2 (lt_blk HQ2.out) (by omega)).trans HQ2.out
    have v3 := (fs.block q3 (lt_blk HQ3.out) (by omega)).trans HQ3.out
    have bV : Below w.heap.size w V := HB.out.trans (Fr.below fs HB.out.size (fun k e => by omega))
    have bd : Below V.heap.size V V.drew := Below.drew (Below.refl _ _)
    obtain ⟨Wd, hWd⟩ : ∃ Wd, V.drew = Wd := ⟨_, rfl⟩
    rw [hWd] at bd
    have HBd : Hid (Below w.heap.size w Wd) := bV.trans (bd.mono bV.size)
    have HQ1 : Hid (Wd.heap[q1]? = some (.cells #[.slice sa sm sc, .slice ao n0 cp, .int .i64 ((nk : Int) + 1), .slice none 0 0, .bool db] 30 (0, 0))) := (bd.block _ (lt_blk v1)).trans v1
    have HQ2 : Hid (Wd.heap[q2]? = some (.cells #[.int .i64 c.k, .string (str c.nm), .string (str c.to), .string (str c.s)] 66 (0, 0))) := (bd.block _ (lt_blk v2)).trans v2
    have HQ3 : Hid (Wd.heap[q3]? = some (.cells #[.slice none 0 0, .slice none 0 0, .int .i64 0, .slice none 0 0, .bool false] 30 (0, 0))) := (bd.block _ (lt_blk v3)).trans v3
    have HNe13 : Hid (w.heap.size ≤ q1 ∧ q3 ≠ q1) := ⟨by omega, by omega⟩
    have HQ3w : Hid (w.heap.size ≤ q3) := by show _ ≤ _; omega
    have HSrc : Hid (∀ V', Below Wd.heap.size Wd V' → SrcD V' ao n0 (L.flatMap chCells)) := fun V' hb => by
      have hb' := HBd.out.trans (hb.mono HBd.out.size)
      have hr := HL.out
      rw [HN0.out] at hr
      have h1 : V'.ownsRow 0 66 4 (.slice ao n0 cp) n0 (L.flatMap chCells) := by
        have := row_new hr hb'
        rw [HN0.out] at this
        exact this
      have h2 := src_takeD h1 n0 (Nat.le_refl _)
      rw [List.take_of_length_le (by rw [chc_len, HN0.out]; exact Nat.le_refl _)] at h2
      exact h2
    have y1 : Wd.cell? ⟨q1, 1, none⟩ = some (.slice ao n0 cp) := (cell_blk HQ1.out).trans rfl
    obtain ⟨z0, z1, z2, z3⟩ := box4 HQ2.out
    have HBr : Hid (Below Wd.heap.size Wd Wd) := Below.refl _ _
    clear hV v1 v2 v3 fs hE bV bd c0 c1 c2 c3 c4 fz
    refine wp_calmD ?_
    refine wp_region_L [8] (fun w' : World => w'.cell? ⟨q1, 1, none⟩ = some (.slice ao n0 cp) ∧ w'.cell? ⟨q2, 0, none⟩ = some (.int .i64 c.k) ∧ w'.cell? ⟨q2, 1, none⟩ = some (.string (str c.nm)) ∧ w'.cell? ⟨q2, 2, none⟩ = some (.string (str c.to)) ∧ w'.cell? ⟨q2, 3, none⟩ = some (.string (str c.s))) (by kernel_rfl) ?_
    rw [hWd]
    clear hWd
    have hS : (fun w' : World => w'.cell? ⟨q1, 1, none⟩ = some (.slice ao n0 cp) ∧ w'.cell? ⟨q2, 0, none⟩ = some (.int .i64 c.k) ∧ w'.cell? ⟨q2, 1, none⟩ = some (.string (str c.nm)) ∧ w'.cell? ⟨q2, 2, none⟩ = some (.string (str c.to)) ∧ w'.cell? ⟨q2, 3, none⟩ = some (.string (str c.s))) Wd := ⟨y1, z0, z1, z2, z3⟩
    have hSb : ∀ V', Below Wd.heap.size Wd V' → (fun w' : World => w'.cell? ⟨q1, 1, none⟩ = some (.slice ao n0 cp) ∧ w'.cell? ⟨q2, 0, none⟩ = some (.int .i64 c.k) ∧ w'.cell? ⟨q2, 1, none⟩ = some (.string (str c.nm)) ∧ w'.cell? ⟨q2, 2, none⟩ = some (.string (str c.to)) ∧ w'.cell? ⟨q2, 3, none⟩ = some (.string (str c.s))) V' := fun V' hb => ⟨(hb.cell (p := ⟨q1, 1, none⟩) (lt_cellD y1)).trans y1, (hb.cell (p := ⟨q2, 0, none⟩) (lt_cellD z0)).trans z0, (hb.cell (p := ⟨q2, 1, none⟩) (lt_cellD z1)).trans z1, (hb.cell (p := ⟨q2, 2, none⟩) (lt_cellD z2)).trans z2, (hb.cell (p := ⟨q2, 3, none⟩) (lt_cellD z3)).trans z3⟩
    refine wpAnyL_take (i := 1) 53 (v := .pointer (some ⟨q1, 1, none⟩)) rfl rfl (by kernel_rfl) (by kernel_rfl) (by kernel_rfl) (by kernel_rfl) (by kernel_rfl) (by kernel_rfl) (fun _ _ _ h => h) hS (by rfl) (by intro w' hSw; obtain ⟨y1, z0, z1, z2, z3⟩ := hSw; go_simp <;> with_reducible rfl) ?_
    simp only [Act.put, List.setIfInBounds_toArray, List.set_cons_zero, List.set_cons_succ]
    refine wpAnyL_take (i := 2) 54 (v := .slice ao n0 cp) rfl rfl (by kernel_rfl) (by kernel_rfl) (by kernel_rfl) (by kernel_rfl) (by kernel_rfl) (by kernel_rfl) (fun _ _ _ h => h) hS (by rfl) (by intro w' hSw; obtain ⟨y1, z0, z1, z2, z3⟩ := hSw; go_simp <;> with_reducible rfl) ?_
    simp only [Act.put, List.setIfInBounds_toArray, List.set_cons_zero, List.set_cons_succ]
    refine wpAnyL_take (i := 4) 56 (v := .agg #[.int .i64 c.k, .string (str c.nm), .string (str c.to), .string (str c.s)]) rfl rfl (by kernel_rfl) (by kernel_rfl) (by kernel_rfl) (by kernel_rfl) (by kernel_rfl) (by kernel_rfl) (fun _ _ _ h => h) hS (by rfl) (by intro w' hSw; obtain ⟨y1, z0, z1, z2, z3⟩ := hSw; go_simp <;> with_reducible rfl) ?_
    simp only [Act.put, List.setIfInBounds_toArray, List.set_cons_zero, List.set_cons_succ]
    refine wpAnyL_two (i := 0) (j := 5) (by kernel_rfl) rfl rfl (fun K' hK => ?_) (fun K' hK => ?_)
    · go_simp
      have HBa : Hid (Below Wd.heap.size Wd (Wd.alloc (.cells #[] 66))) := HBr.out.trans ((one_newD _ _).mono HBr.out.size)
      refine hK.out _ _ (fun _ => hSb _ HBa.out) ?_
      clear hK K'
      try simp only [Act.put, List.setIfInBounds_toArray, List.set_cons_zero, List.set_cons_succ]
      obtain ⟨qa, hqa⟩ : ∃ qa, Wd.heap.size = qa := ⟨_, rfl⟩
      have HO0 : Hid ((Wd.alloc (.cells #[] 66)).ownsRow Wd.heap.size 66 4 (.slice (some ⟨qa, 0, none⟩) 0 0) 0 []) := by
        show World.ownsRow _ _ _ _ _ _ _
        rw [← hqa]
        exact own_emptyD HBr.out.size
      rw [hqa]
      generalize Wd.alloc (.cells #[] 66) = W1 at HO0 HBa ⊢
      clear hqa
      refine wpAnyL_two (i := 3) (j := 5) (by kernel_rfl) rfl rfl (fun K' hK => ?_) (fun K' hK => ?_)
      · refine stp_appD rfl (.tmp 52) (.tmp 54) 27 66 Try.underlying27 hi hz0 hz1 hz2 rfl (by decide) (by decide) rfl Wd.heap.size (.slice (some ⟨qa, 0, none⟩) 0 0) 0 [] (by simp [Act.eval]) HO0.out (by simp [Act.eval] <;> rfl) (L.flatMap chCells) ?_ (HSrc.out _ HBa.out) (chc_one _) ?_ HBa.out.size ?_
        · rw [chc_len, HN0.out]
        · omega
        intro v1 w3 own1 gr1 at1
        have HO1 : Hid (w3.ownsRow Wd.heap.size 66 4 v1 (0 + n0) ([] ++ L.flatMap chCells)) := own1
        have HB3 : Hid (Below Wd.heap.size Wd w3) := app_belD HBa.out gr1 HO0.out
        clear own1 gr1 at1
        refine hK.out _ _ (fun _ => hSb _ HB3.out) ?_
        clear hK K'
        try simp only [Act.put, List.setIfInBounds_toArray, List.set_cons_zero, List.set_cons_succ]
        refine wpAnyL_one (i := 5) (by kernel_rfl) rfl (fun K' hK => ?_)
        go_simp
        have HCa0 : Hid ((w3.alloc (.cells #[.int .i64 c.k, .string (str c.nm), .string (str c.to), .string (str c.s)] 66)).heap[w3.heap.size]? = some (.cells #[.int .i64 c.k, .string (str c.nm), .string (str c.to), .string (str c.s)] 66 (0, 0))) := heap_alloc_new _ _
        have HBc : Hid (Below Wd.heap.size Wd (w3.alloc (.cells #[.int .i64 c.k, .string (str c.nm), .string (str c.to), .string (str c.s)] 66))) := HB3.out.trans ((one_newD _ _).mono HB3.out.size)
        refine hK.out _ _ (fun _ => hSb _ HBc.out) ?_
        clear hK K'
        try simp only [Act.put, List.setIfInBounds_toArray, List.set_cons_zero, List.set_cons_succ]
        have HO1c : Hid ((w3.alloc (.cells #[.int .i64 c.k, .string (str c.nm), .string (str c.to), .string (str c.s)] 66)).ownsRow Wd.heap.size 66 4 v1 (0 + n0) ([] ++ L.flatMap chCells)) := row_new HO1.out (one_newD _ _)
        obtain ⟨qc, hqc⟩ : ∃ qc, w3.heap.size = qc := ⟨_, rfl⟩
        rw [hqc] at HCa0 ⊢
        generalize w3.alloc (.cells #[.int .i64 c.k, .string (str c.nm), .string (str c.to), .string (str c.s)] 66) = W2 at HCa0 HBc HO1c ⊢
        clear hqc
        have HCa : Hid (W2.heap[qc]? = some (.cells #[.int .i64 c.k, .string (str c.nm), .string (str c.to), .string (str c.s)] 66 (0, 0))) := HCa0.out
        refine wpAnyL_one (i := 6) (by kernel_rfl) rfl (fun K' hK => ?_)
        refine stp_appD rfl (.tmp 55) (.tmp 57) 27 66 Try.underlying27 hi hz0 hz1 hz2 rfl (by decide) (by decide) rfl Wd.heap.size v1 (0 + n0) _ (by simp [Act.eval]) HO1c.out (by simp [Act.eval] <;> rfl) _ ?_ (src_oneD HCa.out) ?_ ?_ HBc.out.size ?_
        · rfl
        · intro u hu
          simp at hu
          rcases hu with rfl | rfl | rfl | rfl <;> rfl
        · omega
        intro v2 w4 own2 gr2 at2
        have HB4 : Hid (Below Wd.heap.size Wd w4) := app_belD HBc.out gr2 HO1c.out
        have HO2 : Hid (ChAt w4 v2 (L ++ [c])) := ch_fin HN0.out own2
        have hsh : ∃ a1 m1 c1, v2 = .slice a1 m1 c1 := by
          rcases own2.2 with ⟨h1, h2⟩ | ⟨g, cap, cur, rfl, _⟩
          · exact ⟨none, 0, 0, h1⟩
          · exact ⟨_, _, _, rfl⟩
        obtain ⟨a1, m1, k1, rfl⟩ := hsh
        have hS4 := hSb _ HB4.out
        have q14 := (HB4.out.block q1 (lt_blk HQ1.out)).trans HQ1.out
        have q34 := (HB4.out.block q3 (lt_blk HQ3.out)).trans HQ3.out
        have e1 : w4.cell? ⟨q1, 1, none⟩ = some (.slice ao n0 cp) := (cell_blk q14).trans rfl
        have f1 : w4.frozen? ⟨q1, 1, none⟩ = false := by simp [World.frozen?, q14]
        clear own2 gr2 at2
        refine hK.out _ _ (fun _ => hS4) ?_
        clear hK K'
        try simp only [Act.put, List.setIfInBounds_toArray, List.set_cons_zero, List.set_cons_succ]
        refine wpAnyL_one (i := 7) (by kernel_rfl) rfl (fun K' hK => ?_)
        go_simp
        refine hK.out _ _ (fun _ => hS4) ?_
        clear hK K'
        try simp only [Act.put, List.setIfInBounds_toArray, List.set_cons_zero, List.set_cons_succ]
        refine wpAnyL_one (i := 8) (by kernel_rfl) rfl (fun K' hK => ?_)
        go_simp
        refine hK.out _ _ (fun h => absurd h (Bool.eq_false_iff.1 (by kernel_rfl))) ?_
        clear hK K'
        refine wpAnyL_done (by kernel_rfl) ?_ _
        have hEnd := do_end (a1 := a1) (m1 := m1) (k1 := k1) q14 q34 HO2.out HB4.out HBd.out HNe13.out
        have HEnd : Hid _ := hEnd
        obtain ⟨w5, hw5⟩ : ∃ w5, w4.setCell ⟨q1, 1, none⟩ (.slice a1 m1 k1) = w5 := ⟨_, rfl⟩
        rw [hw5] at HEnd ⊢
        obtain ⟨r0, r1, r2, r3, r4⟩ := box5 HEnd.out.1
        obtain ⟨x0, x1, x2, x3, x4⟩ := box5 HEnd.out.2.1
        have y0 := fro5 HEnd.out.2.1 0
        have y1 := fro5 HEnd.out.2.1 1
        have y2 := fro5 HEnd.out.2.1 2
        have y3 := fro5 HEnd.out.2.1 3
        have y4 := fro5 HEnd.out.2.1 4
        clear hEnd hw5 e1 f1 q14 q34 hS4
        go_wp2_with (fail)
        refine bodyPost_ret (v := .tuple #[.agg #[.slice sa sm sc, .slice a1 m1 k1, .int .i64 ((nk : Int) + 1), .slice none 0 0, .bool db], .int .i64 0]) (res_ctD Try.results29 _ _ q3 30 _ (0, 0) _ rfl (set5 _ _ _ _ _ HEnd.out.2.1) Try.underlying30 rfl size_rd) rfl ?_
        exact ⟨_, rfl, do_keep HEnd.out.2.1 HEnd.out.2.2.1 HEnd.out.2.2.2 HQ3w.out⟩
      · go_simp
        have HCa0 : Hid ((W1.alloc (.cells #[.int .i64 c.k, .string (str c.nm), .string (str c.to), .string (str c.s)] 66)).heap[W1.heap.size]? = some (.cells #[.int .i64 c.k, .string (str c.nm), .string (str c.to), .string (str c.s)] 66 (0, 0))) := heap_alloc_new _ _
        have HBc : Hid (Below Wd.heap.size Wd (W1.alloc (.cells #[.int .i64 c.k, .string (str c.nm), .string (str c.to), .string (str c.s)] 66))) := HBa.out.trans ((one_newD _ _).mono HBa.out.size)
        refine hK.out _ _ (fun _ => hSb _ HBc.out) ?_
        clear hK K'
        try simp only [Act.put, List.setIfInBounds_toArray, List.set_cons_zero, List.set_cons_succ]
        have HO0c : Hid ((W1.alloc (.cells #[.int .i64 c.k, .string (str c.nm), .string (str c.to), .string (str c.s)] 66)).ownsRow Wd.heap.size 66 4 (.slice (some ⟨qa, 0, none⟩) 0 0) 0 []) := row_new HO0.out (one_newD _ _)
        have HNe : Hid (¬ some qa = some W1.heap.size) := by
          intro e
          have h1 := (HO0.out.lt qa rfl).2
          cases e
          omega
        obtain ⟨qc, hqc⟩ : ∃ qc, W1.heap.size = qc := ⟨_, rfl⟩
        rw [hqc] at HCa0 HNe ⊢
        generalize W1.alloc (.cells #[.int .i64 c.k, .string (str c.nm), .string (str c.to), .string (str c.s)] 66) = W2 at HCa0 HBc HO0c ⊢
        clear hqc
        have HCa : Hid (W2.heap[qc]? = some (.cells #[.int .i64 c.k, .string (str c.nm), .string (str c.to), .string (str c.s)] 66 (0, 0))) := HCa0.out
        refine wpAnyL_one (i := 3) (by kernel_rfl) rfl (fun K' hK => ?_)
        refine stp_appD rfl (.tmp 52) (.tmp 54) 27 66 Try.underlying27 hi hz0 hz1 hz2 rfl (by decide) (by decide) rfl Wd.heap.size (.slice (some ⟨qa, 0, none⟩) 0 0) 0 [] (by simp [Act.eval]) HO0c.out (by simp [Act.eval] <;> rfl) (L.flatMap chCells) ?_ (HSrc.out _ HBc.out) (chc_one _) ?_ HBc.out.size ?_
        · rw [chc_len, HN0.out]
        · omega
        intro v1 w3 own1 gr1 at1
        have HO1 : Hid (w3.ownsRow Wd.heap.size 66 4 v1 (0 + n0) ([] ++ L.flatMap chCells)) := own1
        have HB3 : Hid (Below Wd.heap.size Wd w3) := app_belD HBc.out gr1 HO0c.out
        have HC3 : Hid (w3.heap[qc]? = some (.cells #[.int .i64 c.k, .string (str c.nm), .string (str c.to), .string (str c.s)] 66 (0, 0))) := ((Fr.grown gr1 (S := fun k => some qa = some k) (fun k e => e)).block qc (lt_blk HCa.out) HNe.out).trans HCa.out
        clear own1 gr1 at1
        refine hK.out _ _ (fun _ => hSb _ HB3.out) ?_
        clear hK K'
        try simp only [Act.put, List.setIfInBounds_toArray, List.set_cons_zero, List.set_cons_succ]
        refine wpAnyL_one (i := 6) (by kernel_rfl) rfl (fun K' hK => ?_)
        refine stp_appD rfl (.tmp 55) (.tmp 57) 27 66 Try.underlying27 hi hz0 hz1 hz2 rfl (by decide) (by decide) rfl Wd.heap.size v1 (0 + n0) _ (by simp [Act.eval]) HO1.out (by simp [Act.eval] <;> rfl) _ ?_ (src_oneD HC3.out) ?_ ?_ HB3.out.size ?_
        · rfl
        · intro u hu
          simp at hu
          rcases hu with rfl | rfl | rfl | rfl <;> rfl
        · omega
        intro v2 w4 own2 gr2 at2
        have HB4 : Hid (Below Wd.heap.size Wd w4) := app_belD HB3.out gr2 HO1.out
        have HO2 : Hid (ChAt w4 v2 (L ++ [c])) := ch_fin HN0.out own2
        have hsh : ∃ a1 m1 c1, v2 = .slice a1 m1 c1 := by
          rcases own2.2 with ⟨h1, h2⟩ | ⟨g, cap, cur, rfl, _⟩
          · exact ⟨none, 0, 0, h1⟩
          · exact ⟨_, _, _, rfl⟩
        obtain ⟨a1, m1, k1, rfl⟩ := hsh
        have hS4 := hSb _ HB4.out
        have q14 := (HB4.out.block q1 (lt_blk HQ1.out)).trans HQ1.out
        have q34 := (HB4.out.block q3 (lt_blk HQ3.out)).trans HQ3.out
        have e1 : w4.cell? ⟨q1, 1, none⟩ = some (.slice ao n0 cp) := (cell_blk q14).trans rfl
        have f1 : w4.frozen? ⟨q1, 1, none⟩ = false := by simp [World.frozen?, q14]
        clear own2 gr2 at2
        refine hK.out _ _ (fun _ => hS4) ?_
        clear hK K'
        try simp only [Act.put, List.setIfInBounds_toArray, List.set_cons_zero, List.set_cons_succ]
        refine wpAnyL_one (i := 7) (by kernel_rfl) rfl (fun K' hK => ?_)
        go_simp
        refine hK.out _ _ (fun _ => hS4) ?_
        clear hK K'
        try simp only [Act.put, List.setIfInBounds_toArray, List.set_cons_zero, List.set_cons_succ]
        refine wpAnyL_one (i := 8) (by kernel_rfl) rfl (fun K' hK => ?_)
        go_simp
        refine hK.out _ _ (fun h => absurd h (Bool.eq_false_iff.1 (by kernel_rfl))) ?_
        clear hK K'
        refine wpAnyL_done (by kernel_rfl) ?_ _
        have hEnd := do_end (a1 := a1) (m1 := m1) (k1 := k1) q14 q34 HO2.out HB4.out HBd.out HNe13.out
        have HEnd : Hid _ := hEnd
        obtain ⟨w5, hw5⟩ : ∃ w5, w4.setCell ⟨q1, 1, none⟩ (.slice a1 m1 k1) = w5 := ⟨_, rfl⟩
        rw [hw5] at HEnd ⊢
        obtain ⟨r0, r1, r2, r3, r4⟩ := box5 HEnd.out.1
        obtain ⟨x0, x1, x2, x3, x4⟩ := box5 HEnd.out.2.1
        have y0 := fro5 HEnd.out.2.1 0
        have y1 := fro5 HEnd.out.2.1 1
        have y2 := fro5 HEnd.out.2.1 2
        have y3 := fro5 HEnd.out.2.1 3
        have y4 := fro5 HEnd.out.2.1 4
        clear hEnd hw5 e1 f1 q14 q34 hS4
        go_wp2_with (fail)
        refine bodyPost_ret (v := .tuple #[.agg #[.slice sa sm sc, .slice a1 m1 k1, .int .i64 ((nk : Int) + 1), .slice none 0 0, .bool db], .int .i64 0]) (res_ctD Try.results29 _ _ q3 30 _ (0, 0) _ rfl (set5 _ _ _ _ _ HEnd.out.2.1) Try.underlying30 rfl size_rd) rfl ?_
        exact ⟨_, rfl, do_keep HEnd.out.2.1 HEnd.out.2.2.1 HEnd.out.2.2.2 HQ3w.out⟩
    · go_simp
      have HCa0 : Hid ((Wd.alloc (.cells #[.int .i64 c.k, .string (str c.nm), .string (str c.to), .string (str c.s)] 66)).heap[Wd.heap.size]? = some (.cells #[.int .i64 c.k, .string (str c.nm), .string (str c.to), .string (str c.s)] 66 (0, 0))) := heap_alloc_new _ _
      have HBc : Hid (Below Wd.heap.size Wd (Wd.alloc (.cells #[.int .i64 c.k, .string (str c.nm), .string (str c.to), .string (str c.s)] 66))) := HBr.out.trans ((one_newD _ _).mono HBr.out.size)
      refine hK.out _ _ (fun _ => hSb _ HBc.out) ?_
      clear hK K'
      try simp only [Act.put, List.setIfInBounds_toArray, List.set_cons_zero, List.set_cons_succ]
      obtain ⟨qc, hqc⟩ : ∃ qc, Wd.heap.size = qc := ⟨_, rfl⟩
      rw [hqc] at HCa0 ⊢
      generalize Wd.alloc (.cells #[.int .i64 c.k, .string (str c.nm), .string (str c.to), .string (str c.s)] 66) = W2 at HCa0 HBc ⊢
      clear hqc
      have HCa : Hid (W2.heap[qc]? = some (.cells #[.int .i64 c.k, .string (str c.nm), .string (str c.to), .string (str c.s)] 66 (0, 0))) := HCa0.out
      refine wpAnyL_one (i := 0) (by kernel_rfl) rfl (fun K' hK => ?_)
      go_simp
      have HBa : Hid (Below Wd.heap.size Wd (W2.alloc (.cells #[] 66))) := HBc.out.trans ((one_newD _ _).mono HBc.out.size)
      refine hK.out _ _ (fun _ => hSb _ HBa.out) ?_
      clear hK K'
      try simp only [Act.put, List.setIfInBounds_toArray, List.set_cons_zero, List.set_cons_succ]
      obtain ⟨qa, hqa⟩ : ∃ qa, W2.heap.size = qa := ⟨_, rfl⟩
      have HO0 : Hid ((W2.alloc (.cells #[] 66)).ownsRow Wd.heap.size 66 4 (.slice (some ⟨qa, 0, none⟩) 0 0) 0 []) := by
        show World.ownsRow _ _ _ _ _ _ _
        rw [← hqa]
        exact own_emptyD HBc.out.size
      rw [hqa]
      have HCb : Hid ((W2.alloc (.cells #[] 66)).heap[qc]? = some (.cells #[.int .i64 c.k, .string (str c.nm), .string (str c.to), .string (str c.s)] 66 (0, 0))) := ((one_newD W2 _).block qc (lt_blk HCa.out)).trans HCa.out
      have HNe : Hid (¬ some qa = some qc) := by
        intro e
        have := lt_blk HCa.out
        cases e
        omega
      generalize W2.alloc (.cells #[] 66) = W1 at HO0 HBa HCb ⊢
      clear hqa
      have HCc : Hid (W1.heap[qc]? = some (.cells #[.int .i64 c.k, .string (str c.nm), .string (str c.to), .string (str c.s)] 66 (0, 0))) := HCb.out
      refine wpAnyL_one (i := 3) (by kernel_rfl) rfl (fun K' hK => ?_)
      refine stp_appD rfl (.tmp 52) (.tmp 54) 27 66 Try.underlying27 hi hz0 hz1 hz2 rfl (by decide) (by decide) rfl Wd.heap.size (.slice (some ⟨qa, 0, none⟩) 0 0) 0 [] (by simp [Act.eval]) HO0.out (by simp [Act.eval] <;> rfl) (L.flatMap chCells) ?_ (HSrc.out _ HBa.out) (chc_one _) ?_ HBa.out.size ?_
      · rw [chc_len, HN0.out]
      · omega
      intro v1 w3 own1 gr1 at1
      have HO1 : Hid (w3.ownsRow Wd.heap.size 66 4 v1 (0 + n0) ([] ++ L.flatMap chCells)) := own1
      have HB3 : Hid (Below Wd.heap.size Wd w3) := app_belD HBa.out gr1 HO0.out
      have HC3 : Hid (w3.heap[qc]? = some (.cells #[.int .i64 c.k, .string (str c.nm), .string (str c.to), .string (str c.s)] 66 (0, 0))) := ((Fr.grown gr1 (S := fun k => some qa = some k) (fun k e => e)).block qc (lt_blk HCc.out) HNe.out).trans HCc.out
      clear own1 gr1 at1
      refine hK.out _ _ (fun _ => hSb _ HB3.out) ?_
      clear hK K'
      try simp only [Act.put, List.setIfInBounds_toArray, List.set_cons_zero, List.set_cons_succ]
      refine wpAnyL_one (i := 6) (by kernel_rfl) rfl (fun K' hK => ?_)
      refine stp_appD rfl (.tmp 55) (.tmp 57) 27 66 Try.underlying27 hi hz0 hz1 hz2 rfl (by decide) (by decide) rfl Wd.heap.size v1 (0 + n0) _ (by simp [Act.eval]) HO1.out (by simp [Act.eval] <;> rfl) _ ?_ (src_oneD HC3.out) ?_ ?_ HB3.out.size ?_
      · rfl
      · intro u hu
        simp at hu
        rcases hu with rfl | rfl | rfl | rfl <;> rfl
      · omega
      intro v2 w4 own2 gr2 at2
      have HB4 : Hid (Below Wd.heap.size Wd w4) := app_belD HB3.out gr2 HO1.out
      have HO2 : Hid (ChAt w4 v2 (L ++ [c])) := ch_fin HN0.out own2
      have hsh : ∃ a1 m1 c1, v2 = .slice a1 m1 c1 := by
        rcases own2.2 with ⟨h1, h2⟩ | ⟨g, cap, cur, rfl, _⟩
        · exact ⟨none, 0, 0, h1⟩
        · exact ⟨_, _, _, rfl⟩
      obtain ⟨a1, m1, k1, rfl⟩ := hsh
      have hS4 := hSb _ HB4.out
      have q14 := (HB4.out.block q1 (lt_blk HQ1.out)).trans HQ1.out
      have q34 := (HB4.out.block q3 (lt_blk HQ3.out)).trans HQ3.out
      have e1 : w4.cell? ⟨q1, 1, none⟩ = some (.slice ao n0 cp) := (cell_blk q14).trans rfl
      have f1 : w4.frozen? ⟨q1, 1, none⟩ = false := by simp [World.frozen?, q14]
      clear own2 gr2 at2
      refine hK.out _ _ (fun _ => hS4) ?_
      clear hK K'
      try simp only [Act.put, List.setIfInBounds_toArray, List.set_cons_zero, List.set_cons_succ]
      refine wpAnyL_one (i := 7) (by kernel_rfl) rfl (fun K' hK => ?_)
      go_simp
      refine hK.out _ _ (fun _ => hS4) ?_
      clear hK K'
      try simp only [Act.put, List.setIfInBounds_toArray, List.set_cons_zero, List.set_cons_succ]
      refine wpAnyL_one (i := 8) (by kernel_rfl) rfl (fun K' hK => ?_)
      go_simp
      refine hK.out _ _ (fun h => absurd h (Bool.eq_false_iff.1 (by kernel_rfl))) ?_
      clear hK K'
      refine wpAnyL_done (by kernel_rfl) ?_ _
      have hEnd := do_end (a1 := a1) (m1 := m1) (k1 := k1) q14 q34 HO2.out HB4.out HBd.out HNe13.out
      have HEnd : Hid _ := hEnd
      obtain ⟨w5, hw5⟩ : ∃ w5, w4.setCell ⟨q1, 1, none⟩ (.slice a1 m1 k1) = w5 := ⟨_, rfl⟩
      rw [hw5] at HEnd ⊢
      obtain ⟨r0, r1, r2, r3, r4⟩ := box5 HEnd.out.1
      obtain ⟨x0, x1, x2, x3, x4⟩ := box5 HEnd.out.2.1
      have y0 := fro5 HEnd.out.2.1 0
      have y1 := fro5 HEnd.out.2.1 1
      have y2 := fro5 HEnd.out.2.1 2
      have y3 := fro5 HEnd.out.2.1 3
      have y4 := fro5 HEnd.out.2.1 4
      clear hEnd hw5 e1 f1 q14 q34 hS4
      go_wp2_with (fail)
      refine bodyPost_ret (v := .tuple #[.agg #[.slice sa sm sc, .slice a1 m1 k1, .int .i64 ((nk : Int) + 1), .slice none 0 0, .bool db], .int .i64 0]) (res_ctD Try.results29 _ _ q3 30 _ (0, 0) _ rfl (set5 _ _ _ _ _ HEnd.out.2.1) Try.underlying30 rfl size_rd) rfl ?_
      exact ⟨_, rfl, do_keep HEnd.out.2.1 HEnd.out.2.2.1 HEnd.out.2.2.2 HQ3w.out⟩
end
end Go.Proofs.Ythpojidkmmflhaa
