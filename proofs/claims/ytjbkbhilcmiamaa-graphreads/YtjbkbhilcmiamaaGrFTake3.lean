/- The document's Take. -/
import Derived.Test.YtjbkbhilcmiamaaGrFTake2
import Derived.Test.YtjbkbhilcmiamaaGrTake3
namespace Go.Proofs.Ytjbkbhilcmiamaa
open Go.RowKit
/-- Between two vertices of the document's Take: the reader's box and the result's. -/
structure FT (w wr : World) (s : ByteArray) (x : Nat) (y : Int) : Prop where
  low : Below w.heap.size w wr
  rb : wr.heap[w.heap.size]? = some (.cells #[.string s, .int .i64 x, .int .i64 y] 51 (0, 0))
  qb : wr.heap[w.heap.size + 1]? = some (.cells #[.string ByteArray.empty, .int .i64 0, .int .i64 0] 51 (0, 0))
section
variable {w wr w1 : World} {s : ByteArray} {x : Nat} {y : Int}
theorem FT.new (h : FT w wr s x y) (hb : Below wr.heap.size wr w1) : FT w w1 s x y :=
  ⟨h.low.trans (hb.mono h.low.size), (hb.block _ (lt_of_block h.rb)).trans h.rb, (hb.block _ (lt_of_block h.qb)).trans h.qb⟩
theorem FT.kept (h : FT w wr s x y) {S : Nat → Prop} (f : Fr wr w1 S) (hS : ∀ k, S k → w.heap.size + 1 + 1 ≤ k) : FT w w1 s x y :=
  ⟨h.low.trans (f.below h.low.size (fun k hk => by have := hS k hk; omega)), (f.block _ (lt_of_block h.rb) (fun hk => by have := hS _ hk; omega)).trans h.rb, (f.block _ (lt_of_block h.qb) (fun hk => by have := hS _ hk; omega)).trans h.qb⟩
theorem FT.r0 (h : FT w wr s x y) (x' : Nat) (y' : Int) : FT w (((wr.setCell ⟨w.heap.size, 0, none⟩ (.string s)).setCell ⟨w.heap.size, 1, none⟩ (.int .i64 x')).setCell ⟨w.heap.size, 2, none⟩ (.int .i64 y')) s x' y' :=
  ⟨low_set (low_set (low_set h.low _ (Nat.le_refl _)) _ (Nat.le_refl _)) _ (Nat.le_refl _), set3_2 (set3_1 (set3_0 h.rb _) _) _, blk_set (blk_set (blk_set h.qb (by omega)) (by omega)) (by omega)⟩
theorem FT.rf (h : FT w wr s x y) : wr.cell? ⟨w.heap.size, 0, none⟩ = some (.string s) ∧ wr.cell? ⟨w.heap.size, 1, none⟩ = some (.int .i64 x) ∧ wr.cell? ⟨w.heap.size, 2, none⟩ = some (.int .i64 y) ∧ wr.frozen? ⟨w.heap.size, 0, none⟩ = false ∧ wr.frozen? ⟨w.heap.size, 1, none⟩ = false ∧ wr.frozen? ⟨w.heap.size, 2, none⟩ = false ∧ w.heap.size < wr.heap.size := by
  obtain ⟨a0, a1, a2⟩ := box3 h.rb
  exact ⟨a0, a1, a2, froz h.rb, froz h.rb, froz h.rb, lt_of_block h.rb⟩
theorem fr_r3 (wr : World) (b : Nat) (u0 u1 u2 : Value) : Fr wr (((wr.setCell ⟨b, 0, none⟩ u0).setCell ⟨b, 1, none⟩ u1).setCell ⟨b, 2, none⟩ u2) (fun k => k = b) :=
  ((Fr.setCell (S := fun k => k = b) wr ⟨b, 0, none⟩ u0 rfl).trans (Fr.setCell (S := fun k => k = b) _ ⟨b, 1, none⟩ u1 rfl) (fun _ _ h => h)).trans (Fr.setCell (S := fun k => k = b) _ ⟨b, 2, none⟩ u2 rfl) (fun _ _ h => h)
end
theorem f_three (w : World) (x y z : Obj) : (((w.alloc x).alloc y).alloc z).heap[w.heap.size]? = some x ∧ (((w.alloc x).alloc y).alloc z).heap[w.heap.size + 1]? = some y ∧ Below w.heap.size w (((w.alloc x).alloc y).alloc z) := by
  have h1 : ((w.alloc x).alloc y).heap[w.heap.size + 1]? = some y := by
    have := heap_alloc_new (w.alloc x) y
    rw [World.size_alloc] at this
    exact this
  have b1 := one_new w x
  have b2 := b1.alloc b1.size y
  exact ⟨blk_al _ (blk_al _ (heap_alloc_new _ _)), blk_al _ h1, b2.alloc b2.size z⟩
theorem FT.start (w : World) (s : ByteArray) (a : Nat) (e : Int) (z : Obj) : FT w (((w.alloc (.cells #[.string s, .int .i64 a, .int .i64 e] 51)).alloc (.cells #[.string ByteArray.empty, .int .i64 0, .int .i64 0] 51)).alloc z) s a e :=
  ⟨(f_three w _ _ _).2.2, (f_three w _ _ _).1, (f_three w _ _ _).2.1⟩
theorem f_rc {fn : Func} {p u : Tmp} {ty : TypeId} (h : fn.results = #[.cell p ty, .tmp u]) (tmps : Array Value) (w : World) (g : Nat) (t : TypeId) (cs : Array Value) (d : TypeDesc)
    (hp : tmps.getD p undef = .pointer (some ⟨g, 0, none⟩)) (hg : w.heap[g]? = some (.cells cs t (0, 0)))
    (hu : Try.prog.underlying ty = some d) (hd : ∃ fs, d = .struct fs) (hi : (Try.prog.info? ty).map (·.size) = some cs.size) :
    (results fn tmps).run Try.prog w = .ok (.tuple #[.agg cs, tmps.getD u undef]) w := by
  obtain ⟨fs, rfl⟩ := hd
  rw [results_cell_tmp h, hp]
  have := run_loadVar_row (P := Try.prog) w g t ty cs (0, 0) _ hg hu rfl hi
  simp [asAddr, this]
theorem ftv_to {s : ByteArray} {a x : Nat} {e y : Int} {v : Vx} (w : World) (hs : s.size ≤ maxLen) (ha : a ≤ s.size) (hq : rdV s a e = (v, x, y)) :
    Calls Try.prog 75 #[.agg #[.string s, .int .i64 a, .int .i64 e]] w fun r w' => ∃ eo m ec, r = .returned (.tuple #[.agg #[.string s, .int .i64 x, .int .i64 y], .agg #[.int .i64 v.id, .int .i64 v.val, .slice eo m ec]]) ∧ (y = 0 → m = v.es.length ∧ EdAt w' (fun k => w.heap.size ≤ k) eo v.es) ∧ Below w.heap.size w w' := by
  have := ftakevertex_any (e := e) w hs ha; rw [hq] at this; exact this
theorem gs_bad {s : ByteArray} {n a x x1 j : Nat} {e y1 : Int} {G : List Vx} {v : Vx} (hj : j < n) (h : rdVs s n a e = (G ++ (rdVs s (n - j) x 0).1, (rdVs s (n - j) x 0).2)) (q : rdV s x 0 = (v, x1, y1)) (hy : y1 ≠ 0) : (rdVs s n a e).2 = (x1, y1) := by
  rw [h, show n - j = (n - (j + 1)) + 1 by omega, rdVs_bad q hy]
theorem gs_go {s : ByteArray} {n a x x1 j : Nat} {e : Int} {G : List Vx} {v : Vx} (hj : j < n) (h : rdVs s n a e = (G ++ (rdVs s (n - j) x 0).1, (rdVs s (n - j) x 0).2)) (q : rdV s x 0 = (v, x1, 0)) : rdVs s n a e = ((G ++ [v]) ++ (rdVs s (n - (j + 1)) x1 0).1, (rdVs s (n - (j + 1)) x1 0).2) := by
  rw [h, show n - j = (n - (j + 1)) + 1 by omega, rdVs_go q]
  simp
set_option maxRecDepth 100000 in
set_option maxHeartbeats 1500000 in
theorem ftake_any {s : ByteArray} {a : Nat} {e : Int} (w : World) (hs : s.size ≤ maxLen) (ha : a ≤ s.size) :
    Calls Try.prog 49 #[.agg #[.string s, .int .i64 a, .int .i64 e]] w fun r w' => ∃ bo mm c, r = .returned (.tuple #[.agg #[.string s, .int .i64 (rdG s a e).2.1, .int .i64 (rdG s a e).2.2], .slice bo mm c]) ∧ ((rdG s a e).2.2 = 0 → mm = (rdG s a e).1.length ∧ VxAt w' (fun k => w.heap.size ≤ k) bo (rdG s a e).1) ∧ Below w.heap.size w w' := by
  obtain ⟨i0, hi, hz0, hz1, hz2⟩ := info_parts infoRVx
  obtain ⟨⟨n, a1, e1⟩, h1⟩ : ∃ q, rdCount s a e (256 : Nat) = q := ⟨_, rfl⟩
  have g1 := rdCount_to (most := 256) ha h1
  have HG : Hid (rdGs s a e = rdVs s n a1 e1) := by show _ = _; unfold rdGs; rw [show rdCount s a e 256 = (n, a1, e1) from h1]
  have H1 : Hid _ := h1
  have hn := g1.2.1
  have G1 : Hid _ := g1
  clear h1 g1
  go_enter Try.func49, Try.ntmps49
  have HST : Hid _ := FT.start w s a e (.cells #[] 115)
  have HRW : Hid _ := VRow.empty (w := (w.alloc (.cells #[.string s, .int .i64 a, .int .i64 e] 51)).alloc (.cells #[.string ByteArray.empty, .int .i64 0, .int .i64 0] 51)) (base := w.heap.size + 1 + 1) (t := 115) (by rw [World.size_alloc, World.size_alloc]; omega)
  have HST : Hid _ := FT.start w s a e (.cells #[] 115)
  have HRW : Hid _ := VRow.empty (w := (w.alloc (.cells #[.string s, .int .i64 a, .int .i64 e] 51)).alloc (.cells #[.string ByteArray.empty, .int .i64 0, .int .i64 0] 51)) (base := w.heap.size + 1 + 1) (t := 115) (by rw [World.size_alloc, World.size_alloc]; omega)
  have HST : Hid _ := FT.start w s a e (.cells #[] 115)
  have HRW : Hid _ := VRow.empty (w := (w.alloc (.cells #[.string s, .int .i64 a, .int .i64 e] 51)).alloc (.cells #[.string ByteArray.empty, .int .i64 0, .int .i64 0] 51)) (base := w.heap.size + 1 + 1) (t := 115) (by rw [World.size_alloc, World.size_alloc]; omega)
  have HST : Hid _ := FT.start w s a e (.cells #[] 115)
  have HRW : Hid _ := VRow.empty (w := (w.alloc (.cells #[.string s, .int .i64 a, .int .i64 e] 51)).alloc (.cells #[.string ByteArray.empty, .int .i64 0, .int .i64 0] 51)) (base := w.heap.size + 1 + 1) (t := 115) (by rw [World.size_alloc, World.size_alloc]; omega)
  have HST : Hid _ := FT.start w s a e (.cells #[] 115)
  have HRW : Hid _ := VRow.empty (w := (w.alloc (.cells #[.string s, .int .i64 a, .int .i64 e] 51)).alloc (.cells #[.string ByteArray.empty, .int .i64 0, .int .i64 0] 51)) (base := w.heap.size + 1 + 1) (t := 115) (by rw [World.size_alloc, World.size_alloc]; omega)
  go_upto_region 3 with (go_at_call 74; refine (fct_to (most := 256) _ hs ha (by decide) H1.out).mono ?_; rintro r w1 ⟨rfl, hb1⟩; have hF1 := FT.new HST.out hb1; obtain ⟨c0, c1, c2, c3, c4, c5, c6⟩ := hF1.rf; have HF1 : Hid _ := hF1; clear hF1)
  have hR1 := VRow.new HRW.out hb1
  rw [World.size_alloc, World.size_alloc] at hR1
  generalize hW : World.setCell _ _ _ = W0
  have hF0 : FT w W0 s a1 e1 := by
    rw [← hW]
    exact FT.r0 HF1.out a1 e1
  have hR0 : VRow W0 (w.heap.size + 1 + 1) 115 (.slice (some ⟨w.heap.size + 1 + 1, 0, none⟩) 0 0) [] := by
    rw [← hW]
    exact hR1.kept (fr_r3 _ _ _ _ _) (fun k hk h => by omega)
  have HF0 : Hid _ := hF0
  have HR0 : Hid _ := hR0
  clear hW hF0 hR0 hR1 HF1 hb1 c0 c1 c2 c3 c4 c5 c6 HST HRW
  go_wp2
  go_loopw [4, 6] (fun uu i wr => ∃ (j : Nat) (G : List Vx) (x : Nat) (y : Int) (fo : Option Addr) (m c : Nat), j ≤ n ∧ uu = .slice fo m c ∧ i = .int .i64 j ∧ Hid (x ≤ s.size ∧ (y = 0 → G.length = j ∧ ∀ v ∈ G, v.ok)) ∧ Hid ((y = 0 → rdVs s n a1 e1 = (G ++ (rdVs s (n - j) x 0).1, (rdVs s (n - j) x 0).2)) ∧ (y ≠ 0 → (rdVs s n a1 e1).2 = (x, y))) ∧ Hid (y = 0 → VRow wr (w.heap.size + 1 + 1) 115 (.slice fo m c) G) ∧ FT w wr s x y) (fun _ i _ => n - (intOf i).toNat)
  case atStart =>
    refine ⟨0, [], a1, e1, _, _, _, Nat.zero_le _, rfl, rfl, ⟨G1.out.1, fun _ => ⟨rfl, fun v hv => by cases hv⟩⟩, ⟨fun h => ?_, fun h => ?_⟩, fun _ => HR0.out, HF0.out⟩
    · rw [h]; simp
    · obtain rfl : n = 0 := Nat.eq_zero_of_not_pos (fun hp => h (G1.out.2.2.2 hp))
      rfl
  case round =>
    obtain ⟨j, G, x, y, fo, m, c, hj, rfl, rfl, HX, HS, HR, hF⟩ := hrel
    clear HF0 HR0
    by_cases hy : y = 0
    · subst hy
      by_cases hjn : j < n
      · obtain ⟨⟨v, x1, y1⟩, q1⟩ : ∃ q, rdV s x 0 = q := ⟨_, rfl⟩
        have g1 := rdV_to (e := 0) HX.out.1
        rw [q1] at g1
        have Q1 : Hid _ := q1
        have HXs : Hid (x ≤ s.size) := HX.out.1
        have GG : Hid _ := g1
        have HLg : Hid (G.length = j) := (HX.out.2 (by first | rfl | trivial)).1
        have HGo : Hid (∀ v ∈ G, v.ok) := (HX.out.2 (by first | rfl | trivial)).2
        have HSr : Hid _ := HS.out.1 (by first | rfl | trivial)
        have HRr : Hid (VRow wr (w.heap.size + 1 + 1) 115 (.slice fo m c) G) := HR.out (by first | rfl | trivial)
        obtain ⟨c0, c1, c2, c3, c4, c5, c6⟩ := hF.rf
        have HF : Hid _ := hF
        clear q1 g1 hF HX HS HR
        go_upto_region 7 with (go_at_call 75; refine (ftv_to _ hs (by exact HXs.out) Q1.out).mono ?_; rintro r w1 ⟨eo, em, ec, rfl, hE1, hb1⟩)
        have hF1 := FT.new HF.out hb1
        have hR1 := VRow.new HRr.out hb1
        have hbB := (FT.low HF.out).size
        have lwr := lt_of_block (FT.qb HF.out)
        generalize hW : World.alloc _ _ = W1
        have hF2 : FT w W1 s x 0 := by
          rw [← hW]
          exact (hF1.new (one_new _ _)).new (one_new _ _)
        have hR2 : VRow W1 (w.heap.size + 1 + 1) 115 (.slice fo m c) G := by
          rw [← hW]
          exact (hR1.new (one_new _ _)).new (one_new _ _)
        have hK2 : W1.heap[w1.heap.size]? = some (.cells #[.string s, .int .i64 x1, .int .i64 y1] 51 (0, 0)) := by
          rw [← hW]
          exact blk_al _ (heap_alloc_new _ _)
        have hV2 : W1.heap[w1.heap.size + 1]? = some (.cells #[.int .i64 v.id, .int .i64 v.val, .slice eo em ec] 115 (0, 0)) := by
          rw [← hW]
          have := heap_alloc_new (w1.alloc (.cells #[.string s, .int .i64 x1, .int .i64 y1] 51)) (.cells #[.int .i64 v.id, .int .i64 v.val, .slice eo em ec] 115)
          rw [World.size_alloc] at this
          exact this
        have hE2 : y1 = 0 → em = v.es.length ∧ EdAt W1 (fun k => wr.heap.size ≤ k) eo v.es := fun h => by
          rw [← hW]
          exact ⟨(hE1 h).1, ((hE1 h).2.new (one_new _ _)).new (one_new _ _)⟩
        have l1 := hb1.size
        clear hW hF1 hR1 hE1 hb1 c0 c1 c2 c3 c4 c5 c6
        obtain ⟨c0, c1, c2, c3, c4, c5, c6⟩ := hF2.rf
        obtain ⟨p0, p1, p2⟩ := box3 hK2
        go_upto_region 8 with fail
        generalize hW2 : World.setCell _ _ _ = W2
        have hF3 : FT w W2 s x1 y1 := by
          rw [← hW2]
          exact hF2.r0 x1 y1
        have hR3 : VRow W2 (w.heap.size + 1 + 1) 115 (.slice fo m c) G := by
          rw [← hW2]
          exact hR2.kept (fr_r3 _ _ _ _ _) (fun k hk h => by omega)
        have hV3 : W2.heap[w1.heap.size + 1]? = some (.cells #[.int .i64 v.id, .int .i64 v.val, .slice eo em ec] 115 (0, 0)) := by
          rw [← hW2]
          exact blk_set (blk_set (blk_set hV2 (by omega)) (by omega)) (by omega)
        have hE3 : y1 = 0 → em = v.es.length ∧ EdAt W2 (fun k => wr.heap.size ≤ k) eo v.es := fun h => by
          rw [← hW2]
          exact ⟨(hE2 h).1, (hE2 h).2.kept (fr_r3 _ _ _ _ _) (fun k hk hp => ⟨by omega, hp⟩)⟩
        have HF3 : Hid _ := hF3
        have HR3 : Hid _ := hR3
        have HE3 : Hid _ := hE3
        have HB : Hid (w.heap.size + 1 + 1 ≤ wr.heap.size) := by show _ ≤ _; omega
        have HLt : Hid (∀ k, (Value.slice fo m c).ownBlock = some k → k < wr.heap.size) := fun k hk => (HRr.out.lt k hk).2
        clear hW2 hF2 hR2 hV2 hE2 hK2 c0 c1 c2 c3 c4 c5 c6 p0 p1 p2 hF3 hR3 hE3
        obtain ⟨p0, p1, p2⟩ := box3 hV3
        have lv := lt_of_block hV3
        clear hV3
        by_cases hy1 : y1 = 0
        · subst hy1
          obtain ⟨hem, hEd⟩ := HE3.out (by first | rfl | trivial)
          subst hem
          have hE4 : EdAt (W2.alloc (.cells #[.int .i64 v.id, .int .i64 v.val, .slice eo v.es.length ec] 115)) (fun k => w.heap.size + 1 + 1 ≤ k ∧ (Value.slice fo m c).ownBlock ≠ some k) eo v.es := (hEd.new (one_new _ _)).mono (fun k _ hk => ⟨Nat.le_trans HB.out hk, fun e => by have := HLt.out k e; omega⟩)
          obtain ⟨M, ho, hgo⟩ := (VRow.new HR3.out (one_new W2 (.cells #[.int .i64 v.id, .int .i64 v.val, .slice eo v.es.length ec] 115))).app (ec := ec) hE4
          have HGo2 : Hid _ := hgo
          clear hgo hE4 hEd
          go_wp2_with (at_builtin; refine wpList_append_own_at _ rfl _ _ 64 rfl (w.heap.size + 1 + 1) 115 i0 (.agg #[.int .i64 0, .int .i64 0, .slice none 0 0]) 3 40 Try.underlying64 hi hz0 hz1 hz2 rfl (by decide) _ _ _ rfl ho ⟨W2.heap.size, 0, none⟩ 1 1 [.int .i64 v.id, .int .i64 v.val, .slice eo v.es.length ec] rfl rfl (three_new (heap_alloc_new _ _)) (by intro u hu; simp at hu; rcases hu with rfl | rfl | rfl <;> rfl) (by have := HLg.out; unfold maxLen; omega) (by have := HLg.out; omega) (by have := lt_of_block (FT.qb HF3.out); simp; omega) ?_)
          · intro v' w4 hown' hgrow _ hat
            have hR4 := HGo2.out w4 v' hown' hgrow (by simpa using hat)
            have hF4 := (FT.new HF3.out (one_new W2 (.cells #[.int .i64 v.id, .int .i64 v.val, .slice eo v.es.length ec] 115))).kept (Fr.grown (S := fun k => Value.ownBlock (.slice fo m c) = some k) hgrow (fun k hk => hk)) (fun k hk => (HRr.out.lt k hk).1)
            obtain ⟨ao', m', c', rfl⟩ := own_any hown'
            have HR4 : Hid _ := hR4
            have HF4 : Hid _ := hF4
            clear hR4 hF4 hown' hgrow hat ho p0 p1 p2
            go_wp2
            go_roundw
            case rel =>
              refine ⟨j + 1, G ++ [v], x1, 0, _, _, _, by omega, rfl, by go_num, ⟨GG.out.1, fun _ => ⟨by have := HLg.out; simp; omega, fun z hz => ?_⟩⟩, ⟨fun _ => gs_go hjn HSr.out Q1.out, fun h => absurd rfl h⟩, fun _ => HR4.out, HF4.out⟩
              rcases List.mem_append.1 hz with hz | hz
              · exact HGo.out z hz
              · obtain rfl : z = v := by simpa using hz
                exact GG.out.2.2
            case measure => simp [intOf]; omega
        · obtain ⟨M, hl0, ho, he0⟩ := (VRow.new HR3.out (one_new W2 (.cells #[.int .i64 v.id, .int .i64 v.val, .slice eo em ec] 115))).row
          clear hl0 he0
          go_wp2_with (at_builtin; (refine wpList_append_own_at _ rfl _ _ 64 rfl (w.heap.size + 1 + 1) 115 i0 (.agg #[.int .i64 0, .int .i64 0, .slice none 0 0]) 3 40 Try.underlying64 hi hz0 hz1 hz2 rfl (by decide) _ _ _ rfl ho ⟨W2.heap.size, 0, none⟩ 1 1 [.int .i64 v.id, .int .i64 v.val, .slice eo em ec] rfl rfl (three_new (heap_alloc_new _ _)) (by intro u hu; simp at hu; rcases hu with rfl | rfl | rfl <;> rfl) (by have := HLg.out; unfold maxLen; omega) (by have := HLg.out; omega) (by have := lt_of_block (FT.qb HF3.out); simp; omega) ?_))
          · intro v' w4 hown' hgrow _ hat
            have hF4 := (FT.new HF3.out (one_new W2 (.cells #[.int .i64 v.id, .int .i64 v.val, .slice eo em ec] 115))).kept (Fr.grown (S := fun k => Value.ownBlock (.slice fo m c) = some k) hgrow (fun k hk => hk)) (fun k hk => (HRr.out.lt k hk).1)
            obtain ⟨ao', m', c', rfl⟩ := own_any hown'
            have HF4 : Hid _ := hF4
            clear hF4 hown' hgrow hat ho p0 p1 p2
            go_wp2
            go_roundw
            case rel => exact ⟨j + 1, [], x1, y1, _, _, _, by omega, rfl, by go_num, ⟨GG.out.1, fun h => absurd h hy1⟩, ⟨fun h => absurd h hy1, fun _ => gs_bad hjn HSr.out Q1.out hy1⟩, fun h => absurd h hy1, HF4.out⟩
            case measure => simp [intOf]; omega
      · obtain rfl : j = n := by omega
        have hgs : rdGs s a e = (G, x, 0) := by rw [HG.out, HS.out.1 (by first | rfl | trivial)]; simp [rdVs]
        have HGs : Hid _ := hgs
        obtain ⟨hlg, hgo⟩ := HX.out.2 (by first | rfl | trivial)
        have HGo : Hid (∀ v ∈ G, v.ok) := hgo
        obtain ⟨hm, hVx⟩ := (HR.out (by first | rfl | trivial)).at_
        subst hm
        have HVx : Hid _ := hVx
        have hg256 : G.length ≤ 256 := by omega
        obtain ⟨ch, hch⟩ : ∃ ch, chk G = ch := ⟨_, rfl⟩
        have HCh : Hid _ := hch
        obtain ⟨c0, c1, c2, c3, c4, c5, c6⟩ := hF.rf
        have HF : Hid _ := hF
        clear hgs hlg hgo hVx hch hF HX HS HR
        go_upto_region 11 with (go_at_call 30; refine (refcheck_any c HVx.out (by omega) HGo.out).mono ?_; rintro r w5 ⟨rfl, hb5⟩; rw [HCh.out]; have hF5 := FT.new HF.out hb5; obtain ⟨p0, p1, p2, p3, p4, p5, p6⟩ := hF5.rf; have HF5 : Hid _ := hF5; clear hF5)
        generalize hW : World.setCell _ _ _ = W
        have hF6 : FT w W s x ch := by
          rw [← hW]
          exact ⟨low_set (FT.low HF5.out) _ (Nat.le_refl _), set3_2 (FT.rb HF5.out) _, blk_set (FT.qb HF5.out) (by omega)⟩
        have hV6 : VxAt W (fun k => w.heap.size + 1 + 1 ≤ k) fo G := by
          rw [← hW]
          exact (VxAt.new HVx.out hb5).kept (Fr.setCell (S := fun k => k = w.heap.size) w5 ⟨w.heap.size, 2, none⟩ _ rfl) (fun k _ hp => ⟨by omega, hp⟩)
        clear hW hb5 HF5 p0 p1 p2 p3 p4 p5 p6 c0 c1 c2 c3 c4 c5 c6
        obtain ⟨p0, p1, p2⟩ := box3 hF6.qb
        have p3 := froz (o := 0) hF6.qb
        have p4 := froz (o := 1) hF6.qb
        have p5 := froz (o := 2) hF6.qb
        obtain ⟨c0, c1, c2, c3, c4, c5, c6⟩ := hF6.rf
        have HF6 : Hid _ := hF6
        have HV6 : Hid _ := hV6
        clear hF6 hV6
        go_wp2
        generalize hW2 : World.setCell _ _ _ = W2
        have b1 : W2.heap[w.heap.size + 1]? = some (.cells #[.string s, .int .i64 x, .int .i64 ch] 51 (0, 0)) := by
          rw [← hW2]
          exact set3_2 (set3_1 (set3_0 (FT.qb HF6.out) _) _) _
        have hl2 : Below w.heap.size w W2 := by
          rw [← hW2]
          exact (FT.low HF6.out).trans ((fr_r3 _ _ _ _ _).below (FT.low HF6.out).size (fun k hk => by omega))
        have hV7 : VxAt W2 (fun k => w.heap.size ≤ k) fo G := by
          rw [← hW2]
          exact VxAt.kept HV6.out (fr_r3 _ _ _ _ _) (fun k _ hp => ⟨by omega, by omega⟩)
        refine bodyPost_ret (v := .tuple #[.agg #[.string s, .int .i64 x, .int .i64 ch], .slice fo G.length c]) (f_rc Try.results49 _ _ (w.heap.size + 1) 51 _ _ rfl b1 Try.underlying51 ⟨_, rfl⟩ sizeFR) rfl ?_
        by_cases hc0 : ch = 0
        · subst hc0
          have hrg : rdG s a e = (G, x, 0) := by unfold rdG; rw [HGs.out]; simp [HCh.out]
          rw [hrg]
          first | exact ⟨fo, G.length, c, rfl, fun _ => ⟨rfl, hV7⟩, hl2⟩ | exact ⟨fo, G.length, ⟨c, rfl⟩, fun _ => ⟨rfl, hV7⟩, hl2⟩
        · have hrg : rdG s a e = ([], x, ch) := by have := rdG_chk HGs.out (by rw [HCh.out]; exact hc0); rw [HCh.out] at this; exact this
          rw [hrg]
          first | exact ⟨fo, G.length, c, rfl, fun h => absurd h hc0, hl2⟩ | exact ⟨fo, G.length, ⟨c, rfl⟩, fun h => absurd h hc0, hl2⟩
    · by_cases hjn : j < n
      · have HRG : Hid (rdG s a e = ([], x, y)) := by
          obtain ⟨⟨G', x', y'⟩, hq'⟩ : ∃ q, rdGs s a e = q := ⟨_, rfl⟩
          have h2 : (rdGs s a e).2 = (x, y) := by rw [HG.out]; exact HS.out.2 hy
          rw [hq'] at h2
          cases h2
          exact rdG_bad hq' hy
        have hy0 : (y == 0) = false := by rw [beq_eq_false_iff_ne]; exact hy
        obtain ⟨p0, p1, p2⟩ := box3 hF.qb
        have p3 := froz (o := 0) hF.qb
        have p4 := froz (o := 1) hF.qb
        have p5 := froz (o := 2) hF.qb
        obtain ⟨c0, c1, c2, c3, c4, c5, c6⟩ := hF.rf
        have HF : Hid _ := hF
        clear hF
        go_wp2
        generalize hW : World.setCell _ _ _ = W
        have b1 : W.heap[w.heap.size + 1]? = some (.cells #[.string s, .int .i64 x, .int .i64 y] 51 (0, 0)) := by
          rw [← hW]
          exact set3_2 (set3_1 (set3_0 (FT.qb HF.out) _) _) _
        have hl : Below w.heap.size w W := by
          rw [← hW]
          exact (FT.low HF.out).trans ((fr_r3 _ _ _ _ _).below (FT.low HF.out).size (fun k hk => by omega))
        refine bodyPost_ret (v := .tuple #[.agg #[.string s, .int .i64 x, .int .i64 y], .slice fo m c]) (f_rc Try.results49 _ _ (w.heap.size + 1) 51 _ _ rfl b1 Try.underlying51 ⟨_, rfl⟩ sizeFR) rfl ?_
        rw [HRG.out]
        exact ⟨fo, m, c, rfl, fun h => absurd h hy, hl⟩
      · have HRG : Hid (rdG s a e = ([], x, y)) := by
          obtain ⟨⟨G', x', y'⟩, hq'⟩ : ∃ q, rdGs s a e = q := ⟨_, rfl⟩
          have h2 : (rdGs s a e).2 = (x, y) := by rw [HG.out]; exact HS.out.2 hy
          rw [hq'] at h2
          cases h2
          exact rdG_bad hq' hy
        have hy0 : (y == 0) = false := by rw [beq_eq_false_iff_ne]; exact hy
        obtain ⟨p0, p1, p2⟩ := box3 hF.qb
        have p3 := froz (o := 0) hF.qb
        have p4 := froz (o := 1) hF.qb
        have p5 := froz (o := 2) hF.qb
        obtain ⟨c0, c1, c2, c3, c4, c5, c6⟩ := hF.rf
        have HF : Hid _ := hF
        clear hF
        go_wp2
        generalize hW : World.setCell _ _ _ = W
        have b1 : W.heap[w.heap.size + 1]? = some (.cells #[.string s, .int .i64 x, .int .i64 y] 51 (0, 0)) := by
          rw [← hW]
          exact set3_2 (set3_1 (set3_0 (FT.qb HF.out) _) _) _
        have hl : Below w.heap.size w W := by
          rw [← hW]
          exact (FT.low HF.out).trans ((fr_r3 _ _ _ _ _).below (FT.low HF.out).size (fun k hk => by omega))
        refine bodyPost_ret (v := .tuple #[.agg #[.string s, .int .i64 x, .int .i64 y], .slice fo m c]) (f_rc Try.results49 _ _ (w.heap.size + 1) 51 _ _ rfl b1 Try.underlying51 ⟨_, rfl⟩ sizeFR) rfl ?_
        rw [HRG.out]
        exact ⟨fo, m, c, rfl, fun h => absurd h hy, hl⟩
end Go.Proofs.Ytjbkbhilcmiamaa
