/- The document's TakeVertex. -/
import Derived.Test.YtjbkbhilcmiamaaGrFTake
import Derived.Deep.Cut
import Derived.Deep.DeepCutAuto
namespace Go.Proofs.Ytjbkbhilcmiamaa
open Go.RowKit
theorem f_new {w w1 : World} {x : Obj} (h : Below (w.alloc x).heap.size (w.alloc x) w1) : w1.heap[w.heap.size]? = some x ∧ w.heap.size < w1.heap.size := by
  have hl : w.heap.size < (w.alloc x).heap.size := by rw [World.size_alloc]; omega
  exact ⟨(h.block _ hl).trans (heap_alloc_new _ _), Nat.lt_of_lt_of_le hl h.size⟩
theorem f_two {W : World} {b : Nat} {t : TypeId} {x y : Value} (h : W.heap[b]? = some (.cells #[x, y] t (0, 0))) : W.cell? ⟨b, 0, none⟩ = some x ∧ W.cell? ⟨b, 1, none⟩ = some y ∧ W.frozen? ⟨b, 0, none⟩ = false ∧ W.frozen? ⟨b, 1, none⟩ = false := by
  refine ⟨?_, ?_, froz h, froz h⟩ <;> simp [World.cell?, h]
theorem f_set2 {w : World} {b : Nat} {t : TypeId} {u0 u1 : Value} (h : w.heap[b]? = some (.cells #[u0, u1] t (0, 0))) (a c : Value) : ((w.setCell ⟨b, 0, none⟩ a).setCell ⟨b, 1, none⟩ c).heap[b]? = some (.cells #[a, c] t (0, 0)) := by
  have hs : ∀ {w : World} {i : Nat} {cs : Array Value} (v : Value), w.heap[b]? = some (.cells cs t (0, 0)) → (w.setCell ⟨b, i, none⟩ v).heap[b]? = some (.cells (cs.setIfInBounds i v) t (0, 0)) := by
    intro w i cs v h
    have hlt := lt_of_block h
    have h' : w.heap[b] = .cells cs t (0, 0) := by simpa [Array.getElem?_eq_getElem hlt] using h
    show (w.heap.modify b _)[b]? = _
    rw [Array.getElem?_eq_getElem (by simpa using hlt), Array.getElem_modify_self, h']
    rfl
  exact hs c (hs a h)
theorem sizeFR : (Try.prog.info? 51).map (·.size) = some 3 := by kernel_rfl
theorem sizeFV : (Try.prog.info? 115).map (·.size) = some 3 := by kernel_rfl
theorem res_cc {fn : Func} {p q : Tmp} {ty tz : TypeId} (h : fn.results = #[.cell p ty, .cell q tz]) (tmps : Array Value) (w : World) (g g' : Nat) (t t' : TypeId) (cs cs' : Array Value) (d d' : TypeDesc)
    (hp : tmps.getD p undef = .pointer (some ⟨g, 0, none⟩)) (hq : tmps.getD q undef = .pointer (some ⟨g', 0, none⟩)) (hg : w.heap[g]? = some (.cells cs t (0, 0))) (hg' : w.heap[g']? = some (.cells cs' t' (0, 0)))
    (hu : Try.prog.underlying ty = some d) (hd : ∃ fs, d = .struct fs) (hi : (Try.prog.info? ty).map (·.size) = some cs.size) (hu' : Try.prog.underlying tz = some d') (hd' : ∃ fs, d' = .struct fs) (hi' : (Try.prog.info? tz).map (·.size) = some cs'.size) :
    (results fn tmps).run Try.prog w = .ok (.tuple #[.agg cs, .agg cs']) w := by
  obtain ⟨fs, rfl⟩ := hd
  obtain ⟨fs', rfl⟩ := hd'
  have h1 := run_loadVar_row (P := Try.prog) w g t ty cs (0, 0) _ hg hu rfl hi
  have h2 := run_loadVar_row (P := Try.prog) w g' t' tz cs' (0, 0) _ hg' hu' rfl hi'
  have hp' : tmps[p]?.getD undef = .pointer (some ⟨g, 0, none⟩) := by simpa using hp
  have hq' : tmps[q]?.getD undef = .pointer (some ⟨g', 0, none⟩) := by simpa using hq
  simp [results, h, hp', hq', asAddr, h1, h2]
set_option maxRecDepth 100000 in
set_option maxHeartbeats 1200000 in
theorem ftakevertex_any {s : ByteArray} {a : Nat} {e : Int} (w : World) (hs : s.size ≤ maxLen) (ha : a ≤ s.size) :
    Calls Try.prog 75 #[.agg #[.string s, .int .i64 a, .int .i64 e]] w fun r w' => ∃ eo m ec, r = .returned (.tuple #[.agg #[.string s, .int .i64 (rdV s a e).2.1, .int .i64 (rdV s a e).2.2], .agg #[.int .i64 (rdV s a e).1.id, .int .i64 (rdV s a e).1.val, .slice eo m ec]]) ∧ ((rdV s a e).2.2 = 0 → m = (rdV s a e).1.es.length ∧ EdAt w' (fun k => w.heap.size ≤ k) eo (rdV s a e).1.es) ∧ Below w.heap.size w w' := by
  obtain ⟨i0, hi, hz0, hz1, hz2⟩ := info_parts infoREdge
  obtain ⟨⟨t, a1, e1⟩, h1⟩ : ∃ q, rdNum s a e = q := ⟨_, rfl⟩
  obtain ⟨⟨u, a2, e2⟩, h2⟩ : ∃ q, rdNum s a1 e1 = q := ⟨_, rfl⟩
  obtain ⟨⟨n, a3, e3⟩, h3⟩ : ∃ q, rdCount s a2 e2 (2048 : Nat) = q := ⟨_, rfl⟩
  have g1 := rdNum_to ha h1
  have g2 := rdNum_to g1.1 h2
  have g3 := rdCount_to (most := 2048) g2.1 h3
  have HV : Hid (rdV s a e = (⟨unfoldN t, unfoldN u, (rdEs s n a3 e3).1⟩, (rdEs s n a3 e3).2)) := by
    show _ = _
    unfold rdV; simp only [h1, h2]; rw [show rdCount s a2 e2 2048 = (n, a3, e3) from h3]
  have H1 : Hid _ := h1
  have H2 : Hid _ := h2
  have H3 : Hid _ := h3
  have hn := g3.2.1
  have G1 : Hid _ := g1
  have G2 : Hid _ := g2
  have G3 : Hid _ := g3
  rw [HV.out]
  have HF0 : Hid _ := FV.start w s a e
  clear h1 h2 h3 g1 g2 g3
  go_enter Try.func75, Try.ntmps75
  go_wp2_with (first
    | (go_at_call 22; first
      | (have := hF1; refine (fsg_to _ hs G1.out.1 H2.out).mono ?_; rintro r w2 ⟨rfl, hb2⟩; have hF2 := ((hF1.r0 s a1 e1).v0 (unfoldN t)).new hb2; obtain ⟨c0, c1, c2, c3, c4, c5⟩ := hF2.rf; obtain ⟨d0, d1, d2, d3, d4, d5, d6⟩ := hF2.vf; clear hF1 hb2)
      | (refine (fsg_to _ hs ha H1.out).mono ?_; rintro r w1 ⟨rfl, hb1⟩; have hF1 := HF0.out.new hb1; obtain ⟨c0, c1, c2, c3, c4, c5⟩ := hF1.rf; obtain ⟨d0, d1, d2, d3, d4, d5, d6⟩ := hF1.vf; clear hb1))
    | (go_at_call 74; refine (fct_to (most := 2048) _ hs G2.out.1 (by decide) H3.out).mono ?_; rintro r w3 ⟨rfl, hb3⟩; have hF3 := ((hF2.r0 s a2 e2).v1 (unfoldN u)).new hb3; obtain ⟨f0, f1, f2, f3, f4, f5⟩ := hF3.rf; clear hF2 hb3))
  have HF3 : Hid _ := hF3.r0 s a3 e3
  clear hF3 f0 f1 f2 f3 f4 f5 c0 c1 c2 c3 c4 c5 d0 d1 d2 d3 d4 d5 d6 HF0
  go_loopw [6] (fun i wr => ∃ (j : Nat) (sv : Value) (L : List Ed) (x : Nat) (y : Int), j ≤ n ∧ i = .int .i64 j ∧ Hid (x ≤ s.size ∧ L.length = j) ∧ Hid ((y = 0 → rdEs s n a3 e3 = (L ++ (rdEs s (n - j) x 0).1, (rdEs s (n - j) x 0).2)) ∧ (y ≠ 0 → (rdEs s n a3 e3).2 = (x, y))) ∧ FV w wr s x y (unfoldN t) (unfoldN u) sv L) (fun i _ => n - (intOf i).toNat)
  case atStart =>
    refine ⟨0, _, [], a3, e3, Nat.zero_le _, rfl, ⟨G3.out.1, rfl⟩, ⟨fun h => ?_, fun h => ?_⟩, HF3.out⟩
    · rw [h]; simp
    · obtain rfl : n = 0 := Nat.eq_zero_of_not_pos (fun hp => h (G3.out.2.2.2 hp))
      rfl
  case round =>
    obtain ⟨j, sv, L, x, y, hj, rfl, HX, HS, hT⟩ := hrel
    obtain ⟨ao, m, c, rfl⟩ := own_any hT.own
    obtain ⟨c0, c1, c2, c3, c4, c5⟩ := hT.rf
    obtain ⟨d0, d1, d2, d3, d4, d5, d6⟩ := hT.vf
    by_cases hjn : j < n
    · by_cases hy : y = 0
      · subst hy
        obtain ⟨⟨t1, x1, y1⟩, q1⟩ : ∃ q, rdNum s x 0 = q := ⟨_, rfl⟩
        obtain ⟨⟨t2, x2, y2⟩, q2⟩ : ∃ q, rdNum s x1 y1 = q := ⟨_, rfl⟩
        have g1 := rdNum_to HX.out.1 q1
        have g2 := rdNum_to g1.1 q2
        have Q1 : Hid _ := q1
        have Q2 : Hid _ := q2
        have GG1 : Hid _ := g1
        have GG2 : Hid _ := g2
        have hFe := hT.al (.cells #[.int .i64 0, .int .i64 0] 116)
        have NE : Hid (∀ b, wr.heap.size ≤ b → Value.ownBlock (.slice ao m c) ≠ some b) := fun b hb => hT.ne' hb
        have hlb : w.heap.size + 1 + 1 + 1 < wr.heap.size := lt_of_block hT.vb
        clear q1 q2 g1 g2 c0 c1 c3 c4 c5 d0 d1 d2 d3 d4 d5
        obtain ⟨z0, z1, z2, z3, z4, z5⟩ := hFe.rf
        go_upto_region 10 with (go_at_call 22; refine (fsg_to _ hs HX.out.1 Q1.out).mono ?_; rintro r w1 ⟨rfl, hb1⟩)
        obtain ⟨eb1, el1⟩ := f_new hb1
        generalize hW : World.alloc _ _ = W1
        have hF1 : FV w W1 s x 0 (unfoldN t) (unfoldN u) (.slice ao m c) L := by
          rw [← hW]
          exact (hFe.new hb1).al _
        have hE1 : W1.heap[wr.heap.size]? = some (.cells #[.int .i64 0, .int .i64 0] 116 (0, 0)) := by
          rw [← hW]
          exact blk_al _ eb1
        have hK1 : W1.heap[w1.heap.size]? = some (.cells #[.string s, .int .i64 x1, .int .i64 y1] 51 (0, 0)) := by
          rw [← hW]
          exact heap_alloc_new _ _
        clear hW hFe hb1 eb1 z0 z1 z2 z3 z4 z5 c2 d6
        obtain ⟨kb, hkb⟩ : ∃ kb, w1.heap.size = kb := ⟨_, rfl⟩
        obtain ⟨eb, heb⟩ : ∃ eb, wr.heap.size = eb := ⟨_, rfl⟩
        rw [hkb] at hK1 el1 ⊢
        rw [heb] at hE1 el1 NE hlb ⊢
        clear hkb heb
        obtain ⟨c0, c1, c2⟩ := box3 hK1
        have HF1 : Hid _ := hF1
        have HE1 : Hid _ := hE1
        have HK1 : Hid _ := hK1
        clear hF1 hE1 hK1
        go_upto_region 11 with (go_at_call 22; refine (fsg_to _ hs GG1.out.1 Q2.out).mono ?_; rintro r w2 ⟨rfl, hb2⟩; have kk2 := (hb2.block kb (lt_of_block HK1.out)).trans HK1.out; obtain ⟨p0, p1, p2⟩ := box3 kk2; have p3 := froz (o := 0) kk2; have p4 := froz (o := 1) kk2; have p5 := froz (o := 2) kk2; have HK2 : Hid _ := kk2; clear kk2)
        generalize hW2 : World.setCell _ _ _ = W2
        have hF2 : FV w W2 s x 0 (unfoldN t) (unfoldN u) (.slice ao m c) L := by
          rw [← hW2]
          have hn := NE.out kb (by omega)
          exact (((FV.new HF1.out hb2).oth _ (by omega) hn).oth _ (by omega) hn).oth _ (by omega) hn
        have hE2 : W2.heap[eb]? = some (.cells #[.int .i64 0, .int .i64 0] 116 (0, 0)) := by
          rw [← hW2]
          exact blk_set (blk_set (blk_set ((hb2.block eb (lt_of_block HE1.out)).trans HE1.out) (by omega)) (by omega)) (by omega)
        have hK2 : W2.heap[kb]? = some (.cells #[.string s, .int .i64 x2, .int .i64 y2] 51 (0, 0)) := by
          rw [← hW2]
          exact set3_2 (set3_1 (set3_0 HK2.out _) _) _
        clear hW2 hb2 c0 c1 c2 p0 p1 p2 p3 p4 p5 HF1 HE1 HK1 HK2
        obtain ⟨c0, c1, c2⟩ := box3 hK2
        obtain ⟨p0, p1, p2, p3⟩ := f_two hE2
        obtain ⟨z0, z1, z2, z3, z4, z5⟩ := hF2.rf
        have HF2 : Hid _ := hF2
        have HE2 : Hid _ := hE2
        clear hF2 hE2 hK2
        go_upto_region 12 with fail
        generalize hW3 : World.setCell _ _ _ = W3
        have hF3 : FV w W3 s x2 y2 (unfoldN t) (unfoldN u) (.slice ao m c) L := by
          rw [← hW3]
          have hn := NE.out eb (Nat.le_refl _)
          exact ((FV.r0 HF2.out s x2 y2).oth _ (by omega) hn).oth _ (by omega) hn
        have hE3 : W3.heap[eb]? = some (.cells #[.int .i64 (unfoldN t1), .int .i64 (unfoldN t2)] 116 (0, 0)) := by
          rw [← hW3]
          exact f_set2 (blk_set (blk_set (blk_set HE2.out (by omega)) (by omega)) (by omega)) _ _
        clear hW3 c0 c1 c2 p0 p1 p2 p3 z0 z1 z2 z3 z4 z5 HF2 HE2
        obtain ⟨p0, p1, p2, p3⟩ := f_two hE3
        obtain ⟨z0, z1, z2, z3, z4, z5, z6⟩ := hF3.vf
        have HF3 : Hid _ := hF3
        clear hF3
        go_wp2_with (at_builtin; refine wpList_append_own_at _ rfl _ _ 113 rfl (w.heap.size + 1 + 1 + 1 + 1) 116 i0 (.agg #[.int .i64 0, .int .i64 0]) 2 16 Try.underlying113 hi hz0 hz1 hz2 rfl (by decide) _ _ _ rfl (FV.al HF3.out _).own ⟨W3.heap.size, 0, none⟩ 1 1 [.int .i64 (unfoldN t1), .int .i64 (unfoldN t2)] rfl rfl ?c1 ?c2 ?c3 ?c4 ?c5 ?_)
        case c1 => exact two_new (heap_alloc_new _ _)
        case c2 => intro u hu; simp at hu; rcases hu with rfl | rfl <;> rfl
        case c3 => have := HX.out.2; unfold maxLen; omega
        case c4 => have := HX.out.2; omega
        case c5 => have := lt_of_block (FV.vb HF3.out); simp; omega
        · intro v' w4 hown' hgrow _ _
          have hF4 := (FV.al HF3.out _).app hown' hgrow
          obtain ⟨k2, k3⟩ := (FV.al HF3.out _).grew hgrow
          obtain ⟨ao', m', c', rfl⟩ := own_any hown'
          have HF4 : Hid _ := hF4
          clear hF4 hown' hgrow z0 z1 z2 z3 z4 z5 z6 p0 p1 p2 p3
          go_wp2
          go_roundw
          case rel =>
            refine ⟨j + 1, _, _, x2, y2, by omega, by go_num, ⟨GG2.out.1, by have := HX.out.2; simp; omega⟩, ⟨fun h0 => ?_, fun h0 => ?_⟩, HF4.out⟩
            · subst h0
              rw [HS.out.1 (by first | rfl | trivial), show n - j = (n - (j + 1)) + 1 by omega, rdEs_go Q1.out Q2.out]
              simp
            · rw [HS.out.1 (by first | rfl | trivial), show n - j = (n - (j + 1)) + 1 by omega, rdEs_bad Q1.out Q2.out h0]
          case measure => simp [intOf]; omega
      · have hy0 : (y == 0) = false := by rw [beq_eq_false_iff_ne]; exact hy
        go_upto_region 13 with fail
        obtain ⟨p0, p1, p2⟩ := box3 hT.q1
        have p3 := froz (o := 0) hT.q1
        have p4 := froz (o := 1) hT.q1
        have p5 := froz (o := 2) hT.q1
        obtain ⟨r0, r1, r2⟩ := box3 hT.q2
        have r3 := froz (o := 0) hT.q2
        have r4 := froz (o := 1) hT.q2
        have r5 := froz (o := 2) hT.q2
        have HT : Hid _ := hT
        clear hT
        go_region
        all_goals
          generalize hW : World.setCell _ _ _ = W
          have b1 : W.heap[w.heap.size + 1]? = some (.cells #[.string s, .int .i64 x, .int .i64 y] 51 (0, 0)) := by
            rw [← hW]
            first
              | with_reducible exact blk_set (blk_set (blk_set (set3_2 (set3_1 (set3_0 (FV.q1 HT.out) _) _) _) (by omega)) (by omega)) (by omega)
              | with_reducible exact set3_2 (set3_1 (set3_0 (blk_set (blk_set (blk_set (FV.q1 HT.out) (by omega)) (by omega)) (by omega)) _) _) _
          have b2 : W.heap[w.heap.size + 1 + 1]? = some (.cells #[.int .i64 (unfoldN t), .int .i64 (unfoldN u), .slice ao m c] 115 (0, 0)) := by
            rw [← hW]
            first
              | with_reducible exact set3_2 (set3_1 (set3_0 (blk_set (blk_set (blk_set (FV.q2 HT.out) (by omega)) (by omega)) (by omega)) _) _) _
              | with_reducible exact blk_set (blk_set (blk_set (set3_2 (set3_1 (set3_0 (FV.q2 HT.out) _) _) _) (by omega)) (by omega)) (by omega)
          have f1 : Fr wr W (fun k => k = w.heap.size + 1 ∨ k = w.heap.size + 1 + 1) := by
            rw [← hW]
            have hs1 : ∀ (w' : World) (o : Nat) (u : Value), Fr w' (w'.setCell ⟨w.heap.size + 1, o, none⟩ u) (fun k => k = w.heap.size + 1 ∨ k = w.heap.size + 1 + 1) := fun w' o u => Fr.setCell (S := fun k => k = w.heap.size + 1 ∨ k = w.heap.size + 1 + 1) w' ⟨w.heap.size + 1, o, none⟩ u (Or.inl rfl)
            have hs2 : ∀ (w' : World) (o : Nat) (u : Value), Fr w' (w'.setCell ⟨w.heap.size + 1 + 1, o, none⟩ u) (fun k => k = w.heap.size + 1 ∨ k = w.heap.size + 1 + 1) := fun w' o u => Fr.setCell (S := fun k => k = w.heap.size + 1 ∨ k = w.heap.size + 1 + 1) w' ⟨w.heap.size + 1 + 1, o, none⟩ u (Or.inr rfl)
            first
              | with_reducible exact (((((hs1 _ _ _).trans (hs1 _ _ _) (fun _ _ h => h)).trans (hs1 _ _ _) (fun _ _ h => h)).trans (hs2 _ _ _) (fun _ _ h => h)).trans (hs2 _ _ _) (fun _ _ h => h)).trans (hs2 _ _ _) (fun _ _ h => h)
              | with_reducible exact (((((hs2 _ _ _).trans (hs2 _ _ _) (fun _ _ h => h)).trans (hs2 _ _ _) (fun _ _ h => h)).trans (hs1 _ _ _) (fun _ _ h => h)).trans (hs1 _ _ _) (fun _ _ h => h)).trans (hs1 _ _ _) (fun _ _ h => h)
          have hlow := FV.low HT.out
          have hlow2 : Below w.heap.size w W.drew := (hlow.trans (f1.below hlow.size (fun k hk => by omega))).drew
          obtain ⟨hm, hEd⟩ := own_eds (FV.own HT.out)
          have b1' : W.drew.heap[w.heap.size + 1]? = some (.cells #[.string s, .int .i64 x, .int .i64 y] 51 (0, 0)) := b1
          have b2' : W.drew.heap[w.heap.size + 1 + 1]? = some (.cells #[.int .i64 (unfoldN t), .int .i64 (unfoldN u), .slice ao m c] 115 (0, 0)) := b2
          clear c0 c1 c2 c3 c4 c5 d0 d1 d2 d3 d4 d5 d6 p0 p1 p2 p3 p4 p5 r0 r1 r2 r3 r4 r5 hW
          go_wp2
          refine bodyPost_ret (v := .tuple #[.agg #[.string s, .int .i64 x, .int .i64 y], .agg #[.int .i64 (unfoldN t), .int .i64 (unfoldN u), .slice ao m c]]) (res_cc Try.results75 _ _ (w.heap.size + 1) (w.heap.size + 1 + 1) 51 115 _ _ _ _ rfl rfl b1' b2' Try.underlying51 ⟨_, rfl⟩ sizeFR Try.underlying115 ⟨_, rfl⟩ sizeFV) rfl ?_
          subst hm
          rw [HS.out.2 hy]
          exact ⟨ao, _, c, rfl, fun h => absurd h hy, hlow2⟩
    · obtain rfl : j = n := by omega
      have HE0 : Hid ((y = 0 → rdEs s j a3 e3 = (L, x, 0)) ∧ (y ≠ 0 → (rdEs s j a3 e3).2 = (x, y))) := ⟨fun h => by rw [HS.out.1 h]; simp [rdEs], HS.out.2⟩
      go_upto_region 13 with fail
      obtain ⟨p0, p1, p2⟩ := box3 hT.q1
      have p3 := froz (o := 0) hT.q1
      have p4 := froz (o := 1) hT.q1
      have p5 := froz (o := 2) hT.q1
      obtain ⟨r0, r1, r2⟩ := box3 hT.q2
      have r3 := froz (o := 0) hT.q2
      have r4 := froz (o := 1) hT.q2
      have r5 := froz (o := 2) hT.q2
      have HT : Hid _ := hT
      clear hT
      go_region
      all_goals
        generalize hW : World.setCell _ _ _ = W
        have b1 : W.heap[w.heap.size + 1]? = some (.cells #[.string s, .int .i64 x, .int .i64 y] 51 (0, 0)) := by
          rw [← hW]
          first
            | with_reducible exact blk_set (blk_set (blk_set (set3_2 (set3_1 (set3_0 (FV.q1 HT.out) _) _) _) (by omega)) (by omega)) (by omega)
            | with_reducible exact set3_2 (set3_1 (set3_0 (blk_set (blk_set (blk_set (FV.q1 HT.out) (by omega)) (by omega)) (by omega)) _) _) _
        have b2 : W.heap[w.heap.size + 1 + 1]? = some (.cells #[.int .i64 (unfoldN t), .int .i64 (unfoldN u), .slice ao m c] 115 (0, 0)) := by
          rw [← hW]
          first
            | with_reducible exact set3_2 (set3_1 (set3_0 (blk_set (blk_set (blk_set (FV.q2 HT.out) (by omega)) (by omega)) (by omega)) _) _) _
            | with_reducible exact blk_set (blk_set (blk_set (set3_2 (set3_1 (set3_0 (FV.q2 HT.out) _) _) _) (by omega)) (by omega)) (by omega)
        have f1 : Fr wr W (fun k => k = w.heap.size + 1 ∨ k = w.heap.size + 1 + 1) := by
          rw [← hW]
          have hs1 : ∀ (w' : World) (o : Nat) (u : Value), Fr w' (w'.setCell ⟨w.heap.size + 1, o, none⟩ u) (fun k => k = w.heap.size + 1 ∨ k = w.heap.size + 1 + 1) := fun w' o u => Fr.setCell (S := fun k => k = w.heap.size + 1 ∨ k = w.heap.size + 1 + 1) w' ⟨w.heap.size + 1, o, none⟩ u (Or.inl rfl)
          have hs2 : ∀ (w' : World) (o : Nat) (u : Value), Fr w' (w'.setCell ⟨w.heap.size + 1 + 1, o, none⟩ u) (fun k => k = w.heap.size + 1 ∨ k = w.heap.size + 1 + 1) := fun w' o u => Fr.setCell (S := fun k => k = w.heap.size + 1 ∨ k = w.heap.size + 1 + 1) w' ⟨w.heap.size + 1 + 1, o, none⟩ u (Or.inr rfl)
          first
            | with_reducible exact (((((hs1 _ _ _).trans (hs1 _ _ _) (fun _ _ h => h)).trans (hs1 _ _ _) (fun _ _ h => h)).trans (hs2 _ _ _) (fun _ _ h => h)).trans (hs2 _ _ _) (fun _ _ h => h)).trans (hs2 _ _ _) (fun _ _ h => h)
            | with_reducible exact (((((hs2 _ _ _).trans (hs2 _ _ _) (fun _ _ h => h)).trans (hs2 _ _ _) (fun _ _ h => h)).trans (hs1 _ _ _) (fun _ _ h => h)).trans (hs1 _ _ _) (fun _ _ h => h)).trans (hs1 _ _ _) (fun _ _ h => h)
        have hlow := FV.low HT.out
        have hlow2 : Below w.heap.size w W.drew := (hlow.trans (f1.below hlow.size (fun k hk => by omega))).drew
        obtain ⟨hm, hEd⟩ := own_eds (FV.own HT.out)
        have b1' : W.drew.heap[w.heap.size + 1]? = some (.cells #[.string s, .int .i64 x, .int .i64 y] 51 (0, 0)) := b1
        have b2' : W.drew.heap[w.heap.size + 1 + 1]? = some (.cells #[.int .i64 (unfoldN t), .int .i64 (unfoldN u), .slice ao m c] 115 (0, 0)) := b2
        clear c0 c1 c2 c3 c4 c5 d0 d1 d2 d3 d4 d5 d6 p0 p1 p2 p3 p4 p5 r0 r1 r2 r3 r4 r5 hW
        go_wp2
        refine bodyPost_ret (v := .tuple #[.agg #[.string s, .int .i64 x, .int .i64 y], .agg #[.int .i64 (unfoldN t), .int .i64 (unfoldN u), .slice ao m c]]) (res_cc Try.results75 _ _ (w.heap.size + 1) (w.heap.size + 1 + 1) 51 115 _ _ _ _ rfl rfl b1' b2' Try.underlying51 ⟨_, rfl⟩ sizeFR Try.underlying115 ⟨_, rfl⟩ sizeFV) rfl ?_
        subst hm
        by_cases hy : y = 0
        · subst hy
          rw [HE0.out.1 rfl]
          refine ⟨ao, _, c, rfl, fun _ => ⟨rfl, ?_⟩, hlow2⟩
          exact EdAt.new (hEd.kept f1 (fun k hk hp => ⟨by have := hp.1; omega, by have := hp.1; omega⟩)) ((Below.refl _ _).drew)
        · rw [HE0.out.2 hy]
          exact ⟨ao, _, c, rfl, fun h => absurd h hy, hlow2⟩
end Go.Proofs.Ytjbkbhilcmiamaa
