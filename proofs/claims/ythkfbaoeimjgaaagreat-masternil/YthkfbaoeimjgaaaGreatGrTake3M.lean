import Derived.Test.YthkfbaoeimjgaaaGreatGrTake2M
/- What Take takes off a reader, and what Decode returns. -/
namespace Go.Proofs.YthkfbaoeimjgaaaGreat
open Go.RowKit
/-- Between two vertices: the reader, the graph's box, the result's box, the vertices so far. -/
structure TG (w wr : World) (p : Nat) (s : ByteArray) (sv : Value) (G : List Vx) (a : Nat) (e : Int) : Prop where
  rd : Rd wr p s a e
  fr : Fr w wr (fun k => k = p)
  gb : wr.heap[w.heap.size + 1]? = some (.cells #[sv] 24 (0, 0))
  rb : wr.heap[w.heap.size]? = some (.cells #[.slice none 0 0] 24 (0, 0))
  row : VRow wr (w.heap.size + 2) 114 sv G
  hp : p < w.heap.size
section
variable {w wr : World} {p : Nat} {s : ByteArray} {sv : Value} {G : List Vx} {a : Nat} {e : Int}
theorem TG.step (h : TG w wr p s sv G a e) {w1 : World} {a' : Nat} {e' : Int} (f : Fr wr w1 (fun k => k = p)) (hr : Rd w1 p s a' e') : TG w w1 p s sv G a' e' := by
  have h2 := h.hp
  exact ⟨hr, h.fr.trans f (fun _ _ h => h), (f.block _ (lt_of_block h.gb) (by omega)).trans h.gb, (f.block _ (lt_of_block h.rb) (by omega)).trans h.rb, h.row.kept f (fun k hk => by omega), h.hp⟩
theorem TG.al (h : TG w wr p s sv G a e) (o : Obj) : TG w (wr.alloc o) p s sv G a e := h.step (Fr.alloc wr o _) (h.rd.kept (Fr.alloc wr o (fun _ => False)) (fun h => h))
theorem TG.below (h : TG w wr p s sv G a e) {w1 : World} (hb : Below wr.heap.size wr w1) : TG w w1 p s sv G a e := h.step (Fr.ofBelow hb _) (h.rd.below hb)
theorem TG.app (h : TG w wr p s sv G a e) {w1 : World} {sv' : Value} {G' : List Vx} (hg : wr.grownBy w1 sv.ownBlock) (hr : VRow w1 (w.heap.size + 2) 114 sv' G') : TG w (w1.setCell ⟨w.heap.size + 1, 0, none⟩ sv') p s sv' G' a e := by
  have h2 := h.hp
  have f1 : Fr wr w1 (fun k => sv.ownBlock = some k) := Fr.grown hg (fun k hk => hk)
  have f2 : Fr w1 (w1.setCell ⟨w.heap.size + 1, 0, none⟩ sv') (fun k => k = w.heap.size + 1) := Fr.setCell (S := fun k => k = w.heap.size + 1) w1 ⟨w.heap.size + 1, 0, none⟩ sv' rfl
  have f : Fr wr (w1.setCell ⟨w.heap.size + 1, 0, none⟩ sv') (fun k => w.heap.size + 1 ≤ k) := (f1.mono (T := fun k => w.heap.size + 1 ≤ k) (fun k _ hk => by have := (h.row.lt k hk).1; omega)).trans f2 (fun k _ hk => Nat.le_of_eq hk.symm)
  have hgb := (f1.block _ (lt_of_block h.gb) (fun hk => by have := (h.row.lt _ hk).1; omega)).trans h.gb
  exact ⟨h.rd.kept f (by omega), h.fr.trans f (fun k hk hb => by omega), one_setCell hgb, (f.block _ (lt_of_block h.rb) (by omega)).trans h.rb, hr.kept f2 (fun k hk => by omega), h.hp⟩
theorem TG.grew (h : TG w wr p s sv G a e) {w1 : World} (hg : wr.grownBy w1 sv.ownBlock) : w1.cell? ⟨w.heap.size + 1, 0, none⟩ = some sv ∧ w1.frozen? ⟨w.heap.size + 1, 0, none⟩ = false := by
  have f1 : Fr wr w1 (fun k => sv.ownBlock = some k) := Fr.grown hg (fun k hk => hk)
  have hgb := (f1.block _ (lt_of_block h.gb) (fun hk => by have := (h.row.lt _ hk).1; omega)).trans h.gb
  exact ⟨cell_of_one hgb, free_of_one hgb⟩
theorem TG.facts (h : TG w wr p s sv G a e) : wr.cell? ⟨w.heap.size + 1, 0, none⟩ = some sv ∧ wr.frozen? ⟨w.heap.size + 1, 0, none⟩ = false ∧ wr.cell? ⟨w.heap.size, 0, none⟩ = some (.slice none 0 0) ∧ wr.frozen? ⟨w.heap.size, 0, none⟩ = false ∧ w.heap.size + 1 < wr.heap.size ∧ w.heap.size < wr.heap.size :=
  ⟨cell_of_one h.gb, free_of_one h.gb, cell_of_one h.rb, free_of_one h.rb, lt_of_block h.gb, lt_of_block h.rb⟩
/-- Where nothing is told: the reader's state, and what stands. -/
theorem TG.none_ (h : TG w wr p s sv G a e) (u : Value) : Rd (wr.setCell ⟨w.heap.size, 0, none⟩ u) p s a e ∧ Fr w (wr.setCell ⟨w.heap.size, 0, none⟩ u) (fun k => k = p) := by
  have h2 := h.hp
  have f := Fr.setCell (S := fun k => k = w.heap.size) wr ⟨w.heap.size, 0, none⟩ u rfl
  exact ⟨h.rd.kept f (by omega), h.fr.trans f (fun k hk hb => by omega)⟩
theorem TG.done {ao : Option Addr} {n c : Nat} (h : TG w wr p s (.slice ao n c) G a e) (u : Value) : n = G.length ∧ VxAt (wr.setCell ⟨w.heap.size, 0, none⟩ u) (fun k => w.heap.size ≤ k) ao G := by
  have f := Fr.setCell (S := fun k => k = w.heap.size) wr ⟨w.heap.size, 0, none⟩ u rfl
  obtain ⟨hn, he⟩ := h.row.at_
  exact ⟨hn, he.kept f (fun k _ hk => ⟨by omega, by omega⟩)⟩
end
theorem rdVs_go {s : ByteArray} {n a x : Nat} {v : Vx} (h : rdV s a 0 = (v, x, 0)) : rdVs s (n + 1) a 0 = (v :: (rdVs s n x 0).1, (rdVs s n x 0).2) := by
  simp only [rdVs, h, if_true]
theorem rdVs_bad {s : ByteArray} {n a x : Nat} {v : Vx} {y : Int} (h : rdV s a 0 = (v, x, y)) (hy : y ≠ 0) : rdVs s (n + 1) a 0 = ([], x, y) := by
  simp only [rdVs, h, if_neg hy]
theorem takev_to {w : World} {p : Nat} {s : ByteArray} {a x : Nat} {e y : Int} {v : Vx} (h : Rd w p s a e) (hs : s.size ≤ maxLen) (ha : a ≤ s.size) (hq : rdV s a e = (v, x, y)) :
    Calls Tryz.prog 118 #[.pointer (some ⟨p, 0, none⟩)] w fun r w' => ∃ eo ec, r = .returned (.agg #[.int .i64 v.id, .int .i64 v.val, .slice eo v.es.length ec]) ∧ EdAt w' (fun k => w.heap.size ≤ k) eo v.es ∧ Rd w' p s x y ∧ Fr w w' (fun k => k = p) := by
  have := takevertex_any h hs ha; rw [hq] at this; exact this
theorem rdG_bad {s : ByteArray} {a x : Nat} {e y : Int} {G : List Vx} (h : rdGs s a e = (G, x, y)) (hy : y ≠ 0) : rdG s a e = ([], x, y) := by
  unfold rdG; rw [h]; simp [hy]
theorem rdG_chk {s : ByteArray} {a x : Nat} {e : Int} {G : List Vx} (h : rdGs s a e = (G, x, 0)) (hc : chk G ≠ 0) : rdG s a e = ([], x, chk G) := by
  unfold rdG; rw [h]; simp [hc]
theorem rdG_ok {s : ByteArray} {a x : Nat} {e : Int} {G : List Vx} (h : rdGs s a e = (G, x, 0)) (hc : chk G = 0) : rdG s a e = (G, x, 0) := by
  unfold rdG; rw [h]; simp [hc]

set_option maxRecDepth 100000 in
set_option maxHeartbeats 1000000 in
theorem take_any {w : World} {p : Nat} {s : ByteArray} {a : Nat} {e : Int} (h : Rd w p s a e) (hs : s.size ≤ maxLen) (ha : a ≤ s.size) :
    Calls Tryz.prog 54 #[.pointer (some ⟨p, 0, none⟩)] w fun r w' => ∃ ao cap, r = .returned (.agg #[.slice ao (rdG s a e).1.length cap]) ∧ VxAt w' (fun k => w.heap.size ≤ k) ao (rdG s a e).1 ∧ Rd w' p s (rdG s a e).2.1 (rdG s a e).2.2 ∧ Fr w w' (fun k => k = p) := by
  obtain ⟨i0, hi, hz0, hz1, hz2⟩ := info_parts infoVx
  obtain ⟨⟨n, a1, e1⟩, h1⟩ : ∃ q, rdCount s a e 256 = q := ⟨_, rfl⟩
  have g1 := rdCount_to (most := 256) ha h1
  have HG : Hid (rdGs s a e = rdVs s n a1 e1) := by show _ = _; unfold rdGs; simp only [h1]
  have H1 : Hid _ := h1
  have hn := g1.2.1
  have G1 : Hid _ := g1
  have hlt := h.lt
  have HA : Hid (∀ o1 o2, Rd ((w.alloc o1).alloc o2) p s a e) := fun o1 o2 => (h.kept (Fr.alloc w o1 (fun _ => False)) (fun h => h)).kept (Fr.alloc _ o2 (fun _ => False)) (fun h => h)
  clear h1 g1 h
  go_enter Tryz.func54, Tryz.ntmps54
  go_wp2_with (go_at_call 56; refine (rct_to (HA.out _ _) hs ha (by decide) H1.out).mono ?_; rintro r w3 ⟨rfl, hr3, hf3⟩)
  have hTG : TG w w3 p s (.slice none 0 0) [] a1 e1 := by
    have hfA : Fr w w3 (fun k => k = p) := ((Fr.alloc w _ _).trans (Fr.alloc _ _ _) (fun _ _ h => h)).trans hf3 (fun _ _ h => h)
    refine ⟨hr3, hfA, (hf3.block _ (by simp) (by omega)).trans ?_, (hf3.block _ (by simp; omega) (by omega)).trans ((Below.heap_alloc _ _ _ (by simp)).trans (heap_alloc_new _ _)), VRow.nil _ _ _, hlt⟩
    have := heap_alloc_new (w.alloc (.cells #[.slice none 0 0] 24)) (.cells #[.slice none 0 0] 24)
    rw [World.size_alloc] at this
    exact this
  clear hr3 hf3
  go_loopw [4, 8] (fun _ i wr => ∃ (j : Nat) (sv : Value) (G : List Vx) (x : Nat) (y : Int), j ≤ n ∧ i = .int .i64 j ∧ Hid (rdVs s n a1 e1 = (G ++ (rdVs s (n - j) x y).1, (rdVs s (n - j) x y).2)) ∧ Hid (x ≤ s.size ∧ G.length = j ∧ (j < n → y = 0) ∧ ∀ v ∈ G, v.ok) ∧ TG w wr p s sv G x y) (fun _ i _ => n - (intOf i).toNat)
  case atStart => exact ⟨0, _, [], a1, e1, Nat.zero_le _, rfl, (by simp : rdVs s n a1 e1 = ([] ++ (rdVs s (n - 0) a1 e1).1, (rdVs s (n - 0) a1 e1).2)), ⟨G1.out.1, rfl, G1.out.2.2.2, fun v hv => by cases hv⟩, hTG⟩
  case round =>
    obtain ⟨j, sv, G, x, y, hj, rfl, HS, HX, hT⟩ := hrel
    obtain ⟨ao, m, c, rfl⟩ := hT.row.any
    by_cases hjn : j < n
    · obtain rfl : y = 0 := HX.out.2.2.1 hjn
      obtain ⟨⟨v, x1, y1⟩, q1⟩ : ∃ q, rdV s x 0 = q := ⟨_, rfl⟩
      have g1 := rdV_to (e := 0) HX.out.1
      rw [q1] at g1
      have Q1 : Hid _ := q1
      have GG : Hid _ := g1
      by_cases hy : y1 = 0
      · subst hy
        have HN : Hid (rdVs s (n - j) x 0 = (v :: (rdVs s (n - (j + 1)) x1 0).1, (rdVs s (n - (j + 1)) x1 0).2)) := by
          show _ = _
          rw [show n - j = (n - (j + 1)) + 1 by omega, rdVs_go q1]
        clear q1 g1
        have HB : Hid (w.heap.size + 2 ≤ wr.heap.size) := by have := lt_of_block hT.gb; show _ ≤ _; omega
        have HL : Hid (∀ k, (Value.slice ao m c).ownBlock = some k → k < wr.heap.size) := fun k hk => (hT.row.lt k hk).2
        go_wp2_with (first
          | (go_at_call 118; refine (takev_to hT.rd hs HX.out.1 Q1.out).mono ?_; rintro r w1 ⟨eo, ec, rfl, hE1, hr1, hf1⟩; have hT1 := hT.step hf1 hr1; obtain ⟨k0, k1, k2, k3, k4, k5⟩ := hT1.facts; have hsz1 := hf1.size)
          | (go_at_call 58; refine (err_any (hT1.al _).rd).mono ?_; rintro r w3 ⟨rfl, rfl⟩; have hE2 : EdAt ((w1.alloc (.cells #[.int .i64 v.id, .int .i64 v.val, .slice eo v.es.length ec] 114)).alloc (.cells #[.int .i64 v.id, .int .i64 v.val, .slice eo v.es.length ec] 114)) (fun k => w.heap.size + 2 ≤ k ∧ (Value.slice ao m c).ownBlock ≠ some k) eo v.es := (hE1.new (b2 w1 _ _)).mono (fun k _ hk => ⟨Nat.le_trans HB.out hk, fun e => by have := HL.out k e; omega⟩); obtain ⟨M, ho, hgo⟩ := ((hT1.al (.cells #[.int .i64 v.id, .int .i64 v.val, .slice eo v.es.length ec] 114)).al (.cells #[.int .i64 v.id, .int .i64 v.val, .slice eo v.es.length ec] 114)).row.app (ec := ec) hE2)
          | (at_builtin; refine wpList_append_own_at _ rfl _ _ 22 rfl (w.heap.size + 2) 114 i0 (.agg #[.int .i64 0, .int .i64 0, .slice none 0 0]) 3 40 Tryz.underlying22 hi hz0 hz1 hz2 rfl (by decide) _ _ _ rfl ho ⟨w1.heap.size + 1, 0, none⟩ 1 1 [.int .i64 v.id, .int .i64 v.val, .slice eo v.es.length ec] rfl rfl ?c1 ?c2 ?c3 ?c4 ?c5 ?_))
        case c1 => exact three_new (by have := heap_alloc_new (w1.alloc (.cells #[.int .i64 v.id, .int .i64 v.val, .slice eo v.es.length ec] 114)) (.cells #[.int .i64 v.id, .int .i64 v.val, .slice eo v.es.length ec] 114); rw [World.size_alloc] at this; exact this)
        case c2 => intro u hu; simp at hu; rcases hu with rfl | rfl | rfl <;> rfl
        case c3 => have := HX.out.2.1; unfold maxLen; omega
        case c4 => have := HX.out.2.1; omega
        case c5 => have := HB.out; simp; omega
        · intro v' w4 hown' hgrow _ hat
          have hR := hgo w4 v' hown' hgrow (by simpa using hat)
          have hT4 := ((hT1.al _).al _).app hgrow hR
          obtain ⟨q2, q3⟩ := ((hT1.al _).al _).grew hgrow
          obtain ⟨ao', m', c', rfl⟩ := own_any hown'
          have HT : Hid _ := hT4
          clear hT4 hT1 hT hown' hgrow hR hgo ho hE1 hE2
          go_wp2
          go_roundw
          case rel => exact ⟨j + 1, _, _, x1, 0, by omega, by go_num, (by rw [HS.out, HN.out]; simp : rdVs s n a1 e1 = ((G ++ [v]) ++ (rdVs s (n - (j + 1)) x1 0).1, (rdVs s (n - (j + 1)) x1 0).2)), ⟨GG.out.1, by have := HX.out.2.1; simp; omega, fun _ => rfl, fun z hz => by
            rcases List.mem_append.1 hz with hz | hz
            · exact HX.out.2.2.2 z hz
            · obtain rfl : z = v := by simpa using hz
              exact GG.out.2.2⟩, HT.out⟩
          case measure => simp [intOf]; omega
      · have HN : Hid (rdGs s a e = (G, x1, y1)) := by
          show _ = _
          rw [HG.out, HS.out, show n - j = (n - (j + 1)) + 1 by omega, rdVs_bad q1 hy]; simp
        have HR : Hid _ := rdG_bad HN.out hy
        have hy0 : (y1 == 0) = false := by rw [beq_eq_false_iff_ne]; exact hy
        clear q1 g1
        go_wp2_with (first
          | (go_at_call 118; refine (takev_to hT.rd hs HX.out.1 Q1.out).mono ?_; rintro r w1 ⟨eo, ec, rfl, hE1, hr1, hf1⟩; have hT1 := hT.step hf1 hr1; obtain ⟨k0, k1, k2, k3, k4, k5⟩ := hT1.facts; have hsz1 := hf1.size)
          | (go_at_call 58; refine (err_any (hT1.al _).rd).mono ?_; rintro r w3 ⟨rfl, rfl⟩))
        obtain ⟨d2, d3⟩ := hT1.none_ (.slice none 0 0)
        refine bodyPost_ret (v := .agg #[.slice none 0 0]) (by simp [results, Tryz.results54, go_sem, k2, k5]) rfl ?_
        rw [HR.out]
        exact ⟨none, 0, rfl, fun h => absurd h (by simp), d2.kept (Fr.alloc _ _ (fun _ => False)) (fun h => h), d3.trans (Fr.alloc _ _ (fun _ => False)) (fun _ _ h => h.elim)⟩
    · have HN : Hid (rdGs s a e = (G, x, y)) := by
        show _ = _
        rw [HG.out, HS.out, show n - j = 0 by omega]; simp [rdVs]
      obtain ⟨hm, hV⟩ := hT.row.at_
      have hGl : G.length ≤ 9223372036854775807 := by have := HX.out.2.1; omega
      have hC := check_any c hV hGl HX.out.2.2.2
      rw [← hm] at hC
      have HM : Hid (m = G.length) := hm
      clear hm
      obtain ⟨k0, k1, k2, k3, k4, k5⟩ := hT.facts
      by_cases hy : y = 0
      · subst hy
        by_cases hc : chk G = 0
        · have HR : Hid _ := rdG_ok HN.out hc
          rw [hc] at hC
          clear hc
          go_wp2_with (first
            | (go_at_call 101; refine hC.mono ?_; rintro r w1 ⟨rfl, hb1⟩; have hT1 := hT.below hb1)
            | (go_at_call 57; refine (rfail_any hT1.rd).mono ?_; rintro r w2 ⟨rfl, hr2, hf2⟩; rw [rdFail_0] at hr2; have hT2 := hT1.step hf2 hr2; obtain ⟨p0, p1, p2, p3, p4, p5⟩ := hT2.facts)
            | (go_at_call 58; refine (err_any hT2.rd).mono ?_; rintro r w3 ⟨rfl, rfl⟩))
          obtain ⟨d2, d3⟩ := hT2.none_ (.slice ao m c)
          obtain ⟨_, d4⟩ := hT2.done (.slice ao m c)
          refine bodyPost_ret (v := .agg #[.slice ao m c]) (by simp [results, Tryz.results54, go_sem, p2]) rfl ?_
          rw [HR.out]
          exact ⟨ao, c, by rw [HM.out], d4, d2, d3⟩
        · have HR : Hid _ := rdG_chk HN.out hc
          have hc0 : (chk G == 0) = false := by rw [beq_eq_false_iff_ne]; exact hc
          go_wp2_with (first
            | (go_at_call 101; refine hC.mono ?_; rintro r w1 ⟨rfl, hb1⟩; have hT1 := hT.below hb1)
            | (go_at_call 57; refine (rfail_any hT1.rd).mono ?_; rintro r w2 ⟨rfl, hr2, hf2⟩; rw [rdFail_0] at hr2; have hT2 := hT1.step hf2 hr2; obtain ⟨p0, p1, p2, p3, p4, p5⟩ := hT2.facts)
            | (go_at_call 58; refine (err_any hT2.rd).mono ?_; rintro r w3 ⟨rfl, rfl⟩))
          obtain ⟨d2, d3⟩ := hT2.none_ (.slice none 0 0)
          refine bodyPost_ret (v := .agg #[.slice none 0 0]) (by simp [results, Tryz.results54, go_sem, p2]) rfl ?_
          rw [HR.out]
          exact ⟨none, 0, rfl, fun h => absurd h (by simp), d2, d3⟩
      · have HR : Hid _ := rdG_bad HN.out hy
        have hy0 : (y == 0) = false := by rw [beq_eq_false_iff_ne]; exact hy
        have HF : Hid _ := rdFail_e hy (chk G)
        go_wp2_with (first
          | (go_at_call 101; refine hC.mono ?_; rintro r w1 ⟨rfl, hb1⟩; have hT1 := hT.below hb1)
          | (go_at_call 57; refine (rfail_any hT1.rd).mono ?_; rintro r w2 ⟨rfl, hr2, hf2⟩; rw [HF.out] at hr2; have hT2 := hT1.step hf2 hr2; obtain ⟨p0, p1, p2, p3, p4, p5⟩ := hT2.facts)
          | (go_at_call 58; refine (err_any hT2.rd).mono ?_; rintro r w3 ⟨rfl, rfl⟩))
        obtain ⟨d2, d3⟩ := hT2.none_ (.slice none 0 0)
        refine bodyPost_ret (v := .agg #[.slice none 0 0]) (by simp [results, Tryz.results54, go_sem, p2]) rfl ?_
        rw [HR.out]
        exact ⟨none, 0, rfl, fun h => absurd h (by simp), d2, d3⟩
end Go.Proofs.YthkfbaoeimjgaaaGreat
