import Derived.Test.YtfidojdolbmjdaaGrTake2M
import Derived.Deep.RegionLaw
import Derived.BigRegion
/- What Ref returns: the same graph, in new memory. -/
namespace Go.Proofs.Ytfidojdolbmjdaa
open Go.RowKit

/-- One append onto a row of the call's own, as one step of a region that draws. -/
theorem step_append_own {P : Program} {ops : Array Oper} {o : Oper} {a : Act} {w : World} {K : Act → World → Prop} {Q : Exit → Act → World → Prop} {E : Prop}
    (hg : o.guard = none) (s x : Operand) (t : TypeId) (hop : o.op = .call { callee := .builtin .append, args := #[s, x], argTypes := #[t, t] })
    (base : Nat) (e : TypeId) (i : TypeInfo) (z : Value) (size bytes : Nat) (ht : P.underlying t = some (.slice e)) (hi : P.info? e = some i) (hz : i.zero = some z)
    (hsize : i.size = size) (hby : i.bytes = bytes) (hzs : z.cells.size = size) (hsz : 0 < size)
    (v : Value) (n : Nat) (xs : List Value) (hs : a.eval s = v) (hown : w.ownsRow base e size v n xs)
    (ad : Addr) (m c : Nat) (news : List Value) (hx : a.eval x = .slice (some ad) m c) (hl : news.length = m * size) (hnews : ∀ j u, news[j]? = some u → w.cell? (ad.add j) = some u) (h1 : ∀ u ∈ news, u.oneCell' = true)
    (h63 : n + m ≤ maxLen) (hbytes : (n + m) * bytes ≤ 140737488355328) (hbase : base ≤ w.heap.size)
    (h : ∀ v' w', w'.ownsRow base e size v' (n + m) (xs ++ news) → w.grownBy w' v.ownBlock → (v'.ownBlock = v.ownBlock ∨ v'.ownBlock = some w.heap.size) → K (a.put o.dst v') w') :
    if Region.wanted o (yielded ops a.tmps) = true then Oper.wp P o a w K Q else E := by
  have hw : Region.wanted o (yielded ops a.tmps) = true := by simp [Region.wanted, hg]
  rw [if_pos hw]
  obtain ⟨v', w', hr, h2, h3, _, h5⟩ := run_append_own_at (P := P) w base t o.type e i z size bytes ht hi hz hsize hby hzs hsz v n xs hown ad m c news hl hnews h1 h63 hbytes hbase
  unfold Oper.wp execOp
  simp only [hop, resolve, invoke, builtin, Sem.run_bind, Sem.run_pure, Result.andThen_ok, List.map_toArray, List.map_cons, List.map_nil, hs, hx, hr]
  exact h v' w' h2 h3 h5
theorem own_new {w w' : World} {base : Nat} {e : TypeId} {size : Nat} {v : Value} {n : Nat} {xs : List Value} (h : w.ownsRow base e size v n xs) (hb : Below w.heap.size w w') : w'.ownsRow base e size v n xs := by
  refine ⟨h.1, ?_⟩
  rcases h.2 with hn | ⟨g, cap, cur, rfl, hbs, hgg, rest⟩
  · exact Or.inl hn
  · exact Or.inr ⟨g, cap, cur, rfl, hbs, (hb.block g (lt_of_block hgg)).trans hgg, rest⟩
theorem VRow.new {w w' : World} {base : Nat} {t : TypeId} {sv : Value} {G : List Vx} (h : VRow w base t sv G) (hb : Below w.heap.size w w') : VRow w' base t sv G := by
  obtain ⟨M, hl, ho, he⟩ := h.row
  exact ⟨M, hl, own_new ho hb, fun j h h' => (he j h h').new hb⟩
theorem infoREdge : (Try.prog.info? 42).map (fun i => (i.zero, i.size, i.bytes)) = some (some (.agg #[.int .i64 0, .int .i64 0]), 2, 16) := by kernel_rfl
theorem infoRVx : (Try.prog.info? 40).map (fun i => (i.zero, i.size, i.bytes)) = some (some (.agg #[.int .i64 0, .int .i64 0, .slice none 0 0]), 3, 40) := by kernel_rfl
theorem own_empty {w : World} {base : Nat} {t : TypeId} {size : Nat} (hb : base ≤ w.heap.size) : (w.alloc (.cells #[] t)).ownsRow base t size (.slice (some ⟨w.heap.size, 0, none⟩) 0 0) 0 [] := World.ownsRow_made w #[] 0 hb (by decide) (by simp)
theorem VRow.empty {w : World} {base : Nat} {t : TypeId} (hb : base ≤ w.heap.size) : VRow (w.alloc (.cells #[] t)) base t (.slice (some ⟨w.heap.size, 0, none⟩) 0 0) [] := ⟨[], rfl, own_empty hb, fun j h => absurd h (by simp)⟩
/-- Between two edges of a vertex. -/
structure RI (wo wx : World) (bv bx : Nat) (y : Vx) (eo : Option Addr) (ec : Nat) (ev : Value) (L : List Ed) : Prop where
  low : Below wo.heap.size wo wx
  vb : wx.heap[bv]? = some (.cells #[.int .i64 y.id, .int .i64 y.val, .slice eo y.es.length ec] 56 (0, 0))
  xb : wx.heap[bx]? = some (.cells #[.int .i64 y.id, .int .i64 y.val, ev] 40 (0, 0))
  own : wx.ownsRow (bx + 1) 42 2 ev L.length (ecs L)
  h1 : wo.heap.size ≤ bv
  h2 : bv < bx
section
variable {wo wx : World} {bv bx : Nat} {y : Vx} {eo : Option Addr} {ec : Nat} {ev : Value} {L : List Ed}
theorem RI.new (h : RI wo wx bv bx y eo ec ev L) {w1 : World} (hb : Below wx.heap.size wx w1) : RI wo w1 bv bx y eo ec ev L :=
  ⟨h.low.trans (hb.mono h.low.size), (hb.block _ (lt_of_block h.vb)).trans h.vb, (hb.block _ (lt_of_block h.xb)).trans h.xb, own_new h.own hb, h.h1, h.h2⟩
theorem RI.app (h : RI wo wx bv bx y eo ec ev L) {w1 : World} {ev' : Value} {x z : Int} (ho : w1.ownsRow (bx + 1) 42 2 ev' (L.length + 1) (ecs L ++ [.int .i64 x, .int .i64 z])) (hg : wx.grownBy w1 ev.ownBlock) : RI wo (w1.setCell ⟨bx, 2, none⟩ ev') bv bx y eo ec ev' (L ++ [⟨x, z⟩]) := by
  have h1 := h.h1
  have h2 := h.h2
  have f1 : Fr wx w1 (fun k => ev.ownBlock = some k) := Fr.grown hg (fun k hk => hk)
  have f2 : Fr w1 (w1.setCell ⟨bx, 2, none⟩ ev') (fun k => k = bx) := Fr.setCell (S := fun k => k = bx) w1 ⟨bx, 2, none⟩ ev' rfl
  have f : Fr wx (w1.setCell ⟨bx, 2, none⟩ ev') (fun k => bx ≤ k) := (f1.mono (T := fun k => bx ≤ k) (fun k _ hk => by have := (h.own.lt k hk).1; omega)).trans f2 (fun k _ hk => Nat.le_of_eq hk.symm)
  have hxb := (f1.block bx (lt_of_block h.xb) (fun hk => by have := (h.own.lt _ hk).1; omega)).trans h.xb
  refine ⟨h.low.trans (f.below (B := wo.heap.size) h.low.size (fun k hk => by omega)), (f.block bv (lt_of_block h.vb) (by omega)).trans h.vb, set3_2 hxb _, ?_, h.h1, h.h2⟩
  rw [ecs_snoc, List.length_append]
  exact ownsRow_setCell_other ho (fun e => Nat.lt_irrefl bx (ho.lt bx e).1) _
theorem RI.grew (h : RI wo wx bv bx y eo ec ev L) {w1 : World} (hg : wx.grownBy w1 ev.ownBlock) : w1.cell? ⟨bx, 2, none⟩ = some ev ∧ w1.frozen? ⟨bx, 2, none⟩ = false := by
  have f1 : Fr wx w1 (fun k => ev.ownBlock = some k) := Fr.grown hg (fun k hk => hk)
  have hxb := (f1.block bx (lt_of_block h.xb) (fun hk => by have := (h.own.lt _ hk).1; omega)).trans h.xb
  exact ⟨(box3 hxb).2.2, froz hxb⟩
theorem RI.facts (h : RI wo wx bv bx y eo ec ev L) : wx.cell? ⟨bv, 0, none⟩ = some (.int .i64 y.id) ∧ wx.cell? ⟨bv, 1, none⟩ = some (.int .i64 y.val) ∧ wx.cell? ⟨bv, 2, none⟩ = some (.slice eo y.es.length ec) ∧ wx.cell? ⟨bx, 0, none⟩ = some (.int .i64 y.id) ∧ wx.cell? ⟨bx, 1, none⟩ = some (.int .i64 y.val) ∧ wx.cell? ⟨bx, 2, none⟩ = some ev ∧ wx.frozen? ⟨bx, 2, none⟩ = false ∧ bv < wx.heap.size ∧ bx < wx.heap.size := by
  obtain ⟨a0, a1, a2⟩ := box3 h.vb
  obtain ⟨b0, b1, b2⟩ := box3 h.xb
  exact ⟨a0, a1, a2, b0, b1, b2, froz h.xb, lt_of_block h.vb, lt_of_block h.xb⟩
end

set_option maxRecDepth 100000 in
set_option maxHeartbeats 16000000 in
theorem ref_any {w : World} {P : Nat → Prop} {ao : Option Addr} (G : List Vx) (cap : Nat) (hG : VxAt w P ao G) (hok : ∀ v ∈ G, v.ok) (hl : G.length * 40 ≤ 140737488355328) :
    Calls Try.prog 9 #[.agg #[.slice ao G.length cap]] w fun r w' => ∃ bo c, r = .returned (.slice bo G.length c) ∧ VxAt w' (fun k => w.heap.size ≤ k) bo G ∧ Below w.heap.size w w' := by
  obtain ⟨i0, hi, hz0, hz1, hz2⟩ := info_parts infoREdge
  obtain ⟨i1, hj1, hy0, hy1, hy2⟩ := info_parts infoRVx
  have HG : Hid (VxAt w P ao G) := hG
  clear hG
  go_enter Try.func9, Try.ntmps9
  go_wp2
  go_loopw [3, 4, 5, 6, 7] (fun u i _ _ _ wr => ∃ (j : Nat), j ≤ G.length ∧ i = .int .i64 j ∧ VRow wr (w.heap.size + 1) 40 u (G.take j) ∧ wr.heap[w.heap.size]? = some (.cells #[.slice ao G.length cap] 24 (0, 0)) ∧ Below w.heap.size w wr) (fun _ i _ _ _ _ => G.length - (intOf i).toNat)
  case atStart =>
    refine ⟨0, Nat.zero_le _, rfl, ?_, (Below.heap_alloc _ _ _ (by simp)).trans (heap_alloc_new _ _), b2 _ _ _⟩
    have := VRow.empty (w := w.alloc (.cells #[.slice ao G.length cap] 24)) (base := w.heap.size + 1) (t := 40) (by simp)
    rw [World.size_alloc] at this
    exact this
  case round =>
    obtain ⟨j, hj, rfl, hRow, hgb, hb⟩ := hrel
    have c0 := cell_of_one hgb
    have hl0 := lt_of_block hgb
    by_cases hlt : j < G.length
    · obtain ⟨b, off, rfl, hP, hc⟩ := HG.out (by omega)
      obtain ⟨eo, ec, e0, e1, e2, e3⟩ := hc j hlt
      have hbb := lt_cell e0
      have d0 := (hb.cell (p := ⟨b, off + j * 3, none⟩) hbb).trans e0
      have d1 := (hb.cell (p := ⟨b, off + j * 3 + 1, none⟩) hbb).trans e1
      have d2 := (hb.cell (p := ⟨b, off + j * 3 + 2, none⟩) hbb).trans e2
      have HE : Hid (EdAt w P eo G[j].es) := e3
      have hlen : G[j].es.length ≤ 8796093022208 := (hok _ (List.getElem_mem hlt)).len
      have HS : Hid (G.take (j + 1) = G.take j ++ [G[j]]) := List.take_succ_eq_append_getElem hlt
      generalize G[j] = y at d0 d1 d2 HE hlen HS
      clear e0 e1 e2 e3 hc
      obtain ⟨wo, rfl⟩ : ∃ wo, wo = wr := ⟨_, rfl⟩
      have HR : Hid (VRow wo (w.heap.size + 1) 40 u3 (G.take j)) := hRow
      have hgo := hgb
      obtain ⟨bv, hbv⟩ : ∃ bv, wo.heap.size = bv := ⟨_, rfl⟩
      have hRI : RI wo ((wo.alloc (.cells #[.int .i64 y.id, .int .i64 y.val, .slice eo y.es.length ec] 56)).alloc (.cells #[.int .i64 y.id, .int .i64 y.val, .slice none 0 0] 40)) bv (bv + 1) y eo ec (.slice none 0 0) [] := by
        rw [← hbv]
        refine ⟨b2 _ _ _, (Below.heap_alloc _ _ _ (by simp)).trans (heap_alloc_new _ _), ?_, World.ownsRow_nil _ _ _ _, Nat.le_refl _, by omega⟩
        have := heap_alloc_new (wo.alloc (.cells #[.int .i64 y.id, .int .i64 y.val, .slice eo y.es.length ec] 56)) (.cells #[.int .i64 y.id, .int .i64 y.val, .slice none 0 0] 40)
        rw [World.size_alloc] at this
        exact this
      have HI : Hid _ := hRI
      clear hRI hRow hgo
      go_wp2
      go_loopw [7] (fun i wx => ∃ (k : Nat) (ev : Value), k ≤ y.es.length ∧ i = .int .i64 k ∧ RI wo wx bv (bv + 1) y eo ec ev (y.es.take k)) (fun i _ => y.es.length - (intOf i).toNat)
      case atStart => exact ⟨0, _, Nat.zero_le _, rfl, HI.out⟩
      case round =>
        obtain ⟨k, ev, hk, rfl, hX⟩ := hrel
        obtain ⟨a0, a1, a2, x0, x1, x2, x3, x4, x5⟩ := hX.facts
        have hbw : Below w.heap.size w wr := hb.trans (hX.low.mono hb.size)
        have g0 : wr.cell? ⟨w.heap.size, 0, none⟩ = some (.slice (some ⟨b, off, none⟩) G.length cap) := (hX.low.cell (p := ⟨w.heap.size, 0, none⟩) hl0).trans c0
        obtain ⟨fo, m, c, rfl⟩ := own_any hX.own
        by_cases hkl : k < y.es.length
        · obtain ⟨eb, eoff, rfl, hPe, hce⟩ := HE.out (by omega)
          have f0 := (hbw.cell (p := ⟨eb, eoff + k * 2, none⟩) (lt_cell (hce k hkl).1)).trans (hce k hkl).1
          have f1 := (hbw.cell (p := ⟨eb, eoff + k * 2 + 1, none⟩) (lt_cell (hce k hkl).1)).trans (hce k hkl).2
          have HT : Hid (y.es.take (k + 1) = y.es.take k ++ [y.es[k]]) := List.take_succ_eq_append_getElem hkl
          have HL : Hid ((y.es.take k).length = k) := by show _ = _; rw [List.length_take]; omega
          generalize y.es[k] = z at f0 f1 HT
          have HX : Hid _ := hX
          clear hX hce
          go_wp2
          go_region_law
            ((refine step_append_own rfl (.tmp 34) (.tmp 48) 38 rfl (bv + 1 + 1) 42 i0 (.agg #[.int .i64 0, .int .i64 0]) 2 16 Try.underlying38 hi hz0 hz1 hz2 rfl (by decide) (.slice fo m c) _ _ (by simp [Act.eval]) ((HX.out.new ((Below.refl _ _).drew)).new (one_new _ _)).own ⟨wr.heap.size, 0, none⟩ 1 1 [.int .i64 z.t, .int .i64 z.w] (by simp [Act.eval]) rfl (two_new (heap_alloc_new _ _)) (by intro u hu; simp at hu; rcases hu with rfl | rfl <;> rfl) (by rw [HL.out]; unfold maxLen; omega) (by rw [HL.out]; omega) (by simp; omega) ?_; intro v' w1 hown' hgrow hat; have hT4 := ((HX.out.new ((Below.refl _ _).drew)).new (one_new _ _)).app hown' hgrow; obtain ⟨q1, q2⟩ := ((HX.out.new ((Below.refl _ _).drew)).new (one_new _ _)).grew hgrow; obtain ⟨ao', m', c', rfl⟩ := own_any hown'; have H4 : Hid _ := hT4; clear hT4 hown' hgrow hat))
          all_goals
            go_wp2
            go_roundw
            case rel => exact ⟨k + 1, _, by omega, by go_num, by rw [HT.out]; exact H4.out⟩
            case measure => simp [intOf]; omega
        · obtain rfl : k = y.es.length := by omega
          rw [List.take_length] at hX
          obtain ⟨hm, hEd⟩ := own_eds hX.own
          subst hm
          have HU : Hid (∃ uo um uc, u3 = .slice uo um uc) := HR.out.any
          obtain ⟨uo, um, uc, rfl⟩ := HU.out
          have hRn := (HR.out.new hX.low).new (one_new wr (.cells #[.int .i64 y.id, .int .i64 y.val, .slice fo y.es.length c] 40))
          have hEn : EdAt (wr.alloc (.cells #[.int .i64 y.id, .int .i64 y.val, .slice fo y.es.length c] 40)) (fun k => w.heap.size + 1 ≤ k ∧ (Value.slice uo um uc).ownBlock ≠ some k) fo y.es := (hEd.new (one_new wr _)).mono (fun k _ hk => ⟨by have := hk.1; omega, fun e => by have := (HR.out.lt k e).2; have := hk.1; omega⟩)
          obtain ⟨M, ho, hgo2⟩ := hRn.app (ec := c) hEn
          have HL : Hid ((G.take j).length = j) := by show _ = _; rw [List.length_take]; omega
          have HX : Hid _ := hX
          have hnew := heap_alloc_new wr (.cells #[.int .i64 y.id, .int .i64 y.val, .slice fo y.es.length c] 40)
          clear hX hEd hRn hEn
          go_wp2_with (at_builtin; refine wpList_append_own_at _ rfl _ _ 28 rfl (w.heap.size + 1) 40 i1 (.agg #[.int .i64 0, .int .i64 0, .slice none 0 0]) 3 40 Try.underlying28 hj1 hy0 hy1 hy2 rfl (by decide) _ _ _ rfl ho ⟨wr.heap.size, 0, none⟩ 1 1 [.int .i64 y.id, .int .i64 y.val, .slice fo y.es.length c] rfl rfl ?c1 ?c2 ?c3 ?c4 ?c5 ?_)
          case c1 => exact three_new hnew
          case c2 => intro u hu; simp at hu; rcases hu with rfl | rfl | rfl <;> rfl
          case c3 => rw [HL.out]; unfold maxLen; omega
          case c4 => rw [HL.out]; omega
          case c5 => have := hbw.size; simp; omega
          · intro v' w4 hown' hgrow _ hat
            have hR4 := hgo2 w4 v' (by rw [HL.out]; exact hown') hgrow (by simpa using hat)
            have hb4 : Below w.heap.size w w4 := (hbw.alloc hbw.size _).grown hgrow (by have := hbw.size; simp; omega) (fun q hq => by have := (HR.out.lt q hq).1; omega)
            have hg4 : w4.heap[w.heap.size]? = some (.cells #[.slice (some ⟨b, off, none⟩) G.length cap] 24 (0, 0)) := (hgrow.block w.heap.size (by have := hbw.size; have := HX.out.low.size; simp; omega) (fun e => by have := (HR.out.lt _ e.symm).1; omega)).trans ((Below.heap_alloc _ _ _ (by have := HX.out.low.size; omega)).trans ((HX.out.low.block _ hl0).trans hgb))
            obtain ⟨ao', m', c', rfl⟩ := own_any hown'
            have H4 : Hid _ := hR4
            have H5 : Hid _ := hg4
            clear hR4 hg4 hown' hgrow hat ho hgo2
            go_wp2
            go_roundw
            case rel => exact ⟨j + 1, by omega, by go_num, by rw [HS.out]; exact H4.out, H5.out, hb4⟩
            case measure => simp [intOf]; omega
    · obtain rfl : j = G.length := by omega
      rw [List.take_length] at hRow
      obtain ⟨bo, m, c, rfl⟩ := hRow.any
      obtain ⟨rfl, hV⟩ := hRow.at_
      go_wp2
      go_ret
      exact ⟨bo, c, rfl, hV.mono (fun k _ hk => by omega), hb⟩
end Go.Proofs.Ytfidojdolbmjdaa
