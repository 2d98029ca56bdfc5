import Derived.Test.YtnhijofnhflklaaGreatCbBoxM
import Derived.Deep.Cut
import Derived.Deep.DeepCutAuto
import Derived.Deep.RegionHeldLaw
import Derived.BigRegion
import Derived.Test.YtnhijofnhflklaaGreatMuDoM
import Derived.Test.YtnhijofnhflklaaGreatProg
import Derived.Maps.OwnSet
import Derived.WalkKit
import Derived.OwnWalk
import Derived.Test.YtnhijofnhflklaaGreatRegUM
section
/- What Put does to a box. -/
namespace Go.Proofs.YtnhijofnhflklaaGreat
open Go.RowKit Go.Maps
theorem infoMsg : (Tryz.prog.info? 93).map (fun i => (i.zero, i.size, i.bytes)) = some (some (.agg #[.int .i64 0, .int .i64 0, .int .i64 0, .int .i64 0]), 4, 32) := by kernel_rfl
theorem bx_one {W : World} {b : Nat} {t : TypeId} {u0 : Value} (h : W.heap[b]? = some (.cells #[u0] t (0, 0))) : W.cell? ⟨b, 0, none⟩ = some u0 ∧ W.frozen? ⟨b, 0, none⟩ = false := by
  refine ⟨?_, ?_⟩
  · simp [World.cell?, h]
  · simp [World.frozen?, h]
/-- One append onto a row of the call's own, as one step of a region that draws. -/
theorem m_step_append {P : Program} {ops : Array Oper} {o : Oper} {a : Act} {w : World} {K : Act → World → Prop} {Q : Exit → Act → World → Prop} {E : Prop}
    (hg : o.guard = none) (s x : Operand) (t : TypeId) (hop : o.op = .call { callee := .builtin .append, args := #[s, x], argTypes := #[t, t] })
    (base : Nat) (e : TypeId) (i : TypeInfo) (z : Value) (size bytes : Nat) (ht : P.underlying t = some (.slice e)) (hi : P.info? e = some i) (hz : i.zero = some z)
    (hsize : i.size = size) (hby : i.bytes = bytes) (hzs : z.cells.size = size) (hsz : 0 < size)
    (v : Value) (n : Nat) (xs : List Value) (hs : a.eval s = v) (hown : w.ownsRow base e size v n xs)
    (ad : Addr) (m c : Nat) (news : List Value) (hx : a.eval x = .slice (some ad) m c) (hl : news.length = m * size) (hnews : ∀ j u, news[j]? = some u → w.cell? (ad.add j) = some u) (h1 : ∀ u ∈ news, u.oneCell' = true)
    (h63 : n + m ≤ maxLen) (hbytes : (n + m) * bytes ≤ 140737488355328) (hbase : base ≤ w.heap.size)
    (h : ∀ v' w', w'.ownsRow base e size v' (n + m) (xs ++ news) → w.grownBy w' v.ownBlock → (v'.ownBlock = v.ownBlock ∨ v'.ownBlock = some w.heap.size) → K (a.put o.dst v') w') :
    if Region.wanted o (yielded ops a.tmps) = true then Oper.wp P o a w K Q else E := by
  have hw : Region.wanted o (yielded ops a.tmps) = true := by simp [Region.wanted, hg]
  rw [if_pos hw]
  obtain ⟨v', w', hr, h2, h3, _, h5⟩ := run_append_own_at (P := P) w base t o.type e i z size bytes ht hi hz hsize hby hzs hsz v n xs hown ad m c news hl hnews h1 h63 hbytes hbase
  unfold Oper.wp execOp
  simp only [hop, resolve, invoke, builtin, Sem.run_bind, Sem.run_pure, Result.andThen_ok, List.map_toArray, List.map_cons, List.map_nil, hs, hx, hr]
  exact h v' w' h2 h3 h5
theorem m_lt {w : World} {g : Nat} {o : Obj} (h : w.heap[g]? = some o) : g < w.heap.size := (Array.getElem?_eq_some_iff.1 h).1
theorem m_set1 {w : World} {b : Nat} {t : TypeId} {u0 : Value} (h : w.heap[b]? = some (.cells #[u0] t (0, 0))) (x : Value) : (w.setCell ⟨b, 0, none⟩ x).heap[b]? = some (.cells #[x] t (0, 0)) := by
  have hlt := m_lt h
  have h' : w.heap[b] = .cells #[u0] t (0, 0) := by simpa [Array.getElem?_eq_getElem hlt] using h
  show (w.heap.modify b _)[b]? = _
  rw [Array.getElem?_eq_getElem (by simpa using hlt), Array.getElem_modify_self, h']
  rfl
theorem m_four {W : World} {b : Nat} {t : TypeId} {x y z u0 : Value} (h : W.heap[b]? = some (.cells #[x, y, z, u0] t (0, 0))) : ∀ (j : Nat) (u : Value), [x, y, z, u0][j]? = some u → W.cell? ((⟨b, 0, none⟩ : Addr).add j) = some u := by
  intro j u hu
  have hadd : (⟨b, 0, none⟩ : Addr).add j = ⟨b, j, none⟩ := by unfold Addr.add; split <;> simp_all
  rw [hadd]
  simp [World.cell?, h]
  simpa using hu
theorem m_cells {W : World} {b : Nat} {t : TypeId} {x y z u0 : Value} (h : W.heap[b]? = some (.cells #[x, y, z, u0] t (0, 0))) : W.cell? ⟨b, 0, none⟩ = some x ∧ W.cell? ⟨b, 1, none⟩ = some y ∧ W.cell? ⟨b, 2, none⟩ = some z ∧ W.cell? ⟨b, 3, none⟩ = some u0 := by
  simp [World.cell?, h]
theorem zeroSl (w : World) : (zeroValue 87).run Tryz.prog w = .ok (.slice none 0 0) w := by kernel_rfl
theorem msgOne (y : Msg) : ∀ u ∈ msgCells y, u.oneCell' = true := by
  intro u hu
  simp [msgCells] at hu
  rcases hu with rfl | rfl | rfl | rfl <;> rfl
theorem m_five {W : World} {b q M : Nat} {y : Msg} (hb : W.cell? ⟨b, 0, none⟩ = some (.map (some M))) (hq : W.heap[q]? = some (.cells #[.int .i64 y.f, .int .i64 y.t, .int .i64 y.a, .int .i64 y.v] 93 (0, 0))) :
    W.cell? ⟨b, 0, none⟩ = some (.map (some M)) ∧ W.cell? ⟨q, 0, none⟩ = some (.int .i64 y.f) ∧ W.cell? ⟨q, 1, none⟩ = some (.int .i64 y.t) ∧ W.cell? ⟨q, 2, none⟩ = some (.int .i64 y.a) ∧ W.cell? ⟨q, 3, none⟩ = some (.int .i64 y.v) := ⟨hb, m_cells hq⟩
theorem Mo.snoc {w : World} {t : TypeId} {v : Value} {L : List Msg} {y : Msg} (h : w.ownsRow 0 t 4 v (L.length + 1) (L.flatMap msgCells ++ msgCells y)) : Mo w t v (L ++ [y]) := by
  unfold Mo
  rw [List.length_append, List.flatMap_append]
  simpa using h
theorem MP.notBox {w : World} {S : Nat → Prop} {M N : Nat} {D : DataW Value} {B : List Msg} (h : MP w S M N D B) {b : Nat} {cs : Array Value} (hb : w.heap[b]? = some (.cells cs 210 (0, 0))) : M ≠ b ∧ ∀ id k, (hdOf D id).ownBlock = some k → k ≠ b := by
  constructor
  · rintro rfl
    obtain ⟨es, clock, hm, _⟩ := h.own
    rw [hb] at hm
    cases hm
  · rintro id k hk rfl
    obtain ⟨cur, hc⟩ := (h.rows id).tag k hk
    rw [hb] at hc
    cases hc
/-- What a look-up gives. -/
theorem MP.look {w : World} {S : Nat → Prop} {M N : Nat} {D : DataW Value} {B : List Msg} (h : MP w S M N D B) {id : Int} (hid : I64 id) : Sem.run Tryz.prog (Instr.lookup 208 (.map (some M)) (.int .i64 id) false) w = .ok (hdOf D id) w := by
  obtain ⟨v, ps, hr, hv⟩ := h.own.lookup law64 Tryz.underlying208 (zeroSl w) (zd := .held nilS) (zp := []) rfl (keyOf_i64 hid)
  rw [hr, ← hd_of hv]
/-- What a store does. -/
theorem MP.store {w w1 : World} {S : Nat → Prop} {M N : Nat} {D : DataW Value} {B : List Msg} (h : MP w S M N D B) (hN : N < 9223372036854775807) {m : Msg} (hid : I64 m.t) {v' : Value}
    (hg : w.grownBy w1 (hdOf D m.t).ownBlock) (hrow : Mo w1 93 v' (toV B m.t ++ [m])) (hloc : v'.ownBlock = (hdOf D m.t).ownBlock ∨ v'.ownBlock = some w.heap.size) (hnew : ∀ k, w.heap.size ≤ k → S k) :
    ∃ w2 D2, Sem.run Tryz.prog (Instr.mapUpdate 208 (.map (some M)) (.int .i64 m.t) v') w1 = .ok () w2 ∧ MP w2 S M (N + 1) D2 (B ++ [m]) ∧ w1.grownBy w2 (some M) := by
  have hown1 : w1.ownsMap Tryz.prog 2 heldR M N D := h.own.kept hg (by
    rcases h.mapRow m.t with e | e
    · rw [e]; simp
    · exact fun e' => e e'.symm)
  obtain ⟨w2, hr, hown, hg2⟩ := hown1.update law64 Tryz.underlying208 (by unfold maxLen; omega) (keyOf_i64 hid) (d := .held v') (ps := []) rfl
  exact ⟨w2, _, hr, h.put hg hrow (hloc.imp id (fun e => ⟨_, e, Nat.le_refl _⟩)) hnew hown hg2, hg2⟩
theorem map_nil {t k e : TypeId} (ht : Tryz.prog.underlying t = some (.map k e)) (w : World) (p : Option Nat) : (binOp .eql t (.map p) (.map none)).run Tryz.prog w = .ok (.bool p.isNone) w := by
  have h1 : ∀ d, (Op.equalIn (d + 1) t (.map p) (.map none)).run Tryz.prog w = .ok p.isNone w := fun d => by
    cases p <;> simp [Op.equalIn, run_underlying ht]
  simp only [binOp]
  simp [show Op.equal t (.map p) (.map none) = Op.equalIn (9999 + 1) t (.map p) (.map none) from rfl, h1 9999]
set_option maxRecDepth 100000 in
set_option maxHeartbeats 1000000 in
theorem put_loop {w : World} {S : Nat → Prop} {b M N : Nat} {D : DataW Value} {B : List Msg} (hbx : w.heap[b]? = some (.cells #[.map (some M)] 210 (0, 0))) (hSb : S b) (hM : MP w S M N D B) (l : List Msg) (ao : Option Addr) (cap : Nat) (hl : MsAt w (fun k => ¬ S k) ao l) (hok : ∀ m ∈ l, m.ok) (hN : N + l.length < 9223372036854775807) (hB : (B.length + l.length) * 32 ≤ 140737488355328) :
    Calls Tryz.prog 144 #[.pointer (some ⟨b, 0, none⟩), .slice ao l.length cap] w fun r w' => r = .returned (.int .i64 0) ∧ BX w' (fun k => S k ∨ w.heap.size ≤ k) b (N + l.length) (B ++ l) ∧ Fr w w' S := by
  obtain ⟨i0, hi, hz0, hz1, hz2⟩ := info_parts infoMsg
  have HL : Hid (MsAt w (fun k => ¬ S k) ao l) := hl
  have HOk : Hid (∀ m ∈ l, m.ok) := hok
  have HM : Hid _ := hM
  have HSb : Hid _ := hSb
  have HB : Hid _ := hbx
  obtain ⟨p0, p1⟩ := bx_one hbx
  have hq := fun w => map_nil Tryz.underlying208 w (some M)
  clear hl hok hM hSb hbx
  go_enter Tryz.func144, Tryz.ntmps144
  go_wp2
  go_loopw [6, 20] (fun _ i wr => ∃ (j : Nat) (D' : DataW Value), j ≤ l.length ∧ i = .int .i64 j ∧ wr.heap[b]? = some (.cells #[.map (some M)] 210 (0, 0)) ∧ MP wr (fun k => S k ∨ w.heap.size ≤ k) M (N + j) D' (B ++ l.take j) ∧ Fr w wr S) (fun _ i _ => l.length - (intOf i).toNat)
  case atStart =>
    refine ⟨0, D, Nat.zero_le _, rfl, HB.out, ?_, Fr.refl _ _⟩
    rw [List.take_zero, List.append_nil]
    exact HM.out.mono (fun k _ h => Or.inl h)
  case round =>
    obtain ⟨j, D', hj, rfl, hb, hmp, hf⟩ := hrel
    by_cases hlt : j < l.length
    · obtain ⟨g, off, rfl, hP, hc⟩ := HL.out (by omega)
      obtain ⟨e0, e1, e2, e3⟩ := hc j hlt
      have d0 := fr_cell hf hP e0
      have d1 := fr_cell hf hP e1
      have d2 := fr_cell hf hP e2
      have d3 := fr_cell hf hP e3
      have oky := HOk.out _ (List.getElem_mem hlt)
      have HS : Hid (l.take (j + 1) = l.take j ++ [l[j]]) := List.take_succ_eq_append_getElem hlt
      generalize l[j] = y at d0 d1 d2 d3 oky HS
      obtain ⟨c0, c1⟩ := bx_one hb
      have HMP : Hid _ := hmp
      have HF : Hid _ := hf
      have HBl : Hid _ := hb
      clear e0 e1 e2 e3 hc hmp hf hb
      go_upto_region 8 with (fail)
      have hq1 : (wr.alloc (.cells #[.int .i64 y.f, .int .i64 y.t, .int .i64 y.a, .int .i64 y.v] 93)).heap[wr.heap.size]? = some (.cells #[.int .i64 y.f, .int .i64 y.t, .int .i64 y.a, .int .i64 y.v] 93 (0, 0)) := heap_alloc_new _ _
      have hM1 := HMP.out.new ((Below.refl wr.heap.size wr).alloc (Nat.le_refl _) (.cells #[.int .i64 y.f, .int .i64 y.t, .int .i64 y.a, .int .i64 y.v] 93))
      have hb1 := (Below.heap_alloc wr (.cells #[.int .i64 y.f, .int .i64 y.t, .int .i64 y.a, .int .i64 y.v] 93) b (m_lt HBl.out)).trans HBl.out
      have hf1 : Fr w (wr.alloc (.cells #[.int .i64 y.f, .int .i64 y.t, .int .i64 y.a, .int .i64 y.v] 93)) S := HF.out.trans (Fr.alloc _ _ _) (fun _ _ h => h)
      have hsz : w.heap.size ≤ wr.heap.size := HF.out.size
      have hbq : b ≠ wr.heap.size := by have := m_lt HBl.out; omega
      have HHq : Hid (M < wr.heap.size) := HMP.out.own.lt
      have HHd : Hid (M ≠ b ∧ (S M ∨ w.heap.size ≤ M) ∧ ∀ k, (hdOf D' y.t).ownBlock = some k → (S k ∨ w.heap.size ≤ k) ∧ k ≠ b ∧ k < wr.heap.size) := by
        have := HMP.out.notBox HBl.out
        exact ⟨this.1, HMP.out.inS, fun k hk => ⟨HMP.out.rowS _ _ hk, this.2 _ _ hk, (HMP.out.rows y.t).lt k hk⟩⟩
      generalize wr.alloc _ = W at hq1 hM1 hb1 hf1 ⊢
      generalize wr.heap.size = q at hq1 hsz hbq HHd HHq ⊢
      have hlk0 : Sem.run Tryz.prog (Instr.lookup 208 (.map (some M)) (.int .i64 y.t) false) W.drew = .ok (hdOf D' y.t) W.drew := (hM1.new ((Below.refl W.heap.size W).drew)).look oky.t
      have hlk1 : Sem.run Tryz.prog (Instr.lookup 208 (.map (some M)) (.int .i64 y.t) false) (W.alloc (.cells #[.int .i64 y.f, .int .i64 y.t, .int .i64 y.a, .int .i64 y.v] 93)).drew = .ok (hdOf D' y.t) (W.alloc (.cells #[.int .i64 y.f, .int .i64 y.t, .int .i64 y.a, .int .i64 y.v] 93)).drew := (hM1.new (((Below.refl W.heap.size W).alloc (Nat.le_refl _) _).drew)).look oky.t
      have hM2 := hM1.new (((Below.refl W.heap.size W).drew).alloc (Nat.le_refl _) (.cells #[.int .i64 y.f, .int .i64 y.t, .int .i64 y.a, .int .i64 y.v] 93))
      have hrow := hM2.rows y.t
      obtain ⟨k0, k1, k2, k3⟩ := m_cells hq1
      obtain ⟨b0, b1⟩ := bx_one hb1
      have b0' : (W.alloc (.cells #[.int .i64 y.f, .int .i64 y.t, .int .i64 y.a, .int .i64 y.v] 93)).cell? ⟨b, 0, none⟩ = some (.map (some M)) := fr_cell (Fr.alloc W _ (fun _ => False)) (fun h => h) b0
      have hq2 := (Below.heap_alloc W (.cells #[.int .i64 y.f, .int .i64 y.t, .int .i64 y.a, .int .i64 y.v] 93) q (m_lt hq1)).trans hq1
      have x0 := m_five b0 hq1
      have x1 := m_five b0' hq2
      have hlen : (toV (B ++ l.take j) y.t).length ≤ B.length + j := by
        refine Nat.le_trans (List.length_filter_le _ _) ?_
        rw [List.length_append, List.length_take]; omega
      have HM2 : Hid _ := hM2
      have HRow : Hid _ := hrow
      have HQ1 : Hid _ := hq1
      have HQ2 : Hid _ := hq2
      have HB1 : Hid _ := hb1
      have HF1 : Hid _ := hf1
      have HLen : Hid _ := hlen
      have okt := oky.t
      clear hM1 hM2 hrow hq1 hq2 hb1 hf1 hlen HMP HF HBl c0 c1 d0 d1 d2 d3
      generalize hv : hdOf D' y.t = v at hlk0 hlk1
      have HV : Hid _ := hv
      clear hv
      go_region_held_law (fun w' => w'.cell? ⟨b, 0, none⟩ = some (.map (some M)) ∧ w'.cell? ⟨q, 0, none⟩ = some (.int .i64 y.f) ∧ w'.cell? ⟨q, 1, none⟩ = some (.int .i64 y.t) ∧ w'.cell? ⟨q, 2, none⟩ = some (.int .i64 y.a) ∧ w'.cell? ⟨q, 3, none⟩ = some (.int .i64 y.v)) (first | exact x3 | exact x2 | exact x1 | exact x0)
        ((refine m_step_append rfl (.tmp 36) (.tmp 38) 87 rfl 0 93 i0 (.agg #[.int .i64 0, .int .i64 0, .int .i64 0, .int .i64 0]) 4 32 Tryz.underlying87 hi hz0 hz1 hz2 rfl (by decide) v _ _ (by simp [Act.eval]) (by rw [← HV.out]; exact HRow.out) ⟨W.heap.size, 0, none⟩ 1 1 (msgCells y) (by simp [Act.eval]) rfl (m_four (heap_alloc_new _ _)) (msgOne y) (by have := HLen.out; unfold maxLen; omega) (by have := HLen.out; omega) (Nat.zero_le _) ?_; intro v' w1 hown' hgrow hat; obtain ⟨w2, D2, hst, hmp2, hg2⟩ := HM2.out.store (by omega) (m := y) okt (by rw [HV.out]; exact hgrow) (Mo.snoc hown') (by rw [HV.out]; exact hat) (fun k hk => Or.inr (by have := HF1.out.size; simp at hk; omega)); have x2 := m_five (hgrow.cell b0' (fun e => (HHd.out.2.2 b (by rw [HV.out]; exact e.symm)).2.1 rfl)) ((hgrow.block q (m_lt HQ2.out) (fun e => absurd (HHd.out.2.2 q (by rw [HV.out]; exact e.symm)).2.2 (Nat.lt_irrefl _))).trans HQ2.out); have x3 := m_five (hg2.cell x2.1 (fun e => by cases e; exact HHd.out.1 rfl)) ((hg2.block q (Nat.lt_of_lt_of_le (m_lt HQ2.out) hgrow.size) (fun e => by cases e; exact Nat.lt_irrefl _ HHq.out)).trans ((hgrow.block q (m_lt HQ2.out) (fun e => absurd (HHd.out.2.2 q (by rw [HV.out]; exact e.symm)).2.2 (Nat.lt_irrefl _))).trans HQ2.out)); have H1 : Hid _ := hmp2; have H2 : Hid _ := hg2; have H3 : Hid _ := hgrow; clear hmp2 hg2 hgrow hown' hat))
      all_goals
        have hmp3 := H1.out
        have f2 : Fr W w2 (fun k => S k ∨ w.heap.size ≤ k) := (((Fr.drew W _).trans (Fr.alloc W.drew _ _) (fun _ _ h => h)).trans (Fr.grown H3.out (fun k hk => (HHd.out.2.2 k (by rw [HV.out]; exact hk)).1)) (fun _ _ h => h)).trans (Fr.grown H2.out (fun k hk => by cases hk; exact HHd.out.2.1)) (fun _ _ h => h)
        have hf3 : Fr w w2 S := HF1.out.trans f2 (fun k hk h => h.resolve_right (by omega))
        have hb3 : w2.heap[b]? = some (.cells #[.map (some M)] 210 (0, 0)) := by
          have hlt : b < (W.drew.alloc (.cells #[.int .i64 y.f, .int .i64 y.t, .int .i64 y.a, .int .i64 y.v] 93)).heap.size := by have := m_lt HB1.out; simp; omega
          refine (H2.out.block b (Nat.lt_of_lt_of_le hlt H3.out.size) (fun e => by cases e; exact HHd.out.1 rfl)).trans ?_
          refine (H3.out.block b hlt (fun e => (HHd.out.2.2 b (by rw [HV.out]; exact e.symm)).2.1 rfl)).trans ?_
          exact (Below.heap_alloc W.drew _ b (m_lt HB1.out)).trans HB1.out
        clear hst x0 x1 x2 x3 hlk0 hlk1 b0' b0 b1 k0 k1 k2 k3
        have HH : Hid _ := hmp3
        have HI : Hid _ := hf3
        have HJ : Hid _ := hb3
        clear hmp3 hf3 hb3 f2
        go_wp2
        go_roundw
        case rel =>
          refine ⟨j + 1, D2, by omega, by go_num, HJ.out, ?_, HI.out⟩
          rw [HS.out, ← List.append_assoc, ← Nat.add_assoc]
          exact HH.out
        case measure => simp [intOf]; omega
    · obtain rfl : j = l.length := by omega
      have hX : BX wr (fun k => S k ∨ w.heap.size ≤ k) b (N + l.length) (B ++ l) := by
        rw [List.take_length] at hmp
        exact ⟨⟨_, hb, .some M D' hmp⟩, Or.inl HSb.out⟩
      have HX : Hid _ := hX
      have HF : Hid _ := hf
      clear hX hf hmp hb
      go_wp2
      go_ret
      exact ⟨rfl, HX.out, HF.out⟩
set_option maxRecDepth 100000 in
set_option maxHeartbeats 1000000 in
theorem put_none {w : World} {S : Nat → Prop} {b : Nat} (hbx : w.heap[b]? = some (.cells #[.map none] 210 (0, 0))) (hSb : S b) (l : List Msg) (ao : Option Addr) (cap : Nat) (hl : MsAt w (fun k => ¬ S k) ao l) (hok : ∀ m ∈ l, m.ok) (hN : 0 + l.length < 9223372036854775807) (hB : (([] : List Msg).length + l.length) * 32 ≤ 140737488355328) :
    Calls Tryz.prog 144 #[.pointer (some ⟨b, 0, none⟩), .slice ao l.length cap] w fun r w' => r = .returned (.int .i64 0) ∧ BX w' (fun k => S k ∨ w.heap.size ≤ k) b (0 + l.length) ([] ++ l) ∧ Fr w w' S := by
  obtain ⟨i0, hi, hz0, hz1, hz2⟩ := info_parts infoMsg
  have HL : Hid (MsAt w (fun k => ¬ S k) ao l) := hl
  have HOk : Hid (∀ m ∈ l, m.ok) := hok
  have HSb : Hid _ := hSb
  have HB : Hid _ := hbx
  obtain ⟨p0, p1⟩ := bx_one hbx
  obtain ⟨p2, p3⟩ := bx_one ((Below.heap_alloc w (.map #[] 0) b (m_lt hbx)).trans hbx)
  have hmm := @run_makeMap Tryz.prog
  have hq := fun w => map_nil Tryz.underlying208 w none
  clear hl hok hSb hbx
  go_enter Tryz.func144, Tryz.ntmps144
  go_upto_region 5 with (fail)
  have hbl := m_lt HB.out
  have h1 := m_set1 ((Below.heap_alloc w (.map #[] 0) b hbl).trans HB.out) (.map (some w.heap.size))
  have h2 : MP ((w.alloc (.map #[] 0)).setCell ⟨b, 0, none⟩ (.map (some w.heap.size))) (fun k => S k ∨ w.heap.size ≤ k) w.heap.size 0 (.map []) [] := ((MP.made w (S := fun k => w.heap.size ≤ k) (Nat.le_refl _)).kept (Fr.setCell (S := fun k => k = b) _ _ _ rfl) (fun k hk e => by omega)).mono (fun k _ h => Or.inr h)
  have h3 : Fr w ((w.alloc (.map #[] 0)).setCell ⟨b, 0, none⟩ (.map (some w.heap.size))) S := (Fr.alloc w _ _).trans (Fr.setCell _ _ _ HSb.out) (fun _ _ h => h)
  generalize hMe : w.heap.size = M at h1 h2 h3 ⊢
  generalize World.setCell _ _ _ = W4 at h1 h2 h3 ⊢
  have HMe : Hid _ := hMe
  have H2 : Hid _ := h2
  have H3 : Hid _ := h3
  have H1 : Hid _ := h1
  clear h1 h2 h3 hMe p0 p1 p2 p3 hmm hq
  go_wp2
  go_loopw [6, 20] (fun _ i wr => ∃ (j : Nat) (D' : DataW Value), j ≤ l.length ∧ i = .int .i64 j ∧ wr.heap[b]? = some (.cells #[.map (some M)] 210 (0, 0)) ∧ MP wr (fun k => S k ∨ w.heap.size ≤ k) M (0 + j) D' ([] ++ l.take j) ∧ Fr w wr S) (fun _ i _ => l.length - (intOf i).toNat)
  case atStart => exact ⟨0, .map [], Nat.zero_le _, rfl, H1.out, HMe.out ▸ H2.out, H3.out⟩
  case round =>
    obtain ⟨j, D', hj, rfl, hb, hmp, hf⟩ := hrel
    by_cases hlt : j < l.length
    · obtain ⟨g, off, rfl, hP, hc⟩ := HL.out (by omega)
      obtain ⟨e0, e1, e2, e3⟩ := hc j hlt
      have d0 := fr_cell hf hP e0
      have d1 := fr_cell hf hP e1
      have d2 := fr_cell hf hP e2
      have d3 := fr_cell hf hP e3
      have oky := HOk.out _ (List.getElem_mem hlt)
      have HS : Hid (l.take (j + 1) = l.take j ++ [l[j]]) := List.take_succ_eq_append_getElem hlt
      generalize l[j] = y at d0 d1 d2 d3 oky HS
      obtain ⟨c0, c1⟩ := bx_one hb
      have HMP : Hid _ := hmp
      have HF : Hid _ := hf
      have HBl : Hid _ := hb
      clear e0 e1 e2 e3 hc hmp hf hb
      go_upto_region 8 with (fail)
      have hq1 : (wr.alloc (.cells #[.int .i64 y.f, .int .i64 y.t, .int .i64 y.a, .int .i64 y.v] 93)).heap[wr.heap.size]? = some (.cells #[.int .i64 y.f, .int .i64 y.t, .int .i64 y.a, .int .i64 y.v] 93 (0, 0)) := heap_alloc_new _ _
      have hM1 := HMP.out.new ((Below.refl wr.heap.size wr).alloc (Nat.le_refl _) (.cells #[.int .i64 y.f, .int .i64 y.t, .int .i64 y.a, .int .i64 y.v] 93))
      have hb1 := (Below.heap_alloc wr (.cells #[.int .i64 y.f, .int .i64 y.t, .int .i64 y.a, .int .i64 y.v] 93) b (m_lt HBl.out)).trans HBl.out
      have hf1 : Fr w (wr.alloc (.cells #[.int .i64 y.f, .int .i64 y.t, .int .i64 y.a, .int .i64 y.v] 93)) S := HF.out.trans (Fr.alloc _ _ _) (fun _ _ h => h)
      have hsz : w.heap.size ≤ wr.heap.size := HF.out.size
      have hbq : b ≠ wr.heap.size := by have := m_lt HBl.out; omega
      have HHq : Hid (M < wr.heap.size) := HMP.out.own.lt
      have HHd : Hid (M ≠ b ∧ (S M ∨ w.heap.size ≤ M) ∧ ∀ k, (hdOf D' y.t).ownBlock = some k → (S k ∨ w.heap.size ≤ k) ∧ k ≠ b ∧ k < wr.heap.size) := by
        have := HMP.out.notBox HBl.out
        exact ⟨this.1, HMP.out.inS, fun k hk => ⟨HMP.out.rowS _ _ hk, this.2 _ _ hk, (HMP.out.rows y.t).lt k hk⟩⟩
      generalize wr.alloc _ = W at hq1 hM1 hb1 hf1 ⊢
      generalize wr.heap.size = q at hq1 hsz hbq HHd HHq ⊢
      have hlk0 : Sem.run Tryz.prog (Instr.lookup 208 (.map (some M)) (.int .i64 y.t) false) W.drew = .ok (hdOf D' y.t) W.drew := (hM1.new ((Below.refl W.heap.size W).drew)).look oky.t
      have hlk1 : Sem.run Tryz.prog (Instr.lookup 208 (.map (some M)) (.int .i64 y.t) false) (W.alloc (.cells #[.int .i64 y.f, .int .i64 y.t, .int .i64 y.a, .int .i64 y.v] 93)).drew = .ok (hdOf D' y.t) (W.alloc (.cells #[.int .i64 y.f, .int .i64 y.t, .int .i64 y.a, .int .i64 y.v] 93)).drew := (hM1.new (((Below.refl W.heap.size W).alloc (Nat.le_refl _) _).drew)).look oky.t
      have hM2 := hM1.new (((Below.refl W.heap.size W).drew).alloc (Nat.le_refl _) (.cells #[.int .i64 y.f, .int .i64 y.t, .int .i64 y.a, .int .i64 y.v] 93))
      have hrow := hM2.rows y.t
      obtain ⟨k0, k1, k2, k3⟩ := m_cells hq1
      obtain ⟨b0, b1⟩ := bx_one hb1
      have b0' : (W.alloc (.cells #[.int .i64 y.f, .int .i64 y.t, .int .i64 y.a, .int .i64 y.v] 93)).cell? ⟨b, 0, none⟩ = some (.map (some M)) := fr_cell (Fr.alloc W _ (fun _ => False)) (fun h => h) b0
      have hq2 := (Below.heap_alloc W (.cells #[.int .i64 y.f, .int .i64 y.t, .int .i64 y.a, .int .i64 y.v] 93) q (m_lt hq1)).trans hq1
      have x0 := m_five b0 hq1
      have x1 := m_five b0' hq2
      have hlen : (toV ([] ++ l.take j) y.t).length ≤ ([] : List Msg).length + j := by
        refine Nat.le_trans (List.length_filter_le _ _) ?_
        rw [List.length_append, List.length_take]; omega
      have HM2 : Hid _ := hM2
      have HRow : Hid _ := hrow
      have HQ1 : Hid _ := hq1
      have HQ2 : Hid _ := hq2
      have HB1 : Hid _ := hb1
      have HF1 : Hid _ := hf1
      have HLen : Hid _ := hlen
      have okt := oky.t
      clear hM1 hM2 hrow hq1 hq2 hb1 hf1 hlen HMP HF HBl c0 c1 d0 d1 d2 d3
      generalize hv : hdOf D' y.t = v at hlk0 hlk1
      have HV : Hid _ := hv
      clear hv
      go_region_held_law (fun w' => w'.cell? ⟨b, 0, none⟩ = some (.map (some M)) ∧ w'.cell? ⟨q, 0, none⟩ = some (.int .i64 y.f) ∧ w'.cell? ⟨q, 1, none⟩ = some (.int .i64 y.t) ∧ w'.cell? ⟨q, 2, none⟩ = some (.int .i64 y.a) ∧ w'.cell? ⟨q, 3, none⟩ = some (.int .i64 y.v)) (first | exact x3 | exact x2 | exact x1 | exact x0)
        ((refine m_step_append rfl (.tmp 36) (.tmp 38) 87 rfl 0 93 i0 (.agg #[.int .i64 0, .int .i64 0, .int .i64 0, .int .i64 0]) 4 32 Tryz.underlying87 hi hz0 hz1 hz2 rfl (by decide) v _ _ (by simp [Act.eval]) (by rw [← HV.out]; exact HRow.out) ⟨W.heap.size, 0, none⟩ 1 1 (msgCells y) (by simp [Act.eval]) rfl (m_four (heap_alloc_new _ _)) (msgOne y) (by have := HLen.out; unfold maxLen; omega) (by have := HLen.out; omega) (Nat.zero_le _) ?_; intro v' w1 hown' hgrow hat; obtain ⟨w2, D2, hst, hmp2, hg2⟩ := HM2.out.store (by omega) (m := y) okt (by rw [HV.out]; exact hgrow) (Mo.snoc hown') (by rw [HV.out]; exact hat) (fun k hk => Or.inr (by have := HF1.out.size; simp at hk; omega)); have x2 := m_five (hgrow.cell b0' (fun e => (HHd.out.2.2 b (by rw [HV.out]; exact e.symm)).2.1 rfl)) ((hgrow.block q (m_lt HQ2.out) (fun e => absurd (HHd.out.2.2 q (by rw [HV.out]; exact e.symm)).2.2 (Nat.lt_irrefl _))).trans HQ2.out); have x3 := m_five (hg2.cell x2.1 (fun e => by cases e; exact HHd.out.1 rfl)) ((hg2.block q (Nat.lt_of_lt_of_le (m_lt HQ2.out) hgrow.size) (fun e => by cases e; exact Nat.lt_irrefl _ HHq.out)).trans ((hgrow.block q (m_lt HQ2.out) (fun e => absurd (HHd.out.2.2 q (by rw [HV.out]; exact e.symm)).2.2 (Nat.lt_irrefl _))).trans HQ2.out)); have H1 : Hid _ := hmp2; have H2 : Hid _ := hg2; have H3 : Hid _ := hgrow; clear hmp2 hg2 hgrow hown' hat))
      all_goals
        have hmp3 := H1.out
        have f2 : Fr W w2 (fun k => S k ∨ w.heap.size ≤ k) := (((Fr.drew W _).trans (Fr.alloc W.drew _ _) (fun _ _ h => h)).trans (Fr.grown H3.out (fun k hk => (HHd.out.2.2 k (by rw [HV.out]; exact hk)).1)) (fun _ _ h => h)).trans (Fr.grown H2.out (fun k hk => by cases hk; exact HHd.out.2.1)) (fun _ _ h => h)
        have hf3 : Fr w w2 S := HF1.out.trans f2 (fun k hk h => h.resolve_right (by omega))
        have hb3 : w2.heap[b]? = some (.cells #[.map (some M)] 210 (0, 0)) := by
          have hlt : b < (W.drew.alloc (.cells #[.int .i64 y.f, .int .i64 y.t, .int .i64 y.a, .int .i64 y.v] 93)).heap.size := by have := m_lt HB1.out; simp; omega
          refine (H2.out.block b (Nat.lt_of_lt_of_le hlt H3.out.size) (fun e => by cases e; exact HHd.out.1 rfl)).trans ?_
          refine (H3.out.block b hlt (fun e => (HHd.out.2.2 b (by rw [HV.out]; exact e.symm)).2.1 rfl)).trans ?_
          exact (Below.heap_alloc W.drew _ b (m_lt HB1.out)).trans HB1.out
        clear hst x0 x1 x2 x3 hlk0 hlk1 b0' b0 b1 k0 k1 k2 k3
        have HH : Hid _ := hmp3
        have HI : Hid _ := hf3
        have HJ : Hid _ := hb3
        clear hmp3 hf3 hb3 f2
        go_wp2
        go_roundw
        case rel =>
          refine ⟨j + 1, D2, by omega, by go_num, HJ.out, ?_, HI.out⟩
          rw [HS.out, ← List.append_assoc, ← Nat.add_assoc]
          exact HH.out
        case measure => simp [intOf]; omega
    · obtain rfl : j = l.length := by omega
      have hX : BX wr (fun k => S k ∨ w.heap.size ≤ k) b (0 + l.length) ([] ++ l) := by
        rw [List.take_length] at hmp
        exact ⟨⟨_, hb, .some M D' hmp⟩, Or.inl HSb.out⟩
      have HX : Hid _ := hX
      have HF : Hid _ := hf
      clear hX hf hmp hb
      go_wp2
      go_ret
      exact ⟨rfl, HX.out, HF.out⟩
/-- What Put does to any box. -/
theorem put_box {w : World} {S : Nat → Prop} {b N : Nat} {B : List Msg} (hX : BX w S b N B) (l : List Msg) (ao : Option Addr) (cap : Nat) (hl : MsAt w (fun k => ¬ S k) ao l) (hok : ∀ m ∈ l, m.ok) (hN : N + l.length < 9223372036854775807) (hB : (B.length + l.length) * 32 ≤ 140737488355328) :
    Calls Tryz.prog 144 #[.pointer (some ⟨b, 0, none⟩), .slice ao l.length cap] w fun r w' => r = .returned (.int .i64 0) ∧ BX w' (fun k => S k ∨ w.heap.size ≤ k) b (N + l.length) (B ++ l) ∧ Fr w w' S := by
  obtain ⟨⟨mv, h1, h2⟩, h3⟩ := hX
  rcases h2 with ⟨rfl, h⟩ | ⟨M, D, rfl, h⟩
  · subst h
    refine (put_none h1 h3 l ao cap hl hok (by omega) hB).mono ?_
    rintro r w' ⟨rfl, hX', hf⟩
    exact ⟨rfl, hX'.more (by omega), hf⟩
  · exact put_loop h1 h3 h l ao cap hl hok hN hB
end Go.Proofs.YtnhijofnhflklaaGreat
end

section
/- Which vertices stand behind all requests: on plain lists. -/
namespace Go.Proofs.YtnhijofnhflklaaGreat
open Go.RowKit
/-- Is a number asked to come, to go? -/
def comes (l : List Mu) (x : Int) : Prop := ∃ m ∈ l, m.k = 3 ∧ m.i = x
def goes (l : List Mu) (x : Int) : Prop := ∃ m ∈ l, m.k = 2 ∧ m.i = x
end Go.Proofs.YtnhijofnhflklaaGreat
end

section
/- A map of numbers to truths: how it lies, a look-up, an update. -/
namespace Go.Proofs.YtnhijofnhflklaaGreat
open Go.RowKit Go.Maps
theorem plainElem_bool_inv {P : Program} {e : TypeId} (he : P.underlying e = some .bool) {v : Value} {z : DataW Unit × List MemPlace} (h : plainElem P e v = some z) : ∃ a, v = .bool a ∧ z = (.lit (.bool a), []) := by
  unfold plainElem at h
  rw [he] at h
  cases v <;> simp at h
  exact ⟨_, rfl, h.symm⟩
/-- A map that says f. -/
def BMap (w : World) (b n : Nat) (f : Int → Bool) : Prop := ∃ D : DataW Unit, w.ownsMap Tryz.prog 2 (plainElem Tryz.prog 4) b n D ∧ ∀ x, D.atKey (.int .i64 x) (.lit (.bool false)) = .lit (.bool (f x))
theorem mkeyOf {id : Int} (h : I64 id) : keyOf Tryz.prog 2 (.int .i64 id) = some (.int .i64 id) := keyOf_int_mk Tryz.underlying2 (WalkArith.wf_i64 ⟨h.1, h.2⟩)
theorem mlaw64 : Keyed Tryz.prog 2 := int_keyed Tryz.underlying2
theorem BMap.made (w : World) : BMap (w.alloc (.map #[] 0)) w.heap.size 0 (fun _ => false) := ⟨_, World.ownsMap_made w _ _ _, fun _ => rfl⟩
theorem BMap.same {w w' : World} {b n : Nat} {f : Int → Bool} (h : BMap w b n f) (e : w'.heap[b]? = w.heap[b]?) : BMap w' b n f := by
  obtain ⟨D, ⟨es, clock, hb, r⟩, hat⟩ := h
  exact ⟨D, ⟨es, clock, e.trans hb, r⟩, hat⟩
theorem BMap.lt {w : World} {b n : Nat} {f : Int → Bool} (h : BMap w b n f) : b < w.heap.size := by
  obtain ⟨D, h, _⟩ := h
  exact h.lt
theorem BMap.new {w w' : World} {b n : Nat} {f : Int → Bool} (h : BMap w b n f) (hb : Below w.heap.size w w') : BMap w' b n f := h.same (hb.block b h.lt)
theorem BMap.look {w : World} {b n : Nat} {f : Int → Bool} (h : BMap w b n f) {x : Int} (hx : I64 x) : (Instr.lookup 109 (.map (some b)) (.int .i64 x) false).run Tryz.prog w = .ok (.bool (f x)) w := by
  obtain ⟨D, h, hat⟩ := h
  obtain ⟨v, ps, hrun, hv⟩ := h.lookup mlaw64 Tryz.underlying109 (z := .bool false) (by go_simp) (plainElem_bool Tryz.underlying4 false) (mkeyOf hx)
  obtain ⟨a, rfl, hz⟩ := plainElem_bool_inv Tryz.underlying4 hv
  rw [hat x] at hz
  simp only [Prod.mk.injEq, DataW.lit.injEq, Lit.bool.injEq] at hz
  rw [hrun, hz.1]
theorem mkey_ne {i j : Int} (h : i ≠ j) : (Lit.int .i64 i) ≠ (Lit.int .i64 j) := by
  intro e
  cases e
  exact h rfl
theorem BMap.put {w : World} {b n : Nat} {f : Int → Bool} (h : BMap w b n f) (hn : n < maxLen) {x : Int} (hx : I64 x) (c : Bool) : ∃ w', (Instr.mapUpdate 109 (.map (some b)) (.int .i64 x) (.bool c)).run Tryz.prog w = .ok () w' ∧ BMap w' b (n + 1) (fun y => if y = x then c else f y) ∧ Fr w w' (fun k => k = b) := by
  obtain ⟨D, h, hat⟩ := h
  obtain ⟨w', hrun, h1, h2⟩ := h.store mlaw64 Tryz.underlying109 hn (mkeyOf hx) (plainElem_bool Tryz.underlying4 c)
  refine ⟨w', hrun, ⟨_, h1, fun y => ?_⟩, Fr.grown h2.grown (fun k e => by cases e; rfl)⟩
  simp only
  by_cases e : y = x
  · subst e
    rw [if_pos rfl, atKey_put_same h.isMap (show WideAt.IsKeyLit (.int .i64 y) from trivial)]
  · rw [if_neg e, atKey_put_other (mkey_ne e), hat]
end Go.Proofs.YtnhijofnhflklaaGreat
end

section
/- A part as it lies in memory: its block, its graph, which vertices have halted, its box. -/
namespace Go.Proofs.YtnhijofnhflklaaGreat
open Go.RowKit
/-- The blocks of a graph of one's own. -/
def GB (sv : Value) (L : List (Vx × Value)) (k : Nat) : Prop := sv.ownBlock = some k ∨ ∃ x ∈ L, x.2.ownBlock = some k
theorem GW.keepS {w w' : World} {base : Nat} {sv : Value} {L : List (Vx × Value)} (h : GW w base sv L) {S : Nat → Prop} (f : Fr w w' S) (hS : ∀ k, GB sv L k → ¬ S k) : GW w' base sv L :=
  ⟨own_keep h.row f (fun k hk => hS k (.inl hk)), fun x hx => own_keep (h.eds x hx) f (fun k hk => hS k (.inr ⟨x, hx, hk⟩)), h.apart⟩
theorem GW.gb {w : World} {base : Nat} {sv : Value} {L : List (Vx × Value)} (h : GW w base sv L) {k : Nat} (hk : GB sv L k) : base ≤ k ∧ k < w.heap.size := by
  rcases hk with hk | ⟨x, hx, hk⟩
  · exact h.row.lt k hk
  · exact (h.eds x hx).lt k hk
/-- A part's state on plain data: its vertices, which have halted, the messages that are there. -/
structure St where
  G : List Vx
  H : Int → Bool
  B : List Msg
/-- A part in memory; all its blocks are in S. -/
structure PA (w : World) (S : Nat → Prop) (p n : Nat) (s : St) (sv : Value) (M : List (Vx × Value)) (hm bx : Nat) (SB : Nat → Prop) : Prop where
  blk : w.heap[p]? = some (.cells #[sv, .map (some hm), .pointer (some ⟨bx, 0, none⟩)] 112 (0, 0))
  gw : GW w 0 sv M
  gs : M.map (·.1) = s.G
  hal : BMap w hm n s.H
  box : BX w SB bx n s.B
  lt : ∀ k, SB k → k < w.heap.size
  inP : S p
  inH : S hm
  inB : ∀ k, SB k → S k
  inG : ∀ k, GB sv M k → S k
  ph : p ≠ hm
  pb : ¬ SB p
  hb : ¬ SB hm
  gp : ∀ k, GB sv M k → k ≠ p ∧ k ≠ hm ∧ ¬ SB k
theorem PA.plt {w : World} {S : Nat → Prop} {p n : Nat} {s : St} {sv : Value} {M : List (Vx × Value)} {hm bx : Nat} {SB : Nat → Prop} (h : PA w S p n s sv M hm bx SB) : p < w.heap.size := (Array.getElem?_eq_some_iff.1 h.blk).1
/-- Other blocks are written. -/
theorem PA.kept {w w' : World} {S : Nat → Prop} {p n : Nat} {s : St} {sv : Value} {M : List (Vx × Value)} {hm bx : Nat} {SB : Nat → Prop} (h : PA w S p n s sv M hm bx SB) {T : Nat → Prop} (f : Fr w w' T) (hT : ∀ k, S k → ¬ T k) : PA w' S p n s sv M hm bx SB :=
  { h with
    blk := (f.block p h.plt (hT p h.inP)).trans h.blk
    gw := h.gw.keepS f (fun k hk => hT k (h.inG k hk))
    hal := h.hal.same (f.block hm h.hal.lt (hT hm h.inH))
    box := h.box.kept f (fun k hk => hT k (h.inB k hk))
    lt := fun k hk => Nat.lt_of_lt_of_le (h.lt k hk) f.size }
theorem PA.new {w w' : World} {S : Nat → Prop} {p n : Nat} {s : St} {sv : Value} {M : List (Vx × Value)} {hm bx : Nat} {SB : Nat → Prop} (h : PA w S p n s sv M hm bx SB) (hb : Below w.heap.size w w') : PA w' S p n s sv M hm bx SB := h.kept (Fr.ofBelow hb (fun _ => False)) (fun _ _ h => h)
theorem PA.mono {w : World} {S T : Nat → Prop} {p n : Nat} {s : St} {sv : Value} {M : List (Vx × Value)} {hm bx : Nat} {SB : Nat → Prop} (h : PA w S p n s sv M hm bx SB) (hs : ∀ k, k < w.heap.size → S k → T k) : PA w T p n s sv M hm bx SB :=
  { h with
    inP := hs p h.plt h.inP
    inH := hs hm h.hal.lt h.inH
    inB := fun k hk => hs k (h.lt k hk) (h.inB k hk)
    inG := fun k hk => hs k (h.gw.gb hk).2 (h.inG k hk) }
/-- Its cells. -/
theorem PA.cells {w : World} {S : Nat → Prop} {p n : Nat} {s : St} {sv : Value} {M : List (Vx × Value)} {hm bx : Nat} {SB : Nat → Prop} (h : PA w S p n s sv M hm bx SB) : w.cell? ⟨p, 0, none⟩ = some sv ∧ w.cell? ⟨p, 1, none⟩ = some (.map (some hm)) ∧ w.cell? ⟨p, 2, none⟩ = some (.pointer (some ⟨bx, 0, none⟩)) := by
  have := h.blk
  simp [World.cell?, this]
theorem over_at (c d : List Value) (u v : Value) : over (c ++ u :: d) c.length [v] = c ++ v :: d := by
  unfold over
  rw [List.take_left' rfl, List.length_singleton, List.drop_append, List.drop_eq_nil_of_le (by omega), show c.length + 1 - c.length = 1 by omega]
  simp
theorem gcs_set (A B : List (Vx × Value)) (x : Vx × Value) (v : Int) : over (gcs (A ++ x :: B)) (A.length * 3 + 1) [.int .i64 v] = gcs (A ++ (⟨x.1.id, v, x.1.es⟩, x.2) :: B) := by
  have hl : (gcs A ++ [Value.int .i64 x.1.id]).length = A.length * 3 + 1 := by rw [List.length_append, gcs_len]; rfl
  have e1 : gcs (A ++ x :: B) = (gcs A ++ [.int .i64 x.1.id]) ++ .int .i64 x.1.val :: (x.2 :: gcs B) := by rw [gcs_app, gcs_cons]; simp
  have e2 : gcs (A ++ (⟨x.1.id, v, x.1.es⟩, x.2) :: B) = (gcs A ++ [.int .i64 x.1.id]) ++ .int .i64 v :: (x.2 :: gcs B) := by rw [gcs_app, gcs_cons]; simp
  rw [e1, e2, ← hl]
  exact over_at _ _ _ _
/-- A vertex gets a value. -/
theorem GW.val {w : World} {base : Nat} {rb cap : Nat} {A B : List (Vx × Value)} {x : Vx × Value} (h : GW w base (.slice (some ⟨rb, 0, none⟩) (A ++ x :: B).length cap) (A ++ x :: B)) (v : Int) :
    GW (w.setCell ⟨rb, A.length * 3 + 1, none⟩ (.int .i64 v)) base (.slice (some ⟨rb, 0, none⟩) (A ++ x :: B).length cap) (A ++ (⟨x.1.id, v, x.1.es⟩, x.2) :: B) := by
  have hne : ∀ y ∈ A ++ x :: B, y.2.ownBlock ≠ some rb := fun y hy e => own_diff h.row (h.eds y hy) (by decide) rb e rfl
  have fs : Fr w (w.setCell ⟨rb, A.length * 3 + 1, none⟩ (.int .i64 v)) (fun k => k = rb) := Fr.setCell (S := fun k => k = rb) w ⟨rb, _, none⟩ _ rfl
  refine ⟨?_, fun y hy => ?_, ?_⟩
  · obtain ⟨g, cap', cur, h1, hn, hB, ht⟩ := own_blk h.row (by rw [List.length_append, List.length_cons]; omega)
    cases h1
    have hlen : (A ++ x :: B).length = A.length + 1 + B.length := by simp; omega
    have hmul : (A ++ x :: B).length * 3 ≤ cap * 3 := Nat.mul_le_mul_right 3 hn
    have hB2 := (hB.set (A.length * 3 + 1) [.int .i64 v] (by simp only [List.length_singleton]; omega)).own hn
    have hsz := hB.size
    rw [over_take_in _ _ _ (by simp only [List.length_singleton]; omega) (by omega), ht, gcs_set] at hB2
    rw [show (A ++ ((⟨x.1.id, v, x.1.es⟩ : Vx), x.2) :: B).length = (A ++ x :: B).length by simp]
    exact hB2
  · have hy' : ∃ z ∈ A ++ x :: B, z.2 = y.2 ∧ z.1.es = y.1.es := by
      rcases List.mem_append.1 hy with hy | hy
      · exact ⟨y, by simp [hy], rfl, rfl⟩
      · rcases List.mem_cons.1 hy with rfl | hy
        · exact ⟨x, by simp, rfl, rfl⟩
        · exact ⟨y, by simp [hy], rfl, rfl⟩
    obtain ⟨z, hz, e1, e2⟩ := hy'
    rw [← e1, ← e2]
    exact own_keep (h.eds z hz) fs (fun k hk e => by subst e; exact hne z hz hk)
  · have hap := h.apart
    rw [List.pairwise_append, List.pairwise_cons] at hap ⊢
    refine ⟨hap.1, ⟨fun y hy => hap.2.1.1 y hy, hap.2.1.2⟩, fun y hy z hz => ?_⟩
    rcases List.mem_cons.1 hz with rfl | hz
    · exact hap.2.2 y hy x (by simp)
    · exact hap.2.2 y hy z (by simp [hz])
theorem gb_val {sv : Value} {A B : List (Vx × Value)} {x : Vx × Value} {v : Int} {k : Nat} (h : GB sv (A ++ (⟨x.1.id, v, x.1.es⟩, x.2) :: B) k) : GB sv (A ++ x :: B) k := by
  rcases h with h | ⟨y, hy, hk⟩
  · exact .inl h
  · rcases List.mem_append.1 hy with hy | hy
    · exact .inr ⟨y, by simp [hy], hk⟩
    · rcases List.mem_cons.1 hy with rfl | hy
      · exact .inr ⟨x, by simp, hk⟩
      · exact .inr ⟨y, by simp [hy], hk⟩
/-- A vertex of a part gets a value. -/
theorem PA.val {w : World} {S : Nat → Prop} {p n rb cap : Nat} {s : St} {A B : List (Vx × Value)} {x : Vx × Value} {hm bx : Nat} {SB : Nat → Prop} (h : PA w S p n s (.slice (some ⟨rb, 0, none⟩) (A ++ x :: B).length cap) (A ++ x :: B) hm bx SB) (v : Int) :
    PA (w.setCell ⟨rb, A.length * 3 + 1, none⟩ (.int .i64 v)) S p n ⟨s.G.set A.length ⟨x.1.id, v, x.1.es⟩, s.H, s.B⟩ (.slice (some ⟨rb, 0, none⟩) (A ++ x :: B).length cap) (A ++ (⟨x.1.id, v, x.1.es⟩, x.2) :: B) hm bx SB := by
  have fs : Fr w (w.setCell ⟨rb, A.length * 3 + 1, none⟩ (.int .i64 v)) (fun k => k = rb) := Fr.setCell (S := fun k => k = rb) w ⟨rb, _, none⟩ _ rfl
  have hrb := h.gp rb (.inl rfl)
  refine { blk := (fs.block p h.plt (fun e => hrb.1 e.symm)).trans h.blk, gw := h.gw.val v, gs := ?_, hal := h.hal.same (fs.block hm h.hal.lt (fun e => hrb.2.1 e.symm)), box := h.box.kept fs (fun _ hk e => hrb.2.2 (e ▸ hk)), lt := fun k hk => Nat.lt_of_lt_of_le (h.lt k hk) fs.size, inP := h.inP, inH := h.inH, inB := h.inB, inG := fun k hk => h.inG k (gb_val hk), ph := h.ph, pb := h.pb, hb := h.hb, gp := fun k hk => h.gp k (gb_val hk) }
  show _ = s.G.set A.length ⟨x.1.id, v, x.1.es⟩
  rw [← h.gs]
  simp
/-- Whether a vertex has halted is laid. -/
theorem PA.lay {w w' : World} {S : Nat → Prop} {p n : Nat} {s : St} {sv : Value} {M : List (Vx × Value)} {hm bx : Nat} {SB : Nat → Prop} (h : PA w S p n s sv M hm bx SB) {x : Int} {c : Bool} (hm' : BMap w' hm (n + 1) (fun y => if y = x then c else s.H y)) (f : Fr w w' (fun k => k = hm)) :
    PA w' S p (n + 1) ⟨s.G, fun y => if y = x then c else s.H y, s.B⟩ sv M hm bx SB :=
  { blk := (f.block p h.plt h.ph).trans h.blk, gw := h.gw.keepS f (fun k hk => (h.gp k hk).2.1), gs := h.gs, hal := hm', box := (h.box.kept f (fun _ hk e => h.hb (e ▸ hk))).more (Nat.le_succ _), lt := fun k hk => Nat.lt_of_lt_of_le (h.lt k hk) f.size, inP := h.inP, inH := h.inH, inB := h.inB, inG := h.inG, ph := h.ph, pb := h.pb, hb := h.hb, gp := h.gp }
end Go.Proofs.YtnhijofnhflklaaGreat
end

section
/- Region 2 of turn: a vertex's messages, combined. -/
namespace Go.Proofs.YtnhijofnhflklaaGreat
open Go.RowKit
set_option maxRecDepth 100000 in
set_option maxHeartbeats 1000000 in
theorem turn_r2 {W0 : World} {A : Act} {pr : Value} {p bx rb off n : Nat} {k id e : Int} {FQ : Option Addr → Nat → World → Prop} {CQ : Value → World → Prop} {K : Act → World → Prop} {Q' : Exit → Act → World → Prop} (hsz : A.tmps.size = 75) (hA0 : A.eval (.tmp 0) = .pointer (some ⟨p, 0, none⟩)) (hA2 : A.eval (.tmp 2) = pr) (hA9 : A.eval (.tmp 9) = .pointer (some ⟨rb, off, none⟩)) (hB : W0.cell? ⟨p, 2, none⟩ = some (.pointer (some ⟨bx, 0, none⟩))) (hI : W0.cell? ⟨rb, off, none⟩ = some (.int .i64 id)) (hCo : ∀ W, Calls Tryz.prog 136 #[pr] W fun r w' => r = .returned (.int .i64 k) ∧ w' = W) (hFo : ∀ W, Below W0.heap.size W0 W → Calls Tryz.prog 137 #[.pointer (some ⟨bx, 0, none⟩), .int .i64 id] W fun r w' => ∃ mo mc, r = .returned (.slice mo n mc) ∧ FQ mo mc w' ∧ Below W.heap.size W w') (hCb : ∀ W mo mc, Below W0.heap.size W0 W → FQ mo mc W → Calls Tryz.prog 135 #[.int .i64 k, .slice mo n mc] W fun r w' => ∃ v0, r = .returned (.tuple #[v0, .int .i64 e]) ∧ CQ v0 w' ∧ Below W.heap.size W w') (hFn : ∀ mo mc W W', FQ mo mc W → Below W.heap.size W W' → FQ mo mc W') (hCn : ∀ v W W', CQ v W → Below W.heap.size W W' → CQ v W')
    (HK : ∀ X W, Below W0.heap.size W0 W → CQ (X 10) W ∧ X 11 = .int .i64 e → K (puts A X [21, 22, 23, 24, 25, 26, 27, 28, 29, 30, 31, 32, 20, 33, 34, 10, 11]) W) :
    Code.wp Tryz.prog ((Tryz.f84.body.bind (regionJ 2)).getD .skip) (Exit.then K Q') A W0 := by
  obtain ⟨ds, hds⟩ : ∃ ds, [21, 22, 23, 24, 25, 26, 27, 28, 29, 30, 31, 32, 20, 33, 34, 10, 11] = ds := ⟨_, rfl⟩
  have hin : ∀ {X : Nat → Value} {k : Nat}, k ∈ [21, 22, 23, 24, 25, 26, 27, 28, 29, 30, 31, 32, 20, 33, 34, 10, 11] → (puts A X ds).eval (.tmp k) = X k := fun hk => by rw [← hds]; exact eval_in hk (by rw [hsz]; revert hk; simp only [List.mem_cons, List.not_mem_nil, or_false]; omega)
  have hout : ∀ {X : Nat → Value} {k : Nat}, k ∉ [21, 22, 23, 24, 25, 26, 27, 28, 29, 30, 31, 32, 20, 33, 34, 10, 11] → (puts A X ds).eval (.tmp k) = A.eval (.tmp k) := fun hk => by rw [← hds]; exact eval_out hk
  have g0 : ds.getD 0 0 = 21 := by rw [← hds]; rfl
  have g1 : ds.getD 1 0 = 22 := by rw [← hds]; rfl
  have g2 : ds.getD 2 0 = 23 := by rw [← hds]; rfl
  have g3 : ds.getD 3 0 = 24 := by rw [← hds]; rfl
  have g4 : ds.getD 4 0 = 25 := by rw [← hds]; rfl
  have g5 : ds.getD 5 0 = 26 := by rw [← hds]; rfl
  have g6 : ds.getD 6 0 = 27 := by rw [← hds]; rfl
  have g7 : ds.getD 7 0 = 28 := by rw [← hds]; rfl
  have g8 : ds.getD 8 0 = 29 := by rw [← hds]; rfl
  have g9 : ds.getD 9 0 = 30 := by rw [← hds]; rfl
  have g10 : ds.getD 10 0 = 31 := by rw [← hds]; rfl
  have g11 : ds.getD 11 0 = 32 := by rw [← hds]; rfl
  have g12 : ds.getD 12 0 = 20 := by rw [← hds]; rfl
  have g13 : ds.getD 13 0 = 33 := by rw [← hds]; rfl
  have g14 : ds.getD 14 0 = 34 := by rw [← hds]; rfl
  have g15 : ds.getD 15 0 = 10 := by rw [← hds]; rfl
  have g16 : ds.getD 16 0 = 11 := by rw [← hds]; rfl
  obtain ⟨V, hV, e0, e1, e2, e3, e4, e5, e6, e7, e8, e9, e10, e11, e12, e13, e14, e15, e16⟩ : ∃ V : Nat → Value → World → Prop, (∀ i v W W', V i v W → Below W.heap.size W W' → V i v W') ∧ (∀ v W, V 0 v W = (v = pr)) ∧ (∀ v W, V 1 v W = (v = .int .i64 k)) ∧ (∀ v W, V 2 v W = (v = .pointer (some ⟨p, 0, none⟩))) ∧ (∀ v W, V 3 v W = (v = .pointer (some ⟨p, 0, none⟩))) ∧ (∀ v W, V 4 v W = (v = .pointer (some ⟨p, 2, none⟩))) ∧ (∀ v W, V 5 v W = (v = .pointer (some ⟨bx, 0, none⟩))) ∧ (∀ v W, V 6 v W = (v = .pointer (some ⟨rb, off, none⟩))) ∧ (∀ v W, V 7 v W = (v = .pointer (some ⟨rb, off, none⟩))) ∧ (∀ v W, V 8 v W = (v = .pointer (some ⟨rb, off, none⟩))) ∧ (∀ v W, V 9 v W = (v = .int .i64 id)) ∧ (∀ v W, V 10 v W = (∃ mo mc, v = .slice mo n mc ∧ FQ mo mc W)) ∧ (∀ v W, V 11 v W = (∃ v0, v = .tuple #[v0, .int .i64 e] ∧ CQ v0 W)) ∧ (∀ v W, V 12 v W = (∃ v0, v = .tuple #[v0, .int .i64 e] ∧ CQ v0 W)) ∧ (∀ v W, V 13 v W = (CQ v W)) ∧ (∀ v W, V 14 v W = (v = .int .i64 e)) ∧ (∀ v W, V 15 v W = (CQ v W)) ∧ (∀ v W, V 16 v W = (v = .int .i64 e)) := by
    refine ⟨fun i v W => match i with
      | 0 => v = pr
      | 1 => v = .int .i64 k
      | 2 => v = .pointer (some ⟨p, 0, none⟩)
      | 3 => v = .pointer (some ⟨p, 0, none⟩)
      | 4 => v = .pointer (some ⟨p, 2, none⟩)
      | 5 => v = .pointer (some ⟨bx, 0, none⟩)
      | 6 => v = .pointer (some ⟨rb, off, none⟩)
      | 7 => v = .pointer (some ⟨rb, off, none⟩)
      | 8 => v = .pointer (some ⟨rb, off, none⟩)
      | 9 => v = .int .i64 id
      | 10 => ∃ mo mc, v = .slice mo n mc ∧ FQ mo mc W
      | 11 => ∃ v0, v = .tuple #[v0, .int .i64 e] ∧ CQ v0 W
      | 12 => ∃ v0, v = .tuple #[v0, .int .i64 e] ∧ CQ v0 W
      | 13 => CQ v W
      | 14 => v = .int .i64 e
      | 15 => CQ v W
      | 16 => v = .int .i64 e
      | _ => True, ?_, fun _ _ => rfl, fun _ _ => rfl, fun _ _ => rfl, fun _ _ => rfl, fun _ _ => rfl, fun _ _ => rfl, fun _ _ => rfl, fun _ _ => rfl, fun _ _ => rfl, fun _ _ => rfl, fun _ _ => rfl, fun _ _ => rfl, fun _ _ => rfl, fun _ _ => rfl, fun _ _ => rfl, fun _ _ => rfl, fun _ _ => rfl⟩
    intro i v W W' h hb
    match i, h with
    | 0, h => exact h
    | 1, h => exact h
    | 2, h => exact h
    | 3, h => exact h
    | 4, h => exact h
    | 5, h => exact h
    | 6, h => exact h
    | 7, h => exact h
    | 8, h => exact h
    | 9, h => exact h
    | 10, h => exact (by obtain ⟨mo, mc, h1, h2⟩ := h; exact ⟨mo, mc, h1, hFn _ _ _ _ h2 hb⟩)
    | 11, h => exact (by obtain ⟨v0, h1, h2⟩ := h; exact ⟨v0, h1, hCn _ _ _ h2 hb⟩)
    | 12, h => exact (by obtain ⟨v0, h1, h2⟩ := h; exact ⟨v0, h1, hCn _ _ _ h2 hb⟩)
    | 13, h => exact hCn _ _ _ h hb
    | 14, h => exact h
    | 15, h => exact hCn _ _ _ h hb
    | 16, h => exact h
    | _ + 17, _ => trivial
  conv => arg 2; whnf
  refine wp_region_V ds V (by kernel_rfl) (by kernel_rfl) (by rw [← hds]; kernel_rfl) hV ?_ ?_
  · refine ⟨?_, ?_, ?_, ?_, ?_, ?_, ?_, ?_, ?_, ?_, ?_, ?_, ?_, ?_, ?_, ?_, ?_, trivial⟩
    all_goals intro X W hb hd
    · have h0 := hout (X := X) (k := 2) (by decide)
      rw [hA2] at h0
      refine v_value (V := V 0) (v := pr) ?_ (by rw [e0])
      generalize (puts A X ds).eval = ρ at h0 ⊢
      go_simp
    · have d0 := hd 0 (by kernel_rfl)
      rw [e0, g0] at d0
      have h0 := (hin (X := X) (k := 21) (by decide)).trans d0
      have hf : (puts A X ds).eval (.func 136) = .func (.func 136) #[] #[] := rfl
      refine v_call (V := V 1) (f := 136) (vs := #[pr]) ?_ ?_
      · generalize (puts A X ds).eval = ρ at h0 hf ⊢
        go_simp
      · refine (hCo W).mono ?_
        rintro r W' ⟨rfl, rfl⟩
        exact ⟨_, rfl, by rw [e1], Below.refl _ _⟩
    · have h0 := hout (X := X) (k := 0) (by decide)
      rw [hA0] at h0
      refine v_value (V := V 2) (v := .pointer (some ⟨p, 0, none⟩)) ?_ (by rw [e2])
      generalize (puts A X ds).eval = ρ at h0 ⊢
      go_simp
    · have d0 := hd 2 (by kernel_rfl)
      rw [e2, g2] at d0
      have h0 := (hin (X := X) (k := 23) (by decide)).trans d0
      refine v_value (V := V 3) (v := .pointer (some ⟨p, 0, none⟩)) ?_ (by rw [e3])
      generalize (puts A X ds).eval = ρ at h0 ⊢
      go_simp
    · have d0 := hd 3 (by kernel_rfl)
      rw [e3, g3] at d0
      have h0 := (hin (X := X) (k := 24) (by decide)).trans d0
      refine v_value (V := V 4) (v := .pointer (some ⟨p, 2, none⟩)) ?_ (by rw [e4])
      generalize (puts A X ds).eval = ρ at h0 ⊢
      go_simp
    · have d0 := hd 4 (by kernel_rfl)
      rw [e4, g4] at d0
      have h0 := (hin (X := X) (k := 25) (by decide)).trans d0
      have c0 := (hb.cell (p := ⟨p, 2, none⟩) (lt_cell hB)).trans hB
      refine v_value (V := V 5) (v := .pointer (some ⟨bx, 0, none⟩)) ?_ (by rw [e5])
      generalize (puts A X ds).eval = ρ at h0 ⊢
      go_simp
    · have h0 := hout (X := X) (k := 9) (by decide)
      rw [hA9] at h0
      refine v_value (V := V 6) (v := .pointer (some ⟨rb, off, none⟩)) ?_ (by rw [e6])
      generalize (puts A X ds).eval = ρ at h0 ⊢
      go_simp
    · have d0 := hd 6 (by kernel_rfl)
      rw [e6, g6] at d0
      have h0 := (hin (X := X) (k := 27) (by decide)).trans d0
      refine v_value (V := V 7) (v := .pointer (some ⟨rb, off, none⟩)) ?_ (by rw [e7])
      generalize (puts A X ds).eval = ρ at h0 ⊢
      go_simp
    · have d0 := hd 7 (by kernel_rfl)
      rw [e7, g7] at d0
      have h0 := (hin (X := X) (k := 28) (by decide)).trans d0
      refine v_value (V := V 8) (v := .pointer (some ⟨rb, off, none⟩)) ?_ (by rw [e8])
      generalize (puts A X ds).eval = ρ at h0 ⊢
      go_simp
    · have d0 := hd 8 (by kernel_rfl)
      rw [e8, g8] at d0
      have h0 := (hin (X := X) (k := 29) (by decide)).trans d0
      have c0 := (hb.cell (p := ⟨rb, off, none⟩) (lt_cell hI)).trans hI
      refine v_value (V := V 9) (v := .int .i64 id) ?_ (by rw [e9])
      generalize (puts A X ds).eval = ρ at h0 ⊢
      go_simp
    · have d0 := hd 5 (by kernel_rfl)
      rw [e5, g5] at d0
      have h0 := (hin (X := X) (k := 26) (by decide)).trans d0
      have d1 := hd 9 (by kernel_rfl)
      rw [e9, g9] at d1
      have h1 := (hin (X := X) (k := 30) (by decide)).trans d1
      have hf : (puts A X ds).eval (.func 137) = .func (.func 137) #[] #[] := rfl
      refine v_call (V := V 10) (f := 137) (vs := #[.pointer (some ⟨bx, 0, none⟩), .int .i64 id]) ?_ ?_
      · generalize (puts A X ds).eval = ρ at h0 h1 hf ⊢
        go_simp
      · refine (hFo W hb).mono ?_
        rintro r W' ⟨mo, mc, rfl, hq, hb'⟩
        exact ⟨_, rfl, by rw [e10]; exact ⟨mo, mc, rfl, hq⟩, hb'⟩
    · have d0 := hd 1 (by kernel_rfl)
      rw [e1, g1] at d0
      have h0 := (hin (X := X) (k := 22) (by decide)).trans d0
      have d1 := hd 10 (by kernel_rfl)
      rw [e10, g10] at d1
      obtain ⟨mo, mc, d1, hq⟩ := d1
      have h1 := (hin (X := X) (k := 31) (by decide)).trans d1
      have hf : (puts A X ds).eval (.func 135) = .func (.func 135) #[] #[] := rfl
      refine v_call (V := V 11) (f := 135) (vs := #[.int .i64 k, .slice mo n mc]) ?_ ?_
      · generalize (puts A X ds).eval = ρ at h0 h1 hf ⊢
        go_simp
      · refine (hCb W mo mc hb hq).mono ?_
        rintro r W' ⟨v0, rfl, hq', hb'⟩
        exact ⟨_, rfl, by rw [e11]; exact ⟨v0, rfl, hq'⟩, hb'⟩
    · have d0 := hd 11 (by kernel_rfl)
      rw [e11, g11] at d0
      obtain ⟨v0, d0, hq⟩ := d0
      have h0 := (hin (X := X) (k := 32) (by decide)).trans d0
      refine v_value (V := V 12) (v := .tuple #[v0, .int .i64 e]) ?_ (by rw [e12]; exact ⟨v0, rfl, hq⟩)
      generalize (puts A X ds).eval = ρ at h0 ⊢
      go_simp
    · have d0 := hd 12 (by kernel_rfl)
      rw [e12, g12] at d0
      obtain ⟨v0, d0, hq⟩ := d0
      have h0 := (hin (X := X) (k := 20) (by decide)).trans d0
      refine v_value (V := V 13) (v := v0) ?_ (by rw [e13]; exact hq)
      generalize (puts A X ds).eval = ρ at h0 ⊢
      go_simp
    · have d0 := hd 12 (by kernel_rfl)
      rw [e12, g12] at d0
      obtain ⟨v0, d0, hq⟩ := d0
      have h0 := (hin (X := X) (k := 20) (by decide)).trans d0
      refine v_value (V := V 14) (v := .int .i64 e) ?_ (by rw [e14])
      generalize (puts A X ds).eval = ρ at h0 ⊢
      go_simp
    · have d0 := hd 13 (by kernel_rfl)
      rw [e13, g13] at d0
      have h0 := hin (X := X) (k := 33) (by decide)
      refine v_value (V := V 15) (v := X 33) ?_ (by rw [e15]; exact d0)
      generalize (puts A X ds).eval = ρ at h0 ⊢
      go_simp
    · have d0 := hd 14 (by kernel_rfl)
      rw [e14, g14] at d0
      have h0 := (hin (X := X) (k := 34) (by decide)).trans d0
      refine v_value (V := V 16) (v := .int .i64 e) ?_ (by rw [e16])
      generalize (puts A X ds).eval = ρ at h0 ⊢
      go_simp
  · intro X W hb hall
    have r0 := hall 0 (by decide)
    rw [e0, g0] at r0
    have r1 := hall 1 (by decide)
    rw [e1, g1] at r1
    have r2 := hall 2 (by decide)
    rw [e2, g2] at r2
    have r3 := hall 3 (by decide)
    rw [e3, g3] at r3
    have r4 := hall 4 (by decide)
    rw [e4, g4] at r4
    have r5 := hall 5 (by decide)
    rw [e5, g5] at r5
    have r6 := hall 6 (by decide)
    rw [e6, g6] at r6
    have r7 := hall 7 (by decide)
    rw [e7, g7] at r7
    have r8 := hall 8 (by decide)
    rw [e8, g8] at r8
    have r9 := hall 9 (by decide)
    rw [e9, g9] at r9
    have r10 := hall 10 (by decide)
    rw [e10, g10] at r10
    have r11 := hall 11 (by decide)
    rw [e11, g11] at r11
    have r12 := hall 12 (by decide)
    rw [e12, g12] at r12
    have r13 := hall 13 (by decide)
    rw [e13, g13] at r13
    have r14 := hall 14 (by decide)
    rw [e14, g14] at r14
    have r15 := hall 15 (by decide)
    rw [e15, g15] at r15
    have r16 := hall 16 (by decide)
    rw [e16, g16] at r16
    have := HK X W hb (by first | assumption | exact ⟨by assumption, by assumption⟩ | exact ⟨by assumption, by assumption, by assumption⟩ | simp_all)
    rw [hds] at this
    exact this
end Go.Proofs.YtnhijofnhflklaaGreat
end
