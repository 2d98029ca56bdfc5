/- What Put does to a box. -/
import Derived.Test.YtfajkfngjfhkoabCbBox
import Derived.Deep.Cut
import Derived.Deep.DeepCutAuto
import Derived.Deep.RegionHeldLaw
import Derived.BigRegion
namespace Go.Proofs.Ytfajkfngjfhkoab
open Go.RowKit Go.Maps
theorem infoMsg : (Try.prog.info? 24).map (fun i => (i.zero, i.size, i.bytes)) = some (some (.agg #[.int .i64 0, .int .i64 0, .int .i64 0, .int .i64 0]), 4, 32) := by kernel_rfl
theorem bx_one {W : World} {b : Nat} {t : TypeId} {u0 : Value} (h : W.heap[b]? = some (.cells #[u0] t (0, 0))) : W.cell? ⟨b, 0, none⟩ = some u0 ∧ W.frozen? ⟨b, 0, none⟩ = false := by
  refine ⟨?_, ?_⟩
  · simp [World.cell?, h]
  · simp [World.frozen?, h]
/-- One append onto a row of the call's own, as one step of a region that draws. -/
theorem m_step_append {P : Program} {ops : Array Oper} {o : Oper} {a : Act} {w : World} {K : Act → World → Prop} {Q : Exit → Act → World → Prop} {E : Prop}
    (hg : o.guard = none) (s x : Operand) (t : TypeId) (hop : o.op = .call { callee := .builtin .append, args := #[s, x], argTypes := #[t, t] })
    (base : Nat) (e : TypeId) (i : TypeInfo) (z : Value) (size bytes : Nat) (ht : P.underlying t = some (.slice e)) (hi : P.info? e = some i) (hz : i.zero = some z)
    (hsize : i.size = size) (hby : i.bytes = bytes) (hzs : z.cells.size = size) (hsz : 0 < size)
    (v : Value) (n : Nat) (xs : List Value) (hs : a.eval s = v) (hown : w.ownsRow base e size v n xs)
    (ad : Addr) (m c : Nat) (news : List Value) (hx : a.eval x = .slice (some ad) m c) (hl : news.length = m * size) (hnews : ∀ j u, news[j]? = some u → w.cell? (ad.add j) = some u) (h1 : ∀ u ∈ news, u.oneCell' = true)
    (h63 : n + m ≤ maxLen) (hbytes : (n + m) * bytes ≤ 140737488355328) (hbase : base ≤ w.heap.size)
    (h : ∀ v' w', w'.ownsRow base e size v' (n + m) (xs ++ news) → w.grownBy w' v.ownBlock → (v'.ownBlock = v.ownBlock ∨ v'.ownBlock = some w.heap.size) → K (a.put o.dst v') w') :
    if Region.wanted o (yielded ops a.tmps) = true then Oper.wp P o a w K Q else E := by
  have hw : Region.wanted o (yielded ops a.tmps) = true := by simp [Region.wanted, hg]
  rw [if_pos hw]
  obtain ⟨v', w', hr, h2, h3, _, h5⟩ := run_append_own_at (P := P) w base t o.type e i z size bytes ht hi hz hsize hby hzs hsz v n xs hown ad m c news hl hnews h1 h63 hbytes hbase
  unfold Oper.wp execOp
  simp only [hop, resolve, invoke, builtin, Sem.run_bind, Sem.run_pure, Result.andThen_ok, List.map_toArray, List.map_cons, List.map_nil, hs, hx, hr]
  exact h v' w' h2 h3 h5
theorem m_lt {w : World} {g : Nat} {o : Obj} (h : w.heap[g]? = some o) : g < w.heap.size := (Array.getElem?_eq_some_iff.1 h).1
theorem m_set1 {w : World} {b : Nat} {t : TypeId} {u0 : Value} (h : w.heap[b]? = some (.cells #[u0] t (0, 0))) (x : Value) : (w.setCell ⟨b, 0, none⟩ x).heap[b]? = some (.cells #[x] t (0, 0)) := by
  have hlt := m_lt h
  have h' : w.heap[b] = .cells #[u0] t (0, 0) := by simpa [Array.getElem?_eq_getElem hlt] using h
  show (w.heap.modify b _)[b]? = _
  rw [Array.getElem?_eq_getElem (by simpa using hlt), Array.getElem_modify_self, h']
  rfl
theorem m_four {W : World} {b : Nat} {t : TypeId} {x y z u0 : Value} (h : W.heap[b]? = some (.cells #[x, y, z, u0] t (0, 0))) : ∀ (j : Nat) (u : Value), [x, y, z, u0][j]? = some u → W.cell? ((⟨b, 0, none⟩ : Addr).add j) = some u := by
  intro j u hu
  have hadd : (⟨b, 0, none⟩ : Addr).add j = ⟨b, j, none⟩ := by unfold Addr.add; split <;> simp_all
  rw [hadd]
  simp [World.cell?, h]
  simpa using hu
theorem m_cells {W : World} {b : Nat} {t : TypeId} {x y z u0 : Value} (h : W.heap[b]? = some (.cells #[x, y, z, u0] t (0, 0))) : W.cell? ⟨b, 0, none⟩ = some x ∧ W.cell? ⟨b, 1, none⟩ = some y ∧ W.cell? ⟨b, 2, none⟩ = some z ∧ W.cell? ⟨b, 3, none⟩ = some u0 := by
  simp [World.cell?, h]
theorem zeroSl (w : World) : (zeroValue 22).run Try.prog w = .ok (.slice none 0 0) w := by kernel_rfl
theorem msgOne (y : Msg) : ∀ u ∈ msgCells y, u.oneCell' = true := by
  intro u hu
  simp [msgCells] at hu
  rcases hu with rfl | rfl | rfl | rfl <;> rfl
theorem m_five {W : World} {b q M : Nat} {y : Msg} (hb : W.cell? ⟨b, 0, none⟩ = some (.map (some M))) (hq : W.heap[q]? = some (.cells #[.int .i64 y.f, .int .i64 y.t, .int .i64 y.a, .int .i64 y.v] 24 (0, 0))) :
    W.cell? ⟨b, 0, none⟩ = some (.map (some M)) ∧ W.cell? ⟨q, 0, none⟩ = some (.int .i64 y.f) ∧ W.cell? ⟨q, 1, none⟩ = some (.int .i64 y.t) ∧ W.cell? ⟨q, 2, none⟩ = some (.int .i64 y.a) ∧ W.cell? ⟨q, 3, none⟩ = some (.int .i64 y.v) := ⟨hb, m_cells hq⟩
theorem Mo.snoc {w : World} {t : TypeId} {v : Value} {L : List Msg} {y : Msg} (h : w.ownsRow 0 t 4 v (L.length + 1) (L.flatMap msgCells ++ msgCells y)) : Mo w t v (L ++ [y]) := by
  unfold Mo
  rw [List.length_append, List.flatMap_append]
  simpa using h
theorem MP.notBox {w : World} {S : Nat → Prop} {M N : Nat} {D : DataW Value} {B : List Msg} (h : MP w S M N D B) {b : Nat} {cs : Array Value} (hb : w.heap[b]? = some (.cells cs 75 (0, 0))) : M ≠ b ∧ ∀ id k, (hdOf D id).ownBlock = some k → k ≠ b := by
  constructor
  · rintro rfl
    obtain ⟨es, clock, hm, _⟩ := h.own
    rw [hb] at hm
    cases hm
  · rintro id k hk rfl
    obtain ⟨cur, hc⟩ := (h.rows id).tag k hk
    rw [hb] at hc
    cases hc
/-- What a look-up gives. -/
theorem MP.look {w : World} {S : Nat → Prop} {M N : Nat} {D : DataW Value} {B : List Msg} (h : MP w S M N D B) {id : Int} (hid : I64 id) : Sem.run Try.prog (Instr.lookup 67 (.map (some M)) (.int .i64 id) false) w = .ok (hdOf D id) w := by
  obtain ⟨v, ps, hr, hv⟩ := h.own.lookup law64 Try.underlying67 (zeroSl w) (zd := .held nilS) (zp := []) rfl (keyOf_i64 hid)
  rw [hr, ← hd_of hv]
/-- What a store does. -/
theorem MP.store {w w1 : World} {S : Nat → Prop} {M N : Nat} {D : DataW Value} {B : List Msg} (h : MP w S M N D B) (hN : N < 9223372036854775807) {m : Msg} (hid : I64 m.t) {v' : Value}
    (hg : w.grownBy w1 (hdOf D m.t).ownBlock) (hrow : Mo w1 24 v' (toV B m.t ++ [m])) (hloc : v'.ownBlock = (hdOf D m.t).ownBlock ∨ v'.ownBlock = some w.heap.size) (hnew : ∀ k, w.heap.size ≤ k → S k) :
    ∃ w2 D2, Sem.run Try.prog (Instr.mapUpdate 67 (.map (some M)) (.int .i64 m.t) v') w1 = .ok () w2 ∧ MP w2 S M (N + 1) D2 (B ++ [m]) ∧ w1.grownBy w2 (some M) := by
  have hown1 : w1.ownsMap Try.prog 2 heldR M N D := h.own.kept hg (by
    rcases h.mapRow m.t with e | e
    · rw [e]; simp
    · exact fun e' => e e'.symm)
  obtain ⟨w2, hr, hown, hg2⟩ := hown1.update law64 Try.underlying67 (by unfold maxLen; omega) (keyOf_i64 hid) (d := .held v') (ps := []) rfl
  exact ⟨w2, _, hr, h.put hg hrow (hloc.imp id (fun e => ⟨_, e, Nat.le_refl _⟩)) hnew hown hg2, hg2⟩
theorem map_nil {t k e : TypeId} (ht : Try.prog.underlying t = some (.map k e)) (w : World) (p : Option Nat) : (binOp .eql t (.map p) (.map none)).run Try.prog w = .ok (.bool p.isNone) w := by
  have h1 : ∀ d, (Op.equalIn (d + 1) t (.map p) (.map none)).run Try.prog w = .ok p.isNone w := fun d => by
    cases p <;> simp [Op.equalIn, run_underlying ht]
  simp only [binOp]
  simp [show Op.equal t (.map p) (.map none) = Op.equalIn (9999 + 1) t (.map p) (.map none) from rfl, h1 9999]
set_option maxRecDepth 100000 in
set_option maxHeartbeats 1000000 in
theorem put_loop {w : World} {S : Nat → Prop} {b M N : Nat} {D : DataW Value} {B : List Msg} (hbx : w.heap[b]? = some (.cells #[.map (some M)] 75 (0, 0))) (hSb : S b) (hM : MP w S M N D B) (l : List Msg) (ao : Option Addr) (cap : Nat) (hl : MsAt w (fun k => ¬ S k) ao l) (hok : ∀ m ∈ l, m.ok) (hN : N + l.length < 9223372036854775807) (hB : (B.length + l.length) * 32 ≤ 140737488355328) :
    Calls Try.prog 19 #[.pointer (some ⟨b, 0, none⟩), .slice ao l.length cap] w fun r w' => r = .returned (.int .i64 0) ∧ BX w' (fun k => S k ∨ w.heap.size ≤ k) b (N + l.length) (B ++ l) ∧ Fr w w' S := by
  obtain ⟨i0, hi, hz0, hz1, hz2⟩ := info_parts infoMsg
  have HL : Hid (MsAt w (fun k => ¬ S k) ao l) := hl
  have HOk : Hid (∀ m ∈ l, m.ok) := hok
  have HM : Hid _ := hM
  have HSb : Hid _ := hSb
  have HB : Hid _ := hbx
  obtain ⟨p0, p1⟩ := bx_one hbx
  have hq := fun w => map_nil Try.underlying67 w (some M)
  clear hl hok hM hSb hbx
  go_enter Try.func19, Try.ntmps19
  go_wp2
  go_loopw [6, 20] (fun _ i wr => ∃ (j : Nat) (D' : DataW Value), j ≤ l.length ∧ i = .int .i64 j ∧ wr.heap[b]? = some (.cells #[.map (some M)] 75 (0, 0)) ∧ MP wr (fun k => S k ∨ w.heap.size ≤ k) M (N + j) D' (B ++ l.take j) ∧ Fr w wr S) (fun _ i _ => l.length - (intOf i).toNat)
  case atStart =>
    refine ⟨0, D, Nat.zero_le _, rfl, HB.out, ?_, Fr.refl _ _⟩
    rw [List.take_zero, List.append_nil]
    exact HM.out.mono (fun k _ h => Or.inl h)
  case round =>
    obtain ⟨j, D', hj, rfl, hb, hmp, hf⟩ := hrel
    by_cases hlt : j < l.length
    · obtain ⟨g, off, rfl, hP, hc⟩ := HL.out (by omega)
      obtain ⟨e0, e1, e2, e3⟩ := hc j hlt
      have d0 := fr_cell hf hP e0
      have d1 := fr_cell hf hP e1
      have d2 := fr_cell hf hP e2
      have d3 := fr_cell hf hP e3
      have oky := HOk.out _ (List.getElem_mem hlt)
      have HS : Hid (l.take (j + 1) = l.take j ++ [l[j]]) := List.take_succ_eq_append_getElem hlt
      generalize l[j] = y at d0 d1 d2 d3 oky HS
      obtain ⟨c0, c1⟩ := bx_one hb
      have HMP : Hid _ := hmp
      have HF : Hid _ := hf
      have HBl : Hid _ := hb
      clear e0 e1 e2 e3 hc hmp hf hb
      go_upto_region 8 with (fail)
      have hq1 : (wr.alloc (.cells #[.int .i64 y.f, .int .i64 y.t, .int .i64 y.a, .int .i64 y.v] 24)).heap[wr.heap.size]? = some (.cells #[.int .i64 y.f, .int .i64 y.t, .int .i64 y.a, .int .i64 y.v] 24 (0, 0)) := heap_alloc_new _ _
      have hM1 := HMP.out.new ((Below.refl wr.heap.size wr).alloc (Nat.le_refl _) (.cells #[.int .i64 y.f, .int .i64 y.t, .int .i64 y.a, .int .i64 y.v] 24))
      have hb1 := (Below.heap_alloc wr (.cells #[.int .i64 y.f, .int .i64 y.t, .int .i64 y.a, .int .i64 y.v] 24) b (m_lt HBl.out)).trans HBl.out
      have hf1 : Fr w (wr.alloc (.cells #[.int .i64 y.f, .int .i64 y.t, .int .i64 y.a, .int .i64 y.v] 24)) S := HF.out.trans (Fr.alloc _ _ _) (fun _ _ h => h)
      have hsz : w.heap.size ≤ wr.heap.size := HF.out.size
      have hbq : b ≠ wr.heap.size := by have := m_lt HBl.out; omega
      have HHq : Hid (M < wr.heap.size) := HMP.out.own.lt
      have HHd : Hid (M ≠ b ∧ (S M ∨ w.heap.size ≤ M) ∧ ∀ k, (hdOf D' y.t).ownBlock = some k → (S k ∨ w.heap.size ≤ k) ∧ k ≠ b ∧ k < wr.heap.size) := by
        have := HMP.out.notBox HBl.out
        exact ⟨this.1, HMP.out.inS, fun k hk => ⟨HMP.out.rowS _ _ hk, this.2 _ _ hk, (HMP.out.rows y.t).lt k hk⟩⟩
      generalize wr.alloc _ = W at hq1 hM1 hb1 hf1 ⊢
      generalize wr.heap.size = q at hq1 hsz hbq HHd HHq ⊢
      have hlk0 : Sem.run Try.prog (Instr.lookup 67 (.map (some M)) (.int .i64 y.t) false) W.drew = .ok (hdOf D' y.t) W.drew := (hM1.new ((Below.refl W.heap.size W).drew)).look oky.t
      have hlk1 : Sem.run Try.prog (Instr.lookup 67 (.map (some M)) (.int .i64 y.t) false) (W.alloc (.cells #[.int .i64 y.f, .int .i64 y.t, .int .i64 y.a, .int .i64 y.v] 24)).drew = .ok (hdOf D' y.t) (W.alloc (.cells #[.int .i64 y.f, .int .i64 y.t, .int .i64 y.a, .int .i64 y.v] 24)).drew := (hM1.new (((Below.refl W.heap.size W).alloc (Nat.le_refl _) _).drew)).look oky.t
      have hM2 := hM1.new (((Below.refl W.heap.size W).drew).alloc (Nat.le_refl _) (.cells #[.int .i64 y.f, .int .i64 y.t, .int .i64 y.a, .int .i64 y.v] 24))
      have hrow := hM2.rows y.t
      obtain ⟨k0, k1, k2, k3⟩ := m_cells hq1
      obtain ⟨b0, b1⟩ := bx_one hb1
      have b0' : (W.alloc (.cells #[.int .i64 y.f, .int .i64 y.t, .int .i64 y.a, .int .i64 y.v] 24)).cell? ⟨b, 0, none⟩ = some (.map (some M)) := fr_cell (Fr.alloc W _ (fun _ => False)) (fun h => h) b0
      have hq2 := (Below.heap_alloc W (.cells #[.int .i64 y.f, .int .i64 y.t, .int .i64 y.a, .int .i64 y.v] 24) q (m_lt hq1)).trans hq1
      have x0 := m_five b0 hq1
      have x1 := m_five b0' hq2
      have hlen : (toV (B ++ l.take j) y.t).length ≤ B.length + j := by
        refine Nat.le_trans (List.length_filter_le _ _) ?_
        rw [List.length_append, List.length_take]; omega
      have HM2 : Hid _ := hM2
      have HRow : Hid _ := hrow
      have HQ1 : Hid _ := hq1
      have HQ2 : Hid _ := hq2
      have HB1 : Hid _ := hb1
      have HF1 : Hid _ := hf1
      have HLen : Hid _ := hlen
      have okt := oky.t
      clear hM1 hM2 hrow hq1 hq2 hb1 hf1 hlen HMP HF HBl c0 c1 d0 d1 d2 d3
      generalize hv : hdOf D' y.t = v at hlk0 hlk1
      have HV : Hid _ := hv
      clear hv
      go_region_held_law (fun w' => w'.cell? ⟨b, 0, none⟩ = some (.map (some M)) ∧ w'.cell? ⟨q, 0, none⟩ = some (.int .i64 y.f) ∧ w'.cell? ⟨q, 1, none⟩ = some (.int .i64 y.t) ∧ w'.cell? ⟨q, 2, none⟩ = some (.int .i64 y.a) ∧ w'.cell? ⟨q, 3, none⟩ = some (.int .i64 y.v)) (first | exact x3 | exact x2 | exact x1 | exact x0)
        ((refine m_step_append rfl (.tmp 36) (.tmp 38) 22 rfl 0 24 i0 (.agg #[.int .i64 0, .int .i64 0, .int .i64 0, .int .i64 0]) 4 32 Try.underlying22 hi hz0 hz1 hz2 rfl (by decide) v _ _ (by simp [Act.eval]) (by rw [← HV.out]; exact HRow.out) ⟨W.heap.size, 0, none⟩ 1 1 (msgCells y) (by simp [Act.eval]) rfl (m_four (heap_alloc_new _ _)) (msgOne y) (by have := HLen.out; unfold maxLen; omega) (by have := HLen.out; omega) (Nat.zero_le _) ?_; intro v' w1 hown' hgrow hat; obtain ⟨w2, D2, hst, hmp2, hg2⟩ := HM2.out.store (by omega) (m := y) okt (by rw [HV.out]; exact hgrow) (Mo.snoc hown') (by rw [HV.out]; exact hat) (fun k hk => Or.inr (by have := HF1.out.size; simp at hk; omega)); have x2 := m_five (hgrow.cell b0' (fun e => (HHd.out.2.2 b (by rw [HV.out]; exact e.symm)).2.1 rfl)) ((hgrow.block q (m_lt HQ2.out) (fun e => absurd (HHd.out.2.2 q (by rw [HV.out]; exact e.symm)).2.2 (Nat.lt_irrefl _))).trans HQ2.out); have x3 := m_five (hg2.cell x2.1 (fun e => by cases e; exact HHd.out.1 rfl)) ((hg2.block q (Nat.lt_of_lt_of_le (m_lt HQ2.out) hgrow.size) (fun e => by cases e; exact Nat.lt_irrefl _ HHq.out)).trans ((hgrow.block q (m_lt HQ2.out) (fun e => absurd (HHd.out.2.2 q (by rw [HV.out]; exact e.symm)).2.2 (Nat.lt_irrefl _))).trans HQ2.out)); have H1 : Hid _ := hmp2; have H2 : Hid _ := hg2; have H3 : Hid _ := hgrow; clear hmp2 hg2 hgrow hown' hat))
      all_goals
        have hmp3 := H1.out
        have f2 : Fr W w2 (fun k => S k ∨ w.heap.size ≤ k) := (((Fr.drew W _).trans (Fr.alloc W.drew _ _) (fun _ _ h => h)).trans (Fr.grown H3.out (fun k hk => (HHd.out.2.2 k (by rw [HV.out]; exact hk)).1)) (fun _ _ h => h)).trans (Fr.grown H2.out (fun k hk => by cases hk; exact HHd.out.2.1)) (fun _ _ h => h)
        have hf3 : Fr w w2 S := HF1.out.trans f2 (fun k hk h => h.resolve_right (by omega))
        have hb3 : w2.heap[b]? = some (.cells #[.map (some M)] 75 (0, 0)) := by
          have hlt : b < (W.drew.alloc (.cells #[.int .i64 y.f, .int .i64 y.t, .int .i64 y.a, .int .i64 y.v] 24)).heap.size := by have := m_lt HB1.out; simp; omega
          refine (H2.out.block b (Nat.lt_of_lt_of_le hlt H3.out.size) (fun e => by cases e; exact HHd.out.1 rfl)).trans ?_
          refine (H3.out.block b hlt (fun e => (HHd.out.2.2 b (by rw [HV.out]; exact e.symm)).2.1 rfl)).trans ?_
          exact (Below.heap_alloc W.drew _ b (m_lt HB1.out)).trans HB1.out
        clear hst x0 x1 x2 x3 hlk0 hlk1 b0' b0 b1 k0 k1 k2 k3
        have HH : Hid _ := hmp3
        have HI : Hid _ := hf3
        have HJ : Hid _ := hb3
        clear hmp3 hf3 hb3 f2
        go_wp2
        go_roundw
        case rel =>
          refine ⟨j + 1, D2, by omega, by go_num, HJ.out, ?_, HI.out⟩
          rw [HS.out, ← List.append_assoc, ← Nat.add_assoc]
          exact HH.out
        case measure => simp [intOf]; omega
    · obtain rfl : j = l.length := by omega
      have hX : BX wr (fun k => S k ∨ w.heap.size ≤ k) b (N + l.length) (B ++ l) := by
        rw [List.take_length] at hmp
        exact ⟨⟨_, hb, .some M D' hmp⟩, Or.inl HSb.out⟩
      have HX : Hid _ := hX
      have HF : Hid _ := hf
      clear hX hf hmp hb
      go_wp2
      go_ret
      exact ⟨rfl, HX.out, HF.out⟩
set_option maxRecDepth 100000 in
set_option maxHeartbeats 1000000 in
theorem put_none {w : World} {S : Nat → Prop} {b : Nat} (hbx : w.heap[b]? = some (.cells #[.map none] 75 (0, 0))) (hSb : S b) (l : List Msg) (ao : Option Addr) (cap : Nat) (hl : MsAt w (fun k => ¬ S k) ao l) (hok : ∀ m ∈ l, m.ok) (hN : 0 + l.length < 9223372036854775807) (hB : (([] : List Msg).length + l.length) * 32 ≤ 140737488355328) :
    Calls Try.prog 19 #[.pointer (some ⟨b, 0, none⟩), .slice ao l.length cap] w fun r w' => r = .returned (.int .i64 0) ∧ BX w' (fun k => S k ∨ w.heap.size ≤ k) b (0 + l.length) ([] ++ l) ∧ Fr w w' S := by
  obtain ⟨i0, hi, hz0, hz1, hz2⟩ := info_parts infoMsg
  have HL : Hid (MsAt w (fun k => ¬ S k) ao l) := hl
  have HOk : Hid (∀ m ∈ l, m.ok) := hok
  have HSb : Hid _ := hSb
  have HB : Hid _ := hbx
  obtain ⟨p0, p1⟩ := bx_one hbx
  obtain ⟨p2, p3⟩ := bx_one ((Below.heap_alloc w (.map #[] 0) b (m_lt hbx)).trans hbx)
  have hmm := @run_makeMap Try.prog
  have hq := fun w => map_nil Try.underlying67 w none
  clear hl hok hSb hbx
  go_enter Try.func19, Try.ntmps19
  go_upto_region 5 with (fail)
  have hbl := m_lt HB.out
  have h1 := m_set1 ((Below.heap_alloc w (.map #[] 0) b hbl).trans HB.out) (.map (some w.heap.size))
  have h2 : MP ((w.alloc (.map #[] 0)).setCell ⟨b, 0, none⟩ (.map (some w.heap.size))) (fun k => S k ∨ w.heap.size ≤ k) w.heap.size 0 (.map []) [] := ((MP.made w (S := fun k => w.heap.size ≤ k) (Nat.le_refl _)).kept (Fr.setCell (S := fun k => k = b) _ _ _ rfl) (fun k hk e => by omega)).mono (fun k _ h => Or.inr h)
  have h3 : Fr w ((w.alloc (.map #[] 0)).setCell ⟨b, 0, none⟩ (.map (some w.heap.size))) S := (Fr.alloc w _ _).trans (Fr.setCell _ _ _ HSb.out) (fun _ _ h => h)
  generalize hMe : w.heap.size = M at h1 h2 h3 ⊢
  generalize World.setCell _ _ _ = W4 at h1 h2 h3 ⊢
  have HMe : Hid _ := hMe
  have H2 : Hid _ := h2
  have H3 : Hid _ := h3
  have H1 : Hid _ := h1
  clear h1 h2 h3 hMe p0 p1 p2 p3 hmm hq
  go_wp2
  go_loopw [6, 20] (fun _ i wr => ∃ (j : Nat) (D' : DataW Value), j ≤ l.length ∧ i = .int .i64 j ∧ wr.heap[b]? = some (.cells #[.map (some M)] 75 (0, 0)) ∧ MP wr (fun k => S k ∨ w.heap.size ≤ k) M (0 + j) D' ([] ++ l.take j) ∧ Fr w wr S) (fun _ i _ => l.length - (intOf i).toNat)
  case atStart => exact ⟨0, .map [], Nat.zero_le _, rfl, H1.out, HMe.out ▸ H2.out, H3.out⟩
  case round =>
    obtain ⟨j, D', hj, rfl, hb, hmp, hf⟩ := hrel
    by_cases hlt : j < l.length
    · obtain ⟨g, off, rfl, hP, hc⟩ := HL.out (by omega)
      obtain ⟨e0, e1, e2, e3⟩ := hc j hlt
      have d0 := fr_cell hf hP e0
      have d1 := fr_cell hf hP e1
      have d2 := fr_cell hf hP e2
      have d3 := fr_cell hf hP e3
      have oky := HOk.out _ (List.getElem_mem hlt)
      have HS : Hid (l.take (j + 1) = l.take j ++ [l[j]]) := List.take_succ_eq_append_getElem hlt
      generalize l[j] = y at d0 d1 d2 d3 oky HS
      obtain ⟨c0, c1⟩ := bx_one hb
      have HMP : Hid _ := hmp
      have HF : Hid _ := hf
      have HBl : Hid _ := hb
      clear e0 e1 e2 e3 hc hmp hf hb
      go_upto_region 8 with (fail)
      have hq1 : (wr.alloc (.cells #[.int .i64 y.f, .int .i64 y.t, .int .i64 y.a, .int .i64 y.v] 24)).heap[wr.heap.size]? = some (.cells #[.int .i64 y.f, .int .i64 y.t, .int .i64 y.a, .int .i64 y.v] 24 (0, 0)) := heap_alloc_new _ _
      have hM1 := HMP.out.new ((Below.refl wr.heap.size wr).alloc (Nat.le_refl _) (.cells #[.int .i64 y.f, .int .i64 y.t, .int .i64 y.a, .int .i64 y.v] 24))
      have hb1 := (Below.heap_alloc wr (.cells #[.int .i64 y.f, .int .i64 y.t, .int .i64 y.a, .int .i64 y.v] 24) b (m_lt HBl.out)).trans HBl.out
      have hf1 : Fr w (wr.alloc (.cells #[.int .i64 y.f, .int .i64 y.t, .int .i64 y.a, .int .i64 y.v] 24)) S := HF.out.trans (Fr.alloc _ _ _) (fun _ _ h => h)
      have hsz : w.heap.size ≤ wr.heap.size := HF.out.size
      have hbq : b ≠ wr.heap.size := by have := m_lt HBl.out; omega
      have HHq : Hid (M < wr.heap.size) := HMP.out.own.lt
      have HHd : Hid (M ≠ b ∧ (S M ∨ w.heap.size ≤ M) ∧ ∀ k, (hdOf D' y.t).ownBlock = some k → (S k ∨ w.heap.size ≤ k) ∧ k ≠ b ∧ k < wr.heap.size) := by
        have := HMP.out.notBox HBl.out
        exact ⟨this.1, HMP.out.inS, fun k hk => ⟨HMP.out.rowS _ _ hk, this.2 _ _ hk, (HMP.out.rows y.t).lt k hk⟩⟩
      generalize wr.alloc _ = W at hq1 hM1 hb1 hf1 ⊢
      generalize wr.heap.size = q at hq1 hsz hbq HHd HHq ⊢
      have hlk0 : Sem.run Try.prog (Instr.lookup 67 (.map (some M)) (.int .i64 y.t) false) W.drew = .ok (hdOf D' y.t) W.drew := (hM1.new ((Below.refl W.heap.size W).drew)).look oky.t
      have hlk1 : Sem.run Try.prog (Instr.lookup 67 (.map (some M)) (.int .i64 y.t) false) (W.alloc (.cells #[.int .i64 y.f, .int .i64 y.t, .int .i64 y.a, .int .i64 y.v] 24)).drew = .ok (hdOf D' y.t) (W.alloc (.cells #[.int .i64 y.f, .int .i64 y.t, .int .i64 y.a, .int .i64 y.v] 24)).drew := (hM1.new (((Below.refl W.heap.size W).alloc (Nat.le_refl _) _).drew)).look oky.t
      have hM2 := hM1.new (((Below.refl W.heap.size W).drew).alloc (Nat.le_refl _) (.cells #[.int .i64 y.f, .int .i64 y.t, .int .i64 y.a, .int .i64 y.v] 24))
      have hrow := hM2.rows y.t
      obtain ⟨k0, k1, k2, k3⟩ := m_cells hq1
      obtain ⟨b0, b1⟩ := bx_one hb1
      have b0' : (W.alloc (.cells #[.int .i64 y.f, .int .i64 y.t, .int .i64 y.a, .int .i64 y.v] 24)).cell? ⟨b, 0, none⟩ = some (.map (some M)) := fr_cell (Fr.alloc W _ (fun _ => False)) (fun h => h) b0
      have hq2 := (Below.heap_alloc W (.cells #[.int .i64 y.f, .int .i64 y.t, .int .i64 y.a, .int .i64 y.v] 24) q (m_lt hq1)).trans hq1
      have x0 := m_five b0 hq1
      have x1 := m_five b0' hq2
      have hlen : (toV ([] ++ l.take j) y.t).length ≤ ([] : List Msg).length + j := by
        refine Nat.le_trans (List.length_filter_le _ _) ?_
        rw [List.length_append, List.length_take]; omega
      have HM2 : Hid _ := hM2
      have HRow : Hid _ := hrow
      have HQ1 : Hid _ := hq1
      have HQ2 : Hid _ := hq2
      have HB1 : Hid _ := hb1
      have HF1 : Hid _ := hf1
      have HLen : Hid _ := hlen
      have okt := oky.t
      clear hM1 hM2 hrow hq1 hq2 hb1 hf1 hlen HMP HF HBl c0 c1 d0 d1 d2 d3
      generalize hv : hdOf D' y.t = v at hlk0 hlk1
      have HV : Hid _ := hv
      clear hv
      go_region_held_law (fun w' => w'.cell? ⟨b, 0, none⟩ = some (.map (some M)) ∧ w'.cell? ⟨q, 0, none⟩ = some (.int .i64 y.f) ∧ w'.cell? ⟨q, 1, none⟩ = some (.int .i64 y.t) ∧ w'.cell? ⟨q, 2, none⟩ = some (.int .i64 y.a) ∧ w'.cell? ⟨q, 3, none⟩ = some (.int .i64 y.v)) (first | exact x3 | exact x2 | exact x1 | exact x0)
        ((refine m_step_append rfl (.tmp 36) (.tmp 38) 22 rfl 0 24 i0 (.agg #[.int .i64 0, .int .i64 0, .int .i64 0, .int .i64 0]) 4 32 Try.underlying22 hi hz0 hz1 hz2 rfl (by decide) v _ _ (by simp [Act.eval]) (by rw [← HV.out]; exact HRow.out) ⟨W.heap.size, 0, none⟩ 1 1 (msgCells y) (by simp [Act.eval]) rfl (m_four (heap_alloc_new _ _)) (msgOne y) (by have := HLen.out; unfold maxLen; omega) (by have := HLen.out; omega) (Nat.zero_le _) ?_; intro v' w1 hown' hgrow hat; obtain ⟨w2, D2, hst, hmp2, hg2⟩ := HM2.out.store (by omega) (m := y) okt (by rw [HV.out]; exact hgrow) (Mo.snoc hown') (by rw [HV.out]; exact hat) (fun k hk => Or.inr (by have := HF1.out.size; simp at hk; omega)); have x2 := m_five (hgrow.cell b0' (fun e => (HHd.out.2.2 b (by rw [HV.out]; exact e.symm)).2.1 rfl)) ((hgrow.block q (m_lt HQ2.out) (fun e => absurd (HHd.out.2.2 q (by rw [HV.out]; exact e.symm)).2.2 (Nat.lt_irrefl _))).trans HQ2.out); have x3 := m_five (hg2.cell x2.1 (fun e => by cases e; exact HHd.out.1 rfl)) ((hg2.block q (Nat.lt_of_lt_of_le (m_lt HQ2.out) hgrow.size) (fun e => by cases e; exact Nat.lt_irrefl _ HHq.out)).trans ((hgrow.block q (m_lt HQ2.out) (fun e => absurd (HHd.out.2.2 q (by rw [HV.out]; exact e.symm)).2.2 (Nat.lt_irrefl _))).trans HQ2.out)); have H1 : Hid _ := hmp2; have H2 : Hid _ := hg2; have H3 : Hid _ := hgrow; clear hmp2 hg2 hgrow hown' hat))
      all_goals
        have hmp3 := H1.out
        have f2 : Fr W w2 (fun k => S k ∨ w.heap.size ≤ k) := (((Fr.drew W _).trans (Fr.alloc W.drew _ _) (fun _ _ h => h)).trans (Fr.grown H3.out (fun k hk => (HHd.out.2.2 k (by rw [HV.out]; exact hk)).1)) (fun _ _ h => h)).trans (Fr.grown H2.out (fun k hk => by cases hk; exact HHd.out.2.1)) (fun _ _ h => h)
        have hf3 : Fr w w2 S := HF1.out.trans f2 (fun k hk h => h.resolve_right (by omega))
        have hb3 : w2.heap[b]? = some (.cells #[.map (some M)] 75 (0, 0)) := by
          have hlt : b < (W.drew.alloc (.cells #[.int .i64 y.f, .int .i64 y.t, .int .i64 y.a, .int .i64 y.v] 24)).heap.size := by have := m_lt HB1.out; simp; omega
          refine (H2.out.block b (Nat.lt_of_lt_of_le hlt H3.out.size) (fun e => by cases e; exact HHd.out.1 rfl)).trans ?_
          refine (H3.out.block b hlt (fun e => (HHd.out.2.2 b (by rw [HV.out]; exact e.symm)).2.1 rfl)).trans ?_
          exact (Below.heap_alloc W.drew _ b (m_lt HB1.out)).trans HB1.out
        clear hst x0 x1 x2 x3 hlk0 hlk1 b0' b0 b1 k0 k1 k2 k3
        have HH : Hid _ := hmp3
        have HI : Hid _ := hf3
        have HJ : Hid _ := hb3
        clear hmp3 hf3 hb3 f2
        go_wp2
        go_roundw
        case rel =>
          refine ⟨j + 1, D2, by omega, by go_num, HJ.out, ?_, HI.out⟩
          rw [HS.out, ← List.append_assoc, ← Nat.add_assoc]
          exact HH.out
        case measure => simp [intOf]; omega
    · obtain rfl : j = l.length := by omega
      have hX : BX wr (fun k => S k ∨ w.heap.size ≤ k) b (0 + l.length) ([] ++ l) := by
        rw [List.take_length] at hmp
        exact ⟨⟨_, hb, .some M D' hmp⟩, Or.inl HSb.out⟩
      have HX : Hid _ := hX
      have HF : Hid _ := hf
      clear hX hf hmp hb
      go_wp2
      go_ret
      exact ⟨rfl, HX.out, HF.out⟩
/-- What Put does to any box. -/
theorem put_box {w : World} {S : Nat → Prop} {b N : Nat} {B : List Msg} (hX : BX w S b N B) (l : List Msg) (ao : Option Addr) (cap : Nat) (hl : MsAt w (fun k => ¬ S k) ao l) (hok : ∀ m ∈ l, m.ok) (hN : N + l.length < 9223372036854775807) (hB : (B.length + l.length) * 32 ≤ 140737488355328) :
    Calls Try.prog 19 #[.pointer (some ⟨b, 0, none⟩), .slice ao l.length cap] w fun r w' => r = .returned (.int .i64 0) ∧ BX w' (fun k => S k ∨ w.heap.size ≤ k) b (N + l.length) (B ++ l) ∧ Fr w w' S := by
  obtain ⟨⟨mv, h1, h2⟩, h3⟩ := hX
  rcases h2 with ⟨rfl, h⟩ | ⟨M, D, rfl, h⟩
  · subst h
    refine (put_none h1 h3 l ao cap hl hok (by omega) hB).mono ?_
    rintro r w' ⟨rfl, hX', hf⟩
    exact ⟨rfl, hX'.more (by omega), hf⟩
  · exact put_loop h1 h3 h l ao cap hl hok hN hB
end Go.Proofs.Ytfajkfngjfhkoab
