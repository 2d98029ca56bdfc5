import Derived.Test.YtnhjflebaeokeaaGreatRoKiM
/- RnodeKeeps: a master alone hands out what was proposed, from a snapshot on, and behind a crash. -/
namespace Go.Proofs.YtnhjflebaeokeaaGreat
open Go.RowKit
attribute [local go_sem] Oper.semAt_some
/-- An act. -/
structure AcK where
  k : Int
  s : Bs
  f0 : Int
  f1 : Int
  f2 : Int
def AcS (w : World) (v : Value) (X : List AcK) : Prop := ∃ ao cap, v = .slice ao X.length cap ∧ (0 < X.length → ∃ b off, ao = some ⟨b, off, none⟩ ∧ ∀ j (h : j < X.length), w.cell? ⟨b, off + j * 5, none⟩ = some (.int .i64 X[j].k) ∧ w.cell? ⟨b, off + j * 5 + 1, none⟩ = some (.string (str X[j].s)) ∧ w.cell? ⟨b, off + j * 5 + 2, none⟩ = some (.int .i64 X[j].f0) ∧ w.cell? ⟨b, off + j * 5 + 3, none⟩ = some (.int .i64 X[j].f1) ∧ w.cell? ⟨b, off + j * 5 + 4, none⟩ = some (.int .i64 X[j].f2))
theorem vbelow_dn (w : World) (n : Nat) : Below w.heap.size w (w.drewN n) := (Fr.drewN w n (fun _ => False)).below (Nat.le_refl _) (fun _ h => h.elim)
theorem kbox5 {W : World} {q : Nat} {t : TypeId} {x0 x1 x2 x3 x4 : Value} (h : W.heap[q]? = some (.cells #[x0, x1, x2, x3, x4] t (0, 0))) : W.cell? ⟨q, 0, none⟩ = some x0 ∧ W.cell? ⟨q, 1, none⟩ = some x1 ∧ W.cell? ⟨q, 2, none⟩ = some x2 ∧ W.cell? ⟨q, 3, none⟩ = some x3 ∧ W.cell? ⟨q, 4, none⟩ = some x4 := by
  refine ⟨?_, ?_, ?_, ?_, ?_⟩ <;> simp [World.cell?, h]
set_option linter.unusedSimpArgs false in
set_option linter.unusedVariables false in
set_option maxRecDepth 100000 in
set_option maxHeartbeats 8000000 in
theorem law_keeps (w : World) {v1 : Value} {X : List AcK} (h1 : AcS w v1 X) (o1 : ∀ x ∈ X, x.s.length ≤ 9223372036854775807) : Calls Tryz.prog 3 #[v1] w fun r w' => r = .returned (.bool true) ∧ Below w.heap.size w w' := by
  obtain ⟨ao1, c1, rfl, hX⟩ := h1
  have HX : Hid (0 < X.length → ∃ b off, ao1 = some ⟨b, off, none⟩ ∧ ∀ j (h : j < X.length), w.cell? ⟨b, off + j * 5, none⟩ = some (.int .i64 X[j].k) ∧ w.cell? ⟨b, off + j * 5 + 1, none⟩ = some (.string (str X[j].s)) ∧ w.cell? ⟨b, off + j * 5 + 2, none⟩ = some (.int .i64 X[j].f0) ∧ w.cell? ⟨b, off + j * 5 + 3, none⟩ = some (.int .i64 X[j].f1) ∧ w.cell? ⟨b, off + j * 5 + 4, none⟩ = some (.int .i64 X[j].f2)) := hX
  have HO1 : Hid (∀ x ∈ X, x.s.length ≤ 9223372036854775807) := o1
  clear hX o1
  have hN := new_any w
  obtain ⟨n0, hn0⟩ : ∃ n0, w.heap.size = n0 := ⟨_, rfl⟩
  rw [hn0] at hN
  have HN0 : Hid (w.heap.size = n0) := hn0
  clear hn0
  go_enter Tryz.func3, Tryz.ntmps3
  go_upto_region 5 with (first
    | (go_at_call 7; refine hN.mono ?_; rintro r w1 ⟨rfl, hD, hb1⟩; have HD1 : Hid (DkAt (fun _ => False) w1 n0 n0 dk0) := ⟨_, _, _, hD⟩; have HB1 : Hid (Below n0 w w1) := hb1; have HS1 : Hid (n0 ≤ w1.heap.size) := (by have := hb1.size; have := HN0.out; show n0 ≤ _; omega); clear hD hb1)
    | (go_at_call 8; refine (alone_of (open_new (J := fun _ => False) HD1.out (fun _ h => h.elim) HS1.out)).mono ?_; rintro r w2 ⟨np, rfl, hK2, hf2⟩; have HK2 : Hid (RK (fun _ => False) w2 n0 np n0 wA0 0 2) := hK2; have HB2 : Hid (Below n0 w w2) := HB1.out.trans (hf2.below HS1.out); clear hK2 hf2)
    | (go_at_call 9; refine (awake14 _).mono ?_; rintro r w3 ⟨rfl, hb3⟩; have HK3 : Hid (RK (fun _ => False) w3 n0 np n0 wA0 0 2) := HK2.out.new hb3; have HB3 : Hid (Below n0 w w3) := HB2.out.trans (hb3.mono HK2.out.base); clear hb3))
  clear hN HD1 HB1 HS1 HK2 HB2
  go_upto_region 6 with (fail)
  generalize hW : World.alloc _ _ = W0
  obtain ⟨wa, hwa⟩ : ∃ wa, w3.alloc (.cells #[] 9) = wa := ⟨_, rfl⟩
  have ba : Below w3.heap.size w3 wa := by rw [← hwa]; exact vone_new _ _
  have hga : wa.heap[w3.heap.size]? = some (.cells #[] 9 (0, 0)) := by rw [← hwa]; exact heap_alloc_new _ _
  have hWa : wa.alloc (.cells #[] 9) = W0 := by rw [← hwa]; exact hW
  have bb : Below wa.heap.size wa W0 := by rw [← hWa]; exact vone_new _ _
  have hgb : W0.heap[wa.heap.size]? = some (.cells #[] 9 (0, 0)) := by rw [← hWa]; exact heap_alloc_new _ _
  have hga2 : W0.heap[w3.heap.size]? = some (.cells #[] 9 (0, 0)) := (bb.block _ (vlt_blk hga)).trans hga
  have hsz : wa.heap.size = w3.heap.size + 1 := by rw [← hwa]; simp
  have HS3 : Hid (n0 ≤ w3.heap.size) := HK3.out.base
  have HT0 : Hid (TxO W0 n0 (.slice (some ⟨w3.heap.size, 0, none⟩) 0 0) []) := .inr ⟨_, 0, 0, rfl, HS3.out, ⟨#[], hga2, Nat.le_refl _⟩, Nat.le_refl _, by unfold maxLen; omega, fun j h => absurd h (by simp)⟩
  have HG0 : Hid (TxO W0 n0 (.slice (some ⟨wa.heap.size, 0, none⟩) 0 0) []) := .inr ⟨_, 0, 0, rfl, Nat.le_trans HS3.out ba.size, ⟨#[], hgb, Nat.le_refl _⟩, Nat.le_refl _, by unfold maxLen; omega, fun j h => absurd h (by simp)⟩
  have HB0 : Hid (Below n0 w W0) := HB3.out.trans ((ba.mono HS3.out).trans (bb.mono (Nat.le_trans HS3.out ba.size)))
  have HK0 : Hid (RK (J2 (.slice (some ⟨w3.heap.size, 0, none⟩) 0 0) (.slice (some ⟨wa.heap.size, 0, none⟩) 0 0)) W0 n0 np n0 wA0 0 2) := HK3.out.rows (ba.trans (bb.mono ba.size)) (fun i e => by
    rcases e with e | e
    · exact (HT0.out.tag e).2
    · exact (HG0.out.tag e).2) (fun i e => by
    right
    rcases e with e | e
    · have e2 : w3.heap.size = i := Option.some.inj e
      omega
    · have e2 : wa.heap.size = i := Option.some.inj e
      omega)
  have HDis0 : Hid (∀ k, (Value.slice (some ⟨w3.heap.size, 0, none⟩) 0 0).ownBlock = some k → (Value.slice (some ⟨wa.heap.size, 0, none⟩) 0 0).ownBlock ≠ some k) := fun k hk e => by
    have e1 : w3.heap.size = k := Option.some.inj hk
    have e2 : wa.heap.size = k := Option.some.inj e
    omega
  have HCm : Hid (wA0.cm = 0) := by
    have e1 : wA0.cm = wA0.last := HK3.out.alone.cm
    have e2 : wA0.last = 0 := (show (0 : Int) + ((0 : Nat) : Int) = 0 by decide)
    exact e1.trans e2
  have HKI0 : Hid (KI wA0 [] 0) := ⟨rfl, fun x hx => (by cases hx), fun x hx => (by cases hx), Nat.le_refl _, Nat.le_refl _, fun e he => (by cases he), Nat.le_refl _, (by show (0 : Int) + ((0 : Nat) : Int) ≤ 0; decide)⟩
  have hsl : w3.heap.size + 1 = wa.heap.size := hsz.symm
  generalize hg1 : w3.heap.size = g1 at HT0 HK0 HDis0 hsl ⊢
  rw [hsl]
  generalize wa.heap.size = g2 at HG0 HK0 HDis0 ⊢
  clear hW ba hga hWa bb hgb hga2 hsz hwa HB3 HK3 HS3 hsl hg1
  go_wp2
  go_loopw [4, 5, 6, 7, 8] (fun nv ov tv gv iv wr => ∃ (np m : Nat) (A : Nd) (G : List Bs) (to_ : Option Addr) (tc : Nat) (go_ : Option Addr) (gc : Nat) (kk : Nat), nv = .pointer (some ⟨np, 0, none⟩) ∧ ov = .bool true ∧ tv = .slice to_ G.length tc ∧ gv = .slice go_ G.length gc ∧ iv = .int .i64 m ∧ m ≤ X.length ∧ m ≤ 60 ∧ kk ≤ 2 * m + 2 ∧ Hid (RK (J2 (.slice to_ G.length tc) (.slice go_ G.length gc)) wr n0 np n0 A A.cm kk) ∧ Hid (TxO wr n0 (.slice to_ G.length tc) G) ∧ Hid (TxO wr n0 (.slice go_ G.length gc) G) ∧ Hid (∀ k, (Value.slice to_ G.length tc).ownBlock = some k → (Value.slice go_ G.length gc).ownBlock ≠ some k) ∧ Hid (KI A G m) ∧ Hid (Below n0 w wr)) (fun _ _ _ _ iv _ => X.length - (intOf iv).toNat)
  case atStart => exact ⟨np, 0, wA0, [], _, 0, _, 0, 2, rfl, rfl, rfl, rfl, rfl, Nat.zero_le _, Nat.zero_le _, by omega, (by have := HK0.out; rw [← HCm.out] at this; exact this), HT0, HG0, HDis0, HKI0, HB0⟩
  case round =>
    clear HK0 HT0 HG0 HDis0 HKI0 HB0 HCm
    obtain ⟨np, m, A, G, to_, tc, go_, gc, kk, rfl, rfl, rfl, rfl, rfl, hm, hm2, hkk, HK, HT, HG, HDis, HKi, HB⟩ := hrel
    by_cases hlt : m < X.length ∧ m < 60
    · obtain ⟨hlt, hlt2⟩ := hlt
      obtain ⟨b, off, rfl, hc⟩ := HX.out (by omega)
      obtain ⟨e0, e1, e2, e3, e4⟩ := hc m hlt
      have hbb : b < n0 := by rw [← HN0.out]; exact vlt_cell e0
      have d0 := (HB.out.cell (p := ⟨b, off + m * 5, none⟩) hbb).trans e0
      have d1 := (HB.out.cell (p := ⟨b, off + m * 5 + 1, none⟩) hbb).trans e1
      have d2 := (HB.out.cell (p := ⟨b, off + m * 5 + 2, none⟩) hbb).trans e2
      have d3 := (HB.out.cell (p := ⟨b, off + m * 5 + 3, none⟩) hbb).trans e3
      have d4 := (HB.out.cell (p := ⟨b, off + m * 5 + 4, none⟩) hbb).trans e4
      have HXo : Hid (X[m].s.length ≤ 9223372036854775807) := HO1.out _ (List.getElem_mem hlt)
      generalize X[m] = x at d0 d1 d2 d3 d4 HXo
      have hmn : (m : Int) < X.length := by omega
      have hm3 : (m : Int) < 60 := by omega
      clear hc e0 e1 e2 e3 e4 hbb
      go_upto_region 10 with (fail)
      generalize hW : World.alloc _ _ = W
      have bW : Below wr.heap.size wr W := by rw [← hW]; exact vone_new _ _
      have hZ : W.heap[wr.heap.size]? = some (.cells #[.int .i64 x.k, .string (str x.s), .int .i64 x.f0, .int .i64 x.f1, .int .i64 x.f2] 33 (0, 0)) := by rw [← hW]; exact heap_alloc_new _ _
      have HS : Hid (n0 ≤ wr.heap.size) := HK.out.base
      have HK1 : Hid (RK (J2 (.slice to_ G.length tc) (.slice go_ G.length gc)) W n0 np n0 A A.cm kk) := HK.out.new bW
      have HT1 : Hid (TxO W n0 (.slice to_ G.length tc) G) := HT.out.new bW
      have HG1 : Hid (TxO W n0 (.slice go_ G.length gc) G) := HG.out.new bW
      have HB1 : Hid (Below n0 w W) := HB.out.trans (bW.mono HS.out)
      clear hW bW d0 d1 d2 d3 d4 HK HT HG HB HS
      generalize wr.heap.size = q at hZ ⊢
      obtain ⟨z0, z1, z2, z3, z4⟩ := kbox5 hZ
      clear hZ
      have HAl : Hid (Alone A) := HK1.out.alone
      have HCm : Hid (A.cm = A.bi + A.log.length) := HAl.out.cm
      have HOk : Hid ((hdOf A).ok) := HK1.out.ok
      have hbi0 : 0 ≤ A.bi := HAl.out.ok.bi0
      by_cases h4 : x.k = 4
      · rw [h4] at z0
        have hTi := tick_rk HK1.out (by omega)
        clear h4
        go_upto_region 39 with (go_at_call 10; refine hTi.mono ?_; rintro r Wt ⟨rfl, ⟨t, hkt⟩, hbt, hjt⟩)
        have HTt : Hid (TxO Wt n0 (.slice to_ G.length tc) G) := HT1.out.jk (fun i e => .inl e) hjt
        have HGt : Hid (TxO Wt n0 (.slice go_ G.length gc) G) := HG1.out.jk (fun i e => .inr e) hjt
        have HBt : Hid (Below n0 w Wt) := HB1.out.trans hbt
        have HKi2 : KI (A.tkd t) G (m + 1) := (HKi.out.as (C := A.tkd t) rfl rfl rfl).up
        have HAt2 : A.cm = (A.tkd t).bi + ((A.tkd t).log.length : Nat) := HCm.out
        obtain ⟨At, eAt⟩ : ∃ At, A.tkd t = At := ⟨_, rfl⟩
        obtain ⟨kt, ekt⟩ : ∃ kt, kk + 2 = kt := ⟨_, rfl⟩
        rw [eAt] at hkt HKi2 HAt2
        rw [ekt] at hkt
        have hkt2 : kt ≤ 2 * (m + 1) + 2 := by omega
        obtain ⟨jt, ejt⟩ : ∃ jt, At.log.length = jt := ⟨_, rfl⟩
        rw [ejt] at HAt2
        have HAt : Hid (A.cm = At.bi + (jt : Nat)) := HAt2
        have HKI : Hid (KI At G (m + 1)) := HKi2
        have HJl : Hid (jt ≤ At.log.length) := by show _ ≤ _; omega
        have HEq : Hid (G ++ txs (At.log.drop jt) = G) := by show _ = _; rw [← ejt, List.drop_length]; simp [txs]
        have HKt : Hid (RK (J2 (.slice to_ G.length tc) (.slice go_ G.length gc)) Wt n0 np n0 At A.cm kt) := hkt
        clear hTi hkt hbt hjt ejt ekt eAt HK1 HT1 HG1 HB1 HKi HKi2 HAt2 HAl HCm HOk z0 z1 z2 z3 z4
        have HDr : Hid (Calls Tryz.prog 20 #[.pointer (some ⟨np, 0, none⟩), .string (str []), .slice none 0 0] Wt fun r w' => ∃ v, r = .returned (.tuple #[.string (str []), v]) ∧ TxO w' Wt.heap.size v (txs (At.log.drop jt)) ∧ RK (J2 (.slice to_ G.length tc) (.slice go_ G.length gc)) w' n0 np n0 At At.cm kt ∧ Below n0 Wt w' ∧ JK (J2 (.slice to_ G.length tc) (.slice go_ G.length gc)) Wt w' ∧ ∀ T x L, TxO Wt T x L → TxO w' T x L) := drain_rk HKt.out HAt.out HJl.out (str [])
        go_upto_region 40 with (go_at_call 20; refine Calls.mono HDr.out ?_; rintro r wa ⟨va, rfl, hva, hka, hba, -, hxa⟩)
        have HKa : Hid (RK (J2 (.slice to_ G.length tc) (.slice go_ G.length gc)) wa n0 np n0 At At.cm kt) := hka
        have HTa : Hid (TxO wa n0 (.slice to_ G.length tc) G) := hxa _ _ _ HTt.out
        have HGa : Hid (TxO wa n0 (.slice go_ G.length gc) G) := hxa _ _ _ HGt.out
        have HBa : Hid (Below n0 w wa) := HBt.out.trans hba
        have HVa : Hid (TxS wa va (txs (At.log.drop jt))) := hva.toS
        have HSa : Hid (n0 ≤ wa.heap.size) := HKa.out.base
        have HLl : Hid (G.length + (txs (At.log.drop jt)).length ≤ 2000000000) := by
          show _ ≤ _
          have h1 := HKI.out.n
          rw [← HEq.out, List.length_append] at h1
          omega
        obtain ⟨va1, va2, rfl⟩ := hva.shape
        clear hva hka hba hxa HDr HKt HTt HGt HBt
        go_upto_region 41 with (at_builtin; refine wpl_appT rfl rfl rfl rfl HGa.out HVa.out HLl.out HSa.out ?_; intro vb wb ob fb eb)
        rw [HEq.out] at ob
        have HGb : Hid (TxO wb n0 vb G) := ob
        have HTb : Hid (TxO wb n0 (.slice to_ G.length tc) G) := HTa.out.kept fb (fun k hk e => HDis.out k hk e)
        have HDb : Hid (∀ k, (Value.slice to_ G.length tc).ownBlock = some k → vb.ownBlock ≠ some k) := fun k hk e => by
          rcases eb k e with e | e
          · exact HDis.out k hk e
          · obtain ⟨_, c', f', hm⟩ := HTa.out.tag hk
            have := vlt_blk hm
            omega
        have HKb : Hid (RK (J2 (.slice to_ G.length tc) vb) wb n0 np n0 At At.cm kt) := HKa.out.wrote HGa.out (fun i e => .inr e) fb (fun i e => by
          rcases e with e | e
          · exact (HTb.out.tag e).2
          · exact (HGb.out.tag e).2) (fun i e => by
          rcases e with e | e
          · exact .inl (.inl e)
          · rcases eb i e with e | e
            · exact .inl (.inr e)
            · exact .inr e)
        have HBb : Hid (Below n0 w wb) := HBa.out.trans (HGa.out.below HSa.out fb)
        obtain ⟨gb, cb, rfl⟩ := ob.shape
        clear ob fb eb HGa HTa HKa HBa HVa HSa HLl
        have HLn : Hid (G.length ≤ 100000) := by show _ ≤ _; have := HKI.out.n; omega
        go_wp2_with (go_at_call 21; refine (begins_same HGb.out.toS HTb.out.toS HLn.out).mono ?_; rintro r wc ⟨rfl, qc, rfl⟩)
        have bc : Below wb.heap.size wb (wb.drewN qc) := vbelow_dn _ _
        go_roundw
        case rel => exact ⟨np, m + 1, At, G, to_, tc, gb, cb, kt, rfl, rfl, rfl, rfl, by go_num, by omega, by omega, by omega, HKb.out.new bc, HTb.out.new bc, HGb.out.new bc, HDb, HKI, HBb.out.trans (bc.mono (HKb.out.base))⟩
        case measure => simp [intOf]; omega
      · by_cases h5 : x.k = 5
        · rw [h5] at z0
          clear h4 h5
          have hB1 := base_rk HK1.out
          go_upto_region 27 with (go_at_call 11; refine hB1.mono ?_; rintro r wx ⟨rfl, qx, rfl⟩)
          have bx : Below W.heap.size W (W.drewN qx) := vbelow_dn _ _
          have HK2 : Hid (RK (J2 (.slice to_ G.length tc) (.slice go_ G.length gc)) (W.drewN qx) n0 np n0 A A.cm kk) := HK1.out.new bx
          have HT2 : Hid (TxO (W.drewN qx) n0 (.slice to_ G.length tc) G) := HT1.out.new bx
          have HG2 : Hid (TxO (W.drewN qx) n0 (.slice go_ G.length gc) G) := HG1.out.new bx
          have HB2 : Hid (Below n0 w (W.drewN qx)) := HB1.out.trans (bx.mono HK1.out.base)
          clear hB1 bx HK1 HT1 HG1 HB1 z0 z1 z2 z3 z4
          generalize W.drewN qx = W2 at HK2 HT2 HG2 HB2 ⊢
          have HJb : Hid ((joinB G).length ≤ 42 * G.length) := joinB_len G HKi.out.sm
          have HGn : Hid (G.length ≤ m) := HKi.out.n
          have HJo : Hid (∀ W', TxO W' n0 (.slice go_ G.length gc) G → Calls Tryz.prog 13 #[.slice go_ G.length gc] W' fun r w' => r = .returned (.string (str (joinB G))) ∧ w' = W') := fun W' h => joined_any h.toS (by have := HGn.out; omega) (by have := HJb.out; have := HGn.out; omega)
          by_cases h0 : A.log.length = 0
          · have HL0 : Hid (A.log.length = 0) := h0
            have hcb : A.cm = A.bi := by rw [HCm.out, h0]; simp
            have HCb : Hid (A.cm = A.bi) := hcb
            have hCo := compact_rno HK2.out (str (joinB G)) (by rw [hcb]; have := HKi.out.bi; omega) (by rw [hcb]; exact Int.le_refl _)
            clear h0 hcb
            go_upto_region 28 with (first
              | (go_at_call 13; refine Calls.mono (HJo.out _ HG2.out) ?_; rintro r W2 ⟨rfl, rfl⟩)
              | (go_at_call 12; refine hCo.mono ?_; rintro r w3 ⟨rfl, hk3, hb3, hj3⟩))
            have HK3 : Hid (RK (J2 (.slice to_ G.length tc) (.slice go_ G.length gc)) w3 n0 np n0 A A.cm kk) := hk3
            have HT3 : Hid (TxO w3 n0 (.slice to_ G.length tc) G) := HT2.out.jk (fun i e => .inl e) hj3
            have HG3 : Hid (TxO w3 n0 (.slice go_ G.length gc) G) := HG2.out.jk (fun i e => .inr e) hj3
            have HB3 : Hid (Below n0 w w3) := HB2.out.trans hb3
            clear hCo hk3 hb3 hj3 HK2 HT2 HG2 HB2
            have hB3 := base_rk HK3.out
            go_upto_region 29 with (go_at_call 11; refine hB3.mono ?_; rintro r wx ⟨rfl, qy, rfl⟩)
            have by_ : Below w3.heap.size w3 (w3.drewN qy) := vbelow_dn _ _
            have HKt0 : Hid (RK (J2 (.slice to_ G.length tc) (.slice go_ G.length gc)) (w3.drewN qy) n0 np n0 A A.cm kk) := HK3.out.new by_
            have HTt : Hid (TxO (w3.drewN qy) n0 (.slice to_ G.length tc) G) := HT3.out.new by_
            have HGt : Hid (TxO (w3.drewN qy) n0 (.slice go_ G.length gc) G) := HG3.out.new by_
            have HBt : Hid (Below n0 w (w3.drewN qy)) := HB3.out.trans (by_.mono HK3.out.base)
            clear hB3 by_ HK3 HT3 HG3 HB3
            generalize w3.drewN qy = Wt at HKt0 HTt HGt HBt ⊢
            have hAt := at_rk HKt0.out
            rw [HCb.out] at hAt
            go_upto_region 39 with (go_at_call 14; refine hAt.mono ?_; rintro r Wt ⟨rfl, rfl⟩)
            obtain ⟨kt, ekt⟩ : ∃ kt, kk = kt := ⟨_, rfl⟩
            rw [ekt] at HKt0
            have hkt2 : kt ≤ 2 * (m + 1) + 2 := by omega
            obtain ⟨jt, ejt⟩ : ∃ jt : Nat, jt = 0 := ⟨_, rfl⟩
            obtain ⟨At, eAt⟩ : ∃ At, A = At := ⟨_, rfl⟩
            have HAt : Hid (A.cm = At.bi + (jt : Nat)) := by show _ = _; rw [← eAt, ejt, HCb.out]; simp
            have HKI : Hid (KI At G (m + 1)) := by rw [← eAt]; exact HKi.out.up
            have HJl : Hid (jt ≤ At.log.length) := by show _ ≤ _; omega
            have HEq : Hid (G ++ txs (At.log.drop jt) = G) := by
              show _ = _
              rw [← eAt, List.length_eq_zero_iff.1 HL0.out]
              simp [txs]
            have HKt : Hid (RK (J2 (.slice to_ G.length tc) (.slice go_ G.length gc)) Wt n0 np n0 At A.cm kt) := by rw [← eAt]; exact HKt0.out
            clear hAt ejt ekt eAt HKt0 HKi HAl HCm HOk HJo HJb HGn HL0 HCb
            have HDr : Hid (Calls Tryz.prog 20 #[.pointer (some ⟨np, 0, none⟩), .string (str []), .slice none 0 0] Wt fun r w' => ∃ v, r = .returned (.tuple #[.string (str []), v]) ∧ TxO w' Wt.heap.size v (txs (At.log.drop jt)) ∧ RK (J2 (.slice to_ G.length tc) (.slice go_ G.length gc)) w' n0 np n0 At At.cm kt ∧ Below n0 Wt w' ∧ JK (J2 (.slice to_ G.length tc) (.slice go_ G.length gc)) Wt w' ∧ ∀ T x L, TxO Wt T x L → TxO w' T x L) := drain_rk HKt.out HAt.out HJl.out (str [])
            go_upto_region 40 with (go_at_call 20; refine Calls.mono HDr.out ?_; rintro r wa ⟨va, rfl, hva, hka, hba, -, hxa⟩)
            have HKa : Hid (RK (J2 (.slice to_ G.length tc) (.slice go_ G.length gc)) wa n0 np n0 At At.cm kt) := hka
            have HTa : Hid (TxO wa n0 (.slice to_ G.length tc) G) := hxa _ _ _ HTt.out
            have HGa : Hid (TxO wa n0 (.slice go_ G.length gc) G) := hxa _ _ _ HGt.out
            have HBa : Hid (Below n0 w wa) := HBt.out.trans hba
            have HVa : Hid (TxS wa va (txs (At.log.drop jt))) := hva.toS
            have HSa : Hid (n0 ≤ wa.heap.size) := HKa.out.base
            have HLl : Hid (G.length + (txs (At.log.drop jt)).length ≤ 2000000000) := by
              show _ ≤ _
              have h1 := HKI.out.n
              rw [← HEq.out, List.length_append] at h1
              omega
            obtain ⟨va1, va2, rfl⟩ := hva.shape
            clear hva hka hba hxa HDr HKt HTt HGt HBt
            go_upto_region 41 with (at_builtin; refine wpl_appT rfl rfl rfl rfl HGa.out HVa.out HLl.out HSa.out ?_; intro vb wb ob fb eb)
            rw [HEq.out] at ob
            have HGb : Hid (TxO wb n0 vb G) := ob
            have HTb : Hid (TxO wb n0 (.slice to_ G.length tc) G) := HTa.out.kept fb (fun k hk e => HDis.out k hk e)
            have HDb : Hid (∀ k, (Value.slice to_ G.length tc).ownBlock = some k → vb.ownBlock ≠ some k) := fun k hk e => by
              rcases eb k e with e | e
              · exact HDis.out k hk e
              · obtain ⟨_, c', f', hm⟩ := HTa.out.tag hk
                have := vlt_blk hm
                omega
            have HKb : Hid (RK (J2 (.slice to_ G.length tc) vb) wb n0 np n0 At At.cm kt) := HKa.out.wrote HGa.out (fun i e => .inr e) fb (fun i e => by
              rcases e with e | e
              · exact (HTb.out.tag e).2
              · exact (HGb.out.tag e).2) (fun i e => by
              rcases e with e | e
              · exact .inl (.inl e)
              · rcases eb i e with e | e
                · exact .inl (.inr e)
                · exact .inr e)
            have HBb : Hid (Below n0 w wb) := HBa.out.trans (HGa.out.below HSa.out fb)
            obtain ⟨gb, cb, rfl⟩ := ob.shape
            clear ob fb eb HGa HTa HKa HBa HVa HSa HLl
            have HLn : Hid (G.length ≤ 100000) := by show _ ≤ _; have := HKI.out.n; omega
            go_wp2_with (go_at_call 21; refine (begins_same HGb.out.toS HTb.out.toS HLn.out).mono ?_; rintro r wc ⟨rfl, qc, rfl⟩)
            have bc : Below wb.heap.size wb (wb.drewN qc) := vbelow_dn _ _
            go_roundw
            case rel => exact ⟨np, m + 1, At, G, to_, tc, gb, cb, kt, rfl, rfl, rfl, rfl, by go_num, by omega, by omega, by omega, HKb.out.new bc, HTb.out.new bc, HGb.out.new bc, HDb, HKI, HBb.out.trans (bc.mono (HKb.out.base))⟩
            case measure => simp [intOf]; omega
          · obtain ⟨j, hj⟩ : ∃ j, A.log.length = j + 1 := ⟨A.log.length - 1, by omega⟩
            have hjl : j < A.log.length := by omega
            have hcb : A.cm = A.bi + (j + 1 : Nat) := by rw [HCm.out, hj]
            have HCb : Hid (A.cm = A.bi + (j + 1 : Nat)) := hcb
            have hbm : A.bi + (j + 1 : Nat) ≤ 60 := by have := HKi.out.bi; rw [hj] at this; omega
            have HPk : Hid (Alone (A.packed (j + 1) A.log[j] (str (joinB G)))) := HAl.out.packed (by omega) (by omega)
            have HOk2 : Hid ((hdOf (A.packed (j + 1) A.log[j] (str (joinB G)))).ok) := by
              have ok := HOk.out
              have ev := ok.ev A.log[j] (List.getElem_mem hjl)
              have e1 : (A.packed (j + 1) A.log[j] (str (joinB G))).log = [] := by show A.log.drop (j + 1) = []; rw [← hj]; simp
              refine ⟨ok.vw0, ok.vw1, ok.nm0, ok.nm1, ?_, ?_, ev.1, ev.2, ?_, ?_, ?_⟩
              · show 0 ≤ A.bi + ((j + 1 : Nat) : Int); omega
              · show A.bi + ((j + 1 : Nat) : Int) ≤ 2147483647; omega
              · show (A.packed (j + 1) A.log[j] (str (joinB G))).log.length ≤ 1000; rw [e1]; simp
              · show ∀ e ∈ (A.packed (j + 1) A.log[j] (str (joinB G))).log, _; rw [e1]; intro e he; cases he
              · show (joinB G).length + entsN (A.packed (j + 1) A.log[j] (str (joinB G))).log ≤ 900000
                rw [e1]
                have := HJb.out
                have := HGn.out
                simp [entsN]
                omega
            have hCo := compact_rya HK2.out (str (joinB G)) (by omega) (by omega) hjl (by omega) (Int.le_refl _) HPk.out HOk2.out
            have HKI0 : Hid (KI (A.packed (j + 1) A.log[j] (str (joinB G))) G (m + 1)) := by
              have := HKi.out.pack (e := A.log[j])
              rw [hj] at this
              exact this
            have HA2b : Hid ((A.packed (j + 1) A.log[j] (str (joinB G))).base = str (joinB G)) := rfl
            have HA2i : Hid ((A.packed (j + 1) A.log[j] (str (joinB G))).bi = A.cm) := hcb.symm
            have HA2l : Hid ((A.packed (j + 1) A.log[j] (str (joinB G))).log = []) := by show A.log.drop (j + 1) = []; rw [← hj]; simp
            have hgt : A.bi < A.cm := by omega
            obtain ⟨At, eAt⟩ : ∃ At, A.packed (j + 1) A.log[j] (str (joinB G)) = At := ⟨_, rfl⟩
            rw [eAt] at hCo HKI0 HA2b HA2i HA2l
            clear h0 hj hjl hcb hbm HPk HOk2 eAt HCb
            go_upto_region 28 with (first
              | (go_at_call 13; refine Calls.mono (HJo.out _ HG2.out) ?_; rintro r W2 ⟨rfl, rfl⟩)
              | (go_at_call 12; refine hCo.mono ?_; rintro r w3 ⟨rfl, hk3, hb3, hj3⟩))
            have HK3 : Hid (RK (J2 (.slice to_ G.length tc) (.slice go_ G.length gc)) w3 n0 np n0 At A.cm (kk + 2)) := hk3
            have HT3 : Hid (TxO w3 n0 (.slice to_ G.length tc) G) := HT2.out.jk (fun i e => .inl e) hj3
            have HG3 : Hid (TxO w3 n0 (.slice go_ G.length gc) G) := HG2.out.jk (fun i e => .inr e) hj3
            have HB3 : Hid (Below n0 w w3) := HB2.out.trans hb3
            clear hCo hk3 hb3 hj3 HK2 HT2 HG2 HB2
            have hB3 := base_rk HK3.out
            rw [HA2b.out, HA2i.out] at hB3
            go_upto_region 29 with (go_at_call 11; refine hB3.mono ?_; rintro r wx ⟨rfl, qy, rfl⟩)
            have by_ : Below w3.heap.size w3 (w3.drewN qy) := vbelow_dn _ _
            have HKt0 : Hid (RK (J2 (.slice to_ G.length tc) (.slice go_ G.length gc)) (w3.drewN qy) n0 np n0 At A.cm (kk + 2)) := HK3.out.new by_
            have HTt : Hid (TxO (w3.drewN qy) n0 (.slice to_ G.length tc) G) := HT3.out.new by_
            have HGt : Hid (TxO (w3.drewN qy) n0 (.slice go_ G.length gc) G) := HG3.out.new by_
            have HBt : Hid (Below n0 w (w3.drewN qy)) := HB3.out.trans (by_.mono HK3.out.base)
            clear hB3 by_ HK3 HT3 HG3 HB3
            generalize w3.drewN qy = Wt at HKt0 HTt HGt HBt ⊢
            have hAt := at_rk HKt0.out
            go_upto_region 39 with (first
              | (go_at_call 14; refine hAt.mono ?_; rintro r Wt ⟨rfl, rfl⟩)
              | (go_at_call 13; refine Calls.mono (HJo.out _ HGt.out) ?_; rintro r Wt ⟨rfl, rfl⟩))
            obtain ⟨kt, ekt⟩ : ∃ kt, kk + 2 = kt := ⟨_, rfl⟩
            rw [ekt] at HKt0
            have hkt2 : kt ≤ 2 * (m + 1) + 2 := by omega
            obtain ⟨jt, ejt⟩ : ∃ jt : Nat, jt = 0 := ⟨_, rfl⟩
            have HAt : Hid (A.cm = At.bi + (jt : Nat)) := by show _ = _; rw [HA2i.out, ejt]; simp
            have HKI : Hid (KI At G (m + 1)) := HKI0
            have HJl : Hid (jt ≤ At.log.length) := by show _ ≤ _; omega
            have HEq : Hid (G ++ txs (At.log.drop jt) = G) := by show _ = _; rw [HA2l.out]; simp [txs]
            have HKt : Hid (RK (J2 (.slice to_ G.length tc) (.slice go_ G.length gc)) Wt n0 np n0 At A.cm kt) := HKt0
            clear hAt ejt ekt HKt0 HKI0 HKi HAl HCm HOk HJo HJb HGn HA2b HA2i HA2l
            have HDr : Hid (Calls Tryz.prog 20 #[.pointer (some ⟨np, 0, none⟩), .string (str []), .slice none 0 0] Wt fun r w' => ∃ v, r = .returned (.tuple #[.string (str []), v]) ∧ TxO w' Wt.heap.size v (txs (At.log.drop jt)) ∧ RK (J2 (.slice to_ G.length tc) (.slice go_ G.length gc)) w' n0 np n0 At At.cm kt ∧ Below n0 Wt w' ∧ JK (J2 (.slice to_ G.length tc) (.slice go_ G.length gc)) Wt w' ∧ ∀ T x L, TxO Wt T x L → TxO w' T x L) := drain_rk HKt.out HAt.out HJl.out (str [])
            go_upto_region 40 with (go_at_call 20; refine Calls.mono HDr.out ?_; rintro r wa ⟨va, rfl, hva, hka, hba, -, hxa⟩)
            have HKa : Hid (RK (J2 (.slice to_ G.length tc) (.slice go_ G.length gc)) wa n0 np n0 At At.cm kt) := hka
            have HTa : Hid (TxO wa n0 (.slice to_ G.length tc) G) := hxa _ _ _ HTt.out
            have HGa : Hid (TxO wa n0 (.slice go_ G.length gc) G) := hxa _ _ _ HGt.out
            have HBa : Hid (Below n0 w wa) := HBt.out.trans hba
            have HVa : Hid (TxS wa va (txs (At.log.drop jt))) := hva.toS
            have HSa : Hid (n0 ≤ wa.heap.size) := HKa.out.base
            have HLl : Hid (G.length + (txs (At.log.drop jt)).length ≤ 2000000000) := by
              show _ ≤ _
              have h1 := HKI.out.n
              rw [← HEq.out, List.length_append] at h1
              omega
            obtain ⟨va1, va2, rfl⟩ := hva.shape
            clear hva hka hba hxa HDr HKt HTt HGt HBt
            go_upto_region 41 with (at_builtin; refine wpl_appT rfl rfl rfl rfl HGa.out HVa.out HLl.out HSa.out ?_; intro vb wb ob fb eb)
            rw [HEq.out] at ob
            have HGb : Hid (TxO wb n0 vb G) := ob
            have HTb : Hid (TxO wb n0 (.slice to_ G.length tc) G) := HTa.out.kept fb (fun k hk e => HDis.out k hk e)
            have HDb : Hid (∀ k, (Value.slice to_ G.length tc).ownBlock = some k → vb.ownBlock ≠ some k) := fun k hk e => by
              rcases eb k e with e | e
              · exact HDis.out k hk e
              · obtain ⟨_, c', f', hm⟩ := HTa.out.tag hk
                have := vlt_blk hm
                omega
            have HKb : Hid (RK (J2 (.slice to_ G.length tc) vb) wb n0 np n0 At At.cm kt) := HKa.out.wrote HGa.out (fun i e => .inr e) fb (fun i e => by
              rcases e with e | e
              · exact (HTb.out.tag e).2
              · exact (HGb.out.tag e).2) (fun i e => by
              rcases e with e | e
              · exact .inl (.inl e)
              · rcases eb i e with e | e
                · exact .inl (.inr e)
                · exact .inr e)
            have HBb : Hid (Below n0 w wb) := HBa.out.trans (HGa.out.below HSa.out fb)
            obtain ⟨gb, cb, rfl⟩ := ob.shape
            clear ob fb eb HGa HTa HKa HBa HVa HSa HLl
            have HLn : Hid (G.length ≤ 100000) := by show _ ≤ _; have := HKI.out.n; omega
            go_wp2_with (go_at_call 21; refine (begins_same HGb.out.toS HTb.out.toS HLn.out).mono ?_; rintro r wc ⟨rfl, qc, rfl⟩)
            have bc : Below wb.heap.size wb (wb.drewN qc) := vbelow_dn _ _
            go_roundw
            case rel => exact ⟨np, m + 1, At, G, to_, tc, gb, cb, kt, rfl, rfl, rfl, rfl, by go_num, by omega, by omega, by omega, HKb.out.new bc, HTb.out.new bc, HGb.out.new bc, HDb, HKI, HBb.out.trans (bc.mono (HKb.out.base))⟩
            case measure => simp [intOf]; omega
        · by_cases h6 : x.k = 6
          · rw [h6] at z0
            clear h4 h5 h6
            obtain ⟨Xm, D, R, hD4, hP4, hS4⟩ := disk_rk HK1.out
            have HD4 : Hid (DkAt Xm W n0 n0 D) := hD4
            have HP4 : Hid (PD D (hdOf A) R kk) := hP4
            have HS4 : Hid (n0 ≤ W.heap.size) := hS4
            clear hD4 hP4 hS4
            go_upto_region 34 with (first
              | (go_at_call 15; refine (cl_crash HD4.out HS4.out HP4.out.cl (by decide) (by omega) _ _).mono ?_; rintro r w5 ⟨rfl, hD5, hf5⟩; have HD5 : Hid (DkAt Xm w5 n0 n0 (D.fail x.f1 x.f2)) := hD5; have HT5 : Hid (TxO w5 n0 (.slice to_ G.length tc) G) := HT1.out.frD hf5; have HB5 : Hid (Below n0 w w5) := HB1.out.trans (hf5.below HS4.out); have HS5 : Hid (n0 ≤ w5.heap.size) := Nat.le_trans HS4.out hf5.size; clear hD5 hf5)
              | (go_at_call 16; refine (cl_up HD5.out HP4.out.cl).mono ?_; rintro r w6 ⟨rfl, hD6, hf6⟩; have HD6 : Hid (DkAt Xm w6 n0 n0 D) := hD6; have HT6 : Hid (TxO w6 n0 (.slice to_ G.length tc) G) := HT5.out.frD hf6; have HB6 : Hid (Below n0 w w6) := HB5.out.trans (hf6.below HS5.out); have HS6 : Hid (n0 ≤ w6.heap.size) := Nat.le_trans HS5.out hf6.size; clear hD6 hf6))
            have hOp := alone_of (open_back (J := fun i => (Value.slice to_ G.length tc).ownBlock = some i) HD6.out (fun i e => (HT6.out.tag e).2) HS6.out HP4.out (by omega) ⟨HAl.out.vw, HAl.out.nm⟩)
            go_upto_region 37 with (go_at_call 8; refine hOp.mono ?_; rintro r w7 ⟨np7, rfl, hK7, hf7⟩)
            have HT7 : Hid (TxO w7 n0 (.slice to_ G.length tc) G) := HT6.out.frD hf7
            have HB7 : Hid (Below n0 w w7) := HB6.out.trans (hf7.below HS6.out)
            have HKi7 : Hid (KI (Nd.born 0 1 0 0 A.bi A.bv A.base A.log).counted G (m + 1)) := (HKi.out.as (C := (Nd.born 0 1 0 0 A.bi A.bv A.base A.log).counted) rfl rfl rfl).up
            have HBs7 : Hid ((Nd.born 0 1 0 0 A.bi A.bv A.base A.log).counted.base = A.base) := rfl
            have HBi7 : Hid ((Nd.born 0 1 0 0 A.bi A.bv A.base A.log).counted.bi = A.bi) := rfl
            have HLg7 : Hid ((Nd.born 0 1 0 0 A.bi A.bv A.base A.log).counted.log = A.log) := rfl
            obtain ⟨At, eAt⟩ : ∃ At, (Nd.born 0 1 0 0 A.bi A.bv A.base A.log).counted = At := ⟨_, rfl⟩
            rw [eAt] at hK7 HKi7 HBs7 HBi7 HLg7
            have HK7 : Hid (RK (fun i => (Value.slice to_ G.length tc).ownBlock = some i) w7 n0 np7 n0 At A.bi kk) := hK7
            clear hOp hK7 hf7 eAt HD4 HP4 HS4 HD5 HT5 HB5 HS5 HD6 HT6 HB6 HS6 HK1 HT1 HG1 HB1 z0 z1 z2 z3 z4
            have hB7 := base_rk HK7.out
            rw [HBs7.out] at hB7
            go_upto_region 38 with (go_at_call 11; refine hB7.mono ?_; rintro r wx ⟨rfl, qx, rfl⟩)
            have bx : Below w7.heap.size w7 (w7.drewN qx) := vbelow_dn _ _
            have HK8 : Hid (RK (fun i => (Value.slice to_ G.length tc).ownBlock = some i) (w7.drewN qx) n0 np7 n0 At A.bi kk) := HK7.out.new bx
            have HT8 : Hid (TxO (w7.drewN qx) n0 (.slice to_ G.length tc) G) := HT7.out.new bx
            have HB8 : Hid (Below n0 w (w7.drewN qx)) := HB7.out.trans (bx.mono HK7.out.base)
            clear hB7 bx HK7 HT7 HB7
            generalize w7.drewN qx = w8 at HK8 HT8 HB8 ⊢
            have hSp := split_any A.base.data.toList w8 (by have := HKi.out.bs; have e : A.base.data.toList.length = A.base.size := rfl; omega)
            rw [str_data] at hSp
            have HEq0 : Hid (splitB A.base.data.toList ++ txs A.log = G) := HKi.out.eq.symm
            obtain ⟨H2, eH2⟩ : ∃ H2, splitB A.base.data.toList = H2 := ⟨_, rfl⟩
            rw [eH2] at hSp HEq0
            clear eH2
            go_upto_region 39 with (go_at_call 17; refine hSp.mono ?_; rintro r Wt ⟨v9, rfl, hv9, hb9⟩)
            have HTt : Hid (TxO Wt n0 (.slice to_ G.length tc) G) := HT8.out.new hb9
            have HGt0 : Hid (TxO Wt w8.heap.size v9 H2) := hv9
            have HBt : Hid (Below n0 w Wt) := HB8.out.trans (hb9.mono HK8.out.base)
            have HS8 : Hid (n0 ≤ w8.heap.size) := HK8.out.base
            have HDis9 : Hid (∀ k, (Value.slice to_ G.length tc).ownBlock = some k → v9.ownBlock ≠ some k) := fun k hk e => by
              obtain ⟨_, c', f', hm'⟩ := HT8.out.tag hk
              have h1 := vlt_blk hm'
              have h2 := (HGt0.out.tag e).1
              omega
            have HKt0 : Hid (RK (J2 (.slice to_ G.length tc) v9) Wt n0 np7 n0 At A.bi kk) := HK8.out.rows hb9 (fun i e => by
              rcases e with e | e
              · exact (HTt.out.tag e).2
              · exact (HGt0.out.tag e).2) (fun i e => by
              rcases e with e | e
              · exact .inl e
              · exact .inr (HGt0.out.tag e).1)
            have HGt : Hid (TxO Wt n0 v9 H2) := HGt0.out.low HS8.out
            obtain ⟨go9, gc9, e9⟩ := hv9.shape
            subst e9
            obtain ⟨kt, ekt⟩ : ∃ kt, kk = kt := ⟨_, rfl⟩
            rw [ekt] at HKt0
            have hkt2 : kt ≤ 2 * (m + 1) + 2 := by omega
            obtain ⟨jt, ejt⟩ : ∃ jt : Nat, jt = 0 := ⟨_, rfl⟩
            have HAt : Hid (A.bi = At.bi + (jt : Nat)) := by show _ = _; rw [HBi7.out, ejt]; simp
            have HKI : Hid (KI At G (m + 1)) := HKi7
            have HJl : Hid (jt ≤ At.log.length) := by show _ ≤ _; omega
            have HEq : Hid (H2 ++ txs (At.log.drop jt) = G) := by show _ = _; rw [HLg7.out, ejt, List.drop_zero]; exact HEq0.out
            have HKt : Hid (RK (J2 (.slice to_ G.length tc) (.slice go9 H2.length gc9)) Wt n0 np7 n0 At A.bi kt) := HKt0
            clear hSp hv9 hb9 HT8 HGt0 HB8 HS8 HDis HK8 HKt0 ejt ekt HKi HAl HCm HOk HBs7 HBi7 HLg7 HKi7 HEq0
            have HDr : Hid (Calls Tryz.prog 20 #[.pointer (some ⟨np7, 0, none⟩), .string (str []), .slice none 0 0] Wt fun r w' => ∃ v, r = .returned (.tuple #[.string (str []), v]) ∧ TxO w' Wt.heap.size v (txs (At.log.drop jt)) ∧ RK (J2 (.slice to_ G.length tc) (.slice go9 H2.length gc9)) w' n0 np7 n0 At At.cm kt ∧ Below n0 Wt w' ∧ JK (J2 (.slice to_ G.length tc) (.slice go9 H2.length gc9)) Wt w' ∧ ∀ T x L, TxO Wt T x L → TxO w' T x L) := drain_rk HKt.out HAt.out HJl.out (str [])
            go_upto_region 40 with (go_at_call 20; refine Calls.mono HDr.out ?_; rintro r wa ⟨va, rfl, hva, hka, hba, -, hxa⟩)
            have HKa : Hid (RK (J2 (.slice to_ G.length tc) (.slice go9 H2.length gc9)) wa n0 np7 n0 At At.cm kt) := hka
            have HTa : Hid (TxO wa n0 (.slice to_ G.length tc) G) := hxa _ _ _ HTt.out
            have HGa : Hid (TxO wa n0 (.slice go9 H2.length gc9) H2) := hxa _ _ _ HGt.out
            have HBa : Hid (Below n0 w wa) := HBt.out.trans hba
            have HVa : Hid (TxS wa va (txs (At.log.drop jt))) := hva.toS
            have HSa : Hid (n0 ≤ wa.heap.size) := HKa.out.base
            have HLl : Hid (H2.length + (txs (At.log.drop jt)).length ≤ 2000000000) := by
              show _ ≤ _
              have h1 := HKI.out.n
              rw [← HEq.out, List.length_append] at h1
              omega
            obtain ⟨va1, va2, rfl⟩ := hva.shape
            clear hva hka hba hxa HDr HKt HTt HGt HBt
            go_upto_region 41 with (at_builtin; refine wpl_appT rfl rfl rfl rfl HGa.out HVa.out HLl.out HSa.out ?_; intro vb wb ob fb eb)
            rw [HEq.out] at ob
            have HGb : Hid (TxO wb n0 vb G) := ob
            have HTb : Hid (TxO wb n0 (.slice to_ G.length tc) G) := HTa.out.kept fb (fun k hk e => HDis9.out k hk e)
            have HDb : Hid (∀ k, (Value.slice to_ G.length tc).ownBlock = some k → vb.ownBlock ≠ some k) := fun k hk e => by
              rcases eb k e with e | e
              · exact HDis9.out k hk e
              · obtain ⟨_, c', f', hm⟩ := HTa.out.tag hk
                have := vlt_blk hm
                omega
            have HKb : Hid (RK (J2 (.slice to_ G.length tc) vb) wb n0 np7 n0 At At.cm kt) := HKa.out.wrote HGa.out (fun i e => .inr e) fb (fun i e => by
              rcases e with e | e
              · exact (HTb.out.tag e).2
              · exact (HGb.out.tag e).2) (fun i e => by
              rcases e with e | e
              · exact .inl (.inl e)
              · rcases eb i e with e | e
                · exact .inl (.inr e)
                · exact .inr e)
            have HBb : Hid (Below n0 w wb) := HBa.out.trans (HGa.out.below HSa.out fb)
            obtain ⟨gb, cb, rfl⟩ := ob.shape
            clear ob fb eb HGa HTa HKa HBa HVa HSa HLl
            have HLn : Hid (G.length ≤ 100000) := by show _ ≤ _; have := HKI.out.n; omega
            go_wp2_with (go_at_call 21; refine (begins_same HGb.out.toS HTb.out.toS HLn.out).mono ?_; rintro r wc ⟨rfl, qc, rfl⟩)
            have bc : Below wb.heap.size wb (wb.drewN qc) := vbelow_dn _ _
            go_roundw
            case rel => exact ⟨np7, m + 1, At, G, to_, tc, gb, cb, kt, rfl, rfl, rfl, rfl, by go_num, by omega, by omega, by omega, HKb.out.new bc, HTb.out.new bc, HGb.out.new bc, HDb, HKI, HBb.out.trans (bc.mono (HKb.out.base))⟩
            case measure => simp [intOf]; omega
          · have h40 : ¬ x.k = 4 := h4
            have h50 : ¬ x.k = 5 := h5
            have h60 : ¬ x.k = 6 := h6
            have hTx := text_any x.s m hlt2 W HXo.out
            clear h4 h5 h6
            go_upto_region 12 with (go_at_call 18; refine hTx.mono ?_; rintro r w2 ⟨rfl, hb2⟩)
            have HK2 : Hid (RK (J2 (.slice to_ G.length tc) (.slice go_ G.length gc)) w2 n0 np n0 A A.cm kk) := HK1.out.new hb2
            have HT2 : Hid (TxO w2 n0 (.slice to_ G.length tc) G) := HT1.out.new hb2
            have HG2 : Hid (TxO w2 n0 (.slice go_ G.length gc) G) := HG1.out.new hb2
            have HB2 : Hid (Below n0 w w2) := HB1.out.trans (hb2.mono HK1.out.base)
            have HL0 : Hid ((txB x.s m).length ≤ 41 ∧ 0 < (txB x.s m).length) := by
              show _ ∧ _
              unfold txB
              rw [List.length_append, List.length_take]
              simp
              omega
            clear hTx hb2 HK1 HT1 HG1 HB1 z0 z1 z2 z3 z4 h40 h50 h60
            generalize txB x.s m = s0 at HL0 ⊢
            have hs0 : s0.length ≤ 41 := HL0.out.1
            have HStr : Hid (str s0 = str (clB (s0.take 0) ++ s0.drop 0)) := by show _ = _; simp [clB]
            go_wp2
            go_loopw [20, 21] (fun sv kv wr => ∃ (k : Nat), k ≤ s0.length ∧ sv = .string (str (clB (s0.take k) ++ s0.drop k)) ∧ kv = .int .i64 k ∧ Hid (Below w2.heap.size w2 wr)) (fun _ kv _ => s0.length - (intOf kv).toNat)
            case atStart => exact ⟨0, Nat.zero_le _, by rw [HStr.out], rfl, Below.refl _ _⟩
            case round =>
              clear HStr
              obtain ⟨k, hk, rfl, rfl, HBk⟩ := hrel
              by_cases hkl : k < s0.length
              · obtain ⟨c, hcc⟩ : ∃ c, clB (s0.take k) ++ s0.drop k = c := ⟨_, rfl⟩
                have hcl : c.length = s0.length := by rw [← hcc, List.length_append, clB_len, List.length_take, List.length_drop]; omega
                have hsz : (str c).size = s0.length := by rw [← hcl]; rfl
                have hki : (k : Int) < s0.length := by omega
                have hget : c[k]'(by omega) = s0[k] := by
                  have e : c[k]? = some s0[k] := by
                    rw [← hcc, List.getElem?_append_right (by rw [clB_len, List.length_take]; omega), clB_len, List.length_take, List.getElem?_drop, List.getElem?_eq_getElem (by omega)]
                    congr 2
                    omega
                  rw [List.getElem?_eq_getElem (by omega)] at e
                  exact Option.some.inj e
                have hby : (str c)[k]'(by rw [hsz]; exact hkl) = s0[k] := by rw [← hget]; rfl
                have HSt : Hid (clB (s0.take (k + 1)) ++ s0.drop (k + 1) = clB (s0.take k) ++ (if s0[k] = 10 then 45 else s0[k]) :: s0.drop (k + 1)) := clB_step s0 k hkl
                have HDr : Hid (s0.drop k = s0[k] :: s0.drop (k + 1)) := List.drop_eq_getElem_cons hkl
                generalize s0[k] = bt at hby HSt HDr
                rw [hcc]
                by_cases hb : bt = 10
                · have hcond : ((((str c)[k]'(by rw [hsz]; exact hkl)).toNat : Int) == 10) = true := by rw [hby, hb]; rfl
                  have hx1 : (str c).extract 0 k = str (clB (s0.take k)) := by
                    rw [str_take, ← hcc]
                    congr 1
                    exact List.take_left' (by rw [clB_len, List.length_take]; omega)
                  have hx2 : (str c).extract (k + 1) s0.length = str (s0.drop (k + 1)) := by
                    rw [str_ext, List.take_of_length_le (by omega), ← hcc]
                    congr 1
                    rw [HDr.out, show k + 1 = (clB (s0.take k)).length + 1 by rw [clB_len, List.length_take]; omega, ← List.drop_drop, List.drop_left]
                    rfl
                  have HNew : Hid (str (clB (s0.take k)) ++ (⟨#[45]⟩ : ByteArray) ++ str (s0.drop (k + 1)) = str (clB (s0.take (k + 1)) ++ s0.drop (k + 1))) := by
                    show _ = _
                    rw [HSt.out, hb, if_pos rfl, show (⟨#[45]⟩ : ByteArray) = str [45] from rfl, str_append, str_append]
                    simp
                  have hl1 : (str (clB (s0.take k))).size ≤ 41 := by
                    show (clB (s0.take k)).length ≤ 41
                    rw [clB_len, List.length_take]
                    omega
                  have hl2 : (str (s0.drop (k + 1))).size ≤ 41 := by
                    show (s0.drop (k + 1)).length ≤ 41
                    rw [List.length_drop]
                    omega
                  have hz1 : (str (clB (s0.take k))).size + 1 ≤ 9223372036854775807 := by omega
                  have hz2 : (str (clB (s0.take k))).size + 1 + (str (s0.drop (k + 1))).size ≤ 9223372036854775807 := by omega
                  clear hby hb hget hcc hl1 hl2
                  go_wp2
                  go_quiet (fail)
                  go_wp2
                  go_roundw
                  case rel => exact ⟨k + 1, by omega, by rw [← HNew.out], by go_num, HBk.out.trans ((vbelow_dn _ _).mono HBk.out.size)⟩
                  case measure => simp [intOf]; omega
                · have hcond : ((((str c)[k]'(by rw [hsz]; exact hkl)).toNat : Int) == 10) = false := by
                    rw [hby]
                    simp only [beq_eq_false_iff_ne, ne_eq]
                    intro e
                    exact hb (UInt8.toNat_inj.1 (by have e2 : bt.toNat = 10 := by omega
                                                    rw [e2]; rfl))
                  have HNew : Hid (str c = str (clB (s0.take (k + 1)) ++ s0.drop (k + 1))) := by
                    show _ = _
                    rw [HSt.out, if_neg hb, ← HDr.out, hcc]
                  clear hby hb hget hcc
                  go_wp2
                  go_roundw
                  case rel => exact ⟨k + 1, by omega, by rw [HNew.out], by go_num, HBk⟩
                  case measure => simp [intOf]; omega
              · have hki : ¬ (k : Int) < s0.length := by omega
                have HStr : Hid (str (clB (s0.take k) ++ s0.drop k) = str (clB s0)) := by
                  show _ = _
                  rw [List.take_of_length_le (by omega), List.drop_of_length_le (by omega), List.append_nil]
                rw [HStr.out]
                have hsz : (str (clB s0)).size = s0.length := by show (clB s0).length = _; exact clB_len s0
                have hszc : (str (clB (s0.take k) ++ s0.drop k)).size = s0.length := by rw [HStr.out]; exact hsz
                have HNo : Hid ((10 : UInt8) ∉ clB s0) := clB_no s0
                have HLc : Hid ((clB s0).length ≤ 41 ∧ 0 < (clB s0).length) := by rw [show Hid ((clB s0).length ≤ 41 ∧ 0 < (clB s0).length) = ((clB s0).length ≤ 41 ∧ 0 < (clB s0).length) from rfl, clB_len]; exact HL0.out
                have HK3 : Hid (RK (J2 (.slice to_ G.length tc) (.slice go_ G.length gc)) wr n0 np n0 A A.cm kk) := HK2.out.new HBk.out
                have HT3 : Hid (TxO wr n0 (.slice to_ G.length tc) G) := HT2.out.new HBk.out
                have HG3 : Hid (TxO wr n0 (.slice go_ G.length gc) G) := HG2.out.new HBk.out
                have HB3 : Hid (Below n0 w wr) := HB2.out.trans (HBk.out.mono HK2.out.base)
                have hkl2 : ¬ ((k : Int) < (s0.length : Int)) := hki
                generalize clB s0 = sx at HNo HLc hsz ⊢
                have hPr := propose_rk HK3.out (by omega) (str sx) (by have := HKi.out.ln; omega) (by
                  have h1 := HKi.out.bs
                  have h2 := entsN_le A.log HKi.out.lg
                  have h3 := HKi.out.ln
                  have h4 : (str sx).size ≤ 41 := HLc.out.1
                  omega)
                have hla : A.last + 1 = A.bi + A.log.length + 1 := rfl
                have hne : ¬ (A.last + 1 = 0) := by omega
                have HKi2 : Hid (KI (A.proposed (str sx)) (G ++ [sx]) (m + 1)) := HKi.out.prop HNo.out HLc.out.1 HLc.out.2
                have HLg2 : Hid ((A.proposed (str sx)).log = A.log ++ [⟨A.vw, str sx⟩]) := rfl
                have HBi2 : Hid ((A.proposed (str sx)).bi = A.bi) := rfl
                obtain ⟨At, eAt⟩ : ∃ At, A.proposed (str sx) = At := ⟨_, rfl⟩
                rw [eAt] at hPr HKi2 HLg2 HBi2
                clear eAt hla
                generalize A.last + 1 = la at hPr hne
                clear HK2 HT2 HG2 HB2 HBk HNo
                go_upto_region 20 with (go_at_call 19; refine hPr.mono ?_; rintro r w4 ⟨rfl, hk4, hb4, hj4⟩)
                have HK4 : Hid (RK (J2 (.slice to_ G.length tc) (.slice go_ G.length gc)) w4 n0 np n0 At A.cm (kk + 2)) := hk4
                have HT4 : Hid (TxO w4 n0 (.slice to_ G.length tc) G) := HT3.out.jk (fun i e => .inl e) hj4
                have HG4 : Hid (TxO w4 n0 (.slice go_ G.length gc) G) := HG3.out.jk (fun i e => .inr e) hj4
                have HB4 : Hid (Below n0 w w4) := HB3.out.trans hb4
                clear hPr hk4 hb4 hj4 HK3 HT3 HG3 HB3
                obtain ⟨w5, hw5⟩ : ∃ w5, w4.alloc (.cells #[.string (str sx)] 9) = w5 := ⟨_, rfl⟩
                have b5 : Below w4.heap.size w4 w5 := by rw [← hw5]; exact vone_new _ _
                have HSrc : Hid (TxS (w4.alloc (.cells #[.string (str sx)] 9)) (.slice (some ⟨w4.heap.size, 0, none⟩) 1 1) [sx]) := src1 w4 sx
                have HT5 : Hid (TxO (w4.alloc (.cells #[.string (str sx)] 9)) n0 (.slice to_ G.length tc) G) := HT4.out.new (vone_new _ _)
                have HLl : Hid (G.length + [sx].length ≤ 2000000000) := by show _ ≤ _; have := HKi.out.n; simp; omega
                have HS5 : Hid (n0 ≤ (w4.alloc (.cells #[.string (str sx)] 9)).heap.size) := by show _ ≤ _; rw [hw5]; exact Nat.le_trans HK4.out.base b5.size
                have HW5 : Hid (w4.alloc (.cells #[.string (str sx)] 9) = w5) := hw5
                clear hw5
                go_upto_region 39 with (at_builtin; refine wpl_appT rfl rfl rfl rfl HT5.out HSrc.out HLl.out HS5.out ?_; intro v6 Wt o6 f6 e6)
                rw [HW5.out] at HT5 f6 e6
                have HG5 : Hid (TxO w5 n0 (.slice go_ G.length gc) G) := HG4.out.new b5
                have HK5 : Hid (RK (J2 (.slice to_ G.length tc) (.slice go_ G.length gc)) w5 n0 np n0 At A.cm (kk + 2)) := HK4.out.new b5
                have HB5 : Hid (Below n0 w w5) := HB4.out.trans (b5.mono HK4.out.base)
                obtain ⟨G2, eG2⟩ : ∃ G2, G ++ [sx] = G2 := ⟨_, rfl⟩
                rw [eG2] at o6 HKi2
                have HTt0 : Hid (TxO Wt n0 v6 G2) := o6
                have HGt : Hid (TxO Wt n0 (.slice go_ G.length gc) G) := HG5.out.kept f6 (fun k hk e => HDis.out k e hk)
                have HDis6 : Hid (∀ k, v6.ownBlock = some k → (Value.slice go_ G.length gc).ownBlock ≠ some k) := fun k hk e => by
                  rcases e6 k hk with e' | e'
                  · exact HDis.out k e' e
                  · obtain ⟨_, c', f', hm'⟩ := HG5.out.tag e
                    have := vlt_blk hm'
                    omega
                have HKt0 : Hid (RK (J2 v6 (.slice go_ G.length gc)) Wt n0 np n0 At A.cm (kk + 2)) := HK5.out.wrote HT5.out (fun i e => .inl e) f6 (fun i e => by
                  rcases e with e | e
                  · exact (HTt0.out.tag e).2
                  · exact (HGt.out.tag e).2) (fun i e => by
                  rcases e with e | e
                  · rcases e6 i e with e | e
                    · exact .inl (.inl e)
                    · exact .inr e
                  · exact .inl (.inr e))
                have HBt : Hid (Below n0 w Wt) := HB5.out.trans (HT5.out.below (HK5.out.base) f6)
                obtain ⟨to6, tc6, e7⟩ := o6.shape
                subst e7
                have HTt : Hid (TxO Wt n0 (.slice to6 G2.length tc6) G2) := HTt0
                obtain ⟨kt, ekt⟩ : ∃ kt, kk + 2 = kt := ⟨_, rfl⟩
                rw [ekt] at HKt0
                have hkt2 : kt ≤ 2 * (m + 1) + 2 := by omega
                obtain ⟨jt, ejt⟩ : ∃ jt : Nat, A.log.length = jt := ⟨_, rfl⟩
                have HAt : Hid (A.cm = At.bi + (jt : Nat)) := by show _ = _; rw [HBi2.out, ← ejt]; exact HCm.out
                have HKI : Hid (KI At G2 (m + 1)) := HKi2
                have HJl : Hid (jt ≤ At.log.length) := by show _ ≤ _; rw [HLg2.out, List.length_append]; omega
                have HEq : Hid (G ++ txs (At.log.drop jt) = G2) := by
                  show _ = _
                  rw [HLg2.out, ← ejt, List.drop_left, ← eG2]
                  have h0 : 0 < sx.length := HLc.out.2
                  have : sx.isEmpty = false := by cases sx with
                    | nil => simp at h0
                    | cons a r => rfl
                  simp [txs, str, this]
                have HKt : Hid (RK (J2 (.slice to6 G2.length tc6) (.slice go_ G.length gc)) Wt n0 np n0 At A.cm kt) := HKt0
                clear o6 f6 e6 b5 HW5 HT4 HG4 HB4 HK4 HT5 HG5 HK5 HB5 HSrc HLl HS5 HTt0 HKt0 eG2 ekt ejt HKi HKi2 HAl HCm HOk HLg2 HBi2 HLc HL0 HDis hne
                have HDr : Hid (Calls Tryz.prog 20 #[.pointer (some ⟨np, 0, none⟩), .string (str []), .slice none 0 0] Wt fun r w' => ∃ v, r = .returned (.tuple #[.string (str []), v]) ∧ TxO w' Wt.heap.size v (txs (At.log.drop jt)) ∧ RK (J2 (.slice to6 G2.length tc6) (.slice go_ G.length gc)) w' n0 np n0 At At.cm kt ∧ Below n0 Wt w' ∧ JK (J2 (.slice to6 G2.length tc6) (.slice go_ G.length gc)) Wt w' ∧ ∀ T x L, TxO Wt T x L → TxO w' T x L) := drain_rk HKt.out HAt.out HJl.out (str [])
                go_upto_region 40 with (go_at_call 20; refine Calls.mono HDr.out ?_; rintro r wa ⟨va, rfl, hva, hka, hba, -, hxa⟩)
                have HKa : Hid (RK (J2 (.slice to6 G2.length tc6) (.slice go_ G.length gc)) wa n0 np n0 At At.cm kt) := hka
                have HTa : Hid (TxO wa n0 (.slice to6 G2.length tc6) G2) := hxa _ _ _ HTt.out
                have HGa : Hid (TxO wa n0 (.slice go_ G.length gc) G) := hxa _ _ _ HGt.out
                have HBa : Hid (Below n0 w wa) := HBt.out.trans hba
                have HVa : Hid (TxS wa va (txs (At.log.drop jt))) := hva.toS
                have HSa : Hid (n0 ≤ wa.heap.size) := HKa.out.base
                have HLl : Hid (G.length + (txs (At.log.drop jt)).length ≤ 2000000000) := by
                  show _ ≤ _
                  have h1 := HKI.out.n
                  rw [← HEq.out, List.length_append] at h1
                  omega
                obtain ⟨va1, va2, rfl⟩ := hva.shape
                clear hva hka hba hxa HDr HKt HTt HGt HBt
                go_upto_region 41 with (at_builtin; refine wpl_appT rfl rfl rfl rfl HGa.out HVa.out HLl.out HSa.out ?_; intro vb wb ob fb eb)
                rw [HEq.out] at ob
                have HGb : Hid (TxO wb n0 vb G2) := ob
                have HTb : Hid (TxO wb n0 (.slice to6 G2.length tc6) G2) := HTa.out.kept fb (fun k hk e => HDis6.out k hk e)
                have HDb : Hid (∀ k, (Value.slice to6 G2.length tc6).ownBlock = some k → vb.ownBlock ≠ some k) := fun k hk e => by
                  rcases eb k e with e | e
                  · exact HDis6.out k hk e
                  · obtain ⟨_, c', f', hm⟩ := HTa.out.tag hk
                    have := vlt_blk hm
                    omega
                have HKb : Hid (RK (J2 (.slice to6 G2.length tc6) vb) wb n0 np n0 At At.cm kt) := HKa.out.wrote HGa.out (fun i e => .inr e) fb (fun i e => by
                  rcases e with e | e
                  · exact (HTb.out.tag e).2
                  · exact (HGb.out.tag e).2) (fun i e => by
                  rcases e with e | e
                  · exact .inl (.inl e)
                  · rcases eb i e with e | e
                    · exact .inl (.inr e)
                    · exact .inr e)
                have HBb : Hid (Below n0 w wb) := HBa.out.trans (HGa.out.below HSa.out fb)
                obtain ⟨gb, cb, rfl⟩ := ob.shape
                clear ob fb eb HGa HTa HKa HBa HVa HSa HLl
                have HLn : Hid (G2.length ≤ 100000) := by show _ ≤ _; have := HKI.out.n; omega
                go_wp2_with (go_at_call 21; refine (begins_same HGb.out.toS HTb.out.toS HLn.out).mono ?_; rintro r wc ⟨rfl, qc, rfl⟩)
                have bc : Below wb.heap.size wb (wb.drewN qc) := vbelow_dn _ _
                go_roundw
                case rel => exact ⟨np, m + 1, At, G2, to6, tc6, gb, cb, kt, rfl, rfl, rfl, rfl, by go_num, by omega, by omega, by omega, HKb.out.new bc, HTb.out.new bc, HGb.out.new bc, HDb, HKI, HBb.out.trans (bc.mono (HKb.out.base))⟩
                case measure => simp [intOf]; omega
    · have HDd : Hid (Calls Tryz.prog 22 #[.pointer (some ⟨np, 0, none⟩)] wr fun r w' => r = .returned (.bool false) ∧ Below n0 wr w') := dead_rk HK.out
      by_cases hx1 : m < X.length
      · have hx2 : ¬ ((m : Int) < 60) := by omega
        have hx3 : (m : Int) < X.length := by omega
        clear hlt HX HO1
        go_wp2_with (go_at_call 22; refine Calls.mono HDd.out ?_; rintro r wz ⟨rfl, hbz⟩)
        go_ret
        refine ⟨rfl, ?_⟩
        rw [HN0.out]
        exact HB.out.trans hbz
      · have hx3 : ¬ ((m : Int) < X.length) := by omega
        clear hlt HX HO1
        go_wp2_with (go_at_call 22; refine Calls.mono HDd.out ?_; rintro r wz ⟨rfl, hbz⟩)
        go_ret
        refine ⟨rfl, ?_⟩
        rw [HN0.out]
        exact HB.out.trans hbz
end Go.Proofs.YtnhjflebaeokeaaGreat
