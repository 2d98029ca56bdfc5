import Derived.Test.YtnhjflebaeokeaaGreatRoCpM
import Derived.Test.YtnhjflebaeokeaaGreatWlDM
import Derived.Test.YtnhjflebaeokeaaGreatNumW2M
section
/- rnode: the small calls of a master on its disk. -/
namespace Go.Proofs.YtnhjflebaeokeaaGreat
open Go.RowKit
attribute [local go_sem] Oper.semAt_some
variable {Xm : Nat → Prop}
theorem at_rk {J : Nat → Prop} {w : World} {B np dp k : Nat} {A : Nd} {at_ : Int} (h : RK J w B np dp A at_ k) : Calls Tryz.prog 14 #[.pointer (some ⟨np, 0, none⟩)] w fun r w' => r = .returned (.int .i64 at_) ∧ w' = w := by
  obtain ⟨Xm, S, lq, vp, kv, rv, D, R, hR, hP, hA, ht⟩ := h
  have hbk := hR.blk
  unfold roC at hbk
  have y10 := (robox hbk).2.2.2.2.2.2.2.2.1
  clear hR hP hA ht hbk
  go_enter Tryz.func14, Tryz.ntmps14
  go_wp2
  go_ret
  exact ⟨rfl, rfl⟩
theorem base_rk {J : Nat → Prop} {w : World} {B np dp k : Nat} {A : Nd} {at_ : Int} (h : RK J w B np dp A at_ k) : Calls Tryz.prog 11 #[.pointer (some ⟨np, 0, none⟩)] w fun r w' => r = .returned (.tuple #[.string A.base, .int .i64 A.bi]) ∧ ∃ q, w' = w.drewN q := by
  obtain ⟨Xm, S, lq, vp, kv, rv, D, R, hR, hP, hA, ht⟩ := h
  have hbk : w.heap[np]? = some (.cells #[.pointer (some ⟨dp, 0, none⟩), .pointer (some ⟨lq, 0, none⟩), .pointer (some ⟨vp, 0, none⟩), .int .i64 A.vw, .int .i64 A.nm, .int .i64 A.bi, .int .i64 A.bv, .string A.base, kv, .int .i64 A.cm, .int .i64 at_, .bool false] 87 (0, 0)) := hR.blk
  have y5 := (robox hbk).2.2.2.2.2.1
  have y7 : w.cell? ⟨np, 7, none⟩ = some (.string A.base) := vcell_blk hbk
  clear hR hP hA ht hbk
  go_enter Tryz.func11, Tryz.ntmps11
  first
    | (go_wp2
       refine bodyPost_ret (results_tmp2 rfl _ _ _) rfl ?_
       exact ⟨rfl, 0, rfl⟩)
    | (go_wp2
       go_quiet (fail)
       go_wp2
       refine bodyPost_ret (results_tmp2 rfl _ _ _) rfl ?_
       exact ⟨rfl, _, rfl⟩)
theorem role_rk {J : Nat → Prop} {w : World} {B np dp k : Nat} {A : Nd} {at_ : Int} (h : RK J w B np dp A at_ k) : ∃ vp, ∀ W, Below w.heap.size w W → (Calls Tryz.prog 28 #[.pointer (some ⟨np, 0, none⟩)] W fun r w' => r = .returned (.pointer (some ⟨vp, 0, none⟩)) ∧ w' = W) ∧ Calls Tryz.prog 35 #[.pointer (some ⟨vp, 0, none⟩)] W fun r w' => r = .returned (.int .i64 3) ∧ ∃ q, w' = W.drewN q := by
  obtain ⟨Xm, S, lq, vp, kv, rv, D, R, hR, hP, hA, ht⟩ := h
  refine ⟨vp, fun W hb => ⟨?_, ?_⟩⟩
  · have hbk := (hR.new hb).blk
    unfold roC at hbk
    have y2 := (robox hbk).2.2.1
    clear hR hP hA ht hbk
    go_enter Tryz.func28, Tryz.ntmps28
    go_wp2
    go_ret
    exact ⟨rfl, rfl⟩
  · obtain ⟨lv, mw, mg, mu, mk, hNA⟩ := hR.view.new hb
    have := role_any hNA hA.ok
    rw [hA.role] at this
    exact this
/-- The disk of a master alone, for a crash. -/
theorem disk_rk {J : Nat → Prop} {w : World} {B np dp k : Nat} {A : Nd} {at_ : Int} (h : RK J w B np dp A at_ k) : ∃ Xm D R, DkAt Xm w B dp D ∧ PD D (hdOf A) R k ∧ B ≤ w.heap.size := by
  obtain ⟨Xm, S, lq, vp, kv, rv, D, R, hR, hP, hA, ht⟩ := h
  exact ⟨Xm, D, R, hR.disk, hP, hR.hB⟩
/-- The first master of a new disk. -/
def g0 : Hd := ⟨0, 0, 0, 0, str [], []⟩
theorem g0_ok : g0.ok := ⟨by decide, by decide, by decide, by decide, by decide, by decide, by decide, by decide, by decide, fun e he => (by cases he), by decide⟩
theorem open_new {J : Nat → Prop} {w : World} {B dp : Nat} (h : DkAt Xm w B dp dk0) (hJ : ∀ i, J i → ∃ c f, w.heap[i]? = some (.cells c 9 f)) (hB : B ≤ w.heap.size) : Calls Tryz.prog 26 #[.pointer (some ⟨dp, 0, none⟩), .int .i64 0, .int .i64 1] w fun r w' => ∃ np, r = .returned (.tuple #[.pointer (some ⟨np, 0, none⟩), .int .i64 0]) ∧ RK J w' B np dp (Nd.born 0 1 0 0 0 0 (str []) []).counted 0 2 ∧ FrD Xm B w w' := by
  have hb : baseB g0 = [] := rfl
  refine open_core (Xm := Xm) (g := g0) (R := []) (D := wk1) ?_ hJ hB ⟨?_, ?_, rfl, by decide, g0_ok, fun x hx => (by cases hx)⟩ ⟨rfl, rfl⟩ rfl
  · refine (open_first h hB).mono ?_
    rintro r w' ⟨q, rfl, -, hL, hD, hf⟩
    exact ⟨q, _, 0, rfl, by rw [hb]; exact hL, hD, hf, fun k hk => (by cases hk)⟩
  · exact ⟨cl1.1.loose, cl1.1.dead, cl1.1.sort, fun p hp => Nat.le_trans (cl1.1.fit p hp) (by decide), cl1.1.len, cl1.1.n, cl1.1.plan⟩
  · rw [hb]
    exact cl1.2
/-- A master stands up again, as it was kept. -/
theorem open_back {J : Nat → Prop} {w : World} {B dp k : Nat} {D : Dk} {A : Nd} {R : List Bs} (h : DkAt Xm w B dp D) (hJ : ∀ i, J i → ∃ c f, w.heap[i]? = some (.cells c 9 f)) (hB : B ≤ w.heap.size) (hP : PD D (hdOf A) R k) (hk : k ≤ 80000) (hv : A.vw = 0 ∧ A.nm = 0) : Calls Tryz.prog 26 #[.pointer (some ⟨dp, 0, none⟩), .int .i64 0, .int .i64 1] w fun r w' => ∃ np, r = .returned (.tuple #[.pointer (some ⟨np, 0, none⟩), .int .i64 0]) ∧ RK J w' B np dp (Nd.born 0 1 0 0 A.bi A.bv A.base A.log).counted A.bi k ∧ FrD Xm B w w' := by
  refine open_core (Xm := Xm) (g := hdOf A) ?_ hJ hB hP hv rfl
  have hu := unfV_all (baseB (hdOf A) :: R) (fun x hx => by
    rcases List.mem_cons.1 hx with rfl | hx
    · have := baseB_len (hdOf A) hP.ok; omega
    · have := hP.sm x hx; omega)
  refine (open_again h hB hP.cl (by decide) (by omega) hP.file hu (by have := hP.len; omega)).mono ?_
  rintro r w' ⟨q, rv, rfl, -, hL, hn, hD, hf⟩
  exact ⟨q, rv, 0, rfl, hL, hD, hf, hn⟩
end Go.Proofs.YtnhjflebaeokeaaGreat
end

section
/- RnodeKeeps' law: a master that leads alone. -/
namespace Go.Proofs.YtnhjflebaeokeaaGreat
open Go.RowKit
attribute [local go_sem] Oper.semAt_some
set_option maxRecDepth 100000 in
set_option maxHeartbeats 1000000 in
theorem alone_of {J Xm : Nat → Prop} {w : World} {B dp k : Nat} {A : Nd} {at_ : Int} (hO : Calls Tryz.prog 26 #[.pointer (some ⟨dp, 0, none⟩), .int .i64 0, .int .i64 1] w fun r w' => ∃ np, r = .returned (.tuple #[.pointer (some ⟨np, 0, none⟩), .int .i64 0]) ∧ RK J w' B np dp A at_ k ∧ FrD Xm B w w') :
    Calls Tryz.prog 8 #[.pointer (some ⟨dp, 0, none⟩)] w fun r w' => ∃ np, r = .returned (.tuple #[.pointer (some ⟨np, 0, none⟩), .bool true]) ∧ RK J w' B np dp A at_ k ∧ FrD Xm B w w' := by
  have HO : Hid (Calls Tryz.prog 26 #[.pointer (some ⟨dp, 0, none⟩), .int .i64 0, .int .i64 1] w fun r w' => ∃ np, r = .returned (.tuple #[.pointer (some ⟨np, 0, none⟩), .int .i64 0]) ∧ RK J w' B np dp A at_ k ∧ FrD Xm B w w') := hO
  clear hO
  go_enter Tryz.func8, Tryz.ntmps8
  go_wp2_with (go_at_call 26; refine HO.out.mono ?_; rintro rr w1 ⟨np, rfl, hK1, hb1⟩; have HK1 : Hid (RK J w1 B np dp A at_ k) := hK1; have HB1 : Hid (FrD Xm B w w1) := hb1; clear hK1 hb1)
  go_loopw [6] (fun i wr => i = .int .i64 0 ∧ Hid (RK J wr B np dp A at_ k) ∧ Hid (FrD Xm B w wr)) (fun _ _ => 0)
  case atStart => exact ⟨rfl, HK1, HB1⟩
  case round =>
    obtain ⟨rfl, HKr, HBr⟩ := hrel
    obtain ⟨vp, hVR⟩ := role_rk HKr.out
    have HVR : Hid _ := hVR
    have HV0 : Hid (Calls Tryz.prog 28 #[.pointer (some ⟨np, 0, none⟩)] wr fun r w' => r = .returned (.pointer (some ⟨vp, 0, none⟩)) ∧ w' = wr) := (hVR wr (Below.refl _ _)).1
    have HR0 : Hid (Calls Tryz.prog 35 #[.pointer (some ⟨vp, 0, none⟩)] wr fun r w' => r = .returned (.int .i64 3) ∧ ∃ q, w' = wr.drewN q) := (hVR wr (Below.refl _ _)).2
    have HV1 : Hid (∀ n, Calls Tryz.prog 28 #[.pointer (some ⟨np, 0, none⟩)] (wr.drewN n) fun r w' => r = .returned (.pointer (some ⟨vp, 0, none⟩)) ∧ w' = wr.drewN n) := fun n => (hVR _ (below_dn _ _)).1
    have HR1 : Hid (∀ n, Calls Tryz.prog 35 #[.pointer (some ⟨vp, 0, none⟩)] (wr.drewN n) fun r w' => r = .returned (.int .i64 3) ∧ ∃ q, w' = (wr.drewN n).drewN q) := fun n => (hVR _ (below_dn _ _)).2
    have tk1 : Hid True := trivial
    have tk2 : Hid True := trivial
    clear hVR HVR
    go_wp2_with (first
      | (go_at_call 28; first
        | (have _t := tk1; refine HV0.out.mono ?_; rintro rr wz ⟨rfl, hz⟩; rw [hz]; clear hz tk1)
        | (refine (HV1.out _).mono ?_; rintro rr wz ⟨rfl, hz⟩; rw [hz]; clear hz))
      | (go_at_call 35; first
        | (have _t := tk2; refine HR0.out.mono ?_; rintro rr w3 ⟨rfl, n3, hz⟩; rw [hz]; clear hz tk2)
        | (refine (HR1.out _).mono ?_; rintro rr w4 ⟨rfl, n4, hz⟩; rw [hz]; clear hz)))
    refine bodyPost_ret (results_tmp2 rfl _ _ _) rfl ?_
    have b3 : Below wr.heap.size wr (wr.drewN (n3 + n4)) := below_dn _ _
    exact ⟨np, rfl, HKr.out.new b3, HBr.out.trans (FrD.new b3)⟩
end Go.Proofs.YtnhjflebaeokeaaGreat
end

section
/- RnodeKeeps' law: all that is handed out. -/
namespace Go.Proofs.YtnhjflebaeokeaaGreat
open Go.RowKit
attribute [local go_sem] Oper.semAt_some
/-- Texts that are not empty. -/
def txs (L : List Ent) : List Bs := (L.filter (fun e => !e.s.data.toList.isEmpty)).map (fun e => e.s.data.toList)
theorem txs_snoc (L : List Ent) (e : Ent) : txs (L ++ [e]) = txs L ++ (if e.s.data.toList.isEmpty then [] else [e.s.data.toList]) := by
  unfold txs
  rw [List.filter_append, List.map_append]
  congr 1
  cases h : e.s.data.toList.isEmpty with
  | true => rw [List.filter_cons, h]; rfl
  | false => rw [List.filter_cons, h]; rfl
theorem txs_len (L : List Ent) : (txs L).length ≤ L.length := by
  unfold txs
  rw [List.length_map]
  exact List.length_filter_le _ _
theorem RA.text {Xm S : Nat → Prop} {w w' : World} {B np dp lq vp T : Nat} {A : Nd} {g : Hd} {kv rv v : Value} {cm at_ : Int} {D : Dk} {R L : List Bs} (h : RA Xm w S B np dp lq vp A g kv rv cm at_ D R) (hv : TxO w T v L) (f : Fr w w' (fun k => v.ownBlock = some k)) (hr : ∀ k, v.ownBlock = some k → rv.ownBlock ≠ some k ∧ ¬ S k) : RA Xm w' S B np dp lq vp A g kv rv cm at_ D R := by
  have tg : ∀ k, v.ownBlock = some k → ∃ c f, w.heap[k]? = some (.cells c 9 f) := fun k hk => (hv.tag hk).2
  refine ⟨(f.block np (vlt_blk h.blk) (fun e => ?_)).trans h.blk, dk_keep h.disk f (fun k hk => ?_), ⟨(f.block lq (lt_blk h.log.blk) (fun e => ?_)).trans h.log.blk, h.log.row.kept f (fun k hk e => (hr k e).1 hk), h.log.hq⟩, h.view.kept f (fun k _ e => (hr k e).2), h.kept.kept f (fun k hk e => ?_), h.xs, h.nl, h.nr, h.nn, h.nk, Nat.le_trans h.hB f.size, h.nB, h.SB, fun k s => Nat.lt_of_lt_of_le (h.bd k s) f.size⟩
  · obtain ⟨c, f', hm⟩ := tg _ e
    rw [h.blk] at hm
    cases hm
  · obtain ⟨c, f', hm⟩ := tg _ hk
    exact ⟨c, 9, f', hm, by decide, by decide⟩
  · obtain ⟨c, f', hm⟩ := tg _ e
    rw [h.log.blk] at hm
    cases hm
  · obtain ⟨c, f', hm⟩ := tg _ e
    obtain ⟨_, c2, f2, hm2⟩ := vrow_tag h.kept hk
    rw [hm] at hm2
    cases hm2
def atW (w : World) (np : Nat) : Int := match w.cell? ⟨np, 10, none⟩ with
  | some (.int _ x) => x
  | _ => 0
theorem RA.atW {Xm S : Nat → Prop} {w : World} {B np dp lq vp : Nat} {A : Nd} {g : Hd} {kv rv : Value} {cm at_ : Int} {D : Dk} {R : List Bs} (h : RA Xm w S B np dp lq vp A g kv rv cm at_ D R) : atW w np = at_ := by
  have hb := h.blk
  unfold roC at hb
  unfold Proofs.YtnhjflebaeokeaaGreat.atW
  rw [(robox hb).2.2.2.2.2.2.2.2.1]
set_option maxRecDepth 100000 in
set_option maxHeartbeats 2000000 in
theorem drain_ra {Xm S : Nat → Prop} {w : World} {B np dp lq vp j : Nat} {A : Nd} {kv rv : Value} {D : Dk} {R : List Bs} (hR : RA Xm w S B np dp lq vp A (hdOf A) kv rv A.cm (A.bi + j) D R) (hA : Alone A) (hj : j ≤ A.log.length) (h3 : A.cm ≤ 2500000000) (bs : ByteArray) :
    Calls Tryz.prog 20 #[.pointer (some ⟨np, 0, none⟩), .string bs, .slice none 0 0] w fun r w' => ∃ v, r = .returned (.tuple #[.string bs, v]) ∧ TxO w' w.heap.size v (txs (A.log.drop j)) ∧ RA Xm w' S B np dp lq vp A (hdOf A) kv rv A.cm A.cm D R ∧ Fr w w' (fun k => k = np) := by
  have HR : Hid (RA Xm w S B np dp lq vp A (hdOf A) kv rv A.cm (A.bi + j) D R) := hR
  have HA : Hid (Alone A) := hA
  have HC : Hid (A.cm = A.bi + A.log.length ∧ A.log.length ≤ 1000 ∧ A.cm ≤ 2500000000) := ⟨hA.cm, hA.ok.len, h3⟩
  clear hR hA h3
  go_enter Tryz.func20, Tryz.ntmps20
  go_wp2
  go_loopw [1, 2] (fun b l wr => b = .string bs ∧ ∃ (i : Nat), j ≤ i ∧ i ≤ A.log.length ∧ Hid (RA Xm wr S B np dp lq vp A (hdOf A) kv rv A.cm (A.bi + i) D R) ∧ Hid (TxO wr w.heap.size l (txs ((A.log.drop j).take (i - j)))) ∧ Hid (Fr w wr (fun k => k = np))) (fun b l wr => (A.cm - atW wr np).toNat)
  case atStart => exact ⟨rfl, j, Nat.le_refl _, hj, HR, by rw [Nat.sub_self]; exact TxO.nil _ _, Fr.refl _ _⟩
  case round =>
    obtain ⟨rfl, i, hji, hil, HRi, HTi, HFi⟩ := hrel
    obtain ⟨lo, lc, rfl⟩ := HTi.out.shape
    have HSp : Hid (∀ k, (Value.slice lo (txs ((A.log.drop j).take (i - j))).length lc).ownBlock = some k → rv.ownBlock ≠ some k ∧ ¬ S k) := fun k hk => by
      have k1 := (HTi.out.tag hk).1
      refine ⟨fun e => ?_, fun s => ?_⟩
      · obtain ⟨_, c, f, hm⟩ := HR.out.log.row.tag e
        have := lt_blk hm
        omega
      · have := HR.out.bd k s
        omega
    by_cases hlt : i < A.log.length
    · have HNx : Hid (Calls Tryz.prog 31 #[.pointer (some ⟨np, 0, none⟩)] wr fun r w' => r = .returned (.tuple #[.agg #[.int .i64 (A.bi + i + 1), .int .i64 A.log[i].v, .string A.log[i].s, .bool false], .bool true]) ∧ RA Xm w' S B np dp lq vp A (hdOf A) kv rv A.cm (A.bi + i + 1) D R ∧ Fr wr w' (fun k => k = np)) := next_some_ra HRi.out HA.out hlt rfl (by have := HC.out; omega) (by have := HC.out; omega)
      have HTk : Hid (txs ((A.log.drop j).take (i + 1 - j)) = txs ((A.log.drop j).take (i - j)) ++ (if A.log[i].s.data.toList.isEmpty then [] else [A.log[i].s.data.toList])) := by
        show _ = _
        rw [← txs_snoc, show i + 1 - j = (i - j) + 1 by omega, List.take_succ_eq_append_getElem (by rw [List.length_drop]; omega), List.getElem_drop]
        congr 3
        simp only [show j + (i - j) = i by omega]
      have hmz : (A.cm - (A.bi + (i : Int) + 1)).toNat < (A.cm - (A.bi + (i : Int))).toNat := by have := HC.out; omega
      have HMz : Hid ((A.cm - (A.bi + (i : Int) + 1)).toNat < (A.cm - atW wr np).toNat) := by rw [HRi.out.atW]; exact hmz
      have HIl : Hid (j ≤ i + 1 ∧ i + 1 ≤ A.log.length) := ⟨by omega, hlt⟩
      obtain ⟨⟨ev, es⟩, hee⟩ : ∃ y, A.log[i] = y := ⟨_, rfl⟩
      rw [hee] at HNx HTk
      have HLn : Hid ((txs ((A.log.drop j).take (i - j))).length ≤ 1000) := by
        show _ ≤ _
        have k1 := txs_len ((A.log.drop j).take (i - j))
        have k2 := HC.out
        rw [List.length_take, List.length_drop] at k1
        omega
      generalize txs ((A.log.drop j).take (i - j)) = L0 at *
      clear hmz hee hlt
      go_upto_region 4 with (first
        | (go_at_call 31; refine HNx.out.mono ?_; rintro rr w1 ⟨rfl, hR1, hf1⟩; have HR1 : Hid (RA Xm w1 S B np dp lq vp A (hdOf A) kv rv A.cm (A.bi + i + 1) D R) := hR1; have HF1 : Hid (Fr wr w1 (fun k => k = np)) := hf1; clear hR1 hf1)
        | (refine wpList_store_row rfl 73 _ _ rfl _ #[.int .i64 (A.bi + i + 1), .int .i64 ev, .string es, .bool false] rfl rfl 73 #[.int .i64 0, .int .i64 0, .string (str []), .bool false] (heap_alloc_new _ _) size_given rfl (by simp [Value.oneCell']) ?_))
      generalize hW2 : World.setRow _ _ _ = W2
      have hbx : W2.heap[w1.heap.size]? = some (.cells #[.int .i64 (A.bi + i + 1), .int .i64 ev, .string es, .bool false] 73 (0, 0)) := by rw [← hW2]; exact setRow_heap _ _ _ _ _ _ (heap_alloc_new _ _)
      have b2 : Below w1.heap.size w1 W2 := by rw [← hW2]; exact ((Fr.alloc w1 _ (fun _ => False)).trans (vfr_setRow _ _ _) (fun i hi e => absurd e (by omega))).below (Nat.le_refl _) (fun _ h => h.elim)
      obtain ⟨b, hbb⟩ : ∃ b, w1.heap.size = b := ⟨_, rfl⟩
      rw [hbb] at hbx ⊢
      have x2 : W2.cell? ⟨b, 2, none⟩ = some (.string es) := vcell_blk hbx
      have x3 : W2.cell? ⟨b, 3, none⟩ = some (.bool false) := vcell_blk hbx
      have HR2 : Hid (RA Xm W2 S B np dp lq vp A (hdOf A) kv rv A.cm (A.bi + i + 1) D R) := HR1.out.new b2
      have HF2 : Hid (Fr w W2 (fun k => k = np)) := (HFi.out.trans HF1.out (fun _ _ h => h)).trans (Fr.ofBelow b2 _) (fun _ _ h => h)
      have HT2 : Hid (TxO W2 w.heap.size (.slice lo L0.length lc) L0) := by
        refine TxO.new (HTi.out.kept HF1.out (fun k hk e => ?_)) b2
        obtain ⟨_, c, f, hm⟩ := HTi.out.tag hk
        rw [e, HRi.out.blk] at hm
        cases hm
      have HIe : Hid (A.bi + ((i + 1 : Nat) : Int) = A.bi + i + 1) := by show _ = _; omega
      clear hW2 hbx b2 hbb HR1 HF1
      by_cases hem : es.data.toList.isEmpty = true
      · have hem2 : es.toList.isEmpty = true := by rw [ByteArray.toList_eq]; exact hem
        have HTe : Hid (txs ((A.log.drop j).take (i + 1 - j)) = L0) := by show _ = _; rw [HTk.out, if_pos hem, List.append_nil]
        clear hem
        go_wp2
        go_roundw
        case rel => exact ⟨rfl, i + 1, HIl.out.1, HIl.out.2, by rw [HIe.out]; exact HR2, by rw [HTe.out]; exact HT2, HF2⟩
        case measure => rw [HR2.out.atW]; exact HMz.out
      · have hem2 : es.toList.isEmpty = false := by rw [ByteArray.toList_eq]; simpa using hem
        have HTe : Hid (txs ((A.log.drop j).take (i + 1 - j)) = L0 ++ [es.data.toList]) := by show _ = _; rw [HTk.out, if_neg hem]
        have HTa : Hid (TxO (W2.alloc (.cells #[.string es] 9)) w.heap.size (.slice lo L0.length lc) L0) := HT2.out.new (vone_new _ _)
        have HRa : Hid (RA Xm (W2.alloc (.cells #[.string es] 9)) S B np dp lq vp A (hdOf A) kv rv A.cm (A.bi + i + 1) D R) := HR2.out.new (vone_new _ _)
        have HSc : Hid (TxS (W2.alloc (.cells #[.string es] 9)) (.slice (some ⟨W2.heap.size, 0, none⟩) 1 1) [es.data.toList]) := src1 W2 es.data.toList
        have HSz : Hid (w.heap.size ≤ (W2.alloc (.cells #[.string es] 9)).heap.size) := by show _ ≤ _; have := HF2.out.size; rw [World.size_alloc]; omega
        have HLl : Hid (L0.length + [es.data.toList].length ≤ 2000000000) := by show _ ≤ _; have := HLn.out; simp; omega
        clear hem
        go_wp2_with (at_builtin; refine wpl_appT rfl rfl rfl rfl HTa.out HSc.out HLl.out HSz.out ?_; intro v2 w2 o2 f2 e2; have HT3 : Hid (TxO w2 w.heap.size v2 (L0 ++ [es.data.toList])) := o2; have HR3 : Hid (RA Xm w2 S B np dp lq vp A (hdOf A) kv rv A.cm (A.bi + i + 1) D R) := HRa.out.text HTa.out f2 HSp.out; have HF3 : Hid (Fr w w2 (fun k => k = np)) := (HF2.out.trans (Fr.ofBelow (vone_new W2 _) _) (fun _ _ h => h)).trans f2 (fun k hk x => absurd (HTa.out.tag x).1 (by omega)); clear o2 f2 e2)
        go_roundw
        case rel => exact ⟨rfl, i + 1, HIl.out.1, HIl.out.2, by rw [HIe.out]; exact HR3, by rw [HTe.out]; exact HT3, HF3⟩
        case measure => rw [HR3.out.atW]; exact HMz.out
    · have hie : i = A.log.length := by omega
      have HNx : Hid (Calls Tryz.prog 31 #[.pointer (some ⟨np, 0, none⟩)] wr fun r w' => r = .returned (.tuple #[.agg #[.int .i64 0, .int .i64 0, .string (str []), .bool false], .bool false]) ∧ Below wr.heap.size wr w') := next_none_ra HRi.out (by omega) (by have := HC.out; omega)
      have HEnd : Hid (txs ((A.log.drop j).take (i - j)) = txs (A.log.drop j)) := by
        show _ = _
        rw [List.take_of_length_le (by rw [List.length_drop]; omega)]
      have HAt : Hid (A.bi + (i : Int) = A.cm) := by show _ = _; have := HC.out; omega
      clear hie
      go_wp2_with (first
        | (go_at_call 31; refine HNx.out.mono ?_; rintro rr w1 ⟨rfl, hb1⟩; have HB1 : Hid (Below wr.heap.size wr w1) := hb1; clear hb1)
        | (refine wpList_store_row rfl 73 _ _ rfl _ #[.int .i64 0, .int .i64 0, .string (str []), .bool false] rfl rfl 73 #[.int .i64 0, .int .i64 0, .string (str []), .bool false] (heap_alloc_new _ _) size_given rfl (by simp [Value.oneCell']) ?_))
      refine bodyPost_ret (results_tmp2 rfl _ _ _) rfl ?_
      have b2 : Below wr.heap.size wr ((w1.alloc (.cells #[.int .i64 0, .int .i64 0, .string (str []), .bool false] 73)).setRow w1.heap.size #[.int .i64 0, .int .i64 0, .string (str []), .bool false]) := HB1.out.trans ((((Fr.alloc w1 _ (fun _ => False)).trans (vfr_setRow _ _ _) (fun i hi e => absurd e (by omega))).below (Nat.le_refl _) (fun _ h => h.elim)).mono HB1.out.size)
      refine ⟨_, rfl, ?_, ?_, HFi.out.trans (Fr.ofBelow b2 _) (fun _ _ h => h)⟩
      · have := HTi.out.new b2
        rw [← HEnd.out]
        exact this
      · have := HRi.out.new b2
        rw [HAt.out] at this
        exact this
end Go.Proofs.YtnhjflebaeokeaaGreat
end

section
/- Stage 14's awake: what was proposed is handed out, also behind a crash. -/
namespace Go.Proofs.YtnhjflebaeokeaaGreat
open Go.RowKit
attribute [local go_sem] Oper.semAt_some
theorem drain_rk {J : Nat → Prop} {w : World} {B np dp j k : Nat} {A : Nd} {at_ : Int} (h : RK J w B np dp A at_ k) (hat : at_ = A.bi + j) (hj : j ≤ A.log.length) (bs : ByteArray) :
    Calls Tryz.prog 20 #[.pointer (some ⟨np, 0, none⟩), .string bs, .slice none 0 0] w fun r w' => ∃ v, r = .returned (.tuple #[.string bs, v]) ∧ TxO w' w.heap.size v (txs (A.log.drop j)) ∧ RK J w' B np dp A A.cm k ∧ Below B w w' ∧ JK J w w' ∧ ∀ T x L, TxO w T x L → TxO w' T x L := by
  subst hat
  obtain ⟨Xm, S, lq, vp, kv, rv, D, R, hR, hP, hA, ht, hJ⟩ := h
  have h3 : A.cm ≤ 2500000000 := by
    have k1 := hA.cm
    have k2 := hA.ok.bi1
    have k3 := hA.ok.len
    unfold Nd.last at k1
    omega
  refine (drain_ra hR hA hj h3 bs).mono ?_
  rintro r w' ⟨v, rfl, hT, hR', hf⟩
  refine ⟨v, rfl, hT, ⟨Xm, S, lq, vp, kv, rv, D, R, hR', hP, hA, ht, hJ.of (hJ.own hR hf)⟩, below_np hR.hB hR.nB hf, hJ.own hR hf, fun T x L hx => hx.kept hf (fun i hi e => ?_)⟩
  obtain ⟨_, c, f, hm⟩ := hx.tag hi
  rw [e, hR.blk] at hm
  cases hm
def wA0 : Nd := (Nd.born 0 1 0 0 0 0 (str []) []).counted
def wA1 : Nd := wA0.proposed (str [97])
def wA2 : Nd := (Nd.born 0 1 0 0 wA1.bi wA1.bv wA1.base wA1.log).counted
theorem txs_w : txs (wA1.log.drop 0) = [[97]] := by rfl
theorem txs_w2 : txs (wA2.log.drop 0) = [[97]] := by rfl
set_option maxRecDepth 100000 in
set_option maxHeartbeats 2000000 in
theorem awake14 (w : World) : Calls Tryz.prog 9 #[] w fun r w' => r = .returned (.bool true) ∧ Below w.heap.size w w' := by
  have hN := new_any w
  obtain ⟨n0, hn0⟩ : ∃ n0, w.heap.size = n0 := ⟨_, rfl⟩
  rw [hn0] at hN
  have HN0 : Hid (w.heap.size = n0) := hn0
  have HZ1 : Hid ((0 : Int) = wA1.bi + ((0 : Nat) : Int)) := (show (0 : Int) = (0 : Int) + ((0 : Nat) : Int) by decide)
  have HZ2 : Hid (wA1.bi = wA2.bi + ((0 : Nat) : Int)) := (show (0 : Int) = (0 : Int) + ((0 : Nat) : Int) by decide)
  have HLa : Hid (wA0.last + 1 = 1) := (show (0 : Int) + ((0 : Nat) : Int) + 1 = 1 by decide)
  have tk1 : Hid True := trivial
  have tk2 : Hid True := trivial
  clear hn0
  go_enter Tryz.func9, Tryz.ntmps9
  go_upto_region 9 with (first
    | (go_at_call 7; refine hN.mono ?_; rintro r w1 ⟨rfl, hD, hb1⟩; have HD1 : Hid (DkAt (fun _ => False) w1 n0 n0 dk0) := ⟨_, _, _, hD⟩; have HB1 : Hid (Below n0 w w1) := hb1; have HS1 : Hid (n0 ≤ w1.heap.size) := (by have := hb1.size; have := HN0.out; show n0 ≤ _; omega); clear hD hb1)
    | (go_at_call 8; refine (alone_of (open_new (J := fun _ => False) HD1.out (fun _ h => h.elim) HS1.out)).mono ?_; rintro r w2 ⟨np, rfl, hK2, hf2⟩; have HK2 : Hid (RK (fun _ => False) w2 n0 np n0 wA0 0 2) := hK2; have HB2 : Hid (Below n0 w w2) := HB1.out.trans (hf2.below HS1.out); clear hK2 hf2)
    | (go_at_call 19; refine (propose_rk HK2.out (by decide) (str [97]) (by decide) (by decide)).mono ?_; rintro r w3 ⟨rfl, hK3, hb3, -⟩; rw [HLa.out]; have HK3 : Hid (RK (fun _ => False) w3 n0 np n0 wA1 0 4) := hK3; have HB3 : Hid (Below n0 w w3) := HB2.out.trans hb3; clear hK3 hb3)
    | (go_at_call 20; refine (drain_rk (j := 0) HK3.out HZ1.out (Nat.zero_le _) _).mono ?_; rintro r w4 ⟨v4, rfl, hT4, hK4, hb4, -, -⟩; have HT4 : Hid (TxO w4 w3.heap.size v4 [[97]]) := (by rw [← txs_w]; exact hT4); have HK4 : Hid (RK (fun _ => False) w4 n0 np n0 wA1 wA1.cm 4) := hK4; have HB4 : Hid (Below n0 w w4) := HB3.out.trans hb4; obtain ⟨Xm, D, R, hD4, hP4, hS4⟩ := disk_rk hK4; have HD4 : Hid (DkAt Xm w4 n0 n0 D) := hD4; have HP4 : Hid (PD D (hdOf wA1) R 4) := hP4; have HS4 : Hid (n0 ≤ w4.heap.size) := hS4; clear hT4 hK4 hb4 hD4 hP4 hS4)
    | (go_at_call 15; refine (cl_crash HD4.out HS4.out HP4.out.cl (by decide) (by decide) 0 0).mono ?_; rintro r w5 ⟨rfl, hD5, hf5⟩; have HD5 : Hid (DkAt Xm w5 n0 n0 (D.fail 0 0)) := hD5; have HT5 : Hid (TxO w5 w3.heap.size v4 [[97]]) := HT4.out.frD hf5; have HB5 : Hid (Below n0 w w5) := HB4.out.trans (hf5.below HS4.out); have HS5 : Hid (n0 ≤ w5.heap.size) := Nat.le_trans HS4.out hf5.size; clear hD5 hf5)
    | (go_at_call 16; refine (cl_up HD5.out HP4.out.cl).mono ?_; rintro r w6 ⟨rfl, hD6, hf6⟩; have HD6 : Hid (DkAt Xm w6 n0 n0 D) := hD6; have HT6 : Hid (TxO w6 w3.heap.size v4 [[97]]) := HT5.out.frD hf6; have HB6 : Hid (Below n0 w w6) := HB5.out.trans (hf6.below HS5.out); have HS6 : Hid (n0 ≤ w6.heap.size) := Nat.le_trans HS5.out hf6.size; clear hD6 hf6))
  obtain ⟨lo, lc, rfl⟩ := HT6.out.shape
  go_upto_region 13 with (first
    | (go_at_call 8; refine (alone_of (open_back (J := fun _ => False) HD6.out (fun _ h => h.elim) HS6.out HP4.out (by decide) ⟨rfl, rfl⟩)).mono ?_; rintro r w7 ⟨np7, rfl, hK7, hf7⟩; have HK7 : Hid (RK (fun _ => False) w7 n0 np7 n0 wA2 wA1.bi 4) := hK7; have HT7 : Hid (TxO w7 w3.heap.size (.slice lo 1 lc) [[97]]) := HT6.out.frD hf7; have HB7 : Hid (Below n0 w w7) := HB6.out.trans (hf7.below HS6.out); clear hK7 hf7)
    | (go_at_call 20; refine (drain_rk (j := 0) HK7.out HZ2.out (Nat.zero_le _) _).mono ?_; rintro r w8 ⟨v8, rfl, hT8, hK8, hb8, -, hx8⟩; obtain ⟨mo, mc, rfl⟩ : ∃ mo mc, v8 = .slice mo 1 mc := (by rw [txs_w2] at hT8; exact hT8.shape); have HT8 : Hid (TxO w8 w7.heap.size (.slice mo 1 mc) [[97]]) := (by rw [← txs_w2]; exact hT8); have HL8 : Hid (TxO w8 w3.heap.size (.slice lo 1 lc) [[97]]) := hx8 _ _ _ HT7.out; have HB8 : Hid (Below n0 w w8) := HB7.out.trans hb8; clear hT8 hK8 hb8 hx8))
  obtain ⟨lb, loff, rfl, cl⟩ : ∃ b off, lo = some ⟨b, off, none⟩ ∧ w8.cell? ⟨b, off, none⟩ = some (.string (str [97])) := by
    obtain ⟨ao', cap', e, -, h2⟩ := HL8.out.toS
    injection e with e1 e2 e3
    subst e1
    obtain ⟨b, off, e, hc⟩ := h2 (by decide)
    exact ⟨b, off, e, hc 0 (by decide)⟩
  obtain ⟨mb, moff, rfl, cm⟩ : ∃ b off, mo = some ⟨b, off, none⟩ ∧ w8.cell? ⟨b, off, none⟩ = some (.string (str [97])) := by
    obtain ⟨ao', cap', e, -, h2⟩ := HT8.out.toS
    injection e with e1 e2 e3
    subst e1
    obtain ⟨b, off, e, hc⟩ := h2 (by decide)
    exact ⟨b, off, e, hc 0 (by decide)⟩
  have hse : (str [97]).toList = [97] := str_toList _
  go_wp2
  go_ret
  have hn := HN0.out
  refine ⟨?_, by rw [hn]; exact HB8.out⟩
  rfl
end Go.Proofs.YtnhjflebaeokeaaGreat
end

section
/- RnodeKeeps' law: texts as one, and whether they begin with others. -/
namespace Go.Proofs.YtnhjflebaeokeaaGreat
open Go.RowKit
attribute [local go_sem] Oper.semAt_some
def joinB (L : List Bs) : Bs := L.flatMap (fun x => x ++ [10])
theorem joinB_snoc (L : List Bs) (j : Nat) (h : j < L.length) : joinB (L.take (j + 1)) = joinB (L.take j) ++ (L[j] ++ [10]) := by
  unfold joinB
  rw [List.take_succ_eq_append_getElem h, List.flatMap_append]
  simp
theorem joinB_take (L : List Bs) (j : Nat) : (joinB (L.take j)).length ≤ (joinB L).length := by
  have : joinB L = joinB (L.take j) ++ joinB (L.drop j) := by
    unfold joinB
    rw [← List.flatMap_append, List.take_append_drop]
  rw [this, List.length_append]
  omega
set_option maxRecDepth 100000 in
set_option maxHeartbeats 1000000 in
theorem joined_any {w : World} {v : Value} {L : List Bs} (hv : TxS w v L) (hl : L.length ≤ 100000) (hs : (joinB L).length ≤ 1000000000) :
    Calls Tryz.prog 13 #[v] w fun r w' => r = .returned (.string (str (joinB L))) ∧ w' = w := by
  have HV : Hid (TxS w v L) := hv
  obtain ⟨ao, cap, rfl, hcap, -⟩ := hv
  have HS : Hid ((joinB L).length ≤ 1000000000) := hs
  obtain ⟨n, hn⟩ : ∃ n, L.length = n := ⟨_, rfl⟩
  have HN : Hid (L.length = n) := hn
  rw [hn] at hl HV ⊢
  clear hs hcap hn
  go_enter Tryz.func13, Tryz.ntmps13
  go_wp2
  go_loopw [3, 4] (fun s i wr => ∃ j : Nat, j ≤ n ∧ i = .int .i64 j ∧ s = .string (str (joinB (L.take j))) ∧ Hid (wr = w)) (fun _ i _ => n - (intOf i).toNat)
  case atStart => exact ⟨0, Nat.zero_le _, rfl, rfl, rfl⟩
  case round =>
    obtain ⟨j, hj, rfl, rfl, HW⟩ := hrel
    by_cases hlt : j < n
    · have hlt' : j < L.length := by have := HN.out; omega
      obtain ⟨b, off, rfl, c0⟩ : ∃ b off, ao = some ⟨b, off, none⟩ ∧ wr.cell? ⟨b, off + j, none⟩ = some (.string (str L[j])) := by
        rw [HW.out]
        obtain ⟨ao', cap', e, -, h2⟩ := HV.out
        injection e with e1 e2 e3
        subst e1
        obtain ⟨b, off, e, hc⟩ := h2 (by omega)
        exact ⟨b, off, e, hc j hlt'⟩
      have HSn : Hid _ := joinB_snoc L j hlt'
      have k1 := joinB_take L (j + 1)
      rw [HSn.out, List.length_append, List.length_append] at k1
      have k2 := HS.out
      have g1 : (str (joinB (L.take j))).size ≤ 1000000000 := by rw [str_size]; omega
      have g2 : (str L[j]).size ≤ 1000000000 := by rw [str_size]; omega
      have hjI : (j : Int) < n := by omega
      have hj0 : (0 : Int) ≤ j := by omega
      have HJ : Hid (j + 1 ≤ n) := hlt
      generalize L[j] = x at c0 HSn g2
      clear k1 k2
      have HE : Hid (str (joinB (L.take j)) ++ (str x ++ { data := #[10] }) = str (joinB (L.take (j + 1)))) := by
        show _ = _
        rw [HSn.out, show ({ data := #[10] } : ByteArray) = str [10] from rfl, str_append, str_append]
      go_wp2
      go_roundw
      case rel => exact ⟨j + 1, HJ.out, by go_num, by rw [← HE.out], HW⟩
      case measure => have := HJ.out; simp [intOf]; omega
    · obtain rfl : j = n := by omega
      have htk : L.take j = L := by rw [List.take_of_length_le]; have := HN.out; omega
      rw [htk]
      have hjI : (j : Int) ≤ j := Int.le_refl _
      clear htk
      go_wp2
      go_ret
      exact ⟨rfl, HW.out⟩
set_option maxRecDepth 100000 in
set_option maxHeartbeats 1000000 in
/-- Texts begin with themselves. -/
theorem begins_same {w : World} {v u : Value} {L : List Bs} (hv : TxS w v L) (hu : TxS w u L) (hl : L.length ≤ 100000) :
    Calls Tryz.prog 21 #[v, u] w fun r w' => r = .returned (.bool true) ∧ ∃ q, w' = w.drewN q := by
  have HV : Hid (TxS w v L) := hv
  have HU : Hid (TxS w u L) := hu
  obtain ⟨ao, cap, rfl, hcap, -⟩ := hv
  obtain ⟨uo, ucap, rfl, hucap, -⟩ := hu
  obtain ⟨n, hn⟩ : ∃ n, L.length = n := ⟨_, rfl⟩
  have HN : Hid (L.length = n) := hn
  rw [hn] at hl HV HU ⊢
  clear hcap hucap hn
  go_enter Tryz.func21, Tryz.ntmps21
  go_wp2
  go_loopw [5] (fun i wr => ∃ j : Nat, j ≤ n ∧ i = .int .i64 j ∧ Hid (∃ q, wr = w.drewN q)) (fun i _ => n - (intOf i).toNat)
  case atStart => exact ⟨0, Nat.zero_le _, rfl, 0, rfl⟩
  case round =>
    obtain ⟨j, hj, rfl, HW⟩ := hrel
    by_cases hlt : j < n
    · have hlt' : j < L.length := by have := HN.out; omega
      obtain ⟨b, off, rfl, c0⟩ : ∃ b off, ao = some ⟨b, off, none⟩ ∧ wr.cell? ⟨b, off + j, none⟩ = some (.string (str L[j])) := by
        obtain ⟨q, hq⟩ := HW.out
        have hV := HV.out.new (below_dn w q)
        rw [← hq] at hV
        obtain ⟨ao', cap', e, -, h2⟩ := hV
        injection e with e1 e2 e3
        subst e1
        obtain ⟨b, off, e, hc⟩ := h2 (by omega)
        exact ⟨b, off, e, hc j hlt'⟩
      obtain ⟨d, off2, rfl, d0⟩ : ∃ b off, uo = some ⟨b, off, none⟩ ∧ wr.cell? ⟨b, off + j, none⟩ = some (.string (str L[j])) := by
        obtain ⟨q, hq⟩ := HW.out
        have hV := HU.out.new (below_dn w q)
        rw [← hq] at hV
        obtain ⟨ao', cap', e, -, h2⟩ := hV
        injection e with e1 e2 e3
        subst e1
        obtain ⟨b, off, e, hc⟩ := h2 (by omega)
        exact ⟨b, off, e, hc j hlt'⟩
      have hjI : (j : Int) < n := by omega
      have hj0 : (0 : Int) ≤ j := by omega
      have HJ : Hid (j + 1 ≤ n) := hlt
      generalize L[j] = x at c0 d0
      go_upto_region 6 with (fail)
      go_quiet (fail)
      go_wp2
      go_roundw
      case rel =>
        refine ⟨j + 1, HJ.out, by go_num, ?_⟩
        obtain ⟨q, hq⟩ := HW.out
        rw [hq]
        exact ⟨q + nq, by simp⟩
      case measure => have := HJ.out; simp [intOf]; omega
    · obtain rfl : j = n := by omega
      go_wp2
      go_ret
      exact ⟨rfl, HW.out⟩
end Go.Proofs.YtnhjflebaeokeaaGreat
end

section
/- The law's text. -/
namespace Go.Proofs.YtnhjflebaeokeaaGreat
open Go.RowKit
attribute [local go_sem] Oper.semAt_some
/-- A text that is not long, and not empty. -/
def txB (l : Bs) (i : Nat) : Bs := l.take 40 ++ [97 + UInt8.ofNat (i % 26)]
theorem str_take (l : Bs) (n : Nat) : (str l).extract 0 n = str (l.take n) := by
  apply ByteArray.ext
  apply Array.ext'
  simp [str]
set_option maxRecDepth 100000 in
theorem text_any (l : Bs) (i : Nat) (hi : i < 60) (w : World) (hl : l.length ≤ 9223372036854775807) : Calls Tryz.prog 18 #[.string (str l), .int .i64 i] w fun r w' => r = .returned (.string (str (txB l i))) ∧ Below w.heap.size w w' := by
  have hcv := conv_new w ((97 : Int) + (i : Int) % 26) (by omega) (by omega)
  have hs : (str l).size = l.length := rfl
  have htm : (i : Int).tmod 26 = (i : Int) % 26 := Int.tmod_eq_emod_of_nonneg (by omega)
  have hw1 : IntKind.u8.wrap ((97 : Int) + (i : Int) % 26) = (97 : Int) + (i : Int) % 26 := by rw [IntKind.wrap_u8']; omega
  have h1 : (str [97 + UInt8.ofNat (i % 26)]).size = 1 := rfl
  by_cases h : 40 < l.length
  · have hlt : (40 : Int) < l.length := by omega
    have hz : min 40 l.length + (str [97 + UInt8.ofNat (i % 26)]).size ≤ 9223372036854775807 := by rw [h1]; omega
    clear h1
    go_enter Tryz.func18, Tryz.ntmps18
    go_wp2
    go_ret
    refine ⟨?_, (Below.refl _ _).alloc (Nat.le_refl _) _⟩
    show Ending.returned (Value.string ((str l).extract 0 40 ++ str [97 + UInt8.ofNat (i % 26)])) = _
    rw [str_take, str_append]
    rfl
  · have hlt : ¬ (40 : Int) < l.length := by omega
    have hz : l.length + (str [97 + UInt8.ofNat (i % 26)]).size ≤ 9223372036854775807 := by rw [h1]; omega
    have HT : Hid (l.take 40 = l) := List.take_of_length_le (by omega)
    clear h1
    go_enter Tryz.func18, Tryz.ntmps18
    go_wp2
    go_ret
    refine ⟨?_, (Below.refl _ _).alloc (Nat.le_refl _) _⟩
    show Ending.returned (Value.string (str l ++ str [97 + UInt8.ofNat (i % 26)])) = _
    rw [str_append]
    unfold txB
    rw [HT.out]
end Go.Proofs.YtnhjflebaeokeaaGreat
end

section
/- The law's split: texts of one. -/
namespace Go.Proofs.YtnhjflebaeokeaaGreat
open Go.RowKit
attribute [local go_sem] Oper.semAt_some
/-- The texts that ended so far, and where the next one begins. -/
def spS (l : Bs) : Nat → List Bs × Nat
  | 0 => ([], 0)
  | k + 1 => if l[k]? = some 10 then ((spS l k).1 ++ [(l.take k).drop (spS l k).2], k + 1) else spS l k
def splitB (l : Bs) : List Bs := (spS l l.length).1
theorem spS_le (l : Bs) : ∀ k, (spS l k).2 ≤ k ∧ (spS l k).1.length ≤ k
  | 0 => ⟨Nat.le_refl _, Nat.le_refl _⟩
  | k + 1 => by
    have ih := spS_le l k
    unfold spS
    split
    · simp
      omega
    · omega
theorem spS_app (l m : Bs) : ∀ k, k ≤ l.length → spS (l ++ m) k = spS l k
  | 0, _ => rfl
  | k + 1, h => by
    have ih := spS_app l m k (by omega)
    unfold spS
    rw [ih, List.getElem?_append_left (by omega), List.take_append_of_le_length (by omega)]
theorem spS_more (l x : Bs) (hx : (10 : UInt8) ∉ x) (m : Bs) : ∀ j, j ≤ x.length → spS (l ++ x ++ m) (l.length + j) = spS (l ++ x ++ m) l.length
  | 0, _ => rfl
  | j + 1, h => by
    have ih := spS_more l x hx m j (by omega)
    rw [← ih, show l.length + (j + 1) = (l.length + j) + 1 by omega]
    conv => lhs; unfold spS
    rw [if_neg]
    rw [List.append_assoc, List.getElem?_append_right (by omega), show l.length + j - l.length = j by omega, List.getElem?_append_left (by omega), List.getElem?_eq_getElem (by omega)]
    intro e
    exact hx (by rw [← Option.some.inj e]; exact List.getElem_mem _)
theorem spS_snoc (G : List Bs) (x : Bs) (hx : (10 : UInt8) ∉ x) (ih : spS (joinB G) (joinB G).length = (G, (joinB G).length)) : spS (joinB (G ++ [x])) (joinB (G ++ [x])).length = (G ++ [x], (joinB (G ++ [x])).length) := by
  have e : joinB (G ++ [x]) = joinB G ++ x ++ [10] := by unfold joinB; simp
  rw [e]
  have e1 : (joinB G ++ x ++ [10]).length = (joinB G).length + x.length + 1 := by simp; omega
  rw [e1]
  have em := spS_more (joinB G) x hx [10] x.length (Nat.le_refl _)
  have ea : spS (joinB G ++ x ++ [10]) (joinB G).length = (G, (joinB G).length) := by rw [List.append_assoc, spS_app (joinB G) (x ++ [10]) _ (Nat.le_refl _), ih]
  unfold spS
  rw [if_pos (by rw [List.getElem?_append_right (by simp)]; simp), em, ea]
  simp only
  congr 2
  rw [List.take_left' (by simp), List.drop_left]
theorem spS_join : ∀ (n : Nat) (G : List Bs), G.length = n → (∀ x ∈ G, (10 : UInt8) ∉ x) → spS (joinB G) (joinB G).length = (G, (joinB G).length)
  | 0, G, h, _ => by
    rw [List.length_eq_zero_iff.1 h]
    rfl
  | n + 1, G, h, hG => by
    have hne : G ≠ [] := fun e => by rw [e] at h; cases h
    have e := List.dropLast_concat_getLast hne
    have ih := spS_join n G.dropLast (by rw [List.length_dropLast, h]; rfl) (fun x hx => hG x (List.dropLast_subset _ hx))
    have := spS_snoc G.dropLast (G.getLast hne) (hG _ (List.getLast_mem hne)) ih
    rw [e] at this
    exact this
theorem split_join (G : List Bs) (h : ∀ x ∈ G, (10 : UInt8) ∉ x) : splitB (joinB G) = G := by
  unfold splitB
  rw [spS_join _ G rfl h]
theorem str_ext (l : Bs) (a b : Nat) : (str l).extract a b = str ((l.take b).drop a) := by
  apply ByteArray.ext
  apply Array.ext'
  simp [str, List.drop_take]
set_option maxRecDepth 100000 in
set_option maxHeartbeats 2000000 in
theorem split_any (l : Bs) (w : World) (hl : l.length ≤ 1000000) : Calls Tryz.prog 17 #[.string (str l)] w fun r w' => ∃ v, r = .returned v ∧ TxO w' w.heap.size v (splitB l) ∧ Below w.heap.size w w' := by
  have hs : (str l).size = l.length := rfl
  go_enter Tryz.func17, Tryz.ntmps17
  go_upto_region 2 with (fail)
  generalize hW : World.alloc _ _ = W
  have bW : Below w.heap.size w W := by rw [← hW]; exact vone_new _ _
  have hg : W.heap[w.heap.size]? = some (.cells #[] 9 (0, 0)) := by rw [← hW]; exact heap_alloc_new _ _
  have HT0 : Hid (TxO W w.heap.size (.slice (some ⟨w.heap.size, 0, none⟩) 0 0) []) := .inr ⟨w.heap.size, 0, 0, rfl, Nat.le_refl _, ⟨#[], hg, Nat.le_refl _⟩, Nat.le_refl _, by unfold maxLen; omega, fun j h => absurd h (by simp)⟩
  have HB0 : Hid (Below w.heap.size w W) := bW
  clear hW bW hg
  obtain ⟨n0, hn0⟩ : ∃ n0, w.heap.size = n0 := ⟨_, rfl⟩
  rw [hn0] at HT0 ⊢
  have HN : Hid (w.heap.size = n0) := hn0
  clear hn0
  go_wp2
  go_loopw [3, 4, 5] (fun rv f i wr => ∃ (k : Nat) (ao : Option Addr) (c : Nat), k ≤ l.length ∧ rv = .slice ao (spS l k).1.length c ∧ f = .int .i64 (spS l k).2 ∧ i = .int .i64 k ∧ Hid (TxO wr n0 (.slice ao (spS l k).1.length c) (spS l k).1) ∧ Hid (Below w.heap.size w wr)) (fun _ _ i _ => l.length - (intOf i).toNat)
  case atStart => exact ⟨0, _, 0, Nat.zero_le _, rfl, rfl, rfl, HT0, HB0⟩
  case round =>
    clear HT0 HB0
    obtain ⟨k, ao, c, hk, rfl, rfl, rfl, HT, HB⟩ := hrel
    by_cases hlt : k < l.length
    · have hkl : (k : Int) < l.length := by omega
      have hle := spS_le l k
      have HS : Hid (spS l (k + 1) = if l[k]? = some 10 then ((spS l k).1 ++ [(l.take k).drop (spS l k).2], k + 1) else spS l k) := rfl
      have hby : (str l)[k]'(by rw [hs]; exact hlt) = l[k] := rfl
      have HG : Hid (l[k]? = some l[k]) := List.getElem?_eq_getElem hlt
      generalize l[k] = b at hby HG
      generalize spS l k = st at HS HT hle ⊢
      obtain ⟨R0, f0⟩ := st
      simp only at HS HT hle ⊢
      obtain ⟨hf0, hR0⟩ := hle
      have hf0i : (f0 : Int) ≤ k := by omega
      by_cases hb : b = 10
      · have HS2 : Hid (spS l (k + 1) = (R0 ++ [(l.take k).drop f0], k + 1)) := by show _ = _; rw [HS.out, HG.out, hb, if_pos rfl]
        have hcond : (((str l)[k]'(by rw [hs]; exact hlt)).toNat : Int) == 10 := by rw [hby, hb]; rfl
        have hcond' : ((((str l)[k]'(by rw [hs]; exact hlt)).toNat : Int) == 10) = true := hcond
        obtain ⟨x, hx⟩ : ∃ x, (l.take k).drop f0 = x := ⟨_, rfl⟩
        have hex : (str l).extract f0 k = str x := by rw [← hx]; exact str_ext l f0 k
        rw [hx] at HS2
        have HSrc : Hid (TxS (wr.alloc (.cells #[.string (str x)] 9)) (.slice (some ⟨wr.heap.size, 0, none⟩) 1 1) [x]) := src1 wr x
        have HTa : Hid (TxO (wr.alloc (.cells #[.string (str x)] 9)) n0 (.slice ao R0.length c) R0) := HT.out.new (one_newD wr _)
        have HMM : Hid (R0.length + [x].length ≤ 2000000000) := by show _ ≤ _; simp; omega
        have HSz : Hid (n0 ≤ (wr.alloc (.cells #[.string (str x)] 9)).heap.size) := by show _ ≤ _; have := HB.out.size; have := HN.out; simp; omega
        clear hcond hx hby hb
        go_wp2_with (at_builtin; refine wpl_appT rfl rfl rfl rfl HTa.out HSrc.out HMM.out HSz.out ?_; intro v2 w2 o2 f2 e2; have HT2 : Hid (TxO w2 n0 v2 (R0 ++ [x])) := o2; have HB2 : Hid (Below w.heap.size w w2) := (HB.out.trans ((one_newD wr _).mono HB.out.size)).trans (by rw [HN.out]; exact HTa.out.below HSz.out f2); obtain ⟨a2, c2, rfl⟩ := o2.shape; clear o2 f2 e2)
        go_roundw
        case rel => exact ⟨k + 1, a2, c2, by omega, by rw [HS2.out]; simp, by rw [HS2.out]; first | done | rfl | go_num, by go_num, by rw [HS2.out]; exact HT2, HB2⟩
        case measure => simp [intOf]; omega
      · have HS2 : Hid (spS l (k + 1) = (R0, f0)) := by show _ = _; rw [HS.out, HG.out, if_neg (fun e => hb (Option.some.inj e))]
        have hcond' : ((((str l)[k]'(by rw [hs]; exact hlt)).toNat : Int) == 10) = false := by
          rw [hby]
          simp only [beq_eq_false_iff_ne, ne_eq]
          intro e
          exact hb (UInt8.toNat_inj.1 (by have e2 : b.toNat = 10 := by omega
                                          rw [e2]; rfl))
        clear hby hb
        go_wp2
        go_roundw
        case rel => exact ⟨k + 1, ao, c, by omega, by rw [HS2.out], by rw [HS2.out], by go_num, by rw [HS2.out]; exact HT, HB⟩
        case measure => simp [intOf]; omega
    · have hkl : ¬ (k : Int) < l.length := by omega
      have HE : Hid ((spS l k).1 = splitB l) := by
        show _ = _
        rw [show k = l.length by omega]
        rfl
      go_wp2
      go_ret
      refine ⟨_, rfl, ?_, HB.out⟩
      have hn := HN.out
      rw [hn]
      have := HT.out
      rw [HE.out] at this ⊢
      exact this
end Go.Proofs.YtnhjflebaeokeaaGreat
end

section
/- What RnodeKeeps holds: on plain data; a node beside rows of texts. -/
namespace Go.Proofs.YtnhjflebaeokeaaGreat
open Go.RowKit
attribute [local go_sem] Oper.semAt_some
/-- What was told, by the master's snapshot and log. -/
structure KI (A : Nd) (G : List Bs) (i : Nat) : Prop where
  eq : G = splitB A.base.data.toList ++ txs A.log
  no : ∀ x ∈ G, (10 : UInt8) ∉ x
  sm : ∀ x ∈ G, x.length ≤ 41
  n : G.length ≤ i
  ln : A.log.length ≤ i
  lg : ∀ e ∈ A.log, e.s.size ≤ 41
  bs : A.base.size ≤ 42 * i
  bi : A.bi + A.log.length ≤ i
theorem KI.up {A : Nd} {G : List Bs} {i : Nat} (h : KI A G i) : KI A G (i + 1) := ⟨h.eq, h.no, h.sm, by have := h.n; omega, by have := h.ln; omega, h.lg, by have := h.bs; omega, by have := h.bi; omega⟩
/-- The same snapshot and log. -/
theorem KI.as {A C : Nd} {G : List Bs} {i : Nat} (h : KI A G i) (h1 : C.base = A.base) (h2 : C.log = A.log) (h3 : C.bi = A.bi) : KI C G i := ⟨by rw [h1, h2]; exact h.eq, h.no, h.sm, h.n, by rw [h2]; exact h.ln, by rw [h2]; exact h.lg, by rw [h1]; exact h.bs, by rw [h2, h3]; exact h.bi⟩
theorem KI.prop {A : Nd} {G : List Bs} {i : Nat} (h : KI A G i) {x : Bs} (hx : (10 : UInt8) ∉ x) (hl : x.length ≤ 41) (h0 : 0 < x.length) : KI (A.proposed (str x)) (G ++ [x]) (i + 1) := by
  have e1 : (A.proposed (str x)).log = A.log ++ [⟨A.vw, str x⟩] := rfl
  have e2 : (A.proposed (str x)).base = A.base := rfl
  have e3 : (A.proposed (str x)).bi = A.bi := rfl
  refine ⟨?_, fun y hy => ?_, fun y hy => ?_, ?_, ?_, fun e he => ?_, ?_, ?_⟩
  · rw [e1, e2, txs_snoc, ← List.append_assoc, ← h.eq]
    have : x.isEmpty = false := by cases x with
      | nil => simp at h0
      | cons a r => rfl
    simp [str, this]
  · rcases List.mem_append.1 hy with hy | hy
    · exact h.no y hy
    · rw [List.mem_singleton.1 hy]; exact hx
  · rcases List.mem_append.1 hy with hy | hy
    · exact h.sm y hy
    · rw [List.mem_singleton.1 hy]; exact hl
  · rw [List.length_append]; have := h.n; simp; omega
  · rw [e1, List.length_append]; have := h.ln; simp; omega
  · rw [e1] at he
    rcases List.mem_append.1 he with he | he
    · exact h.lg e he
    · rw [List.mem_singleton.1 he]; exact hl
  · rw [e2]; have := h.bs; omega
  · rw [e1, e3, List.length_append]; have := h.bi; simp; omega
theorem joinB_len : ∀ (G : List Bs), (∀ x ∈ G, x.length ≤ 41) → (joinB G).length ≤ 42 * G.length
  | [], _ => by simp [joinB]
  | x :: G, h => by
    have h1 := h x (by simp)
    have h2 := joinB_len G (fun y hy => h y (List.mem_cons_of_mem _ hy))
    have e : joinB (x :: G) = x ++ [10] ++ joinB G := by unfold joinB; simp
    rw [e, List.length_append, List.length_append, List.length_cons]
    simp
    omega
theorem KI.pack {A : Nd} {G : List Bs} {i : Nat} (h : KI A G i) {e : Ent} : KI (A.packed A.log.length e (str (joinB G))) G (i + 1) := by
  have e1 : (A.packed A.log.length e (str (joinB G))).log = [] := by show A.log.drop A.log.length = []; simp
  have hj := joinB_len G h.sm
  have hn := h.n
  refine ⟨?_, h.no, h.sm, by omega, by rw [e1]; simp, (by rw [e1]; intro e he; cases he), ?_, ?_⟩
  · rw [e1]
    show G = splitB (joinB G) ++ txs []
    rw [split_join G h.no]
    simp [txs]
  · show (joinB G).length ≤ _
    omega
  · rw [e1]
    show A.bi + (A.log.length : Int) + (([] : List Ent).length : Int) ≤ _
    have := h.bi
    simp
    omega
theorem entsN_le : ∀ (L : List Ent), (∀ e ∈ L, e.s.size ≤ 41) → entsN L ≤ 71 * L.length
  | [], _ => by simp [entsN]
  | x :: L, h => by
    have h1 := h x (by simp)
    have h2 := entsN_le L (fun y hy => h y (List.mem_cons_of_mem _ hy))
    unfold entsN at h2 ⊢
    rw [List.map_cons, List.sum_cons, List.length_cons]
    omega
theorem Alone.packed {A : Nd} (h : Alone A) {j : Nat} {e : Ent} {s : ByteArray} (hj : j ≤ A.log.length) (hb : A.bi + j ≤ 2147483647) : Alone (A.packed j e s) := by
  have ok := h.ok
  have hl : (A.packed j e s).last = A.last := by
    show A.bi + (j : Int) + ((A.log.drop j).length : Int) = A.bi + (A.log.length : Int)
    rw [List.length_drop]
    omega
  refine ⟨⟨ok.all0, ok.all1, ok.me0, ok.me1, ok.nm0, ok.nmv, ok.vw1, ?_, hb, ?_, ?_, ?_, ok.tk0⟩, h.all, h.me, h.vw, h.nm, ?_, h.up⟩
  · show 0 ≤ A.bi + (j : Int)
    have := ok.bi0
    omega
  · show (A.log.drop j).length ≤ 1000
    rw [List.length_drop]
    have := ok.len
    omega
  · show A.bi + (j : Int) ≤ A.cm
    have := h.cm
    unfold Nd.last at this
    omega
  · rw [hl]; exact ok.cm1
  · rw [hl]; exact h.cm
/-- A text without ends of rows. -/
def clB (l : Bs) : Bs := l.map (fun b => if b = 10 then 45 else b)
theorem clB_no (l : Bs) : (10 : UInt8) ∉ clB l := fun h => by
  obtain ⟨b, _, e⟩ := List.mem_map.1 h
  split at e
  · cases e
  · rename_i hb
    exact hb e
theorem clB_len (l : Bs) : (clB l).length = l.length := List.length_map _
theorem clB_step (l : Bs) (k : Nat) (h : k < l.length) : clB (l.take (k + 1)) ++ l.drop (k + 1) = clB (l.take k) ++ (if l[k] = 10 then 45 else l[k]) :: l.drop (k + 1) := by
  unfold clB
  rw [List.take_succ_eq_append_getElem h, List.map_append, List.append_assoc]
  rfl
section
variable {J K : Nat → Prop} {w w' : World} {B np dp k : Nat} {A : Nd} {at_ : Int}
theorem RK.alone (h : RK J w B np dp A at_ k) : Alone A := by
  obtain ⟨Xm, S, lq, vp, kv, rv, D, R, hR, hP, hA, _⟩ := h
  exact hA
theorem RK.ok (h : RK J w B np dp A at_ k) : (hdOf A).ok := by
  obtain ⟨Xm, S, lq, vp, kv, rv, D, R, hR, hP, _⟩ := h
  exact hP.ok
theorem RK.base (h : RK J w B np dp A at_ k) : B ≤ w.heap.size := by
  obtain ⟨Xm, S, lq, vp, kv, rv, D, R, hR, _⟩ := h
  exact hR.hB
/-- Other rows of texts stand beside a node. -/
theorem RK.rows (h : RK J w B np dp A at_ k) (hb : Below w.heap.size w w') (hJ : ∀ i, K i → ∃ c f, w'.heap[i]? = some (.cells c 9 f)) (hs : ∀ i, K i → J i ∨ w.heap.size ≤ i) : RK K w' B np dp A at_ k := by
  obtain ⟨Xm, S, lq, vp, kv, rv, D, R, hR, hP, hA, ht, hO⟩ := h
  refine ⟨Xm, S, lq, vp, kv, rv, D, R, hR.new hb, hP, hA, ht, fun i hi => ?_⟩
  obtain ⟨c, f, hm⟩ := hJ i hi
  rcases hs i hi with e | e
  · exact ⟨(hO i e).1, (hO i e).2.1, c, f, hm⟩
  · refine ⟨fun s => by have := hR.bd i s; omega, fun e2 => ?_, c, f, hm⟩
    obtain ⟨_, c2, f2, hm2⟩ := hR.log.row.tag e2
    have := vlt_blk hm2
    omega
/-- A row of texts beside a node was written. -/
theorem RK.wrote {T : Nat} {v : Value} {L : List Bs} (h : RK J w B np dp A at_ k) (hv : TxO w T v L) (hin : ∀ i, v.ownBlock = some i → J i) (f : Fr w w' (fun k => v.ownBlock = some k)) (hJ : ∀ i, K i → ∃ c f, w'.heap[i]? = some (.cells c 9 f)) (hs : ∀ i, K i → J i ∨ w.heap.size ≤ i) : RK K w' B np dp A at_ k := by
  obtain ⟨Xm, S, lq, vp, kv, rv, D, R, hR, hP, hA, ht, hO⟩ := h
  refine ⟨Xm, S, lq, vp, kv, rv, D, R, hR.text hv f (fun i hi => ⟨(hO i (hin i hi)).2.1, (hO i (hin i hi)).1⟩), hP, hA, ht, fun i hi => ?_⟩
  obtain ⟨c, f', hm⟩ := hJ i hi
  rcases hs i hi with e | e
  · exact ⟨(hO i e).1, (hO i e).2.1, c, f', hm⟩
  · refine ⟨fun s => by have := hR.bd i s; omega, fun e2 => ?_, c, f', hm⟩
    obtain ⟨_, c2, f2, hm2⟩ := hR.log.row.tag e2
    have := vlt_blk hm2
    omega
theorem TxO.jk {T : Nat} {x : Value} {L : List Bs} (h : TxO w T x L) (hin : ∀ i, x.ownBlock = some i → J i) (hk : JK J w w') : TxO w' T x L := by
  rcases h with h | ⟨g, off, cap, rfl, h1, ⟨cur, h2, h3⟩, h4, h5, h6⟩
  · exact .inl h
  · have e := hk g (hin g rfl)
    exact .inr ⟨g, off, cap, rfl, h1, ⟨cur, e.trans h2, h3⟩, h4, h5, fun j hj => (World.cell?_of_block (a := ⟨g, off + j, none⟩) e).trans (h6 j hj)⟩
theorem dead_rk (h : RK J w B np dp A at_ k) : Calls Tryz.prog 22 #[.pointer (some ⟨np, 0, none⟩)] w fun r w' => r = .returned (.bool false) ∧ Below B w w' := by
  obtain ⟨Xm, S, lq, vp, kv, rv, D, R, hR, hP, _⟩ := h
  exact (dead_ra hR hP.live).mono fun r w' ⟨h1, _, hf⟩ => ⟨h1, below_np hR.hB hR.nB hf⟩
end
/-- Two rows of texts. -/
def J2 (t g : Value) (i : Nat) : Prop := t.ownBlock = some i ∨ g.ownBlock = some i
end Go.Proofs.YtnhjflebaeokeaaGreat
end
