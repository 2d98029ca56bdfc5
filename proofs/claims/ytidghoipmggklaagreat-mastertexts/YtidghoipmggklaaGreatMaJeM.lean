import Derived.Test.YtidghoipmggklaaGreatKcRefM
import Derived.Test.YtidghoipmggklaaGreatGrWalk2M
import Derived.Test.YtidghoipmggklaaGreatJbR1M
import Derived.Test.YtidghoipmggklaaGreatWriterWM
import Derived.Test.YtidghoipmggklaaGreatProg
import Derived.Laws.BitsAllLaws
import Derived.WalkKit
import Derived.WalkSpells
import Derived.WalkLawsBesides
import Derived.Deep.Cut
import Derived.Deep.DeepCutAuto
import Derived.Deep.CutBlock
import Derived.Test.YtidghoipmggklaaGreatMaRxM
import Derived.Great.BuildSlice
import Derived.Test.YtidghoipmggklaaGreatMaAwM
section
/- What the document's Check returns. -/
namespace Go.Proofs.YtidghoipmggklaaGreat
open Go.RowKit
/-- A vertex's edges rise, and their ends are there. -/
def GoodE (G : List Vx) (L : List Ed) (n : Nat) : Prop := (∀ j (h : j < L.length), j < n → (ids G).contains L[j].t = true) ∧ ∀ j (h : j + 1 < L.length), j + 1 < n → L[j].t < L[j + 1].t
theorem good_all {G : List Vx} (H : ∀ j (h : j < G.length), GoodE G G[j].es G[j].es.length) : risesE G = true ∧ thereE G = true := by
  constructor
  · refine risesE_all (fun j hj => (riseB_iff _).2 (fun i hi => ?_))
    have := (H j hj).2 i (by rw [ends_len] at hi; exact hi) (by rw [ends_len] at hi; exact hi)
    rw [ends_get _ _ (by rw [ends_len] at hi; omega), ends_get _ _ (by rw [ends_len] at hi; exact hi)]
    exact this
  · unfold thereE
    rw [List.all_eq_true]
    intro v hv
    obtain ⟨j, hj, rfl⟩ := List.getElem_of_mem hv
    rw [List.all_eq_true]
    intro e he
    obtain ⟨i, hi, rfl⟩ := List.getElem_of_mem he
    exact (H j hj).1 i hi hi
theorem bad_there {G : List Vx} {j i : Nat} (hj : j < G.length) (hi : i < G[j].es.length) (h : (ids G).contains G[j].es[i].t = false) : thereE G = false := by
  unfold thereE
  rw [Bool.eq_false_iff]
  intro ha
  rw [List.all_eq_true] at ha
  have h1 := ha _ (List.getElem_mem hj)
  rw [List.all_eq_true] at h1
  have h2 := h1 _ (List.getElem_mem hi)
  rw [h] at h2
  cases h2
theorem bad_rise {G : List Vx} {j i : Nat} (hj : j < G.length) (hi : i + 1 < G[j].es.length) (h : ¬ G[j].es[i].t < G[j].es[i + 1].t) : risesE G = false := by
  refine risesE_at hj (rise_false (j := i) (by rw [ends_len]; exact hi) ?_)
  rw [ends_get _ _ (by omega), ends_get _ _ hi]
  exact h

set_option maxRecDepth 100000 in
set_option maxHeartbeats 2000000 in
theorem refcheck_any {w : World} {P : Nat → Prop} {ao : Option Addr} {G : List Vx} (cap : Nat) (h : VxAt w P ao G) (hl : G.length ≤ 9223372036854775807) (hok : ∀ v ∈ G, v.ok) :
    Calls Tryz.prog 44 #[.slice ao G.length cap] w fun r w' => r = .returned (.int .i64 (chk G)) ∧ Below w.heap.size w w' := by
  by_cases hlen : 256 < G.length
  · have HC : Hid (chk G = 30) := if_pos (Or.inl hlen)
    go_enter Tryz.func44, Tryz.ntmps44
    go_wp2
    go_ret
    exact ⟨by rw [HC.out]; rfl, Below.refl _ _⟩
  · have HV : Hid (VxAt w P ao G) := h
    have HO : Hid (∀ v ∈ G, v.ok) := hok
    clear h hok
    go_enter Tryz.func44, Tryz.ntmps44
    go_wp2
    go_loopw [3] (fun i wr => ∃ (k : Nat), 1 ≤ k ∧ k ≤ max G.length 1 ∧ i = .int .i64 k ∧ Hid (∀ j (h : j + 1 < (ids G).length), j + 1 < k → (ids G)[j] < (ids G)[j + 1]) ∧ Below w.heap.size w wr) (fun i _ => G.length - (intOf i).toNat)
    case atStart => exact ⟨1, Nat.le_refl _, by omega, rfl, fun j _ hj => absurd hj (by omega), Below.refl _ _⟩
    case round =>
      obtain ⟨k, hk1, hk, rfl, HR, hb⟩ := hrel
      by_cases hlt : k < G.length
      · obtain ⟨b, off, rfl, hP, hc⟩ := HV.out (by omega)
        obtain ⟨m, HK⟩ : ∃ m, Hid (k = m + 1) := ⟨k - 1, (by omega : k = k - 1 + 1)⟩
        have hmk : k = m + 1 := HK.out
        have hm0 : m < G.length := by omega
        obtain ⟨eo, ec, c0, _, _, _⟩ := hc m hm0
        obtain ⟨fo, fc, f0, _, _, _⟩ := hc k hlt
        have hbb := lt_cell c0
        have d0 := (hb.cell (p := ⟨b, off + m * 3, none⟩) hbb).trans c0
        have g0 := (hb.cell (p := ⟨b, off + k * 3, none⟩) hbb).trans f0
        have HM : Hid ((ids G)[m]'(by rw [ids_len]; omega) = G[m].id) := ids_get G m hm0
        have HN : Hid ((ids G)[k]'(by rw [ids_len]; omega) = G[k].id) := ids_get G k hlt
        have hm1 : IntKind.i64.wrap ((k : Int) - 1) = m := by rw [IntKind.wrap_i64]; omega
        have hm2 : wrap64 ((k : Int) - 1) = m := by unfold wrap64; omega
        clear c0 f0 hc hmk
        generalize G[m] = y at d0 HM
        generalize G[k] = z at g0 HN
        go_wp2
        go_quiet (fail)
        by_cases hr : z.id ≤ y.id
        · have HC : Hid (chk G = 30) := if_pos (Or.inr (rise_at HK.out (by rw [ids_len]; exact hlt) HM.out HN.out hr))
          go_wp2
          go_ret
          exact ⟨by rw [HC.out]; rfl, bel_drewN hb _⟩
        · go_wp2
          go_roundw
          case rel => exact ⟨k + 1, by omega, by omega, by go_num, rise_step HK.out (by rw [ids_len]; exact hlt) HM.out HN.out (by omega) HR.out, bel_drewN hb _⟩
          case measure => simp [intOf]; omega
      · have HRi : Hid (Rise (ids G)) := fun j hj => HR.out j hj (by rw [ids_len] at hj; omega)
        have HRb : Hid (riseB (ids G) = true) := (riseB_iff _).2 HRi.out
        have HC : Hid (chk G = if 2048 < sumE G ∨ risesE G = false ∨ thereE G = false then 31 else 0) := if_neg (by rw [HRb.out]; simp; omega)
        have HVr : Hid (VxAt wr P ao G) := HV.out.new hb
        have hE := refedges_any cap HVr.out hl
        by_cases hs : 2048 < sumE G
        · go_wp2_with (go_at_call 105; refine hE.mono ?_; rintro r w1 ⟨rfl, hb1⟩)
          go_ret
          exact ⟨by rw [HC.out, if_pos (Or.inl hs)]; rfl, hb.trans (hb1.mono hb.size)⟩
        · go_wp2_with (go_at_call 105; refine hE.mono ?_; rintro r w1 ⟨rfl, hb1⟩)
          have hbA : Below w.heap.size w w1 := hb.trans (hb1.mono hb.size)
          have HVA : Hid (VxAt w1 P ao G) := HVr.out.new hb1
          clear hE hb1
          go_loopw [4, 5, 6, 7, 8] (fun i _ _ _ _ wx => ∃ (j : Nat), j ≤ G.length ∧ i = .int .i64 j ∧ Hid (∀ q (h : q < G.length), q < j → GoodE G G[q].es G[q].es.length) ∧ Below w.heap.size w wx) (fun i _ _ _ _ _ => G.length - (intOf i).toNat)
          case atStart => exact ⟨0, Nat.zero_le _, rfl, fun q _ hq => absurd hq (by omega), hbA⟩
          case round =>
            obtain ⟨j, hj, rfl, HQ, hbx⟩ := hrel
            by_cases hjl : j < G.length
            · obtain ⟨b, off, rfl, hP, hc⟩ := HV.out (by omega)
              obtain ⟨eo, ec, e0, e1, e2, e3⟩ := hc j hjl
              have hbb := lt_cell e0
              have d2 := (hbx.cell (p := ⟨b, off + j * 3 + 2, none⟩) hbb).trans e2
              have HE : Hid (EdAt w P eo G[j].es) := e3
              have hel : G[j].es.length ≤ 9223372036854775807 := Nat.le_trans (HO.out _ (List.getElem_mem hjl)).len (by decide)
              have HB1 : Hid (∀ y, G[j] = y → ∀ i (h : i < y.es.length), (ids G).contains y.es[i].t = false → thereE G = false) := fun y e i hi hcn => by subst e; exact bad_there hjl hi hcn
              have HB2 : Hid (∀ y, G[j] = y → ∀ i (h : i + 1 < y.es.length), ¬ y.es[i].t < y.es[i + 1].t → risesE G = false) := fun y e i hi hcn => by subst e; exact bad_rise hjl hi hcn
              have HB3 : Hid (∀ y, G[j] = y → GoodE G y.es y.es.length → ∀ q (h : q < G.length), q < j + 1 → GoodE G G[q].es G[q].es.length) := fun y e hg q hq hqj => by
                by_cases eq : q = j
                · subst eq; rw [e]; exact hg
                · exact HQ.out q hq (by omega)
              obtain ⟨y, hy⟩ : ∃ y, G[j] = y := ⟨_, rfl⟩
              have HY : Hid (G[j] = y) := hy
              rw [hy] at d2 HE hel
              clear hy e0 e1 e2 e3 hc
              go_wp2
              go_loopw [6, 7, 8] (fun i _ _ wx => ∃ (k : Nat), k ≤ y.es.length ∧ i = .int .i64 k ∧ Hid (GoodE G y.es k) ∧ Below w.heap.size w wx) (fun i _ _ _ => y.es.length - (intOf i).toNat)
              case atStart => exact ⟨0, Nat.zero_le _, rfl, ⟨fun q _ hq => absurd hq (by omega), fun q _ hq => absurd hq (by omega)⟩, hbx⟩
              case round =>
                obtain ⟨k, hk, rfl, HD, hby⟩ := hrel
                by_cases hkl : k < y.es.length
                · obtain ⟨eb, eoff, rfl, hPe, hce⟩ := HE.out (by omega)
                  have f0 := (hby.cell (p := ⟨eb, eoff + k * 2, none⟩) (lt_cell (hce k hkl).1)).trans (hce k hkl).1
                  have hF := reffind_any cap y.es[k].t (HV.out.new hby) hl
                  have HP1 : Hid (foundB (ids G) y.es[k].t = (ids G).contains y.es[k].t) := foundB_iff HRi.out _
                  have HN : Hid (∀ z, y.es[k] = z → (ids G).contains z.t = false → thereE G = false) := fun z e hcn => HB1.out y HY.out k hkl (by rw [e]; exact hcn)
                  cases hfb : foundB (ids G) y.es[k].t with
                  | false =>
                    rw [hfb] at hF HP1
                    have HT : Hid (thereE G = false) := HB1.out y HY.out k hkl HP1.out.symm
                    clear hfb hce
                    generalize y.es[k] = z at f0 hF
                    go_wp2_with (go_at_call 106; refine hF.mono ?_; rintro r w2 ⟨rfl, hb2⟩)
                    go_quiet (fail)
                    go_wp2
                    go_ret
                    exact ⟨by rw [HC.out, if_pos (Or.inr (Or.inr HT.out))]; rfl, bel_drewN (hby.trans (hb2.mono hby.size)) _⟩
                  | true =>
                    rw [hfb] at hF HP1
                    by_cases hk0 : k = 0
                    · have HG : Hid (GoodE G y.es (k + 1)) := ⟨fun q hq hqk => by
                        obtain rfl : q = k := by omega
                        exact HP1.out.symm, fun q _ hq => absurd hq (by omega)⟩
                      have hd : decide (0 < k) = false := by rw [decide_eq_false_iff_not]; omega
                      clear hfb hce hk0
                      generalize y.es[k] = z at f0 hF
                      go_wp2_with (go_at_call 106; refine hF.mono ?_; rintro r w2 ⟨rfl, hb2⟩)
                      go_quiet (fail)
                      go_wp2
                      go_roundw
                      case rel => exact ⟨k + 1, by omega, by go_num, HG.out, bel_drewN (hby.trans (hb2.mono hby.size)) _⟩
                      case measure => simp [intOf]; omega
                    · obtain ⟨m, HK⟩ : ∃ m, Hid (k = m + 1) := ⟨k - 1, (by omega : k = k - 1 + 1)⟩
                      have hmk : k = m + 1 := HK.out
                      have hm0 : m < y.es.length := by omega
                      have g0 := (hby.cell (p := ⟨eb, eoff + m * 2, none⟩) (lt_cell (hce m hm0).1)).trans (hce m hm0).1
                      have hm1 : IntKind.i64.wrap ((k : Int) - 1) = m := by rw [IntKind.wrap_i64]; omega
                      have hm2 : wrap64 ((k : Int) - 1) = m := by unfold wrap64; omega
                      have hpos : decide (0 < k) = true := by rw [decide_eq_true_iff]; omega
                      have hebw : eb < w.heap.size := lt_cell (hce k hkl).1
                      have HG : Hid (∀ u z, y.es[m] = u → y.es[k] = z → u.t < z.t → GoodE G y.es (k + 1)) := fun u z hu hz hlt2 => ⟨fun q hq hqk => by
                        by_cases e : q = k
                        · subst e; exact HP1.out.symm
                        · exact HD.out.1 q hq (by omega), fun q hq hqk => by
                        by_cases e : q = m
                        · subst e; subst hmk; rw [hu, hz]; exact hlt2
                        · exact HD.out.2 q hq (by omega)⟩
                      have HX : Hid (∀ u z, y.es[m] = u → y.es[k] = z → ¬ u.t < z.t → risesE G = false) := fun u z hu hz hn => HB2.out y HY.out m (by omega) (by subst hmk; rw [hu, hz]; omega)
                      obtain ⟨u, hu⟩ : ∃ u, y.es[m] = u := ⟨_, rfl⟩
                      obtain ⟨z, hz⟩ : ∃ z, y.es[k] = z := ⟨_, rfl⟩
                      have HU : Hid (y.es[m] = u) := hu
                      have HZ : Hid (y.es[k] = z) := hz
                      rw [hu] at g0
                      rw [hz] at f0 hF
                      clear hfb hce hk0 hu hz hmk
                      go_wp2_with (go_at_call 106; refine hF.mono ?_; rintro r w2 ⟨rfl, hb2⟩; have f1 := (hb2.cell (p := ⟨eb, eoff + k * 2, none⟩) (Nat.lt_of_lt_of_le hebw hby.size)).trans f0; have g1 := (hb2.cell (p := ⟨eb, eoff + m * 2, none⟩) (Nat.lt_of_lt_of_le hebw hby.size)).trans g0)
                      go_quiet (fail)
                      by_cases hr : z.t ≤ u.t
                      · have HT : Hid (risesE G = false) := HX.out u z HU.out HZ.out (by omega)
                        go_wp2
                        go_ret
                        exact ⟨by rw [HC.out, if_pos (Or.inr (Or.inl HT.out))]; rfl, bel_drewN (hby.trans (hb2.mono hby.size)) _⟩
                      · go_wp2
                        go_roundw
                        case rel => exact ⟨k + 1, by omega, by go_num, HG.out u z HU.out HZ.out (by omega), bel_drewN (hby.trans (hb2.mono hby.size)) _⟩
                        case measure => simp [intOf]; omega
                · obtain rfl : k = y.es.length := by omega
                  go_wp2
                  go_roundw
                  case rel => exact ⟨j + 1, by omega, by go_num, HB3.out y HY.out HD.out, hby⟩
                  case measure => simp [intOf]; omega
            · have HT := good_all (fun q hq => HQ.out q hq (by omega))
              have HE0 : Hid (chk G = 0) := HC.out.trans (if_neg (by rw [HT.1, HT.2]; simp; omega))
              clear HT
              go_wp2
              go_ret
              exact ⟨by rw [HE0.out]; rfl, hbx⟩
end Go.Proofs.YtidghoipmggklaaGreat
end

section
/- The law's Ref of a job, the document's Check and bytes of a job. -/
namespace Go.Proofs.YtidghoipmggklaaGreat
open Go.RowKit
theorem two_newJ (w : World) (a b : Obj) {W : World} (h : (w.alloc a).alloc b = W) : W.heap[w.heap.size]? = some a ∧ W.heap[w.heap.size + 1]? = some b ∧ Below w.heap.size w W ∧ W.heap.size = w.heap.size + 2 := by
  have h1 := heap_alloc_new w a
  have h2 := heap_alloc_new (w.alloc a) b
  simp only [World.size_alloc] at h2
  have b1 := one_new (w.alloc a) b
  rw [← h]
  exact ⟨(b1.block _ (by simp)).trans h1, h2, (one_new w a).trans (b1.mono (by simp)), by simp⟩
set_option maxRecDepth 100000 in
set_option maxHeartbeats 1000000 in
theorem jref_any {w : World} {P : Nat → Prop} {go po : Option Addr} {gn gc pn pc : Nat} {t : ByteArray} {G : List Vx} {st se pa : Int} (hn : gn = G.length) (hG : VxAt w P go G) (hok : ∀ v ∈ G, v.ok) (hl : G.length * 40 ≤ 140737488355328) :
    Calls Tryz.prog 10 #[.agg #[.string t, .slice go gn gc, .slice po pn pc, .int .i64 st, .int .i64 se, .int .i64 pa]] w fun r w' => (∃ ho hc, r = .returned (.agg #[.string t, .slice ho G.length hc, .slice po pn pc, .int .i64 st, .int .i64 se, .int .i64 pa]) ∧ VxAt w' (fun k => w.heap.size ≤ k) ho G) ∧ Below w.heap.size w w' := by
  have HRf : Hid (∀ W, Below w.heap.size w W → Calls Tryz.prog 46 #[.agg #[.slice go gn gc]] W fun r w' => ∃ ho hc, r = .returned (.slice ho G.length hc) ∧ VxAt w' (fun k => W.heap.size ≤ k) ho G ∧ Below W.heap.size W w') := fun W hb => by subst hn; exact ref_any G gc (hG.new hb) hok hl
  clear hn hG hok hl
  go_enter Tryz.func10, Tryz.ntmps10
  go_upto_region 1 with (fail)
  generalize hW0 : World.alloc (World.alloc w _) _ = W0
  obtain ⟨k0, k1, kb, ks⟩ := two_newJ w _ _ hW0
  refine jref_r1 (bx := w.heap.size) (bo := w.heap.size + 1) (go := go) (gn := gn) (gc := gc) (po := po) (pn := pn) (pc := pc) (t := t) (st := st) (se := se) (pa := pa) (G := G) rfl rfl rfl k0 k1 (fun W hb => HRf.out W (kb.trans (hb.mono kb.size))) ?_
  intro X W W1 ho hc hb hW1 hV
  have HB1 : Hid (W.heap[w.heap.size + 1]? = _) := (hb.block _ (by omega)).trans k1
  have HB : Hid (Below w.heap.size w W) := kb.trans (hb.mono kb.size)
  have HV : Hid (VxAt W (fun k => w.heap.size + 2 ≤ k) ho G) := by rw [← ks]; exact hV
  subst hW1
  clear hW0 k0 k1 kb ks hb hV HRf
  simp only [puts]
  generalize X 3 = x3
  generalize X 4 = x4
  generalize X 5 = x5
  generalize X 6 = x6
  generalize X 7 = x7
  generalize X 8 = x8
  generalize X 9 = x9
  generalize X 10 = x10
  generalize X 11 = x11
  generalize X 12 = x12
  generalize X 13 = x13
  generalize X 14 = x14
  generalize X 15 = x15
  generalize X 16 = x16
  simp only [Act.put, List.setIfInBounds_toArray, List.set_cons_succ, List.set_cons_zero]
  go_wp2
  refine bodyPost_ret (v := .agg #[.string t, .slice ho G.length hc, .slice po pn pc, .int .i64 st, .int .i64 se, .int .i64 pa]) (results_cell_row Tryz.results10 _ _ (w.heap.size + 1) 34 _ (0, 0) _ rfl (setRow_heap _ _ _ _ _ _ HB1.out) Tryz.underlying34 rfl size_jobR) rfl ?_
  have fS := fr_setRow W (w.heap.size + 1) #[.string t, .slice ho G.length hc, .slice po pn pc, .int .i64 st, .int .i64 se, .int .i64 pa]
  exact ⟨⟨ho, hc, rfl, HV.out.kept fS (fun k _ hk => ⟨by omega, by omega⟩)⟩, k_setRow HB.out (by omega) _⟩
set_option maxRecDepth 100000 in
set_option maxHeartbeats 2000000 in
theorem rjcheck_any {w : World} {P : Nat → Prop} {go po : Option Addr} {gn gc pn pc : Nat} {s : ByteArray} {G : List Vx} {ps : List Int} {st se pa jn : Int} (hn : gn = G.length) (hp : pn = ps.length) (hG : VxAt w P go G) (hok : ∀ v ∈ G, v.ok) (hl : G.length ≤ 9223372036854775807) (hL : IsAt w po ps) (hpl : ps.length ≤ 9223372036854775807) (hj : jobN s G ps st se pa = jn) :
    Calls Tryz.prog 9 #[.agg #[.string s, .slice go gn gc, .slice po pn pc, .int .i64 st, .int .i64 se, .int .i64 pa]] w fun r w' => r = .returned (.int .i64 jn) ∧ Below w.heap.size w w' := by
  obtain ⟨W0, hW0⟩ : ∃ W0, w.alloc (.cells #[.string s, .slice go gn gc, .slice po pn pc, .int .i64 st, .int .i64 se, .int .i64 pa] 34) = W0 := ⟨_, rfl⟩
  have hb0 : Below w.heap.size w W0 := by rw [← hW0]; exact one_newK _ _
  have hJ0 : JobBoxR W0 w.heap.size #[.string s, .slice go gn gc, .slice po pn pc, .int .i64 st, .int .i64 se, .int .i64 pa] := by rw [← hW0]; exact heap_alloc_new _ _
  obtain ⟨c0, c1, c2, c3, c4, c5⟩ := jobr_cells hJ0
  have hpn : pn ≤ 9223372036854775807 := by rw [hp]; exact hpl
  have hgl : gn ≤ 9223372036854775807 := by rw [hn]; exact hl
  have HK : Hid _ := rknown_all s W0
  have HCk : Hid (∀ W, Below W0.heap.size W0 W → Calls Tryz.prog 44 #[.slice go gn gc] W fun r w' => r = .returned (.int .i64 (chk G)) ∧ Below W.heap.size W w') := fun W hb => by rw [hn]; exact refcheck_any gc ((hG.new hb0).new hb) hl hok
  have HMc : Hid (chk G = 0 → ∀ W, Below W0.heap.size W0 W → Calls Tryz.prog 45 #[.string s, .slice go gn gc, .slice po pn pc] W fun r w' => r = .returned (.int .i64 (mcheckN s G ps)) ∧ Below W.heap.size W w') := fun h0 W hb => rcheck_all hn hp ((hG.new hb0).new hb) hok ((hL.new hb0).new hb) (chk_okJ h0).1
  have HJ : Hid (jn = if allS s = false then 70 else if ¬ chk G = 0 then chk G else if 4 < ps.length then 71 else if ¬ mcheckN s G ps = 0 then mcheckN s G ps else if (1 ≤ st ∧ st ≤ 1000) ∧ (0 ≤ se ∧ se ≤ 65536) ∧ (1 ≤ pa ∧ pa ≤ 16) then 0 else 90) := hj.symm
  have HJ0 : Hid _ := hJ0
  have HB0 : Hid _ := hb0
  have HPn : Hid _ := hp
  clear hn hp hG hok hL hb0 hJ0 hl hpl hj
  cases hk : allS s
  · rw [hk] at HK HJ
    go_enter Tryz.func9, Tryz.ntmps9
    go_wp2_with (go_at_call 43; refine Calls.mono HK.out ?_; rintro r w1 ⟨rfl, hb1⟩; have HB1 : Hid _ := hb1; clear hb1)
    go_ret
    exact ⟨by rw [HJ.out]; rfl, HB0.out.trans (HB1.out.mono HB0.out.size)⟩
  · rw [hk] at HK HJ
    generalize chk G = cg at HCk HMc HJ
    go_enter Tryz.func9, Tryz.ntmps9
    go_upto_region 3 with (go_at_call 43; refine Calls.mono HK.out ?_; rintro r w1 ⟨rfl, hb1⟩; have HB1 : Hid _ := hb1; clear hb1)
    obtain ⟨d0, d1, d2, d3, d4, d5⟩ := jobr_cells ((HB1.out.block _ (Array.getElem?_eq_some_iff.1 HJ0.out).1).trans HJ0.out)
    clear c0 c1 c2 c3 c4 c5 HK
    by_cases hcg : cg = 0
    · subst hcg
      go_upto_region 6 with (go_at_call 44; refine Calls.mono (HCk.out _ HB1.out) ?_; rintro r w2 ⟨rfl, hb2⟩; have HB2 : Hid (Below W0.heap.size W0 w2) := HB1.out.trans (hb2.mono HB1.out.size); clear hb2)
      obtain ⟨e0, e1, e2, e3, e4, e5⟩ := jobr_cells ((HB2.out.block _ (Array.getElem?_eq_some_iff.1 HJ0.out).1).trans HJ0.out)
      clear d0 d1 d2 d3 d4 d5 HCk HB1
      by_cases h4 : 4 < pn
      · go_wp2
        go_ret
        exact ⟨by rw [HJ.out, ← HPn.out]; simp [h4], HB0.out.trans (HB2.out.mono HB0.out.size)⟩
      · have HM : Hid _ := HMc.out (by first | exact trivial | rfl) _ HB2.out
        generalize mcheckN s G ps = mc at HM HJ
        clear HMc
        go_upto_region 9 with (go_at_call 45; refine Calls.mono HM.out ?_; rintro r w3 ⟨rfl, hb3⟩; have HB3 : Hid (Below W0.heap.size W0 w3) := HB2.out.trans (hb3.mono HB2.out.size); clear hb3)
        obtain ⟨f0, f1, f2, f3, f4, f5⟩ := jobr_cells ((HB3.out.block _ (Array.getElem?_eq_some_iff.1 HJ0.out).1).trans HJ0.out)
        clear e0 e1 e2 e3 e4 e5 HM HB2
        by_cases hmc : mc = 0
        · subst hmc
          have HJ2 : Hid (jn = if (1 ≤ st ∧ st ≤ 1000) ∧ (0 ≤ se ∧ se ≤ 65536) ∧ (1 ≤ pa ∧ pa ≤ 16) then 0 else 90) := by
            show _ = _
            rw [HJ.out, ← HPn.out]
            simp [h4]
          clear HJ
          have HF : Hid (Below w.heap.size w w3) := HB0.out.trans (HB3.out.mono HB0.out.size)
          clear f0 f1 f2
          by_cases a1 : st < 1
          · have HE : Hid (jn = 90) := by show _ = _; rw [HJ2.out, if_neg (by omega)]
            have d1 : decide (st < 1) = true := by simpa using a1
            go_wp2
            go_ret
            exact ⟨by rw [HE.out]; rfl, HF.out⟩
          by_cases a2 : 1000 < st
          · have HE : Hid (jn = 90) := by show _ = _; rw [HJ2.out, if_neg (by omega)]
            have d1 : decide (st < 1) = false := by simpa using a1
            have d2 : decide (1000 < st) = true := by simpa using a2
            go_wp2
            go_ret
            exact ⟨by rw [HE.out]; rfl, HF.out⟩
          by_cases a3 : se < 0
          · have HE : Hid (jn = 90) := by show _ = _; rw [HJ2.out, if_neg (by omega)]
            have d1 : decide (st < 1) = false := by simpa using a1
            have d2 : decide (1000 < st) = false := by simpa using a2
            have d3 : decide (se < 0) = true := by simpa using a3
            go_wp2
            go_ret
            exact ⟨by rw [HE.out]; rfl, HF.out⟩
          by_cases a4 : 65536 < se
          · have HE : Hid (jn = 90) := by show _ = _; rw [HJ2.out, if_neg (by omega)]
            have d1 : decide (st < 1) = false := by simpa using a1
            have d2 : decide (1000 < st) = false := by simpa using a2
            have d3 : decide (se < 0) = false := by simpa using a3
            have d4 : decide (65536 < se) = true := by simpa using a4
            go_wp2
            go_ret
            exact ⟨by rw [HE.out]; rfl, HF.out⟩
          by_cases a5 : pa < 1
          · have HE : Hid (jn = 90) := by show _ = _; rw [HJ2.out, if_neg (by omega)]
            have d1 : decide (st < 1) = false := by simpa using a1
            have d2 : decide (1000 < st) = false := by simpa using a2
            have d3 : decide (se < 0) = false := by simpa using a3
            have d4 : decide (65536 < se) = false := by simpa using a4
            have d5 : decide (pa < 1) = true := by simpa using a5
            go_wp2
            go_ret
            exact ⟨by rw [HE.out]; rfl, HF.out⟩
          by_cases a6 : 16 < pa
          · have HE : Hid (jn = 90) := by show _ = _; rw [HJ2.out, if_neg (by omega)]
            have d1 : decide (st < 1) = false := by simpa using a1
            have d2 : decide (1000 < st) = false := by simpa using a2
            have d3 : decide (se < 0) = false := by simpa using a3
            have d4 : decide (65536 < se) = false := by simpa using a4
            have d5 : decide (pa < 1) = false := by simpa using a5
            have d6 : decide (16 < pa) = true := by simpa using a6
            go_wp2
            go_ret
            exact ⟨by rw [HE.out]; rfl, HF.out⟩
          · have HE : Hid (jn = 0) := by show _ = _; rw [HJ2.out, if_pos (by omega)]
            have d1 : decide (st < 1) = false := by simpa using a1
            have d2 : decide (1000 < st) = false := by simpa using a2
            have d3 : decide (se < 0) = false := by simpa using a3
            have d4 : decide (65536 < se) = false := by simpa using a4
            have d5 : decide (pa < 1) = false := by simpa using a5
            have d6 : decide (16 < pa) = false := by simpa using a6
            go_wp2
            go_ret
            exact ⟨by rw [HE.out]; rfl, HF.out⟩
        · have hmc' : (mc != 0) = true := by simpa using hmc
          go_wp2
          go_ret
          exact ⟨by rw [HJ.out, ← HPn.out]; simp [h4, hmc], HB0.out.trans (HB3.out.mono HB0.out.size)⟩
    · have hcg' : (cg != 0) = true := by simpa using hcg
      go_wp2_with (go_at_call 44; refine Calls.mono (HCk.out _ HB1.out) ?_; rintro r w2 ⟨rfl, hb2⟩; have HB2 : Hid (Below W0.heap.size W0 w2) := HB1.out.trans (hb2.mono HB1.out.size); clear hb2)
      go_ret
      exact ⟨by rw [HJ.out]; simp [hcg], HB0.out.trans (HB2.out.mono HB0.out.size)⟩
end Go.Proofs.YtidghoipmggklaaGreat
end

section
/- A job that came in, and what stands of it behind a cut; a struct in a new box. -/
namespace Go.Proofs.YtidghoipmggklaaGreat
open Go.RowKit Go.Deep Go.Joins Go.ChangeShapes
/-- A struct in a new box. -/
theorem row_made {w W : World} {ty : TypeId} {Z CB : Array Value} (hW : (w.alloc (.cells Z ty)).setRow w.heap.size CB = W) : Below w.heap.size w W ∧ W.heap[w.heap.size]? = some (.cells CB ty (0, 0)) := by
  have hn := ma_new w (.cells Z ty)
  have hk : (w.alloc (.cells Z ty)).heap[w.heap.size]? = some (.cells Z ty (0, 0)) := heap_alloc_new _ _
  have hg : W.heap[w.heap.size]? = some (.cells CB ty (0, 0)) := by rw [← hW]; exact setRow_heap _ _ _ _ _ _ hk
  have hfs : Fr (w.alloc (.cells Z ty)) W (fun k => k = w.heap.size) := by rw [← hW]; exact ap_setRow _ _ _
  exact ⟨hn.trans (hfs.below hn.size (fun k hk => by omega)), hg⟩
theorem VxAt.cut {w : World} {P : Nat → Prop} {ao : Option Addr} {G : List Vx} (h : VxAt w P ao G) (k : Nat) : VxAt w P ao (G.take k) := fun h0 => by
  rw [List.length_take] at h0
  obtain ⟨b, off, e, hp, hc⟩ := h (by omega)
  refine ⟨b, off, e, hp, fun j hj => ?_⟩
  rw [List.length_take] at hj
  rw [List.getElem_take]
  exact hc j (by omega)
/-- A job that came in: its graph and its numbers in memory. -/
structure JbIn (w : World) (go po : Option Addr) (gn gc pn : Nat) (G : List Vx) (ps : List Int) : Prop where
  hgn : gn = G.length
  hgc : gn ≤ gc ∧ gc ≤ 9223372036854775807
  ok : ∀ v ∈ G, v.ok
  len : G.length * 40 ≤ 140737488355328
  vx : VxAt w (fun k => k < w.heap.size) go G
  hpn : pn = ps.length
  pk : ∀ x ∈ ps, I64 x
  pl : ps.length ≤ 9223372036854775807
  is : IsAt w po ps
theorem JbIn.cut {w : World} {go po : Option Addr} {gn gc pn : Nat} {G : List Vx} {ps : List Int} (h : JbIn w go po gn gc pn G ps) {k : Nat} (hk : k ≤ gn) : JbIn w go po k gc pn (G.take k) ps := by
  have h1 := h.hgn
  have h2 := h.hgc
  have h3 := h.len
  exact ⟨by rw [List.length_take]; omega, by omega, fun v hv => h.ok v (List.mem_of_mem_take hv), by rw [List.length_take]; omega, h.vx.cut k, h.hpn, h.pk, h.pl, h.is⟩
/-- The definition's own form of a job, at any world behind it. -/
theorem JbIn.ref {w W : World} {go po : Option Addr} {gn gc pn : Nat} {G : List Vx} {ps : List Int} (h : JbIn w go po gn gc pn G ps) (hb : Below w.heap.size w W) {pc : Nat} {t : ByteArray} {st se pa : Int} :
    Calls Tryz.prog 10 #[.agg #[.string t, .slice go gn gc, .slice po pn pc, .int .i64 st, .int .i64 se, .int .i64 pa]] W fun r w' => (∃ ho hc, r = .returned (.agg #[.string t, .slice ho G.length hc, .slice po pn pc, .int .i64 st, .int .i64 se, .int .i64 pa]) ∧ VxAt w' (fun k => W.heap.size ≤ k) ho G) ∧ Below W.heap.size W w' :=
  jref_any h.hgn (h.vx.new hb) h.ok h.len
theorem JbIn.chk {w W : World} {go po : Option Addr} {gn gc pn : Nat} {G : List Vx} {ps : List Int} (h : JbIn w go po gn gc pn G ps) (hb : Below w.heap.size w W) {t : ByteArray} {st se pa : Int} {Q : Nat → Prop} {ho : Option Addr} {hc pc : Nat} (hV : VxAt W Q ho G) :
    Calls Tryz.prog 9 #[.agg #[.string t, .slice ho G.length hc, .slice po pn pc, .int .i64 st, .int .i64 se, .int .i64 pa]] W fun r w' => r = .returned (.int .i64 (jobN t G ps st se pa)) ∧ Below W.heap.size W w' :=
  rjcheck_any rfl h.hpn hV h.ok (by have := h.len; omega) (h.is.new hb) h.pl rfl
section
variable {H : Type} {enc : TypeId × Value → H} {w : World} {base : Nat} {spare : Nat → Bool} {held : Bool}
theorem job_cap {n : Nat} {ty po : Value} {ao : Option Addr} {l c : Nat} {a b d : Value} {x : DataW H × List MemPlace} (h : DataW.trod enc Tryz.prog w base spare held n 27 [ty, .slice ao l c, po, a, b, d] = some x) : l ≤ c ∧ c ≤ 9223372036854775807 := by
  obtain ⟨y0, y1, y2, y3, y4, y5, m, hx, hl, f0, f1, f2, f3, f4, f5⟩ := j_struct6 Tryz.underlying27 h
  simp only [cellsGrJ, List.drop, List.take] at f1
  obtain ⟨z0, m1, hz, hl1, g0⟩ := trod_struct1 Tryz.underlying24 f1
  simp only [cellsVs] at g0
  rcases open_slice Tryz.underlying22 (x := z0) (by simpa using g0) with ⟨h0, h1⟩ | ⟨a, len, cap, m, k, D, Pl, e, hb, hll, hm, hmm, _, hxx⟩
  · cases h0
    exact ⟨Nat.le_refl _, by omega⟩
  · cases e
    exact ⟨hll, by unfold maxLen at hm; omega⟩
end
end Go.Proofs.YtidghoipmggklaaGreat
end

section
/- A task that a law makes: its box, its lists, its job; what stands of it behind each call; how it is put and taken. No walk here. -/
namespace Go.Proofs.YtidghoipmggklaaGreat
open Go.RowKit
theorem and63 (a : Int) : ∃ k : Nat, k ≤ 63 ∧ bits BinOp.and IntKind.i64 a 63 = k := by
  have h : (BitVec.ofInt IntKind.i64.bits a &&& BitVec.ofInt IntKind.i64.bits 63).toNat ≤ 63 := by
    rw [BitVec.toNat_and]
    exact Nat.le_trans Nat.and_le_right (by decide)
  refine ⟨(BitVec.ofInt IntKind.i64.bits a &&& BitVec.ofInt IntKind.i64.bits 63).toNat, h, ?_⟩
  show IntKind.i64.wrap ((BitVec.ofInt IntKind.i64.bits a &&& BitVec.ofInt IntKind.i64.bits 63).toNat : Int) = _
  exact IntWalk.i64_in _ (by omega)
theorem and7t (a : Int) : ∃ k : Nat, k ≤ 7 ∧ bits BinOp.and IntKind.i64 a 7 = k := by
  have h : (BitVec.ofInt IntKind.i64.bits a &&& BitVec.ofInt IntKind.i64.bits 7).toNat ≤ 7 := by
    rw [BitVec.toNat_and]
    exact Nat.le_trans Nat.and_le_right (by decide)
  refine ⟨(BitVec.ofInt IntKind.i64.bits a &&& BitVec.ofInt IntKind.i64.bits 7).toNat, h, ?_⟩
  show IntKind.i64.wrap ((BitVec.ofInt IntKind.i64.bits a &&& BitVec.ofInt IntKind.i64.bits 7).toNat : Int) = _
  exact IntWalk.i64_in _ (by omega)
/-- A slice of one number, of two numbers, is built; the world behind it is given a name. -/
theorem mt_build1 {ops : Array Oper} {rest : List Oper} {op : Oper} {a : Act} {w : World} {Q : Exit → Act → World → Prop} (hg : op.guard = none) (x : Operand) (ho : op.op = .buildSlice 67 1 #[(0, x)]) (n : Int) (hx : a.eval x = .int .i64 n) (h : ∀ W, w.alloc (.cells #[.int .i64 n] 3) = W → wpList Tryz.prog ops Q rest (a.put op.dst (.slice (some ⟨w.heap.size, 0, none⟩) 1 1)) W) : wpList Tryz.prog ops Q (op :: rest) a w := by
  obtain ⟨i, z, hi, hz, hs, hb, hzs⟩ := gT_int.info
  refine wpList_buildSlice hg 67 3 1 #[(0, x)] ho #[.int .i64 n] i z Tryz.underlying67 hi hz (by rw [hs]; decide) (by rw [hs]; decide) ?_ (h _ rfl)
  rw [hs]
  have e : (#[(0, x)].map fun (i, x) => (i, a.eval x)).toList = (([Value.int .i64 n] : List Value).zipIdx 0).map fun x => (x.2, x.1) := by simp [hx]
  rw [e]
  exact Great.fill_flat [Value.int .i64 n] _ (fun v hv => by simp at hv; subst hv; rfl) (by simp)
theorem mt_build2 {ops : Array Oper} {rest : List Oper} {op : Oper} {a : Act} {w : World} {Q : Exit → Act → World → Prop} (hg : op.guard = none) (x y : Operand) (ho : op.op = .buildSlice 67 2 #[(0, x), (1, y)]) (n m : Int) (hx : a.eval x = .int .i64 n) (hy : a.eval y = .int .i64 m) (h : ∀ W, w.alloc (.cells #[.int .i64 n, .int .i64 m] 3) = W → wpList Tryz.prog ops Q rest (a.put op.dst (.slice (some ⟨w.heap.size, 0, none⟩) 2 2)) W) : wpList Tryz.prog ops Q (op :: rest) a w := by
  obtain ⟨i, z, hi, hz, hs, hb, hzs⟩ := gT_int.info
  refine wpList_buildSlice hg 67 3 2 #[(0, x), (1, y)] ho #[.int .i64 n, .int .i64 m] i z Tryz.underlying67 hi hz (by rw [hs]; decide) (by rw [hs]; decide) ?_ (h _ rfl)
  rw [hs]
  have e : (#[(0, x), (1, y)].map fun (i, x) => (i, a.eval x)).toList = (([Value.int .i64 n, Value.int .i64 m] : List Value).zipIdx 0).map fun x => (x.2, x.1) := by simp [hx, hy]
  rw [e]
  exact Great.fill_flat [Value.int .i64 n, Value.int .i64 m] _ (fun v hv => by simp at hv; rcases hv with rfl | rfl <;> rfl) (by simp)
/-- A task is built of its parts. -/
theorem tk_built {b0 b1 b2 st se pa v0 v1 v2 v3 v4 : Int} {g0 g1 g2 g3 g4 kp : Bool} {ao bo go po : Option Addr} {an ac bn bc gn gc pn pc : Nat} {t : ByteArray} : Tryz.prog.built 69 [(0, .int .i64 b0), (1, .int .i64 b1), (2, .int .i64 b2), (3, .int .i64 2), (4, .slice ao an ac), (5, .slice bo bn bc), (6, .agg #[.string t, .slice go gn gc, .slice po pn pc, .int .i64 st, .int .i64 se, .int .i64 pa]), (7, .agg #[.bool g0, .bool g1, .bool g2, .bool g3, .bool g4, .int .i64 v0, .int .i64 v1, .int .i64 v2, .int .i64 v3, .int .i64 v4]), (8, .int .i64 5), (9, .int .i64 4), (10, .int .i64 1), (11, .bool kp)] = some #[.int .i64 b0, .int .i64 b1, .int .i64 b2, .int .i64 2, .slice ao an ac, .slice bo bn bc, .string t, .slice go gn gc, .slice po pn pc, .int .i64 st, .int .i64 se, .int .i64 pa, .bool g0, .bool g1, .bool g2, .bool g3, .bool g4, .int .i64 v0, .int .i64 v1, .int .i64 v2, .int .i64 v3, .int .i64 v4, .int .i64 5, .int .i64 4, .int .i64 1, .bool kp] := by kernel_rfl
theorem mt_buildT {ops : Array Oper} {rest : List Oper} {op : Oper} {a : Act} {w : World} {Q : Exit → Act → World → Prop} (hg : op.guard = none) (parts : Array (Nat × Operand)) (ho : op.op = .build 69 parts) (vs : List (Nat × Value)) {cells : Array Value} (hb : Tryz.prog.built 69 vs = some cells) (hv : parts.toList.map (fun x => (x.1, a.eval x.2)) = vs) (h : wpList Tryz.prog ops Q rest (a.put op.dst (.agg cells)) w) : wpList Tryz.prog ops Q (op :: rest) a w := by
  have e : (parts.map fun (i, x) => (i, a.eval x)).toList = vs := by rw [Array.toList_map]; exact hv
  exact wpList_build hg 69 parts ho (by rw [e, hb]; rfl) (by rw [e, hb]; exact h)
/-- A task's parts in memory, in blocks that are so. -/
structure TkP (w : World) (P : Nat → Prop) (ao bo go po : Option Addr) (L A : List Int) (G : List Vx) (ps : List Int) : Prop where
  n1 : IsP w P ao L
  n2 : IsP w P bo A
  vx : VxAt w P go G
  is : IsP w P po ps
theorem TkP.kept {w w' : World} {P Q S : Nat → Prop} {ao bo go po : Option Addr} {L A : List Int} {G : List Vx} {ps : List Int} (h : TkP w P ao bo go po L A G ps) (f : Fr w w' S) (hs : ∀ k, k < w.heap.size → P k → ¬ S k ∧ Q k) : TkP w' Q ao bo go po L A G ps :=
  ⟨h.n1.kept f hs, h.n2.kept f hs, h.vx.kept f hs, h.is.kept f hs⟩
theorem TkP.new {w w' : World} {P Q : Nat → Prop} {ao bo go po : Option Addr} {L A : List Int} {G : List Vx} {ps : List Int} (h : TkP w P ao bo go po L A G ps) (hb : Below w.heap.size w w') (hs : ∀ k, k < w.heap.size → P k → Q k) : TkP w' Q ao bo go po L A G ps :=
  h.kept (Fr.ofBelow hb (fun _ => False)) (fun k hk hp => ⟨fun h => h, hs k hk hp⟩)
/-- The bytes of the law's task. -/
def tkB (b0 b1 b2 c0 c1 c2 : Nat) (kp : Bool) (o : Nat → Option Int) (t : ByteArray) (G : List Vx) (ps : List Int) (st se pa : Nat) : List UInt8 := tsB [((b0 : Nat) : Int), ((b1 : Nat) : Int), ((b2 : Nat) : Int), ((2 : Nat) : Int), ((5 : Nat) : Int), ((4 : Nat) : Int), ((1 : Nat) : Int)] [((c0 : Nat) : Int)] [((c1 : Nat) : Int), ((c2 : Nat) : Int)] kp o t G ps st se pa
def Nums (b0 b1 b2 c0 c1 c2 : Nat) : Prop := b0 ≤ 63 ∧ b1 ≤ 63 ∧ b2 ≤ 63 ∧ c0 ≤ 7 ∧ c1 ≤ 7 ∧ c2 ≤ 7
theorem tk_len {b0 b1 b2 c0 c1 c2 : Nat} {kp : Bool} {o : Nat → Option Int} {t : ByteArray} {G : List Vx} {ps : List Int} {st se pa : Nat} (hb : Nums b0 b1 b2 c0 c1 c2) (ho : OkO o) (hok : ∀ v ∈ G, v.ok) (hpk : ∀ x ∈ ps, I64 x) (hj : jobN t G ps st se pa = 0) : (tkB b0 b1 b2 c0 c1 c2 kp o t G ps st se pa).length ≤ 61000 := by
  obtain ⟨h0, h1, h2, h3, h4, h5⟩ := hb
  exact ts_len rfl (fun x hx => by simp only [List.mem_cons, List.not_mem_nil, or_false] at hx; omega) (by simp) (fun x hx => by simp only [List.mem_cons, List.not_mem_nil, or_false] at hx; omega) (by simp) (fun x hx => by simp only [List.mem_cons, List.not_mem_nil, or_false] at hx; omega) ho hok hpk hj
/-- The law's task, put by a new writer. -/
theorem put_tk {w : World} {p b0 b1 b2 c0 c1 c2 : Nat} {kp : Bool} {o : Nat → Option Int} {ao bo go po : Option Addr} {ac bc gn gc pn pc : Nat} {t : ByteArray} {G : List Vx} {ps : List Int} {st se pa : Nat} (hgn : gn = G.length) (hpn : pn = ps.length) (h : Wr w (p + 1) p (.slice none 0 0) []) (hk : TkP w (fun k => k < p) ao bo go po [((c0 : Nat) : Int)] [((c1 : Nat) : Int), ((c2 : Nat) : Int)] G ps) (hb : Nums b0 b1 b2 c0 c1 c2) (ho : OkO o) (hok : ∀ v ∈ G, v.ok) (hpk : ∀ x ∈ ps, I64 x) (hj : jobN t G ps st se pa = 0) :
    Calls Tryz.prog 40 #[.pointer (some ⟨p, 0, none⟩), .agg #[.int .i64 (b0 : Nat), .int .i64 (b1 : Nat), .int .i64 (b2 : Nat), .int .i64 2, .slice ao 1 ac, .slice bo 2 bc, .string t, .slice go gn gc, .slice po pn pc, .int .i64 (st : Nat), .int .i64 (se : Nat), .int .i64 (pa : Nat), .bool (oh o 0), .bool (oh o 1), .bool (oh o 2), .bool (oh o 3), .bool (oh o 4), .int .i64 (ov o 0), .int .i64 (ov o 1), .int .i64 (ov o 2), .int .i64 (ov o 3), .int .i64 (ov o 4), .int .i64 5, .int .i64 4, .int .i64 1, .bool kp]] w fun r w' => r = .returned (.tuple #[]) ∧ WTo w w' (p + 1) p (.slice none 0 0) (tkB b0 b1 b2 c0 c1 c2 kp o t G ps st se pa) := by
  have hJ := jobN_ok hj
  obtain ⟨h0, h1, h2, h3, h4, h5⟩ := hb
  have ha : ∀ k, k < p → k ≠ p ∧ (Value.slice none 0 0).ownBlock ≠ some k := fun k hk => ⟨by omega, by simp [Value.ownBlock]⟩
  have hP := puttask_any (base := p + 1) (ja := (b0 : Nat)) (je := (b1 : Nat)) (js := (b2 : Nat)) (jp := ((2 : Nat) : Int)) (jm := ((5 : Nat) : Int)) (jf := ((4 : Nat) : Int)) (jg := ((1 : Nat) : Int)) (kp := kp) (ac := ac) (bc := bc) (gc := gc) (pc := pc) (t := t) (st := st) (se := se) (pa := pa) [((c0 : Nat) : Int)] [((c1 : Nat) : Int), ((c2 : Nat) : Int)] rfl rfl hgn hpn h (hk.n1.apart ha) (hk.n2.apart ha) (hk.vx.mono (fun k _ hp => ha k hp)) (hk.is.mono (fun k _ hp => ha k hp)) ho
    (known_size hJ.known) hok hJ.chk hJ.len hpk (by have := hJ.st; omega) (by have := hJ.se; omega) (by have := hJ.pa; omega) (fun x hx => by simp only [List.mem_cons, List.not_mem_nil, or_false] at hx; omega) (fun x hx => by simp only [List.mem_cons, List.not_mem_nil, or_false] at hx; omega) (fun x hx => by simp only [List.mem_cons, List.not_mem_nil, or_false] at hx; omega) (by simp)
  rw [List.nil_append] at hP
  exact hP
/-- The law's task, taken again. -/
theorem take_tk {b0 b1 b2 c0 c1 c2 : Nat} {kp : Bool} {o : Nat → Option Int} {t : ByteArray} {G : List Vx} {ps : List Int} {st se pa : Nat} {l : List UInt8} (hb : Nums b0 b1 b2 c0 c1 c2) (ho : OkO o) (hc : cutO o 5 = o) (hok : ∀ v ∈ G, v.ok) (hpk : ∀ x ∈ ps, I64 x) (hj : jobN t G ps st se pa = 0) (hl : tkB b0 b1 b2 c0 c1 c2 kp o t G ps st se pa = l) {W : World} {q : Nat} (h : Rd W q (str l ++ ⟨#[120]⟩) ((0 : Nat) : Int) 0) :
    Calls Tryz.prog 41 #[.pointer (some ⟨q, 0, none⟩)] W fun r w' => (∃ ao ac bo bc go gc po pc, r = .returned (.agg #[.int .i64 (b0 : Nat), .int .i64 (b1 : Nat), .int .i64 (b2 : Nat), .int .i64 2, .slice ao 1 ac, .slice bo 2 bc, .string t, .slice go G.length gc, .slice po ps.length pc, .int .i64 (st : Nat), .int .i64 (se : Nat), .int .i64 (pa : Nat), .bool (oh o 0), .bool (oh o 1), .bool (oh o 2), .bool (oh o 3), .bool (oh o 4), .int .i64 (ov o 0), .int .i64 (ov o 1), .int .i64 (ov o 2), .int .i64 (ov o 3), .int .i64 (ov o 4), .int .i64 5, .int .i64 4, .int .i64 1, .bool kp]) ∧ TkP w' (fun k => W.heap.size ≤ k) ao bo go po [((c0 : Nat) : Int)] [((c1 : Nat) : Int), ((c2 : Nat) : Int)] G ps) ∧ Rd w' q (str l ++ ⟨#[120]⟩) (l.length : Nat) 0 ∧ Fr W w' (fun k => k = q) := by
  have hlen : l.length ≤ 61000 := by rw [← hl]; exact tk_len hb ho hok hpk hj
  obtain ⟨h0, h1, h2, h3, h4, h5⟩ := hb
  refine (take_ts (a0 := b0) (a1 := b1) (a2 := b2) (a3 := 2) (a4 := 5) (a5 := 4) (a6 := 1) (P := [c0]) (A := [c1, c2]) (kp := kp) ho hc (fun x hx => by simp only [List.mem_cons, List.not_mem_nil, or_false] at hx; omega) (by simp) (fun x hx => by simp only [List.mem_cons, List.not_mem_nil, or_false] at hx; omega) (by simp) (fun x hx => by simp only [List.mem_cons, List.not_mem_nil, or_false] at hx; omega) hok hpk hj hl hlen h).mono ?_
  rintro r w' ⟨⟨ao, ac, bo, bc, go, gc, po, pc, rfl, -, -, q1, q2, q3, q4⟩, hr, hf⟩
  exact ⟨⟨ao, ac, bo, bc, go, gc, po, pc, rfl, ⟨q1, q2, q3, q4⟩⟩, hr, hf⟩
/-- What stands once the task was made. -/
structure MtK (w W : World) (gt : Nat) (CT : Array Value) (ao bo go po : Option Addr) (c0 c1 c2 : Nat) (G : List Vx) (ps : List Int) : Prop where
  lo : Below w.heap.size w W
  bx : W.heap[gt]? = some (.cells CT 69 (0, 0))
  pt : TkP W (fun k => k < W.heap.size) ao bo go po [((c0 : Nat) : Int)] [((c1 : Nat) : Int), ((c2 : Nat) : Int)] G ps
theorem MtK.new {w W W' : World} {gt : Nat} {CT : Array Value} {ao bo go po : Option Addr} {c0 c1 c2 : Nat} {G : List Vx} {ps : List Int} (h : MtK w W gt CT ao bo go po c0 c1 c2 G ps) (hb : Below W.heap.size W W') : MtK w W' gt CT ao bo go po c0 c1 c2 G ps :=
  ⟨h.lo.trans (hb.mono h.lo.size), (hb.block gt (ma_lt h.bx)).trans h.bx, h.pt.new hb (fun _ hk _ => Nat.lt_of_lt_of_le hk hb.size)⟩
theorem MtK.made {w x W5 W6 W : World} {CT Z : Array Value} {go po : Option Addr} {c0 c1 c2 : Nat} {gn gc pn : Nat} {G : List Vx} {ps : List Int} (hlo : Below w.heap.size w x) (hJ : JbIn w go po gn gc pn G ps) (h5 : x.alloc (.cells #[.int .i64 (c0 : Nat)] 3) = W5) (h6 : W5.alloc (.cells #[.int .i64 (c1 : Nat), .int .i64 (c2 : Nat)] 3) = W6) (hW : (W6.alloc (.cells Z 69)).setRow W6.heap.size CT = W) :
    MtK w W W6.heap.size CT (some ⟨x.heap.size, 0, none⟩) (some ⟨W5.heap.size, 0, none⟩) go po c0 c1 c2 G ps := by
  obtain ⟨hb7, hx7⟩ := row_made hW
  have k5 : W5.heap[x.heap.size]? = some (.cells #[.int .i64 (c0 : Nat)] 3 (0, 0)) := by rw [← h5]; exact heap_alloc_new _ _
  have hb5 : Below x.heap.size x W5 := by rw [← h5]; exact ma_new _ _
  have k6 : W6.heap[W5.heap.size]? = some (.cells #[.int .i64 (c1 : Nat), .int .i64 (c2 : Nat)] 3 (0, 0)) := by rw [← h6]; exact heap_alloc_new _ _
  have hb6 : Below W5.heap.size W5 W6 := by rw [← h6]; exact ma_new _ _
  have l5 := ma_lt k5
  have l6 := ma_lt k6
  have k5' := (hb7.block _ (by have := hb6.size; omega)).trans ((hb6.block _ l5).trans k5)
  have k6' := (hb7.block _ l6).trans k6
  have hlo7 : Below w.heap.size w W := ((hlo.trans (hb5.mono hlo.size)).trans (hb6.mono (by have := hlo.size; have := hb5.size; omega))).trans (hb7.mono (by have := hlo.size; have := hb5.size; have := hb6.size; omega))
  refine ⟨hlo7, hx7, ⟨fun _ => ⟨_, 0, rfl, by have := hb6.size; have := hb7.size; omega, fun j hj => ?_⟩, fun _ => ⟨_, 0, rfl, by have := hb7.size; omega, fun j hj => ?_⟩, (hJ.vx.new hlo7).mono (fun _ hk _ => hk), ((hJ.is.toP).new hlo7).mono (fun _ hk _ => hk)⟩⟩
  · match j, hj with
    | 0, _ => simp [World.cell?, k5']
  · match j, hj with
    | 0, _ => simp [World.cell?, k6']
    | 1, _ => simp [World.cell?, k6']
/-- What stands once the task was taken again. -/
structure MtU (w W : World) (gt gu z q : Nat) (v : Value) (l : List UInt8) (CT CU : Array Value) (ao bo go po ap bp gp pp : Option Addr) (c0 c1 c2 : Nat) (G : List Vx) (ps : List Int) : Prop where
  m : MtK w W gt CT ao bo go po c0 c1 c2 G ps
  wt : Wr W (z + 1) z v l
  rd : Rd W q (str l ++ ⟨#[120]⟩) (l.length : Nat) 0
  bx : W.heap[gu]? = some (.cells CU 69 (0, 0))
  pu : TkP W (fun k => k < W.heap.size) ap bp gp pp [((c0 : Nat) : Int)] [((c1 : Nat) : Int), ((c2 : Nat) : Int)] G ps
theorem MtU.new {w W W' : World} {gt gu z q : Nat} {v : Value} {l : List UInt8} {CT CU : Array Value} {ao bo go po ap bp gp pp : Option Addr} {c0 c1 c2 : Nat} {G : List Vx} {ps : List Int} (h : MtU w W gt gu z q v l CT CU ao bo go po ap bp gp pp c0 c1 c2 G ps) (hb : Below W.heap.size W W') : MtU w W' gt gu z q v l CT CU ao bo go po ap bp gp pp c0 c1 c2 G ps :=
  ⟨h.m.new hb, h.wt.kept (Fr.ofBelow hb (fun _ => False)) (fun h => h) (fun _ _ h => h), h.rd.below hb, (hb.block gu (ma_lt h.bx)).trans h.bx, h.pu.new hb (fun _ hk _ => Nat.lt_of_lt_of_le hk hb.size)⟩
theorem MtU.made {w w1 w2 w3 : World} {gt z : Nat} {v : Value} {l : List UInt8} {CT CU Z : Array Value} {ao bo go po ap bp gp pp : Option Addr} {c0 c1 c2 : Nat} {G : List Vx} {ps : List Int} (hm : MtK w w1 gt CT ao bo go po c0 c1 c2 G ps) (hw : Wr w1 (z + 1) z v l) (hb : Below w1.heap.size w1 w2) (hr : Rd w3 w1.heap.size (str l ++ ⟨#[120]⟩) (l.length : Nat) 0) (hf : Fr w2 w3 (fun k => k = w1.heap.size)) (hp : TkP w3 (fun k => w2.heap.size ≤ k) ap bp gp pp [((c0 : Nat) : Int)] [((c1 : Nat) : Int), ((c2 : Nat) : Int)] G ps) {W : World} (hW : (w3.alloc (.cells Z 69)).setRow w3.heap.size CU = W) :
    MtU w W gt w3.heap.size z w1.heap.size v l CT CU ao bo go po ap bp gp pp c0 c1 c2 G ps := by
  obtain ⟨hl, hg⟩ := row_made hW
  have hz := hw.lt
  have hgt := ma_lt hm.bx
  have hs := hm.lo.size
  have hs2 := hb.size
  have hb3 : Below w1.heap.size w2 w3 := hf.below hs2 (fun k hk => by omega)
  refine ⟨⟨(hm.lo.trans ((hb.trans hb3).mono hs)).trans (hl.mono (by have := hb3.size; omega)), ?_, ?_⟩, (((hw.kept (Fr.ofBelow hb (fun _ => False)) (fun h => h) (fun _ _ h => h)).kept hf (by omega) (fun k hk => by have := hw.olt k hk; omega)).kept (Fr.ofBelow hl (fun _ => False)) (fun h => h) (fun _ _ h => h)), hr.below hl, hg, hp.new hl (fun _ hk _ => Nat.lt_of_lt_of_le hk hl.size)⟩
  · exact (hl.block gt (by have := hb3.size; omega)).trans ((hb3.block gt hgt).trans ((hb.block gt hgt).trans hm.bx))
  · exact ((hm.pt.new hb (fun _ _ h => h)).kept hf (Q := fun k => k < w1.heap.size) (fun k _ h => ⟨by omega, h⟩)).new hl (fun k hk _ => Nat.lt_of_lt_of_le hk hl.size)
theorem tk_cells {W : World} {g : Nat} {x0 x1 x2 x3 x4 x5 x6 x7 x8 x9 x10 x11 x12 x13 x14 x15 x16 x17 x18 x19 x20 x21 x22 x23 x24 x25 : Value} (h : W.heap[g]? = some (.cells #[x0, x1, x2, x3, x4, x5, x6, x7, x8, x9, x10, x11, x12, x13, x14, x15, x16, x17, x18, x19, x20, x21, x22, x23, x24, x25] 69 (0, 0))) : W.cell? ⟨g, 0, none⟩ = some x0 ∧ W.cell? ⟨g, 2, none⟩ = some x2 ∧ W.cell? ⟨g, 4, none⟩ = some x4 ∧ W.cell? ⟨g, 5, none⟩ = some x5 ∧ W.cell? ⟨g, 12, none⟩ = some x12 ∧ W.cell? ⟨g, 13, none⟩ = some x13 ∧ W.cell? ⟨g, 14, none⟩ = some x14 ∧ W.cell? ⟨g, 15, none⟩ = some x15 ∧ W.cell? ⟨g, 16, none⟩ = some x16 ∧ W.cell? ⟨g, 17, none⟩ = some x17 ∧ W.cell? ⟨g, 18, none⟩ = some x18 ∧ W.cell? ⟨g, 19, none⟩ = some x19 ∧ W.cell? ⟨g, 20, none⟩ = some x20 ∧ W.cell? ⟨g, 21, none⟩ = some x21 ∧ W.cell? ⟨g, 25, none⟩ = some x25 := by
  simp [World.cell?, h]
theorem IsP.one {W : World} {P : Nat → Prop} {ao : Option Addr} {c : Int} (h : IsP W P ao [c]) : ∃ b off, ao = some ⟨b, off, none⟩ ∧ b < W.heap.size ∧ W.cell? ⟨b, off, none⟩ = some (.int .i64 c) := by
  obtain ⟨b, off, e, _, hc⟩ := h (by simp)
  have h0 := hc 0 (by simp)
  have h0 : W.cell? ⟨b, off, none⟩ = some (.int .i64 c) := by simpa using h0
  exact ⟨b, off, e, lt_cell h0, h0⟩
end Go.Proofs.YtidghoipmggklaaGreat
end

section
/- MasterTexts: what stands between the law's regions. No walk here. -/
namespace Go.Proofs.YtidghoipmggklaaGreat
open Go.RowKit
attribute [local go_sem] Oper.semAt_some eq_same_h eq_same_v
def B31 (y : Int) : Prop := 0 ≤ y ∧ y < 2147483648
/-- The law's boxes: the report, the job, the three numbers, the pointers. -/
structure MtI (w wr : World) (g3 g4 g5 g7 : Nat) (C3 C4 C5 : Array Value) : Prop where
  b3 : wr.heap[g3]? = some (.cells C3 57 (0, 0))
  b4 : wr.heap[g4]? = some (.cells C4 27 (0, 0))
  b5 : wr.heap[g5]? = some (.cells C5 95 (0, 0))
  b7 : wr.heap[g7]? = some (.cells #[.pointer (some ⟨g3, 0, none⟩), .pointer (some ⟨g3, 1, none⟩), .pointer (some ⟨g3, 2, none⟩), .pointer (some ⟨g3, 3, none⟩), .pointer (some ⟨g3, 4, none⟩), .pointer (some ⟨g3, 6, none⟩), .pointer (some ⟨g3, 7, none⟩), .pointer (some ⟨g3, 8, none⟩)] 96 (0, 0))
  lo : Below w.heap.size w wr
  ap : w.heap.size ≤ g3 ∧ g3 ≠ g4 ∧ g3 ≠ g5 ∧ g3 ≠ g7
theorem MtI.write {w wr w' : World} {g3 g4 g5 g7 : Nat} {C3 C3' C4 C5 : Array Value} (h : MtI w wr g3 g4 g5 g7 C3 C4 C5) (f : Fr wr w' (fun k => k = g3)) (hb : w'.heap[g3]? = some (.cells C3' 57 (0, 0))) : MtI w w' g3 g4 g5 g7 C3' C4 C5 :=
  ⟨hb, (f.block g4 (ma_lt h.b4) (fun e => h.ap.2.1 e.symm)).trans h.b4, (f.block g5 (ma_lt h.b5) (fun e => h.ap.2.2.1 e.symm)).trans h.b5, (f.block g7 (ma_lt h.b7) (fun e => h.ap.2.2.2 e.symm)).trans h.b7, h.lo.trans (f.below h.lo.size (fun k hk => by rw [hk]; exact h.ap.1)), h.ap⟩
theorem MtI.kept {w wr w' : World} {g3 g4 g5 g7 : Nat} {C3 C4 C5 : Array Value} {S : Nat → Prop} (h : MtI w wr g3 g4 g5 g7 C3 C4 C5) (f : Fr wr w' S) (hS : ∀ k, k < wr.heap.size → S k → k ≠ g3 ∧ k ≠ g4 ∧ k ≠ g5 ∧ k ≠ g7) (hl : ∀ k, S k → w.heap.size ≤ k) : MtI w w' g3 g4 g5 g7 C3 C4 C5 :=
  ⟨(f.block g3 (ma_lt h.b3) (fun s => (hS g3 (ma_lt h.b3) s).1 rfl)).trans h.b3, (f.block g4 (ma_lt h.b4) (fun s => (hS g4 (ma_lt h.b4) s).2.1 rfl)).trans h.b4, (f.block g5 (ma_lt h.b5) (fun s => (hS g5 (ma_lt h.b5) s).2.2.1 rfl)).trans h.b5, (f.block g7 (ma_lt h.b7) (fun s => (hS g7 (ma_lt h.b7) s).2.2.2 rfl)).trans h.b7, h.lo.trans (f.below h.lo.size hl), h.ap⟩
theorem MtI.new {w wr w' : World} {g3 g4 g5 g7 : Nat} {C3 C4 C5 : Array Value} (h : MtI w wr g3 g4 g5 g7 C3 C4 C5) (hb : Below wr.heap.size wr w') : MtI w w' g3 g4 g5 g7 C3 C4 C5 := h.kept (Fr.ofBelow hb (fun _ => False)) (fun _ _ s => s.elim) (fun _ s => s.elim)
theorem MtI.put {w wr : World} {g3 g4 g5 g7 : Nat} {C3 C4 C5 : Array Value} (h : MtI w wr g3 g4 g5 g7 C3 C4 C5) (i : Nat) (v : Value) : MtI w (wr.setCell ⟨g3, i, none⟩ v) g3 g4 g5 g7 (C3.setIfInBounds i v) C4 C5 :=
  h.write (Fr.setCell (S := fun k => k = g3) _ _ _ rfl) (ma_set v h.b3)
theorem MtI.fz {w wr : World} {g3 g4 g5 g7 : Nat} {C3 C4 C5 : Array Value} (h : MtI w wr g3 g4 g5 g7 C3 C4 C5) (i : Nat) : wr.frozen? ⟨g3, i, none⟩ = false := by simp [World.frozen?, h.b3]
/-- What stands once a report was taken again: the boxes, the writer, the reader, the report that was taken. -/
structure MtT (w W : World) (g3 g4 g5 g7 p q gb : Nat) (v : Value) (l : List UInt8) (CB C3 C4 C5 : Array Value) : Prop where
  m : MtI w W g3 g4 g5 g7 C3 C4 C5
  wt : Wr W (p + 1) p v l
  rd : Rd W q (str l ++ ⟨#[120]⟩) (l.length : Nat) 0
  bx : W.heap[gb]? = some (.cells CB 57 (0, 0))
theorem MtT.new {w W W' : World} {g3 g4 g5 g7 p q gb : Nat} {v : Value} {l : List UInt8} {CB C3 C4 C5 : Array Value} (h : MtT w W g3 g4 g5 g7 p q gb v l CB C3 C4 C5) (hb : Below W.heap.size W W') : MtT w W' g3 g4 g5 g7 p q gb v l CB C3 C4 C5 :=
  ⟨h.m.new hb, h.wt.kept (Fr.ofBelow hb (fun _ => False)) (fun h => h) (fun _ _ h => h), h.rd.below hb, (hb.block gb (ma_lt h.bx)).trans h.bx⟩
theorem MtT.made {w w1 w2 w3 : World} {g3 g4 g5 g7 p q : Nat} {v : Value} {l : List UInt8} {Z CB C3 C4 C5 : Array Value} (hm : MtI w w1 g3 g4 g5 g7 C3 C4 C5) (hw : Wr w1 (p + 1) p v l) (hb : Below w1.heap.size w1 w2) (hq : w1.heap.size = q) (hlo : w.heap.size ≤ q) (hr : Rd w3 q (str l ++ ⟨#[120]⟩) (l.length : Nat) 0) (hf : Fr w2 w3 (fun k => k = q)) {W : World} (hW : (w3.alloc (.cells Z 57)).setRow w3.heap.size CB = W) : MtT w W g3 g4 g5 g7 p q w3.heap.size v l CB C3 C4 C5 ∧ Below w3.heap.size w3 W := by
  have h3 := ma_lt hm.b3
  have h4 := ma_lt hm.b4
  have h5 := ma_lt hm.b5
  have h7 := ma_lt hm.b7
  have hp := hw.lt
  have hn := ma_new w3 (.cells Z 57)
  have hk : (w3.alloc (.cells Z 57)).heap[w3.heap.size]? = some (.cells Z 57 (0, 0)) := heap_alloc_new _ _
  have hg : W.heap[w3.heap.size]? = some (.cells CB 57 (0, 0)) := by rw [← hW]; exact setRow_heap _ _ _ _ _ _ hk
  have hfs : Fr (w3.alloc (.cells Z 57)) W (fun k => k = w3.heap.size) := by rw [← hW]; exact ap_setRow _ _ _
  have hl : Below w3.heap.size w3 W := hn.trans (hfs.below hn.size (fun k hk => by omega))
  exact ⟨⟨((hm.new hb).kept hf (fun k _ hk => by omega) (fun k hk => by omega)).new hl, (((hw.kept (Fr.ofBelow hb (fun _ => False)) (fun h => h) (fun _ _ h => h)).kept hf (by omega) (fun k hk => by have := hw.olt k hk; omega)).kept (Fr.ofBelow hl (fun _ => False)) (fun h => h) (fun _ _ h => h)), hr.below hl, hg⟩, hl⟩
theorem mt_range {W : World} {g : Nat} {x0 x1 x2 x3 x4 x5 x6 x7 x8 x9 x10 x11 x12 x13 x14 x15 x16 x17 x18 x19 : Value} (h : W.heap[g]? = some (.cells #[x0, x1, x2, x3, x4, x5, x6, x7, x8, x9, x10, x11, x12, x13, x14, x15, x16, x17, x18, x19] 57 (0, 0))) : W.rangeAt g 9 [x9, x10, x11, x12, x13, x14, x15, x16, x17, x18] := by
  have := World.rangeAt_of_block h 9 10
  simpa using this
theorem mt_cells {W : World} {g : Nat} {x0 x1 x2 x3 x4 x5 x6 x7 x8 x9 x10 x11 x12 x13 x14 x15 x16 x17 x18 x19 : Value} (h : W.heap[g]? = some (.cells #[x0, x1, x2, x3, x4, x5, x6, x7, x8, x9, x10, x11, x12, x13, x14, x15, x16, x17, x18, x19] 57 (0, 0))) : W.cell? ⟨g, 0, none⟩ = some x0 ∧ W.cell? ⟨g, 5, none⟩ = some x5 ∧ W.cell? ⟨g, 9, none⟩ = some x9 ∧ W.cell? ⟨g, 10, none⟩ = some x10 ∧ W.cell? ⟨g, 11, none⟩ = some x11 ∧ W.cell? ⟨g, 12, none⟩ = some x12 ∧ W.cell? ⟨g, 13, none⟩ = some x13 ∧ W.cell? ⟨g, 14, none⟩ = some x14 ∧ W.cell? ⟨g, 15, none⟩ = some x15 ∧ W.cell? ⟨g, 16, none⟩ = some x16 ∧ W.cell? ⟨g, 17, none⟩ = some x17 ∧ W.cell? ⟨g, 18, none⟩ = some x18 ∧ W.cell? ⟨g, 19, none⟩ = some x19 := by
  simp [World.cell?, h]
theorem mt_left {W : World} {q : Nat} {l : List UInt8} (h : Rd W q (str l ++ ⟨#[120]⟩) (l.length : Nat) 0) (hl : l.length ≤ 61000) : Calls Tryz.prog 19 #[.pointer (some ⟨q, 0, none⟩)] W fun r w' => r = .returned (.int .i64 1) ∧ Below W.heap.size W w' := by
  have hs : (str l ++ ⟨#[120]⟩ : ByteArray).size = l.length + 1 := by rw [ByteArray.size_append, str_size]; rfl
  have hL := left_any h (by rw [hs]; unfold maxLen; omega) (by rw [hs]; omega)
  rw [show (((str l ++ ⟨#[120]⟩ : ByteArray).size : Int) - (l.length : Int)) = 1 by rw [hs]; omega] at hL
  refine hL.mono ?_
  rintro r w' ⟨rfl, n, rfl⟩
  exact ⟨rfl, bel_drewN (Below.refl _ _) n⟩
end Go.Proofs.YtidghoipmggklaaGreat
end
