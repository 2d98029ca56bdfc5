/- What Frame returns, in the program and in the document's words: a text's bytes, and their sum's four bytes behind them. -/
import Derived.Test.YtmgjlamglhpnaaaGreatWriterWM
import Derived.Test.YtmgjlamglhpnaaaGreatProg
import Derived.Laws.BitsAllLaws
import Derived.WalkKit
import Derived.WalkSpells
import Derived.WalkLawsBesides
import Derived.Test.YtmgjlamglhpnaaaGreatMoChkM
import Derived.Test.YtmgjlamglhpnaaaGreatGrThereM
import Derived.Test.YtmgjlamglhpnaaaGreatJbR1M
import Derived.Deep.Cut
import Derived.Deep.DeepCutAuto
import Derived.Deep.CutBlock
import Derived.Test.YtmgjlamglhpnaaaGreatRegGM
namespace Go.Proofs.YtmgjlamglhpnaaaGreat
set_option maxRecDepth 100000
open Go.RowKit
theorem str_app (a : List UInt8) (s : ByteArray) : str a ++ s = str (a ++ s.data.toList) := str_append a s.data.toList
theorem reftext_any (s : ByteArray) (w : World) (hs : s.size ≤ 140737488355328) :
  Calls Tryz.prog 34 #[.string s] w fun e w' => e = .returned (.string (str (textB s.data.toList))) ∧ Below w.heap.size w w' := by
 have hN := refnumber_any s.size w (by omega)
 have h1 : (str (numB s.size)).size ≤ 10 := numB_len10 (by omega)
 have HE : Hid (str (numB s.size) ++ s = str (textB s.data.toList)) := by
  show _ = _
  rw [str_app]; unfold textB; simp
 go_enter Tryz.func34, Tryz.ntmps34
 go_wp2_with (go_at_call 36; refine hN.mono ?_; rintro e w1 ⟨rfl, hb⟩)
 go_ret
 rw [← HE.out]
 exact ⟨rfl, hb⟩
def GoodE (G : List Vx) (L : List Ed) (n : Nat) : Prop := (∀ j (h : j < L.length), j < n → (ids G).contains L[j].t = true) ∧ ∀ j (h : j + 1 < L.length), j + 1 < n → L[j].t < L[j + 1].t
theorem good_all {G : List Vx} (H : ∀ j (h : j < G.length), GoodE G G[j].es G[j].es.length) : risesE G = true ∧ thereE G = true := by
 constructor
 ·refine risesE_all (fun j hj => (riseB_iff _).2 (fun i hi => ?_))
  have := (H j hj).2 i (by rw [ends_len] at hi; exact hi) (by rw [ends_len] at hi; exact hi)
  rw [ends_get _ _ (by rw [ends_len] at hi; omega), ends_get _ _ (by rw [ends_len] at hi; exact hi)]
  exact this
 ·unfold thereE
  rw [List.all_eq_true]
  intro v hv
  obtain ⟨j, hj, rfl⟩ := List.getElem_of_mem hv
  rw [List.all_eq_true]
  intro e he
  obtain ⟨i, hi, rfl⟩ := List.getElem_of_mem he
  exact (H j hj).1 i hi hi
theorem bad_there {G : List Vx} {j i : Nat} (hj : j < G.length) (hi : i < G[j].es.length) (h : (ids G).contains G[j].es[i].t = false) : thereE G = false := by
 unfold thereE
 rw [Bool.eq_false_iff]
 intro ha
 rw [List.all_eq_true] at ha
 have h1 := ha _ (List.getElem_mem hj)
 rw [List.all_eq_true] at h1
 have h2 := h1 _ (List.getElem_mem hi)
 rw [h] at h2
 cases h2
theorem bad_rise {G : List Vx} {j i : Nat} (hj : j < G.length) (hi : i + 1 < G[j].es.length) (h : ¬ G[j].es[i].t < G[j].es[i + 1].t) : risesE G = false := by
 refine risesE_at hj (rise_false (j := i) (by rw [ends_len]; exact hi) ?_)
 rw [ends_get _ _ (by omega), ends_get _ _ hi]
 exact h
set_option maxHeartbeats 2000000 in
theorem refcheck_any {w : World} {P : Nat → Prop} {ao : Option Addr} {G : List Vx} (cap : Nat) (h : VxAt w P ao G) (hl : G.length ≤ 9223372036854775807) (hok : ∀ v ∈ G, v.ok) :
  Calls Tryz.prog 19 #[.slice ao G.length cap] w fun r w' => r = .returned (.int .i64 (chk G)) ∧ Below w.heap.size w w' := by
 by_cases hlen : 256 < G.length
 ·have HC : Hid (chk G = 30) := if_pos (Or.inl hlen)
  go_enter Tryz.func19, Tryz.ntmps19
  go_wp2
  go_ret
  exact ⟨by rw [HC.out]; rfl, Below.refl _ _⟩
 ·have HV : Hid (VxAt w P ao G) := h
  have HO : Hid (∀ v ∈ G, v.ok) := hok
  clear h hok
  go_enter Tryz.func19, Tryz.ntmps19
  go_wp2
  go_loopw [3] (fun i wr => ∃ (k : Nat), 1 ≤ k ∧ k ≤ max G.length 1 ∧ i = .int .i64 k ∧ Hid (∀ j (h : j + 1 < (ids G).length), j + 1 < k → (ids G)[j] < (ids G)[j + 1]) ∧ Below w.heap.size w wr) (fun i _ => G.length - (intOf i).toNat)
  case atStart => exact ⟨1, Nat.le_refl _, by omega, rfl, fun j _ hj => absurd hj (by omega), Below.refl _ _⟩
  case round =>
   obtain ⟨k, hk1, hk, rfl, HR, hb⟩ := hrel
   by_cases hlt : k < G.length
   ·obtain ⟨b, off, rfl, hP, hc⟩ := HV.out (by omega)
    obtain ⟨m, HK⟩ : ∃ m, Hid (k = m + 1) := ⟨k - 1, (by omega : k = k - 1 + 1)⟩
    have hmk : k = m + 1 := HK.out
    have hm0 : m < G.length := by omega
    obtain ⟨eo, ec, c0, _, _, _⟩ := hc m hm0
    obtain ⟨fo, fc, f0, _, _, _⟩ := hc k hlt
    have hbb := lt_cell c0
    have d0 := (hb.cell (p := ⟨b, off + m * 3, none⟩) hbb).trans c0
    have g0 := (hb.cell (p := ⟨b, off + k * 3, none⟩) hbb).trans f0
    have HM : Hid ((ids G)[m]'(by rw [ids_len]; omega) = G[m].id) := ids_get G m hm0
    have HN : Hid ((ids G)[k]'(by rw [ids_len]; omega) = G[k].id) := ids_get G k hlt
    have hm1 : IntKind.i64.wrap ((k : Int) - 1) = m := by rw [IntKind.wrap_i64]; omega
    have hm2 : wrap64 ((k : Int) - 1) = m := by unfold wrap64; omega
    clear c0 f0 hc hmk
    generalize G[m] = y at d0 HM
    generalize G[k] = z at g0 HN
    go_wp2
    go_quiet (fail)
    by_cases hr : z.id ≤ y.id
    ·have HC : Hid (chk G = 30) := if_pos (Or.inr (rise_at HK.out (by rw [ids_len]; exact hlt) HM.out HN.out hr))
     go_wp2
     go_ret
     exact ⟨by rw [HC.out]; rfl, bel_drewN hb _⟩
    ·go_wp2
     go_roundw
     case rel => exact ⟨k + 1, by omega, by omega, by go_num, rise_step HK.out (by rw [ids_len]; exact hlt) HM.out HN.out (by omega) HR.out, bel_drewN hb _⟩
     case measure => simp [intOf]; omega
   ·have HRi : Hid (Rise (ids G)) := fun j hj => HR.out j hj (by rw [ids_len] at hj; omega)
    have HRb : Hid (riseB (ids G) = true) := (riseB_iff _).2 HRi.out
    have HC : Hid (chk G = if 2048 < sumE G ∨ risesE G = false ∨ thereE G = false then 31 else 0) := if_neg (by rw [HRb.out]; simp; omega)
    have HVr : Hid (VxAt wr P ao G) := HV.out.new hb
    have hE := refedges_any cap HVr.out hl
    by_cases hs : 2048 < sumE G
    ·go_wp2_with (go_at_call 48; refine hE.mono ?_; rintro r w1 ⟨rfl, hb1⟩)
     go_ret
     exact ⟨by rw [HC.out, if_pos (Or.inl hs)]; rfl, hb.trans (hb1.mono hb.size)⟩
    ·go_wp2_with (go_at_call 48; refine hE.mono ?_; rintro r w1 ⟨rfl, hb1⟩)
     have hbA : Below w.heap.size w w1 := hb.trans (hb1.mono hb.size)
     have HVA : Hid (VxAt w1 P ao G) := HVr.out.new hb1
     clear hE hb1
     go_loopw [4, 5, 6, 7, 8] (fun i _ _ _ _ wx => ∃ (j : Nat), j ≤ G.length ∧ i = .int .i64 j ∧ Hid (∀ q (h : q < G.length), q < j → GoodE G G[q].es G[q].es.length) ∧ Below w.heap.size w wx) (fun i _ _ _ _ _ => G.length - (intOf i).toNat)
     case atStart => exact ⟨0, Nat.zero_le _, rfl, fun q _ hq => absurd hq (by omega), hbA⟩
     case round =>
      obtain ⟨j, hj, rfl, HQ, hbx⟩ := hrel
      by_cases hjl : j < G.length
      ·obtain ⟨b, off, rfl, hP, hc⟩ := HV.out (by omega)
       obtain ⟨eo, ec, e0, e1, e2, e3⟩ := hc j hjl
       have hbb := lt_cell e0
       have d2 := (hbx.cell (p := ⟨b, off + j * 3 + 2, none⟩) hbb).trans e2
       have HE : Hid (EdAt w P eo G[j].es) := e3
       have hel : G[j].es.length ≤ 9223372036854775807 := Nat.le_trans (HO.out _ (List.getElem_mem hjl)).len (by decide)
       have HB1 : Hid (∀ y, G[j] = y → ∀ i (h : i < y.es.length), (ids G).contains y.es[i].t = false → thereE G = false) := fun y e i hi hcn => by subst e; exact bad_there hjl hi hcn
       have HB2 : Hid (∀ y, G[j] = y → ∀ i (h : i + 1 < y.es.length), ¬ y.es[i].t < y.es[i + 1].t → risesE G = false) := fun y e i hi hcn => by subst e; exact bad_rise hjl hi hcn
       have HB3 : Hid (∀ y, G[j] = y → GoodE G y.es y.es.length → ∀ q (h : q < G.length), q < j + 1 → GoodE G G[q].es G[q].es.length) := fun y e hg q hq hqj => by
        by_cases eq : q = j
        ·subst eq; rw [e]; exact hg
        ·exact HQ.out q hq (by omega)
       obtain ⟨y, hy⟩ : ∃ y, G[j] = y := ⟨_, rfl⟩
       have HY : Hid (G[j] = y) := hy
       rw [hy] at d2 HE hel
       clear hy e0 e1 e2 e3 hc
       go_wp2
       go_loopw [6, 7, 8] (fun i _ _ wx => ∃ (k : Nat), k ≤ y.es.length ∧ i = .int .i64 k ∧ Hid (GoodE G y.es k) ∧ Below w.heap.size w wx) (fun i _ _ _ => y.es.length - (intOf i).toNat)
       case atStart => exact ⟨0, Nat.zero_le _, rfl, ⟨fun q _ hq => absurd hq (by omega), fun q _ hq => absurd hq (by omega)⟩, hbx⟩
       case round =>
        obtain ⟨k, hk, rfl, HD, hby⟩ := hrel
        by_cases hkl : k < y.es.length
        ·obtain ⟨eb, eoff, rfl, hPe, hce⟩ := HE.out (by omega)
         have f0 := (hby.cell (p := ⟨eb, eoff + k * 2, none⟩) (lt_cell (hce k hkl).1)).trans (hce k hkl).1
         have hF := reffind_any cap y.es[k].t (HV.out.new hby) hl
         have HP1 : Hid (foundB (ids G) y.es[k].t = (ids G).contains y.es[k].t) := foundB_iff HRi.out _
         have HN : Hid (∀ z, y.es[k] = z → (ids G).contains z.t = false → thereE G = false) := fun z e hcn => HB1.out y HY.out k hkl (by rw [e]; exact hcn)
         cases hfb : foundB (ids G) y.es[k].t with
         | false =>
          rw [hfb] at hF HP1
          have HT : Hid (thereE G = false) := HB1.out y HY.out k hkl HP1.out.symm
          clear hfb hce
          generalize y.es[k] = z at f0 hF
          go_wp2_with (go_at_call 49; refine hF.mono ?_; rintro r w2 ⟨rfl, hb2⟩)
          go_quiet (fail)
          go_wp2
          go_ret
          exact ⟨by rw [HC.out, if_pos (Or.inr (Or.inr HT.out))]; rfl, bel_drewN (hby.trans (hb2.mono hby.size)) _⟩
         | true =>
          rw [hfb] at hF HP1
          by_cases hk0 : k = 0
          ·have HG : Hid (GoodE G y.es (k + 1)) := ⟨fun q hq hqk => by
            obtain rfl : q = k := by omega
            exact HP1.out.symm, fun q _ hq => absurd hq (by omega)⟩
           have hd : decide (0 < k) = false := by rw [decide_eq_false_iff_not]; omega
           clear hfb hce hk0
           generalize y.es[k] = z at f0 hF
           go_wp2_with (go_at_call 49; refine hF.mono ?_; rintro r w2 ⟨rfl, hb2⟩)
           go_quiet (fail)
           go_wp2
           go_roundw
           case rel => exact ⟨k + 1, by omega, by go_num, HG.out, bel_drewN (hby.trans (hb2.mono hby.size)) _⟩
           case measure => simp [intOf]; omega
          ·obtain ⟨m, HK⟩ : ∃ m, Hid (k = m + 1) := ⟨k - 1, (by omega : k = k - 1 + 1)⟩
           have hmk : k = m + 1 := HK.out
           have hm0 : m < y.es.length := by omega
           have g0 := (hby.cell (p := ⟨eb, eoff + m * 2, none⟩) (lt_cell (hce m hm0).1)).trans (hce m hm0).1
           have hm1 : IntKind.i64.wrap ((k : Int) - 1) = m := by rw [IntKind.wrap_i64]; omega
           have hm2 : wrap64 ((k : Int) - 1) = m := by unfold wrap64; omega
           have hpos : decide (0 < k) = true := by rw [decide_eq_true_iff]; omega
           have hebw : eb < w.heap.size := lt_cell (hce k hkl).1
           have HG : Hid (∀ u z, y.es[m] = u → y.es[k] = z → u.t < z.t → GoodE G y.es (k + 1)) := fun u z hu hz hlt2 => ⟨fun q hq hqk => by
            by_cases e : q = k
            ·subst e; exact HP1.out.symm
            ·exact HD.out.1 q hq (by omega), fun q hq hqk => by
            by_cases e : q = m
            ·subst e; subst hmk; rw [hu, hz]; exact hlt2
            ·exact HD.out.2 q hq (by omega)⟩
           have HX : Hid (∀ u z, y.es[m] = u → y.es[k] = z → ¬ u.t < z.t → risesE G = false) := fun u z hu hz hn => HB2.out y HY.out m (by omega) (by subst hmk; rw [hu, hz]; omega)
           obtain ⟨u, hu⟩ : ∃ u, y.es[m] = u := ⟨_, rfl⟩
           obtain ⟨z, hz⟩ : ∃ z, y.es[k] = z := ⟨_, rfl⟩
           have HU : Hid (y.es[m] = u) := hu
           have HZ : Hid (y.es[k] = z) := hz
           rw [hu] at g0
           rw [hz] at f0 hF
           clear hfb hce hk0 hu hz hmk
           go_wp2_with (go_at_call 49; refine hF.mono ?_; rintro r w2 ⟨rfl, hb2⟩; have f1 := (hb2.cell (p := ⟨eb, eoff + k * 2, none⟩) (Nat.lt_of_lt_of_le hebw hby.size)).trans f0; have g1 := (hb2.cell (p := ⟨eb, eoff + m * 2, none⟩) (Nat.lt_of_lt_of_le hebw hby.size)).trans g0)
           go_quiet (fail)
           by_cases hr : z.t ≤ u.t
           ·have HT : Hid (risesE G = false) := HX.out u z HU.out HZ.out (by omega)
            go_wp2
            go_ret
            exact ⟨by rw [HC.out, if_pos (Or.inr (Or.inl HT.out))]; rfl, bel_drewN (hby.trans (hb2.mono hby.size)) _⟩
           ·go_wp2
            go_roundw
            case rel => exact ⟨k + 1, by omega, by go_num, HG.out u z HU.out HZ.out (by omega), bel_drewN (hby.trans (hb2.mono hby.size)) _⟩
            case measure => simp [intOf]; omega
        ·obtain rfl : k = y.es.length := by omega
         go_wp2
         go_roundw
         case rel => exact ⟨j + 1, by omega, by go_num, HB3.out y HY.out HD.out, hby⟩
         case measure => simp [intOf]; omega
      ·have HT := good_all (fun q hq => HQ.out q hq (by omega))
       have HE0 : Hid (chk G = 0) := HC.out.trans (if_neg (by rw [HT.1, HT.2]; simp; omega))
       clear HT
       go_wp2
       go_ret
       exact ⟨by rw [HE0.out]; rfl, hbx⟩
theorem two_newJ (w : World) (a b : Obj) {W : World} (h : (w.alloc a).alloc b = W) : W.heap[w.heap.size]? = some a ∧ W.heap[w.heap.size + 1]? = some b ∧ Below w.heap.size w W ∧ W.heap.size = w.heap.size + 2 := by
 have h1 := heap_alloc_new w a
 have h2 := heap_alloc_new (w.alloc a) b
 simp only [World.size_alloc] at h2
 have b1 := one_new (w.alloc a) b
 rw [← h]
 exact ⟨(b1.block _ (by simp)).trans h1, h2, (one_new w a).trans (b1.mono (by simp)), by simp⟩
set_option maxHeartbeats 1000000 in
theorem jref_any {w : World} {P : Nat → Prop} {go po : Option Addr} {gn gc pn pc : Nat} {t : ByteArray} {G : List Vx} {st se pa : Int} (hn : gn = G.length) (hG : VxAt w P go G) (hok : ∀ v ∈ G, v.ok) (hl : G.length * 40 ≤ 140737488355328) :
  Calls Tryz.prog 6 #[.agg #[.string t, .slice go gn gc, .slice po pn pc, .int .i64 st, .int .i64 se, .int .i64 pa]] w fun r w' => (∃ ho hc, r = .returned (.agg #[.string t, .slice ho G.length hc, .slice po pn pc, .int .i64 st, .int .i64 se, .int .i64 pa]) ∧ VxAt w' (fun k => w.heap.size ≤ k) ho G) ∧ Below w.heap.size w w' := by
 have HRf : Hid (∀ W, Below w.heap.size w W → Calls Tryz.prog 21 #[.agg #[.slice go gn gc]] W fun r w' => ∃ ho hc, r = .returned (.slice ho G.length hc) ∧ VxAt w' (fun k => W.heap.size ≤ k) ho G ∧ Below W.heap.size W w') := fun W hb => by subst hn; exact ref_any G gc (hG.new hb) hok hl
 clear hn hG hok hl
 go_enter Tryz.func6, Tryz.ntmps6
 go_upto_region 1 with (fail)
 generalize hW0 : World.alloc (World.alloc w _) _ = W0
 obtain ⟨k0, k1, kb, ks⟩ := two_newJ w _ _ hW0
 refine jref_r1 (bx := w.heap.size) (bo := w.heap.size + 1) (go := go) (gn := gn) (gc := gc) (po := po) (pn := pn) (pc := pc) (t := t) (st := st) (se := se) (pa := pa) (G := G) rfl rfl rfl k0 k1 (fun W hb => HRf.out W (kb.trans (hb.mono kb.size))) ?_
 intro X W W1 ho hc hb hW1 hV
 have HB1 : Hid (W.heap[w.heap.size + 1]? = _) := (hb.block _ (by omega)).trans k1
 have HB : Hid (Below w.heap.size w W) := kb.trans (hb.mono kb.size)
 have HV : Hid (VxAt W (fun k => w.heap.size + 2 ≤ k) ho G) := by rw [← ks]; exact hV
 subst hW1
 clear hW0 k0 k1 kb ks hb hV HRf
 simp only [puts]
 generalize X 3 = x3
 generalize X 4 = x4
 generalize X 5 = x5
 generalize X 6 = x6
 generalize X 7 = x7
 generalize X 8 = x8
 generalize X 9 = x9
 generalize X 10 = x10
 generalize X 11 = x11
 generalize X 12 = x12
 generalize X 13 = x13
 generalize X 14 = x14
 generalize X 15 = x15
 generalize X 16 = x16
 simp only [Act.put, List.setIfInBounds_toArray, List.set_cons_succ, List.set_cons_zero]
 go_wp2
 refine bodyPost_ret (v := .agg #[.string t, .slice ho G.length hc, .slice po pn pc, .int .i64 st, .int .i64 se, .int .i64 pa]) (results_cell_row Tryz.results6 _ _ (w.heap.size + 1) 34 _ (0, 0) _ rfl (setRow_heap _ _ _ _ _ _ HB1.out) Tryz.underlying34 rfl size_jobR) rfl ?_
 have fS := fr_setRow W (w.heap.size + 1) #[.string t, .slice ho G.length hc, .slice po pn pc, .int .i64 st, .int .i64 se, .int .i64 pa]
 exact ⟨⟨ho, hc, rfl, HV.out.kept fS (fun k _ hk => ⟨by omega, by omega⟩)⟩, k_setRow HB.out (by omega) _⟩
set_option maxHeartbeats 2000000 in
theorem rjcheck_any {w : World} {P : Nat → Prop} {go po : Option Addr} {gn gc pn pc : Nat} {s : ByteArray} {G : List Vx} {ps : List Int} {st se pa jn : Int} (hn : gn = G.length) (hp : pn = ps.length) (hG : VxAt w P go G) (hok : ∀ v ∈ G, v.ok) (hl : G.length ≤ 9223372036854775807) (hL : IsAt w po ps) (hpl : ps.length ≤ 9223372036854775807) (hj : jobN s G ps st se pa = jn) :
  Calls Tryz.prog 5 #[.agg #[.string s, .slice go gn gc, .slice po pn pc, .int .i64 st, .int .i64 se, .int .i64 pa]] w fun r w' => r = .returned (.int .i64 jn) ∧ Below w.heap.size w w' := by
 obtain ⟨W0, hW0⟩ : ∃ W0, w.alloc (.cells #[.string s, .slice go gn gc, .slice po pn pc, .int .i64 st, .int .i64 se, .int .i64 pa] 34) = W0 := ⟨_, rfl⟩
 have hb0 : Below w.heap.size w W0 := by rw [← hW0]; exact one_newK _ _
 have hJ0 : JobBoxR W0 w.heap.size #[.string s, .slice go gn gc, .slice po pn pc, .int .i64 st, .int .i64 se, .int .i64 pa] := by rw [← hW0]; exact heap_alloc_new _ _
 obtain ⟨c0, c1, c2, c3, c4, c5⟩ := jobr_cells hJ0
 have hpn : pn ≤ 9223372036854775807 := by rw [hp]; exact hpl
 have hgl : gn ≤ 9223372036854775807 := by rw [hn]; exact hl
 have HK : Hid _ := rknown_all s W0
 have HCk : Hid (∀ W, Below W0.heap.size W0 W → Calls Tryz.prog 19 #[.slice go gn gc] W fun r w' => r = .returned (.int .i64 (chk G)) ∧ Below W.heap.size W w') := fun W hb => by rw [hn]; exact refcheck_any gc ((hG.new hb0).new hb) hl hok
 have HMc : Hid (chk G = 0 → ∀ W, Below W0.heap.size W0 W → Calls Tryz.prog 20 #[.string s, .slice go gn gc, .slice po pn pc] W fun r w' => r = .returned (.int .i64 (mcheckN s G ps)) ∧ Below W.heap.size W w') := fun h0 W hb => rcheck_all hn hp ((hG.new hb0).new hb) hok ((hL.new hb0).new hb) (chk_okJ h0).1
 have HJ : Hid (jn = if allS s = false then 70 else if ¬ chk G = 0 then chk G else if 4 < ps.length then 71 else if ¬ mcheckN s G ps = 0 then mcheckN s G ps else if (1 ≤ st ∧ st ≤ 1000) ∧ (0 ≤ se ∧ se ≤ 65536) ∧ (1 ≤ pa ∧ pa ≤ 16) then 0 else 90) := hj.symm
 have HJ0 : Hid _ := hJ0
 have HB0 : Hid _ := hb0
 have HPn : Hid _ := hp
 clear hn hp hG hok hL hb0 hJ0 hl hpl hj
 cases hk : allS s
 ·rw [hk] at HK HJ
  go_enter Tryz.func5, Tryz.ntmps5
  go_wp2_with (go_at_call 18; refine Calls.mono HK.out ?_; rintro r w1 ⟨rfl, hb1⟩; have HB1 : Hid _ := hb1; clear hb1)
  go_ret
  exact ⟨by rw [HJ.out]; rfl, HB0.out.trans (HB1.out.mono HB0.out.size)⟩
 ·rw [hk] at HK HJ
  generalize chk G = cg at HCk HMc HJ
  go_enter Tryz.func5, Tryz.ntmps5
  go_upto_region 3 with (go_at_call 18; refine Calls.mono HK.out ?_; rintro r w1 ⟨rfl, hb1⟩; have HB1 : Hid _ := hb1; clear hb1)
  obtain ⟨d0, d1, d2, d3, d4, d5⟩ := jobr_cells ((HB1.out.block _ (Array.getElem?_eq_some_iff.1 HJ0.out).1).trans HJ0.out)
  clear c0 c1 c2 c3 c4 c5 HK
  by_cases hcg : cg = 0
  ·subst hcg
   go_upto_region 6 with (go_at_call 19; refine Calls.mono (HCk.out _ HB1.out) ?_; rintro r w2 ⟨rfl, hb2⟩; have HB2 : Hid (Below W0.heap.size W0 w2) := HB1.out.trans (hb2.mono HB1.out.size); clear hb2)
   obtain ⟨e0, e1, e2, e3, e4, e5⟩ := jobr_cells ((HB2.out.block _ (Array.getElem?_eq_some_iff.1 HJ0.out).1).trans HJ0.out)
   clear d0 d1 d2 d3 d4 d5 HCk HB1
   by_cases h4 : 4 < pn
   ·go_wp2
    go_ret
    exact ⟨by rw [HJ.out, ← HPn.out]; simp [h4], HB0.out.trans (HB2.out.mono HB0.out.size)⟩
   ·have HM : Hid _ := HMc.out (by first | exact trivial | rfl) _ HB2.out
    generalize mcheckN s G ps = mc at HM HJ
    clear HMc
    go_upto_region 9 with (go_at_call 20; refine Calls.mono HM.out ?_; rintro r w3 ⟨rfl, hb3⟩; have HB3 : Hid (Below W0.heap.size W0 w3) := HB2.out.trans (hb3.mono HB2.out.size); clear hb3)
    obtain ⟨f0, f1, f2, f3, f4, f5⟩ := jobr_cells ((HB3.out.block _ (Array.getElem?_eq_some_iff.1 HJ0.out).1).trans HJ0.out)
    clear e0 e1 e2 e3 e4 e5 HM HB2
    by_cases hmc : mc = 0
    ·subst hmc
     have HJ2 : Hid (jn = if (1 ≤ st ∧ st ≤ 1000) ∧ (0 ≤ se ∧ se ≤ 65536) ∧ (1 ≤ pa ∧ pa ≤ 16) then 0 else 90) := by
      show _ = _
      rw [HJ.out, ← HPn.out]
      simp [h4]
     clear HJ
     have HF : Hid (Below w.heap.size w w3) := HB0.out.trans (HB3.out.mono HB0.out.size)
     clear f0 f1 f2
     by_cases a1 : st < 1
     ·have HE : Hid (jn = 90) := by show _ = _; rw [HJ2.out, if_neg (by omega)]
      have d1 : decide (st < 1) = true := by simpa using a1
      go_wp2
      go_ret
      exact ⟨by rw [HE.out]; rfl, HF.out⟩
     by_cases a2 : 1000 < st
     ·have HE : Hid (jn = 90) := by show _ = _; rw [HJ2.out, if_neg (by omega)]
      have d1 : decide (st < 1) = false := by simpa using a1
      have d2 : decide (1000 < st) = true := by simpa using a2
      go_wp2
      go_ret
      exact ⟨by rw [HE.out]; rfl, HF.out⟩
     by_cases a3 : se < 0
     ·have HE : Hid (jn = 90) := by show _ = _; rw [HJ2.out, if_neg (by omega)]
      have d1 : decide (st < 1) = false := by simpa using a1
      have d2 : decide (1000 < st) = false := by simpa using a2
      have d3 : decide (se < 0) = true := by simpa using a3
      go_wp2
      go_ret
      exact ⟨by rw [HE.out]; rfl, HF.out⟩
     by_cases a4 : 65536 < se
     ·have HE : Hid (jn = 90) := by show _ = _; rw [HJ2.out, if_neg (by omega)]
      have d1 : decide (st < 1) = false := by simpa using a1
      have d2 : decide (1000 < st) = false := by simpa using a2
      have d3 : decide (se < 0) = false := by simpa using a3
      have d4 : decide (65536 < se) = true := by simpa using a4
      go_wp2
      go_ret
      exact ⟨by rw [HE.out]; rfl, HF.out⟩
     by_cases a5 : pa < 1
     ·have HE : Hid (jn = 90) := by show _ = _; rw [HJ2.out, if_neg (by omega)]
      have d1 : decide (st < 1) = false := by simpa using a1
      have d2 : decide (1000 < st) = false := by simpa using a2
      have d3 : decide (se < 0) = false := by simpa using a3
      have d4 : decide (65536 < se) = false := by simpa using a4
      have d5 : decide (pa < 1) = true := by simpa using a5
      go_wp2
      go_ret
      exact ⟨by rw [HE.out]; rfl, HF.out⟩
     by_cases a6 : 16 < pa
     ·have HE : Hid (jn = 90) := by show _ = _; rw [HJ2.out, if_neg (by omega)]
      have d1 : decide (st < 1) = false := by simpa using a1
      have d2 : decide (1000 < st) = false := by simpa using a2
      have d3 : decide (se < 0) = false := by simpa using a3
      have d4 : decide (65536 < se) = false := by simpa using a4
      have d5 : decide (pa < 1) = false := by simpa using a5
      have d6 : decide (16 < pa) = true := by simpa using a6
      go_wp2
      go_ret
      exact ⟨by rw [HE.out]; rfl, HF.out⟩
     ·have HE : Hid (jn = 0) := by show _ = _; rw [HJ2.out, if_pos (by omega)]
      have d1 : decide (st < 1) = false := by simpa using a1
      have d2 : decide (1000 < st) = false := by simpa using a2
      have d3 : decide (se < 0) = false := by simpa using a3
      have d4 : decide (65536 < se) = false := by simpa using a4
      have d5 : decide (pa < 1) = false := by simpa using a5
      have d6 : decide (16 < pa) = false := by simpa using a6
      go_wp2
      go_ret
      exact ⟨by rw [HE.out]; rfl, HF.out⟩
    ·have hmc' : (mc != 0) = true := by simpa using hmc
     go_wp2
     go_ret
     exact ⟨by rw [HJ.out, ← HPn.out]; simp [h4, hmc], HB0.out.trans (HB3.out.mono HB0.out.size)⟩
  ·have hcg' : (cg != 0) = true := by simpa using hcg
   go_wp2_with (go_at_call 19; refine Calls.mono (HCk.out _ HB1.out) ?_; rintro r w2 ⟨rfl, hb2⟩; have HB2 : Hid (Below W0.heap.size W0 w2) := HB1.out.trans (hb2.mono HB1.out.size); clear hb2)
   go_ret
   exact ⟨by rw [HJ.out]; simp [hcg], HB0.out.trans (HB2.out.mono HB0.out.size)⟩
set_option maxHeartbeats 2000000 in
theorem jobbytes_any {w : World} {P : Nat → Prop} {go po : Option Addr} {gn gc pn pc : Nat} {t : ByteArray} {G : List Vx} {ps : List Int} {st se pa : Nat} (hn : gn = G.length) (hp : pn = ps.length) (hG : VxAt w P go G) (hL : IsAt w po ps) (ht : t.size ≤ 9) (hok : ∀ v ∈ G, v.ok) (hc : chk G = 0) (hpl : ps.length ≤ 4) (hpk : ∀ x ∈ ps, I64 x) (hst : st ≤ 1000) (hse : se ≤ 65536) (hpa : pa ≤ 16) :
  Calls Tryz.prog 14 #[.agg #[.string t, .slice go gn gc, .slice po pn pc, .int .i64 (st : Int), .int .i64 (se : Int), .int .i64 (pa : Int)]] w fun r w' => r = .returned (.string (str (jobB t G ps st se pa))) ∧ Below w.heap.size w w' := by
 obtain ⟨r1, r2, r3, r4, r5, r6, r7, r8⟩ := job_rooms ht hok hc hpl hpk hst hse hpa
 have hrm := room_ok hc hok
 have hgl := (chk_ok hc).1
 obtain ⟨W0, hW0⟩ : ∃ W0, w.alloc (.cells #[.string t, .slice go gn gc, .slice po pn pc, .int .i64 (st : Int), .int .i64 (se : Int), .int .i64 (pa : Int)] 34) = W0 := ⟨_, rfl⟩
 have hb0 : Below w.heap.size w W0 := by rw [← hW0]; exact one_new _ _
 have HB : Hid (JobBoxR W0 w.heap.size #[.string t, .slice go gn gc, .slice po pn pc, .int .i64 (st : Int), .int .i64 (se : Int), .int .i64 (pa : Int)]) := by rw [← hW0]; exact heap_alloc_new _ _
 have HB0 : Hid (Below w.heap.size w W0) := hb0
 have HTx : Hid (∀ W, Calls Tryz.prog 34 #[.string t] W fun r w' => r = .returned (.string (str (textB t.data.toList))) ∧ Below W.heap.size W w') := fun W => reftext_any t W (by omega)
 have HGb : Hid (∀ W, Below W0.heap.size W0 W → Calls Tryz.prog 35 #[.slice go gn gc] W fun r w' => r = .returned (.string (str (grB G))) ∧ Below W.heap.size W w') := fun W hb => by rw [hn]; exact refbytes_any G gc ((hG.new hb0).new hb) hok hgl hrm.2 hrm.1
 have HL : Hid (IsAt W0 po ps) := hL.new hb0
 have HPK : Hid (∀ x ∈ ps, I64 x) := hpk
 have HPn : Hid _ := hp
 have HR4 : Hid _ := r4
 have hpn : pn ≤ 4 := by rw [hp]; exact hpl
 have r3' : (numB pn).length ≤ 10 := by rw [hp]; exact r3
 have HH : Hid (str (textB t.data.toList) ++ str (grB G) ++ str (numB pn) = str (textB t.data.toList ++ grB G ++ numB pn)) := by show _ = _; rw [str_append, str_append]
 have HHl : Hid ((textB t.data.toList ++ grB G ++ numB pn).length ≤ 50030) := by show _ ≤ _; simp only [List.length_append]; omega
 have HFin : Hid (textB t.data.toList ++ grB G ++ numB pn ++ ps.flatMap sgB ++ numB st ++ numB se ++ numB pa = jobB t G ps st se pa) := by show _ = _; unfold jobB; rw [hp]
 clear hn hp hG hL hok hpk hb0 hrm r4
 go_enter Tryz.func14, Tryz.ntmps14
 go_upto_region 1 with (fail)
 refine jb_r1 (bx := w.heap.size) (go := go) (gn := gn) (gc := gc) (po := po) (pn := pn) (pc := pc) (t := t) (st := st) (se := se) (pa := pa) (z0 := str (textB t.data.toList)) (z1 := str (grB G)) (z2 := str (numB pn)) rfl rfl HB.out HTx.out HGb.out (by omega) rfl (by rw [str_size, str_size]; omega) (by rw [str_size, str_size, str_size]; omega) ?_
 intro X W1 hb1 x3
 have HB1 : Hid (Below W0.heap.size W0 W1) := hb1
 clear hb1 hW0 HTx HGb
 simp only [puts]
 rw [x3, HH.out]
 clear x3 HH
 generalize X 5 = x5
 generalize X 6 = x6
 generalize X 7 = x7
 generalize X 8 = x8
 generalize X 9 = x9
 generalize X 10 = x10
 generalize X 11 = x11
 generalize X 12 = x12
 generalize X 13 = x13
 generalize X 14 = x14
 generalize X 15 = x15
 generalize X 16 = x16
 generalize X 17 = x17
 simp only [Act.put, List.setIfInBounds_toArray, List.set_cons_succ, List.set_cons_zero]
 go_upto_block 0 with (fail)
 go_wp2
 go_loopw [3, 4] (fun q i wr => ∃ j : Nat, j ≤ pn ∧ q = .string (str (textB t.data.toList ++ grB G ++ numB pn ++ (ps.take j).flatMap sgB)) ∧ i = .int .i64 j ∧ Below W0.heap.size W0 wr) (fun _ i _ => pn - (intOf i).toNat)
 case atStart => exact ⟨0, Nat.zero_le _, by rw [List.take_zero, List.flatMap_nil, List.append_nil], rfl, HB1.out⟩
 case round =>
  obtain ⟨j, hj, rfl, rfl, hbj⟩ := hrel
  have c2 : wr.cell? ⟨w.heap.size, 2, none⟩ = some (.slice po pn pc) := (jobr_cells ((hbj.block _ (Array.getElem?_eq_some_iff.1 HB.out).1).trans HB.out)).2.2.1
  have HBj : Hid _ := hbj
  have hlj : (textB t.data.toList ++ grB G ++ numB pn ++ (ps.take j).flatMap sgB).length ≤ 50070 := by
   have h1 := HR4.out j
   have h2 := HHl.out
   rw [List.length_append]; omega
  by_cases hlt : j < pn
  ·have hjL : j < ps.length := by rw [← HPn.out]; exact hlt
   obtain ⟨b, off, rfl, hcs⟩ := HL.out (by omega)
   have e0 := (hbj.cell (p := ⟨b, off + j, none⟩) (lt_cell (hcs j hjL))).trans (hcs j hjL)
   have HZ : Hid (I64 ps[j]) := HPK.out _ (List.getElem_mem hjL)
   have HS : Hid (str (textB t.data.toList ++ grB G ++ numB pn ++ (ps.take j).flatMap sgB) ++ str (sgB ps[j]) = str (textB t.data.toList ++ grB G ++ numB pn ++ (ps.take (j + 1)).flatMap sgB)) := by
    show _ = _
    rw [str_append, ps_snoc ps j hjL]; simp only [List.append_assoc]
   generalize ps[j] = z at e0 HZ HS
   have s1 := sgB_len HZ.out
   have hs2 : ¬ 9223372036854775807 < (str (textB t.data.toList ++ grB G ++ numB pn ++ (ps.take j).flatMap sgB)).size + (str (sgB z)).size := by rw [str_size, str_size]; omega
   generalize hQ : str (textB t.data.toList ++ grB G ++ numB pn ++ (ps.take j).flatMap sgB) = Q0 at HS hs2 ⊢
   clear hcs hbj hQ
   go_wp2_with (go_at_call 37; refine (jsg_any z _ HZ.out).mono ?_; rintro r w2 ⟨rfl, hb2⟩; have HB2 : Hid (Below W0.heap.size W0 w2) := HBj.out.trans (hb2.mono HBj.out.size); clear hb2)
   go_roundw
   case rel => exact ⟨j + 1, by omega, by rw [HS.out], by go_num, HB2.out⟩
   case measure => simp [intOf]; omega
  ·obtain rfl : j = pn := by omega
   have HF : Hid ((ps.take j).flatMap sgB = ps.flatMap sgB) := by show _ = _; rw [List.take_of_length_le (by rw [HPn.out]; exact Nat.le_refl _)]
   rw [HF.out] at hlj ⊢
   have HBx : Hid (JobBoxR wr w.heap.size #[.string t, .slice go gn gc, .slice po j pc, .int .i64 (st : Int), .int .i64 (se : Int), .int .i64 (pa : Int)]) := (hbj.block _ (Array.getElem?_eq_some_iff.1 HB.out).1).trans HB.out
   clear hbj
   go_upto_region 6 with (fail)
   refine jb_r6 (bx := w.heap.size) (go := go) (gn := gn) (gc := gc) (po := po) (pn := j) (pc := pc) (t := t) (st := st) (se := se) (pa := pa) (z0 := str (numB st)) (z1 := str (numB se)) (z2 := str (numB pa)) (s0 := str (textB t.data.toList ++ grB G ++ numB j ++ ps.flatMap sgB)) rfl rfl HBx.out rfl (by omega) rfl (by omega) rfl (by omega) rfl (by rw [str_size, str_size]; omega) (by rw [str_size, str_size, str_size]; omega) (by rw [str_size, str_size, str_size, str_size]; omega) ?_
   intro X2 W2 hb2 y3
   have HB2 : Hid (Below w.heap.size w W2) := HB0.out.trans ((HBj.out.trans (hb2.mono HBj.out.size)).mono HB0.out.size)
   have HY : Hid (X2 2 = .string (str (jobB t G ps st se pa))) := by
    show _ = _
    rw [y3, str_append, str_append, str_append, HFin.out]
   clear hb2 y3
   simp only [puts]
   rw [HY.out]
   simp only [Act.put, List.setIfInBounds_toArray, List.set_cons_succ, List.set_cons_zero]
   go_wp2
   go_ret
   exact ⟨rfl, HB2.out⟩
set_option maxHeartbeats 4000000 in
theorem rj_r19 {W0 : World} {A : Act} {bk bx gn gc pn pc hn hc qn qc : Nat} {go po ho qo : Option Addr} {t z0 : ByteArray} {st se pa : Int} {K : Act → World → Prop} {Q' : Exit → Act → World → Prop} (hsz : A.tmps.size = 124) (hA13 : A.eval (.tmp 13) = .pointer (some ⟨bk, 0, none⟩)) (hA15 : A.eval (.tmp 15) = .pointer (some ⟨bx, 0, none⟩)) (hA16 : A.eval (.tmp 16) = .int .i64 0) (hK : JobBoxC W0 bk #[.string t, .slice go gn gc, .slice po pn pc, .int .i64 st, .int .i64 se, .int .i64 pa]) (hX : JobBoxR W0 bx #[.string t, .slice ho hn hc, .slice qo qn qc, .int .i64 st, .int .i64 se, .int .i64 pa]) (hRf : ∀ W, Below W0.heap.size W0 W → Calls Tryz.prog 6 #[.agg #[.string t, .slice go gn gc, .slice po pn pc, .int .i64 st, .int .i64 se, .int .i64 pa]] W fun r w' => (∃ v1, r = .returned v1 ∧ ∀ W', Below w'.heap.size w' W' → Calls Tryz.prog 14 #[v1] W' fun r w2 => r = .returned (.string z0) ∧ Below W'.heap.size W' w2) ∧ Below W.heap.size W w') (hJx : ∀ W, Below W0.heap.size W0 W → Calls Tryz.prog 14 #[.agg #[.string t, .slice ho hn hc, .slice qo qn qc, .int .i64 st, .int .i64 se, .int .i64 pa]] W fun r w' => r = .returned (.string z0) ∧ Below W.heap.size W w')
  (HK : ∀ X W, Below W0.heap.size W0 W → X 4 = .bool true → K (puts A X [98, 99, 100, 101, 102, 103, 104, 105, 106, 107, 108, 109, 110, 111, 112, 113, 114, 115, 116, 117, 118, 119, 120, 121, 122, 123, 4]) W) :
  Code.wp Tryz.prog ((Tryz.f3.body.bind (regionJ 19)).getD .skip) (Exit.then K Q') A W0 := by
 obtain ⟨ds, hds⟩ : ∃ ds, [98, 99, 100, 101, 102, 103, 104, 105, 106, 107, 108, 109, 110, 111, 112, 113, 114, 115, 116, 117, 118, 119, 120, 121, 122, 123, 4] = ds := ⟨_, rfl⟩
 have hlt : ∀ d ∈ [98, 99, 100, 101, 102, 103, 104, 105, 106, 107, 108, 109, 110, 111, 112, 113, 114, 115, 116, 117, 118, 119, 120, 121, 122, 123, 4], d < A.tmps.size := by rw [hsz]; decide
 have hin : ∀ {X : Nat → Value} {k : Nat}, k ∈ [98, 99, 100, 101, 102, 103, 104, 105, 106, 107, 108, 109, 110, 111, 112, 113, 114, 115, 116, 117, 118, 119, 120, 121, 122, 123, 4] → (puts A X ds).eval (.tmp k) = X k := fun hk => by rw [← hds]; exact eval_in hk (hlt _ hk)
 have hout : ∀ {X : Nat → Value} {k : Nat}, k ∉ [98, 99, 100, 101, 102, 103, 104, 105, 106, 107, 108, 109, 110, 111, 112, 113, 114, 115, 116, 117, 118, 119, 120, 121, 122, 123, 4] → (puts A X ds).eval (.tmp k) = A.eval (.tmp k) := fun hk => by rw [← hds]; exact eval_out hk
 have g0 : ds.getD 0 0 = 98 := by rw [← hds]; rfl
 have g1 : ds.getD 1 0 = 99 := by rw [← hds]; rfl
 have g2 : ds.getD 2 0 = 100 := by rw [← hds]; rfl
 have g3 : ds.getD 3 0 = 101 := by rw [← hds]; rfl
 have g4 : ds.getD 4 0 = 102 := by rw [← hds]; rfl
 have g5 : ds.getD 5 0 = 103 := by rw [← hds]; rfl
 have g6 : ds.getD 6 0 = 104 := by rw [← hds]; rfl
 have g7 : ds.getD 7 0 = 105 := by rw [← hds]; rfl
 have g8 : ds.getD 8 0 = 106 := by rw [← hds]; rfl
 have g9 : ds.getD 9 0 = 107 := by rw [← hds]; rfl
 have g10 : ds.getD 10 0 = 108 := by rw [← hds]; rfl
 have g11 : ds.getD 11 0 = 109 := by rw [← hds]; rfl
 have g12 : ds.getD 12 0 = 110 := by rw [← hds]; rfl
 have g13 : ds.getD 13 0 = 111 := by rw [← hds]; rfl
 have g14 : ds.getD 14 0 = 112 := by rw [← hds]; rfl
 have g15 : ds.getD 15 0 = 113 := by rw [← hds]; rfl
 have g16 : ds.getD 16 0 = 114 := by rw [← hds]; rfl
 have g17 : ds.getD 17 0 = 115 := by rw [← hds]; rfl
 have g18 : ds.getD 18 0 = 116 := by rw [← hds]; rfl
 have g19 : ds.getD 19 0 = 117 := by rw [← hds]; rfl
 have g20 : ds.getD 20 0 = 118 := by rw [← hds]; rfl
 have g21 : ds.getD 21 0 = 119 := by rw [← hds]; rfl
 have g22 : ds.getD 22 0 = 120 := by rw [← hds]; rfl
 have g23 : ds.getD 23 0 = 121 := by rw [← hds]; rfl
 have g24 : ds.getD 24 0 = 122 := by rw [← hds]; rfl
 have g25 : ds.getD 25 0 = 123 := by rw [← hds]; rfl
 have g26 : ds.getD 26 0 = 4 := by rw [← hds]; rfl
 obtain ⟨gb, hgbE⟩ : ∃ gb : Nat → Bool, (fun j => if j = 2 then false else if j = 7 then false else if j = 14 then false else if j = 17 then true else true) = gb := ⟨_, rfl⟩
 have gb2 : gb 2 = false := by rw [← hgbE]; rfl
 have gb7 : gb 7 = false := by rw [← hgbE]; rfl
 have gb14 : gb 14 = false := by rw [← hgbE]; rfl
 have gb17 : gb 17 = true := by rw [← hgbE]; rfl
 obtain ⟨V, hV, e0, e1, e2, e3, e4, e5, e6, e7, e8, e9, e10, e11, e12, e13, e14, e15, e16, e17, e18, e19, e20, e21, e22, e23, e24, e25, e26⟩ : ∃ V : Nat → Value → World → Prop, (∀ i v W W', V i v W → Below W.heap.size W W' → V i v W') ∧ (∀ v W, V 0 v W = (v = .int .i64 0)) ∧ (∀ v W, V 1 v W = (v = .bool false)) ∧ (∀ v W, V 2 v W = (v = .bool false)) ∧ (∀ v W, V 3 v W = (True)) ∧ (∀ v W, V 4 v W = (True)) ∧ (∀ v W, V 5 v W = (True)) ∧ (∀ v W, V 6 v W = (v = .bool false)) ∧ (∀ v W, V 7 v W = (v = .bool false)) ∧ (∀ v W, V 8 v W = (True)) ∧ (∀ v W, V 9 v W = (True)) ∧ (∀ v W, V 10 v W = (True)) ∧ (∀ v W, V 11 v W = (True)) ∧ (∀ v W, V 12 v W = (True)) ∧ (∀ v W, V 13 v W = (v = .bool false)) ∧ (∀ v W, V 14 v W = (v = .bool false)) ∧ (∀ v W, V 15 v W = (v = .int .i64 0)) ∧ (∀ v W, V 16 v W = (v = .bool true)) ∧ (∀ v W, V 17 v W = (v = .bool true)) ∧ (∀ v W, V 18 v W = (v = .agg #[.string t, .slice go gn gc, .slice po pn pc, .int .i64 st, .int .i64 se, .int .i64 pa])) ∧ (∀ v W, V 19 v W = (∃ v1, v = v1 ∧ ∀ W', Below W.heap.size W W' → Calls Tryz.prog 14 #[v1] W' fun r w' => r = .returned (.string z0) ∧ Below W'.heap.size W' w')) ∧ (∀ v W, V 20 v W = (v = .string z0)) ∧ (∀ v W, V 21 v W = (v = .agg #[.string t, .slice ho hn hc, .slice qo qn qc, .int .i64 st, .int .i64 se, .int .i64 pa])) ∧ (∀ v W, V 22 v W = (v = .string z0)) ∧ (∀ v W, V 23 v W = (v = .bool true)) ∧ (∀ v W, V 24 v W = (v = .bool true)) ∧ (∀ v W, V 25 v W = (v = .bool true)) ∧ (∀ v W, V 26 v W = (v = .bool true)) := by
  refine ⟨fun i v W => match i with
   | 0 => v = .int .i64 0
   | 1 => v = .bool false
   | 2 => v = .bool false
   | 3 => True
   | 4 => True
   | 5 => True
   | 6 => v = .bool false
   | 7 => v = .bool false
   | 8 => True
   | 9 => True
   | 10 => True
   | 11 => True
   | 12 => True
   | 13 => v = .bool false
   | 14 => v = .bool false
   | 15 => v = .int .i64 0
   | 16 => v = .bool true
   | 17 => v = .bool true
   | 18 => v = .agg #[.string t, .slice go gn gc, .slice po pn pc, .int .i64 st, .int .i64 se, .int .i64 pa]
   | 19 => ∃ v1, v = v1 ∧ ∀ W', Below W.heap.size W W' → Calls Tryz.prog 14 #[v1] W' fun r w' => r = .returned (.string z0) ∧ Below W'.heap.size W' w'
   | 20 => v = .string z0
   | 21 => v = .agg #[.string t, .slice ho hn hc, .slice qo qn qc, .int .i64 st, .int .i64 se, .int .i64 pa]
   | 22 => v = .string z0
   | 23 => v = .bool true
   | 24 => v = .bool true
   | 25 => v = .bool true
   | 26 => v = .bool true
   | _ => True, ?_, fun _ _ => rfl, fun _ _ => rfl, fun _ _ => rfl, fun _ _ => rfl, fun _ _ => rfl, fun _ _ => rfl, fun _ _ => rfl, fun _ _ => rfl, fun _ _ => rfl, fun _ _ => rfl, fun _ _ => rfl, fun _ _ => rfl, fun _ _ => rfl, fun _ _ => rfl, fun _ _ => rfl, fun _ _ => rfl, fun _ _ => rfl, fun _ _ => rfl, fun _ _ => rfl, fun _ _ => rfl, fun _ _ => rfl, fun _ _ => rfl, fun _ _ => rfl, fun _ _ => rfl, fun _ _ => rfl, fun _ _ => rfl, fun _ _ => rfl⟩
  intro i v W W' h hb
  match i, h with
  | 0, h => exact h
  | 1, h => exact h
  | 2, h => exact h
  | 3, h => exact h
  | 4, h => exact h
  | 5, h => exact h
  | 6, h => exact h
  | 7, h => exact h
  | 8, h => exact h
  | 9, h => exact h
  | 10, h => exact h
  | 11, h => exact h
  | 12, h => exact h
  | 13, h => exact h
  | 14, h => exact h
  | 15, h => exact h
  | 16, h => exact h
  | 17, h => exact h
  | 18, h => exact h
  | 19, h => exact (by obtain ⟨v1, h1, h2⟩ := h; exact ⟨v1, h1, fun W2 hb2 => h2 W2 (hb.trans (hb2.mono hb.size))⟩)
  | 20, h => exact h
  | 21, h => exact h
  | 22, h => exact h
  | 23, h => exact h
  | 24, h => exact h
  | 25, h => exact h
  | 26, h => exact h
  | _ + 27, _ => trivial
 conv => arg 2; whnf
 refine wp_region_G ds V gb (by kernel_rfl) (by kernel_rfl) (by rw [← hds]; kernel_rfl) (by rw [← hds]; exact hlt) hV ?_ ?_ ?_
 ·intro i o j want ho hg v W hv
  have hj : j ∈ [2, 7, 14, 17] := guards_at (by kernel_rfl) ho hg
  simp only [List.mem_cons, List.not_mem_nil, or_false] at hj
  rcases hj with rfl | rfl | rfl | rfl
  ·rw [gb2]; rw [e2] at hv; exact hv
  ·rw [gb7]; rw [e7] at hv; exact hv
  ·rw [gb14]; rw [e14] at hv; exact hv
  ·rw [gb17]; rw [e17] at hv; exact hv
 ·refine ⟨?_, ?_, ?_, ?_, ?_, ?_, ?_, ?_, ?_, ?_, ?_, ?_, ?_, ?_, ?_, ?_, ?_, ?_, ?_, ?_, ?_, ?_, ?_, ?_, ?_, ?_, ?_, trivial⟩
  ·refine ⟨fun _ X W hb hd hu => ?_, fun h => absurd (show true = false from h) (by decide)⟩
   have h0 := hout (X := X) (k := 16) (by decide)
   rw [hA16] at h0
   refine v_value (V := V 0) (v := .int .i64 0) ?_ (by rw [e0])
   generalize (puts A X ds).eval = ρ at h0 ⊢
   go_simp
  ·refine ⟨fun _ X W hb hd hu => ?_, fun h => absurd (show true = false from h) (by decide)⟩
   have d0 := hd 0 (by kernel_rfl)
   rw [e0, g0] at d0
   have h0 := (hin (X := X) (k := 98) (by decide)).trans d0
   have h1 : (puts A X ds).eval (.const (.int .i64 0)) = .int .i64 0 := rfl
   refine v_value (V := V 1) (v := .bool false) ?_ (by rw [e1])
   generalize (puts A X ds).eval = ρ at h0 h1 ⊢
   go_simp
  ·refine ⟨fun _ X W hb hd hu => ?_, fun h => absurd (show true = false from h) (by decide)⟩
   have d0 := hd 1 (by kernel_rfl)
   rw [e1, g1] at d0
   have h0 := (hin (X := X) (k := 99) (by decide)).trans d0
   refine v_value (V := V 2) (v := .bool false) ?_ (by rw [e2])
   generalize (puts A X ds).eval = ρ at h0 ⊢
   go_simp
  ·refine ⟨fun h => (by have h' : (gb 2 == true) = true := h; rw [gb2] at h'; cases h'), fun _ W => (by rw [e3]; trivial)⟩
  ·refine ⟨fun h => (by have h' : (gb 2 == true) = true := h; rw [gb2] at h'; cases h'), fun _ W => (by rw [e4]; trivial)⟩
  ·refine ⟨fun h => (by have h' : (gb 2 == true) = true := h; rw [gb2] at h'; cases h'), fun _ W => (by rw [e5]; trivial)⟩
  ·refine ⟨fun _ X W hb hd hu => ?_, fun h => absurd (show true = false from h) (by decide)⟩
   have d0 := hd 2 (by kernel_rfl)
   rw [e2, g2] at d0
   have h0 := (hin (X := X) (k := 100) (by decide)).trans d0
   have h1 : (puts A X ds).eval (.const (.bool false)) = .bool false := rfl
   refine v_value (V := V 6) (v := .bool false) ?_ (by rw [e6])
   generalize (puts A X ds).eval = ρ at h0 h1 ⊢
   go_simp
  ·refine ⟨fun _ X W hb hd hu => ?_, fun h => absurd (show true = false from h) (by decide)⟩
   have d0 := hd 6 (by kernel_rfl)
   rw [e6, g6] at d0
   have h0 := (hin (X := X) (k := 104) (by decide)).trans d0
   refine v_value (V := V 7) (v := .bool false) ?_ (by rw [e7])
   generalize (puts A X ds).eval = ρ at h0 ⊢
   go_simp
  ·refine ⟨fun h => (by have h' : (gb 7 == true) = true := h; rw [gb7] at h'; cases h'), fun _ W => (by rw [e8]; trivial)⟩
  ·refine ⟨fun h => (by have h' : (gb 7 == true) = true := h; rw [gb7] at h'; cases h'), fun _ W => (by rw [e9]; trivial)⟩
  ·refine ⟨fun h => (by have h' : (gb 7 == true) = true := h; rw [gb7] at h'; cases h'), fun _ W => (by rw [e10]; trivial)⟩
  ·refine ⟨fun h => (by have h' : (gb 7 == true) = true := h; rw [gb7] at h'; cases h'), fun _ W => (by rw [e11]; trivial)⟩
  ·refine ⟨fun h => (by have h' : (gb 7 == true) = true := h; rw [gb7] at h'; cases h'), fun _ W => (by rw [e12]; trivial)⟩
  ·refine ⟨fun _ X W hb hd hu => ?_, fun h => absurd (show true = false from h) (by decide)⟩
   have d0 := hd 7 (by kernel_rfl)
   rw [e7, g7] at d0
   have h0 := (hin (X := X) (k := 105) (by decide)).trans d0
   have h1 : (puts A X ds).eval (.const (.bool false)) = .bool false := rfl
   refine v_value (V := V 13) (v := .bool false) ?_ (by rw [e13])
   generalize (puts A X ds).eval = ρ at h0 h1 ⊢
   go_simp
  ·refine ⟨fun _ X W hb hd hu => ?_, fun h => absurd (show true = false from h) (by decide)⟩
   have d0 := hd 13 (by kernel_rfl)
   rw [e13, g13] at d0
   have h0 := (hin (X := X) (k := 111) (by decide)).trans d0
   refine v_value (V := V 14) (v := .bool false) ?_ (by rw [e14])
   generalize (puts A X ds).eval = ρ at h0 ⊢
   go_simp
  ·refine ⟨fun _ X W hb hd hu => ?_, fun h => (by have h' : (gb 14 == false) = false := h; rw [gb14] at h'; cases h')⟩
   have h0 := hout (X := X) (k := 16) (by decide)
   rw [hA16] at h0
   refine v_value (V := V 15) (v := .int .i64 0) ?_ (by rw [e15])
   generalize (puts A X ds).eval = ρ at h0 ⊢
   go_simp
  ·refine ⟨fun _ X W hb hd hu => ?_, fun h => (by have h' : (gb 14 == false) = false := h; rw [gb14] at h'; cases h')⟩
   have d0 := hd 15 (by kernel_rfl)
   rw [e15, g15] at d0
   have h0 := (hin (X := X) (k := 113) (by decide)).trans d0
   have h1 : (puts A X ds).eval (.const (.int .i64 0)) = .int .i64 0 := rfl
   refine v_value (V := V 16) (v := .bool true) ?_ (by rw [e16])
   generalize (puts A X ds).eval = ρ at h0 h1 ⊢
   go_simp
  ·refine ⟨fun _ X W hb hd hu => ?_, fun h => (by have h' : (gb 14 == false) = false := h; rw [gb14] at h'; cases h')⟩
   have d0 := hd 16 (by kernel_rfl)
   rw [e16, g16] at d0
   have h0 := (hin (X := X) (k := 114) (by decide)).trans d0
   refine v_value (V := V 17) (v := .bool true) ?_ (by rw [e17])
   generalize (puts A X ds).eval = ρ at h0 ⊢
   go_simp
  ·refine ⟨fun _ X W hb hd hu => ?_, fun h => (by have h' : (gb 17 == true) = false := h; rw [gb17] at h'; cases h')⟩
   have h0 := hout (X := X) (k := 13) (by decide)
   rw [hA13] at h0
   exact wp_load_row 27 _ rfl bk h0 27 #[.string t, .slice go gn gc, .slice po pn pc, .int .i64 st, .int .i64 se, .int .i64 pa] (0, 0) _ ((hb.block _ (Array.getElem?_eq_some_iff.1 hK).1).trans hK) Tryz.underlying27 rfl size_jobJ ⟨_, rfl, by rw [e18], Below.refl _ _⟩
  ·refine ⟨fun _ X W hb hd hu => ?_, fun h => (by have h' : (gb 17 == true) = false := h; rw [gb17] at h'; cases h')⟩
   have d0 := hd 18 (by kernel_rfl)
   rw [e18, g18] at d0
   have h0 := (hin (X := X) (k := 116) (by decide)).trans d0
   have hf : (puts A X ds).eval (.func 6) = .func (.func 6) #[] #[] := rfl
   refine v_call (V := V 19) (f := 6) (vs := #[.agg #[.string t, .slice go gn gc, .slice po pn pc, .int .i64 st, .int .i64 se, .int .i64 pa]]) ?_ ?_
   ·generalize (puts A X ds).eval = ρ at h0 hf ⊢
    go_simp
   ·refine (hRf W hb).mono ?_
    rintro r W' ⟨⟨v1, rfl, hJ⟩, hb'⟩
    exact ⟨_, rfl, by rw [e19]; exact ⟨v1, rfl, hJ⟩, hb'⟩
  ·refine ⟨fun _ X W hb hd hu => ?_, fun h => (by have h' : (gb 17 == true) = false := h; rw [gb17] at h'; cases h')⟩
   have d0 := hd 19 (by kernel_rfl)
   rw [e19, g19] at d0
   obtain ⟨v1, d0, hJ⟩ := d0
   have h0 := (hin (X := X) (k := 117) (by decide)).trans d0
   have hf : (puts A X ds).eval (.func 14) = .func (.func 14) #[] #[] := rfl
   refine v_call (V := V 20) (f := 14) (vs := #[v1]) ?_ ?_
   ·generalize (puts A X ds).eval = ρ at h0 hf ⊢
    go_simp
   ·refine (hJ W (Below.refl _ _)).mono ?_
    rintro r W' ⟨rfl, hb'⟩
    exact ⟨_, rfl, by rw [e20], hb'⟩
  ·refine ⟨fun _ X W hb hd hu => ?_, fun h => (by have h' : (gb 17 == true) = false := h; rw [gb17] at h'; cases h')⟩
   have h0 := hout (X := X) (k := 15) (by decide)
   rw [hA15] at h0
   exact wp_load_row 34 _ rfl bx h0 34 #[.string t, .slice ho hn hc, .slice qo qn qc, .int .i64 st, .int .i64 se, .int .i64 pa] (0, 0) _ ((hb.block _ (Array.getElem?_eq_some_iff.1 hX).1).trans hX) Tryz.underlying34 rfl size_jobR ⟨_, rfl, by rw [e21], Below.refl _ _⟩
  ·refine ⟨fun _ X W hb hd hu => ?_, fun h => (by have h' : (gb 17 == true) = false := h; rw [gb17] at h'; cases h')⟩
   have d0 := hd 21 (by kernel_rfl)
   rw [e21, g21] at d0
   have h0 := (hin (X := X) (k := 119) (by decide)).trans d0
   have hf : (puts A X ds).eval (.func 14) = .func (.func 14) #[] #[] := rfl
   refine v_call (V := V 22) (f := 14) (vs := #[.agg #[.string t, .slice ho hn hc, .slice qo qn qc, .int .i64 st, .int .i64 se, .int .i64 pa]]) ?_ ?_
   ·generalize (puts A X ds).eval = ρ at h0 hf ⊢
    go_simp
   ·refine (hJx W hb).mono ?_
    rintro r W' ⟨rfl, hb'⟩
    exact ⟨_, rfl, by rw [e22], hb'⟩
  ·refine ⟨fun _ X W hb hd hu => ?_, fun h => (by have h' : (gb 17 == true) = false := h; rw [gb17] at h'; cases h')⟩
   have d0 := hd 20 (by kernel_rfl)
   rw [e20, g20] at d0
   have h0 := (hin (X := X) (k := 118) (by decide)).trans d0
   have d1 := hd 22 (by kernel_rfl)
   rw [e22, g22] at d1
   have h1 := (hin (X := X) (k := 120) (by decide)).trans d1
   refine v_value (V := V 23) (v := .bool true) ?_ (by rw [e23])
   generalize (puts A X ds).eval = ρ at h0 h1 ⊢
   go_simp
  ·refine ⟨fun _ X W hb hd hu => ?_, fun h => (by have h' : (gb 14 == false) = false := h; rw [gb14] at h'; cases h')⟩
   have d0 := hd 17 (by kernel_rfl)
   rw [e17, g17] at d0
   have h0 := (hin (X := X) (k := 115) (by decide)).trans d0
   have d1 := hd 23 (by kernel_rfl)
   rw [e23, g23] at d1
   have h1 := (hin (X := X) (k := 121) (by decide)).trans d1
   have h2 : (puts A X ds).eval (.const (.bool false)) = .bool false := rfl
   refine v_value (V := V 24) (v := .bool true) ?_ (by rw [e24])
   generalize (puts A X ds).eval = ρ at h0 h1 h2 ⊢
   go_simp
  ·refine ⟨fun _ X W hb hd hu => ?_, fun h => absurd (show true = false from h) (by decide)⟩
   have d0 := hd 14 (by kernel_rfl)
   rw [e14, g14] at d0
   have h0 := (hin (X := X) (k := 112) (by decide)).trans d0
   have d1 := hd 24 (by kernel_rfl)
   rw [e24, g24] at d1
   have h1 := (hin (X := X) (k := 122) (by decide)).trans d1
   have h2 : (puts A X ds).eval (.const (.bool true)) = .bool true := rfl
   refine v_value (V := V 25) (v := .bool true) ?_ (by rw [e25])
   generalize (puts A X ds).eval = ρ at h0 h1 h2 ⊢
   go_simp
  ·refine ⟨fun _ X W hb hd hu => ?_, fun h => absurd (show true = false from h) (by decide)⟩
   have d0 := hd 25 (by kernel_rfl)
   rw [e25, g25] at d0
   have h0 := (hin (X := X) (k := 123) (by decide)).trans d0
   refine v_value (V := V 26) (v := .bool true) ?_ (by rw [e26])
   generalize (puts A X ds).eval = ρ at h0 ⊢
   go_simp
 ·intro X W hb hall
  have r26 := hall 26 (by decide)
  rw [e26, g26] at r26
  have := HK X W hb r26
  rw [hds] at this
  exact this
end Go.Proofs.YtmgjlamglhpnaaaGreat
