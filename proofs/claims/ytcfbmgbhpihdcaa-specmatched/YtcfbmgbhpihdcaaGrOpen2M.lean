import Derived.Test.YtcfbmgbhpihdcaaGrRefCM
import Derived.Test.YtcfbmgbhpihdcaaGrThereM
import Derived.Test.YtcfbmgbhpihdcaaGrClone2M
import Derived.Test.YtcfbmgbhpihdcaaSpMaM
import Derived.Test.YtcfbmgbhpihdcaaSpMlM
import Derived.BigQuiet
import Derived.Test.YtcfbmgbhpihdcaaGrDataM
import Derived.Test.YtcfbmgbhpihdcaaProg
import Derived.WalkKit
import Derived.ProofKit
import Derived.OpenShut
import Derived.Deep.Slices
import Derived.Deep.Strs
import Derived.Lib.SmallJoins
import Derived.SizedLaws
section
/- What the document's Check returns. -/
namespace Go.Proofs.Ytcfbmgbhpihdcaa
open Go.RowKit
/-- A vertex's edges rise, and their ends are there. -/
def GoodE (G : List Vx) (L : List Ed) (n : Nat) : Prop := (∀ j (h : j < L.length), j < n → (ids G).contains L[j].t = true) ∧ ∀ j (h : j + 1 < L.length), j + 1 < n → L[j].t < L[j + 1].t
theorem good_all {G : List Vx} (H : ∀ j (h : j < G.length), GoodE G G[j].es G[j].es.length) : risesE G = true ∧ thereE G = true := by
  constructor
  · refine risesE_all (fun j hj => (riseB_iff _).2 (fun i hi => ?_))
    have := (H j hj).2 i (by rw [ends_len] at hi; exact hi) (by rw [ends_len] at hi; exact hi)
    rw [ends_get _ _ (by rw [ends_len] at hi; omega), ends_get _ _ (by rw [ends_len] at hi; exact hi)]
    exact this
  · unfold thereE
    rw [List.all_eq_true]
    intro v hv
    obtain ⟨j, hj, rfl⟩ := List.getElem_of_mem hv
    rw [List.all_eq_true]
    intro e he
    obtain ⟨i, hi, rfl⟩ := List.getElem_of_mem he
    exact (H j hj).1 i hi hi
theorem bad_there {G : List Vx} {j i : Nat} (hj : j < G.length) (hi : i < G[j].es.length) (h : (ids G).contains G[j].es[i].t = false) : thereE G = false := by
  unfold thereE
  rw [Bool.eq_false_iff]
  intro ha
  rw [List.all_eq_true] at ha
  have h1 := ha _ (List.getElem_mem hj)
  rw [List.all_eq_true] at h1
  have h2 := h1 _ (List.getElem_mem hi)
  rw [h] at h2
  cases h2
theorem bad_rise {G : List Vx} {j i : Nat} (hj : j < G.length) (hi : i + 1 < G[j].es.length) (h : ¬ G[j].es[i].t < G[j].es[i + 1].t) : risesE G = false := by
  refine risesE_at hj (rise_false (j := i) (by rw [ends_len]; exact hi) ?_)
  rw [ends_get _ _ (by omega), ends_get _ _ hi]
  exact h

set_option maxRecDepth 100000 in
set_option maxHeartbeats 2000000 in
theorem refcheck_any {w : World} {P : Nat → Prop} {ao : Option Addr} {G : List Vx} (cap : Nat) (h : VxAt w P ao G) (hl : G.length ≤ 9223372036854775807) (hok : ∀ v ∈ G, v.ok) :
    Calls Try.prog 40 #[.slice ao G.length cap] w fun r w' => r = .returned (.int .i64 (chk G)) ∧ Below w.heap.size w w' := by
  by_cases hlen : 256 < G.length
  · have HC : Hid (chk G = 30) := if_pos (Or.inl hlen)
    go_enter Try.func40, Try.ntmps40
    go_wp2
    go_ret
    exact ⟨by rw [HC.out]; rfl, Below.refl _ _⟩
  · have HV : Hid (VxAt w P ao G) := h
    have HO : Hid (∀ v ∈ G, v.ok) := hok
    clear h hok
    go_enter Try.func40, Try.ntmps40
    go_wp2
    go_loopw [3] (fun i wr => ∃ (k : Nat), 1 ≤ k ∧ k ≤ max G.length 1 ∧ i = .int .i64 k ∧ Hid (∀ j (h : j + 1 < (ids G).length), j + 1 < k → (ids G)[j] < (ids G)[j + 1]) ∧ Below w.heap.size w wr) (fun i _ => G.length - (intOf i).toNat)
    case atStart => exact ⟨1, Nat.le_refl _, by omega, rfl, fun j _ hj => absurd hj (by omega), Below.refl _ _⟩
    case round =>
      obtain ⟨k, hk1, hk, rfl, HR, hb⟩ := hrel
      by_cases hlt : k < G.length
      · obtain ⟨b, off, rfl, hP, hc⟩ := HV.out (by omega)
        obtain ⟨m, HK⟩ : ∃ m, Hid (k = m + 1) := ⟨k - 1, (by omega : k = k - 1 + 1)⟩
        have hmk : k = m + 1 := HK.out
        have hm0 : m < G.length := by omega
        obtain ⟨eo, ec, c0, _, _, _⟩ := hc m hm0
        obtain ⟨fo, fc, f0, _, _, _⟩ := hc k hlt
        have hbb := lt_cell c0
        have d0 := (hb.cell (p := ⟨b, off + m * 3, none⟩) hbb).trans c0
        have g0 := (hb.cell (p := ⟨b, off + k * 3, none⟩) hbb).trans f0
        have HM : Hid ((ids G)[m]'(by rw [ids_len]; omega) = G[m].id) := ids_get G m hm0
        have HN : Hid ((ids G)[k]'(by rw [ids_len]; omega) = G[k].id) := ids_get G k hlt
        have hm1 : IntKind.i64.wrap ((k : Int) - 1) = m := by rw [IntKind.wrap_i64]; omega
        have hm2 : wrap64 ((k : Int) - 1) = m := by unfold wrap64; omega
        clear c0 f0 hc hmk
        generalize G[m] = y at d0 HM
        generalize G[k] = z at g0 HN
        go_wp2
        go_quiet (fail)
        by_cases hr : z.id ≤ y.id
        · have HC : Hid (chk G = 30) := if_pos (Or.inr (rise_at HK.out (by rw [ids_len]; exact hlt) HM.out HN.out hr))
          go_wp2
          go_ret
          exact ⟨by rw [HC.out]; rfl, bel_drewN hb _⟩
        · go_wp2
          go_roundw
          case rel => exact ⟨k + 1, by omega, by omega, by go_num, rise_step HK.out (by rw [ids_len]; exact hlt) HM.out HN.out (by omega) HR.out, bel_drewN hb _⟩
          case measure => simp [intOf]; omega
      · have HRi : Hid (Rise (ids G)) := fun j hj => HR.out j hj (by rw [ids_len] at hj; omega)
        have HRb : Hid (riseB (ids G) = true) := (riseB_iff _).2 HRi.out
        have HC : Hid (chk G = if 2048 < sumE G ∨ risesE G = false ∨ thereE G = false then 31 else 0) := if_neg (by rw [HRb.out]; simp; omega)
        have HVr : Hid (VxAt wr P ao G) := HV.out.new hb
        have hE := refedges_any cap HVr.out hl
        by_cases hs : 2048 < sumE G
        · go_wp2_with (go_at_call 29; refine hE.mono ?_; rintro r w1 ⟨rfl, hb1⟩)
          go_ret
          exact ⟨by rw [HC.out, if_pos (Or.inl hs)]; rfl, hb.trans (hb1.mono hb.size)⟩
        · go_wp2_with (go_at_call 29; refine hE.mono ?_; rintro r w1 ⟨rfl, hb1⟩)
          have hbA : Below w.heap.size w w1 := hb.trans (hb1.mono hb.size)
          have HVA : Hid (VxAt w1 P ao G) := HVr.out.new hb1
          clear hE hb1
          go_loopw [4, 5, 6, 7, 8] (fun i _ _ _ _ wx => ∃ (j : Nat), j ≤ G.length ∧ i = .int .i64 j ∧ Hid (∀ q (h : q < G.length), q < j → GoodE G G[q].es G[q].es.length) ∧ Below w.heap.size w wx) (fun i _ _ _ _ _ => G.length - (intOf i).toNat)
          case atStart => exact ⟨0, Nat.zero_le _, rfl, fun q _ hq => absurd hq (by omega), hbA⟩
          case round =>
            obtain ⟨j, hj, rfl, HQ, hbx⟩ := hrel
            by_cases hjl : j < G.length
            · obtain ⟨b, off, rfl, hP, hc⟩ := HV.out (by omega)
              obtain ⟨eo, ec, e0, e1, e2, e3⟩ := hc j hjl
              have hbb := lt_cell e0
              have d2 := (hbx.cell (p := ⟨b, off + j * 3 + 2, none⟩) hbb).trans e2
              have HE : Hid (EdAt w P eo G[j].es) := e3
              have hel : G[j].es.length ≤ 9223372036854775807 := Nat.le_trans (HO.out _ (List.getElem_mem hjl)).len (by decide)
              have HB1 : Hid (∀ y, G[j] = y → ∀ i (h : i < y.es.length), (ids G).contains y.es[i].t = false → thereE G = false) := fun y e i hi hcn => by subst e; exact bad_there hjl hi hcn
              have HB2 : Hid (∀ y, G[j] = y → ∀ i (h : i + 1 < y.es.length), ¬ y.es[i].t < y.es[i + 1].t → risesE G = false) := fun y e i hi hcn => by subst e; exact bad_rise hjl hi hcn
              have HB3 : Hid (∀ y, G[j] = y → GoodE G y.es y.es.length → ∀ q (h : q < G.length), q < j + 1 → GoodE G G[q].es G[q].es.length) := fun y e hg q hq hqj => by
                by_cases eq : q = j
                · subst eq; rw [e]; exact hg
                · exact HQ.out q hq (by omega)
              obtain ⟨y, hy⟩ : ∃ y, G[j] = y := ⟨_, rfl⟩
              have HY : Hid (G[j] = y) := hy
              rw [hy] at d2 HE hel
              clear hy e0 e1 e2 e3 hc
              go_wp2
              go_loopw [6, 7, 8] (fun i _ _ wx => ∃ (k : Nat), k ≤ y.es.length ∧ i = .int .i64 k ∧ Hid (GoodE G y.es k) ∧ Below w.heap.size w wx) (fun i _ _ _ => y.es.length - (intOf i).toNat)
              case atStart => exact ⟨0, Nat.zero_le _, rfl, ⟨fun q _ hq => absurd hq (by omega), fun q _ hq => absurd hq (by omega)⟩, hbx⟩
              case round =>
                obtain ⟨k, hk, rfl, HD, hby⟩ := hrel
                by_cases hkl : k < y.es.length
                · obtain ⟨eb, eoff, rfl, hPe, hce⟩ := HE.out (by omega)
                  have f0 := (hby.cell (p := ⟨eb, eoff + k * 2, none⟩) (lt_cell (hce k hkl).1)).trans (hce k hkl).1
                  have hF := reffind_any cap y.es[k].t (HV.out.new hby) hl
                  have HP1 : Hid (foundB (ids G) y.es[k].t = (ids G).contains y.es[k].t) := foundB_iff HRi.out _
                  have HN : Hid (∀ z, y.es[k] = z → (ids G).contains z.t = false → thereE G = false) := fun z e hcn => HB1.out y HY.out k hkl (by rw [e]; exact hcn)
                  cases hfb : foundB (ids G) y.es[k].t with
                  | false =>
                    rw [hfb] at hF HP1
                    have HT : Hid (thereE G = false) := HB1.out y HY.out k hkl HP1.out.symm
                    clear hfb hce
                    generalize y.es[k] = z at f0 hF
                    go_wp2_with (go_at_call 16; refine hF.mono ?_; rintro r w2 ⟨rfl, hb2⟩)
                    go_quiet (fail)
                    go_wp2
                    go_ret
                    exact ⟨by rw [HC.out, if_pos (Or.inr (Or.inr HT.out))]; rfl, bel_drewN (hby.trans (hb2.mono hby.size)) _⟩
                  | true =>
                    rw [hfb] at hF HP1
                    by_cases hk0 : k = 0
                    · have HG : Hid (GoodE G y.es (k + 1)) := ⟨fun q hq hqk => by
                        obtain rfl : q = k := by omega
                        exact HP1.out.symm, fun q _ hq => absurd hq (by omega)⟩
                      have hd : decide (0 < k) = false := by rw [decide_eq_false_iff_not]; omega
                      clear hfb hce hk0
                      generalize y.es[k] = z at f0 hF
                      go_wp2_with (go_at_call 16; refine hF.mono ?_; rintro r w2 ⟨rfl, hb2⟩)
                      go_quiet (fail)
                      go_wp2
                      go_roundw
                      case rel => exact ⟨k + 1, by omega, by go_num, HG.out, bel_drewN (hby.trans (hb2.mono hby.size)) _⟩
                      case measure => simp [intOf]; omega
                    · obtain ⟨m, HK⟩ : ∃ m, Hid (k = m + 1) := ⟨k - 1, (by omega : k = k - 1 + 1)⟩
                      have hmk : k = m + 1 := HK.out
                      have hm0 : m < y.es.length := by omega
                      have g0 := (hby.cell (p := ⟨eb, eoff + m * 2, none⟩) (lt_cell (hce m hm0).1)).trans (hce m hm0).1
                      have hm1 : IntKind.i64.wrap ((k : Int) - 1) = m := by rw [IntKind.wrap_i64]; omega
                      have hm2 : wrap64 ((k : Int) - 1) = m := by unfold wrap64; omega
                      have hpos : decide (0 < k) = true := by rw [decide_eq_true_iff]; omega
                      have hebw : eb < w.heap.size := lt_cell (hce k hkl).1
                      have HG : Hid (∀ u z, y.es[m] = u → y.es[k] = z → u.t < z.t → GoodE G y.es (k + 1)) := fun u z hu hz hlt2 => ⟨fun q hq hqk => by
                        by_cases e : q = k
                        · subst e; exact HP1.out.symm
                        · exact HD.out.1 q hq (by omega), fun q hq hqk => by
                        by_cases e : q = m
                        · subst e; subst hmk; rw [hu, hz]; exact hlt2
                        · exact HD.out.2 q hq (by omega)⟩
                      have HX : Hid (∀ u z, y.es[m] = u → y.es[k] = z → ¬ u.t < z.t → risesE G = false) := fun u z hu hz hn => HB2.out y HY.out m (by omega) (by subst hmk; rw [hu, hz]; omega)
                      obtain ⟨u, hu⟩ : ∃ u, y.es[m] = u := ⟨_, rfl⟩
                      obtain ⟨z, hz⟩ : ∃ z, y.es[k] = z := ⟨_, rfl⟩
                      have HU : Hid (y.es[m] = u) := hu
                      have HZ : Hid (y.es[k] = z) := hz
                      rw [hu] at g0
                      rw [hz] at f0 hF
                      clear hfb hce hk0 hu hz hmk
                      go_wp2_with (go_at_call 16; refine hF.mono ?_; rintro r w2 ⟨rfl, hb2⟩; have f1 := (hb2.cell (p := ⟨eb, eoff + k * 2, none⟩) (Nat.lt_of_lt_of_le hebw hby.size)).trans f0; have g1 := (hb2.cell (p := ⟨eb, eoff + m * 2, none⟩) (Nat.lt_of_lt_of_le hebw hby.size)).trans g0)
                      go_quiet (fail)
                      by_cases hr : z.t ≤ u.t
                      · have HT : Hid (risesE G = false) := HX.out u z HU.out HZ.out (by omega)
                        go_wp2
                        go_ret
                        exact ⟨by rw [HC.out, if_pos (Or.inr (Or.inl HT.out))]; rfl, bel_drewN (hby.trans (hb2.mono hby.size)) _⟩
                      · go_wp2
                        go_roundw
                        case rel => exact ⟨k + 1, by omega, by go_num, HG.out u z HU.out HZ.out (by omega), bel_drewN (hby.trans (hb2.mono hby.size)) _⟩
                        case measure => simp [intOf]; omega
                · obtain rfl : k = y.es.length := by omega
                  go_wp2
                  go_roundw
                  case rel => exact ⟨j + 1, by omega, by go_num, HB3.out y HY.out HD.out, hby⟩
                  case measure => simp [intOf]; omega
            · have HT := good_all (fun q hq => HQ.out q hq (by omega))
              have HE0 : Hid (chk G = 0) := HC.out.trans (if_neg (by rw [HT.1, HT.2]; simp; omega))
              clear HT
              go_wp2
              go_ret
              exact ⟨by rw [HE0.out]; rfl, hbx⟩
theorem rise_of {G : List Vx} (h : chk G = 0) : G.length ≤ 256 ∧ Rise (ids G) := by
  unfold chk at h
  split at h
  · cases h
  · rename_i hn
    refine ⟨by omega, (riseB_iff _).1 ?_⟩
    cases hb : riseB (ids G) with
    | true => rfl
    | false => exact absurd (Or.inr hb) hn
end Go.Proofs.Ytcfbmgbhpihdcaa
end

section
/- good of layer 10. -/
namespace Go.Proofs.Ytcfbmgbhpihdcaa
open Go.RowKit Go.Shelf
attribute [local go_sem] Oper.semAt_some
def wOk (v : Vx) : Bool := v.es.all fun e => decide (0 ≤ e.w)
def goodB (G : List Vx) : Bool := decide (chk G = 0) && decide (G.length ≤ 20) && G.all wOk
set_option maxRecDepth 100000 in
set_option maxHeartbeats 2000000 in
theorem good_any {w : World} {P : Nat → Prop} {ao : Option Addr} {G : List Vx} (cap : Nat) (h : VxAt w P ao G) (hok : ∀ v ∈ G, v.ok) (hl : G.length * 40 ≤ 140737488355328) :
    Calls Try.prog 14 #[.agg #[.slice ao G.length cap]] w fun r w' => r = .returned (.bool (goodB G)) ∧ Below w.heap.size w w' := by
  have HG : Hid (∀ W, Below w.heap.size w W → VxAt W (fun k => k < w.heap.size) ao G) := fun W hb => (h.mono (Q := fun k => k < w.heap.size) (fun k hk _ => hk)).new hb
  have HOk : Hid (∀ v ∈ G, v.ok) := hok
  have HB0 : Hid (Below w.heap.size w (w.alloc (.cells #[.slice ao G.length cap] 24))) := one_new _ _
  by_cases hc : chk G = 0
  · have HC : Hid _ := hc
    by_cases h20 : G.length ≤ 20
    · clear h hok hc
      go_enter Try.func14, Try.ntmps14
      go_wp2_with (first
        | (go_at_call 13; refine (ref_any G cap (HG.out _ HB0.out) HOk.out hl).mono ?_; rintro r w2 ⟨bo2, c2, rfl, hV2, hb2⟩; have x2 := (hb2.cell (p := ⟨w.heap.size, 0, none⟩) (by simp)).trans (cell_of_one (heap_alloc_new _ _)); have HB2 : Hid (Below w.heap.size w w2) := HB0.out.trans (hb2.mono HB0.out.size))
        | (go_at_call 40; refine (refcheck_any c2 hV2 (by omega) HOk.out).mono ?_; rintro r w3 ⟨rfl, hb3⟩; rw [HC.out]; have x3 := (hb3.cell (p := ⟨w.heap.size, 0, none⟩) (lt_cell x2)).trans x2; have HB3 : Hid (Below w.heap.size w w3) := HB2.out.trans (hb3.mono HB2.out.size)))
      clear x2 hV2 hb2 hb3 HB2 HB0
      obtain ⟨n, hn⟩ : ∃ n, G.length = n := ⟨_, rfl⟩
      have HN : Hid (G.length = n) := hn
      have hV3 := HG.out w3 HB3.out
      have HV3 : Hid _ := hV3
      rw [hn] at x3 h20 ⊢
      clear hV3 hn
      go_loopw [3, 4] (fun i _ wr => ∃ j : Nat, j ≤ n ∧ i = .int .i64 j ∧ wr = w3 ∧ Hid ((G.take j).all wOk = true)) (fun i _ _ => n - (intOf i).toNat)
      case atStart => exact ⟨0, Nat.zero_le _, rfl, rfl, rfl⟩
      case round =>
        obtain ⟨j, hj, rfl, rfl, HT⟩ := hrel
        by_cases hlt : j < n
        · have hjG : j < G.length := by rw [HN.out]; exact hlt
          obtain ⟨b, off, rfl, hP, hcl⟩ := HV3.out (by omega)
          obtain ⟨eo, ec, d0, d1, d2, hE⟩ := hcl j hjG
          obtain ⟨es, hes⟩ : ∃ es, G[j].es = es := ⟨_, rfl⟩
          rw [hes] at d2 hE
          have hle : es.length ≤ 8796093022208 := by rw [← hes]; exact (HOk.out _ (List.getElem_mem hjG)).len
          have HEs : Hid (wOk G[j] = es.all fun e => decide (0 ≤ e.w)) := by show _ = _; unfold wOk; rw [hes]
          have HE : Hid _ := hE
          clear hcl hE hes d0 d1
          go_wp2
          go_loopw [4] (fun i wr' => ∃ k : Nat, k ≤ es.length ∧ i = .int .i64 k ∧ wr' = wr ∧ Hid ((es.take k).all (fun e => decide (0 ≤ e.w)) = true)) (fun i _ => es.length - (intOf i).toNat)
          case atStart => exact ⟨0, Nat.zero_le _, rfl, rfl, rfl⟩
          case round =>
            obtain ⟨k, hk, rfl, rfl, HT2⟩ := hrel
            by_cases hlk : k < es.length
            · obtain ⟨eb, eoff, rfl, hPe, hce⟩ := HE.out (by omega)
              obtain ⟨a0, a1⟩ := hce k hlk
              have HS : Hid ((es.take (k + 1)).all (fun e => decide (0 ≤ e.w)) = decide (0 ≤ es[k].w)) := by
                show _ = _
                rw [List.take_add_one, List.getElem?_eq_getElem hlk, List.all_append, HT2.out]
                simp
              have HNo : Hid (¬ 0 ≤ es[k].w → goodB G = false) := fun hno => by
                have h1 : wOk G[j] = false := by
                  rw [HEs.out]
                  cases hx : es.all (fun e => decide (0 ≤ e.w)) with
                  | false => rfl
                  | true =>
                    have := List.all_eq_true.1 hx es[k] (List.getElem_mem hlk)
                    exact absurd (by simpa using this) hno
                have h2 : G.all wOk = false := by
                  cases hx : G.all wOk with
                  | false => rfl
                  | true =>
                    have := List.all_eq_true.1 hx G[j] (List.getElem_mem hjG)
                    rw [h1] at this
                    cases this
                unfold goodB
                rw [h2, Bool.and_false]
              generalize es[k].w = y at a1 HS HNo
              clear hce a0
              by_cases hy : y < 0
              · go_wp2
                go_ret
                exact ⟨by rw [HNo.out (by omega)]; rfl, HB3.out⟩
              · have hy2 : 0 ≤ y := by omega
                go_wp2
                go_roundw
                case rel => exact ⟨k + 1, by omega, by go_num, (by first | rfl | trivial), by rw [HS.out]; show decide _ = true; simp [hy2]⟩
                case measure => simp [intOf]; omega
            · obtain rfl : k = es.length := by omega
              have HT3 : Hid ((G.take (j + 1)).all wOk = true) := by
                show _ = _
                have h2 := HT2.out
                rw [List.take_of_length_le (Nat.le_refl _)] at h2
                rw [List.take_add_one, List.getElem?_eq_getElem hjG, List.all_append, HT.out]
                simp [HEs.out, h2]
              go_wp2
              go_roundw
              case rel => exact ⟨j + 1, by omega, by go_num, (by first | rfl | trivial), HT3⟩
              case measure => simp [intOf]; omega
        · obtain rfl : j = n := by omega
          have HYes : Hid (goodB G = true) := by
            show _ = _
            have h2 := HT.out
            rw [List.take_of_length_le (by have := HN.out; omega)] at h2
            have h3 := HN.out
            unfold goodB
            simp [HC.out, h2, h3, h20]
          go_wp2
          go_ret
          exact ⟨by rw [HYes.out]; rfl, HB3.out⟩
    · clear h hok hc
      have hf : goodB G = false := by unfold goodB; simp [h20]
      have h21 : (20 : Int) < G.length := by omega
      rw [hf]
      clear hf
      go_enter Try.func14, Try.ntmps14
      go_wp2_with (first
        | (go_at_call 13; refine (ref_any G cap (HG.out _ HB0.out) HOk.out hl).mono ?_; rintro r w2 ⟨bo2, c2, rfl, hV2, hb2⟩; have x2 := (hb2.cell (p := ⟨w.heap.size, 0, none⟩) (by simp)).trans (cell_of_one (heap_alloc_new _ _)); have HB2 : Hid (Below w.heap.size w w2) := HB0.out.trans (hb2.mono HB0.out.size))
        | (go_at_call 40; refine (refcheck_any c2 hV2 (by omega) HOk.out).mono ?_; rintro r w3 ⟨rfl, hb3⟩; rw [HC.out]; have x3 := (hb3.cell (p := ⟨w.heap.size, 0, none⟩) (lt_cell x2)).trans x2; have HB3 : Hid (Below w.heap.size w w3) := HB2.out.trans (hb3.mono HB2.out.size)))
      go_ret
      exact ⟨rfl, HB3.out⟩
  · have hf : goodB G = false := by unfold goodB; simp [hc]
    obtain ⟨c, hcc⟩ : ∃ c, chk G = c := ⟨_, rfl⟩
    have HC : Hid _ := hcc
    rw [hcc] at hc
    rw [hf]
    clear h hok hcc hf
    go_enter Try.func14, Try.ntmps14
    go_wp2_with (first
      | (go_at_call 13; refine (ref_any G cap (HG.out _ HB0.out) HOk.out hl).mono ?_; rintro r w2 ⟨bo2, c2, rfl, hV2, hb2⟩; have x2 := (hb2.cell (p := ⟨w.heap.size, 0, none⟩) (by simp)).trans (cell_of_one (heap_alloc_new _ _)); have HB2 : Hid (Below w.heap.size w w2) := HB0.out.trans (hb2.mono HB0.out.size))
      | (go_at_call 40; refine (refcheck_any c2 hV2 (by omega) HOk.out).mono ?_; rintro r w3 ⟨rfl, hb3⟩; rw [HC.out]; have x3 := (hb3.cell (p := ⟨w.heap.size, 0, none⟩) (lt_cell x2)).trans x2; have HB3 : Hid (Below w.heap.size w w3) := HB2.out.trans (hb3.mono HB2.out.size)))
    go_ret
    exact ⟨rfl, HB3.out⟩
end Go.Proofs.Ytcfbmgbhpihdcaa
end

section
/- SpecDegrees: sums. -/
namespace Go.Proofs.Ytcfbmgbhpihdcaa
open Go.RowKit Go.Shelf
attribute [local go_sem] Oper.semAt_some
theorem sumE_evs (G : List Vx) (hl : G.length ≤ 256) (hok : ∀ v ∈ G, v.ok) : ∀ k, k ≤ G.length → sumE (G.take k) = (evs (G.take k)).length ∧ (evs (G.take k)).length ≤ k * 8796093022208
  | 0, _ => by simp [sumE, evs]
  | k + 1, h => by
    obtain ⟨ih, ib⟩ := sumE_evs G hl hok k (by omega)
    have hk := (hok _ (List.getElem_mem (show k < G.length by omega))).len
    have e : (evs (G.take (k + 1))).length = (evs (G.take k)).length + G[k].es.length := by rw [evs_snoc G k (by omega)]; simp
    refine ⟨?_, by omega⟩
    rw [sumE_snoc G k (by omega), ih, e]
    unfold wrap64
    omega
theorem evs_few {G : List Vx} (hc : chk G = 0) (hok : ∀ v ∈ G, v.ok) : (evs G).length ≤ 2048 := by
  obtain ⟨hl, _⟩ := rise_of hc
  obtain ⟨h1, _⟩ := sumE_evs G hl hok G.length (Nat.le_refl _)
  rw [List.take_length] at h1
  unfold chk at hc
  split at hc
  · cases hc
  · split at hc
    · cases hc
    · rename_i h2
      have : ¬ 2048 < sumE G := fun h => h2 (Or.inl h)
      omega
theorem evs_take_le (G : List Vx) (k : Nat) : (evs (G.take k)).length ≤ (evs G).length := by
  have h : evs G = evs (G.take k) ++ evs (G.drop k) := by
    unfold evs
    rw [← List.flatMap_append, List.take_append_drop]
  rw [h, List.length_append]
  omega
theorem es_le {G : List Vx} {j : Nat} (h : j < G.length) : G[j].es.length ≤ (evs G).length := by
  have h1 := evs_take_le G (j + 1)
  rw [evs_snoc G j h, List.length_append, List.length_map] at h1
  omega
end Go.Proofs.Ytcfbmgbhpihdcaa
end

section
/- SpecMatched. -/
namespace Go.Proofs.Ytcfbmgbhpihdcaa
open Go.RowKit Go.Shelf
attribute [local go_sem] Oper.semAt_some
/-- What the law has found of a free place: none of the first q places is a free neighbour. -/
def innL (G : List Vx) (P : List Int) (k q : Nat) : Bool := !((List.range q).any fun p => nearD G k p && freeB P (ids G) p)
/-- What the law asks of one place. -/
def okL (G : List Vx) (P : List Int) (k : Nat) : Bool :=
  if freeB P (ids G) k = true then innL G P k G.length
  else foundB (ids G) (P.getD k 0) && nearD G k (findN (ids G) (P.getD k 0)) && (P.getD (findN (ids G) (P.getD k 0)) 0 == (ids G).getD k 0)
def allL (G : List Vx) (P : List Int) (k : Nat) : Bool := decide (P.length = G.length) && (List.range k).all (okL G P)
theorem innL_succ (G : List Vx) (P : List Int) (k q : Nat) : innL G P k (q + 1) = (innL G P k q && !(nearD G k q && freeB P (ids G) q)) := by
  unfold innL
  rw [List.range_succ, List.any_append]
  simp
theorem allL_succ (G : List Vx) (P : List Int) (k : Nat) : allL G P (k + 1) = (allL G P k && okL G P k) := by
  unfold allL
  rw [List.range_succ, List.all_append]
  simp [Bool.and_assoc]
theorem allL_low {G : List Vx} {P : List Int} {k : Nat} (h : allL G P k = false) {n : Nat} (hk : k ≤ n) : allL G P n = false := by
  induction hk with
  | refl => exact h
  | step _ ih => rw [allL_succ, ih, Bool.false_and]
/-- The law asks what a matching asks. -/
theorem okL_okM {G : List Vx} {P : List Int} (hr : Rise (ids G)) (hth : thereE G = true) (he : (evs G).length ≤ 2048) {k : Nat} (hk : k < G.length) : okL G P k = okM P (ids G) (nearR G) k := by
  obtain ⟨_, _, hm⟩ := nearR_row hr hth he hk
  unfold okL okM
  by_cases hf : freeB P (ids G) k = true
  · rw [if_pos hf, if_pos hf]
    unfold innL
    congr 1
    rw [Bool.eq_iff_iff, List.any_eq_true, List.any_eq_true]
    constructor
    · rintro ⟨p, hp, h⟩
      rw [Bool.and_eq_true] at h
      exact ⟨(p : Int), (hm _).2 ⟨p, rfl, (nearD_iff hk (List.mem_range.1 hp)).1 h.1⟩, by simpa using h.2⟩
    · rintro ⟨y, hy, h⟩
      obtain ⟨p, rfl, hp⟩ := (hm y).1 hy
      have hpl := nearP_lt hp
      exact ⟨p, List.mem_range.2 hpl, by rw [Bool.and_eq_true]; exact ⟨(nearD_iff hk hpl).2 hp, by simpa using h⟩⟩
  · rw [if_neg hf, if_neg hf]
    cases hfo : foundB (ids G) (P.getD k 0) with
    | false => rfl
    | true =>
      have hpl := found_lt hfo
      rw [ids_len] at hpl
      congr 2
      rw [Bool.eq_iff_iff, nearD_iff hk hpl, List.contains_iff_mem, hm]
      constructor
      · intro h
        exact ⟨_, rfl, h⟩
      · rintro ⟨j, e, h⟩
        have : findN (ids G) (P.getD k 0) = j := by omega
        rw [this]
        exact h
theorem allL_res {G : List Vx} {P : List Int} (hr : Rise (ids G)) (hth : thereE G = true) (he : (evs G).length ≤ 2048) : (decide (P.length = G.length) && (List.range G.length).all (okM P (ids G) (nearR G))) = allL G P G.length := by
  unfold allL
  congr 1
  rw [Bool.eq_iff_iff, List.all_eq_true, List.all_eq_true]
  constructor
  · intro h j hj
    rw [okL_okM hr hth he (List.mem_range.1 hj)]
    exact h j hj
  · intro h j hj
    rw [← okL_okM hr hth he (List.mem_range.1 hj)]
    exact h j hj
set_option maxRecDepth 100000 in
set_option maxHeartbeats 8000000 in
theorem law_matched {w : World} {Q : Nat → Prop} {ao lo : Option Addr} (G : List Vx) (P : List Int) (cap lc : Nat) (h : VxAt w Q ao G) (hok : ∀ v ∈ G, v.ok) (hl : G.length * 40 ≤ 140737488355328) (hP : PAt w lo P) :
    Calls Try.prog 6 #[.agg #[.slice ao G.length cap], .slice lo P.length lc] w fun r w' => r = .returned (.bool true) ∧ Below w.heap.size w w' := by
  have HG : Hid (∀ W, Below w.heap.size w W → VxAt W (fun k => k < w.heap.size) ao G) := fun W hb => (h.mono (Q := fun k => k < w.heap.size) (fun k hk _ => hk)).new hb
  have HOk : Hid (∀ v ∈ G, v.ok) := hok
  have HB0 : Hid (Below w.heap.size w (w.alloc (.cells #[.slice ao G.length cap] 24))) := one_new _ _
  have HP : Hid (PAt w lo P) := hP
  by_cases hg : goodB G = true
  · have hg' := hg
    unfold goodB at hg'
    rw [Bool.and_eq_true, Bool.and_eq_true] at hg'
    obtain ⟨⟨hc, h20⟩, _⟩ := hg'
    have hc : chk G = 0 := by simpa using hc
    have h20 : G.length ≤ 20 := by simpa using h20
    obtain ⟨_, hr⟩ := rise_of hc
    have hE := evs_few hc hok
    have hth : thereE G = true := (chk_ok hc).2.2.2.2
    have HM : Hid (∀ W, Below w.heap.size w W → Calls Try.prog 25 #[.agg #[.slice ao G.length cap], .slice lo P.length lc] W fun r w' => r = .returned (.bool (allL G P G.length)) ∧ Below W.heap.size W w') := fun W hb => by
      have := matched_any cap lc (HG.out W hb) hok hr hth (by omega) hE (PAt.new HP.out hb)
      rw [allL_res hr hth hE] at this
      exact this
    have HGd : Hid _ := hg
    have HEs : Hid (∀ v ∈ G, v.es.length ≤ 1000000) := fun v hv => by
      obtain ⟨a, ha, rfl⟩ := List.mem_iff_getElem.1 hv
      have := es_le ha
      omega
    clear h hok hc hg hr hth hP
    go_enter Try.func6, Try.ntmps6
    have hpe : ((P.length : Int) == (G.length : Int)) = decide (P.length = G.length) := by
      rw [Bool.eq_iff_iff]
      simp
      omega
    go_wp2_with (first
      | (go_at_call 14; refine (good_any cap (HG.out _ HB0.out) HOk.out hl).mono ?_; rintro r w1 ⟨rfl, hb1⟩; rw [HGd.out]; have x1 := (hb1.cell (p := ⟨w.heap.size, 0, none⟩) (by simp)).trans (cell_of_one (heap_alloc_new _ _)); have HB1 : Hid (Below w.heap.size w w1) := HB0.out.trans (hb1.mono HB0.out.size))
      | (go_at_call 13; refine (ref_any G cap (HG.out _ HB1.out) HOk.out hl).mono ?_; rintro r w2 ⟨bo2, c2, rfl, hV2, hb2⟩; have x2 := (hb2.cell (p := ⟨w.heap.size, 0, none⟩) (lt_cell x1)).trans x1; have HB2 : Hid (Below w.heap.size w w2) := HB1.out.trans (hb2.mono HB1.out.size)))
    have HV2 : Hid _ := hV2
    have HP2 : Hid (PAt w2 lo P) := PAt.new HP.out HB2.out
    have hA0 : decide (P.length = G.length) = allL G P 0 := by simp [allL]
    clear hV2 hb1 hb2 x1
    obtain ⟨n, hn⟩ : ∃ n, G.length = n := ⟨_, rfl⟩
    have HN : Hid (G.length = n) := hn
    rw [hn] at x2 h20 hA0 hpe ⊢
    have HM' : Hid (∀ W, Below w.heap.size w W → Calls Try.prog 25 #[.agg #[.slice ao n cap], .slice lo P.length lc] W fun r w' => r = .returned (.bool (allL G P n)) ∧ Below W.heap.size W w') := by
      have := HM.out
      rw [hn] at this
      exact this
    rw [hA0]
    clear hn HM hpe hA0
    go_loopw [6, 7] (fun ok i wr => ∃ k : Nat, k ≤ n ∧ i = .int .i64 k ∧ ok = .bool (allL G P k) ∧ Hid (Below w2.heap.size w2 wr)) (fun _ i _ => n - (intOf i).toNat)
    case atStart => exact ⟨0, Nat.zero_le _, rfl, rfl, Below.refl _ _⟩
    case round =>
      obtain ⟨k, hk, rfl, rfl, HBr⟩ := hrel
      by_cases hgo : k < n ∧ allL G P k = true
      · obtain ⟨hlt, hal⟩ := hgo
        have HLt : Hid (k < n) := hlt
        have hkG : k < G.length := by rw [HN.out]; exact hlt
        have HMn : Hid (P.length = n) := by
          show _ = _
          unfold allL at hal
          rw [Bool.and_eq_true] at hal
          rw [← HN.out]
          exact of_decide_eq_true hal.1
        have hkp : k < P.length := by rw [HMn.out]; exact hlt
        obtain ⟨b, off, rfl, _, hcl⟩ := HV2.out (by omega)
        have HCl : Hid _ := hcl
        obtain ⟨_, _, d0, _, _, _⟩ := hcl k hkG
        obtain ⟨g, o, rfl, p0⟩ := HP2.out k hkp
        have gF : freeB P (ids G) k = (P[k] == G[k].id) := by
          unfold freeB
          rw [← ids_get G k hkG]
          simp [List.getD, hkp, ids_len, hkG]
        have d0' := (HBr.out.cell (p := ⟨b, off + k * 3, none⟩) (lt_cell d0)).trans d0
        have p0' := (HBr.out.cell (p := ⟨g, o + k, none⟩) (lt_cell p0)).trans p0
        have gP : P.getD k 0 = P[k] := by simp [List.getD, hkp]
        have gI : (ids G).getD k 0 = G[k].id := by rw [← ids_get G k hkG]; simp [List.getD, ids_len, hkG]
        have HSk : Hid (allL G P (k + 1) = okL G P k) := by show _ = _; rw [allL_succ, hal, Bool.true_and]
        have HFd : Hid (∀ W, Below w2.heap.size w2 W → Calls Try.prog 16 #[.slice (some ⟨b, off, none⟩) n c2, .int .i64 P[k]] W fun r w' => r = .returned (.tuple #[.int .i64 (findN (ids G) P[k]), .bool (foundB (ids G) P[k])]) ∧ Below W.heap.size W w') := fun W hb => by
          have := reffind_any c2 P[k] (VxAt.new HV2.out hb) (by omega)
          rw [HN.out] at this
          exact this
        rw [hal]
        rw [HMn.out]
        cases hfr : freeB P (ids G) k with
        | true =>
          have HFk : Hid (freeB P (ids G) k = true) := hfr
          rw [hfr] at gF
          have gF' := gF.symm
          generalize P[k] = xk at p0' p0 gF'
          generalize G[k].id = yk at d0' d0 gF'
          clear hcl gF gP gI HFd
          go_wp2
          go_quiet (fail)
          go_wp2
          go_loopw [6, 8] (fun ok i wr => ∃ q : Nat, q ≤ n ∧ i = .int .i64 q ∧ ok = .bool (innL G P k q) ∧ Hid (Below w2.heap.size w2 wr)) (fun _ i _ => n - (intOf i).toNat)
          case atStart => exact ⟨0, Nat.zero_le _, rfl, by simp [innL], bel_drewN HBr.out _⟩
          case round =>
            obtain ⟨q, hq, rfl, rfl, HBq⟩ := hrel
            by_cases hlq : q < n
            · have HLq : Hid (q < n) := hlq
              have hqG : q < G.length := by rw [HN.out]; exact hlq
              have HSq : Hid (innL G P k (q + 1) = (innL G P k q && !(nearD G k q && freeB P (ids G) q))) := innL_succ G P k q
              have HNe : Hid (∀ W, Below w2.heap.size w2 W → Calls Try.prog 23 #[.slice (some ⟨b, off, none⟩) n c2, .int .i64 (k : Nat), .int .i64 (q : Nat)] W fun r w' => r = .returned (.bool (nearD G k q)) ∧ Below W.heap.size W w') := fun W hb => by
                have := near_any c2 (VxAt.new HV2.out hb) hkG hqG HEs.out
                rw [HN.out] at this
                exact this
              cases hin : innL G P k q with
              | false =>
                have HI : Hid (innL G P k (q + 1) = false) := by show _ = _; rw [HSq.out, hin]; rfl
                go_wp2
                go_quiet (fail)
                go_wp2
                go_roundw
                case rel => exact ⟨q + 1, HLq.out, by go_num, by rw [HI.out], bel_drewN HBq.out _⟩
                case measure => have := HLq.out; simp [intOf]; omega
              | true =>
                rw [hin, Bool.true_and] at HSq
                cases hnr : nearD G k q with
                | false =>
                  have HI : Hid (innL G P k (q + 1) = true) := by show _ = _; rw [HSq.out, hnr]; rfl
                  rw [hnr] at HNe
                  go_upto_region 12 with (fail)
                  refine mlaw_r12f (vb := b) (vo := off) (n := n) (vc := c2) (j := k) (p := q) rfl rfl rfl rfl rfl (fun W hb => HNe.out W (HBq.out.trans (hb.mono HBq.out.size))) ?_
                  intro X W hb h6
                  have HBx : Hid (Below w2.heap.size w2 W) := HBq.out.trans (hb.mono HBq.out.size)
                  clear hb
                  simp only [puts]
                  rw [h6]
                  generalize X 47 = x47
                  generalize X 48 = x48
                  generalize X 49 = x49
                  generalize X 50 = x50
                  generalize X 51 = x51
                  generalize X 52 = x52
                  generalize X 53 = x53
                  generalize X 54 = x54
                  generalize X 55 = x55
                  generalize X 56 = x56
                  generalize X 57 = x57
                  generalize X 58 = x58
                  generalize X 59 = x59
                  generalize X 60 = x60
                  generalize X 61 = x61
                  generalize X 62 = x62
                  generalize X 63 = x63
                  generalize X 64 = x64
                  generalize X 65 = x65
                  generalize X 66 = x66
                  clear h6
                  simp only [Act.put, List.setIfInBounds_toArray, List.set_cons_succ, List.set_cons_zero]
                  go_wp2
                  go_roundw
                  case rel => exact ⟨q + 1, HLq.out, by go_num, by rw [HI.out], HBx⟩
                  case measure => have := HLq.out; simp [intOf]; omega
                | true =>
                  have hqp : q < P.length := by rw [HMn.out]; exact hlq
                  obtain ⟨g', o', e', pq⟩ := HP2.out q hqp
                  cases e'
                  obtain ⟨_, _, dq, _, _, _⟩ := HCl.out q hqG
                  have gF : freeB P (ids G) q = (P[q] == G[q].id) := by
                    unfold freeB
                    rw [← ids_get G q hqG]
                    simp [List.getD, hqp, ids_len, hqG]
                  have HI : Hid (innL G P k (q + 1) = !(P[q] == G[q].id)) := by show _ = _; rw [HSq.out, hnr, gF]; rfl
                  rw [hnr] at HNe
                  generalize P[q] = xq at pq HI
                  generalize G[q].id = yq at dq HI
                  clear gF
                  go_upto_region 12 with (fail)
                  refine mlaw_r12t (vb := b) (vo := off) (n := n) (vc := c2) (j := k) (p := q) (g := g) (o := o) (lc := lc) (x := xq) (y := yq) rfl rfl rfl rfl rfl (fun W hb => HNe.out W (HBq.out.trans (hb.mono HBq.out.size))) rfl ((HBq.out.cell (p := ⟨g, o + q, none⟩) (lt_cell pq)).trans pq) ((HBq.out.cell (p := ⟨b, off + q * 3, none⟩) (lt_cell dq)).trans dq) HLq.out ?_
                  intro X W hb h6
                  have HBx : Hid (Below w2.heap.size w2 W) := HBq.out.trans (hb.mono HBq.out.size)
                  clear hb
                  simp only [puts]
                  rw [h6]
                  generalize X 47 = x47
                  generalize X 48 = x48
                  generalize X 49 = x49
                  generalize X 50 = x50
                  generalize X 51 = x51
                  generalize X 52 = x52
                  generalize X 53 = x53
                  generalize X 54 = x54
                  generalize X 55 = x55
                  generalize X 56 = x56
                  generalize X 57 = x57
                  generalize X 58 = x58
                  generalize X 59 = x59
                  generalize X 60 = x60
                  generalize X 61 = x61
                  generalize X 62 = x62
                  generalize X 63 = x63
                  generalize X 64 = x64
                  generalize X 65 = x65
                  generalize X 66 = x66
                  clear h6
                  simp only [Act.put, List.setIfInBounds_toArray, List.set_cons_succ, List.set_cons_zero]
                  go_wp2
                  go_roundw
                  case rel => exact ⟨q + 1, HLq.out, by go_num, by rw [HI.out], HBx⟩
                  case measure => have := HLq.out; simp [intOf]; omega
            · obtain rfl : q = n := by omega
              have HI : Hid (allL G P (k + 1) = innL G P k q) := by
                show _ = _
                rw [allL_succ, hal, Bool.true_and]
                unfold okL
                rw [if_pos HFk.out, HN.out]
              go_wp2
              go_roundw
              case rel => exact ⟨k + 1, HLt.out, by go_num, by rw [HI.out], HBq⟩
              case measure => have := HLt.out; simp [intOf]; omega
        | false =>
          have HOm : Hid (okL G P k = (foundB (ids G) P[k] && nearD G k (findN (ids G) P[k]) && (P.getD (findN (ids G) P[k]) 0 == G[k].id))) := by
            show _ = _
            unfold okL
            rw [hfr, gP, gI]
            rfl
          have HFl : Hid (foundB (ids G) P[k] = true → findN (ids G) P[k] < n) := fun h => by
            have := found_lt h
            rw [ids_len, HN.out] at this
            exact this
          rw [hfr] at gF
          have gF' := gF.symm
          generalize P[k] = xk at p0' p0 gF' HOm HFl HFd
          generalize G[k].id = yk at d0' d0 gF' HOm
          generalize findN (ids G) xk = pp at HFd HOm HFl
          generalize foundB (ids G) xk = fo at HFd HOm HFl
          clear hcl gF gP gI hfr
          cases fo with
          | false =>
            have HI : Hid (allL G P (k + 1) = false) := by show _ = _; rw [HSk.out, HOm.out]; rfl
            go_wp2
            go_quiet (fail)
            generalize hWd : World.drewN wr _ = Wd
            have HBd : Hid (Below w2.heap.size w2 Wd) := by show Below _ _ _; rw [← hWd]; exact bel_drewN HBr.out _
            have p1 := (HBd.out.cell (p := ⟨g, o + k, none⟩) (lt_cell p0)).trans p0
            clear hWd
            go_upto_region 14 with (go_at_call 16; refine (HFd.out _ HBd.out).mono ?_; rintro r w9 ⟨rfl, hb9⟩; have HB9 : Hid (Below w2.heap.size w2 w9) := HBd.out.trans (hb9.mono HBd.out.size); clear hb9)
            refine mlaw_r14n rfl rfl ?_
            intro X W hb h6
            have HBx : Hid (Below w2.heap.size w2 W) := HB9.out.trans (hb.mono HB9.out.size)
            clear hb
            simp only [puts]
            rw [h6]
            generalize X 76 = x76
            generalize X 77 = x77
            generalize X 78 = x78
            generalize X 79 = x79
            generalize X 80 = x80
            generalize X 81 = x81
            generalize X 82 = x82
            generalize X 83 = x83
            generalize X 84 = x84
            generalize X 85 = x85
            generalize X 86 = x86
            generalize X 87 = x87
            generalize X 88 = x88
            generalize X 89 = x89
            generalize X 90 = x90
            generalize X 91 = x91
            generalize X 92 = x92
            generalize X 93 = x93
            generalize X 94 = x94
            clear h6
            simp only [Act.put, List.setIfInBounds_toArray, List.set_cons_succ, List.set_cons_zero]
            go_wp2
            go_roundw
            case rel => exact ⟨k + 1, HLt.out, by go_num, by rw [HI.out], HBx⟩
            case measure => have := HLt.out; simp [intOf]; omega
          | true =>
            have hpp : pp < n := HFl.out rfl
            have hpG : pp < G.length := by rw [HN.out]; exact hpp
            have HNe : Hid (∀ W, Below w2.heap.size w2 W → Calls Try.prog 23 #[.slice (some ⟨b, off, none⟩) n c2, .int .i64 (k : Nat), .int .i64 (pp : Nat)] W fun r w' => r = .returned (.bool (nearD G k pp)) ∧ Below W.heap.size W w') := fun W hb => by
              have := near_any c2 (VxAt.new HV2.out hb) hkG hpG HEs.out
              rw [HN.out] at this
              exact this
            cases hnr : nearD G k pp with
            | false =>
              have HI : Hid (allL G P (k + 1) = false) := by show _ = _; rw [HSk.out, HOm.out, hnr]; rfl
              rw [hnr] at HNe
              go_wp2
              go_quiet (fail)
              generalize hWd : World.drewN wr _ = Wd
              have HBd : Hid (Below w2.heap.size w2 Wd) := by show Below _ _ _; rw [← hWd]; exact bel_drewN HBr.out _
              have p1 := (HBd.out.cell (p := ⟨g, o + k, none⟩) (lt_cell p0)).trans p0
              clear hWd
              go_upto_region 14 with (go_at_call 16; refine (HFd.out _ HBd.out).mono ?_; rintro r w9 ⟨rfl, hb9⟩; have HB9 : Hid (Below w2.heap.size w2 w9) := HBd.out.trans (hb9.mono HBd.out.size); clear hb9)
              refine mlaw_r14f (vb := b) (vo := off) (n := n) (vc := c2) (j := k) (p := pp) rfl rfl rfl rfl rfl (fun W hb => HNe.out W (HB9.out.trans (hb.mono HB9.out.size))) ?_
              intro X W hb h6
              have HBx : Hid (Below w2.heap.size w2 W) := HB9.out.trans (hb.mono HB9.out.size)
              clear hb
              simp only [puts]
              rw [h6]
              generalize X 76 = x76
              generalize X 77 = x77
              generalize X 78 = x78
              generalize X 79 = x79
              generalize X 80 = x80
              generalize X 81 = x81
              generalize X 82 = x82
              generalize X 83 = x83
              generalize X 84 = x84
              generalize X 85 = x85
              generalize X 86 = x86
              generalize X 87 = x87
              generalize X 88 = x88
              generalize X 89 = x89
              generalize X 90 = x90
              generalize X 91 = x91
              generalize X 92 = x92
              generalize X 93 = x93
              generalize X 94 = x94
              clear h6
              simp only [Act.put, List.setIfInBounds_toArray, List.set_cons_succ, List.set_cons_zero]
              go_wp2
              go_roundw
              case rel => exact ⟨k + 1, HLt.out, by go_num, by rw [HI.out], HBx⟩
              case measure => have := HLt.out; simp [intOf]; omega
            | true =>
              have hpq : pp < P.length := by rw [HMn.out]; exact hpp
              obtain ⟨g', o', e', pq⟩ := HP2.out pp hpq
              cases e'
              have gP : P.getD pp 0 = P[pp] := by simp [List.getD, hpq]
              have HI : Hid (allL G P (k + 1) = (P[pp] == yk)) := by show _ = _; rw [HSk.out, HOm.out, hnr, gP]; rfl
              rw [hnr] at HNe
              generalize P[pp] = z at pq HI
              clear gP hpq
              go_wp2
              go_quiet (fail)
              generalize hWd : World.drewN wr _ = Wd
              have HBd : Hid (Below w2.heap.size w2 Wd) := by show Below _ _ _; rw [← hWd]; exact bel_drewN HBr.out _
              have p1 := (HBd.out.cell (p := ⟨g, o + k, none⟩) (lt_cell p0)).trans p0
              clear hWd
              go_upto_region 14 with (go_at_call 16; refine (HFd.out _ HBd.out).mono ?_; rintro r w9 ⟨rfl, hb9⟩; have HB9 : Hid (Below w2.heap.size w2 w9) := HBd.out.trans (hb9.mono HBd.out.size); clear hb9)
              refine mlaw_r14t (vb := b) (vo := off) (n := n) (vc := c2) (j := k) (p := pp) (g := g) (o := o) (lc := lc) (x := z) (y := yk) rfl rfl rfl rfl rfl (fun W hb => HNe.out W (HB9.out.trans (hb.mono HB9.out.size))) rfl ((HB9.out.cell (p := ⟨g, o + pp, none⟩) (lt_cell pq)).trans pq) ((HB9.out.cell (p := ⟨b, off + k * 3, none⟩) (lt_cell d0)).trans d0) hpp HLt.out ?_
              intro X W hb h6
              have HBx : Hid (Below w2.heap.size w2 W) := HB9.out.trans (hb.mono HB9.out.size)
              clear hb
              simp only [puts]
              rw [h6]
              generalize X 76 = x76
              generalize X 77 = x77
              generalize X 78 = x78
              generalize X 79 = x79
              generalize X 80 = x80
              generalize X 81 = x81
              generalize X 82 = x82
              generalize X 83 = x83
              generalize X 84 = x84
              generalize X 85 = x85
              generalize X 86 = x86
              generalize X 87 = x87
              generalize X 88 = x88
              generalize X 89 = x89
              generalize X 90 = x90
              generalize X 91 = x91
              generalize X 92 = x92
              generalize X 93 = x93
              generalize X 94 = x94
              clear h6
              simp only [Act.put, List.setIfInBounds_toArray, List.set_cons_succ, List.set_cons_zero]
              go_wp2
              go_roundw
              case rel => exact ⟨k + 1, HLt.out, by go_num, by rw [HI.out], HBx⟩
              case measure => have := HLt.out; simp [intOf]; omega
      · by_cases e : k = n
        · subst e
          generalize allL G P k = av at HM' ⊢
          clear hgo hk
          go_wp2_with (first
            | (go_at_call 15; refine (awake10 _).mono ?_; rintro r w5 ⟨rfl, hb5⟩; have HB5 : Hid (Below w2.heap.size w2 w5) := HBr.out.trans (hb5.mono HBr.out.size); have x3 := (HB5.out.cell (p := ⟨w.heap.size, 0, none⟩) (lt_cell x2)).trans x2)
            | (go_at_call 25; refine (HM'.out _ (HB2.out.trans (HB5.out.mono HB2.out.size))).mono ?_; rintro r w6 ⟨rfl, hb6⟩))
          go_ret
          exact ⟨by simp, HB2.out.trans ((HB5.out.trans (hb6.mono HB5.out.size)).mono HB2.out.size)⟩
        · have hall : allL G P k = false := by
            rw [Bool.eq_false_iff]
            intro h
            exact hgo ⟨by omega, h⟩
          have hlt : k < n := by omega
          rw [allL_low hall hk] at HM'
          rw [hall]
          clear hgo
          go_wp2_with (first
            | (go_at_call 15; refine (awake10 _).mono ?_; rintro r w5 ⟨rfl, hb5⟩; have HB5 : Hid (Below w2.heap.size w2 w5) := HBr.out.trans (hb5.mono HBr.out.size); have x3 := (HB5.out.cell (p := ⟨w.heap.size, 0, none⟩) (lt_cell x2)).trans x2)
            | (go_at_call 25; refine (HM'.out _ (HB2.out.trans (HB5.out.mono HB2.out.size))).mono ?_; rintro r w6 ⟨rfl, hb6⟩))
          go_ret
          exact ⟨by simp, HB2.out.trans ((HB5.out.trans (hb6.mono HB5.out.size)).mono HB2.out.size)⟩
  · have hg : goodB G = false := by simpa using hg
    have HGd : Hid _ := hg
    clear h hok hg
    go_enter Try.func6, Try.ntmps6
    go_wp2_with (first
      | (go_at_call 14; refine (good_any cap (HG.out _ HB0.out) HOk.out hl).mono ?_; rintro r w1 ⟨rfl, hb1⟩; rw [HGd.out]; have HB1 : Hid (Below w.heap.size w w1) := HB0.out.trans (hb1.mono HB0.out.size))
      | (go_at_call 15; refine (awake10 _).mono ?_; rintro r w2 ⟨rfl, hb2⟩))
    go_ret
    exact ⟨rfl, HB1.out.trans (hb2.mono HB1.out.size)⟩
end Go.Proofs.Ytcfbmgbhpihdcaa
end

section
/- How edges, vertices and graphs that came in are opened. -/
namespace Go.Proofs.Ytcfbmgbhpihdcaa
open Go.RowKit Go.Deep Go.Joins Go.ChangeShapes
theorem cellsL : Try.prog.cellsOf 2 = 1 := by kernel_rfl
theorem cellsEs : Try.prog.cellsOf 68 = 1 := by kernel_rfl
theorem cellsVs : Try.prog.cellsOf 22 = 1 := by kernel_rfl
theorem cellsEd : Try.prog.cellsOf 67 = 2 := by kernel_rfl
theorem cellsVx : Try.prog.cellsOf 70 = 3 := by kernel_rfl
theorem cellsGr : Try.prog.cellsOf 24 = 1 := by kernel_rfl
theorem two_of {α : Type} {l : List α} (h : l.length = 2) : ∃ a b, l = [a, b] := by
  match l, h with
  | [a, b], _ => exact ⟨a, b, rfl⟩
theorem three_of {α : Type} {l : List α} (h : l.length = 3) : ∃ a b c, l = [a, b, c] := by
  match l, h with
  | [a, b, c], _ => exact ⟨a, b, c, rfl⟩
theorem add_none {b off : Nat} (j i : Nat) : (((⟨b, off, none⟩ : Addr).add j).add i) = ⟨b, off + j + i, none⟩ := by
  rw [add_add]
  unfold Addr.add
  split <;> simp_all <;> omega
section
variable {H : Type} {enc : TypeId × Value → H} {w : World} {base : Nat} {spare : Nat → Bool} {held : Bool}
def Ed.data (e : Ed) : DataW H := .agg [.lit (.int .i64 e.t), .lit (.int .i64 e.w)]
theorem i64_of {a : Int} (h : (Lit.int .i64 a).wf = true) : I64 a := by have := bounds_i64 h; unfold I64; omega
theorem open_ed {n : Nat} {cs : List Value} {x : DataW H × List MemPlace} (h : DataW.trod enc Try.prog w base spare held n 67 cs = some x) :
    ∃ y : Ed, cs = [.int .i64 y.t, .int .i64 y.w] ∧ x.1 = y.data ∧ y.ok := by
  obtain ⟨y0, y1, m, rfl, hl, h0, h1⟩ := trod_struct2 Try.underlying67 h
  rw [cellsEd] at hl
  obtain ⟨v0, v1, rfl⟩ := two_of hl
  simp only [cellsL] at h0 h1
  obtain ⟨a, e0, rfl, wa⟩ := DataW.trod_int Try.underlying2 h0
  obtain ⟨b, e1, rfl, wb⟩ := DataW.trod_int Try.underlying2 h1
  simp at e0 e1
  subst e0 e1
  exact ⟨⟨a, b⟩, rfl, rfl, ⟨i64_of wa, i64_of wb⟩⟩
theorem open_eds {n : Nat} {cs : List Value} {x : DataW H × List MemPlace} (h : DataW.trod enc Try.prog w base spare held n 68 cs = some x) :
    ∃ (ao : Option Addr) (cap : Nat) (L : List Ed), cs = [.slice ao L.length cap] ∧ (∀ y ∈ L, y.ok) ∧ L.length ≤ maxLen ∧ EdAt w (fun k => k < w.heap.size) ao L ∧ ((x.1 = .nil ∧ L = []) ∨ ∃ sp, x.1 = .slice (L.map Ed.data) sp) := by
  rcases open_slice Try.underlying68 h with ⟨h0, h1⟩ | ⟨a, len, cap, m, k, D, Pl, rfl, hb, hl, hm, hmm, rfl, hx⟩
  · exact ⟨none, 0, [], h0, fun y hy => (by cases hy), by simp, fun h => absurd h (by simp), Or.inl ⟨by rw [h1], rfl⟩⟩
  · have hlm : len ≤ m := by rw [hmm]; split <;> omega
    have each : ∀ i, i < len → ∃ y : Ed, w.cells? base (a.add (i * 2)) 2 = some [.int .i64 y.t, .int .i64 y.w] ∧ D i = y.data ∧ y.ok := by
      intro i hi
      obtain ⟨cs', h1, h2⟩ := hx i (by omega)
      rw [cellsEd] at h1
      obtain ⟨y, rfl, h3, h4⟩ := open_ed h2
      exact ⟨y, h1, h3, h4⟩
    haveI : Inhabited Ed := ⟨⟨0, 0⟩⟩
    obtain ⟨q, hq⟩ := choose_lt each
    have hlen : ((List.range len).map q).length = len := by simp
    refine ⟨some a, cap, (List.range len).map q, by rw [hlen], ?_, by rw [hlen]; omega, ?_, Or.inr ⟨(List.range (m - len)).map fun j => D (len + j), ?_⟩⟩
    · intro y hy
      obtain ⟨i, hi, rfl⟩ := List.mem_map.1 hy
      exact (hq i (List.mem_range.1 hi)).2.2
    · intro hpos
      rw [hlen] at hpos
      obtain ⟨_, _, hc0⟩ := World.cells?_some (hq 0 hpos).1
      have hs0 := World.cell?_spot (hc0 0 (by simp))
      have hspot : a.spot = none := by simpa [Addr.add] using hs0
      obtain ⟨b, off, spot⟩ := a
      simp only at hspot
      subst hspot
      have hcell : ∀ j (_ : j < len), w.cell? ⟨b, off + j * 2, none⟩ = some (.int .i64 (q j).t) ∧ w.cell? ⟨b, off + j * 2 + 1, none⟩ = some (.int .i64 (q j).w) := by
        intro j hj
        obtain ⟨_, _, hc⟩ := World.cells?_some (hq j hj).1
        have e0 := hc 0 (by simp)
        have e1 := hc 1 (by simp)
        rw [add_none] at e0 e1
        simp at e0 e1
        exact ⟨e0, e1⟩
      refine ⟨b, off, rfl, lt_cell (hcell 0 hpos).1, ?_⟩
      intro j hj
      have hj' : j < len := by simpa using hj
      simp only [List.getElem_map, List.getElem_range]
      exact hcell j hj'
    · show DataW.slice _ _ = _
      rw [List.map_map]
      congr 1
      exact List.map_congr_left (fun i hi => (hq i (List.mem_range.1 hi)).2.1)
/-- A vertex's three cells, opened. -/
theorem open_vx {n : Nat} {cs : List Value} {x : DataW H × List MemPlace} (h : DataW.trod enc Try.prog w base spare held n 70 cs = some x) :
    ∃ (y : Vx) (eo : Option Addr) (ec : Nat) (dx : DataW H), cs = [.int .i64 y.id, .int .i64 y.val, .slice eo y.es.length ec] ∧ I64 y.id ∧ I64 y.val ∧ (∀ e ∈ y.es, e.ok) ∧ y.es.length ≤ maxLen ∧ EdAt w (fun k => k < w.heap.size) eo y.es ∧ x.1 = .agg [.lit (.int .i64 y.id), .lit (.int .i64 y.val), dx] ∧ ((dx = .nil ∧ y.es = []) ∨ ∃ sp, dx = .slice (y.es.map Ed.data) sp) := by
  obtain ⟨y0, y1, y2, m, rfl, hl, h0, h1, h2⟩ := trod_struct3 Try.underlying70 h
  rw [cellsVx] at hl
  obtain ⟨v0, v1, v2, rfl⟩ := three_of hl
  simp only [cellsL, cellsEs] at h0 h1 h2
  obtain ⟨a, e0, rfl, wa⟩ := DataW.trod_int Try.underlying2 h0
  obtain ⟨b, e1, rfl, wb⟩ := DataW.trod_int Try.underlying2 h1
  obtain ⟨ao, cap, L, hcs, hok, hm, hE, hd⟩ := open_eds h2
  simp at e0 e1 hcs
  subst e0 e1 hcs
  exact ⟨⟨a, b, L⟩, ao, cap, y2.1, rfl, i64_of wa, i64_of wb, hok, hm, hE, rfl, hd⟩
end
end Go.Proofs.Ytcfbmgbhpihdcaa
end

section
/- How a graph that came in is opened, with its bounds. -/
namespace Go.Proofs.Ytcfbmgbhpihdcaa
open Go.RowKit Go.Deep Go.Joins Go.ChangeShapes
theorem bytesEd : Try.prog.bytesOf 67 = 16 := by kernel_rfl
theorem bytesVx : Try.prog.bytesOf 70 = 40 := by kernel_rfl
theorem mem_weightsAll {H : Type} {P : Program} {e : TypeId} : ∀ {ds : List (DataW H)} {d : DataW H} {n : Nat}, d ∈ ds → n ∈ d.weights P e → n ∈ DataW.weightsAll P e ds
  | [], _, _, h, _ => by cases h
  | d0 :: ds, d, n, h, hn => by
    simp only [DataW.weightsAll, List.mem_append]
    rcases List.mem_cons.1 h with rfl | h
    · exact Or.inl hn
    · exact Or.inr (mem_weightsAll h hn)
section
variable {H : Type} {enc : TypeId × Value → H} {w : World} {base : Nat} {spare : Nat → Bool} {held : Bool}
theorem vx_weight {y : Vx} {dx : DataW H} (hd : (dx = .nil ∧ y.es = []) ∨ ∃ sp, dx = .slice (y.es.map Ed.data) sp) (hw : ∀ m ∈ (DataW.agg [.lit (.int .i64 y.id), .lit (.int .i64 y.val), dx] : DataW H).weights Try.prog 70, m ≤ reachBytes) : y.es.length ≤ 8796093022208 := by
  rcases hd with ⟨_, h⟩ | ⟨sp, rfl⟩
  · rw [h]; simp
  · have := hw ((y.es.length + sp.length) * 16) (by
      have hu := Try.underlying70
      have hv := Try.underlying68
      simp [DataW.weights, DataW.weightsEach, hu, hv, bytesEd])
    unfold reachBytes at this
    omega
theorem open_vs {n : Nat} {cs : List Value} {x : DataW H × List MemPlace} (h : DataW.trod enc Try.prog w base spare held n 22 cs = some x) (hw : ∀ m ∈ x.1.weights Try.prog 22, m ≤ reachBytes) :
    ∃ (ao : Option Addr) (cap : Nat) (G : List Vx), cs = [.slice ao G.length cap] ∧ (∀ y ∈ G, y.ok) ∧ G.length * 40 ≤ 140737488355328 ∧ VxAt w (fun k => k < w.heap.size) ao G := by
  rcases open_slice Try.underlying22 h with ⟨h0, h1⟩ | ⟨a, len, cap, m, k, D, Pl, rfl, hb, hl, hm, hmm, rfl, hx⟩
  · exact ⟨none, 0, [], h0, fun y hy => (by cases hy), by simp, fun h => absurd h (by simp)⟩
  · have hlm : len ≤ m := by rw [hmm]; split <;> omega
    have hv := Try.underlying22
    have hlen40 : len * 40 ≤ 140737488355328 := by
      have := hw ((((List.range len).map D).length + ((List.range (m - len)).map fun j => D (len + j)).length) * 40) (by simp [DataW.weights, hv, bytesVx])
      unfold reachBytes at this
      simp only [List.length_map, List.length_range] at this
      omega
    have each : ∀ i, i < len → ∃ y : Vx, (∃ eo ec, w.cells? base (a.add (i * 3)) 3 = some [.int .i64 y.id, .int .i64 y.val, .slice eo y.es.length ec] ∧ EdAt w (fun k => k < w.heap.size) eo y.es) ∧ y.ok := by
      intro i hi
      obtain ⟨cs', h1, h2⟩ := hx i (by omega)
      rw [cellsVx] at h1
      obtain ⟨y, eo, ec, dx, rfl, hid, hvl, hes, _, hE, hD, hd⟩ := open_vx h2
      refine ⟨y, ⟨eo, ec, h1, hE⟩, hid, hvl, hes, vx_weight hd (fun m hm => hw m ?_)⟩
      simp only [DataW.weights, hv]
      refine List.mem_cons_of_mem _ (List.mem_append_left _ (mem_weightsAll (d := D i) (List.mem_map.2 ⟨i, List.mem_range.2 hi, rfl⟩) ?_))
      have hD' : D i = _ := hD
      rw [hD']
      exact hm
    haveI : Inhabited Vx := ⟨⟨0, 0, []⟩⟩
    obtain ⟨q, hq⟩ := choose_lt each
    have hlen : ((List.range len).map q).length = len := by simp
    refine ⟨some a, cap, (List.range len).map q, by rw [hlen], ?_, by rw [hlen]; exact hlen40, ?_⟩
    · intro y hy
      obtain ⟨i, hi, rfl⟩ := List.mem_map.1 hy
      exact (hq i (List.mem_range.1 hi)).2
    · intro hpos
      rw [hlen] at hpos
      obtain ⟨eo0, ec0, hq0, _⟩ := (hq 0 hpos).1
      obtain ⟨_, _, hc0⟩ := World.cells?_some hq0
      have hs0 := World.cell?_spot (hc0 0 (by simp))
      have hspot : a.spot = none := by simpa [Addr.add] using hs0
      obtain ⟨b, off, spot⟩ := a
      simp only at hspot
      subst hspot
      have hcell : ∀ j (_ : j < len), VxCell w (fun k => k < w.heap.size) b (off + j * 3) (q j) := by
        intro j hj
        obtain ⟨eo, ec, hqj, hE⟩ := (hq j hj).1
        obtain ⟨_, _, hc⟩ := World.cells?_some hqj
        have e0 := hc 0 (by simp)
        have e1 := hc 1 (by simp)
        have e2 := hc 2 (by simp)
        rw [add_none] at e0 e1 e2
        simp at e0 e1 e2
        exact ⟨eo, ec, e0, e1, e2, hE⟩
      refine ⟨b, off, rfl, ?_, ?_⟩
      · obtain ⟨_, _, e0, _⟩ := hcell 0 hpos
        exact lt_cell e0
      · intro j hj
        have hj' : j < len := by simpa using hj
        simp only [List.getElem_map, List.getElem_range]
        exact hcell j hj'
theorem open_gr {n : Nat} {cs : List Value} {x : DataW H × List MemPlace} (h : DataW.trod enc Try.prog w base spare held n 24 cs = some x) (hw : ∀ m ∈ x.1.weights Try.prog 24, m ≤ reachBytes) :
    ∃ (ao : Option Addr) (cap : Nat) (G : List Vx), cs = [.slice ao G.length cap] ∧ (∀ y ∈ G, y.ok) ∧ G.length * 40 ≤ 140737488355328 ∧ VxAt w (fun k => k < w.heap.size) ao G := by
  obtain ⟨y0, m, rfl, hl, h0⟩ := trod_struct1 Try.underlying24 h
  rw [cellsGr] at hl
  obtain ⟨v0, rfl⟩ : ∃ v, cs = [v] := List.length_eq_one_iff.1 hl
  simp only [cellsVs] at h0
  refine open_vs (x := y0) (by simpa using h0) (fun k hk => hw k ?_)
  have hu := Try.underlying24
  simp [DataW.weights, DataW.weightsEach, hu]
  exact hk
end
end Go.Proofs.Ytcfbmgbhpihdcaa
end
