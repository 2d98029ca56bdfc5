import Derived.Test.YtbilpiodoincgaaGrRefCM
import Derived.Test.YtbilpiodoincgaaGrThereM
/- What the document's Check returns. -/
namespace Go.Proofs.Ytbilpiodoincgaa
open Go.RowKit
/-- A vertex's edges rise, and their ends are there. -/
def GoodE (G : List Vx) (L : List Ed) (n : Nat) : Prop := (∀ j (h : j < L.length), j < n → (ids G).contains L[j].t = true) ∧ ∀ j (h : j + 1 < L.length), j + 1 < n → L[j].t < L[j + 1].t
theorem good_all {G : List Vx} (H : ∀ j (h : j < G.length), GoodE G G[j].es G[j].es.length) : risesE G = true ∧ thereE G = true := by
  constructor
  · refine risesE_all (fun j hj => (riseB_iff _).2 (fun i hi => ?_))
    have := (H j hj).2 i (by rw [ends_len] at hi; exact hi) (by rw [ends_len] at hi; exact hi)
    rw [ends_get _ _ (by rw [ends_len] at hi; omega), ends_get _ _ (by rw [ends_len] at hi; exact hi)]
    exact this
  · unfold thereE
    rw [List.all_eq_true]
    intro v hv
    obtain ⟨j, hj, rfl⟩ := List.getElem_of_mem hv
    rw [List.all_eq_true]
    intro e he
    obtain ⟨i, hi, rfl⟩ := List.getElem_of_mem he
    exact (H j hj).1 i hi hi
theorem bad_there {G : List Vx} {j i : Nat} (hj : j < G.length) (hi : i < G[j].es.length) (h : (ids G).contains G[j].es[i].t = false) : thereE G = false := by
  unfold thereE
  rw [Bool.eq_false_iff]
  intro ha
  rw [List.all_eq_true] at ha
  have h1 := ha _ (List.getElem_mem hj)
  rw [List.all_eq_true] at h1
  have h2 := h1 _ (List.getElem_mem hi)
  rw [h] at h2
  cases h2
theorem bad_rise {G : List Vx} {j i : Nat} (hj : j < G.length) (hi : i + 1 < G[j].es.length) (h : ¬ G[j].es[i].t < G[j].es[i + 1].t) : risesE G = false := by
  refine risesE_at hj (rise_false (j := i) (by rw [ends_len]; exact hi) ?_)
  rw [ends_get _ _ (by omega), ends_get _ _ hi]
  exact h

set_option maxRecDepth 100000 in
set_option maxHeartbeats 2000000 in
theorem refcheck_any {w : World} {P : Nat → Prop} {ao : Option Addr} {G : List Vx} (cap : Nat) (h : VxAt w P ao G) (hl : G.length ≤ 9223372036854775807) (hok : ∀ v ∈ G, v.ok) :
    Calls Try.prog 40 #[.slice ao G.length cap] w fun r w' => r = .returned (.int .i64 (chk G)) ∧ Below w.heap.size w w' := by
  by_cases hlen : 256 < G.length
  · have HC : Hid (chk G = 30) := if_pos (Or.inl hlen)
    go_enter Try.func40, Try.ntmps40
    go_wp2
    go_ret
    exact ⟨by rw [HC.out]; rfl, Below.refl _ _⟩
  · have HV : Hid (VxAt w P ao G) := h
    have HO : Hid (∀ v ∈ G, v.ok) := hok
    clear h hok
    go_enter Try.func40, Try.ntmps40
    go_wp2
    go_loopw [3] (fun i wr => ∃ (k : Nat), 1 ≤ k ∧ k ≤ max G.length 1 ∧ i = .int .i64 k ∧ Hid (∀ j (h : j + 1 < (ids G).length), j + 1 < k → (ids G)[j] < (ids G)[j + 1]) ∧ Below w.heap.size w wr) (fun i _ => G.length - (intOf i).toNat)
    case atStart => exact ⟨1, Nat.le_refl _, by omega, rfl, fun j _ hj => absurd hj (by omega), Below.refl _ _⟩
    case round =>
      obtain ⟨k, hk1, hk, rfl, HR, hb⟩ := hrel
      by_cases hlt : k < G.length
      · obtain ⟨b, off, rfl, hP, hc⟩ := HV.out (by omega)
        obtain ⟨m, HK⟩ : ∃ m, Hid (k = m + 1) := ⟨k - 1, (by omega : k = k - 1 + 1)⟩
        have hmk : k = m + 1 := HK.out
        have hm0 : m < G.length := by omega
        obtain ⟨eo, ec, c0, _, _, _⟩ := hc m hm0
        obtain ⟨fo, fc, f0, _, _, _⟩ := hc k hlt
        have hbb := lt_cell c0
        have d0 := (hb.cell (p := ⟨b, off + m * 3, none⟩) hbb).trans c0
        have g0 := (hb.cell (p := ⟨b, off + k * 3, none⟩) hbb).trans f0
        have HM : Hid ((ids G)[m]'(by rw [ids_len]; omega) = G[m].id) := ids_get G m hm0
        have HN : Hid ((ids G)[k]'(by rw [ids_len]; omega) = G[k].id) := ids_get G k hlt
        have hm1 : IntKind.i64.wrap ((k : Int) - 1) = m := by rw [IntKind.wrap_i64]; omega
        have hm2 : wrap64 ((k : Int) - 1) = m := by unfold wrap64; omega
        clear c0 f0 hc hmk
        generalize G[m] = y at d0 HM
        generalize G[k] = z at g0 HN
        go_wp2
        go_quiet (fail)
        by_cases hr : z.id ≤ y.id
        · have HC : Hid (chk G = 30) := if_pos (Or.inr (rise_at HK.out (by rw [ids_len]; exact hlt) HM.out HN.out hr))
          go_wp2
          go_ret
          exact ⟨by rw [HC.out]; rfl, bel_drewN hb _⟩
        · go_wp2
          go_roundw
          case rel => exact ⟨k + 1, by omega, by omega, by go_num, rise_step HK.out (by rw [ids_len]; exact hlt) HM.out HN.out (by omega) HR.out, bel_drewN hb _⟩
          case measure => simp [intOf]; omega
      · have HRi : Hid (Rise (ids G)) := fun j hj => HR.out j hj (by rw [ids_len] at hj; omega)
        have HRb : Hid (riseB (ids G) = true) := (riseB_iff _).2 HRi.out
        have HC : Hid (chk G = if 2048 < sumE G ∨ risesE G = false ∨ thereE G = false then 31 else 0) := if_neg (by rw [HRb.out]; simp; omega)
        have HVr : Hid (VxAt wr P ao G) := HV.out.new hb
        have hE := refedges_any cap HVr.out hl
        by_cases hs : 2048 < sumE G
        · go_wp2_with (go_at_call 29; refine hE.mono ?_; rintro r w1 ⟨rfl, hb1⟩)
          go_ret
          exact ⟨by rw [HC.out, if_pos (Or.inl hs)]; rfl, hb.trans (hb1.mono hb.size)⟩
        · go_wp2_with (go_at_call 29; refine hE.mono ?_; rintro r w1 ⟨rfl, hb1⟩)
          have hbA : Below w.heap.size w w1 := hb.trans (hb1.mono hb.size)
          have HVA : Hid (VxAt w1 P ao G) := HVr.out.new hb1
          clear hE hb1
          go_loopw [4, 5, 6, 7, 8] (fun i _ _ _ _ wx => ∃ (j : Nat), j ≤ G.length ∧ i = .int .i64 j ∧ Hid (∀ q (h : q < G.length), q < j → GoodE G G[q].es G[q].es.length) ∧ Below w.heap.size w wx) (fun i _ _ _ _ _ => G.length - (intOf i).toNat)
          case atStart => exact ⟨0, Nat.zero_le _, rfl, fun q _ hq => absurd hq (by omega), hbA⟩
          case round =>
            obtain ⟨j, hj, rfl, HQ, hbx⟩ := hrel
            by_cases hjl : j < G.length
            · obtain ⟨b, off, rfl, hP, hc⟩ := HV.out (by omega)
              obtain ⟨eo, ec, e0, e1, e2, e3⟩ := hc j hjl
              have hbb := lt_cell e0
              have d2 := (hbx.cell (p := ⟨b, off + j * 3 + 2, none⟩) hbb).trans e2
              have HE : Hid (EdAt w P eo G[j].es) := e3
              have hel : G[j].es.length ≤ 9223372036854775807 := Nat.le_trans (HO.out _ (List.getElem_mem hjl)).len (by decide)
              have HB1 : Hid (∀ y, G[j] = y → ∀ i (h : i < y.es.length), (ids G).contains y.es[i].t = false → thereE G = false) := fun y e i hi hcn => by subst e; exact bad_there hjl hi hcn
              have HB2 : Hid (∀ y, G[j] = y → ∀ i (h : i + 1 < y.es.length), ¬ y.es[i].t < y.es[i + 1].t → risesE G = false) := fun y e i hi hcn => by subst e; exact bad_rise hjl hi hcn
              have HB3 : Hid (∀ y, G[j] = y → GoodE G y.es y.es.length → ∀ q (h : q < G.length), q < j + 1 → GoodE G G[q].es G[q].es.length) := fun y e hg q hq hqj => by
                by_cases eq : q = j
                · subst eq; rw [e]; exact hg
                · exact HQ.out q hq (by omega)
              obtain ⟨y, hy⟩ : ∃ y, G[j] = y := ⟨_, rfl⟩
              have HY : Hid (G[j] = y) := hy
              rw [hy] at d2 HE hel
              clear hy e0 e1 e2 e3 hc
              go_wp2
              go_loopw [6, 7, 8] (fun i _ _ wx => ∃ (k : Nat), k ≤ y.es.length ∧ i = .int .i64 k ∧ Hid (GoodE G y.es k) ∧ Below w.heap.size w wx) (fun i _ _ _ => y.es.length - (intOf i).toNat)
              case atStart => exact ⟨0, Nat.zero_le _, rfl, ⟨fun q _ hq => absurd hq (by omega), fun q _ hq => absurd hq (by omega)⟩, hbx⟩
              case round =>
                obtain ⟨k, hk, rfl, HD, hby⟩ := hrel
                by_cases hkl : k < y.es.length
                · obtain ⟨eb, eoff, rfl, hPe, hce⟩ := HE.out (by omega)
                  have f0 := (hby.cell (p := ⟨eb, eoff + k * 2, none⟩) (lt_cell (hce k hkl).1)).trans (hce k hkl).1
                  have hF := reffind_any cap y.es[k].t (HV.out.new hby) hl
                  have HP1 : Hid (foundB (ids G) y.es[k].t = (ids G).contains y.es[k].t) := foundB_iff HRi.out _
                  have HN : Hid (∀ z, y.es[k] = z → (ids G).contains z.t = false → thereE G = false) := fun z e hcn => HB1.out y HY.out k hkl (by rw [e]; exact hcn)
                  cases hfb : foundB (ids G) y.es[k].t with
                  | false =>
                    rw [hfb] at hF HP1
                    have HT : Hid (thereE G = false) := HB1.out y HY.out k hkl HP1.out.symm
                    clear hfb hce
                    generalize y.es[k] = z at f0 hF
                    go_wp2_with (go_at_call 16; refine hF.mono ?_; rintro r w2 ⟨rfl, hb2⟩)
                    go_quiet (fail)
                    go_wp2
                    go_ret
                    exact ⟨by rw [HC.out, if_pos (Or.inr (Or.inr HT.out))]; rfl, bel_drewN (hby.trans (hb2.mono hby.size)) _⟩
                  | true =>
                    rw [hfb] at hF HP1
                    by_cases hk0 : k = 0
                    · have HG : Hid (GoodE G y.es (k + 1)) := ⟨fun q hq hqk => by
                        obtain rfl : q = k := by omega
                        exact HP1.out.symm, fun q _ hq => absurd hq (by omega)⟩
                      have hd : decide (0 < k) = false := by rw [decide_eq_false_iff_not]; omega
                      clear hfb hce hk0
                      generalize y.es[k] = z at f0 hF
                      go_wp2_with (go_at_call 16; refine hF.mono ?_; rintro r w2 ⟨rfl, hb2⟩)
                      go_quiet (fail)
                      go_wp2
                      go_roundw
                      case rel => exact ⟨k + 1, by omega, by go_num, HG.out, bel_drewN (hby.trans (hb2.mono hby.size)) _⟩
                      case measure => simp [intOf]; omega
                    · obtain ⟨m, HK⟩ : ∃ m, Hid (k = m + 1) := ⟨k - 1, (by omega : k = k - 1 + 1)⟩
                      have hmk : k = m + 1 := HK.out
                      have hm0 : m < y.es.length := by omega
                      have g0 := (hby.cell (p := ⟨eb, eoff + m * 2, none⟩) (lt_cell (hce m hm0).1)).trans (hce m hm0).1
                      have hm1 : IntKind.i64.wrap ((k : Int) - 1) = m := by rw [IntKind.wrap_i64]; omega
                      have hm2 : wrap64 ((k : Int) - 1) = m := by unfold wrap64; omega
                      have hpos : decide (0 < k) = true := by rw [decide_eq_true_iff]; omega
                      have hebw : eb < w.heap.size := lt_cell (hce k hkl).1
                      have HG : Hid (∀ u z, y.es[m] = u → y.es[k] = z → u.t < z.t → GoodE G y.es (k + 1)) := fun u z hu hz hlt2 => ⟨fun q hq hqk => by
                        by_cases e : q = k
                        · subst e; exact HP1.out.symm
                        · exact HD.out.1 q hq (by omega), fun q hq hqk => by
                        by_cases e : q = m
                        · subst e; subst hmk; rw [hu, hz]; exact hlt2
                        · exact HD.out.2 q hq (by omega)⟩
                      have HX : Hid (∀ u z, y.es[m] = u → y.es[k] = z → ¬ u.t < z.t → risesE G = false) := fun u z hu hz hn => HB2.out y HY.out m (by omega) (by subst hmk; rw [hu, hz]; omega)
                      obtain ⟨u, hu⟩ : ∃ u, y.es[m] = u := ⟨_, rfl⟩
                      obtain ⟨z, hz⟩ : ∃ z, y.es[k] = z := ⟨_, rfl⟩
                      have HU : Hid (y.es[m] = u) := hu
                      have HZ : Hid (y.es[k] = z) := hz
                      rw [hu] at g0
                      rw [hz] at f0 hF
                      clear hfb hce hk0 hu hz hmk
                      go_wp2_with (go_at_call 16; refine hF.mono ?_; rintro r w2 ⟨rfl, hb2⟩; have f1 := (hb2.cell (p := ⟨eb, eoff + k * 2, none⟩) (Nat.lt_of_lt_of_le hebw hby.size)).trans f0; have g1 := (hb2.cell (p := ⟨eb, eoff + m * 2, none⟩) (Nat.lt_of_lt_of_le hebw hby.size)).trans g0)
                      go_quiet (fail)
                      by_cases hr : z.t ≤ u.t
                      · have HT : Hid (risesE G = false) := HX.out u z HU.out HZ.out (by omega)
                        go_wp2
                        go_ret
                        exact ⟨by rw [HC.out, if_pos (Or.inr (Or.inl HT.out))]; rfl, bel_drewN (hby.trans (hb2.mono hby.size)) _⟩
                      · go_wp2
                        go_roundw
                        case rel => exact ⟨k + 1, by omega, by go_num, HG.out u z HU.out HZ.out (by omega), bel_drewN (hby.trans (hb2.mono hby.size)) _⟩
                        case measure => simp [intOf]; omega
                · obtain rfl : k = y.es.length := by omega
                  go_wp2
                  go_roundw
                  case rel => exact ⟨j + 1, by omega, by go_num, HB3.out y HY.out HD.out, hby⟩
                  case measure => simp [intOf]; omega
            · have HT := good_all (fun q hq => HQ.out q hq (by omega))
              have HE0 : Hid (chk G = 0) := HC.out.trans (if_neg (by rw [HT.1, HT.2]; simp; omega))
              clear HT
              go_wp2
              go_ret
              exact ⟨by rw [HE0.out]; rfl, hbx⟩
theorem rise_of {G : List Vx} (h : chk G = 0) : G.length ≤ 256 ∧ Rise (ids G) := by
  unfold chk at h
  split at h
  · cases h
  · rename_i hn
    refine ⟨by omega, (riseB_iff _).1 ?_⟩
    cases hb : riseB (ids G) with
    | true => rfl
    | false => exact absurd (Or.inr hb) hn
end Go.Proofs.Ytbilpiodoincgaa
