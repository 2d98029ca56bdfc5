/- What WalReads returns: true. -/
import Derived.Test.YtdapapnkmicklaaWlGen
import Derived.Deep.CutBlock
import Derived.Deep.DeepCutAuto
namespace Go.Proofs.Ytdapapnkmicklaa
open Go.RowKit Go.Maps
attribute [local go_sem] Oper.semAt_some
theorem str_neB (a : Bs) : ((str a).toList == (str a).toList) = true := by rw [str_eqB]; simp
set_option maxRecDepth 100000 in
set_option maxHeartbeats 4000000 in
theorem reads_any {w : World} {v : Value} {L : List Bs} {y : Bs} (h : TxS w v L) : Calls Try.prog 6 #[v, .string (str y)] w fun r w' => r = .returned (.bool true) ∧ Below w.heap.size w w' := by
  have HCut : Hid (∀ W, Below w.heap.size w W → Calls Try.prog 15 #[v] W fun r w' => ∃ v', r = .returned v' ∧ TxO w' W.heap.size v' (cutT L) ∧ Below W.heap.size W w') := fun W hW => cut_any (h.new hW)
  obtain ⟨ao, cap, rfl, _, _⟩ := h
  have hN := new_any w
  obtain ⟨n0, hn0⟩ : ∃ n0, w.heap.size = n0 := ⟨_, rfl⟩
  rw [hn0] at hN HCut ⊢
  have HC6 : Hid ((cutT L).length ≤ 6) := cutT_len L
  have HCe : Hid (∀ x ∈ cutT L, x.length ≤ 200) := cutT_each L
  have HCf : Hid ((frs (cutT L)).length ≤ 1284) := cutT_frs L
  generalize cutT L = C at HCut HC6 HCe HCf
  obtain ⟨c0, hc0⟩ : ∃ c0, C.length = c0 := ⟨_, rfl⟩
  have HC0 : Hid (C.length = c0) := hc0
  have hc6 : c0 ≤ 6 := by have := HC6.out; omega
  clear hc0 HC6
  go_enter Try.func6, Try.ntmps6
  go_upto_block 0 with (go_at_call 8; refine hN.mono ?_; rintro r w1 ⟨rfl, hD, hb1⟩; have HD1 : Hid (DkAt w1 n0 n0 dk0) := ⟨_, _, _, hD⟩; have HB1 : Hid (Below n0 w w1) := hb1; have HS1 : Hid (n0 ≤ w1.heap.size) := (by have := hb1.size; show _ ≤ _; omega); clear hD hb1)
  go_cut [6] (fun tx wx => tx = .string (str (frs C)) ∧ Below w1.heap.size w1 wx)
  case first =>
    go_wp2
    go_loopw [6, 7] (fun tx i wr => ∃ (k : Nat) (s : ByteArray), i = .int .i64 k ∧ k ≤ c0 ∧ tx = .string s ∧ Hid (s = str (frs (C.take k))) ∧ Hid (Below w1.heap.size w1 wr)) (fun _ i _ => c0 - (intOf i).toNat)
    case atStart => exact ⟨0, _, rfl, Nat.zero_le _, rfl, rfl, Below.refl _ _⟩
    case round =>
      obtain ⟨k, s, rfl, hk, rfl, HSt, HB⟩ := hrel
      have HBw : Hid (Below n0 w wr) := HB1.out.trans (HB.out.mono HS1.out)
      by_cases hlt : k < c0
      · have hkl : k < C.length := by have := HC0.out; omega
        have HY : Hid (frs (C.take (k + 1)) = frs (C.take k) ++ frameB C[k]) := frs_take C k hkl
        have hx200 : C[k].length ≤ 200 := HCe.out _ (List.getElem_mem hkl)
        have HF : Hid (∀ W, Calls Try.prog 26 #[.string (str C[k])] W fun e w' => e = .returned (.string (str (frameB C[k]))) ∧ Below W.heap.size W w') := fun W => refframe_any (str C[k]) W (by rw [str_size]; omega)
        have HZ : Hid (∀ (V : World) (ao : Option Addr) (m c D : Nat), TxO V D (.slice ao m c) C → m = c0 ∧ ∃ b off, ao = some ⟨b, off, none⟩ ∧ V.cell? ⟨b, off + k, none⟩ = some (.string (str C[k]))) := fun V ao m c D hO => by
          obtain ⟨ao', c', he, _, hcs⟩ := hO.toS
          cases he
          obtain ⟨b, off, rfl, hct⟩ := hcs (by omega)
          exact ⟨HC0.out, b, off, rfl, hct k hkl⟩
        have hs1 : s.size ≤ 1284 := by
          rw [HSt.out, str_size]
          exact Nat.le_trans (frs_le C k) HCf.out
        have hs2 : (str (frameB C[k])).size ≤ 214 := by
          have := frameB_le C[k] (by omega)
          rw [str_size]
          omega
        have HLt : Hid (k < c0) := hlt
        have HE : Hid (s ++ str (frameB C[k]) = str (frs (C.take (k + 1)))) := by
          show _ = _
          rw [HSt.out, str_append, HY.out]
        clear hx200 HY
        generalize C[k] = x at HF HZ hs2 HE
        clear hkl
        have t1 : True := trivial
        go_wp2_with (first
          | (go_at_call 15; have _t := t1; clear t1; refine (HCut.out _ HBw.out).mono ?_; rintro r w2 ⟨v2, rfl, ho, hb⟩; obtain ⟨a2, d2, rfl⟩ := ho.shape; obtain ⟨e2, _⟩ := HZ.out _ _ _ _ _ ho; rw [e2]; have HB2 : Hid (Below wr.heap.size wr w2) := hb; have HBw2 : Hid (Below n0 w w2) := HBw.out.trans (hb.mono (Nat.le_trans HS1.out HB.out.size)); clear ho hb e2)
          | (go_at_call 15; refine (HCut.out _ HBw2.out).mono ?_; rintro r w3 ⟨v3, rfl, ho, hb⟩; obtain ⟨a3, d3, rfl⟩ := ho.shape; obtain ⟨e3, b3, o3, rfl, z3⟩ := HZ.out _ _ _ _ _ ho; rw [e3]; have HB3 : Hid (Below wr.heap.size wr w3) := HB2.out.trans (hb.mono HB2.out.size); clear ho hb e3)
          | (go_at_call 26; refine (HF.out _).mono ?_; rintro r w4 ⟨rfl, hb⟩; have HB4 : Hid (Below wr.heap.size wr w4) := HB3.out.trans (hb.mono HB3.out.size); clear hb))
        go_roundw
        case rel => exact ⟨k + 1, _, by go_num, HLt.out, rfl, HE, HB.out.trans (HB4.out.mono HB.out.size)⟩
        case measure => have := HLt.out; simp [intOf]; omega
      · obtain rfl : c0 = k := by omega
        have HE : Hid (s = str (frs C)) := by
          show _ = _
          rw [HSt.out, List.take_of_length_le (by have := HC0.out; omega)]
        have HZ : Hid (∀ (V : World) (ao : Option Addr) (m c D : Nat), TxO V D (.slice ao m c) C → m = c0) := fun V ao m c D hO => by
          obtain ⟨ao', c', he⟩ := hO.shape
          cases he
          exact HC0.out
        go_wp2_with (go_at_call 15; refine (HCut.out _ HBw.out).mono ?_; rintro r w2 ⟨v2, rfl, ho, hb⟩; obtain ⟨a2, d2, rfl⟩ := ho.shape; have e2 := HZ.out _ _ _ _ _ ho; rw [e2]; have HB2 : Hid (Below wr.heap.size wr w2) := hb; clear ho hb e2)
        go_meet
        case rel => exact ⟨congrArg Value.string HE.out, HB.out.trans (HB2.out.mono HB.out.size)⟩
  case rest =>
    obtain ⟨rfl, hb⟩ := hcut
    have HB2 : Hid (Below w1.heap.size w1 wc) := hb
    clear hb
    go_upto_if 39 with fail
    go_cut [1] (fun r wx => r = .string (str (y.take 2000)) ∧ Below w1.heap.size w1 wx)
    case first =>
      by_cases h2 : 2000 < (str y).size
      · have he := ext_2000 y
        go_wp2
        go_meet
        exact ⟨rfl, HB2.out⟩
      · have he : y.take 2000 = y := List.take_of_length_le (by rw [str_size] at h2; omega)
        go_wp2
        go_meet
        exact ⟨by rw [he], HB2.out⟩
    case rest =>
      obtain ⟨rfl, hb⟩ := hcut
      have HB3 : Hid (Below w1.heap.size w1 wc) := hb
      clear hb
      obtain ⟨l, hl⟩ : ∃ l, frs C ++ y.take 2000 = l := ⟨_, rfl⟩
      have hcat : str (frs C) ++ str (y.take 2000) = str l := by rw [str_append, hl]
      have hz1 : (str (frs C)).size ≤ 1284 := HCf.out
      have hz2 : (str (y.take 2000)).size ≤ 2000 := by rw [str_size]; simp; omega
      have hz3 : (str l).size ≤ 3284 := by rw [← hcat, ByteArray.size_append]; omega
      have HLl : Hid (l.length ≤ 3284) := hz3
      have HW : Hid (∀ W, DkAt W n0 n0 dk0 → n0 ≤ W.heap.size → Calls Try.prog 27 #[.pointer (some ⟨n0, 0, none⟩), .string (str log_), .string (str l)] W fun r w' => r = .returned (.int .i64 0) ∧ DkAt w' n0 n0 (dk0.add ⟨1, log_, [], l⟩) ∧ FrD n0 W w') := fun W hD hB => write_log hD hB (by have := HLl.out; omega)
      have HSy : Hid (∀ W, DkAt W n0 n0 (dk0.add ⟨1, log_, [], l⟩) → Calls Try.prog 28 #[.pointer (some ⟨n0, 0, none⟩)] W fun r w' => r = .returned (.int .i64 0) ∧ DkAt w' n0 n0 (dk0.add ⟨1, log_, [], l⟩).sync ∧ FrD n0 W w') := fun W hD => cl_sync _ hD cl0 (by decide)
      obtain ⟨HK1, HK2⟩ : Hid (Cl (dk0.add ⟨1, log_, [], l⟩).sync 1000000 1) ∧ Hid (getF log_ (dk0.add ⟨1, log_, [], l⟩).sync.sure = some l) := cl_log (by have := HLl.out; omega)
      generalize (dk0.add ⟨1, log_, [], l⟩).sync = A2 at HSy HK1 HK2
      generalize dk0.add ⟨1, log_, [], l⟩ = A1 at HW HSy
      clear hl
      go_upto_block 2 with (first
        | (go_at_call 27; refine (HW.out _ (HD1.out.new HB3.out) (Nat.le_trans HS1.out HB3.out.size)).mono ?_; rintro r w4 ⟨rfl, hD, hF⟩; have HD4 : Hid (DkAt w4 n0 n0 A1) := hD; have HB4 : Hid (Below n0 w w4) := (HB1.out.trans (HB3.out.mono HS1.out)).trans (FrD.below hF (Nat.le_trans HS1.out HB3.out.size)); have HS4 : Hid (n0 ≤ w4.heap.size) := Nat.le_trans (Nat.le_trans HS1.out HB3.out.size) hF.size; clear hD hF)
        | (go_at_call 28; refine (HSy.out _ HD4.out).mono ?_; rintro r w5 ⟨rfl, hD, hF⟩; have HD5 : Hid (DkAt w5 n0 n0 A2) := hD; have HB5 : Hid (Below n0 w w5) := HB4.out.trans (FrD.below hF HS4.out); have HS5 : Hid (n0 ≤ w5.heap.size) := Nat.le_trans HS4.out hF.size; clear hD hF))
      clear hcat
      go_cut [8, 9] (fun tx i wx => ∃ (ao : Option Addr) (m c : Nat), tx = .slice ao m c ∧ i = .int .i64 ((unfV l).2 : Int) ∧ TxO wx w5.heap.size (.slice ao m c) (unfV l).1 ∧ Below w5.heap.size w5 wx)
      case first =>
        have HM : Hid (l.length ≤ maxLen) := by have := HLl.out; show _ ≤ _; unfold maxLen; omega
        go_wp2
        go_loopw [8, 9, 10, 11, 12] (fun tx i _ _ _ wr => ∃ (a : Nat) (ao : Option Addr) (m c : Nat) (T : List Bs), i = .int .i64 a ∧ a ≤ (str l).size ∧ tx = .slice ao m c ∧ Hid (TxO wr w5.heap.size (.slice ao m c) T) ∧ Hid (unfV l = (T ++ (unfV (l.drop a)).1, a + (unfV (l.drop a)).2)) ∧ Hid (Below w5.heap.size w5 wr)) (fun _ i _ _ _ _ => (str l).size - (intOf i).toNat)
        case atStart => exact ⟨0, _, _, _, [], rfl, Nat.zero_le _, rfl, tx_empty w5, (by show _ = _; simp), one_newD _ _⟩
        case round =>
          obtain ⟨a, ao, m, c, T, rfl, ha, rfl, HT, HU, HB⟩ := hrel
          by_cases hlt : a < (str l).size
          · cases h : unf1 (l.drop a) with
            | none =>
              obtain ⟨s, yy, er, her, hC⟩ := refunframe_no ha HM.out h
              have hz : (er != 0) = true := by simpa using her
              have HR : Hid (unfV l = (T, a)) := by
                show _ = _
                rw [HU.out, unfV_none h]
                simp
              clear h her
              go_wp2_with (go_at_call 29; refine (hC _).mono ?_; rintro r w6 ⟨rfl, hb⟩; have HB6 : Hid (Below wr.heap.size wr w6) := hb; clear hb)
              go_meet
              case rel =>
                rw [HR.out]
                exact ⟨ao, m, c, rfl, rfl, HT.out.new HB6.out, HB.out.trans (HB6.out.mono HB.out.size)⟩
            | some q =>
              obtain ⟨x, n⟩ := q
              have hC := refunframe_ok wr ha HM.out h
              have H1 : Hid _ := unf1_some h
              have HU2 : Hid _ := step_unf h HU.out
              have HMM : Hid (T.length + [x].length ≤ 2000000000) := by
                show _ ≤ _
                have h1 := (unfV_len l).1
                rw [HU2.out] at h1
                have h2 := HLl.out
                simp at h1 ⊢
                omega
              clear h
              go_wp2_with (first
                | (go_at_call 29; refine hC.mono ?_; rintro r w6 ⟨rfl, hb⟩; have HB6 : Hid (Below wr.heap.size wr w6) := hb; clear hb)
                | (at_builtin; refine wpl_appT rfl rfl rfl rfl (HT.out.new (HB6.out.trans ((one_newD w6 (.cells #[.string (str x)] 9)).mono HB6.out.size))) (src1 w6 x) HMM.out ?_ ?_; (have h1 := HB.out.size; have h2 := HB6.out.size; simp; omega); intro v7 w7 o7 f7 b7; have HO7 : Hid (TxO w7 w5.heap.size v7 (T ++ [x])) := o7; have HF7 : Hid (Below w5.heap.size (w6.alloc (.cells #[.string (str x)] 9)) w7) := HT.out.below (by have h1 := HB.out.size; have h2 := HB6.out.size; simp; omega) f7; clear o7 f7 b7; obtain ⟨a7, c7, rfl⟩ := HO7.out.shape))
              have hb3 := HB.out.trans (HB6.out.mono HB.out.size)
              have hb4 := hb3.trans ((one_newD w6 (.cells #[.string (str x)] 9)).mono hb3.size)
              have h1 := H1.out.1
              have h2 := H1.out.2.2
              rw [List.length_drop] at h1
              have hle : l.length = (str l).size := rfl
              go_roundw
              case rel => exact ⟨a + n, a7, _, c7, T ++ [x], by go_num, by omega, rfl, (by have h := HO7.out; rw [List.length_append] at h; exact h), HU2, hb4.trans HF7.out⟩
              case measure => simp [intOf]; omega
          · obtain rfl : a = (str l).size := by omega
            have HR : Hid (unfV l = (T, (str l).size)) := by
              show _ = _
              rw [HU.out, str_size, List.drop_length, unfV_none unf1_nil]
              simp
            go_wp2
            go_meet
            case rel =>
              rw [HR.out]
              exact ⟨ao, m, c, rfl, rfl, HT.out, HB.out⟩
      case rest =>
        obtain ⟨wo, wn, wcp, rfl, rfl, ho, hb⟩ := hcut
        have HO6 : Hid (TxO wc w5.heap.size (.slice wo wn wcp) (unfV l).1) := ho
        have HB6 : Hid (Below w5.heap.size w5 wc) := hb
        have hwn : wn = (unfV l).1.length := by
          obtain ⟨_, _, e⟩ := ho.shape
          cases e
          rfl
        clear ho hb
        go_upto_if 76 with fail
        go_cut [13, 14] (fun sv av wx => sv = .string (str (hdT l)) ∧ ∃ (ao : Option Addr) (c : Nat), av = .slice ao (tlT l).length c ∧ TxO wx 0 (.slice ao (tlT l).length c) (tlT l) ∧ Below w5.heap.size w5 wx)
        case first =>
          have HB7 : Hid (Below w5.heap.size w5 (wc.alloc (.cells #[] 9))) := HB6.out.trans ((one_newD _ _).mono HB6.out.size)
          have HB8 : Hid (Below wc.heap.size wc (wc.alloc (.cells #[] 9))) := one_newD _ _
          have HT7 : Hid (TxO (wc.alloc (.cells #[] 9)) wc.heap.size (.slice (some ⟨wc.heap.size, 0, none⟩) 0 0) []) := tx_empty wc
          cases hT : (unfV l).1 with
          | nil =>
            rw [hT] at hwn
            have hw0 : wn = 0 := hwn
            subst hw0
            have HH : Hid (hdT l = [] ∧ tlT l = []) := ⟨by unfold hdT; rw [hT]; rfl, by unfold tlT; rw [hT]; rfl⟩
            go_wp2
            go_meet
            rw [HH.out.1, HH.out.2]
            exact ⟨rfl, _, _, rfl, HT7.out.low (Nat.zero_le _), HB7.out⟩
          | cons s R =>
            rw [hT] at hwn
            have hO := HO6.out
            rw [hT] at hO
            simp only [List.length_cons] at hwn
            subst hwn
            have hne : ∃ g off, wo = some ⟨g, off, none⟩ := by
              rcases hO with ⟨_, h0⟩ | ⟨g, off, c, he, _⟩
              · cases h0
              · cases he
                exact ⟨g, off, rfl⟩
            obtain ⟨g, off, rfl⟩ := hne
            obtain ⟨hc1, x0, hgl, hgD, hrow⟩ := row_tail (hO.new HB8.out)
            have HRow : Hid (∀ V : World, V.heap[g]? = (wc.alloc (.cells #[] 9)).heap[g]? → TxO V w5.heap.size (.slice (if wcp = 1 then some ⟨g, off, none⟩ else some ⟨g, off + 1, none⟩) R.length (wcp - 1)) R) := hrow
            have hL1 : ¬ ((R.length : Int) + 1 < 1) := by omega
            have hL2 : (0 : Int) < (R.length : Int) + 1 := by omega
            have hL5 : decide (0 < (s :: R).length) = true := by simp
            rw [hL5]
            have HH : Hid (hdT l = s ∧ tlT l = R) := ⟨by unfold hdT; rw [hT]; rfl, by unfold tlT; rw [hT]; rfl⟩
            clear hO hrow hgl hgD
            by_cases hw1 : wcp = 1
            · subst hw1
              go_wp2
              go_quiet (fail)
              go_wp2
              go_meet
              rw [HH.out.1, HH.out.2]
              exact ⟨rfl, _, _, rfl, (by have h9 := ((HRow.out _ rfl).low (Nat.zero_le _)).new (below_drewN (Below.refl _ _) nq); simpa using h9), below_drewN HB7.out _⟩
            · rw [if_neg hw1] at HRow
              go_wp2
              go_quiet (fail)
              go_wp2
              go_meet
              rw [HH.out.1, HH.out.2]
              exact ⟨rfl, _, _, rfl, ((HRow.out _ rfl).low (Nat.zero_le _)).new (below_drewN (Below.refl _ _) nq), below_drewN HB7.out _⟩
        case rest =>
          obtain ⟨rfl, ao9, c9, rfl, hs, hb⟩ := hcut
          have HT9 : Hid (TxO wc 0 (.slice ao9 (tlT l).length c9) (tlT l)) := hs
          have HB9 : Hid (Below w5.heap.size w5 wc) := hb
          have HS9 : Hid (n0 ≤ wc.heap.size) := Nat.le_trans HS5.out hb.size
          have HD9 : Hid (DkAt wc n0 n0 A2) := HD5.out.new hb
          have HBw9 : Hid (Below n0 w wc) := HB5.out.trans (hb.mono HS5.out)
          have HN9 : Hid ((tlT l).length ≤ 900000) := by
            have h1 := (unfV_len l).1
            have h2 := HLl.out
            show _ ≤ _
            unfold tlT
            simp
            omega
          have hel : (unfV l).2 ≤ (str l).size := (unfV_is l).1
          obtain ⟨tn, htn⟩ : ∃ tn : Int, ((str l).size : Int) - ((unfV l).2 : Int) = tn := ⟨_, rfl⟩
          have HO1 : Hid (∀ W, DkAt W n0 n0 A2 → n0 ≤ W.heap.size → Calls Try.prog 12 #[.pointer (some ⟨n0, 0, none⟩)] W fun r w' => ∃ q rv A' l', r = .returned (.tuple #[.pointer (some ⟨q, 0, none⟩), .int .i64 tn, .int .i64 0]) ∧ Lg w' n0 q n0 (hdT l) rv (tlT l) ∧ DkAt w' n0 n0 A' ∧ FrD n0 W w' ∧ Cl A' 1000000 3 ∧ getF log_ A'.sure = some l' ∧ unfV l' = (hdT l :: tlT l, l'.length)) := fun W hD hB => by
            rw [← htn]
            exact open_gen hD hB HK1.out (by decide) (by decide) (by decide) HK2.out (Nat.le_trans HLl.out (by decide))
          clear hs hb HB5 HD5 HB6 HO6 hwn HK1 HK2 HW HSy HB3 HB2 HD1
          generalize hdT l = sT at HO1 ⊢
          generalize tlT l = rT at HO1 HT9 HN9 ⊢
          have HO2 : Hid (∀ W A' l', DkAt W n0 n0 A' → n0 ≤ W.heap.size → Cl A' 1000000 3 → getF log_ A'.sure = some l' → unfV l' = (sT :: rT, l'.length) → Calls Try.prog 12 #[.pointer (some ⟨n0, 0, none⟩)] W fun r w' => ∃ q rv, r = .returned (.tuple #[.pointer (some ⟨q, 0, none⟩), .int .i64 0, .int .i64 0]) ∧ W.heap.size ≤ q ∧ Lg w' n0 q n0 sT rv rT ∧ (∀ k, rv.ownBlock = some k → W.heap.size ≤ k) ∧ DkAt w' n0 n0 A' ∧ FrD n0 W w') := fun W A' l' hD hB hc hg hu => open_again hD hB hc (by decide) (by decide) hg hu HN9.out
          have heq := str_neB sT
          have HN10 : Hid (rT.length ≤ 1000000) := Nat.le_trans HN9.out (by decide)
          have t1 : True := trivial
          have t2 : True := trivial
          have t3 : True := trivial
          have t4 : True := trivial
          go_wp2_with (first
            | (go_at_call 12; have _t := t1; clear t1; refine (HO1.out _ HD9.out HS9.out).mono ?_; rintro r w10 ⟨q, rv, A', l', rfl, hL, hD, hF, hc, hg, hu⟩; have HL10 : Hid (Lg w10 n0 q n0 sT rv rT) := hL; have HD10 : Hid (DkAt w10 n0 n0 A') := hD; have HB10 : Hid (Below n0 w w10) := HBw9.out.trans (FrD.below hF HS9.out); have HS10 : Hid (n0 ≤ w10.heap.size) := Nat.le_trans HS9.out hF.size; have HT10 : Hid (TxO w10 0 (.slice ao9 rT.length c9) rT) := HT9.out.frD hF; have HC10 : Hid (Cl A' 1000000 3) := hc; have HG10 : Hid (getF log_ A'.sure = some l') := hg; have HU10 : Hid (unfV l' = (sT :: rT, l'.length)) := hu; clear hL hD hF hc hg hu)
            | (go_at_call 13; refine (awake12 _).mono ?_; rintro r w11 ⟨rfl, hb⟩; have HL11 : Hid (Lg w11 n0 q n0 sT rv rT) := HL10.out.new hb; have HD11 : Hid (DkAt w11 n0 n0 A') := HD10.out.new hb; have HB11 : Hid (Below n0 w w11) := HB10.out.trans (hb.mono HS10.out); have HS11 : Hid (n0 ≤ w11.heap.size) := Nat.le_trans HS10.out hb.size; have HT11 : Hid (TxO w11 0 (.slice ao9 rT.length c9) rT) := HT10.out.new hb; clear hb)
            | (go_at_call 19; have _t := t2; clear t2; refine (snap_any HL11.out).mono ?_; rintro r w12 ⟨rfl, hw⟩; rw [hw]; clear hw)
            | (go_at_call 22; have _t := t3; clear t3; refine (all_any HL11.out HN10.out).mono ?_; rintro r w13 ⟨v13, rfl, ho, hb⟩; obtain ⟨a13, c13, rfl⟩ := ho.shape; have HA13 : Hid (TxO w13 w11.heap.size (.slice a13 rT.length c13) rT) := ho; have HD13 : Hid (DkAt w13 n0 n0 A') := HD11.out.new hb; have HB13 : Hid (Below n0 w w13) := HB11.out.trans (hb.mono HS11.out); have HS13 : Hid (n0 ≤ w13.heap.size) := Nat.le_trans HS11.out hb.size; have HT13 : Hid (TxO w13 0 (.slice ao9 rT.length c9) rT) := HT11.out.new hb; clear ho hb)
            | (go_at_call 21; have _t := t4; clear t4; refine (same_any HA13.out.toS HT13.out.toS HN10.out).mono ?_; rintro r w14 ⟨rfl, hb⟩; have HD14 : Hid (DkAt w14 n0 n0 A') := HD13.out.new hb; have HB14 : Hid (Below n0 w w14) := HB13.out.trans (hb.mono HS13.out); have HS14 : Hid (n0 ≤ w14.heap.size) := Nat.le_trans HS13.out hb.size; have HT14 : Hid (TxO w14 0 (.slice ao9 rT.length c9) rT) := HT13.out.new hb; clear hb)
            | (go_at_call 12; refine (HO2.out _ A' l' HD14.out HS14.out HC10.out HG10.out HU10.out).mono ?_; rintro r w15 ⟨q2, rv2, rfl, _, hL, _, _, hF⟩; have HL15 : Hid (Lg w15 n0 q2 n0 sT rv2 rT) := hL; have HB15 : Hid (Below n0 w w15) := HB14.out.trans (FrD.below hF HS14.out); have HS15 : Hid (n0 ≤ w15.heap.size) := Nat.le_trans HS14.out hF.size; have HT15 : Hid (TxO w15 0 (.slice ao9 rT.length c9) rT) := HT14.out.frD hF; clear hL hF)
            | (go_at_call 19; refine (snap_any HL15.out).mono ?_; rintro r w12 ⟨rfl, hw⟩; rw [hw]; clear hw)
            | (go_at_call 22; refine (all_any HL15.out HN10.out).mono ?_; rintro r w16 ⟨v16, rfl, ho, hb⟩; obtain ⟨a16, c16, rfl⟩ := ho.shape; have HA16 : Hid (TxO w16 w15.heap.size (.slice a16 rT.length c16) rT) := ho; have HB16 : Hid (Below n0 w w16) := HB15.out.trans (hb.mono HS15.out); have HS16 : Hid (n0 ≤ w16.heap.size) := Nat.le_trans HS15.out hb.size; have HT16 : Hid (TxO w16 0 (.slice ao9 rT.length c9) rT) := HT15.out.new hb; clear ho hb)
            | (go_at_call 21; refine (same_any HA16.out.toS HT16.out.toS HN10.out).mono ?_; rintro r w17 ⟨rfl, hb⟩; have HB17 : Hid (Below n0 w w17) := HB16.out.trans (hb.mono HS16.out); clear hb))
          go_ret
          exact ⟨rfl, HB17.out⟩
end Go.Proofs.Ytdapapnkmicklaa
