/- The law's own cut and same. -/
import Derived.Test.YtdapapnkmicklaaWlClone
namespace Go.Proofs.Ytdapapnkmicklaa
open Go.RowKit Go.Maps
attribute [local go_sem] Oper.semAt_some
/-- Records that are not too many. -/
def cutT (L : List Bs) : List Bs := (L.take 6).map (·.take 200)
theorem cutT_len (L : List Bs) : (cutT L).length ≤ 6 := by simp [cutT]; omega
theorem cutT_each (L : List Bs) : ∀ x ∈ cutT L, x.length ≤ 200 := by
  intro x hx
  obtain ⟨y, _, rfl⟩ := List.mem_map.1 hx
  simp
  omega
theorem frs_sum (T : List Bs) (m : Nat) (h : ∀ x ∈ T, x.length ≤ m) (hm : m < 1000000) : (frs T).length ≤ T.length * (m + 14) := by
  induction T with
  | nil => simp [frs_nil]
  | cons x T ih =>
    rw [frs_cons, List.length_append]
    have h1 := ih (fun y hy => h y (List.mem_cons_of_mem _ hy))
    have h2 := h x List.mem_cons_self
    have h3 := frameB_le x (by omega)
    simp only [List.length_cons, Nat.add_mul, Nat.one_mul]
    omega
theorem cutT_frs (L : List Bs) : (frs (cutT L)).length ≤ 1284 := by
  have h1 := frs_sum (cutT L) 200 (cutT_each L) (by decide)
  have h2 := cutT_len L
  omega
theorem ext_200 (y : Bs) : (str y).extract 0 200 = str (y.take 200) := ba_eq (by rw [ext_list, str_list, str_list, List.drop_zero])
theorem ext_2000 (y : Bs) : (str y).extract 0 2000 = str (y.take 2000) := ba_eq (by rw [ext_list, str_list, str_list, List.drop_zero])
theorem take_200 {y : Bs} (h : ¬ 200 < (str y).size) : y.take 200 = y := List.take_of_length_le (by rw [str_size] at h; omega)
theorem map_take_succ (L : List Bs) (k : Nat) (h : k < L.length) : (L.take (k + 1)).map (·.take 200) = (L.take k).map (·.take 200) ++ [L[k].take 200] := by
  rw [List.take_succ_eq_append_getElem h, List.map_append]
  rfl
theorem tx_empty (w : World) : TxO (w.alloc (.cells #[] 9)) w.heap.size (.slice (some ⟨w.heap.size, 0, none⟩) 0 0) [] := .inr ⟨w.heap.size, 0, 0, rfl, Nat.le_refl _, ⟨_, heap_alloc_new _ _, Nat.le_refl _⟩, Nat.le_refl _, by decide, fun j hj => absurd hj (by simp)⟩
set_option maxRecDepth 100000 in
set_option maxHeartbeats 1600000 in
theorem cut_any {w : World} {v : Value} {L : List Bs} (h : TxS w v L) : Calls Try.prog 15 #[v] w fun r w' => ∃ v', r = .returned v' ∧ TxO w' w.heap.size v' (cutT L) ∧ Below w.heap.size w w' := by
  obtain ⟨ao, cap, rfl, h1, h2⟩ := h
  have HR : Hid (0 < L.length → ∃ b off, ao = some ⟨b, off, none⟩ ∧ ∀ j (h : j < L.length), w.cell? ⟨b, off + j, none⟩ = some (.string (str L[j]))) := h2
  have HB0 : Hid (Below w.heap.size w (w.alloc (.cells #[] 9))) := one_newD _ _
  have HT0 : Hid (TxO (w.alloc (.cells #[] 9)) w.heap.size (.slice (some ⟨w.heap.size, 0, none⟩) 0 0) ((L.take 0).map (·.take 200))) := tx_empty w
  clear h2
  by_cases h6 : 6 < L.length
  · have HN : Hid (6 ≤ L.length ∧ 6 ≤ 1000000) := ⟨by omega, by decide⟩
    have HEnd : Hid ((L.take 6).map (·.take 200) = cutT L) := rfl
    have hb6 : ¬ cap < 6 := by omega
    have hc0 : ¬ cap = 0 := by omega
    go_enter Try.func15, Try.ntmps15
    go_wp2
    go_loopw [3, 4, 5] (fun o i _ wr => ∃ (oo : Option Addr) (m c k : Nat), o = .slice oo m c ∧ i = .int .i64 k ∧ k ≤ 6 ∧ Hid (TxO wr w.heap.size (.slice oo m c) ((L.take k).map (·.take 200))) ∧ Hid (Below w.heap.size w wr)) (fun _ i _ _ => 6 - (intOf i).toNat)
    case atStart => exact ⟨_, _, _, 0, rfl, rfl, Nat.zero_le _, HT0, HB0⟩
    case round =>
      obtain ⟨oo, m, c, k, rfl, rfl, hk, HT, HB⟩ := hrel
      by_cases hlt : k < 6
      · have hkl : k < L.length := by have := HN.out; omega
        obtain ⟨b, off, hao, hcs⟩ := HR.out (by omega)
        subst hao
        have z0 := (HB.out.cell (p := ⟨b, off + k, none⟩) (lt_cellD (hcs k hkl))).trans (hcs k hkl)
        have HY : Hid ((L.take (k + 1)).map (·.take 200) = (L.take k).map (·.take 200) ++ [L[k].take 200]) := map_take_succ L k hkl
        have HM : Hid (((L.take k).map (·.take 200)).length + [L[k].take 200].length ≤ 2000000000) := by
          have := HN.out
          show _ ≤ _
          simp
          omega
        have HLt : Hid (k < 6) := hlt
        have HSz : Hid (w.heap.size ≤ wr.heap.size) := HB.out.size
        clear hcs
        generalize L[k] = y at z0 HY HM
        clear hkl
        by_cases hy : 200 < (str y).size
        · have he := ext_200 y
          go_wp2_with (at_builtin; refine wpl_appT rfl rfl rfl rfl (HT.out.new (one_newD wr (.cells #[.string (str (y.take 200))] 9))) (src1 wr (y.take 200)) HM.out ?_ ?_; (have h1 := HSz.out; simp; omega); intro v2 w2 o2 f2 b2; have HO2 : Hid (TxO w2 w.heap.size v2 ((L.take k).map (·.take 200) ++ [y.take 200])) := o2; have HF2 : Hid (Below w.heap.size (wr.alloc (.cells #[.string (str (y.take 200))] 9)) w2) := HT.out.below (by have h1 := HSz.out; simp; omega) f2; clear o2 f2 b2; obtain ⟨ao2, c2, rfl⟩ := HO2.out.shape)
          go_roundw
          case rel =>
            refine ⟨ao2, _, c2, ⟨rfl, rfl, rfl⟩, k + 1, by go_num, HLt.out, ?_, (HB.out.trans ((one_newD wr (.cells #[.string (str (y.take 200))] 9)).mono HSz.out)).trans HF2.out⟩
            show TxO _ _ _ _
            rw [← List.map_take, HY.out]
            simpa using HO2.out
          case measure => have := HLt.out; simp [intOf]; omega
        · have HE : Hid (y.take 200 = y) := take_200 hy
          go_wp2_with (at_builtin; refine wpl_appT rfl rfl rfl rfl (HT.out.new (one_newD wr (.cells #[.string (str y)] 9))) (src1 wr y) HM.out ?_ ?_; (have h1 := HSz.out; simp; omega); intro v2 w2 o2 f2 b2; have HO2 : Hid (TxO w2 w.heap.size v2 ((L.take k).map (·.take 200) ++ [y])) := o2; have HF2 : Hid (Below w.heap.size (wr.alloc (.cells #[.string (str y)] 9)) w2) := HT.out.below (by have h1 := HSz.out; simp; omega) f2; clear o2 f2 b2; obtain ⟨ao2, c2, rfl⟩ := HO2.out.shape)
          go_roundw
          case rel =>
            refine ⟨ao2, _, c2, ⟨rfl, rfl, rfl⟩, k + 1, by go_num, HLt.out, ?_, (HB.out.trans ((one_newD wr (.cells #[.string (str y)] 9)).mono HSz.out)).trans HF2.out⟩
            show TxO _ _ _ _
            rw [← List.map_take, HY.out, HE.out]
            simpa using HO2.out
          case measure => have := HLt.out; simp [intOf]; omega
      · obtain rfl : k = 6 := by omega
        have HE : Hid ((L.take 6).map (·.take 200) = cutT L) := HEnd.out
        go_wp2
        go_ret
        refine ⟨_, rfl, ?_, HB.out⟩
        rw [← HE.out]
        exact HT.out
  · obtain ⟨n0, hn0⟩ : ∃ n0, L.length = n0 := ⟨_, rfl⟩
    have HN : Hid (n0 ≤ L.length ∧ n0 ≤ 1000000) := ⟨by omega, by omega⟩
    have HEnd : Hid ((L.take n0).map (·.take 200) = cutT L) := by
      show _ = _
      unfold cutT
      rw [List.take_of_length_le (by omega), List.take_of_length_le (by omega)]
    rw [hn0] at h6 h1 ⊢
    clear hn0
    go_enter Try.func15, Try.ntmps15
    go_wp2
    go_loopw [3, 4, 5] (fun o i _ wr => ∃ (oo : Option Addr) (m c k : Nat), o = .slice oo m c ∧ i = .int .i64 k ∧ k ≤ n0 ∧ Hid (TxO wr w.heap.size (.slice oo m c) ((L.take k).map (·.take 200))) ∧ Hid (Below w.heap.size w wr)) (fun _ i _ _ => n0 - (intOf i).toNat)
    case atStart => exact ⟨_, _, _, 0, rfl, rfl, Nat.zero_le _, HT0, HB0⟩
    case round =>
      obtain ⟨oo, m, c, k, rfl, rfl, hk, HT, HB⟩ := hrel
      by_cases hlt : k < n0
      · have hkl : k < L.length := by have := HN.out; omega
        obtain ⟨b, off, hao, hcs⟩ := HR.out (by omega)
        subst hao
        have z0 := (HB.out.cell (p := ⟨b, off + k, none⟩) (lt_cellD (hcs k hkl))).trans (hcs k hkl)
        have HY : Hid ((L.take (k + 1)).map (·.take 200) = (L.take k).map (·.take 200) ++ [L[k].take 200]) := map_take_succ L k hkl
        have HM : Hid (((L.take k).map (·.take 200)).length + [L[k].take 200].length ≤ 2000000000) := by
          have := HN.out
          show _ ≤ _
          simp
          omega
        have HLt : Hid (k < n0) := hlt
        have HSz : Hid (w.heap.size ≤ wr.heap.size) := HB.out.size
        clear hcs
        generalize L[k] = y at z0 HY HM
        clear hkl
        by_cases hy : 200 < (str y).size
        · have he := ext_200 y
          go_wp2_with (at_builtin; refine wpl_appT rfl rfl rfl rfl (HT.out.new (one_newD wr (.cells #[.string (str (y.take 200))] 9))) (src1 wr (y.take 200)) HM.out ?_ ?_; (have h1 := HSz.out; simp; omega); intro v2 w2 o2 f2 b2; have HO2 : Hid (TxO w2 w.heap.size v2 ((L.take k).map (·.take 200) ++ [y.take 200])) := o2; have HF2 : Hid (Below w.heap.size (wr.alloc (.cells #[.string (str (y.take 200))] 9)) w2) := HT.out.below (by have h1 := HSz.out; simp; omega) f2; clear o2 f2 b2; obtain ⟨ao2, c2, rfl⟩ := HO2.out.shape)
          go_roundw
          case rel =>
            refine ⟨ao2, _, c2, k + 1, rfl, by go_num, HLt.out, ?_, (HB.out.trans ((one_newD wr (.cells #[.string (str (y.take 200))] 9)).mono HSz.out)).trans HF2.out⟩
            show TxO _ _ _ _
            rw [HY.out]
            simpa using HO2.out
          case measure => have := HLt.out; simp [intOf]; omega
        · have HE : Hid (y.take 200 = y) := take_200 hy
          go_wp2_with (at_builtin; refine wpl_appT rfl rfl rfl rfl (HT.out.new (one_newD wr (.cells #[.string (str y)] 9))) (src1 wr y) HM.out ?_ ?_; (have h1 := HSz.out; simp; omega); intro v2 w2 o2 f2 b2; have HO2 : Hid (TxO w2 w.heap.size v2 ((L.take k).map (·.take 200) ++ [y])) := o2; have HF2 : Hid (Below w.heap.size (wr.alloc (.cells #[.string (str y)] 9)) w2) := HT.out.below (by have h1 := HSz.out; simp; omega) f2; clear o2 f2 b2; obtain ⟨ao2, c2, rfl⟩ := HO2.out.shape)
          go_roundw
          case rel =>
            refine ⟨ao2, _, c2, k + 1, rfl, by go_num, HLt.out, ?_, (HB.out.trans ((one_newD wr (.cells #[.string (str y)] 9)).mono HSz.out)).trans HF2.out⟩
            show TxO _ _ _ _
            rw [HY.out, HE.out]
            simpa using HO2.out
          case measure => have := HLt.out; simp [intOf]; omega
      · obtain rfl : n0 = k := by omega
        have HE : Hid ((L.take n0).map (·.take 200) = cutT L) := HEnd.out
        go_wp2
        go_ret
        refine ⟨_, rfl, ?_, HB.out⟩
        rw [← HE.out]
        exact HT.out
theorem take_eq_succ {R G : List Bs} {k : Nat} (h : R.take k = G.take k) (hR : k < R.length) (hT : k < G.length) (he : R[k] = G[k]) : R.take (k + 1) = G.take (k + 1) := by
  rw [List.take_succ_eq_append_getElem hR, List.take_succ_eq_append_getElem hT, h, he]
set_option maxRecDepth 100000 in
set_option maxHeartbeats 1600000 in
theorem same_any {w : World} {v u : Value} {R G : List Bs} (h : TxS w v R) (g : TxS w u G) (hs : R.length ≤ 1000000) : Calls Try.prog 21 #[v, u] w fun r w' => r = .returned (.bool (decide (R = G))) ∧ Below w.heap.size w w' := by
  obtain ⟨ao, cap, rfl, h1, h2⟩ := h
  obtain ⟨bo, cbp, rfl, g1, g2⟩ := g
  by_cases hl : R.length = G.length
  · have HR : Hid (0 < R.length → ∃ b off, ao = some ⟨b, off, none⟩ ∧ ∀ j (h : j < R.length), w.cell? ⟨b, off + j, none⟩ = some (.string (str R[j]))) := h2
    have HT : Hid (0 < G.length → ∃ b off, bo = some ⟨b, off, none⟩ ∧ ∀ j (h : j < G.length), w.cell? ⟨b, off + j, none⟩ = some (.string (str G[j]))) := g2
    obtain ⟨n0, hn0⟩ : ∃ n0, R.length = n0 := ⟨_, rfl⟩
    have HN : Hid (R.length = n0 ∧ G.length = n0) := ⟨hn0, by omega⟩
    have e2 : G.length = n0 := by omega
    rw [e2] at g1 ⊢
    rw [hn0] at h1 hs ⊢
    clear h2 g2 hl hn0 e2
    go_enter Try.func21, Try.ntmps21
    go_wp2
    go_loopw [5] (fun i wr => ∃ k : Nat, i = .int .i64 k ∧ k ≤ n0 ∧ Hid (R.take k = G.take k) ∧ Hid (Below w.heap.size w wr)) (fun i _ => n0 - (intOf i).toNat)
    case atStart => exact ⟨0, rfl, Nat.zero_le _, rfl, Below.refl _ _⟩
    case round =>
      obtain ⟨k, rfl, hk, HE, HB⟩ := hrel
      by_cases hlt : k < n0
      · have hkR : k < R.length := by have := HN.out.1; omega
        have hkT : k < G.length := by have := HN.out.2; omega
        obtain ⟨b, off, hao, hcs⟩ := HR.out (by omega)
        obtain ⟨b', off', hbo, hct⟩ := HT.out (by omega)
        subst hao hbo
        have z0 := (HB.out.cell (p := ⟨b, off + k, none⟩) (lt_cellD (hcs k hkR))).trans (hcs k hkR)
        have z1 := (HB.out.cell (p := ⟨b', off' + k, none⟩) (lt_cellD (hct k hkT))).trans (hct k hkT)
        have heq := str_eqB R[k] G[k]
        have HLt : Hid (k < n0) := hlt
        by_cases hy : R[k] = G[k]
        · have HE2 : Hid (R.take (k + 1) = G.take (k + 1)) := take_eq_succ HE.out hkR hkT hy
          rw [decide_eq_true hy] at heq
          clear hcs hct hy
          generalize R[k] = x at z0 heq
          generalize G[k] = y at z1 heq
          clear hkR hkT
          go_wp2
          go_quiet (fail)
          go_wp2
          refine ⟨⟨k + 1, by go_num, HLt.out, HE2, below_drewN HB.out _⟩, by have := HLt.out; simp [intOf]; omega⟩
        · have HNe : Hid (¬ R = G) := fun e => hy (by subst e; rfl)
          rw [decide_eq_false hy] at heq
          clear hcs hct hy
          generalize R[k] = x at z0 heq
          generalize G[k] = y at z1 heq
          clear hkR hkT
          go_wp2
          go_quiet (fail)
          go_wp2
          go_ret
          rw [decide_eq_false HNe.out]
          exact ⟨rfl, below_drewN HB.out _⟩
      · obtain rfl : n0 = k := by omega
        have HE2 : Hid (R = G) := by
          have h := HE.out
          rw [List.take_of_length_le (by have := HN.out.1; omega), List.take_of_length_le (by have := HN.out.2; omega)] at h
          exact h
        go_wp2
        go_ret
        rw [decide_eq_true HE2.out]
        exact ⟨rfl, HB.out⟩
  · have HNe : Hid (¬ R = G) := fun e => hl (by rw [e])
    have hl2 : ¬ (R.length : Int) = (G.length : Int) := by omega
    go_enter Try.func21, Try.ntmps21
    go_wp2
    go_ret
    rw [decide_eq_false HNe.out]
    exact ⟨rfl, Below.refl _ _⟩
end Go.Proofs.Ytdapapnkmicklaa
