/- The document's look for a file among its files. -/
import Derived.Test.YthpojidkmmflhaaRfApp
namespace Go.Proofs.Ythpojidkmmflhaa
open Go.RowKit Go.Maps
attribute [local go_sem] Oper.semAt_some
theorem less_str (a b : Bs) : Op.bytesLess (str a).toList (str b).toList = decide (a < b) := by rw [str_toList, str_toList, bytesLess_eq]
section
variable {w : World} {v : Value} {l : Fl} {k : Bs}
set_option maxRecDepth 100000 in
set_option maxHeartbeats 1000000 in
theorem find_any (h : FlAt w v l) (hl : l.length ≤ 1000000) : Calls Try.prog 48 #[v, .string (str k)] w fun r w' => r = .returned (.tuple #[.int .i64 (posF k l : Nat), .bool (getF k l).isSome]) ∧ Below w.heap.size w w' := by
  obtain ⟨ao, cp, rfl, hcp, hg⟩ := fl_shape h
  have HC : Hid (∀ g, ao = some ⟨g, 0, none⟩ → ∀ j (hj : j < l.length), w.cell? ⟨g, j * 2, none⟩ = some (.string (str l[j].1))) := fun g e j hj => by
    subst e
    exact (fl_cells h rfl j hj).1
  have HG : Hid (0 < l.length → ∃ g, ao = some ⟨g, 0, none⟩) := hg
  have HP1 : Hid (posF k l ≤ l.length) := posF_le k l
  have HP2 : Hid (∀ i (hi : i < l.length), i < posF k l → l[i].1 < k) := fun i hi h => posF_lt k l i h hi
  have HP3 : Hid (∀ h : posF k l < l.length, ¬ l[posF k l].1 < k) := posF_stop k l
  have HI1 : Hid (∀ h : posF k l < l.length, (getF k l).isSome = decide (l[posF k l].1 = k)) := fun h => by
    rw [getF_at k l h]
    split <;> simp_all
  have HI2 : Hid (¬ posF k l < l.length → (getF k l).isSome = false) := fun h => by rw [getF_end k l h]; rfl
  obtain ⟨n0, hn0⟩ : ∃ n0, l.length = n0 := ⟨_, rfl⟩
  obtain ⟨pp, hpp⟩ : ∃ pp, posF k l = pp := ⟨_, rfl⟩
  obtain ⟨bb, hbb⟩ : ∃ bb, (getF k l).isSome = bb := ⟨_, rfl⟩
  have HN : Hid (l.length = n0) := hn0
  have HPP : Hid (posF k l = pp) := hpp
  rw [hn0, hpp] at HP1
  rw [hn0] at hl hcp
  rw [hpp, hbb, hn0]
  rw [hbb] at HI1 HI2
  clear hn0 hpp hbb h hg
  have hp1 : pp ≤ n0 := HP1.out
  go_enter Try.func48, Try.ntmps48
  go_wp2
  go_loop [6] (fun i => ∃ j : Nat, j ≤ pp ∧ i = .int .i64 j) (fun i => pp - (intOf i).toNat)
  case atStart => exact ⟨0, Nat.zero_le _, rfl⟩
  case round =>
    obtain ⟨j, hj, rfl⟩ := hrel
    by_cases hlt : j < pp
    · have hjn : j < n0 := by omega
      have hjl : j < l.length := by rw [HN.out]; exact hjn
      obtain ⟨g, rfl⟩ := HG.out (by omega)
      have c0 := HC.out g rfl j hjl
      have hb := less_str l[j].1 k
      rw [decide_eq_true (HP2.out j hjl (by rw [HPP.out]; exact hlt))] at hb
      generalize l[j].1 = y at c0 hb
      clear hjl HP2 HP3 HI1 HI2 HC
      go_wp2
      go_round
      case rel => exact ⟨j + 1, by omega, by go_num⟩
      case measure => simp [intOf]; omega
    · obtain rfl : j = pp := by omega
      clear hlt hj
      by_cases hjn : j < n0
      · have hjl : j < l.length := by rw [HN.out]; exact hjn
        obtain ⟨g, rfl⟩ := HG.out (by omega)
        have c0 := HC.out g rfl j hjl
        have hpl : posF k l < l.length := by rw [HPP.out]; exact hjl
        have hb := less_str l[j].1 k
        have h3 := HP3.out hpl
        have h4 := HI1.out hpl
        simp only [HPP.out] at h3 h4
        rw [decide_eq_false h3] at hb
        have he := str_eqB l[j].1 k
        rw [← h4] at he
        generalize l[j].1 = y at c0 hb he
        clear hjl HP2 HP3 HI1 HI2 HC hpl h3 h4
        go_wp2
        go_quiet (fail)
        go_wp2
        go_ret2
        exact ⟨rfl, bel_drewD (Below.refl _ _) _⟩
      · have HB : Hid (bb = false) := HI2.out (by rw [HPP.out, HN.out]; exact hjn)
        have hd : decide ((j : Int) < (n0 : Int)) = false := by rw [decide_eq_false_iff_not]; omega
        clear HP2 HP3 HI1 HI2 HC
        go_wp2
        go_quiet (fail)
        go_wp2
        go_ret2
        exact ⟨by rw [HB.out]; rfl, bel_drewD (Below.refl _ _) _⟩
set_option maxRecDepth 100000 in
set_option maxHeartbeats 1000000 in
theorem of_any (h : FlAt w v l) (hl : l.length ≤ 1000000) : Calls Try.prog 49 #[v, .string (str k)] w fun r w' => r = .returned (.string (str (ofF k l))) ∧ Below w.heap.size w w' := by
  have hF := find_any (k := k) h hl
  obtain ⟨ao, cp, rfl, hcp, hg⟩ := fl_shape h
  cases hs : (getF k l).isSome with
  | true =>
    have hpl : posF k l < l.length := Nat.lt_of_not_le fun hh => by
      rw [getF_end k l (by omega)] at hs
      cases hs
    obtain ⟨g, rfl⟩ := hg (by omega)
    have c1 := (fl_cells h rfl (posF k l) hpl).2
    have HO : Hid (ofF k l = l[posF k l].2) := by
      show _ = _
      unfold ofF
      rw [getF_at k l hpl] at hs ⊢
      split
      · rfl
      · rename_i e; rw [if_neg e] at hs; cases hs
    have hb : ∀ w', Below w.heap.size w w' → w'.cell? ⟨g, posF k l * 2 + 1, none⟩ = some (.string (str l[posF k l].2)) := fun w' hb => (hb.cell (p := ⟨g, _, none⟩) (lt_cellD c1)).trans c1
    have HBc : Hid _ := hb
    rw [hs] at hF
    generalize l[posF k l].2 = y at HBc HO
    generalize posF k l = pp at hF HBc hpl
    clear hs c1 hb h hg
    go_enter Try.func49, Try.ntmps49
    go_wp2_with (go_at_call 48; refine hF.mono ?_; rintro r w1 ⟨rfl, hb1⟩; have c1 := HBc.out w1 hb1; have HB1 : Hid _ := hb1; clear hb1)
    go_ret
    exact ⟨by rw [HO.out]; rfl, HB1.out⟩
  | false =>
    have HO : Hid (ofF k l = []) := by
      show _ = _
      unfold ofF
      cases e : getF k l with
      | none => rfl
      | some x => rw [e] at hs; cases hs
    rw [hs] at hF
    clear hs h hg
    go_enter Try.func49, Try.ntmps49
    go_wp2_with (go_at_call 48; refine hF.mono ?_; rintro r w1 ⟨rfl, hb1⟩; have HB1 : Hid _ := hb1; clear hb1)
    go_ret
    exact ⟨by rw [HO.out]; rfl, HB1.out⟩
end
end Go.Proofs.Ythpojidkmmflhaa
