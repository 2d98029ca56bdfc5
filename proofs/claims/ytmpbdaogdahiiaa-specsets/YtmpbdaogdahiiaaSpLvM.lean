import Derived.Test.YtmpbdaogdahiiaaSpClM
import Derived.Test.YtmpbdaogdahiiaaSpDegM
import Derived.Test.YtmpbdaogdahiiaaSpNbrM
/- (spec.web).leave: one leaves, its neighbours that are there have one less. -/
namespace Go.Proofs.Ytmpbdaogdahiiaa
open Go.RowKit Go.Shelf
attribute [local go_sem] Oper.semAt_some
def lvOne (L : List Int) (x : Int) : List Int := if 0 ≤ L.getD x.toNat 0 then L.set x.toNat (L.getD x.toNat 0 - 1) else L
def lvF (row L : List Int) : List Int := row.foldl lvOne L
theorem lvOne_len (L : List Int) (x : Int) : (lvOne L x).length = L.length := by unfold lvOne; split <;> simp
theorem lvF_len : ∀ (row L : List Int), (lvF row L).length = L.length
  | [], _ => rfl
  | x :: row, L => (lvF_len row (lvOne L x)).trans (lvOne_len L x)
theorem gd_mem {L : List Int} {k : Nat} (h : k < L.length) : L.getD k 0 ∈ L := by
  have : L.getD k 0 = L[k] := by simp [List.getD, h]
  rw [this]
  exact List.getElem_mem h
theorem lvOne_bd {L : List Int} (x : Int) (h : ∀ y ∈ L, -1 ≤ y ∧ y ≤ 4096) : ∀ y ∈ lvOne L x, -1 ≤ y ∧ y ≤ 4096 := by
  unfold lvOne
  split
  · intro y hy
    rcases List.mem_or_eq_of_mem_set hy with h1 | h1
    · exact h y h1
    · by_cases hl : x.toNat < L.length
      · have := h _ (gd_mem hl)
        omega
      · have e : L.getD x.toNat 0 = 0 := by simp [List.getD, List.getElem?_eq_none (Nat.not_lt.1 hl)]
        omega
  · exact h
theorem lvF_bd : ∀ (row : List Int) {L : List Int}, (∀ y ∈ L, -1 ≤ y ∧ y ≤ 4096) → ∀ y ∈ lvF row L, -1 ≤ y ∧ y ≤ 4096
  | [], _, h => h
  | x :: row, _, h => lvF_bd row (lvOne_bd x h)
theorem lvF_snoc (row L : List Int) (x : Int) : lvF (row ++ [x]) L = lvOne (lvF row L) x := by simp [lvF]
set_option maxRecDepth 100000 in
set_option maxHeartbeats 4000000 in
theorem leave_any {w : World} {g2 n m base : Nat} {vi vo v : Value} {row L : List Int} (i : Nat) (hi : i < n) (hv : w.cell? ⟨g2, i, none⟩ = some v) (h : RwI w 3 base v row) (hrw : ∀ x ∈ row, ∃ j : Nat, j < n ∧ x = j) (hI : IB w m L) (hL : L.length = n) (hLb : ∀ x ∈ L, -1 ≤ x ∧ x ≤ 4096) (hm : v.ownBlock ≠ some m) (hg : g2 ≠ m) (hrl : row.length ≤ 4096) :
    Calls Try.prog 34 #[.agg #[vi, vo, .slice (some ⟨g2, 0, none⟩) n n], .int .i64 (i : Nat), .slice (some ⟨m, 0, none⟩) n n] w fun r w' => r = .returned (.tuple #[]) ∧ IB w' m (lvF row (L.set i (-1))) ∧ Fr w w' (fun k => k = m) := by
  obtain ⟨p, c, rfl, hc⟩ := nb_row h
  have HC : Hid (0 < row.length → ∃ g, p = some ⟨g, 0, none⟩ ∧ g ≠ m ∧ ∀ j (hj : j < row.length), w.cell? ⟨g, j, none⟩ = some (.int .i64 row[j])) := fun h0 => by
    obtain ⟨g, rfl, hcc⟩ := hc h0
    exact ⟨g, rfl, fun e => hm (by rw [e]; rfl), hcc⟩
  have hmw := hI.lt
  have HRw : Hid _ := hrw
  have HBd : Hid (∀ y ∈ L.set i (-1), -1 ≤ y ∧ y ≤ 4096) := fun y hy => by
    rcases List.mem_or_eq_of_mem_set hy with h1 | h1
    · exact hLb y h1
    · omega
  clear h hc hm hrw hLb
  go_enter Try.func34, Try.ntmps34
  go_upto_region 1 with (fail)
  generalize hW0 : World.alloc w _ = W0
  have hb0 : Below w.heap.size w W0 := by rw [← hW0]; exact one_new _ _
  have c0 : W0.cell? ⟨w.heap.size, 2, none⟩ = some (.slice (some ⟨g2, 0, none⟩) n n) := by
    rw [← hW0]
    exact (box3 (heap_alloc_new _ _)).2.2
  have HI0 : Hid (IB W0 m L) := IB.new hI hb0
  have HF0 : Hid (Fr w W0 (fun k => k = m)) := Fr.ofBelow hb0 _
  have hiL : i < L.length := by rw [hL]; exact hi
  obtain ⟨a0, a1⟩ := IB.cell HI0.out hiL
  generalize L[i] = y at a0
  clear hW0 hb0 hI
  go_upto_region 2 with (fail)
  generalize hW1 : World.setCell _ _ _ = W1
  have HI1 : Hid (IB W1 m (L.set i (-1))) := by rw [← hW1]; exact IB.set HI0.out _ _
  have f1 : Fr W0 W1 (fun k => k = m) := by rw [← hW1]; exact Fr.setCell _ _ _ rfl
  have HF1 : Hid (Fr w W1 (fun k => k = m)) := HF0.out.trans f1 (fun _ _ h => h)
  have c1 := fr_cell f1 (by show ¬ _ = _; omega) c0
  have c2 := fr_cell HF1.out (by show ¬ _ = _; omega) hv
  have hLl : (L.set i (-1)).length = n := by rw [List.length_set]; exact hL
  obtain ⟨L1, hL1⟩ : ∃ L1, L.set i (-1) = L1 := ⟨_, rfl⟩
  rw [hL1] at HI1 HBd hLl
  clear hW1 f1 c0 a0 a1 HI0 HF0 hv hiL hL
  go_wp2
  go_loopw [7, 17] (fun _ i wr => ∃ k : Nat, k ≤ row.length ∧ i = .int .i64 k ∧ Hid (IB wr m (lvF (row.take k) L1)) ∧ Hid (Fr w wr (fun q => q = m))) (fun _ i _ => row.length - (intOf i).toNat)
  case atStart => exact ⟨0, Nat.zero_le _, rfl, HI1.out, HF1.out⟩
  case round =>
    obtain ⟨k, hk, rfl, HI, HF⟩ := hrel
    by_cases hlk : k < row.length
    · obtain ⟨g, rfl, hgm, hcc⟩ := HC.out (by omega)
      have d0 := fr_cell HF.out (by show ¬ _ = _; omega) (hcc k hlk)
      obtain ⟨t, htn, ht⟩ := HRw.out _ (List.getElem_mem hlk)
      have HS : Hid (lvF (row.take (k + 1)) L1 = lvOne (lvF (row.take k) L1) (t : Int)) := by
        show _ = _
        rw [← ht, ← lvF_snoc, List.take_add_one, List.getElem?_eq_getElem hlk]
        rfl
      have hll : (lvF (row.take k) L1).length = n := by rw [lvF_len]; exact hLl
      have hbd := lvF_bd (row.take k) HBd.out
      generalize lvF (row.take k) L1 = L2 at HI HS hll hbd
      have htl : t < L2.length := by rw [hll]; exact htn
      obtain ⟨a0, a1⟩ := IB.cell HI.out htl
      have hy := hbd _ (List.getElem_mem htl)
      have HGd : Hid (L2.getD t 0 = L2[t]) := by show _ = _; simp [List.getD, htl]
      generalize L2[t] = y at a0 hy HGd
      rw [ht] at d0
      clear hcc ht hbd
      by_cases hy0 : 0 ≤ y
      · have hw3 : wrap64 (y - 1) = y - 1 := by unfold wrap64; omega
        have HS' : Hid (lvF (row.take (k + 1)) L1 = L2.set t (y - 1)) := by
          show _ = _
          rw [HS.out]
          unfold lvOne
          rw [Int.toNat_natCast, HGd.out, if_pos hy0]
        go_wp2
        try rw [hw3]
        generalize hW5 : World.setCell _ _ _ = W5
        have HI5 : Hid (IB W5 m (lvF (row.take (k + 1)) L1)) := by rw [HS'.out, ← hW5]; exact IB.set HI.out _ _
        have HF5 : Hid (Fr w W5 (fun q => q = m)) := by rw [← hW5]; exact HF.out.trans (Fr.setCell (S := fun q => q = m) _ _ _ rfl) (fun _ _ h => h)
        go_roundw
        case rel => exact ⟨k + 1, by omega, by go_num, HI5, HF5⟩
        case measure => simp [intOf]; omega
      · have HS' : Hid (lvF (row.take (k + 1)) L1 = L2) := by
          show _ = _
          rw [HS.out]
          unfold lvOne
          rw [Int.toNat_natCast, HGd.out, if_neg hy0]
        have HI5 : Hid (IB wr m (lvF (row.take (k + 1)) L1)) := by rw [HS'.out]; exact HI.out
        go_wp2
        go_roundw
        case rel => exact ⟨k + 1, by omega, by go_num, HI5, HF⟩
        case measure => simp [intOf]; omega
    · obtain rfl : k = row.length := by omega
      rw [List.take_of_length_le (Nat.le_refl _)] at HI
      go_wp2
      go_end0
      exact ⟨rfl, by rw [hL1]; exact HI.out, HF.out⟩
end Go.Proofs.Ytmpbdaogdahiiaa
