import Derived.Test.YtckjjajncgmddaaVwMayM
import Derived.Test.YtckjjajncgmddaaVwAtM
/- Which messages may be for a master among so many. -/
namespace Go.Proofs.Ytckjjajncgmddaa
open Go.RowKit Go.Maps
attribute [local go_sem] Oper.semAt_some
def mostK (k : Int) : Nat := if k = 1 then 16 else 1000
/-- May the message be for a master among so many? -/
def chkM (m : VM) (all : Int) : Bool := decide (1 ≤ m.k) && (decide (m.k ≤ 6) && (decide (0 ≤ m.fr) && (decide (m.fr < all) && (decide (0 ≤ m.tt) && (decide (m.tt < all) && (decide (m.fr ≠ m.tt) && (([m.vw, m.nm, m.ix, m.cm, m.bi, m.bv] : List Int).all numI && (decide (m.nm ≤ m.vw) && decide (m.en.length ≤ mostK m.k)))))))))
theorem vmbox {W : World} {q : Nat} {t : TypeId} {x0 x1 x2 x3 x4 x5 x6 x7 x8 x9 x10 : Value} (h : W.heap[q]? = some (.cells #[x0, x1, x2, x3, x4, x5, x6, x7, x8, x9, x10] t (0, 0))) : W.cell? ⟨q, 0, none⟩ = some x0 ∧ W.cell? ⟨q, 1, none⟩ = some x1 ∧ W.cell? ⟨q, 2, none⟩ = some x2 ∧ W.cell? ⟨q, 3, none⟩ = some x3 ∧ W.cell? ⟨q, 4, none⟩ = some x4 ∧ W.cell? ⟨q, 5, none⟩ = some x5 ∧ W.cell? ⟨q, 6, none⟩ = some x6 ∧ W.cell? ⟨q, 7, none⟩ = some x7 ∧ W.cell? ⟨q, 8, none⟩ = some x8 ∧ W.cell? ⟨q, 9, none⟩ = some x9 ∧ W.cell? ⟨q, 10, none⟩ = some x10 := by
  refine ⟨?_, ?_, ?_, ?_, ?_, ?_, ?_, ?_, ?_, ?_, ?_⟩ <;> simp [World.cell?, h]
theorem take_allN (L : List Int) (j : Nat) (h : j < L.length) : (L.take (j + 1)).all numI = ((L.take j).all numI && numI L[j]) := by
  rw [List.take_succ_eq_append_getElem h, List.all_append]
  simp only [List.all_cons, List.all_nil, Bool.and_true]
set_option maxRecDepth 100000 in
set_option maxHeartbeats 2000000 in
theorem check_any (w : World) (m : VM) (all : Int) (eo : Option Addr) (ec : Nat) : Calls Try.prog 9 #[vmV m (.slice eo m.en.length ec), .int .i64 all] w fun r w' => r = .returned (.bool (chkM m all)) ∧ Below w.heap.size w w' := by
  obtain ⟨k, fr, tt, vw, nm, ix, cm, bi, bv, base, en⟩ := m
  obtain ⟨n, hn⟩ : ∃ n, en.length = n := ⟨_, rfl⟩
  obtain ⟨res, hres⟩ : ∃ b, chkM ⟨k, fr, tt, vw, nm, ix, cm, bi, bv, base, en⟩ all = b := ⟨_, rfl⟩
  have HRes : Hid (res = (decide (1 ≤ k) && (decide (k ≤ 6) && (decide (0 ≤ fr) && (decide (fr < all) && (decide (0 ≤ tt) && (decide (tt < all) && (decide (fr ≠ tt) && (([vw, nm, ix, cm, bi, bv] : List Int).all numI && (decide (nm ≤ vw) && decide (n ≤ mostK k))))))))))) := by show _ = _; rw [← hres, ← hn]; rfl
  rw [hres]
  show Calls Try.prog 9 #[.agg #[.int .i64 k, .int .i64 fr, .int .i64 tt, .int .i64 vw, .int .i64 nm, .int .i64 ix, .int .i64 cm, .int .i64 bi, .int .i64 bv, .string base, .slice eo en.length ec], .int .i64 all] w _
  rw [hn]
  clear hres hn
  go_enter Try.func9, Try.ntmps9
  go_upto_region 1 with (fail)
  generalize hW : World.alloc _ _ = W
  have hB : Below w.heap.size w W := by rw [← hW]; exact vone_new w _
  have hZ : W.heap[w.heap.size]? = some (.cells #[.int .i64 k, .int .i64 fr, .int .i64 tt, .int .i64 vw, .int .i64 nm, .int .i64 ix, .int .i64 cm, .int .i64 bi, .int .i64 bv, .string base, .slice eo n ec] 24 (0, 0)) := by rw [← hW]; exact heap_alloc_new w _
  obtain ⟨q, hq⟩ : ∃ q, w.heap.size = q := ⟨_, rfl⟩
  have HQ : Hid (w.heap.size = q) := hq
  rw [hq] at hB hZ ⊢
  obtain ⟨a0, a1, a2, a3, a4, a5, a6, a7, a8, a9, a10⟩ := vmbox hZ
  have HB : Hid (Below w.heap.size w W) := by show Below _ _ _; rw [hq]; exact hB
  have HZ : Hid (W.heap[q]? = some (.cells #[.int .i64 k, .int .i64 fr, .int .i64 tt, .int .i64 vw, .int .i64 nm, .int .i64 ix, .int .i64 cm, .int .i64 bi, .int .i64 bv, .string base, .slice eo n ec] 24 (0, 0))) := hZ
  clear hW hB hZ hq
  by_cases c1 : 1 ≤ k
  case neg =>
    have c1n : k < 1 := by omega
    have HF : Hid (res = false) := by show _ = _; rw [HRes.out]; simp only [decide_eq_false c1, Bool.false_and]
    go_wp2
    go_ret
    exact ⟨by rw [HF.out]; rfl, HB.out⟩
  by_cases c2 : k ≤ 6
  case neg =>
    have c2n : 6 < k := by omega
    have HF : Hid (res = false) := by show _ = _; rw [HRes.out]; simp only [decide_eq_false c2, Bool.false_and, Bool.and_false]
    go_wp2
    go_ret
    exact ⟨by rw [HF.out]; rfl, HB.out⟩
  by_cases c3 : 0 ≤ fr
  case neg =>
    have c3n : fr < 0 := by omega
    have HF : Hid (res = false) := by show _ = _; rw [HRes.out]; simp only [decide_eq_false c3, Bool.false_and, Bool.and_false]
    go_wp2
    go_ret
    exact ⟨by rw [HF.out]; rfl, HB.out⟩
  by_cases c4 : fr < all
  case neg =>
    have c4n : all ≤ fr := by omega
    have HF : Hid (res = false) := by show _ = _; rw [HRes.out]; simp only [decide_eq_false c4, Bool.false_and, Bool.and_false]
    go_wp2
    go_ret
    exact ⟨by rw [HF.out]; rfl, HB.out⟩
  by_cases c5 : 0 ≤ tt
  case neg =>
    have c5n : tt < 0 := by omega
    have HF : Hid (res = false) := by show _ = _; rw [HRes.out]; simp only [decide_eq_false c5, Bool.false_and, Bool.and_false]
    go_wp2
    go_ret
    exact ⟨by rw [HF.out]; rfl, HB.out⟩
  by_cases c6 : tt < all
  case neg =>
    have c6n : all ≤ tt := by omega
    have HF : Hid (res = false) := by show _ = _; rw [HRes.out]; simp only [decide_eq_false c6, Bool.false_and, Bool.and_false]
    go_wp2
    go_ret
    exact ⟨by rw [HF.out]; rfl, HB.out⟩
  by_cases c7 : fr = tt
  · subst c7
    go_wp2
    go_ret
    exact ⟨by rw [HRes.out]; simp, HB.out⟩
  have c7n : (fr == tt) = false := by simpa using c7
  have HRes2 : Hid (res = (([vw, nm, ix, cm, bi, bv] : List Int).all numI && (decide (nm ≤ vw) && decide (n ≤ mostK k)))) := by
    show _ = _
    rw [HRes.out]
    simp only [c1, c2, c3, c4, c5, c6, decide_true, Bool.true_and]
    rw [show decide (fr ≠ tt) = true by simpa using c7, Bool.true_and]
  clear HRes
  obtain ⟨L, hL⟩ : ∃ L : List Int, [vw, nm, ix, cm, bi, bv] = L := ⟨_, rfl⟩
  have hL6 : L.length = 6 := by rw [← hL]; rfl
  have hcell : ∀ j (h : j < L.length), (W.alloc (.cells #[.int .i64 vw, .int .i64 nm, .int .i64 ix, .int .i64 cm, .int .i64 bi, .int .i64 bv] 3)).cell? ⟨W.heap.size, j, none⟩ = some (.int .i64 L[j]) := by
    subst hL
    intro j hj
    have hb := heap_alloc_new W (.cells #[.int .i64 vw, .int .i64 nm, .int .i64 ix, .int .i64 cm, .int .i64 bi, .int .i64 bv] 3)
    match j, hj with
    | 0, _ => exact vcell_blk hb
    | 1, _ => exact vcell_blk hb
    | 2, _ => exact vcell_blk hb
    | 3, _ => exact vcell_blk hb
    | 4, _ => exact vcell_blk hb
    | 5, _ => exact vcell_blk hb
  rw [hL] at HRes2
  go_upto_block 0 with (fail)
  generalize hW5 : World.alloc _ _ = W5
  rw [hW5] at hcell
  have b5 : Below W.heap.size W W5 := by rw [← hW5]; exact vone_new _ _
  have HCell : Hid (∀ j (h : j < L.length), W5.cell? ⟨W.heap.size, j, none⟩ = some (.int .i64 L[j])) := hcell
  have HB5 : Hid (Below w.heap.size w W5) := HB.out.trans (b5.mono HB.out.size)
  have hZ5 := (b5.block q (vlt_blk HZ.out)).trans HZ.out
  obtain ⟨d0, _, _, d3, d4, _, _, _, _, _, d10⟩ := vmbox hZ5
  obtain ⟨q1, hq1⟩ : ∃ q, W.heap.size = q := ⟨_, rfl⟩
  rw [hq1] at HCell ⊢
  clear hW5 hcell b5 hZ5 hq1 HZ HB a0 a1 a2 a3 a4 a5 a6 a7 a8 a9 a10 hL
  go_wp2
  go_loop [57] (fun i => ∃ j : Nat, j ≤ 6 ∧ i = .int .i64 j ∧ (L.take j).all numI = true) (fun i => 6 - (intOf i).toNat)
  case atStart => exact ⟨0, Nat.zero_le _, rfl, by simp⟩
  case round =>
    obtain ⟨j, hj, rfl, ha⟩ := hrel
    by_cases hlt : j < 6
    · have e := HCell.out j (by omega)
      have HT : Hid _ := take_allN L j (by omega)
      have HA : Hid ((L.take j).all numI = true) := ha
      obtain ⟨x, hx⟩ : ∃ x, L[j]'(by omega) = x := ⟨_, rfl⟩
      have HFa : Hid (numI x = false → L.all numI = false) := fun h => by
        rw [Bool.eq_false_iff]
        intro hA
        rw [← hx, List.all_eq_true.1 hA _ (List.getElem_mem (by omega))] at h
        cases h
      rw [hx] at e HT
      obtain ⟨bx, hbx⟩ : ∃ b, numI x = b := ⟨_, rfl⟩
      have HNu : Hid (Calls Try.prog 35 #[.int .i64 x] W5 fun r w' => r = .returned (.bool bx) ∧ w' = W5) := by rw [← hbx]; exact isNumber_any W5 x
      have HBx : Hid (numI x = bx) := hbx
      have hjI : (j : Int) < 6 := by omega
      have hj0 : (0 : Int) ≤ j := by omega
      clear ha hx hbx hL6
      cases bx
      · go_wp2_with (go_at_call 35; refine Calls.mono HNu.out ?_; rintro r W6 ⟨rfl, rfl⟩)
        go_ret
        exact ⟨by rw [HRes2.out, HFa.out HBx.out]; rfl, HB5.out⟩
      · go_wp2_with (go_at_call 35; refine Calls.mono HNu.out ?_; rintro r W5 ⟨rfl, rfl⟩)
        go_round
        case rel => exact ⟨j + 1, by omega, by go_num, by rw [HT.out, HA.out, HBx.out]; rfl⟩
        case measure => simp [intOf]; omega
    · obtain rfl : j = 6 := by omega
      have hA : L.all numI = true := by rw [List.take_of_length_le (by omega)] at ha; exact ha
      have HR3 : Hid (res = (decide (nm ≤ vw) && decide (n ≤ mostK k))) := by show _ = _; rw [HRes2.out, hA, Bool.true_and]
      clear ha hA HRes2
      by_cases k1 : k = 1
      · subst k1
        by_cases c8 : nm ≤ vw
        · go_wp2
          go_ret
          exact ⟨by rw [HR3.out]; simp [c8, mostK]; omega, HB5.out⟩
        · have c8n : vw < nm := by omega
          have HF : Hid (res = false) := by show _ = _; rw [HR3.out]; simp only [decide_eq_false c8, Bool.false_and]
          go_wp2
          go_ret
          exact ⟨by rw [HF.out]; rfl, HB5.out⟩
      · have k1n : (k == 1) = false := by simpa using k1
        by_cases c8 : nm ≤ vw
        · go_wp2
          go_ret
          exact ⟨by rw [HR3.out]; simp [c8, mostK, k1]; omega, HB5.out⟩
        · have c8n : vw < nm := by omega
          have HF : Hid (res = false) := by show _ = _; rw [HR3.out]; simp only [decide_eq_false c8, Bool.false_and]
          go_wp2
          go_ret
          exact ⟨by rw [HF.out]; rfl, HB5.out⟩
end Go.Proofs.Ytckjjajncgmddaa
