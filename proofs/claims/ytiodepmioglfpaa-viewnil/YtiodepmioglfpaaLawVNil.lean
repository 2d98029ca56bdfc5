/- The walk of the statement on a master that is none, and on masters that may not be. -/
import Derived.Test.YtiodepmioglfpaaVwNil
namespace Go.Proofs.Ytiodepmioglfpaa
open Go.RowKit Go.Maps
attribute [local go_sem] Oper.semAt_some
/-- Ints that can be read. -/
def InS (w : World) (v : Value) (L : List Int) : Prop := ∃ ao cap, v = .slice ao L.length cap ∧ L.length ≤ cap ∧ (0 < L.length → ∃ b off, ao = some ⟨b, off, none⟩ ∧ ∀ j (h : j < L.length), w.cell? ⟨b, off + j, none⟩ = some (.int .i64 L[j]))
theorem take_all (L : List Int) (j : Nat) (h : j < L.length) : (L.take (j + 1)).all numI = ((L.take j).all numI && numI L[j]) := by
  rw [List.take_succ_eq_append_getElem h, List.all_append]
  simp only [List.all_cons, List.all_nil, Bool.and_true]
set_option maxHeartbeats 800000 in
theorem numbers_any {w : World} {v : Value} {L : List Int} (h : InS w v L) (hl : L.length ≤ 1000000) : Calls Try.prog 9 #[v] w fun r w' => r = .returned (.bool (L.all numI)) ∧ w' = w := by
  obtain ⟨ao, cap, rfl, hc, hcell⟩ := h
  have HC : Hid _ := hcell
  clear hcell
  go_enter Try.func9, Try.ntmps9
  go_wp2
  go_loop [3] (fun i => ∃ j : Nat, j ≤ L.length ∧ i = .int .i64 j ∧ (L.take j).all numI = true) (fun i => L.length - (intOf i).toNat)
  case atStart => exact ⟨0, Nat.zero_le _, rfl, by simp⟩
  case round =>
    obtain ⟨j, hj, rfl, ha⟩ := hrel
    by_cases hlt : j < L.length
    · obtain ⟨b, off, rfl, hcc⟩ := HC.out (by omega)
      have e := hcc j hlt
      have HT : Hid _ := take_all L j hlt
      have HA : Hid ((L.take j).all numI = true) := ha
      have HFa : Hid (numI L[j] = false → L.all numI = false) := fun h => by
        rw [Bool.eq_false_iff]
        intro hA
        rw [List.all_eq_true.1 hA _ (List.getElem_mem hlt)] at h
        cases h
      generalize L[j] = x at e HT HFa
      have hlI : (j : Int) < L.length := by omega
      have hj0 : (0 : Int) ≤ j := by omega
      clear ha hcc
      by_cases h1 : x < 0
      · go_wp2
        go_ret
        exact ⟨by rw [HFa.out (by simp [numI]; omega)]; rfl, rfl⟩
      · by_cases h2 : 2147483648 ≤ x
        · go_wp2
          go_ret
          exact ⟨by rw [HFa.out (by simp [numI]; omega)]; rfl, rfl⟩
        · go_wp2
          go_round
          case rel => exact ⟨j + 1, by omega, by go_num, by rw [HT.out, HA.out]; simp [numI]; omega⟩
          case measure => simp [intOf]; omega
    · obtain rfl : j = L.length := by omega
      rw [List.take_length] at ha
      have HA : Hid (L.all numI = true) := ha
      clear ha
      go_wp2
      go_ret
      exact ⟨by rw [HA.out]; rfl, rfl⟩
theorem new_res {w : World} {me all vw nm bi bv : Int} {base : ByteArray} {lv : Value} {L : List Ent} (hL : EnS w lv L) (hl : L.length ≤ 1000000) : Calls Try.prog 25 #[.int .i64 me, .int .i64 all, .agg #[.int .i64 vw, .int .i64 nm, .int .i64 bi, .int .i64 bv, .string base, lv]] w fun r w' => ∃ pv, r = .returned (.tuple #[.pointer pv, .int .i64 (if mayN me all vw nm bi L.length then 0 else 1)]) ∧ Below w.heap.size w w' := by
  cases hm : mayN me all vw nm bi L.length
  · obtain ⟨ao, c, rfl, _⟩ := hL.shape
    refine (new_bad hl hm).mono ?_
    rintro r w' ⟨rfl, hb⟩
    exact ⟨_, rfl, hb⟩
  · refine (new_ok hL hm).mono ?_
    rintro r w' ⟨p, rfl, _, hb⟩
    exact ⟨_, rfl, hb⟩
/-- The statement's two boxes. -/
structure NilB (w W : World) (q0 q1 : Nat) (mc hc : Array Value) : Prop where
  low : Below w.heap.size w W
  m : W.heap[q0]? = some (.cells mc 24 (0, 0))
  h : W.heap[q1]? = some (.cells hc 49 (0, 0))
theorem NilB.new {w W W' : World} {q0 q1 : Nat} {mc hc : Array Value} (h : NilB w W q0 q1 mc hc) (hb : Below W.heap.size W W') : NilB w W' q0 q1 mc hc :=
  ⟨h.low.trans (hb.mono h.low.size), (hb.block q0 (vlt_blk h.m)).trans h.m, (hb.block q1 (vlt_blk h.h)).trans h.h⟩
theorem mbox {W : World} {q : Nat} {t : TypeId} {x0 x1 x2 x3 x4 x5 x6 x7 x8 x9 x10 : Value} (h : W.heap[q]? = some (.cells #[x0, x1, x2, x3, x4, x5, x6, x7, x8, x9, x10] t (0, 0))) : W.cell? ⟨q, 0, none⟩ = some x0 ∧ W.cell? ⟨q, 1, none⟩ = some x1 ∧ W.cell? ⟨q, 2, none⟩ = some x2 ∧ W.cell? ⟨q, 3, none⟩ = some x3 ∧ W.cell? ⟨q, 4, none⟩ = some x4 ∧ W.cell? ⟨q, 5, none⟩ = some x5 ∧ W.cell? ⟨q, 6, none⟩ = some x6 ∧ W.cell? ⟨q, 7, none⟩ = some x7 ∧ W.cell? ⟨q, 8, none⟩ = some x8 ∧ W.cell? ⟨q, 9, none⟩ = some x9 ∧ W.cell? ⟨q, 10, none⟩ = some x10 := by
  refine ⟨?_, ?_, ?_, ?_, ?_, ?_, ?_, ?_, ?_, ?_, ?_⟩ <;> simp [World.cell?, h]
set_option maxRecDepth 100000 in
set_option maxHeartbeats 4000000 in
theorem law_vnil {w : World} {m0 m1 m2 m3 m4 m5 m6 m7 m8 masters vw nm bi bv : Int} {mb base : ByteArray} {eo : Option Addr} {en ec : Nat} {lv : Value} {L : List Ent} (hL : EnS w lv L) (hl : L.length ≤ 100000000000000) : Calls Try.prog 5 #[.agg #[.int .i64 m0, .int .i64 m1, .int .i64 m2, .int .i64 m3, .int .i64 m4, .int .i64 m5, .int .i64 m6, .int .i64 m7, .int .i64 m8, .string mb, .slice eo en ec], .int .i64 masters, .agg #[.int .i64 vw, .int .i64 nm, .int .i64 bi, .int .i64 bv, .string base, lv]] w fun r w' => r = .returned (.bool true) ∧ Below w.heap.size w w' := by
  obtain ⟨ao, c, rfl, hc⟩ := hL.shape
  have HL : Hid (EnS w (.slice ao L.length c) L) := hL
  have hcI : (L.length : Int) ≤ c := by omega
  obtain ⟨n, hn⟩ : ∃ n, L.length = n := ⟨_, rfl⟩
  have HN : Hid (L.length = n) := hn
  rw [hn] at hl HL hcI ⊢
  clear hL hc hn
  go_enter Try.func5, Try.ntmps5
  go_upto_region 1 with (fail)
  generalize hW : World.alloc _ _ = W
  have hN0 : NilB w W w.heap.size (w.heap.size + 1) #[.int .i64 m0, .int .i64 m1, .int .i64 m2, .int .i64 m3, .int .i64 m4, .int .i64 m5, .int .i64 m6, .int .i64 m7, .int .i64 m8, .string mb, .slice eo en ec] #[.int .i64 vw, .int .i64 nm, .int .i64 bi, .int .i64 bv, .string base, .slice ao n c] := by
    rw [← hW]
    refine ⟨(vone_new _ _).trans ((vone_new _ _).mono (by simp)), ?_, ?_⟩
    · exact ((vone_new _ _).block _ (by simp)).trans (heap_alloc_new _ _)
    · have := heap_alloc_new (w.alloc (.cells #[.int .i64 m0, .int .i64 m1, .int .i64 m2, .int .i64 m3, .int .i64 m4, .int .i64 m5, .int .i64 m6, .int .i64 m7, .int .i64 m8, .string mb, .slice eo en ec] 24)) (.cells #[.int .i64 vw, .int .i64 nm, .int .i64 bi, .int .i64 bv, .string base, .slice ao n c] 49)
      rw [World.size_alloc] at this
      exact this
  have HQ : Hid (w.heap.size < w.heap.size + 1) := Nat.lt_succ_self _
  obtain ⟨q0, hq0⟩ : ∃ q, w.heap.size = q := ⟨_, rfl⟩
  rw [hq0] at hN0 HQ ⊢
  obtain ⟨q1, hq1⟩ : ∃ q, q0 + 1 = q := ⟨_, rfl⟩
  rw [hq1] at hN0 HQ ⊢
  have HQ0 : Hid (w.heap.size = q0) := hq0
  have HNB : Hid (NilB w W q0 q1 #[.int .i64 m0, .int .i64 m1, .int .i64 m2, .int .i64 m3, .int .i64 m4, .int .i64 m5, .int .i64 m6, .int .i64 m7, .int .i64 m8, .string mb, .slice eo en ec] #[.int .i64 vw, .int .i64 nm, .int .i64 bi, .int .i64 bv, .string base, .slice ao n c]) := hN0
  obtain ⟨a0, a1, a2, a3, a4, a5, a6, a7, a8, a9, a10⟩ := mbox hN0.m
  clear hW hN0 hq0 hq1
  go_upto_region 3 with (go_at_call 32; refine (propose_nil _ mb).mono ?_; rintro r w1 ⟨rfl, rfl⟩)
  go_upto_region 4 with (go_at_call 29; refine (entry_nil _ m5).mono ?_; rintro r w2 ⟨rfl, hb2⟩; have HN2 : Hid (NilB w w2 q0 q1 #[.int .i64 m0, .int .i64 m1, .int .i64 m2, .int .i64 m3, .int .i64 m4, .int .i64 m5, .int .i64 m6, .int .i64 m7, .int .i64 m8, .string mb, .slice eo en ec] #[.int .i64 vw, .int .i64 nm, .int .i64 bi, .int .i64 bv, .string base, .slice ao n c]) := HNB.out.new hb2; clear hb2)
  generalize hW3 : World.alloc _ _ = W3
  have HN3 : Hid (NilB w W3 q0 q1 #[.int .i64 m0, .int .i64 m1, .int .i64 m2, .int .i64 m3, .int .i64 m4, .int .i64 m5, .int .i64 m6, .int .i64 m7, .int .i64 m8, .string mb, .slice eo en ec] #[.int .i64 vw, .int .i64 nm, .int .i64 bi, .int .i64 bv, .string base, .slice ao n c]) := by rw [← hW3]; exact HN2.out.new (vone_new _ _)
  obtain ⟨k0, k1, k2, k3, k4, k5⟩ := hbox6 HN3.out.h
  have g5 := hfree HN3.out.h 5
  clear hW3 HN2 HNB a0 a1 a2 a3 a4 a5 a6 a7 a8 a9 a10
  have hnI : (0 : Int) ≤ n := by omega
  have ha : ∃ (n' : Nat) (L' : List Ent), L'.length = n' ∧ n' ≤ 1001 ∧ EnS w (.slice ao n' c) L' ∧ (1001 < n → n' = 1001) ∧ (n ≤ 1001 → n' = n) := by
    by_cases hb : n ≤ 1001
    · exact ⟨n, L, HN.out, hb, HL.out, fun h => by omega, fun _ => rfl⟩
    · refine ⟨1001, L.take 1001, by rw [List.length_take, HN.out]; omega, Nat.le_refl _, ?_, fun _ => rfl, fun h => absurd h hb⟩
      obtain ⟨ao', cap', e, h1, h2⟩ := HL.out
      have hN := HN.out
      cases e
      refine ⟨ao, c, by rw [List.length_take]; congr 1; omega, by rw [List.length_take]; omega, fun _ => ?_⟩
      obtain ⟨b, off, rfl, hcell⟩ := h2 (by omega)
      refine ⟨b, off, rfl, fun j hj => ?_⟩
      rw [List.length_take] at hj
      have := hcell j (by omega)
      rw [List.getElem_take]
      exact this
  obtain ⟨n', L', hn', hle', hE', hbig, hsm⟩ := ha
  have HE : Hid (EnS w (.slice ao n' c) L') := hE'
  have HN' : Hid (L'.length = n') := hn'
  clear hE' hn' HL HN
  by_cases hb : n ≤ 1001
  case' pos =>
    obtain rfl := hsm hb
    have hbI : ¬ (1001 : Int) < n' := by omega
    go_upto_region 6 with (fail)
    have HN4 : Hid (NilB w W3 q0 q1 #[.int .i64 m0, .int .i64 m1, .int .i64 m2, .int .i64 m3, .int .i64 m4, .int .i64 m5, .int .i64 m6, .int .i64 m7, .int .i64 m8, .string mb, .slice eo en ec] #[.int .i64 vw, .int .i64 nm, .int .i64 bi, .int .i64 bv, .string base, .slice ao n' c]) := HN3.out
    clear HN3 hbig hsm hb hbI k0 k1 k2 k3 k4 k5 g5
    generalize W3 = W4 at *
  case' neg =>
    obtain rfl := hbig (by omega)
    have hbI : (1001 : Int) < n := by omega
    have hcI2 : (1001 : Int) ≤ c := by omega
    go_upto_region 6 with (fail)
    generalize hW4 : World.setCell _ _ _ = W4
    have HN4 : Hid (NilB w W4 q0 q1 #[.int .i64 m0, .int .i64 m1, .int .i64 m2, .int .i64 m3, .int .i64 m4, .int .i64 m5, .int .i64 m6, .int .i64 m7, .int .i64 m8, .string mb, .slice eo en ec] #[.int .i64 vw, .int .i64 nm, .int .i64 bi, .int .i64 bv, .string base, .slice ao 1001 c]) := by
      have hn := HN3.out
      have hq := HQ.out
      have hq0 := HQ0.out
      have f : Fr W3 W4 (fun k => k = q1) := by rw [← hW4]; exact Fr.setCell (S := fun k => k = q1) _ ⟨q1, 5, none⟩ _ rfl
      exact ⟨hn.low.trans (f.below hn.low.size (fun k e => by omega)), (f.block q0 (vlt_blk hn.m) (by omega)).trans hn.m, by rw [← hW4]; exact vblk_set (i := 5) _ hn.h⟩
    obtain ⟨n', hn1⟩ : ∃ n', 1001 = n' := ⟨_, rfl⟩
    rw [hn1] at HN4 HE HN' hle'
    have hle' : n' ≤ 1001 := by omega
    clear HN3 hW4 hbig hsm hb hbI hcI2 k0 k1 k2 k3 k4 k5 g5 hn1
  all_goals
    have hN4 := HN4.out
    obtain ⟨a0, a1, a2, a3, a4, a5, a6, a7, a8, a9, a10⟩ := mbox hN4.m
    obtain ⟨k0, k1, k2, k3, k4, k5⟩ := hbox6 hN4.h
    have HE4 : Hid (EnS W4 (.slice ao n' c) L') := HE.out.new hN4.low
    clear hN4
    obtain ⟨okb, hok⟩ : ∃ b, mayN m1 masters vw nm bi n' = b := ⟨_, rfl⟩
    have HOk : Hid (mayN m1 masters vw nm bi n' = okb) := hok
    obtain ⟨er, her⟩ : ∃ e : Int, (if okb then 0 else 1) = e := ⟨_, rfl⟩
    have HEr : Hid ((if okb then 0 else 1) = er) := her
    have HNw : Hid (Calls Try.prog 25 #[.int .i64 m1, .int .i64 masters, .agg #[.int .i64 vw, .int .i64 nm, .int .i64 bi, .int .i64 bv, .string base, .slice ao n' c]] W4 fun r w' => ∃ pv, r = .returned (.tuple #[.pointer pv, .int .i64 er]) ∧ Below W4.heap.size W4 w') := by
      have := new_res (me := m1) (all := masters) (vw := vw) (nm := nm) (bi := bi) (bv := bv) (base := base) HE4.out (by have := HN'.out; omega)
      rw [HN'.out, hok, her] at this
      exact this
    clear hok her
    go_upto_region 7 with (go_at_call 25; refine Calls.mono HNw.out ?_; rintro r w6 ⟨pv, rfl, hb6⟩; have HN6 : Hid (NilB w w6 q0 q1 #[.int .i64 m0, .int .i64 m1, .int .i64 m2, .int .i64 m3, .int .i64 m4, .int .i64 m5, .int .i64 m6, .int .i64 m7, .int .i64 m8, .string mb, .slice eo en ec] #[.int .i64 vw, .int .i64 nm, .int .i64 bi, .int .i64 bv, .string base, .slice ao n' c]) := HN4.out.new hb6; clear hb6)
    obtain ⟨a0, a1, a2, a3, a4, a5, a6, a7, a8, a9, a10⟩ := mbox HN6.out.m
    obtain ⟨k0, k1, k2, k3, k4, k5⟩ := hbox6 HN6.out.h
    clear HN4 HE4 HNw HE
    go_cut [15] (fun u wx => u = .bool okb ∧ NilB w wx q0 q1 #[.int .i64 m0, .int .i64 m1, .int .i64 m2, .int .i64 m3, .int .i64 m4, .int .i64 m5, .int .i64 m6, .int .i64 m7, .int .i64 m8, .string mb, .slice eo en ec] #[.int .i64 vw, .int .i64 nm, .int .i64 bi, .int .i64 bv, .string base, .slice ao n' c])
    case first =>
      obtain ⟨W7, hW7⟩ : ∃ W7, w6.alloc (.cells #[.int .i64 vw, .int .i64 nm, .int .i64 bi] 3) = W7 := ⟨_, rfl⟩
      have hb7 : Below w6.heap.size w6 W7 := by rw [← hW7]; exact vone_new _ _
      have HIn : Hid (InS W7 (.slice (some ⟨w6.heap.size, 0, none⟩) 3 3) [vw, nm, bi]) := by
        refine ⟨_, 3, rfl, Nat.le_refl _, fun _ => ⟨w6.heap.size, 0, rfl, fun j hj => ?_⟩⟩
        have hb := heap_alloc_new w6 (.cells #[.int .i64 vw, .int .i64 nm, .int .i64 bi] 3)
        rw [hW7] at hb
        match j, hj with
        | 0, _ => exact vcell_blk hb
        | 1, _ => exact vcell_blk hb
        | 2, _ => exact vcell_blk hb
      have HN7 : Hid (NilB w W7 q0 q1 #[.int .i64 m0, .int .i64 m1, .int .i64 m2, .int .i64 m3, .int .i64 m4, .int .i64 m5, .int .i64 m6, .int .i64 m7, .int .i64 m8, .string mb, .slice eo en ec] #[.int .i64 vw, .int .i64 nm, .int .i64 bi, .int .i64 bv, .string base, .slice ao n' c]) := HN6.out.new hb7
      obtain ⟨b5, hb5⟩ : ∃ b, ([vw, nm, bi] : List Int).all numI = b := ⟨_, rfl⟩
      have HNum : Hid (∀ W, InS W (.slice (some ⟨w6.heap.size, 0, none⟩) 3 3) [vw, nm, bi] → Calls Try.prog 9 #[.slice (some ⟨w6.heap.size, 0, none⟩) 3 3] W fun r w' => r = .returned (.bool b5) ∧ w' = W) := fun W h => by rw [← hb5]; exact numbers_any h (by simp)
      have l0 := (hb7.cell (p := ⟨q1, 0, none⟩) (vlt_cell k0)).trans k0
      have l1 := (hb7.cell (p := ⟨q1, 1, none⟩) (vlt_cell k1)).trans k1
      have l5 := (hb7.cell (p := ⟨q1, 5, none⟩) (vlt_cell k5)).trans k5
      have HF : Hid (okb = (decide (1 ≤ masters) && (decide (masters ≤ 7) && (decide (0 ≤ m1) && (decide (m1 < masters) && (b5 && (decide (nm ≤ vw) && decide (n' ≤ 1000)))))))) := by
        show _ = _
        rw [← HOk.out, ← hb5]
        unfold mayN mayI
        simp only [List.all_cons, List.all_nil, Bool.and_true, Bool.and_assoc]
      have hnI : (n' : Int) ≤ 1001 := by omega
      clear hb5 hb7
      by_cases c1 : 1 ≤ masters
      case neg =>
        have c1n : masters < 1 := by omega
        go_wp2
        go_meet
        exact ⟨by rw [HF.out]; simp; omega, HN6.out⟩
      by_cases c2 : masters ≤ 7
      case neg =>
        have c2n : 7 < masters := by omega
        go_wp2
        go_meet
        exact ⟨by rw [HF.out]; simp; omega, HN6.out⟩
      by_cases c3 : 0 ≤ m1
      case neg =>
        have c3n : m1 < 0 := by omega
        go_wp2
        go_meet
        exact ⟨by rw [HF.out]; simp; omega, HN6.out⟩
      by_cases c4 : m1 < masters
      case neg =>
        have c4n : masters ≤ m1 := by omega
        go_wp2
        go_meet
        exact ⟨by rw [HF.out]; simp; omega, HN6.out⟩
      cases b5
      case false =>
        go_wp2_with (go_at_call 9; refine Calls.mono (HNum.out _ HIn.out) ?_; rintro r w7 ⟨rfl, rfl⟩)
        go_meet
        exact ⟨by rw [HF.out]; simp, HN7.out⟩
      by_cases c6 : nm ≤ vw
      case neg =>
        have c6n : vw < nm := by omega
        go_wp2_with (go_at_call 9; refine Calls.mono (HNum.out _ HIn.out) ?_; rintro r w7 ⟨rfl, rfl⟩)
        go_meet
        exact ⟨by rw [HF.out]; simp; omega, HN7.out⟩
      by_cases c7 : n' ≤ 1000
      case neg =>
        have c7n : ¬ (n' : Int) ≤ 1000 := by omega
        have HF2 : Hid (okb = false) := by show _ = _; rw [HF.out]; simp [c7]
        go_wp2_with (go_at_call 9; refine Calls.mono (HNum.out _ HIn.out) ?_; rintro r w7 ⟨rfl, rfl⟩)
        go_meet
        exact ⟨by rw [HF2.out]; first | rfl | (congr 1; simp; omega), HN7.out⟩
      have c7n : (n' : Int) ≤ 1000 := by omega
      go_wp2_with (go_at_call 9; refine Calls.mono (HNum.out _ HIn.out) ?_; rintro r w7 ⟨rfl, rfl⟩)
      go_meet
      exact ⟨by rw [HF.out]; simp; omega, HN7.out⟩
    case rest =>
      obtain ⟨rfl, hNc⟩ := hcut
      have HNc : Hid (NilB w wc q0 q1 #[.int .i64 m0, .int .i64 m1, .int .i64 m2, .int .i64 m3, .int .i64 m4, .int .i64 m5, .int .i64 m6, .int .i64 m7, .int .i64 m8, .string mb, .slice eo en ec] #[.int .i64 vw, .int .i64 nm, .int .i64 bi, .int .i64 bv, .string base, .slice ao n' c]) := hNc
      clear hNc HN6 a0 a1 a2 a3 a4 a5 a6 a7 a8 a9 a10 k0 k1 k2 k3 k4 k5 HOk HN' hle'
      go_upto_region 9 with (go_at_call 28; refine (hard_nil _).mono ?_; rintro r w8 ⟨rfl, hb8⟩; have HN8 : Hid (NilB w w8 q0 q1 #[.int .i64 m0, .int .i64 m1, .int .i64 m2, .int .i64 m3, .int .i64 m4, .int .i64 m5, .int .i64 m6, .int .i64 m7, .int .i64 m8, .string mb, .slice eo en ec] #[.int .i64 vw, .int .i64 nm, .int .i64 bi, .int .i64 bv, .string base, .slice ao n' c]) := HNc.out.new hb8; clear hb8)
      generalize hW9 : World.alloc _ _ = W9
      have b9 : Below w8.heap.size w8 W9 := by rw [← hW9]; exact vone_new _ _
      have hZ9 : W9.heap[w8.heap.size]? = some (.cells #[.int .i64 0, .int .i64 0, .int .i64 0, .int .i64 0, .string (str []), .slice none 0 0] 49 (0, 0)) := by rw [← hW9]; exact heap_alloc_new _ _
      have HN9 : Hid (NilB w W9 q0 q1 #[.int .i64 m0, .int .i64 m1, .int .i64 m2, .int .i64 m3, .int .i64 m4, .int .i64 m5, .int .i64 m6, .int .i64 m7, .int .i64 m8, .string mb, .slice eo en ec] #[.int .i64 vw, .int .i64 nm, .int .i64 bi, .int .i64 bv, .string base, .slice ao n' c]) := HN8.out.new b9
      obtain ⟨q2, hq2⟩ : ∃ q, w8.heap.size = q := ⟨_, rfl⟩
      rw [hq2] at hZ9 ⊢
      have HZ9 : Hid (W9.heap[q2]? = some (.cells #[.int .i64 0, .int .i64 0, .int .i64 0, .int .i64 0, .string (str []), .slice none 0 0] 49 (0, 0))) := hZ9
      have HFin : Hid (((er == 0) == okb) = true ∧ (okb = false → (er == 1) = true)) := by
        rw [← HEr.out]
        cases okb <;> exact ⟨rfl, by decide⟩
      clear hW9 b9 hZ9 hq2 HN8 HNc HEr
      obtain ⟨hf1, hf2⟩ := HFin.out
      clear HFin
      have NX : Hid (∀ Wa Wb, Below Wa.heap.size Wa Wb → (NilB w Wa q0 q1 #[.int .i64 m0, .int .i64 m1, .int .i64 m2, .int .i64 m3, .int .i64 m4, .int .i64 m5, .int .i64 m6, .int .i64 m7, .int .i64 m8, .string mb, .slice eo en ec] #[.int .i64 vw, .int .i64 nm, .int .i64 bi, .int .i64 bv, .string base, .slice ao n' c]) → Wa.heap[q2]? = some (.cells #[.int .i64 0, .int .i64 0, .int .i64 0, .int .i64 0, .string (str []), .slice none 0 0] 49 (0, 0)) → (NilB w Wb q0 q1 #[.int .i64 m0, .int .i64 m1, .int .i64 m2, .int .i64 m3, .int .i64 m4, .int .i64 m5, .int .i64 m6, .int .i64 m7, .int .i64 m8, .string mb, .slice eo en ec] #[.int .i64 vw, .int .i64 nm, .int .i64 bi, .int .i64 bv, .string base, .slice ao n' c]) ∧ Wb.heap[q2]? = some (.cells #[.int .i64 0, .int .i64 0, .int .i64 0, .int .i64 0, .string (str []), .slice none 0 0] 49 (0, 0))) := fun Wa Wb hb h1 h2 => ⟨h1.new hb, (hb.block q2 (vlt_blk h2)).trans h2⟩
      go_wp2_with (first
        | (go_at_call 11; refine (awake13 _).mono ?_; rintro r wa ⟨rfl, hba⟩; have HNA : Hid _ := NX.out _ _ hba HN9.out HZ9.out; clear hba; obtain ⟨a0, a1, a2, a3, a4, a5, a6, a7, a8, a9, a10⟩ := mbox HNA.out.1.m; obtain ⟨z0, z1, z2, z3, z4, z5⟩ := hbox6 HNA.out.2)
        | (go_at_call 31; refine (tick_nil _).mono ?_; rintro r wt ⟨rfl, rfl⟩)
        | (go_at_call 30; refine (step_nil _ _ rfl).mono ?_; rintro r wb ⟨rfl, hbb⟩; have HNB2 : Hid _ := NX.out _ _ hbb HNA.out.1 HNA.out.2; clear hbb; obtain ⟨b0, b1, b2, b3, b4, b5, b6, b7, b8, b9, b10⟩ := mbox HNB2.out.1.m; obtain ⟨y0, y1, y2, y3, y4, y5⟩ := hbox6 HNB2.out.2)
        | (go_at_call 33; refine (compact_nil _ _ _).mono ?_; rintro r wd ⟨rfl, hbd⟩; have HND : Hid _ := NX.out _ _ hbd HNB2.out.1 HNB2.out.2; clear hbd; obtain ⟨x0, x1, x2, x3, x4, x5⟩ := hbox6 HND.out.2)
        | (go_at_call 34; refine (role_nil _).mono ?_; rintro r wt ⟨rfl, rfl⟩)
        | (go_at_call 35; refine (ready_nil _).mono ?_; rintro r we ⟨rfl, hbe⟩; have HNE : Hid _ := NX.out _ _ hbe HND.out.1 HND.out.2; clear hbe)
        | (go_at_call 36; refine (leader_nil _).mono ?_; rintro r wt ⟨rfl, rfl⟩)
        | (go_at_call 26; refine (commit_nil _).mono ?_; rintro r wt ⟨rfl, rfl⟩)
        | (go_at_call 27; refine (view_nil _).mono ?_; rintro r wt ⟨rfl, rfl⟩))
      all_goals go_ret
      all_goals first
        | exact ⟨rfl, HNE.out.1.low⟩
        | (refine ⟨?_, HNE.out.1.low⟩; simp_all; done)
        | (have h1 : (er == 1) = true := hf2 (by simp_all); exact ⟨by rw [h1]; rfl, HNE.out.1.low⟩)
end Go.Proofs.Ytiodepmioglfpaa
