/- A snapshot is laid. -/
import Derived.Test.YtiodepmioglfpaaVwPr
namespace Go.Proofs.Ytiodepmioglfpaa
open Go.RowKit Go.Maps
attribute [local go_sem] Oper.semAt_some
def Nd.packed (A : Nd) (k : Nat) (e : Ent) (s : ByteArray) : Nd := { A with log := A.log.drop k, bi := A.bi + k, bv := e.v, base := s }
section
variable {w : World} {S : Nat → Prop} {p : Nat} {A : Nd} {lv : Value} {mw mg mu mk : Nat}
set_option maxHeartbeats 800000 in
theorem compact_no (h : NA w S p A lv mw mg mu mk) (ok : A.ok) {ix : Int} (hix : ix ≤ A.bi ∨ A.cm < ix) (s : ByteArray) : Calls Try.prog 33 #[.pointer (some ⟨p, 0, none⟩), .int .i64 ix, .string s] w fun r w' => r = .returned (.bool false) ∧ Below w.heap.size w w' := by
  have HE : Hid (Calls Try.prog 29 #[.pointer (some ⟨p, 0, none⟩), .int .i64 ix] w fun r w' => r = .returned (.tuple #[.agg #[.int .i64 0, .string (str [])], .bool false]) ∧ Below w.heap.size w w') := entry_out h ok hix
  clear h ok hix
  go_enter Try.func33, Try.ntmps33
  go_wp2_with (go_at_call 29; refine Calls.mono HE.out ?_; rintro r w1 ⟨rfl, hb1⟩; have HB1 : Hid (Below w.heap.size w w1) := hb1; clear hb1)
  go_ret
  exact ⟨rfl, HB1.out.trans ((vone_new _ _).mono HB1.out.size)⟩
set_option linter.unusedSimpArgs false in
set_option maxRecDepth 100000 in
set_option maxHeartbeats 2000000 in
theorem compact_yes (h : NA w S p A lv mw mg mu mk) (ok : A.ok) {ix : Int} {j : Nat} (hj : j < A.log.length) (hix : ix - A.bi - 1 = j) (hc : ix ≤ A.cm) (s : ByteArray) : Calls Try.prog 33 #[.pointer (some ⟨p, 0, none⟩), .int .i64 ix, .string s] w fun r w' => r = .returned (.bool true) ∧ NdAt w' (fun k => S k ∨ w.heap.size ≤ k) p (A.packed (j + 1) A.log[j] s) ∧ Fr w w' (fun k => k = p ∨ lv.ownBlock = some k) := by
  obtain ⟨e, he⟩ : ∃ e, A.log[j] = e := ⟨_, rfl⟩
  have HEn : Hid (Calls Try.prog 29 #[.pointer (some ⟨p, 0, none⟩), .int .i64 ix] w fun r w' => r = .returned (.tuple #[.agg #[.int .i64 e.v, .string e.s], .bool true]) ∧ Below w.heap.size w w') := by rw [← he]; exact entry_in h ok hj hix hc
  rw [he]
  have HH : Hid (NA w S p A lv mw mg mu mk) := h
  have HO : Hid A.ok := ok
  obtain ⟨ao, cc, rfl, hcc, -⟩ := h.log.shape
  have hl := ok.len
  have h0 := ok.bi0
  have h1 := ok.bi1
  obtain ⟨n, hn⟩ : ∃ n, A.log.length = n := ⟨_, rfl⟩
  have HN : Hid (A.log.length = n) := hn
  obtain ⟨bi, hbi⟩ : ∃ b, A.bi = b := ⟨_, rfl⟩
  have HBi : Hid (A.bi = bi) := hbi
  rw [hn] at hj hl hcc
  rw [hbi] at hix h0 h1
  have HIx : Hid (ix = bi + ((j + 1 : Nat) : Int)) := by show _ = _; omega
  have hx0 : 0 ≤ ix := by omega
  have hx1 : ix ≤ 2147485000 := by omega
  obtain ⟨jj, hjj⟩ : ∃ jj, j + 1 = jj := ⟨_, rfl⟩
  have HJJ : Hid (j + 1 = jj) := hjj
  have hjn : jj ≤ n := by omega
  have hxs : ix - bi = (jj : Int) := by omega
  have HXs : Hid (ix - bi = (jj : Int)) := hxs
  rw [hjj] at HIx ⊢
  clear h ok he hn hbi hc hix hxs hjj
  go_enter Try.func33, Try.ntmps33
  go_upto_region 4 with (go_at_call 29; refine Calls.mono HEn.out ?_; rintro r w1 ⟨rfl, hb1⟩; have HB1 : Hid (Below w.heap.size w w1) := hb1; clear hb1)
  generalize hW2 : World.alloc _ _ = W2
  have b2 : Below w1.heap.size w1 W2 := by rw [← hW2]; exact vone_new _ _
  have hQ : W2.heap[w1.heap.size]? = some (.cells #[.int .i64 e.v, .string e.s] 31 (0, 0)) := by rw [← hW2]; exact heap_alloc_new _ _
  obtain ⟨q, hq⟩ : ∃ q, w1.heap.size = q := ⟨_, rfl⟩
  rw [hq] at hQ ⊢
  obtain ⟨Wd, hWd⟩ : ∃ Wd, W2.drew = Wd := ⟨_, rfl⟩
  have bd : Below W2.heap.size W2 Wd := by rw [← hWd]; exact Below.drew (Below.refl _ _)
  have hQd := (bd.block q (vlt_blk hQ)).trans hQ
  have hb : Below w.heap.size w Wd := HB1.out.trans ((b2.mono HB1.out.size).trans (bd.mono (Nat.le_trans HB1.out.size b2.size)))
  have hD := HH.out.new hb
  rw [HN.out] at hD
  have hqw : w.heap.size ≤ q := by have := HB1.out.size; omega
  obtain ⟨_, _, _, _, x4, _, _, x7, _⟩ := hD.cells
  rw [HBi.out] at x4
  have HD : Hid (NA Wd S p A (.slice ao n cc) mw mg mu mk) := hD
  have HQ : Hid (Wd.heap[q]? = some (.cells #[.int .i64 e.v, .string e.s] 31 (0, 0))) := hQd
  have HB : Hid (Below w.heap.size w Wd) := hb
  clear hW2 b2 hQ bd hQd hb hD HB1 hq
  refine wp_calmV ?_
  refine wp_region_L [23] (fun w' : World => w'.cell? ⟨p, 4, none⟩ = some (.int .i64 bi) ∧ w'.cell? ⟨p, 7, none⟩ = some (.slice ao n cc)) (by kernel_rfl) ?_
  rw [hWd]
  clear hWd
  have hS : (fun w' : World => w'.cell? ⟨p, 4, none⟩ = some (.int .i64 bi) ∧ w'.cell? ⟨p, 7, none⟩ = some (.slice ao n cc)) Wd := ⟨x4, x7⟩
  have hxs := HXs.out
  have hw1 : IntKind.i64.wrap (jj : Int) = (jj : Int) := IntWalk.i64_in _ (by omega)
  refine wpAnyL_take (i := 0) 17 (v := .pointer (some ⟨p, 0, none⟩)) rfl rfl (by kernel_rfl) (by kernel_rfl) (by kernel_rfl) (by kernel_rfl) (by kernel_rfl) (by kernel_rfl) (fun _ _ _ h => h) hS (by rfl) (by intro w' hSw; obtain ⟨y0, y1⟩ := hSw; go_simp <;> with_reducible rfl) ?_
  simp only [Act.put, List.setIfInBounds_toArray, List.set_cons_zero, List.set_cons_succ]
  refine wpAnyL_take (i := 1) 18 (v := .pointer (some ⟨p, 0, none⟩)) rfl rfl (by kernel_rfl) (by kernel_rfl) (by kernel_rfl) (by kernel_rfl) (by kernel_rfl) (by kernel_rfl) (fun _ _ _ h => h) hS (by rfl) (by intro w' hSw; obtain ⟨y0, y1⟩ := hSw; go_simp <;> with_reducible rfl) ?_
  simp only [Act.put, List.setIfInBounds_toArray, List.set_cons_zero, List.set_cons_succ]
  refine wpAnyL_take (i := 2) 19 (v := .pointer (some ⟨p, 0, none⟩)) rfl rfl (by kernel_rfl) (by kernel_rfl) (by kernel_rfl) (by kernel_rfl) (by kernel_rfl) (by kernel_rfl) (fun _ _ _ h => h) hS (by rfl) (by intro w' hSw; obtain ⟨y0, y1⟩ := hSw; go_simp <;> with_reducible rfl) ?_
  simp only [Act.put, List.setIfInBounds_toArray, List.set_cons_zero, List.set_cons_succ]
  refine wpAnyL_take (i := 3) 20 (v := .pointer (some ⟨p, 2, none⟩)) rfl rfl (by kernel_rfl) (by kernel_rfl) (by kernel_rfl) (by kernel_rfl) (by kernel_rfl) (by kernel_rfl) (fun _ _ _ h => h) hS (by rfl) (by intro w' hSw; obtain ⟨y0, y1⟩ := hSw; go_simp <;> with_reducible rfl) ?_
  simp only [Act.put, List.setIfInBounds_toArray, List.set_cons_zero, List.set_cons_succ]
  refine wpAnyL_take (i := 4) 21 (v := .pointer (some ⟨p, 7, none⟩)) rfl rfl (by kernel_rfl) (by kernel_rfl) (by kernel_rfl) (by kernel_rfl) (by kernel_rfl) (by kernel_rfl) (fun _ _ _ h => h) hS (by rfl) (by intro w' hSw; obtain ⟨y0, y1⟩ := hSw; go_simp <;> with_reducible rfl) ?_
  simp only [Act.put, List.setIfInBounds_toArray, List.set_cons_zero, List.set_cons_succ]
  refine wpAnyL_take (i := 5) 22 (v := .slice ao n cc) rfl rfl (by kernel_rfl) (by kernel_rfl) (by kernel_rfl) (by kernel_rfl) (by kernel_rfl) (by kernel_rfl) (fun _ _ _ h => h) hS (by rfl) (by intro w' hSw; obtain ⟨y0, y1⟩ := hSw; go_simp <;> with_reducible rfl) ?_
  simp only [Act.put, List.setIfInBounds_toArray, List.set_cons_zero, List.set_cons_succ]
  refine wpAnyL_take (i := 6) 23 (v := .int .i64 ix) rfl rfl (by kernel_rfl) (by kernel_rfl) (by kernel_rfl) (by kernel_rfl) (by kernel_rfl) (by kernel_rfl) (fun _ _ _ h => h) hS (by rfl) (by intro w' hSw; obtain ⟨y0, y1⟩ := hSw; go_simp <;> with_reducible rfl) ?_
  simp only [Act.put, List.setIfInBounds_toArray, List.set_cons_zero, List.set_cons_succ]
  refine wpAnyL_take (i := 7) 24 (v := .pointer (some ⟨p, 0, none⟩)) rfl rfl (by kernel_rfl) (by kernel_rfl) (by kernel_rfl) (by kernel_rfl) (by kernel_rfl) (by kernel_rfl) (fun _ _ _ h => h) hS (by rfl) (by intro w' hSw; obtain ⟨y0, y1⟩ := hSw; go_simp <;> with_reducible rfl) ?_
  simp only [Act.put, List.setIfInBounds_toArray, List.set_cons_zero, List.set_cons_succ]
  refine wpAnyL_take (i := 8) 25 (v := .pointer (some ⟨p, 0, none⟩)) rfl rfl (by kernel_rfl) (by kernel_rfl) (by kernel_rfl) (by kernel_rfl) (by kernel_rfl) (by kernel_rfl) (fun _ _ _ h => h) hS (by rfl) (by intro w' hSw; obtain ⟨y0, y1⟩ := hSw; go_simp <;> with_reducible rfl) ?_
  simp only [Act.put, List.setIfInBounds_toArray, List.set_cons_zero, List.set_cons_succ]
  refine wpAnyL_take (i := 9) 26 (v := .pointer (some ⟨p, 2, none⟩)) rfl rfl (by kernel_rfl) (by kernel_rfl) (by kernel_rfl) (by kernel_rfl) (by kernel_rfl) (by kernel_rfl) (fun _ _ _ h => h) hS (by rfl) (by intro w' hSw; obtain ⟨y0, y1⟩ := hSw; go_simp <;> with_reducible rfl) ?_
  simp only [Act.put, List.setIfInBounds_toArray, List.set_cons_zero, List.set_cons_succ]
  refine wpAnyL_take (i := 10) 27 (v := .pointer (some ⟨p, 4, none⟩)) rfl rfl (by kernel_rfl) (by kernel_rfl) (by kernel_rfl) (by kernel_rfl) (by kernel_rfl) (by kernel_rfl) (fun _ _ _ h => h) hS (by rfl) (by intro w' hSw; obtain ⟨y0, y1⟩ := hSw; go_simp <;> with_reducible rfl) ?_
  simp only [Act.put, List.setIfInBounds_toArray, List.set_cons_zero, List.set_cons_succ]
  refine wpAnyL_take (i := 11) 28 (v := .int .i64 bi) rfl rfl (by kernel_rfl) (by kernel_rfl) (by kernel_rfl) (by kernel_rfl) (by kernel_rfl) (by kernel_rfl) (fun _ _ _ h => h) hS (by rfl) (by intro w' hSw; obtain ⟨y0, y1⟩ := hSw; go_simp <;> with_reducible rfl) ?_
  simp only [Act.put, List.setIfInBounds_toArray, List.set_cons_zero, List.set_cons_succ]
  refine wpAnyL_take (i := 12) 29 (v := .int .i64 (jj : Int)) rfl rfl (by kernel_rfl) (by kernel_rfl) (by kernel_rfl) (by kernel_rfl) (by kernel_rfl) (by kernel_rfl) (fun _ _ _ h => h) hS (by rfl) (by intro w' hSw; obtain ⟨y0, y1⟩ := hSw; go_simp <;> with_reducible rfl) ?_
  simp only [Act.put, List.setIfInBounds_toArray, List.set_cons_zero, List.set_cons_succ]
  refine wpAnyL_take (i := 13) 30 (v := .pointer (some ⟨p, 0, none⟩)) rfl rfl (by kernel_rfl) (by kernel_rfl) (by kernel_rfl) (by kernel_rfl) (by kernel_rfl) (by kernel_rfl) (fun _ _ _ h => h) hS (by rfl) (by intro w' hSw; obtain ⟨y0, y1⟩ := hSw; go_simp <;> with_reducible rfl) ?_
  simp only [Act.put, List.setIfInBounds_toArray, List.set_cons_zero, List.set_cons_succ]
  refine wpAnyL_take (i := 14) 31 (v := .pointer (some ⟨p, 0, none⟩)) rfl rfl (by kernel_rfl) (by kernel_rfl) (by kernel_rfl) (by kernel_rfl) (by kernel_rfl) (by kernel_rfl) (fun _ _ _ h => h) hS (by rfl) (by intro w' hSw; obtain ⟨y0, y1⟩ := hSw; go_simp <;> with_reducible rfl) ?_
  simp only [Act.put, List.setIfInBounds_toArray, List.set_cons_zero, List.set_cons_succ]
  refine wpAnyL_take (i := 15) 32 (v := .pointer (some ⟨p, 2, none⟩)) rfl rfl (by kernel_rfl) (by kernel_rfl) (by kernel_rfl) (by kernel_rfl) (by kernel_rfl) (by kernel_rfl) (fun _ _ _ h => h) hS (by rfl) (by intro w' hSw; obtain ⟨y0, y1⟩ := hSw; go_simp <;> with_reducible rfl) ?_
  simp only [Act.put, List.setIfInBounds_toArray, List.set_cons_zero, List.set_cons_succ]
  refine wpAnyL_take (i := 16) 33 (v := .pointer (some ⟨p, 7, none⟩)) rfl rfl (by kernel_rfl) (by kernel_rfl) (by kernel_rfl) (by kernel_rfl) (by kernel_rfl) (by kernel_rfl) (fun _ _ _ h => h) hS (by rfl) (by intro w' hSw; obtain ⟨y0, y1⟩ := hSw; go_simp <;> with_reducible rfl) ?_
  simp only [Act.put, List.setIfInBounds_toArray, List.set_cons_zero, List.set_cons_succ]
  refine wpAnyL_take (i := 17) 34 (v := .slice ao n cc) rfl rfl (by kernel_rfl) (by kernel_rfl) (by kernel_rfl) (by kernel_rfl) (by kernel_rfl) (by kernel_rfl) (fun _ _ _ h => h) hS (by rfl) (by intro w' hSw; obtain ⟨y0, y1⟩ := hSw; go_simp <;> with_reducible rfl) ?_
  simp only [Act.put, List.setIfInBounds_toArray, List.set_cons_zero, List.set_cons_succ]
  refine wpAnyL_take (i := 18) 35 (v := .int .i64 (n : Int)) rfl rfl (by kernel_rfl) (by kernel_rfl) (by kernel_rfl) (by kernel_rfl) (by kernel_rfl) (by kernel_rfl) (fun _ _ _ h => h) hS (by rfl) (by intro w' hSw; obtain ⟨y0, y1⟩ := hSw; go_simp <;> with_reducible rfl) ?_
  simp only [Act.put, List.setIfInBounds_toArray, List.set_cons_zero, List.set_cons_succ]
  clear hxs hw1
  have hES : EnS Wd (.slice ao n cc) A.log := HD.out.log.toS
  have HES : Hid (EnS Wd (.slice ao n cc) A.log) := hES
  clear hES
  refine wpAnyL_one (i := 19) (by kernel_rfl) rfl (fun Ka hKa => ?_)
  go_simp
  refine Calls.mono (cut_any (a := jj) (b := n) HES.out (by omega) (by rw [HN.out]; exact Nat.le_refl _) (by rw [HN.out]; omega)) ?_
  rintro r w4 ⟨lv', rfl, hE4, hb4⟩
  have hT : (A.log.take n).drop jj = A.log.drop jj := by rw [List.take_of_length_le (by rw [HN.out]; exact Nat.le_refl _)]
  rw [hT] at hE4
  obtain ⟨a4, c4, e4, _⟩ := hE4.shape
  have hdl : (A.log.drop jj).length = n - jj := by rw [List.length_drop, HN.out]
  rw [hdl] at e4
  subst e4
  have z4 := (hb4.cell (p := ⟨p, 4, none⟩) (vlt_cell x4)).trans x4
  have z7 := (hb4.cell (p := ⟨p, 7, none⟩) (vlt_cell x7)).trans x7
  have g7 : w4.frozen? ⟨p, 7, none⟩ = false := (HD.out.new hb4).free 7
  have HE4 : Hid (EnO w4 Wd.heap.size (.slice a4 (n - jj) c4) (A.log.drop jj)) := hE4
  have HB4 : Hid (Below Wd.heap.size Wd w4) := hb4
  refine hKa.out _ _ (fun _ => ⟨z4, z7⟩) ?_
  clear hKa Ka hE4 hb4 hT hdl hS x4 x7 HES
  try simp only [Act.put, List.setIfInBounds_toArray, List.set_cons_zero, List.set_cons_succ]
  have hS4 : (fun w' : World => w'.cell? ⟨p, 4, none⟩ = some (.int .i64 bi) ∧ w'.cell? ⟨p, 7, none⟩ = some (.slice ao n cc)) w4 := ⟨z4, z7⟩
  refine wpAnyL_take (i := 20) 37 (v := .pointer (some ⟨p, 0, none⟩)) rfl rfl (by kernel_rfl) (by kernel_rfl) (by kernel_rfl) (by kernel_rfl) (by kernel_rfl) (by kernel_rfl) (fun _ _ _ h => h) hS4 (by rfl) (by intro w' hSw; obtain ⟨y0, y1⟩ := hSw; go_simp <;> with_reducible rfl) ?_
  simp only [Act.put, List.setIfInBounds_toArray, List.set_cons_zero, List.set_cons_succ]
  refine wpAnyL_take (i := 21) 38 (v := .pointer (some ⟨p, 2, none⟩)) rfl rfl (by kernel_rfl) (by kernel_rfl) (by kernel_rfl) (by kernel_rfl) (by kernel_rfl) (by kernel_rfl) (fun _ _ _ h => h) hS4 (by rfl) (by intro w' hSw; obtain ⟨y0, y1⟩ := hSw; go_simp <;> with_reducible rfl) ?_
  simp only [Act.put, List.setIfInBounds_toArray, List.set_cons_zero, List.set_cons_succ]
  refine wpAnyL_take (i := 22) 39 (v := .pointer (some ⟨p, 7, none⟩)) rfl rfl (by kernel_rfl) (by kernel_rfl) (by kernel_rfl) (by kernel_rfl) (by kernel_rfl) (by kernel_rfl) (fun _ _ _ h => h) hS4 (by rfl) (by intro w' hSw; obtain ⟨y0, y1⟩ := hSw; go_simp <;> with_reducible rfl) ?_
  simp only [Act.put, List.setIfInBounds_toArray, List.set_cons_zero, List.set_cons_succ]
  refine wpAnyL_one (i := 23) (by kernel_rfl) rfl (fun Ka hKa => ?_)
  go_simp
  refine hKa.out _ _ (fun h => absurd h (Bool.eq_false_iff.1 (by kernel_rfl))) ?_
  clear hKa Ka
  refine wpAnyL_done (by kernel_rfl) ?_ _
  generalize hW5 : World.setCell _ _ _ = W5
  have hRl := HD.out.relog (L' := A.log.drop jj) (Fr.ofBelow HB4.out _) (HE4.out.low (Nat.zero_le _)) (fun k hk => .inr (vrow_tag HE4.out hk).1) hW5
  have hlt5 : q < Wd.heap.size := vlt_blk HQ.out
  have hqp : q ≠ p := fun e => by
    have h1 := HQ.out
    rw [e, HD.out.blk] at h1
    injection h1 with h1
    injection h1 with _ h2
    exact absurd h2 (by decide)
  have hQ5 : W5.heap[q]? = some (.cells #[.int .i64 e.v, .string e.s] 31 (0, 0)) := by
    rw [← hW5]
    exact ((Fr.setCell (S := fun k => k = p) _ ⟨p, 7, none⟩ _ rfl).block q (Nat.lt_of_lt_of_le hlt5 HB4.out.size) hqp).trans ((HB4.out.block q hlt5).trans HQ.out)
  have HF5 : Hid (Fr w W5 (fun k => k = p ∨ (Value.slice ao n cc).ownBlock = some k)) := ((Fr.ofBelow HB.out (fun _ => False)).mono (fun _ _ h => h.elim)).trans hRl.2 (fun _ _ h => h)
  have HA5 : Hid (NA W5 (fun k => S k ∨ Wd.heap.size ≤ k) p { A with log := A.log.drop jj } (.slice a4 (n - jj) c4) mw mg mu mk) := hRl.1
  have HSz : Hid (w.heap.size ≤ Wd.heap.size) := HB.out.size
  clear hRl hW5 HE4 HB4 HD HB HQ z4 z7 g7 hS4 hlt5
  generalize Wd = Wd0 at *
  go_upto_region 5 with (fail)
  obtain ⟨Wd, hWd⟩ : ∃ Wd, W5.drew = Wd := ⟨_, rfl⟩
  have bd : Below W5.heap.size W5 Wd := by rw [← hWd]; exact Below.drew (Below.refl _ _)
  have hA := HA5.out.new bd
  have hQd := (bd.block q (vlt_blk hQ5)).trans hQ5
  obtain ⟨_, _, _, _, x4, x5, x6, _⟩ := hA.cells
  have g4 := hA.free 4
  have xq : Wd.cell? ⟨q, 0, none⟩ = some (.int .i64 e.v) := vcell_blk hQd
  have HA : Hid (NA Wd (fun k => S k ∨ Wd0.heap.size ≤ k) p { A with log := A.log.drop jj } (.slice a4 (n - jj) c4) mw mg mu mk) := hA
  have HBd : Hid (Below W5.heap.size W5 Wd) := bd
  clear hA hQd hQ5 bd HA5
  refine wp_calmV ?_
  refine wp_region_L [18] (fun w' : World => w'.cell? ⟨q, 0, none⟩ = some (.int .i64 e.v)) (by kernel_rfl) ?_
  rw [hWd]
  clear hWd
  have hS : (fun w' : World => w'.cell? ⟨q, 0, none⟩ = some (.int .i64 e.v)) Wd := xq
  refine wpAnyL_take (i := 0) 40 (v := .pointer (some ⟨p, 0, none⟩)) rfl rfl (by kernel_rfl) (by kernel_rfl) (by kernel_rfl) (by kernel_rfl) (by kernel_rfl) (by kernel_rfl) (fun _ _ _ h => h) hS (by rfl) (by intro w' hSw; have y0 := hSw; go_simp <;> with_reducible rfl) ?_
  simp only [Act.put, List.setIfInBounds_toArray, List.set_cons_zero, List.set_cons_succ]
  refine wpAnyL_take (i := 1) 41 (v := .pointer (some ⟨p, 0, none⟩)) rfl rfl (by kernel_rfl) (by kernel_rfl) (by kernel_rfl) (by kernel_rfl) (by kernel_rfl) (by kernel_rfl) (fun _ _ _ h => h) hS (by rfl) (by intro w' hSw; have y0 := hSw; go_simp <;> with_reducible rfl) ?_
  simp only [Act.put, List.setIfInBounds_toArray, List.set_cons_zero, List.set_cons_succ]
  refine wpAnyL_take (i := 2) 42 (v := .pointer (some ⟨p, 0, none⟩)) rfl rfl (by kernel_rfl) (by kernel_rfl) (by kernel_rfl) (by kernel_rfl) (by kernel_rfl) (by kernel_rfl) (fun _ _ _ h => h) hS (by rfl) (by intro w' hSw; have y0 := hSw; go_simp <;> with_reducible rfl) ?_
  simp only [Act.put, List.setIfInBounds_toArray, List.set_cons_zero, List.set_cons_succ]
  refine wpAnyL_take (i := 3) 43 (v := .int .i64 ix) rfl rfl (by kernel_rfl) (by kernel_rfl) (by kernel_rfl) (by kernel_rfl) (by kernel_rfl) (by kernel_rfl) (fun _ _ _ h => h) hS (by rfl) (by intro w' hSw; have y0 := hSw; go_simp <;> with_reducible rfl) ?_
  simp only [Act.put, List.setIfInBounds_toArray, List.set_cons_zero, List.set_cons_succ]
  refine wpAnyL_take (i := 4) 44 (v := .pointer (some ⟨q, 0, none⟩)) rfl rfl (by kernel_rfl) (by kernel_rfl) (by kernel_rfl) (by kernel_rfl) (by kernel_rfl) (by kernel_rfl) (fun _ _ _ h => h) hS (by rfl) (by intro w' hSw; have y0 := hSw; go_simp <;> with_reducible rfl) ?_
  simp only [Act.put, List.setIfInBounds_toArray, List.set_cons_zero, List.set_cons_succ]
  refine wpAnyL_take (i := 5) 45 (v := .int .i64 e.v) rfl rfl (by kernel_rfl) (by kernel_rfl) (by kernel_rfl) (by kernel_rfl) (by kernel_rfl) (by kernel_rfl) (fun _ _ _ h => h) hS (by rfl) (by intro w' hSw; have y0 := hSw; go_simp <;> with_reducible rfl) ?_
  simp only [Act.put, List.setIfInBounds_toArray, List.set_cons_zero, List.set_cons_succ]
  refine wpAnyL_take (i := 6) 46 (v := .string s) rfl rfl (by kernel_rfl) (by kernel_rfl) (by kernel_rfl) (by kernel_rfl) (by kernel_rfl) (by kernel_rfl) (fun _ _ _ h => h) hS (by rfl) (by intro w' hSw; have y0 := hSw; go_simp <;> with_reducible rfl) ?_
  simp only [Act.put, List.setIfInBounds_toArray, List.set_cons_zero, List.set_cons_succ]
  refine wpAnyL_take (i := 7) 47 (v := .pointer (some ⟨p, 0, none⟩)) rfl rfl (by kernel_rfl) (by kernel_rfl) (by kernel_rfl) (by kernel_rfl) (by kernel_rfl) (by kernel_rfl) (fun _ _ _ h => h) hS (by rfl) (by intro w' hSw; have y0 := hSw; go_simp <;> with_reducible rfl) ?_
  simp only [Act.put, List.setIfInBounds_toArray, List.set_cons_zero, List.set_cons_succ]
  refine wpAnyL_take (i := 8) 48 (v := .pointer (some ⟨p, 2, none⟩)) rfl rfl (by kernel_rfl) (by kernel_rfl) (by kernel_rfl) (by kernel_rfl) (by kernel_rfl) (by kernel_rfl) (fun _ _ _ h => h) hS (by rfl) (by intro w' hSw; have y0 := hSw; go_simp <;> with_reducible rfl) ?_
  simp only [Act.put, List.setIfInBounds_toArray, List.set_cons_zero, List.set_cons_succ]
  refine wpAnyL_take (i := 9) 49 (v := .pointer (some ⟨p, 4, none⟩)) rfl rfl (by kernel_rfl) (by kernel_rfl) (by kernel_rfl) (by kernel_rfl) (by kernel_rfl) (by kernel_rfl) (fun _ _ _ h => h) hS (by rfl) (by intro w' hSw; have y0 := hSw; go_simp <;> with_reducible rfl) ?_
  simp only [Act.put, List.setIfInBounds_toArray, List.set_cons_zero, List.set_cons_succ]
  have pq : q ≠ p := hqp
  refine wpAnyL_one (i := 10) (by kernel_rfl) rfl (fun Ka hKa => ?_)
  go_simp
  obtain ⟨A1, hA1⟩ : ∃ A1 : Nd, { A with log := A.log.drop jj, bi := ix } = A1 := ⟨_, rfl⟩
  have h1 := HA.out.setP 4 (.int .i64 ix) (A' := A1) (by rw [← hA1]; rfl) (by rw [← hA1]) (by rw [← hA1]) (by rw [← hA1]) (by rw [← hA1])
  obtain ⟨Wa, hWa⟩ : ∃ Wa, Wd.setCell ⟨p, 4, none⟩ (.int .i64 ix) = Wa := ⟨_, rfl⟩
  rw [hWa] at h1 ⊢
  have xqa : Wa.cell? ⟨q, 0, none⟩ = some (.int .i64 e.v) := vfr_cell h1.2 (S := fun k => k = p) pq xq
  obtain ⟨_, _, _, _, _, y5, _⟩ := h1.1.cells
  have g5 := h1.1.free 5
  have HA1 : Hid (NA Wa (fun k => S k ∨ Wd0.heap.size ≤ k) p A1 (.slice a4 (n - jj) c4) mw mg mu mk) := h1.1
  have HF1 : Hid (Fr Wd Wa (fun k => k = p)) := h1.2
  have HE1 : Hid ({ A with log := A.log.drop jj, bi := ix } = A1) := hA1
  refine hKa.out _ _ (fun _ => xqa) ?_
  clear hKa Ka h1 hWa hA1 hS xq x4 x5 x6 g4
  try simp only [Act.put, List.setIfInBounds_toArray, List.set_cons_zero, List.set_cons_succ]
  have hSa : (fun w' : World => w'.cell? ⟨q, 0, none⟩ = some (.int .i64 e.v)) Wa := xqa
  refine wpAnyL_take (i := 11) 50 (v := .pointer (some ⟨p, 0, none⟩)) rfl rfl (by kernel_rfl) (by kernel_rfl) (by kernel_rfl) (by kernel_rfl) (by kernel_rfl) (by kernel_rfl) (fun _ _ _ h => h) hSa (by rfl) (by intro w' hSw; have y0 := hSw; go_simp <;> with_reducible rfl) ?_
  simp only [Act.put, List.setIfInBounds_toArray, List.set_cons_zero, List.set_cons_succ]
  refine wpAnyL_take (i := 12) 51 (v := .pointer (some ⟨p, 2, none⟩)) rfl rfl (by kernel_rfl) (by kernel_rfl) (by kernel_rfl) (by kernel_rfl) (by kernel_rfl) (by kernel_rfl) (fun _ _ _ h => h) hSa (by rfl) (by intro w' hSw; have y0 := hSw; go_simp <;> with_reducible rfl) ?_
  simp only [Act.put, List.setIfInBounds_toArray, List.set_cons_zero, List.set_cons_succ]
  refine wpAnyL_take (i := 13) 52 (v := .pointer (some ⟨p, 5, none⟩)) rfl rfl (by kernel_rfl) (by kernel_rfl) (by kernel_rfl) (by kernel_rfl) (by kernel_rfl) (by kernel_rfl) (fun _ _ _ h => h) hSa (by rfl) (by intro w' hSw; have y0 := hSw; go_simp <;> with_reducible rfl) ?_
  simp only [Act.put, List.setIfInBounds_toArray, List.set_cons_zero, List.set_cons_succ]
  refine wpAnyL_one (i := 14) (by kernel_rfl) rfl (fun Ka hKa => ?_)
  go_simp
  obtain ⟨A2, hA2⟩ : ∃ A2 : Nd, { A1 with bv := e.v } = A2 := ⟨_, rfl⟩
  have h2 := HA1.out.setP 5 (.int .i64 e.v) (A' := A2) (by rw [← hA2]; rfl) (by rw [← hA2]) (by rw [← hA2]) (by rw [← hA2]) (by rw [← hA2])
  obtain ⟨Wb, hWb⟩ : ∃ Wb, Wa.setCell ⟨p, 5, none⟩ (.int .i64 e.v) = Wb := ⟨_, rfl⟩
  rw [hWb] at h2 ⊢
  have xqb : Wb.cell? ⟨q, 0, none⟩ = some (.int .i64 e.v) := vfr_cell h2.2 (S := fun k => k = p) pq xqa
  obtain ⟨_, _, _, _, _, _, z6, _⟩ := h2.1.cells
  have g6 := h2.1.free 6
  have HA2 : Hid (NA Wb (fun k => S k ∨ Wd0.heap.size ≤ k) p A2 (.slice a4 (n - jj) c4) mw mg mu mk) := h2.1
  have HF2 : Hid (Fr Wd Wb (fun k => k = p)) := HF1.out.trans h2.2 (fun _ _ h => h)
  have HE2 : Hid ({ A1 with bv := e.v } = A2) := hA2
  refine hKa.out _ _ (fun _ => xqb) ?_
  clear hKa Ka h2 hWb hA2 hSa xqa y5 g5 HA1 HF1
  try simp only [Act.put, List.setIfInBounds_toArray, List.set_cons_zero, List.set_cons_succ]
  have hSb : (fun w' : World => w'.cell? ⟨q, 0, none⟩ = some (.int .i64 e.v)) Wb := xqb
  refine wpAnyL_take (i := 15) 53 (v := .pointer (some ⟨p, 0, none⟩)) rfl rfl (by kernel_rfl) (by kernel_rfl) (by kernel_rfl) (by kernel_rfl) (by kernel_rfl) (by kernel_rfl) (fun _ _ _ h => h) hSb (by rfl) (by intro w' hSw; have y0 := hSw; go_simp <;> with_reducible rfl) ?_
  simp only [Act.put, List.setIfInBounds_toArray, List.set_cons_zero, List.set_cons_succ]
  refine wpAnyL_take (i := 16) 54 (v := .pointer (some ⟨p, 2, none⟩)) rfl rfl (by kernel_rfl) (by kernel_rfl) (by kernel_rfl) (by kernel_rfl) (by kernel_rfl) (by kernel_rfl) (fun _ _ _ h => h) hSb (by rfl) (by intro w' hSw; have y0 := hSw; go_simp <;> with_reducible rfl) ?_
  simp only [Act.put, List.setIfInBounds_toArray, List.set_cons_zero, List.set_cons_succ]
  refine wpAnyL_take (i := 17) 55 (v := .pointer (some ⟨p, 6, none⟩)) rfl rfl (by kernel_rfl) (by kernel_rfl) (by kernel_rfl) (by kernel_rfl) (by kernel_rfl) (by kernel_rfl) (fun _ _ _ h => h) hSb (by rfl) (by intro w' hSw; have y0 := hSw; go_simp <;> with_reducible rfl) ?_
  simp only [Act.put, List.setIfInBounds_toArray, List.set_cons_zero, List.set_cons_succ]
  refine wpAnyL_one (i := 18) (by kernel_rfl) rfl (fun Ka hKa => ?_)
  go_simp
  refine hKa.out _ _ (fun h => absurd h (Bool.eq_false_iff.1 (by kernel_rfl))) ?_
  clear hKa Ka
  refine wpAnyL_done (by kernel_rfl) ?_ _
  have h3 := HA2.out.setP 6 (.string s) (A' := A.packed jj e s) (by rw [← HE2.out, ← HE1.out]; show _ = ndCells _ _ _ _ _ _; unfold Nd.packed; rw [HBi.out, ← HIx.out]; rfl) (by rw [← HE2.out, ← HE1.out]; rfl) (by rw [← HE2.out, ← HE1.out]; rfl) (by rw [← HE2.out, ← HE1.out]; rfl) (by rw [← HE2.out, ← HE1.out]; rfl)
  obtain ⟨Wc, hWc⟩ : ∃ Wc, Wb.setCell ⟨p, 6, none⟩ (.string s) = Wc := ⟨_, rfl⟩
  rw [hWc] at h3 ⊢
  have HA3 : Hid (NA Wc (fun k => S k ∨ Wd0.heap.size ≤ k) p (A.packed jj e s) (.slice a4 (n - jj) c4) mw mg mu mk) := h3.1
  have HF3 : Hid (Fr Wd Wc (fun k => k = p)) := HF2.out.trans h3.2 (fun _ _ h => h)
  clear h3 hWc hSb xqb z6 g6 HA2 HF2
  go_wp2
  go_ret
  refine ⟨rfl, ⟨_, _, _, _, _, HA3.out.mono (fun k _ h => ?_)⟩, ?_⟩
  · rcases h with h | h
    · exact .inl h
    · exact .inr (Nat.le_trans HSz.out h)
  · rw [HN.out]
    exact (HF5.out.trans (Fr.ofBelow HBd.out (fun _ => False)) (fun _ _ h => h.elim)).trans HF3.out (fun _ _ h => .inl h)
end
end Go.Proofs.Ytiodepmioglfpaa
