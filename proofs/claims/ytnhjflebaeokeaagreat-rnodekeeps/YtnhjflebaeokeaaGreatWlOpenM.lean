import Derived.Test.YtnhjflebaeokeaaGreatWlDM
section
/- A log in memory: what it holds; Snap, Len, All, Add, Reset. -/
namespace Go.Proofs.YtnhjflebaeokeaaGreat
open Go.RowKit Go.Maps
variable {Xm : Nat → Prop}
attribute [local go_sem] Oper.semAt_some
/-- A log in memory, over the disk at p. -/
structure Lg (w : World) (B q p : Nat) (snap : Bs) (rv : Value) (R : List Bs) : Prop where
  blk : w.heap[q]? = some (.cells #[.pointer (some ⟨p, 0, none⟩), .string (str snap), rv] 144 (0, 0))
  row : TxO w B rv R
  hq : B ≤ q
theorem blk_frD2 {w w' : World} {B q : Nat} {cs : Array Value} {t : TypeId} (h : w.heap[q]? = some (.cells cs t (0, 0))) (f : FrD Xm B w w') (h1 : t ≠ 83) (h2 : t ≠ 122) : w'.heap[q]? = some (.cells cs t (0, 0)) := by
  refine (f.block q (lt_blk h) (fun s => ?_)).trans h
  rcases s.2.1 with ⟨es, c', hm⟩ | ⟨c', t', f', hm, ht⟩
  · rw [h] at hm; cases hm
  · rw [h] at hm
    cases hm
    rcases ht with ht | ht
    · exact h1 ht
    · exact h2 ht
theorem dk_keep {w w' : World} {B p : Nat} {A : Dk} (h : DkAt Xm w B p A) {S : Nat → Prop} (f : Fr w w' S) (hS : ∀ k, S k → ∃ c t g, w.heap[k]? = some (.cells c t g) ∧ t ≠ 83 ∧ t ≠ 122) : DkAt Xm w' B p A := by
  obtain ⟨mn, ms, lv, h⟩ := h
  refine ⟨mn, ms, lv, h.kept f (fun k hk => ?_)⟩
  obtain ⟨c, t, g, hb, h1, h2⟩ := hS k hk
  refine ⟨fun e => ?_, fun e => ?_, fun e => ?_, fun e => ?_⟩
  · rw [e, h.blk] at hb
    cases hb
    exact h1 rfl
  · obtain ⟨es, c', hm⟩ := map_tag h.now e
    rw [hb] at hm; cases hm
  · obtain ⟨es, c', hm⟩ := map_tag h.sure e
    rw [hb] at hm; cases hm
  · obtain ⟨_, c', g', hm⟩ := row_tag h.row e
    rw [hb] at hm
    cases hm
    exact h2 rfl
section
variable {w w' : World} {B q p : Nat} {snap : Bs} {rv : Value} {R : List Bs}
theorem Lg.frD (h : Lg w B q p snap rv R) {D : Nat} (f : FrD Xm D w w') : Lg w' B q p snap rv R := ⟨blk_frD2 h.blk f (by decide) (by decide), h.row.frD f, h.hq⟩
theorem Lg.new (h : Lg w B q p snap rv R) (f : Below w.heap.size w w') : Lg w' B q p snap rv R := ⟨(f.block q (lt_blk h.blk)).trans h.blk, h.row.new f, h.hq⟩
theorem Lg.cells (h : Lg w B q p snap rv R) : w.cell? ⟨q, 0, none⟩ = some (.pointer (some ⟨p, 0, none⟩)) ∧ w.cell? ⟨q, 1, none⟩ = some (.string (str snap)) ∧ w.cell? ⟨q, 2, none⟩ = some rv := by
  have := h.blk
  simp [World.cell?, this]
theorem Lg.free (h : Lg w B q p snap rv R) (i : Nat) : w.frozen? ⟨q, i, none⟩ = false := by
  have := h.blk
  simp [World.frozen?, this]
theorem Lg.apart (h : Lg w B q p snap rv R) : rv.ownBlock ≠ some q := by
  intro e
  obtain ⟨_, c, f, hb⟩ := h.row.tag e
  rw [h.blk] at hb
  cases hb
/-- What a log writes is no block of a disk's. -/
theorem Lg.tags (h : Lg w B q p snap rv R) : ∀ k, k = q ∨ rv.ownBlock = some k → ∃ c t g, w.heap[k]? = some (.cells c t g) ∧ t ≠ 83 ∧ t ≠ 122 := by
  intro k hk
  rcases hk with rfl | hk
  · exact ⟨_, _, _, h.blk, by decide, by decide⟩
  · obtain ⟨_, c, g, hb⟩ := h.row.tag hk
    exact ⟨_, _, _, hb, by decide, by decide⟩
theorem snap_any (h : Lg w B q p snap rv R) : Calls Tryz.prog 84 #[.pointer (some ⟨q, 0, none⟩)] w fun r w' => r = .returned (.string (str snap)) ∧ w' = w := by
  obtain ⟨c0, c1, c2⟩ := h.cells
  clear h
  go_enter Tryz.func84, Tryz.ntmps84
  go_wp2
  go_ret
  exact ⟨rfl, rfl⟩
theorem len_any (h : Lg w B q p snap rv R) : Calls Tryz.prog 102 #[.pointer (some ⟨q, 0, none⟩)] w fun r w' => r = .returned (.int .i64 R.length) ∧ w' = w := by
  obtain ⟨c0, c1, c2⟩ := h.cells
  obtain ⟨ao, c, rfl⟩ := h.row.shape
  clear h
  go_enter Tryz.func102, Tryz.ntmps102
  go_wp2
  go_ret
  exact ⟨rfl, rfl⟩
theorem all_any (h : Lg w B q p snap rv R) (hl : R.length ≤ 1000000) : Calls Tryz.prog 85 #[.pointer (some ⟨q, 0, none⟩)] w fun r w' => ∃ v', r = .returned v' ∧ TxO w' w.heap.size v' R ∧ Below w.heap.size w w' := by
  obtain ⟨c0, c1, c2⟩ := h.cells
  have hC := clone_txt h.row.toS hl
  obtain ⟨ao, c, rfl⟩ := h.row.shape
  clear h
  go_enter Tryz.func85, Tryz.ntmps85
  go_wp2_with (go_at_call 122; refine hC.mono ?_; rintro r w1 ⟨v', rfl, ho, hb⟩; have HO : Hid (TxO w1 w.heap.size v' R) := ho; have HB : Hid (Below w.heap.size w w1) := hb; clear ho hb; obtain ⟨ao', c', rfl⟩ := HO.out.shape)
  go_ret
  exact ⟨_, rfl, HO.out, HB.out⟩
set_option maxRecDepth 100000 in
set_option maxHeartbeats 1600000 in
theorem reset_core {A4 : Dk} {s2 : Bs} {v : Value} {T : List Bs} (hL : Lg w B q p snap rv R) (hB : B ≤ w.heap.size) (hv : TxO w 0 v T) (hT : (frs T).length ≤ 1000000) (hA : Calls Tryz.prog 82 #[.pointer (some ⟨p, 0, none⟩), .string (str s2), v] w fun r w' => r = .returned (.int .i64 0) ∧ DkAt Xm w' B p A4 ∧ FrD Xm B w w') : Calls Tryz.prog 103 #[.pointer (some ⟨q, 0, none⟩), .string (str s2), v] w fun r w' => r = .returned (.int .i64 0) ∧ DkAt Xm w' B p A4 ∧ (∃ rv', Lg w' B q p s2 rv' T ∧ ∀ k, rv'.ownBlock = some k → w.heap.size ≤ k) ∧ Fr w w' (fun k => (B ≤ k ∧ DkB Xm w k) ∨ k = q) := by
  have HN : Hid (T.length ≤ 1000000) := by have := len_frs T; show _ ≤ _; omega
  have HC : Hid (∀ W, FrD Xm B w W → Calls Tryz.prog 122 #[v] W fun r w' => ∃ v', r = .returned v' ∧ TxO w' W.heap.size v' T ∧ Below W.heap.size W w') := fun W hW => clone_txt (hv.frD hW).toS HN.out
  have HL : Hid (Lg w B q p snap rv R) := hL
  have HB0 : Hid (B ≤ w.heap.size) := hB
  obtain ⟨c0, c1, c2⟩ := hL.cells
  obtain ⟨ao, c, rfl⟩ := hv.shape
  clear hB hv hT hL
  go_enter Tryz.func103, Tryz.ntmps103
  go_wp2_with (first
    | (go_at_call 82; refine hA.mono ?_; rintro r w1 ⟨rfl, hD, hF⟩; have HD : Hid (DkAt Xm w1 B p A4) := hD; have HF : Hid (FrD Xm B w w1) := hF; clear hD hF; obtain ⟨c0, c1, c2⟩ := (HL.out.frD HF.out).cells)
    | (go_at_call 122; refine (HC.out _ HF.out).mono ?_; rintro r w2 ⟨v', rfl, ho, hb⟩; have HO : Hid (TxO w2 w1.heap.size v' T) := ho; have HB : Hid (Below w1.heap.size w1 w2) := hb; clear ho hb; obtain ⟨ao', c', rfl⟩ := HO.out.shape; obtain ⟨c0, c1, c2⟩ := ((HL.out.frD HF.out).new HB.out).cells; have f1 := ((HL.out.frD HF.out).new HB.out).free 1; have f2 := ((HL.out.frD HF.out).new HB.out).free 2))
  go_ret
  have hL2 := (HL.out.frD HF.out).new HB.out
  have e1 := blk_set (i := 1) (.string (str s2)) hL2.blk
  have e2 := blk_set (i := 2) (.slice ao' T.length c') e1
  have fr1 : Fr w2 ((w2.setCell ⟨q, 1, none⟩ (.string (str s2))).setCell ⟨q, 2, none⟩ (.slice ao' T.length c')) (fun k => k = q) := (Fr.setCell (S := fun k => k = q) w2 ⟨q, 1, none⟩ _ rfl).trans (Fr.setCell (S := fun k => k = q) _ ⟨q, 2, none⟩ _ rfl) (fun _ _ h => h)
  have hqs : q < w.heap.size := lt_blk HL.out.blk
  refine ⟨rfl, ?_, ⟨_, ⟨e2, ?_, HL.out.hq⟩, fun k hk => Nat.le_trans HF.out.size (HO.out.tag hk).1⟩, ?_⟩
  · refine dk_keep (HD.out.new HB.out) fr1 (fun k hk => ?_)
    rw [hk]
    exact ⟨_, _, _, hL2.blk, by decide, by decide⟩
  · refine (HO.out.low (Nat.le_trans HB0.out HF.out.size)).kept fr1 (fun k hk s => ?_)
    have := (HO.out.tag hk).1
    have := HF.out.size
    omega
  · refine Fr.trans (Fr.trans (Fr.mono HF.out (fun k _ h => .inl h)) (Fr.ofBelow HB.out (fun _ => False)) (fun _ _ h => h.elim)) fr1 (fun _ _ h => .inr h)
theorem reset_any {A : Dk} {M k : Nat} {s2 : Bs} {v : Value} {T : List Bs} (hL : Lg w B q p snap rv R) (h : DkAt Xm w B p A) (hB : B ≤ w.heap.size) (hc : Cl A M k) (hM : M ≤ 2305843009213693952) (hk : k ≤ 90000) (hv : TxO w 0 v T) (hT : (frs T).length ≤ 1000000) (hs : s2.length + 10 ≤ 140737488355328) (hF : (frs (s2 :: T)).length ≤ M) : Calls Tryz.prog 103 #[.pointer (some ⟨q, 0, none⟩), .string (str s2), v] w fun r w' => r = .returned (.int .i64 0) ∧ DkAt Xm w' B p (A.anew (frs (s2 :: T))) ∧ (∃ rv', Lg w' B q p s2 rv' T ∧ ∀ k, rv'.ownBlock = some k → w.heap.size ≤ k) ∧ Fr w w' (fun k => (B ≤ k ∧ DkB Xm w k) ∨ k = q) := by
  exact reset_core hL hB hv hT (makeAnew_any h hB hc hM hk hv.toS hT hs hF)
set_option maxRecDepth 100000 in
set_option maxHeartbeats 1600000 in
theorem add_core {A1 A4 : Dk} {v : Value} {T : List Bs} (hL : Lg w B q p snap rv R) (hB : B ≤ w.heap.size) (hv : TxO w 0 v T) (hT : (frs T).length ≤ 1000000) (hn : R.length + T.length ≤ 1000000) (hAp : ∀ W, Below w.heap.size w W → Calls Tryz.prog 139 #[.pointer (some ⟨p, 0, none⟩), .string (str log_), .string (str (frs T))] W fun r w' => r = .returned (.int .i64 0) ∧ DkAt Xm w' B p A1 ∧ FrD Xm B W w') (hSy : ∀ W, DkAt Xm W B p A1 → FrD Xm B w W → Calls Tryz.prog 34 #[.pointer (some ⟨p, 0, none⟩)] W fun r w' => r = .returned (.int .i64 0) ∧ DkAt Xm w' B p A4 ∧ FrD Xm B W w') : Calls Tryz.prog 107 #[.pointer (some ⟨q, 0, none⟩), v] w fun r w' => r = .returned (.int .i64 0) ∧ DkAt Xm w' B p A4 ∧ (∃ rv', Lg w' B q p snap rv' (R ++ T) ∧ ∀ k, rv'.ownBlock = some k → rv.ownBlock = some k ∨ w.heap.size ≤ k) ∧ Fr w w' (fun k => (B ≤ k ∧ DkB Xm w k) ∨ k = q ∨ rv.ownBlock = some k) := by
  have HFa : Hid (∀ W, Below w.heap.size w W → Calls Tryz.prog 116 #[v] W fun r w' => r = .returned (.string (str (frs T))) ∧ Below W.heap.size W w') := fun W hW => frameAll_any (hv.toS.new hW) hT
  have HAp : Hid _ := hAp
  have HSy : Hid _ := hSy
  have HL : Hid (Lg w B q p snap rv R) := hL
  have HV : Hid (TxO w 0 v T) := hv
  have HN : Hid (R.length + T.length ≤ 2000000000) := by show _ ≤ _; omega
  have HB0 : Hid (B ≤ w.heap.size) := hB
  obtain ⟨c0, c1, c2⟩ := hL.cells
  obtain ⟨ao, c, rfl⟩ := hv.shape
  obtain ⟨ro, rc, rfl⟩ := hL.row.shape
  clear hB hv hT hn hL hAp hSy
  generalize str (frs T) = s1 at HFa HAp
  go_enter Tryz.func107, Tryz.ntmps107
  go_upto_region 3 with (fail)
  have bd : Below w.heap.size w w.drew := Below.drew (Below.refl _ _)
  obtain ⟨Wd, hWd⟩ : ∃ Wd, w.drew = Wd := ⟨_, rfl⟩
  rw [hWd] at bd
  have HBd : Hid (Below w.heap.size w Wd) := bd
  have hS : (fun w' : World => w'.cell? ⟨q, 0, none⟩ = some (.pointer (some ⟨p, 0, none⟩))) Wd := (bd.cell (p := ⟨q, 0, none⟩) (lt_cellD c0)).trans c0
  have HS : Hid (Wd.cell? ⟨q, 0, none⟩ = some (.pointer (some ⟨p, 0, none⟩))) := hS
  clear bd c0 c1 c2
  refine wp_calmD ?_
  refine wp_region_L [6] (fun w' : World => w'.cell? ⟨q, 0, none⟩ = some (.pointer (some ⟨p, 0, none⟩))) (by kernel_rfl) ?_
  rw [hWd]
  clear hWd
  refine wpAnyL_take (i := 0) 9 (v := .pointer (some ⟨q, 0, none⟩)) rfl rfl (by kernel_rfl) (by kernel_rfl) (by kernel_rfl) (by kernel_rfl) (by kernel_rfl) (by kernel_rfl) (fun _ _ _ h => h) hS (by rfl) (by intro w' hSw; have y0 : w'.cell? ⟨q, 0, none⟩ = some (.pointer (some ⟨p, 0, none⟩)) := hSw; clear hSw; go_simp <;> with_reducible rfl) ?_
  simp only [Act.put, List.setIfInBounds_toArray, List.set_cons_zero, List.set_cons_succ]
  refine wpAnyL_take (i := 1) 10 (v := .pointer (some ⟨q, 0, none⟩)) rfl rfl (by kernel_rfl) (by kernel_rfl) (by kernel_rfl) (by kernel_rfl) (by kernel_rfl) (by kernel_rfl) (fun _ _ _ h => h) hS (by rfl) (by intro w' hSw; have y0 : w'.cell? ⟨q, 0, none⟩ = some (.pointer (some ⟨p, 0, none⟩)) := hSw; clear hSw; go_simp <;> with_reducible rfl) ?_
  simp only [Act.put, List.setIfInBounds_toArray, List.set_cons_zero, List.set_cons_succ]
  refine wpAnyL_take (i := 2) 11 (v := .pointer (some ⟨q, 0, none⟩)) rfl rfl (by kernel_rfl) (by kernel_rfl) (by kernel_rfl) (by kernel_rfl) (by kernel_rfl) (by kernel_rfl) (fun _ _ _ h => h) hS (by rfl) (by intro w' hSw; have y0 : w'.cell? ⟨q, 0, none⟩ = some (.pointer (some ⟨p, 0, none⟩)) := hSw; clear hSw; go_simp <;> with_reducible rfl) ?_
  simp only [Act.put, List.setIfInBounds_toArray, List.set_cons_zero, List.set_cons_succ]
  refine wpAnyL_take (i := 3) 12 (v := .pointer (some ⟨p, 0, none⟩)) rfl rfl (by kernel_rfl) (by kernel_rfl) (by kernel_rfl) (by kernel_rfl) (by kernel_rfl) (by kernel_rfl) (fun _ _ _ h => h) hS (by rfl) (by intro w' hSw; have y0 : w'.cell? ⟨q, 0, none⟩ = some (.pointer (some ⟨p, 0, none⟩)) := hSw; clear hSw; go_simp <;> with_reducible rfl) ?_
  simp only [Act.put, List.setIfInBounds_toArray, List.set_cons_zero, List.set_cons_succ]
  refine wpAnyL_take (i := 4) 13 (v := .slice ao T.length c) rfl rfl (by kernel_rfl) (by kernel_rfl) (by kernel_rfl) (by kernel_rfl) (by kernel_rfl) (by kernel_rfl) (fun _ _ _ h => h) hS (by rfl) (by intro w' hSw; have y0 : w'.cell? ⟨q, 0, none⟩ = some (.pointer (some ⟨p, 0, none⟩)) := hSw; clear hSw; go_simp <;> with_reducible rfl) ?_
  simp only [Act.put, List.setIfInBounds_toArray, List.set_cons_zero, List.set_cons_succ]
  refine wpAnyL_one (i := 5) (by kernel_rfl) rfl (fun Ka hKa => ?_)
  go_simp
  refine (HFa.out _ HBd.out).mono ?_
  rintro r w1 ⟨rfl, hb⟩
  have HB1 : Hid (Below w.heap.size w w1) := HBd.out.trans (hb.mono HBd.out.size)
  have hS1 : (fun w' : World => w'.cell? ⟨q, 0, none⟩ = some (.pointer (some ⟨p, 0, none⟩))) w1 := (hb.cell (p := ⟨q, 0, none⟩) (lt_cellD HS.out)).trans HS.out
  refine hKa.out _ _ (fun _ => hS1) ?_
  clear hKa Ka hb hS1 hS HS
  try simp only [Act.put, List.setIfInBounds_toArray, List.set_cons_zero, List.set_cons_succ]
  refine wpAnyL_one (i := 6) (by kernel_rfl) rfl (fun Ka hKa => ?_)
  go_simp
  refine (HAp.out _ HB1.out).mono ?_
  rintro r w2 ⟨rfl, hD, hF⟩
  have HD2 : Hid (DkAt Xm w2 B p A1) := hD
  have HF2 : Hid (FrD Xm B w w2) := (FrD.new HB1.out).trans hF
  refine hKa.out _ _ (fun h => absurd h (Bool.eq_false_iff.1 (by kernel_rfl))) ?_
  clear hKa Ka hD hF
  try simp only [Act.put, List.setIfInBounds_toArray, List.set_cons_zero, List.set_cons_succ]
  refine wpAnyL_one (i := 7) (by kernel_rfl) rfl (fun Ka hKa => ?_)
  go_simp
  refine hKa.out _ _ (fun h => absurd h (Bool.eq_false_iff.1 (by kernel_rfl))) ?_
  clear hKa Ka
  try simp only [Act.put, List.setIfInBounds_toArray, List.set_cons_zero, List.set_cons_succ]
  refine wpAnyL_done (by kernel_rfl) ?_ _
  obtain ⟨c0, c1, c2⟩ := (HL.out.frD HF2.out).cells
  go_wp2_with (first
    | (go_at_call 34; refine (HSy.out _ HD2.out HF2.out).mono ?_; rintro r w3 ⟨rfl, hD, hF⟩; have HD3 : Hid (DkAt Xm w3 B p A4) := hD; have HF3 : Hid (FrD Xm B w w3) := HF2.out.trans hF; clear hD hF; obtain ⟨c0, c1, c2⟩ := (HL.out.frD HF3.out).cells)
    | (at_builtin; refine wpl_appT rfl rfl rfl rfl (HL.out.frD HF3.out).row (HV.out.frD HF3.out).toS HN.out (Nat.le_trans HB0.out HF3.out.size) ?_; intro v4 w4 o4 f4 b4; have HO4 : Hid (TxO w4 B v4 (R ++ T)) := o4; have HF4 : Hid (Fr w3 w4 (fun k => (Value.slice ro R.length rc).ownBlock = some k)) := f4; have HK4 : Hid (∀ k, v4.ownBlock = some k → (Value.slice ro R.length rc).ownBlock = some k ∨ w3.heap.size ≤ k) := b4; clear o4 f4 b4; have e4 := (HF4.out.block q (lt_blk (HL.out.frD HF3.out).blk) (HL.out.frD HF3.out).apart).trans (HL.out.frD HF3.out).blk; have HE4 : Hid _ := e4; obtain ⟨x4, y4, rfl⟩ := HO4.out.shape; have c0 := cell_blk (i := 0) e4; have c1 := cell_blk (i := 1) e4; have c2 := cell_blk (i := 2) e4; have f2 : w4.frozen? ⟨q, 2, none⟩ = false := (by simp [World.frozen?, e4]); clear e4))
  go_ret
  have hL3 := HL.out.frD HF3.out
  have e5 := blk_set (i := 2) (.slice x4 (R ++ T).length y4) HE4.out
  have fr5 : Fr w4 (w4.setCell ⟨q, 2, none⟩ (.slice x4 (R ++ T).length y4)) (fun k => k = q) := Fr.setCell (S := fun k => k = q) w4 ⟨q, 2, none⟩ _ rfl
  have fr35 : Fr w3 (w4.setCell ⟨q, 2, none⟩ (.slice x4 (R ++ T).length y4)) (fun k => k = q ∨ (Value.slice ro R.length rc).ownBlock = some k) := Fr.trans (Fr.mono HF4.out (fun k _ h => .inr h)) fr5 (fun _ _ h => .inl h)
  rw [← List.length_append]
  refine ⟨rfl, dk_keep HD3.out fr35 hL3.tags, ⟨_, ⟨e5, ?_, HL.out.hq⟩, fun k hk => ?_⟩, Fr.trans (Fr.mono HF3.out (fun k _ h => .inl h)) fr35 (fun _ _ h => .inr h)⟩
  · refine HO4.out.kept fr5 (fun k hk s => ?_)
    rw [s] at hk
    obtain ⟨_, c, g, hb⟩ := HO4.out.tag hk
    rw [HE4.out] at hb
    cases hb
  · rcases HK4.out k hk with h | h
    · exact .inl h
    · exact .inr (Nat.le_trans HF3.out.size h)
theorem add_any {A : Dk} {M k : Nat} {v : Value} {T : List Bs} (hL : Lg w B q p snap rv R) (h : DkAt Xm w B p A) (hB : B ≤ w.heap.size) (hc : Cl A M k) (hM : M ≤ 2305843009213693952) (hk : k ≤ 90000) (hv : TxO w 0 v T) (hT : (frs T).length ≤ 1000000) (hn : R.length + T.length ≤ 1000000) (hTM : (frs T).length ≤ M) : Calls Tryz.prog 107 #[.pointer (some ⟨q, 0, none⟩), v] w fun r w' => r = .returned (.int .i64 0) ∧ DkAt Xm w' B p (A.more (frs T)) ∧ (∃ rv', Lg w' B q p snap rv' (R ++ T) ∧ ∀ k, rv'.ownBlock = some k → rv.ownBlock = some k ∨ w.heap.size ≤ k) ∧ Fr w w' (fun k => (B ≤ k ∧ DkB Xm w k) ∨ k = q ∨ rv.ownBlock = some k) := by
  exact add_core hL hB hv hT hn (fun W hW => cl_append (h.new hW) (Nat.le_trans hB hW.size) hc hM (by omega) hTM) (fun W hD _ => cl_sync _ hD hc (by omega))
end
end Go.Proofs.YtnhjflebaeokeaaGreat
end

section
/- Open of a disk: no frames, whole frames, frames with something behind them. -/
namespace Go.Proofs.YtnhjflebaeokeaaGreat
open Go.RowKit Go.Maps
variable {Xm : Nat → Prop}
attribute [local go_sem] Oper.semAt_some
theorem cl_read {w : World} {B p : Nat} {A : Dk} {M k : Nat} (h : DkAt Xm w B p A) (hc : Cl A M k) : ∃ er : Int, (er = 0 ∨ er = 2) ∧ Calls Tryz.prog 80 #[.pointer (some ⟨p, 0, none⟩), .string (str log_)] w fun r w' => r = .returned (.tuple #[.string (str (ofF log_ A.sure)), .int .i64 er]) ∧ Below w.heap.size w w' := by
  obtain ⟨mn, ms, lv, h⟩ := h
  refine ⟨if (getF log_ A.now).isSome then 0 else 2, by split <;> simp, ?_⟩
  have := read_ok h hc.dead (nm := log_) (by decide) rfl
  rw [hc.now] at this ⊢
  exact this
theorem unfV_nil {l : Bs} {e : Nat} (h : unfV l = ([], e)) : e = 0 := by
  have h1 := unfV_is l
  rw [h] at h1
  simp only [frs_nil] at h1
  have h2 := congrArg List.length h1.2
  rw [List.length_take, List.length_nil] at h2
  have h3 := h1.1
  omega
theorem lg_made (w : World) (p : Nat) (B : Nat) (hB : B ≤ w.heap.size) : Lg (w.alloc (.cells #[.pointer (some ⟨p, 0, none⟩), .string (str []), .slice none 0 0] 144)) B w.heap.size p [] (.slice none 0 0) [] := ⟨heap_alloc_new _ _, TxO.nil _ _, hB⟩
/-- A row of texts but its first one. -/
theorem row_tail {w : World} {D g off c : Nat} {s : Bs} {R : List Bs} (h : TxO w D (.slice (some ⟨g, off, none⟩) (R.length + 1) c) (s :: R)) : 1 ≤ c ∧ w.cell? ⟨g, off, none⟩ = some (.string (str s)) ∧ g < w.heap.size ∧ D ≤ g ∧ ∀ V : World, V.heap[g]? = w.heap[g]? → TxO V D (.slice (if c = 1 then some ⟨g, off, none⟩ else some ⟨g, off + 1, none⟩) R.length (c - 1)) R := by
  rcases h with ⟨h0, _⟩ | ⟨g', off', c', he, hg1, ⟨cur, hg2, hg3⟩, hg4, hg5, hg6⟩
  · cases h0
  · cases he
    simp only [List.length_cons] at hg4
    refine ⟨by omega, hg6 0 (by simp), lt_blk hg2, hg1, fun V hV => ?_⟩
    have hc : ∀ j (hj : j < R.length), V.cell? ⟨g, off + 1 + j, none⟩ = some (.string (str R[j])) := fun j hj => by
      have := hg6 (j + 1) (by simpa using hj)
      rw [show off + (j + 1) = off + 1 + j by omega] at this
      exact (World.cell?_of_block (a := ⟨g, off + 1 + j, none⟩) hV).trans this
    by_cases h1 : c = 1
    · rw [if_pos h1]
      have e0 : R = [] := List.length_eq_zero_iff.1 (by omega)
      subst e0
      exact .inr ⟨g, off, c - 1, rfl, hg1, ⟨cur, hV.trans hg2, by omega⟩, by simp, by omega, fun j hj => absurd hj (by simp)⟩
    · rw [if_neg h1]
      exact .inr ⟨g, off + 1, c - 1, rfl, hg1, ⟨cur, hV.trans hg2, by omega⟩, by omega, by omega, hc⟩
theorem lg_filled {W : World} {B q p D : Nat} {s : Bs} {R : List Bs} {rv : Value} (h : Lg W B q p [] (.slice none 0 0) []) (hD : B ≤ D) (hr : ∀ V : World, Fr W V (fun k => k = q) → TxO V D rv R) : Lg ((W.setCell ⟨q, 1, none⟩ (.string (str s))).setCell ⟨q, 2, none⟩ rv) B q p s rv R ∧ Fr W ((W.setCell ⟨q, 1, none⟩ (.string (str s))).setCell ⟨q, 2, none⟩ rv) (fun k => k = q) := by
  have fr1 : Fr W ((W.setCell ⟨q, 1, none⟩ (.string (str s))).setCell ⟨q, 2, none⟩ rv) (fun k => k = q) := (Fr.setCell (S := fun k => k = q) W ⟨q, 1, none⟩ _ rfl).trans (Fr.setCell (S := fun k => k = q) _ ⟨q, 2, none⟩ _ rfl) (fun _ _ h => h)
  exact ⟨⟨blk_set (i := 2) rv (blk_set (i := 1) (.string (str s)) h.blk), (hr _ fr1).low hD, h.hq⟩, fr1⟩
section
variable {w : World} {B p : Nat} {A : Dk} {M k : Nat} {l : Bs}
set_option maxRecDepth 100000 in
set_option maxHeartbeats 1600000 in
theorem open_none (h : DkAt Xm w B p A) (hB : B ≤ w.heap.size) (hc : Cl A M k) (hM : M ≤ 2305843009213693952) (hM1 : 1000 ≤ M) (hk : k ≤ 90000) (hl : ofF log_ A.sure = l) {e : Nat} (hU : unfV l = ([], e)) : Calls Tryz.prog 50 #[.pointer (some ⟨p, 0, none⟩)] w fun r w' => ∃ q, r = .returned (.tuple #[.pointer (some ⟨q, 0, none⟩), .int .i64 l.length, .int .i64 0]) ∧ w.heap.size ≤ q ∧ Lg w' B q p [] (.slice none 0 0) [] ∧ DkAt Xm w' B p (A.anew (frs [[]])) ∧ FrD Xm B w w' := by
  obtain rfl := unfV_nil hU
  have hlM : l.length ≤ M := by rw [← hl]; exact hc.fit.of _
  obtain ⟨er, her, hR⟩ := cl_read h hc
  rw [hl] at hR
  have HU : Hid (∀ W, Calls Tryz.prog 81 #[.string (str l)] W fun r w' => ∃ ao c, r = .returned (.tuple #[.slice ao 0 c, .int .i64 0]) ∧ Below W.heap.size W w') := fun W => by
    refine (unframeAll_any W (by omega) (by rw [hU]; simp)).mono ?_
    rintro r w' ⟨v, rfl, hv, hb⟩
    rw [hU] at hv ⊢
    obtain ⟨ao, c, rfl⟩ := hv.shape
    exact ⟨ao, c, rfl, hb⟩
  have HA : Hid (∀ W, Below w.heap.size w W → Calls Tryz.prog 82 #[.pointer (some ⟨p, 0, none⟩), .string (str []), .slice none 0 0] W fun r w' => r = .returned (.int .i64 0) ∧ DkAt Xm w' B p (A.anew (frs [[]])) ∧ FrD Xm B W w') := fun W hW => makeAnew_any (h.new hW) (Nat.le_trans hB hW.size) hc hM hk (TxO.nil W 0).toS (by simp [frs_nil]) (by simp) (by rw [frs_one]; have := frameB_le [] (by simp); simp at this; omega)
  have HB0 : Hid (B ≤ w.heap.size) := hB
  have hl2 : (str l).size ≤ 2305843009213693952 := by rw [str_size]; omega
  have hb1 : ¬ er = 1 := by omega
  have hz : (er != 0 && er != 2) = false := by rcases her with rfl | rfl <;> rfl
  clear h hB hc hM hM1 hk hl hU hlM hb1
  generalize A.anew (frs [[]]) = A4 at HA ⊢
  rcases her with rfl | rfl
  · go_enter Tryz.func50, Tryz.ntmps50
    go_upto_region 12 with (first
      | (go_at_call 80; refine hR.mono ?_; rintro r w1 ⟨rfl, hb⟩; have HB1 : Hid (Below w.heap.size w w1) := hb; clear hb)
      | (go_at_call 81; refine (HU.out _).mono ?_; rintro r w2 ⟨ao, c, rfl, hb⟩; have HB2 : Hid (Below w.heap.size w w2) := HB1.out.trans (hb.mono HB1.out.size); clear hb))
    generalize hW : World.alloc _ _ = W
    have HL : Hid (Lg W B w2.heap.size p [] (.slice none 0 0) []) := by
      show Lg _ _ _ _ _ _ _
      rw [← hW]
      exact lg_made w2 p B (Nat.le_trans HB0.out HB2.out.size)
    have HB3 : Hid (Below w.heap.size w W) := by
      show Below _ _ _
      rw [← hW]
      exact HB2.out.trans ((one_newD _ _).mono HB2.out.size)
    clear hW
    have HQ : Hid (w.heap.size ≤ w2.heap.size) := HB2.out.size
    generalize w2.heap.size = q at HL HQ ⊢
    have bd : Below W.heap.size W W.drew := Below.drew (Below.refl _ _)
    obtain ⟨Wd, hWd⟩ : ∃ Wd, W.drew = Wd := ⟨_, rfl⟩
    rw [hWd] at bd
    have HBd : Hid (Below W.heap.size W Wd) := bd
    have hS : (fun w' : World => w'.cell? ⟨q, 1, none⟩ = some (.string (str [])) ∧ w'.cell? ⟨q, 2, none⟩ = some (.slice none 0 0)) Wd := ⟨(HL.out.new bd).cells.2.1, (HL.out.new bd).cells.2.2⟩
    clear bd
    refine wp_calmD ?_
    refine wp_region_L [9] (fun w' : World => w'.cell? ⟨q, 1, none⟩ = some (.string (str [])) ∧ w'.cell? ⟨q, 2, none⟩ = some (.slice none 0 0)) (by kernel_rfl) ?_
    rw [hWd]
    clear hWd
    refine wpAnyL_take (i := 0) 60 (v := .pointer (some ⟨p, 0, none⟩)) rfl rfl (by kernel_rfl) (by kernel_rfl) (by kernel_rfl) (by kernel_rfl) (by kernel_rfl) (by kernel_rfl) (fun _ _ _ h => h) hS (by rfl) (by intro w' hSw; obtain ⟨y0, y1⟩ := hSw; go_simp <;> with_reducible rfl) ?_
    simp only [Act.put, List.setIfInBounds_toArray, List.set_cons_zero, List.set_cons_succ]
    refine wpAnyL_take (i := 1) 61 (v := .pointer (some ⟨q, 0, none⟩)) rfl rfl (by kernel_rfl) (by kernel_rfl) (by kernel_rfl) (by kernel_rfl) (by kernel_rfl) (by kernel_rfl) (fun _ _ _ h => h) hS (by rfl) (by intro w' hSw; obtain ⟨y0, y1⟩ := hSw; go_simp <;> with_reducible rfl) ?_
    simp only [Act.put, List.setIfInBounds_toArray, List.set_cons_zero, List.set_cons_succ]
    refine wpAnyL_take (i := 2) 62 (v := .pointer (some ⟨q, 0, none⟩)) rfl rfl (by kernel_rfl) (by kernel_rfl) (by kernel_rfl) (by kernel_rfl) (by kernel_rfl) (by kernel_rfl) (fun _ _ _ h => h) hS (by rfl) (by intro w' hSw; obtain ⟨y0, y1⟩ := hSw; go_simp <;> with_reducible rfl) ?_
    simp only [Act.put, List.setIfInBounds_toArray, List.set_cons_zero, List.set_cons_succ]
    refine wpAnyL_take (i := 3) 63 (v := .pointer (some ⟨q, 1, none⟩)) rfl rfl (by kernel_rfl) (by kernel_rfl) (by kernel_rfl) (by kernel_rfl) (by kernel_rfl) (by kernel_rfl) (fun _ _ _ h => h) hS (by rfl) (by intro w' hSw; obtain ⟨y0, y1⟩ := hSw; go_simp <;> with_reducible rfl) ?_
    simp only [Act.put, List.setIfInBounds_toArray, List.set_cons_zero, List.set_cons_succ]
    refine wpAnyL_take (i := 4) 64 (v := .string (str [])) rfl rfl (by kernel_rfl) (by kernel_rfl) (by kernel_rfl) (by kernel_rfl) (by kernel_rfl) (by kernel_rfl) (fun _ _ _ h => h) hS (by rfl) (by intro w' hSw; obtain ⟨y0, y1⟩ := hSw; go_simp <;> with_reducible rfl) ?_
    simp only [Act.put, List.setIfInBounds_toArray, List.set_cons_zero, List.set_cons_succ]
    refine wpAnyL_take (i := 5) 65 (v := .pointer (some ⟨q, 0, none⟩)) rfl rfl (by kernel_rfl) (by kernel_rfl) (by kernel_rfl) (by kernel_rfl) (by kernel_rfl) (by kernel_rfl) (fun _ _ _ h => h) hS (by rfl) (by intro w' hSw; obtain ⟨y0, y1⟩ := hSw; go_simp <;> with_reducible rfl) ?_
    simp only [Act.put, List.setIfInBounds_toArray, List.set_cons_zero, List.set_cons_succ]
    refine wpAnyL_take (i := 6) 66 (v := .pointer (some ⟨q, 0, none⟩)) rfl rfl (by kernel_rfl) (by kernel_rfl) (by kernel_rfl) (by kernel_rfl) (by kernel_rfl) (by kernel_rfl) (fun _ _ _ h => h) hS (by rfl) (by intro w' hSw; obtain ⟨y0, y1⟩ := hSw; go_simp <;> with_reducible rfl) ?_
    simp only [Act.put, List.setIfInBounds_toArray, List.set_cons_zero, List.set_cons_succ]
    refine wpAnyL_take (i := 7) 67 (v := .pointer (some ⟨q, 2, none⟩)) rfl rfl (by kernel_rfl) (by kernel_rfl) (by kernel_rfl) (by kernel_rfl) (by kernel_rfl) (by kernel_rfl) (fun _ _ _ h => h) hS (by rfl) (by intro w' hSw; obtain ⟨y0, y1⟩ := hSw; go_simp <;> with_reducible rfl) ?_
    simp only [Act.put, List.setIfInBounds_toArray, List.set_cons_zero, List.set_cons_succ]
    refine wpAnyL_take (i := 8) 68 (v := .slice none 0 0) rfl rfl (by kernel_rfl) (by kernel_rfl) (by kernel_rfl) (by kernel_rfl) (by kernel_rfl) (by kernel_rfl) (fun _ _ _ h => h) hS (by rfl) (by intro w' hSw; obtain ⟨y0, y1⟩ := hSw; go_simp <;> with_reducible rfl) ?_
    simp only [Act.put, List.setIfInBounds_toArray, List.set_cons_zero, List.set_cons_succ]
    refine wpAnyL_one (i := 9) (by kernel_rfl) rfl (fun Ka hKa => ?_)
    go_simp
    refine (HA.out _ (HB3.out.trans (HBd.out.mono HB3.out.size))).mono ?_
    rintro r w5 ⟨rfl, hD, hF⟩
    have HD5 : Hid (DkAt Xm w5 B p A4) := hD
    have HF5 : Hid (FrD Xm B Wd w5) := hF
    refine hKa.out _ _ (fun h => absurd h (Bool.eq_false_iff.1 (by kernel_rfl))) ?_
    clear hKa Ka hD hF hS
    try simp only [Act.put, List.setIfInBounds_toArray, List.set_cons_zero, List.set_cons_succ]
    refine wpAnyL_one (i := 10) (by kernel_rfl) rfl (fun Ka hKa => ?_)
    go_simp
    refine hKa.out _ _ (fun h => absurd h (Bool.eq_false_iff.1 (by kernel_rfl))) ?_
    clear hKa Ka
    try simp only [Act.put, List.setIfInBounds_toArray, List.set_cons_zero, List.set_cons_succ]
    refine wpAnyL_done (by kernel_rfl) ?_ _
    go_wp2
    go_ret3
    exact ⟨q, rfl, HQ.out, (HL.out.new HBd.out).frD HF5.out, HD5.out, (FrD.new (HB3.out.trans (HBd.out.mono HB3.out.size))).trans HF5.out⟩
  · go_enter Tryz.func50, Tryz.ntmps50
    go_upto_region 12 with (first
      | (go_at_call 80; refine hR.mono ?_; rintro r w1 ⟨rfl, hb⟩; have HB1 : Hid (Below w.heap.size w w1) := hb; clear hb)
      | (go_at_call 81; refine (HU.out _).mono ?_; rintro r w2 ⟨ao, c, rfl, hb⟩; have HB2 : Hid (Below w.heap.size w w2) := HB1.out.trans (hb.mono HB1.out.size); clear hb))
    generalize hW : World.alloc _ _ = W
    have HL : Hid (Lg W B w2.heap.size p [] (.slice none 0 0) []) := by
      show Lg _ _ _ _ _ _ _
      rw [← hW]
      exact lg_made w2 p B (Nat.le_trans HB0.out HB2.out.size)
    have HB3 : Hid (Below w.heap.size w W) := by
      show Below _ _ _
      rw [← hW]
      exact HB2.out.trans ((one_newD _ _).mono HB2.out.size)
    clear hW
    have HQ : Hid (w.heap.size ≤ w2.heap.size) := HB2.out.size
    generalize w2.heap.size = q at HL HQ ⊢
    have bd : Below W.heap.size W W.drew := Below.drew (Below.refl _ _)
    obtain ⟨Wd, hWd⟩ : ∃ Wd, W.drew = Wd := ⟨_, rfl⟩
    rw [hWd] at bd
    have HBd : Hid (Below W.heap.size W Wd) := bd
    have hS : (fun w' : World => w'.cell? ⟨q, 1, none⟩ = some (.string (str [])) ∧ w'.cell? ⟨q, 2, none⟩ = some (.slice none 0 0)) Wd := ⟨(HL.out.new bd).cells.2.1, (HL.out.new bd).cells.2.2⟩
    clear bd
    refine wp_calmD ?_
    refine wp_region_L [9] (fun w' : World => w'.cell? ⟨q, 1, none⟩ = some (.string (str [])) ∧ w'.cell? ⟨q, 2, none⟩ = some (.slice none 0 0)) (by kernel_rfl) ?_
    rw [hWd]
    clear hWd
    refine wpAnyL_take (i := 0) 60 (v := .pointer (some ⟨p, 0, none⟩)) rfl rfl (by kernel_rfl) (by kernel_rfl) (by kernel_rfl) (by kernel_rfl) (by kernel_rfl) (by kernel_rfl) (fun _ _ _ h => h) hS (by rfl) (by intro w' hSw; obtain ⟨y0, y1⟩ := hSw; go_simp <;> with_reducible rfl) ?_
    simp only [Act.put, List.setIfInBounds_toArray, List.set_cons_zero, List.set_cons_succ]
    refine wpAnyL_take (i := 1) 61 (v := .pointer (some ⟨q, 0, none⟩)) rfl rfl (by kernel_rfl) (by kernel_rfl) (by kernel_rfl) (by kernel_rfl) (by kernel_rfl) (by kernel_rfl) (fun _ _ _ h => h) hS (by rfl) (by intro w' hSw; obtain ⟨y0, y1⟩ := hSw; go_simp <;> with_reducible rfl) ?_
    simp only [Act.put, List.setIfInBounds_toArray, List.set_cons_zero, List.set_cons_succ]
    refine wpAnyL_take (i := 2) 62 (v := .pointer (some ⟨q, 0, none⟩)) rfl rfl (by kernel_rfl) (by kernel_rfl) (by kernel_rfl) (by kernel_rfl) (by kernel_rfl) (by kernel_rfl) (fun _ _ _ h => h) hS (by rfl) (by intro w' hSw; obtain ⟨y0, y1⟩ := hSw; go_simp <;> with_reducible rfl) ?_
    simp only [Act.put, List.setIfInBounds_toArray, List.set_cons_zero, List.set_cons_succ]
    refine wpAnyL_take (i := 3) 63 (v := .pointer (some ⟨q, 1, none⟩)) rfl rfl (by kernel_rfl) (by kernel_rfl) (by kernel_rfl) (by kernel_rfl) (by kernel_rfl) (by kernel_rfl) (fun _ _ _ h => h) hS (by rfl) (by intro w' hSw; obtain ⟨y0, y1⟩ := hSw; go_simp <;> with_reducible rfl) ?_
    simp only [Act.put, List.setIfInBounds_toArray, List.set_cons_zero, List.set_cons_succ]
    refine wpAnyL_take (i := 4) 64 (v := .string (str [])) rfl rfl (by kernel_rfl) (by kernel_rfl) (by kernel_rfl) (by kernel_rfl) (by kernel_rfl) (by kernel_rfl) (fun _ _ _ h => h) hS (by rfl) (by intro w' hSw; obtain ⟨y0, y1⟩ := hSw; go_simp <;> with_reducible rfl) ?_
    simp only [Act.put, List.setIfInBounds_toArray, List.set_cons_zero, List.set_cons_succ]
    refine wpAnyL_take (i := 5) 65 (v := .pointer (some ⟨q, 0, none⟩)) rfl rfl (by kernel_rfl) (by kernel_rfl) (by kernel_rfl) (by kernel_rfl) (by kernel_rfl) (by kernel_rfl) (fun _ _ _ h => h) hS (by rfl) (by intro w' hSw; obtain ⟨y0, y1⟩ := hSw; go_simp <;> with_reducible rfl) ?_
    simp only [Act.put, List.setIfInBounds_toArray, List.set_cons_zero, List.set_cons_succ]
    refine wpAnyL_take (i := 6) 66 (v := .pointer (some ⟨q, 0, none⟩)) rfl rfl (by kernel_rfl) (by kernel_rfl) (by kernel_rfl) (by kernel_rfl) (by kernel_rfl) (by kernel_rfl) (fun _ _ _ h => h) hS (by rfl) (by intro w' hSw; obtain ⟨y0, y1⟩ := hSw; go_simp <;> with_reducible rfl) ?_
    simp only [Act.put, List.setIfInBounds_toArray, List.set_cons_zero, List.set_cons_succ]
    refine wpAnyL_take (i := 7) 67 (v := .pointer (some ⟨q, 2, none⟩)) rfl rfl (by kernel_rfl) (by kernel_rfl) (by kernel_rfl) (by kernel_rfl) (by kernel_rfl) (by kernel_rfl) (fun _ _ _ h => h) hS (by rfl) (by intro w' hSw; obtain ⟨y0, y1⟩ := hSw; go_simp <;> with_reducible rfl) ?_
    simp only [Act.put, List.setIfInBounds_toArray, List.set_cons_zero, List.set_cons_succ]
    refine wpAnyL_take (i := 8) 68 (v := .slice none 0 0) rfl rfl (by kernel_rfl) (by kernel_rfl) (by kernel_rfl) (by kernel_rfl) (by kernel_rfl) (by kernel_rfl) (fun _ _ _ h => h) hS (by rfl) (by intro w' hSw; obtain ⟨y0, y1⟩ := hSw; go_simp <;> with_reducible rfl) ?_
    simp only [Act.put, List.setIfInBounds_toArray, List.set_cons_zero, List.set_cons_succ]
    refine wpAnyL_one (i := 9) (by kernel_rfl) rfl (fun Ka hKa => ?_)
    go_simp
    refine (HA.out _ (HB3.out.trans (HBd.out.mono HB3.out.size))).mono ?_
    rintro r w5 ⟨rfl, hD, hF⟩
    have HD5 : Hid (DkAt Xm w5 B p A4) := hD
    have HF5 : Hid (FrD Xm B Wd w5) := hF
    refine hKa.out _ _ (fun h => absurd h (Bool.eq_false_iff.1 (by kernel_rfl))) ?_
    clear hKa Ka hD hF hS
    try simp only [Act.put, List.setIfInBounds_toArray, List.set_cons_zero, List.set_cons_succ]
    refine wpAnyL_one (i := 10) (by kernel_rfl) rfl (fun Ka hKa => ?_)
    go_simp
    refine hKa.out _ _ (fun h => absurd h (Bool.eq_false_iff.1 (by kernel_rfl))) ?_
    clear hKa Ka
    try simp only [Act.put, List.setIfInBounds_toArray, List.set_cons_zero, List.set_cons_succ]
    refine wpAnyL_done (by kernel_rfl) ?_ _
    go_wp2
    go_ret3
    exact ⟨q, rfl, HQ.out, (HL.out.new HBd.out).frD HF5.out, HD5.out, (FrD.new (HB3.out.trans (HBd.out.mono HB3.out.size))).trans HF5.out⟩
set_option maxRecDepth 100000 in
set_option maxHeartbeats 1600000 in
theorem open_some {s : Bs} {R : List Bs} (h : DkAt Xm w B p A) (hB : B ≤ w.heap.size) (hc : Cl A M k) (hM : M ≤ 2305843009213693952) (hk : k ≤ 90000) (hl : getF log_ A.sure = some l) {e : Nat} (hU : unfV l = (s :: R, e)) (hR1 : R.length ≤ 900000) (hR2 : ¬ e = l.length → (frs R).length ≤ 1000000 ∧ s.length + 10 ≤ 140737488355328) : Calls Tryz.prog 50 #[.pointer (some ⟨p, 0, none⟩)] w fun r w' => ∃ q rv, r = .returned (.tuple #[.pointer (some ⟨q, 0, none⟩), .int .i64 ((l.length : Int) - e), .int .i64 0]) ∧ w.heap.size ≤ q ∧ Lg w' B q p s rv R ∧ (∀ k, rv.ownBlock = some k → w.heap.size ≤ k) ∧ DkAt Xm w' B p (if e = l.length then A else A.anew (frs (s :: R))) ∧ FrD Xm B w w' := by
  have hof : ofF log_ A.sure = l := by unfold ofF; rw [hl]; rfl
  have hlM : l.length ≤ M := by rw [← hof]; exact hc.fit.of _
  have hR : Calls Tryz.prog 80 #[.pointer (some ⟨p, 0, none⟩), .string (str log_)] w fun r w' => r = .returned (.tuple #[.string (str l), .int .i64 0]) ∧ Below w.heap.size w w' := by
    obtain ⟨mn, ms, lv, h⟩ := h
    have := read_ok h hc.dead (nm := log_) (er := 0) (by decide) (by rw [hc.now, hl]; rfl)
    rw [hc.now, hof] at this
    exact this
  have hI := unfV_is l
  rw [hU] at hI
  have hfr : (frs (s :: R)).length ≤ M := by
    have h1 := congrArg List.length hI.2
    rw [List.length_take] at h1
    simp only at h1
    omega
  have HU : Hid (∀ W, Calls Tryz.prog 81 #[.string (str l)] W fun r w' => ∃ g off c, r = .returned (.tuple #[.slice (some ⟨g, off, none⟩) (R.length + 1) c, .int .i64 e]) ∧ TxO w' W.heap.size (.slice (some ⟨g, off, none⟩) (R.length + 1) c) (s :: R) ∧ Below W.heap.size W w') := fun W => by
    refine (unframeAll_any W (by omega) (by rw [hU]; simp; omega)).mono ?_
    rintro r w' ⟨v, rfl, hv, hb⟩
    rw [hU] at hv ⊢
    rcases hv with ⟨_, h0⟩ | ⟨g, off, cap, rfl, hv⟩
    · cases h0
    · exact ⟨g, off, cap, rfl, .inr ⟨g, off, cap, rfl, hv⟩, hb⟩
  have HA : Hid (¬ e = l.length → ∀ W v, Below w.heap.size w W → TxS W v R → Calls Tryz.prog 82 #[.pointer (some ⟨p, 0, none⟩), .string (str s), v] W fun r w' => r = .returned (.int .i64 0) ∧ DkAt Xm w' B p (A.anew (frs (s :: R))) ∧ FrD Xm B W w') := fun he W v hW hv => makeAnew_any (h.new hW) (Nat.le_trans hB hW.size) hc hM hk hv (hR2 he).1 (hR2 he).2 hfr
  have HB0 : Hid (B ≤ w.heap.size) := hB
  have HD0 : Hid (DkAt Xm w B p A) := h
  have hl2 : (str l).size ≤ 2305843009213693952 := by rw [str_size]; omega
  have hel : e ≤ (str l).size := hI.1
  clear h hB hc hM hk hl hU hlM hof hI hfr hR2
  generalize A.anew (frs (s :: R)) = A4 at HA ⊢
  have HLn : Hid (l.length = (str l).size) := rfl
  go_enter Tryz.func50, Tryz.ntmps50
  go_upto_region 9 with (first
    | (go_at_call 80; refine hR.mono ?_; rintro r w1 ⟨rfl, hb⟩; have HB1 : Hid (Below w.heap.size w w1) := hb; clear hb)
    | (go_at_call 81; refine (HU.out _).mono ?_; rintro r w2 ⟨g, off, c, rfl, ho, hb⟩; have HB2 : Hid (Below w.heap.size w w2) := HB1.out.trans (hb.mono HB1.out.size); have HT2 : Hid (TxO w2 w.heap.size (.slice (some ⟨g, off, none⟩) (R.length + 1) c) (s :: R)) := ho.low HB1.out.size; clear ho hb))
  generalize hW : World.alloc _ _ = W
  have HL : Hid (Lg W B w2.heap.size p [] (.slice none 0 0) []) := by
    show Lg _ _ _ _ _ _ _
    rw [← hW]
    exact lg_made w2 p B (Nat.le_trans HB0.out HB2.out.size)
  have HB3 : Hid (Below w.heap.size w W) := by
    show Below _ _ _
    rw [← hW]
    exact HB2.out.trans ((one_newD _ _).mono HB2.out.size)
  obtain ⟨hc1, x0, hgl, hgD, hrow⟩ := row_tail HT2.out
  have hb9 : Below w2.heap.size w2 W := by rw [← hW]; exact one_newD _ _
  have x0 := (hb9.cell (p := ⟨g, off, none⟩) (lt_cellD x0)).trans x0
  have HRow : Hid (∀ V : World, Fr W V (fun k => k = w2.heap.size) → TxO V w.heap.size (.slice (if c = 1 then some ⟨g, off, none⟩ else some ⟨g, off + 1, none⟩) R.length (c - 1)) R) := fun V hV => hrow V ((hV.block g (Nat.lt_of_lt_of_le hgl hb9.size) (by omega)).trans (hb9.block g hgl))
  have HQ : Hid (w.heap.size ≤ w2.heap.size) := HB2.out.size
  have hgq : g ≠ w2.heap.size := by omega
  clear hW hrow hgl hgD hb9 HT2 HB2
  generalize w2.heap.size = q at HL HQ HRow hgq ⊢
  obtain ⟨ro, hro⟩ : ∃ ro, (if c = 1 then some ⟨g, off, none⟩ else some ⟨g, off + 1, none⟩ : Option Addr) = ro := ⟨_, rfl⟩
  rw [hro] at HRow
  have bd : Below W.heap.size W W.drew := Below.drew (Below.refl _ _)
  obtain ⟨Wd, hWd⟩ : ∃ Wd, W.drew = Wd := ⟨_, rfl⟩
  rw [hWd] at bd
  have hS : (fun w' : World => w'.cell? ⟨g, off, none⟩ = some (.string (str s))) Wd := (bd.cell (p := ⟨g, off, none⟩) (lt_cellD x0)).trans x0
  have HLd : Hid (Lg Wd B q p [] (.slice none 0 0) []) := HL.out.new bd
  have HB4 : Hid (Below w.heap.size w Wd) := HB3.out.trans (bd.mono HB3.out.size)
  have HRow2 : Hid (∀ V : World, Fr Wd V (fun k => k = q) → TxO V w.heap.size (.slice ro R.length (c - 1)) R) := fun V hV => HRow.out V ((Fr.ofBelow bd (fun k => k = q)).trans hV (fun _ _ h => h))
  obtain ⟨d0, d1, d2⟩ := HLd.out.cells
  have f1 := HLd.out.free 1
  have f2 := HLd.out.free 2
  clear bd x0 HRow HL HB3
  have hL1 : ¬ ((R.length : Int) + 1 < 1) := by omega
  refine wp_calmD ?_
  refine wp_region_L [] (fun w' : World => w'.cell? ⟨g, off, none⟩ = some (.string (str s))) (by kernel_rfl) ?_
  rw [hWd]
  clear hWd
  refine wpAnyL_take (i := 0) 41 (v := .pointer (some ⟨q, 0, none⟩)) rfl rfl (by kernel_rfl) (by kernel_rfl) (by kernel_rfl) (by kernel_rfl) (by kernel_rfl) (by kernel_rfl) (fun _ _ _ h => h) hS (by rfl) (by intro w' hSw; have y0 : w'.cell? ⟨g, off, none⟩ = some (.string (str s)) := hSw; clear hSw; go_simp <;> with_reducible rfl) ?_
  simp only [Act.put, List.setIfInBounds_toArray, List.set_cons_zero, List.set_cons_succ]
  refine wpAnyL_take (i := 1) 42 (v := .pointer (some ⟨q, 0, none⟩)) rfl rfl (by kernel_rfl) (by kernel_rfl) (by kernel_rfl) (by kernel_rfl) (by kernel_rfl) (by kernel_rfl) (fun _ _ _ h => h) hS (by rfl) (by intro w' hSw; have y0 : w'.cell? ⟨g, off, none⟩ = some (.string (str s)) := hSw; clear hSw; go_simp <;> with_reducible rfl) ?_
  simp only [Act.put, List.setIfInBounds_toArray, List.set_cons_zero, List.set_cons_succ]
  refine wpAnyL_take (i := 2) 43 (v := .slice (some ⟨g, off, none⟩) (R.length + 1) c) rfl rfl (by kernel_rfl) (by kernel_rfl) (by kernel_rfl) (by kernel_rfl) (by kernel_rfl) (by kernel_rfl) (fun _ _ _ h => h) hS (by rfl) (by intro w' hSw; have y0 : w'.cell? ⟨g, off, none⟩ = some (.string (str s)) := hSw; clear hSw; go_simp <;> with_reducible rfl) ?_
  simp only [Act.put, List.setIfInBounds_toArray, List.set_cons_zero, List.set_cons_succ]
  refine wpAnyL_take (i := 3) 44 (v := .pointer (some ⟨g, off, none⟩)) rfl rfl (by kernel_rfl) (by kernel_rfl) (by kernel_rfl) (by kernel_rfl) (by kernel_rfl) (by kernel_rfl) (fun _ _ _ h => h) hS (by rfl) (by intro w' hSw; have y0 : w'.cell? ⟨g, off, none⟩ = some (.string (str s)) := hSw; clear hSw; go_simp <;> with_reducible rfl) ?_
  simp only [Act.put, List.setIfInBounds_toArray, List.set_cons_zero, List.set_cons_succ]
  refine wpAnyL_take (i := 4) 45 (v := .string (str s)) rfl rfl (by kernel_rfl) (by kernel_rfl) (by kernel_rfl) (by kernel_rfl) (by kernel_rfl) (by kernel_rfl) (fun _ _ _ h => h) hS (by rfl) (by intro w' hSw; have y0 : w'.cell? ⟨g, off, none⟩ = some (.string (str s)) := hSw; clear hSw; go_simp <;> with_reducible rfl) ?_
  simp only [Act.put, List.setIfInBounds_toArray, List.set_cons_zero, List.set_cons_succ]
  refine wpAnyL_take (i := 5) 46 (v := .slice (some ⟨g, off, none⟩) (R.length + 1) c) rfl rfl (by kernel_rfl) (by kernel_rfl) (by kernel_rfl) (by kernel_rfl) (by kernel_rfl) (by kernel_rfl) (fun _ _ _ h => h) hS (by rfl) (by intro w' hSw; have y0 : w'.cell? ⟨g, off, none⟩ = some (.string (str s)) := hSw; clear hSw; go_simp <;> with_reducible rfl) ?_
  simp only [Act.put, List.setIfInBounds_toArray, List.set_cons_zero, List.set_cons_succ]
  refine wpAnyL_take (i := 6) 47 (v := .slice ro R.length (c - 1)) rfl rfl (by kernel_rfl) (by kernel_rfl) (by kernel_rfl) (by kernel_rfl) (by kernel_rfl) (by kernel_rfl) (fun _ _ _ h => h) hS (by rfl) (by intro w' hSw; have y0 : w'.cell? ⟨g, off, none⟩ = some (.string (str s)) := hSw; clear hSw; rw [← hro]; go_simp <;> with_reducible rfl) ?_
  simp only [Act.put, List.setIfInBounds_toArray, List.set_cons_zero, List.set_cons_succ]
  refine wpAnyL_take (i := 7) 48 (v := .pointer (some ⟨q, 0, none⟩)) rfl rfl (by kernel_rfl) (by kernel_rfl) (by kernel_rfl) (by kernel_rfl) (by kernel_rfl) (by kernel_rfl) (fun _ _ _ h => h) hS (by rfl) (by intro w' hSw; have y0 : w'.cell? ⟨g, off, none⟩ = some (.string (str s)) := hSw; clear hSw; go_simp <;> with_reducible rfl) ?_
  simp only [Act.put, List.setIfInBounds_toArray, List.set_cons_zero, List.set_cons_succ]
  refine wpAnyL_take (i := 8) 49 (v := .pointer (some ⟨q, 1, none⟩)) rfl rfl (by kernel_rfl) (by kernel_rfl) (by kernel_rfl) (by kernel_rfl) (by kernel_rfl) (by kernel_rfl) (fun _ _ _ h => h) hS (by rfl) (by intro w' hSw; have y0 : w'.cell? ⟨g, off, none⟩ = some (.string (str s)) := hSw; clear hSw; go_simp <;> with_reducible rfl) ?_
  simp only [Act.put, List.setIfInBounds_toArray, List.set_cons_zero, List.set_cons_succ]
  refine wpAnyL_one (i := 9) (by kernel_rfl) rfl (fun Ka hKa => ?_)
  go_simp
  have hS1 : (fun w' : World => w'.cell? ⟨g, off, none⟩ = some (.string (str s))) (Wd.setCell ⟨q, 1, none⟩ (.string (str s))) := fr_cellD (Fr.setCell (S := fun k => k = q) Wd ⟨q, 1, none⟩ _ rfl) hgq hS
  have d2' : (Wd.setCell ⟨q, 1, none⟩ (.string (str s))).cell? ⟨q, 2, none⟩ = some (.slice none 0 0) := cell_blk (i := 2) (blk_set (i := 1) (.string (str s)) HLd.out.blk)
  have f2' : (Wd.setCell ⟨q, 1, none⟩ (.string (str s))).frozen? ⟨q, 2, none⟩ = false := by simp [World.frozen?, blk_set (i := 1) (.string (str s)) HLd.out.blk]
  refine hKa.out _ _ (fun _ => hS1) ?_
  clear hKa Ka hS d0 d1 d2 f1 f2
  obtain ⟨W1, hW1⟩ : ∃ W1, Wd.setCell ⟨q, 1, none⟩ (.string (str s)) = W1 := ⟨_, rfl⟩
  rw [hW1] at hS1 d2' f2' ⊢
  try simp only [Act.put, List.setIfInBounds_toArray, List.set_cons_zero, List.set_cons_succ]
  refine wpAnyL_take (i := 10) 50 (v := .pointer (some ⟨q, 0, none⟩)) rfl rfl (by kernel_rfl) (by kernel_rfl) (by kernel_rfl) (by kernel_rfl) (by kernel_rfl) (by kernel_rfl) (fun _ _ _ h => h) hS1 (by rfl) (by intro w' hSw; have y0 : w'.cell? ⟨g, off, none⟩ = some (.string (str s)) := hSw; clear hSw; go_simp <;> with_reducible rfl) ?_
  simp only [Act.put, List.setIfInBounds_toArray, List.set_cons_zero, List.set_cons_succ]
  refine wpAnyL_take (i := 11) 51 (v := .pointer (some ⟨q, 2, none⟩)) rfl rfl (by kernel_rfl) (by kernel_rfl) (by kernel_rfl) (by kernel_rfl) (by kernel_rfl) (by kernel_rfl) (fun _ _ _ h => h) hS1 (by rfl) (by intro w' hSw; have y0 : w'.cell? ⟨g, off, none⟩ = some (.string (str s)) := hSw; clear hSw; go_simp <;> with_reducible rfl) ?_
  simp only [Act.put, List.setIfInBounds_toArray, List.set_cons_zero, List.set_cons_succ]
  refine wpAnyL_one (i := 12) (by kernel_rfl) rfl (fun Ka hKa => ?_)
  go_simp
  have hS2 : (fun w' : World => w'.cell? ⟨g, off, none⟩ = some (.string (str s))) (W1.setCell ⟨q, 2, none⟩ (.slice ro R.length (c - 1))) := fr_cellD (Fr.setCell (S := fun k => k = q) W1 ⟨q, 2, none⟩ _ rfl) hgq hS1
  refine hKa.out _ _ (fun _ => hS2) ?_
  clear hKa Ka hS1 hS2 d2' f2'
  try simp only [Act.put, List.setIfInBounds_toArray, List.set_cons_zero, List.set_cons_succ]
  refine wpAnyL_done (by kernel_rfl) ?_ _
  obtain ⟨hL2, hF2⟩ := lg_filled (s := s) HLd.out HB0.out HRow2.out
  rw [hW1] at hL2 hF2
  have HKr : Hid (∀ k, (Value.slice ro R.length (c - 1)).ownBlock = some k → w.heap.size ≤ k) := fun k hk => ((HRow2.out Wd (Fr.refl _ _)).tag hk).1
  have HS9 : Hid (∀ V, Below w.heap.size w V → V.heap[g]? = Wd.heap[g]? → True) := fun _ _ _ => trivial
  obtain ⟨W, hW⟩ : ∃ W, W1.setCell ⟨q, 2, none⟩ (.slice ro R.length (c - 1)) = W := ⟨_, rfl⟩
  rw [hW] at hL2 hF2 ⊢
  have HL : Hid (Lg W B q p s (.slice ro R.length (c - 1)) R) := hL2
  have HB3 : Hid (Below w.heap.size w W) := HB4.out.trans (hF2.below HB4.out.size (fun k hk => by have := HQ.out; omega))
  clear hL2 hF2 hW hW1 HRow2 hro hgq hc1 hL1 HS9 W1
  by_cases he : e = l.length
  · have hz : ((str l).size : Int) - (e : Int) = 0 := by rw [he, ← str_size]; omega
    rw [hz]
    have HE : Hid (e = l.length) := he
    clear he hz
    go_wp2
    go_ret3
    exact ⟨q, by simp, HQ.out, _, HL.out, HKr.out, HD0.out.new HB3.out, FrD.new HB3.out⟩
  · have hz : ¬ ((str l).size : Int) - (e : Int) = 0 := by
      have := HLn.out
      omega
    have HNe : Hid (¬ e = l.length) := he
    have HA0 := HA.out he
    clear HA
    have HA : Hid (∀ V, Below w.heap.size w V → TxS V (.slice ro R.length (c - 1)) R → Calls Tryz.prog 82 #[.pointer (some ⟨p, 0, none⟩), .string (str s), .slice ro R.length (c - 1)] V fun r w' => r = .returned (.int .i64 0) ∧ DkAt Xm w' B p A4 ∧ FrD Xm B V w') := fun V h1 h2 => HA0 V _ h1 h2
    clear HA0 he
    generalize hT : ((str l).size : Int) - (e : Int) = tn at hz ⊢
    have HTn : Hid (((str l).size : Int) - (e : Int) = tn) := hT
    clear hT
    go_upto_region 12 with (fail)
    have bd : Below W.heap.size W W.drew := Below.drew (Below.refl _ _)
    obtain ⟨Wd, hWd⟩ : ∃ Wd, W.drew = Wd := ⟨_, rfl⟩
    rw [hWd] at bd
    have HBd : Hid (Below W.heap.size W Wd) := bd
    have hS : (fun w' : World => w'.cell? ⟨q, 1, none⟩ = some (.string (str s)) ∧ w'.cell? ⟨q, 2, none⟩ = some (.slice ro R.length (c - 1))) Wd := ⟨(HL.out.new bd).cells.2.1, (HL.out.new bd).cells.2.2⟩
    clear bd
    refine wp_calmD ?_
    refine wp_region_L [9] (fun w' : World => w'.cell? ⟨q, 1, none⟩ = some (.string (str s)) ∧ w'.cell? ⟨q, 2, none⟩ = some (.slice ro R.length (c - 1))) (by kernel_rfl) ?_
    rw [hWd]
    clear hWd
    refine wpAnyL_take (i := 0) 60 (v := .pointer (some ⟨p, 0, none⟩)) rfl rfl (by kernel_rfl) (by kernel_rfl) (by kernel_rfl) (by kernel_rfl) (by kernel_rfl) (by kernel_rfl) (fun _ _ _ h => h) hS (by rfl) (by intro w' hSw; obtain ⟨y0, y1⟩ := hSw; go_simp <;> with_reducible rfl) ?_
    simp only [Act.put, List.setIfInBounds_toArray, List.set_cons_zero, List.set_cons_succ]
    refine wpAnyL_take (i := 1) 61 (v := .pointer (some ⟨q, 0, none⟩)) rfl rfl (by kernel_rfl) (by kernel_rfl) (by kernel_rfl) (by kernel_rfl) (by kernel_rfl) (by kernel_rfl) (fun _ _ _ h => h) hS (by rfl) (by intro w' hSw; obtain ⟨y0, y1⟩ := hSw; go_simp <;> with_reducible rfl) ?_
    simp only [Act.put, List.setIfInBounds_toArray, List.set_cons_zero, List.set_cons_succ]
    refine wpAnyL_take (i := 2) 62 (v := .pointer (some ⟨q, 0, none⟩)) rfl rfl (by kernel_rfl) (by kernel_rfl) (by kernel_rfl) (by kernel_rfl) (by kernel_rfl) (by kernel_rfl) (fun _ _ _ h => h) hS (by rfl) (by intro w' hSw; obtain ⟨y0, y1⟩ := hSw; go_simp <;> with_reducible rfl) ?_
    simp only [Act.put, List.setIfInBounds_toArray, List.set_cons_zero, List.set_cons_succ]
    refine wpAnyL_take (i := 3) 63 (v := .pointer (some ⟨q, 1, none⟩)) rfl rfl (by kernel_rfl) (by kernel_rfl) (by kernel_rfl) (by kernel_rfl) (by kernel_rfl) (by kernel_rfl) (fun _ _ _ h => h) hS (by rfl) (by intro w' hSw; obtain ⟨y0, y1⟩ := hSw; go_simp <;> with_reducible rfl) ?_
    simp only [Act.put, List.setIfInBounds_toArray, List.set_cons_zero, List.set_cons_succ]
    refine wpAnyL_take (i := 4) 64 (v := .string (str s)) rfl rfl (by kernel_rfl) (by kernel_rfl) (by kernel_rfl) (by kernel_rfl) (by kernel_rfl) (by kernel_rfl) (fun _ _ _ h => h) hS (by rfl) (by intro w' hSw; obtain ⟨y0, y1⟩ := hSw; go_simp <;> with_reducible rfl) ?_
    simp only [Act.put, List.setIfInBounds_toArray, List.set_cons_zero, List.set_cons_succ]
    refine wpAnyL_take (i := 5) 65 (v := .pointer (some ⟨q, 0, none⟩)) rfl rfl (by kernel_rfl) (by kernel_rfl) (by kernel_rfl) (by kernel_rfl) (by kernel_rfl) (by kernel_rfl) (fun _ _ _ h => h) hS (by rfl) (by intro w' hSw; obtain ⟨y0, y1⟩ := hSw; go_simp <;> with_reducible rfl) ?_
    simp only [Act.put, List.setIfInBounds_toArray, List.set_cons_zero, List.set_cons_succ]
    refine wpAnyL_take (i := 6) 66 (v := .pointer (some ⟨q, 0, none⟩)) rfl rfl (by kernel_rfl) (by kernel_rfl) (by kernel_rfl) (by kernel_rfl) (by kernel_rfl) (by kernel_rfl) (fun _ _ _ h => h) hS (by rfl) (by intro w' hSw; obtain ⟨y0, y1⟩ := hSw; go_simp <;> with_reducible rfl) ?_
    simp only [Act.put, List.setIfInBounds_toArray, List.set_cons_zero, List.set_cons_succ]
    refine wpAnyL_take (i := 7) 67 (v := .pointer (some ⟨q, 2, none⟩)) rfl rfl (by kernel_rfl) (by kernel_rfl) (by kernel_rfl) (by kernel_rfl) (by kernel_rfl) (by kernel_rfl) (fun _ _ _ h => h) hS (by rfl) (by intro w' hSw; obtain ⟨y0, y1⟩ := hSw; go_simp <;> with_reducible rfl) ?_
    simp only [Act.put, List.setIfInBounds_toArray, List.set_cons_zero, List.set_cons_succ]
    refine wpAnyL_take (i := 8) 68 (v := .slice ro R.length (c - 1)) rfl rfl (by kernel_rfl) (by kernel_rfl) (by kernel_rfl) (by kernel_rfl) (by kernel_rfl) (by kernel_rfl) (fun _ _ _ h => h) hS (by rfl) (by intro w' hSw; obtain ⟨y0, y1⟩ := hSw; go_simp <;> with_reducible rfl) ?_
    simp only [Act.put, List.setIfInBounds_toArray, List.set_cons_zero, List.set_cons_succ]
    refine wpAnyL_one (i := 9) (by kernel_rfl) rfl (fun Ka hKa => ?_)
    go_simp
    refine (HA.out _ (HB3.out.trans (HBd.out.mono HB3.out.size)) (HL.out.new HBd.out).row.toS).mono ?_
    rintro r w5 ⟨rfl, hD, hF⟩
    have HD5 : Hid (DkAt Xm w5 B p A4) := hD
    have HF5 : Hid (FrD Xm B Wd w5) := hF
    refine hKa.out _ _ (fun h => absurd h (Bool.eq_false_iff.1 (by kernel_rfl))) ?_
    clear hKa Ka hD hF hS
    try simp only [Act.put, List.setIfInBounds_toArray, List.set_cons_zero, List.set_cons_succ]
    refine wpAnyL_one (i := 10) (by kernel_rfl) rfl (fun Ka hKa => ?_)
    go_simp
    refine hKa.out _ _ (fun h => absurd h (Bool.eq_false_iff.1 (by kernel_rfl))) ?_
    clear hKa Ka
    try simp only [Act.put, List.setIfInBounds_toArray, List.set_cons_zero, List.set_cons_succ]
    refine wpAnyL_done (by kernel_rfl) ?_ _
    go_wp2
    go_ret3
    refine ⟨q, ?_, HQ.out, _, (HL.out.new HBd.out).frD HF5.out, HKr.out, HD5.out, (FrD.new (HB3.out.trans (HBd.out.mono HB3.out.size))).trans HF5.out⟩
    rw [HLn.out, HTn.out]
    rfl
end
end Go.Proofs.YtnhjflebaeokeaaGreat
end
