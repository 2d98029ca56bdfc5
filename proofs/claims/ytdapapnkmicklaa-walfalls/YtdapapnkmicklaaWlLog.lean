/- A log in memory: what it holds; Snap, Len, All, Add, Reset. -/
import Derived.Test.YtdapapnkmicklaaWlD
namespace Go.Proofs.Ytdapapnkmicklaa
open Go.RowKit Go.Maps
attribute [local go_sem] Oper.semAt_some
/-- A log in memory, over the disk at p. -/
structure Lg (w : World) (B q p : Nat) (snap : Bs) (rv : Value) (R : List Bs) : Prop where
  blk : w.heap[q]? = some (.cells #[.pointer (some ⟨p, 0, none⟩), .string (str snap), rv] 89 (0, 0))
  row : TxO w B rv R
  hq : B ≤ q
theorem blk_frD2 {w w' : World} {B q : Nat} {cs : Array Value} {t : TypeId} (h : w.heap[q]? = some (.cells cs t (0, 0))) (f : FrD B w w') (h1 : t ≠ 69) (h2 : t ≠ 104) : w'.heap[q]? = some (.cells cs t (0, 0)) := by
  refine (f.block q (lt_blk h) (fun s => ?_)).trans h
  rcases s.2 with ⟨es, c', hm⟩ | ⟨c', t', f', hm, ht⟩
  · rw [h] at hm; cases hm
  · rw [h] at hm
    cases hm
    rcases ht with ht | ht
    · exact h1 ht
    · exact h2 ht
theorem dk_keep {w w' : World} {B p : Nat} {A : Dk} (h : DkAt w B p A) {S : Nat → Prop} (f : Fr w w' S) (hS : ∀ k, S k → ∃ c t g, w.heap[k]? = some (.cells c t g) ∧ t ≠ 69 ∧ t ≠ 104) : DkAt w' B p A := by
  obtain ⟨mn, ms, lv, h⟩ := h
  refine ⟨mn, ms, lv, h.kept f (fun k hk => ?_)⟩
  obtain ⟨c, t, g, hb, h1, h2⟩ := hS k hk
  refine ⟨fun e => ?_, fun e => ?_, fun e => ?_, fun e => ?_⟩
  · rw [e, h.blk] at hb
    cases hb
    exact h1 rfl
  · obtain ⟨es, c', hm⟩ := map_tag h.now e
    rw [hb] at hm; cases hm
  · obtain ⟨es, c', hm⟩ := map_tag h.sure e
    rw [hb] at hm; cases hm
  · obtain ⟨_, c', g', hm⟩ := row_tag h.row e
    rw [hb] at hm
    cases hm
    exact h2 rfl
section
variable {w w' : World} {B q p : Nat} {snap : Bs} {rv : Value} {R : List Bs}
theorem Lg.frD (h : Lg w B q p snap rv R) {D : Nat} (f : FrD D w w') : Lg w' B q p snap rv R := ⟨blk_frD2 h.blk f (by decide) (by decide), h.row.frD f, h.hq⟩
theorem Lg.new (h : Lg w B q p snap rv R) (f : Below w.heap.size w w') : Lg w' B q p snap rv R := ⟨(f.block q (lt_blk h.blk)).trans h.blk, h.row.new f, h.hq⟩
theorem Lg.cells (h : Lg w B q p snap rv R) : w.cell? ⟨q, 0, none⟩ = some (.pointer (some ⟨p, 0, none⟩)) ∧ w.cell? ⟨q, 1, none⟩ = some (.string (str snap)) ∧ w.cell? ⟨q, 2, none⟩ = some rv := by
  have := h.blk
  simp [World.cell?, this]
theorem Lg.free (h : Lg w B q p snap rv R) (i : Nat) : w.frozen? ⟨q, i, none⟩ = false := by
  have := h.blk
  simp [World.frozen?, this]
theorem Lg.apart (h : Lg w B q p snap rv R) : rv.ownBlock ≠ some q := by
  intro e
  obtain ⟨_, c, f, hb⟩ := h.row.tag e
  rw [h.blk] at hb
  cases hb
/-- What a log writes is no block of a disk's. -/
theorem Lg.tags (h : Lg w B q p snap rv R) : ∀ k, k = q ∨ rv.ownBlock = some k → ∃ c t g, w.heap[k]? = some (.cells c t g) ∧ t ≠ 69 ∧ t ≠ 104 := by
  intro k hk
  rcases hk with rfl | hk
  · exact ⟨_, _, _, h.blk, by decide, by decide⟩
  · obtain ⟨_, c, g, hb⟩ := h.row.tag hk
    exact ⟨_, _, _, hb, by decide, by decide⟩
theorem snap_any (h : Lg w B q p snap rv R) : Calls Try.prog 19 #[.pointer (some ⟨q, 0, none⟩)] w fun r w' => r = .returned (.string (str snap)) ∧ w' = w := by
  obtain ⟨c0, c1, c2⟩ := h.cells
  clear h
  go_enter Try.func19, Try.ntmps19
  go_wp2
  go_ret
  exact ⟨rfl, rfl⟩
theorem len_any (h : Lg w B q p snap rv R) : Calls Try.prog 20 #[.pointer (some ⟨q, 0, none⟩)] w fun r w' => r = .returned (.int .i64 R.length) ∧ w' = w := by
  obtain ⟨c0, c1, c2⟩ := h.cells
  obtain ⟨ao, c, rfl⟩ := h.row.shape
  clear h
  go_enter Try.func20, Try.ntmps20
  go_wp2
  go_ret
  exact ⟨rfl, rfl⟩
theorem all_any (h : Lg w B q p snap rv R) (hl : R.length ≤ 1000000) : Calls Try.prog 22 #[.pointer (some ⟨q, 0, none⟩)] w fun r w' => ∃ v', r = .returned v' ∧ TxO w' w.heap.size v' R ∧ Below w.heap.size w w' := by
  obtain ⟨c0, c1, c2⟩ := h.cells
  have hC := clone_txt h.row.toS hl
  obtain ⟨ao, c, rfl⟩ := h.row.shape
  clear h
  go_enter Try.func22, Try.ntmps22
  go_wp2_with (go_at_call 45; refine hC.mono ?_; rintro r w1 ⟨v', rfl, ho, hb⟩; have HO : Hid (TxO w1 w.heap.size v' R) := ho; have HB : Hid (Below w.heap.size w w1) := hb; clear ho hb; obtain ⟨ao', c', rfl⟩ := HO.out.shape)
  go_ret
  exact ⟨_, rfl, HO.out, HB.out⟩
set_option maxRecDepth 100000 in
set_option maxHeartbeats 1600000 in
theorem reset_core {A4 : Dk} {s2 : Bs} {v : Value} {T : List Bs} (hL : Lg w B q p snap rv R) (hB : B ≤ w.heap.size) (hv : TxO w 0 v T) (hT : (frs T).length ≤ 1000000) (hA : Calls Try.prog 44 #[.pointer (some ⟨p, 0, none⟩), .string (str s2), v] w fun r w' => r = .returned (.int .i64 0) ∧ DkAt w' B p A4 ∧ FrD B w w') : Calls Try.prog 14 #[.pointer (some ⟨q, 0, none⟩), .string (str s2), v] w fun r w' => r = .returned (.int .i64 0) ∧ DkAt w' B p A4 ∧ (∃ rv', Lg w' B q p s2 rv' T ∧ ∀ k, rv'.ownBlock = some k → w.heap.size ≤ k) ∧ Fr w w' (fun k => (B ≤ k ∧ DkB w k) ∨ k = q) := by
  have HN : Hid (T.length ≤ 1000000) := by have := len_frs T; show _ ≤ _; omega
  have HC : Hid (∀ W, FrD B w W → Calls Try.prog 45 #[v] W fun r w' => ∃ v', r = .returned v' ∧ TxO w' W.heap.size v' T ∧ Below W.heap.size W w') := fun W hW => clone_txt (hv.frD hW).toS HN.out
  have HL : Hid (Lg w B q p snap rv R) := hL
  have HB0 : Hid (B ≤ w.heap.size) := hB
  obtain ⟨c0, c1, c2⟩ := hL.cells
  obtain ⟨ao, c, rfl⟩ := hv.shape
  clear hB hv hT hL
  go_enter Try.func14, Try.ntmps14
  go_wp2_with (first
    | (go_at_call 44; refine hA.mono ?_; rintro r w1 ⟨rfl, hD, hF⟩; have HD : Hid (DkAt w1 B p A4) := hD; have HF : Hid (FrD B w w1) := hF; clear hD hF; obtain ⟨c0, c1, c2⟩ := (HL.out.frD HF.out).cells)
    | (go_at_call 45; refine (HC.out _ HF.out).mono ?_; rintro r w2 ⟨v', rfl, ho, hb⟩; have HO : Hid (TxO w2 w1.heap.size v' T) := ho; have HB : Hid (Below w1.heap.size w1 w2) := hb; clear ho hb; obtain ⟨ao', c', rfl⟩ := HO.out.shape; obtain ⟨c0, c1, c2⟩ := ((HL.out.frD HF.out).new HB.out).cells; have f1 := ((HL.out.frD HF.out).new HB.out).free 1; have f2 := ((HL.out.frD HF.out).new HB.out).free 2))
  go_ret
  have hL2 := (HL.out.frD HF.out).new HB.out
  have e1 := blk_set (i := 1) (.string (str s2)) hL2.blk
  have e2 := blk_set (i := 2) (.slice ao' T.length c') e1
  have fr1 : Fr w2 ((w2.setCell ⟨q, 1, none⟩ (.string (str s2))).setCell ⟨q, 2, none⟩ (.slice ao' T.length c')) (fun k => k = q) := (Fr.setCell (S := fun k => k = q) w2 ⟨q, 1, none⟩ _ rfl).trans (Fr.setCell (S := fun k => k = q) _ ⟨q, 2, none⟩ _ rfl) (fun _ _ h => h)
  have hqs : q < w.heap.size := lt_blk HL.out.blk
  refine ⟨rfl, ?_, ⟨_, ⟨e2, ?_, HL.out.hq⟩, fun k hk => Nat.le_trans HF.out.size (HO.out.tag hk).1⟩, ?_⟩
  · refine dk_keep (HD.out.new HB.out) fr1 (fun k hk => ?_)
    rw [hk]
    exact ⟨_, _, _, hL2.blk, by decide, by decide⟩
  · refine (HO.out.low (Nat.le_trans HB0.out HF.out.size)).kept fr1 (fun k hk s => ?_)
    have := (HO.out.tag hk).1
    have := HF.out.size
    omega
  · refine Fr.trans (Fr.trans (Fr.mono HF.out (fun k _ h => .inl h)) (Fr.ofBelow HB.out (fun _ => False)) (fun _ _ h => h.elim)) fr1 (fun _ _ h => .inr h)
theorem reset_any {A : Dk} {M k : Nat} {s2 : Bs} {v : Value} {T : List Bs} (hL : Lg w B q p snap rv R) (h : DkAt w B p A) (hB : B ≤ w.heap.size) (hc : Cl A M k) (hM : M ≤ 2305843009213693952) (hk : k ≤ 90000) (hv : TxO w 0 v T) (hT : (frs T).length ≤ 1000000) (hs : s2.length + 10 ≤ 140737488355328) (hF : (frs (s2 :: T)).length ≤ M) : Calls Try.prog 14 #[.pointer (some ⟨q, 0, none⟩), .string (str s2), v] w fun r w' => r = .returned (.int .i64 0) ∧ DkAt w' B p (A.anew (frs (s2 :: T))) ∧ (∃ rv', Lg w' B q p s2 rv' T ∧ ∀ k, rv'.ownBlock = some k → w.heap.size ≤ k) ∧ Fr w w' (fun k => (B ≤ k ∧ DkB w k) ∨ k = q) := by
  exact reset_core hL hB hv hT (makeAnew_any h hB hc hM hk hv.toS hT hs hF)
theorem reset_7 {Q : World → Prop} {s2 : Bs} {v : Value} (hL : Lg w B q p snap rv R) (hA : Calls Try.prog 44 #[.pointer (some ⟨p, 0, none⟩), .string (str s2), v] w fun r w' => r = .returned (.int .i64 7) ∧ Q w') : Calls Try.prog 14 #[.pointer (some ⟨q, 0, none⟩), .string (str s2), v] w fun r w' => r = .returned (.int .i64 7) ∧ Q w' := by
  obtain ⟨c0, c1, c2⟩ := hL.cells
  clear hL
  go_enter Try.func14, Try.ntmps14
  go_wp2_with (go_at_call 44; refine hA.mono ?_; rintro r w1 ⟨rfl, hq⟩; have HQ : Hid (Q w1) := hq; clear hq)
  go_ret
  exact ⟨rfl, HQ.out⟩
set_option maxRecDepth 100000 in
set_option maxHeartbeats 1600000 in
theorem add_core {A1 A4 : Dk} {v : Value} {T : List Bs} (hL : Lg w B q p snap rv R) (hB : B ≤ w.heap.size) (hv : TxO w 0 v T) (hT : (frs T).length ≤ 1000000) (hn : R.length + T.length ≤ 1000000) (hAp : ∀ W, Below w.heap.size w W → Calls Try.prog 30 #[.pointer (some ⟨p, 0, none⟩), .string (str log_), .string (str (frs T))] W fun r w' => r = .returned (.int .i64 0) ∧ DkAt w' B p A1 ∧ FrD B W w') (hSy : ∀ W, DkAt W B p A1 → FrD B w W → Calls Try.prog 28 #[.pointer (some ⟨p, 0, none⟩)] W fun r w' => r = .returned (.int .i64 0) ∧ DkAt w' B p A4 ∧ FrD B W w') : Calls Try.prog 18 #[.pointer (some ⟨q, 0, none⟩), v] w fun r w' => r = .returned (.int .i64 0) ∧ DkAt w' B p A4 ∧ (∃ rv', Lg w' B q p snap rv' (R ++ T) ∧ ∀ k, rv'.ownBlock = some k → rv.ownBlock = some k ∨ w.heap.size ≤ k) ∧ Fr w w' (fun k => (B ≤ k ∧ DkB w k) ∨ k = q ∨ rv.ownBlock = some k) := by
  have HFa : Hid (∀ W, Below w.heap.size w W → Calls Try.prog 47 #[v] W fun r w' => r = .returned (.string (str (frs T))) ∧ Below W.heap.size W w') := fun W hW => frameAll_any (hv.toS.new hW) hT
  have HAp : Hid _ := hAp
  have HSy : Hid _ := hSy
  have HL : Hid (Lg w B q p snap rv R) := hL
  have HV : Hid (TxO w 0 v T) := hv
  have HN : Hid (R.length + T.length ≤ 2000000000) := by show _ ≤ _; omega
  have HB0 : Hid (B ≤ w.heap.size) := hB
  obtain ⟨c0, c1, c2⟩ := hL.cells
  obtain ⟨ao, c, rfl⟩ := hv.shape
  obtain ⟨ro, rc, rfl⟩ := hL.row.shape
  clear hB hv hT hn hL hAp hSy
  generalize str (frs T) = s1 at HFa HAp
  go_enter Try.func18, Try.ntmps18
  go_upto_region 3 with (fail)
  have bd : Below w.heap.size w w.drew := Below.drew (Below.refl _ _)
  obtain ⟨Wd, hWd⟩ : ∃ Wd, w.drew = Wd := ⟨_, rfl⟩
  rw [hWd] at bd
  have HBd : Hid (Below w.heap.size w Wd) := bd
  have hS : (fun w' : World => w'.cell? ⟨q, 0, none⟩ = some (.pointer (some ⟨p, 0, none⟩))) Wd := (bd.cell (p := ⟨q, 0, none⟩) (lt_cellD c0)).trans c0
  have HS : Hid (Wd.cell? ⟨q, 0, none⟩ = some (.pointer (some ⟨p, 0, none⟩))) := hS
  clear bd c0 c1 c2
  refine wp_calmD ?_
  refine wp_region_L [6] (fun w' : World => w'.cell? ⟨q, 0, none⟩ = some (.pointer (some ⟨p, 0, none⟩))) (by kernel_rfl) ?_
  rw [hWd]
  clear hWd
  refine wpAnyL_take (i := 0) 9 (v := .pointer (some ⟨q, 0, none⟩)) rfl rfl (by kernel_rfl) (by kernel_rfl) (by kernel_rfl) (by kernel_rfl) (by kernel_rfl) (by kernel_rfl) (fun _ _ _ h => h) hS (by rfl) (by intro w' hSw; have y0 : w'.cell? ⟨q, 0, none⟩ = some (.pointer (some ⟨p, 0, none⟩)) := hSw; clear hSw; go_simp <;> with_reducible rfl) ?_
  simp only [Act.put, List.setIfInBounds_toArray, List.set_cons_zero, List.set_cons_succ]
  refine wpAnyL_take (i := 1) 10 (v := .pointer (some ⟨q, 0, none⟩)) rfl rfl (by kernel_rfl) (by kernel_rfl) (by kernel_rfl) (by kernel_rfl) (by kernel_rfl) (by kernel_rfl) (fun _ _ _ h => h) hS (by rfl) (by intro w' hSw; have y0 : w'.cell? ⟨q, 0, none⟩ = some (.pointer (some ⟨p, 0, none⟩)) := hSw; clear hSw; go_simp <;> with_reducible rfl) ?_
  simp only [Act.put, List.setIfInBounds_toArray, List.set_cons_zero, List.set_cons_succ]
  refine wpAnyL_take (i := 2) 11 (v := .pointer (some ⟨q, 0, none⟩)) rfl rfl (by kernel_rfl) (by kernel_rfl) (by kernel_rfl) (by kernel_rfl) (by kernel_rfl) (by kernel_rfl) (fun _ _ _ h => h) hS (by rfl) (by intro w' hSw; have y0 : w'.cell? ⟨q, 0, none⟩ = some (.pointer (some ⟨p, 0, none⟩)) := hSw; clear hSw; go_simp <;> with_reducible rfl) ?_
  simp only [Act.put, List.setIfInBounds_toArray, List.set_cons_zero, List.set_cons_succ]
  refine wpAnyL_take (i := 3) 12 (v := .pointer (some ⟨p, 0, none⟩)) rfl rfl (by kernel_rfl) (by kernel_rfl) (by kernel_rfl) (by kernel_rfl) (by kernel_rfl) (by kernel_rfl) (fun _ _ _ h => h) hS (by rfl) (by intro w' hSw; have y0 : w'.cell? ⟨q, 0, none⟩ = some (.pointer (some ⟨p, 0, none⟩)) := hSw; clear hSw; go_simp <;> with_reducible rfl) ?_
  simp only [Act.put, List.setIfInBounds_toArray, List.set_cons_zero, List.set_cons_succ]
  refine wpAnyL_take (i := 4) 13 (v := .slice ao T.length c) rfl rfl (by kernel_rfl) (by kernel_rfl) (by kernel_rfl) (by kernel_rfl) (by kernel_rfl) (by kernel_rfl) (fun _ _ _ h => h) hS (by rfl) (by intro w' hSw; have y0 : w'.cell? ⟨q, 0, none⟩ = some (.pointer (some ⟨p, 0, none⟩)) := hSw; clear hSw; go_simp <;> with_reducible rfl) ?_
  simp only [Act.put, List.setIfInBounds_toArray, List.set_cons_zero, List.set_cons_succ]
  refine wpAnyL_one (i := 5) (by kernel_rfl) rfl (fun Ka hKa => ?_)
  go_simp
  refine (HFa.out _ HBd.out).mono ?_
  rintro r w1 ⟨rfl, hb⟩
  have HB1 : Hid (Below w.heap.size w w1) := HBd.out.trans (hb.mono HBd.out.size)
  have hS1 : (fun w' : World => w'.cell? ⟨q, 0, none⟩ = some (.pointer (some ⟨p, 0, none⟩))) w1 := (hb.cell (p := ⟨q, 0, none⟩) (lt_cellD HS.out)).trans HS.out
  refine hKa.out _ _ (fun _ => hS1) ?_
  clear hKa Ka hb hS1 hS HS
  try simp only [Act.put, List.setIfInBounds_toArray, List.set_cons_zero, List.set_cons_succ]
  refine wpAnyL_one (i := 6) (by kernel_rfl) rfl (fun Ka hKa => ?_)
  go_simp
  refine (HAp.out _ HB1.out).mono ?_
  rintro r w2 ⟨rfl, hD, hF⟩
  have HD2 : Hid (DkAt w2 B p A1) := hD
  have HF2 : Hid (FrD B w w2) := (FrD.new HB1.out).trans hF
  refine hKa.out _ _ (fun h => absurd h (Bool.eq_false_iff.1 (by kernel_rfl))) ?_
  clear hKa Ka hD hF
  try simp only [Act.put, List.setIfInBounds_toArray, List.set_cons_zero, List.set_cons_succ]
  refine wpAnyL_one (i := 7) (by kernel_rfl) rfl (fun Ka hKa => ?_)
  go_simp
  refine hKa.out _ _ (fun h => absurd h (Bool.eq_false_iff.1 (by kernel_rfl))) ?_
  clear hKa Ka
  try simp only [Act.put, List.setIfInBounds_toArray, List.set_cons_zero, List.set_cons_succ]
  refine wpAnyL_done (by kernel_rfl) ?_ _
  obtain ⟨c0, c1, c2⟩ := (HL.out.frD HF2.out).cells
  go_wp2_with (first
    | (go_at_call 28; refine (HSy.out _ HD2.out HF2.out).mono ?_; rintro r w3 ⟨rfl, hD, hF⟩; have HD3 : Hid (DkAt w3 B p A4) := hD; have HF3 : Hid (FrD B w w3) := HF2.out.trans hF; clear hD hF; obtain ⟨c0, c1, c2⟩ := (HL.out.frD HF3.out).cells)
    | (at_builtin; refine wpl_appT rfl rfl rfl rfl (HL.out.frD HF3.out).row (HV.out.frD HF3.out).toS HN.out (Nat.le_trans HB0.out HF3.out.size) ?_; intro v4 w4 o4 f4 b4; have HO4 : Hid (TxO w4 B v4 (R ++ T)) := o4; have HF4 : Hid (Fr w3 w4 (fun k => (Value.slice ro R.length rc).ownBlock = some k)) := f4; have HK4 : Hid (∀ k, v4.ownBlock = some k → (Value.slice ro R.length rc).ownBlock = some k ∨ w3.heap.size ≤ k) := b4; clear o4 f4 b4; have e4 := (HF4.out.block q (lt_blk (HL.out.frD HF3.out).blk) (HL.out.frD HF3.out).apart).trans (HL.out.frD HF3.out).blk; have HE4 : Hid _ := e4; obtain ⟨x4, y4, rfl⟩ := HO4.out.shape; have c0 := cell_blk (i := 0) e4; have c1 := cell_blk (i := 1) e4; have c2 := cell_blk (i := 2) e4; have f2 : w4.frozen? ⟨q, 2, none⟩ = false := (by simp [World.frozen?, e4]); clear e4))
  go_ret
  have hL3 := HL.out.frD HF3.out
  have e5 := blk_set (i := 2) (.slice x4 (R ++ T).length y4) HE4.out
  have fr5 : Fr w4 (w4.setCell ⟨q, 2, none⟩ (.slice x4 (R ++ T).length y4)) (fun k => k = q) := Fr.setCell (S := fun k => k = q) w4 ⟨q, 2, none⟩ _ rfl
  have fr35 : Fr w3 (w4.setCell ⟨q, 2, none⟩ (.slice x4 (R ++ T).length y4)) (fun k => k = q ∨ (Value.slice ro R.length rc).ownBlock = some k) := Fr.trans (Fr.mono HF4.out (fun k _ h => .inr h)) fr5 (fun _ _ h => .inl h)
  rw [← List.length_append]
  refine ⟨rfl, dk_keep HD3.out fr35 hL3.tags, ⟨_, ⟨e5, ?_, HL.out.hq⟩, fun k hk => ?_⟩, Fr.trans (Fr.mono HF3.out (fun k _ h => .inl h)) fr35 (fun _ _ h => .inr h)⟩
  · refine HO4.out.kept fr5 (fun k hk s => ?_)
    rw [s] at hk
    obtain ⟨_, c, g, hb⟩ := HO4.out.tag hk
    rw [HE4.out] at hb
    cases hb
  · rcases HK4.out k hk with h | h
    · exact .inl h
    · exact .inr (Nat.le_trans HF3.out.size h)
theorem add_any {A : Dk} {M k : Nat} {v : Value} {T : List Bs} (hL : Lg w B q p snap rv R) (h : DkAt w B p A) (hB : B ≤ w.heap.size) (hc : Cl A M k) (hM : M ≤ 2305843009213693952) (hk : k ≤ 90000) (hv : TxO w 0 v T) (hT : (frs T).length ≤ 1000000) (hn : R.length + T.length ≤ 1000000) (hTM : (frs T).length ≤ M) : Calls Try.prog 18 #[.pointer (some ⟨q, 0, none⟩), v] w fun r w' => r = .returned (.int .i64 0) ∧ DkAt w' B p (A.more (frs T)) ∧ (∃ rv', Lg w' B q p snap rv' (R ++ T) ∧ ∀ k, rv'.ownBlock = some k → rv.ownBlock = some k ∨ w.heap.size ≤ k) ∧ Fr w w' (fun k => (B ≤ k ∧ DkB w k) ∨ k = q ∨ rv.ownBlock = some k) := by
  exact add_core hL hB hv hT hn (fun W hW => cl_append (h.new hW) (Nat.le_trans hB hW.size) hc hM (by omega) hTM) (fun W hD _ => cl_sync _ hD hc (by omega))
set_option maxRecDepth 100000 in
set_option maxHeartbeats 1600000 in
theorem add_7 {Q : World → Prop} {v : Value} {T : List Bs} (hL : Lg w B q p snap rv R) (hv : TxO w 0 v T) (hT : (frs T).length ≤ 1000000) (hAp : ∀ W, Below w.heap.size w W → Calls Try.prog 30 #[.pointer (some ⟨p, 0, none⟩), .string (str log_), .string (str (frs T))] W fun r w' => r = .returned (.int .i64 7) ∧ Q w') : Calls Try.prog 18 #[.pointer (some ⟨q, 0, none⟩), v] w fun r w' => r = .returned (.int .i64 7) ∧ Q w' := by
  have HFa : Hid (∀ W, Below w.heap.size w W → Calls Try.prog 47 #[v] W fun r w' => r = .returned (.string (str (frs T))) ∧ Below W.heap.size W w') := fun W hW => frameAll_any (hv.toS.new hW) hT
  have HAp : Hid _ := hAp
  obtain ⟨c0, c1, c2⟩ := hL.cells
  obtain ⟨ao, c, rfl⟩ := hv.shape
  clear hv hT hL hAp
  generalize str (frs T) = s1 at HFa HAp
  go_enter Try.func18, Try.ntmps18
  go_upto_region 3 with (fail)
  have bd : Below w.heap.size w w.drew := Below.drew (Below.refl _ _)
  obtain ⟨Wd, hWd⟩ : ∃ Wd, w.drew = Wd := ⟨_, rfl⟩
  rw [hWd] at bd
  have HBd : Hid (Below w.heap.size w Wd) := bd
  have hS : (fun w' : World => w'.cell? ⟨q, 0, none⟩ = some (.pointer (some ⟨p, 0, none⟩))) Wd := (bd.cell (p := ⟨q, 0, none⟩) (lt_cellD c0)).trans c0
  have HS : Hid (Wd.cell? ⟨q, 0, none⟩ = some (.pointer (some ⟨p, 0, none⟩))) := hS
  clear bd c0 c1 c2
  refine wp_calmD ?_
  refine wp_region_L [6] (fun w' : World => w'.cell? ⟨q, 0, none⟩ = some (.pointer (some ⟨p, 0, none⟩))) (by kernel_rfl) ?_
  rw [hWd]
  clear hWd
  refine wpAnyL_take (i := 0) 9 (v := .pointer (some ⟨q, 0, none⟩)) rfl rfl (by kernel_rfl) (by kernel_rfl) (by kernel_rfl) (by kernel_rfl) (by kernel_rfl) (by kernel_rfl) (fun _ _ _ h => h) hS (by rfl) (by intro w' hSw; have y0 : w'.cell? ⟨q, 0, none⟩ = some (.pointer (some ⟨p, 0, none⟩)) := hSw; clear hSw; go_simp <;> with_reducible rfl) ?_
  simp only [Act.put, List.setIfInBounds_toArray, List.set_cons_zero, List.set_cons_succ]
  refine wpAnyL_take (i := 1) 10 (v := .pointer (some ⟨q, 0, none⟩)) rfl rfl (by kernel_rfl) (by kernel_rfl) (by kernel_rfl) (by kernel_rfl) (by kernel_rfl) (by kernel_rfl) (fun _ _ _ h => h) hS (by rfl) (by intro w' hSw; have y0 : w'.cell? ⟨q, 0, none⟩ = some (.pointer (some ⟨p, 0, none⟩)) := hSw; clear hSw; go_simp <;> with_reducible rfl) ?_
  simp only [Act.put, List.setIfInBounds_toArray, List.set_cons_zero, List.set_cons_succ]
  refine wpAnyL_take (i := 2) 11 (v := .pointer (some ⟨q, 0, none⟩)) rfl rfl (by kernel_rfl) (by kernel_rfl) (by kernel_rfl) (by kernel_rfl) (by kernel_rfl) (by kernel_rfl) (fun _ _ _ h => h) hS (by rfl) (by intro w' hSw; have y0 : w'.cell? ⟨q, 0, none⟩ = some (.pointer (some ⟨p, 0, none⟩)) := hSw; clear hSw; go_simp <;> with_reducible rfl) ?_
  simp only [Act.put, List.setIfInBounds_toArray, List.set_cons_zero, List.set_cons_succ]
  refine wpAnyL_take (i := 3) 12 (v := .pointer (some ⟨p, 0, none⟩)) rfl rfl (by kernel_rfl) (by kernel_rfl) (by kernel_rfl) (by kernel_rfl) (by kernel_rfl) (by kernel_rfl) (fun _ _ _ h => h) hS (by rfl) (by intro w' hSw; have y0 : w'.cell? ⟨q, 0, none⟩ = some (.pointer (some ⟨p, 0, none⟩)) := hSw; clear hSw; go_simp <;> with_reducible rfl) ?_
  simp only [Act.put, List.setIfInBounds_toArray, List.set_cons_zero, List.set_cons_succ]
  refine wpAnyL_take (i := 4) 13 (v := .slice ao T.length c) rfl rfl (by kernel_rfl) (by kernel_rfl) (by kernel_rfl) (by kernel_rfl) (by kernel_rfl) (by kernel_rfl) (fun _ _ _ h => h) hS (by rfl) (by intro w' hSw; have y0 : w'.cell? ⟨q, 0, none⟩ = some (.pointer (some ⟨p, 0, none⟩)) := hSw; clear hSw; go_simp <;> with_reducible rfl) ?_
  simp only [Act.put, List.setIfInBounds_toArray, List.set_cons_zero, List.set_cons_succ]
  refine wpAnyL_one (i := 5) (by kernel_rfl) rfl (fun Ka hKa => ?_)
  go_simp
  refine (HFa.out _ HBd.out).mono ?_
  rintro r w1 ⟨rfl, hb⟩
  have HB1 : Hid (Below w.heap.size w w1) := HBd.out.trans (hb.mono HBd.out.size)
  have hS1 : (fun w' : World => w'.cell? ⟨q, 0, none⟩ = some (.pointer (some ⟨p, 0, none⟩))) w1 := (hb.cell (p := ⟨q, 0, none⟩) (lt_cellD HS.out)).trans HS.out
  refine hKa.out _ _ (fun _ => hS1) ?_
  clear hKa Ka hb hS1 hS HS
  try simp only [Act.put, List.setIfInBounds_toArray, List.set_cons_zero, List.set_cons_succ]
  refine wpAnyL_one (i := 6) (by kernel_rfl) rfl (fun Ka hKa => ?_)
  go_simp
  refine (HAp.out _ HB1.out).mono ?_
  rintro r w2 ⟨rfl, hq⟩
  have HQ2 : Hid (Q w2) := hq
  refine hKa.out _ _ (fun h => absurd h (Bool.eq_false_iff.1 (by kernel_rfl))) ?_
  clear hKa Ka hq
  try simp only [Act.put, List.setIfInBounds_toArray, List.set_cons_zero, List.set_cons_succ]
  refine wpAnyL_one (i := 7) (by kernel_rfl) rfl (fun Ka hKa => ?_)
  go_simp
  refine hKa.out _ _ (fun h => absurd h (Bool.eq_false_iff.1 (by kernel_rfl))) ?_
  clear hKa Ka
  try simp only [Act.put, List.setIfInBounds_toArray, List.set_cons_zero, List.set_cons_succ]
  refine wpAnyL_done (by kernel_rfl) ?_ _
  go_wp2
  go_ret
  exact ⟨rfl, HQ2.out⟩
end
end Go.Proofs.Ytdapapnkmicklaa
