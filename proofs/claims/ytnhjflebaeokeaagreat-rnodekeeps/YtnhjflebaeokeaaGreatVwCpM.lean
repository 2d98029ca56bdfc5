import Derived.Test.YtnhjflebaeokeaaGreatVwNw2M
section
/- An entry is proposed. -/
namespace Go.Proofs.YtnhjflebaeokeaaGreat
open Go.RowKit Go.Maps
attribute [local go_sem] Oper.semAt_some
/-- The log with an entry more. -/
def Nd.add (A : Nd) (s : ByteArray) : Nd := { A with log := A.log ++ [⟨A.vw, s⟩] }
def Nd.proposed (A : Nd) (s : ByteArray) : Nd := { (A.add s).counted with tk := 0 }
theorem add_last (A : Nd) (s : ByteArray) : (A.add s).last = A.last + 1 := by
  show A.bi + ((A.log ++ [⟨A.vw, s⟩] : List Ent).length : Int) = A.bi + (A.log.length : Int) + 1
  rw [List.length_append]
  simp
  omega
theorem add_ok {A : Nd} (ok : A.ok) {s : ByteArray} (h : A.log.length < 1000) : (A.add s).ok := by
  have hl := add_last A s
  refine { ok with len := ?_, cm1 := ?_ }
  · show (A.log ++ [⟨A.vw, s⟩] : List Ent).length ≤ 1000
    rw [List.length_append]
    simp
    omega
  · rw [hl]
    have := ok.cm1
    show A.cm ≤ _
    omega
/-- How far all have the log, at most up to the last. -/
def Nd.upOk (A : Nd) : Prop := ∀ x v, A.upTo x = some v → 0 ≤ x ∧ x < A.all ∧ v ≤ A.last
theorem far_le {A : Nd} (ok : A.ok) (hu : A.upOk) : ∀ v ∈ farL A, v ≤ A.last := by
  intro v hv
  unfold farL at hv
  obtain ⟨i, hi, rfl⟩ := List.mem_map.1 hv
  have h0 : 0 ≤ A.last := by have := ok.bi0; unfold Nd.last; omega
  split
  · exact Int.le_refl _
  · cases e : A.upTo i with
    | none => exact h0
    | some v => exact (hu _ _ e).2.2
theorem counted_ok {A : Nd} (ok : A.ok) (hu : A.upOk) : A.counted.ok := by
  have h0 : 0 ≤ A.last := by have := ok.bi0; unfold Nd.last; omega
  have hm : (srt (farL A))[(A.all.toNat - 1) / 2]?.getD 0 ≤ A.last := by
    cases e : (srt (farL A))[(A.all.toNat - 1) / 2]? with
    | none => exact h0
    | some v =>
      have h1 := List.mem_of_getElem? e
      unfold srt at h1
      exact far_le ok hu v (List.mem_mergeSort.1 h1)
  refine { ok with cm0 := ?_, cm1 := ?_ }
  · show A.bi ≤ max A.cm _
    have := ok.cm0
    omega
  · show max A.cm _ ≤ A.last
    have := ok.cm1
    omega
section
variable {w : World} {S : Nat → Prop} {p : Nat} {A : Nd} {lv : Value} {mw mg mu mk : Nat}
/-- The log lies elsewhere, or is longer. -/
theorem NA.relog {V W : World} (h : NA w S p A lv mw mg mu mk) {lv' : Value} {L' : List Ent} (f1 : Fr w V (fun k => lv.ownBlock = some k)) (hE : EnO V 0 lv' L') (hloc : ∀ k, lv'.ownBlock = some k → lv.ownBlock = some k ∨ w.heap.size ≤ k) (hW : V.setCell ⟨p, 7, none⟩ lv' = W) :
    NA W (fun k => S k ∨ w.heap.size ≤ k) p { A with log := L' } lv' mw mg mu mk ∧ Fr w W (fun k => k = p ∨ lv.ownBlock = some k) := by
  obtain ⟨p1, p2, p3, p4⟩ := h.pmap
  have hl := fun k hk => h.lrow (k := k) hk
  have fs : Fr V W (fun k => k = p) := by rw [← hW]; exact Fr.setCell (S := fun k => k = p) _ ⟨p, 7, none⟩ _ rfl
  have ff : Fr w W (fun k => k = p ∨ lv.ownBlock = some k) := (f1.mono (fun _ _ h => .inr h)).trans fs (fun _ _ h => .inl h)
  have hP : V.heap[p]? = _ := (f1.block p h.plt (fun e => (hl p e).1 rfl)).trans h.blk
  have hnp : ∀ k, lv'.ownBlock = some k → k ≠ p := fun k hk e => by
    obtain ⟨_, c, fz, ht⟩ := vrow_tag hE hk
    subst e
    rw [hP] at ht
    cases ht
  refine ⟨⟨?_, hE.kept fs (fun k hk e => hnp k hk e), ?_, ?_, ?_, ?_, .inl h.sp, fun k hk => ?_, .inl h.sw, .inl h.sg, .inl h.su, .inl h.sk, h.wg, h.wu, h.wk, h.gu, h.gk, h.uk⟩, ff⟩
  · rw [← hW]; exact vblk_set (i := 7) _ hP
  · exact h.wants.kept ff (fun e => by rcases e with e | e; exact p1 e.symm; exact (hl _ e).2.1 rfl)
  · refine (h.given.move ff (fun e => by rcases e with e | e; exact p2 e.symm; exact (hl _ e).2.2.1 rfl) (fun k hu hs hk => ?_) hloc).mono (fun k _ h => .inl h)
    rcases hu with hu | hu
    · exact .inr (fun c fz e => by subst hu; rw [h.blk] at e; cases e)
    · exact .inl hu
  · exact h.upTo.kept ff (fun e => by rcases e with e | e; exact p3 e.symm; exact (hl _ e).2.2.2.1 rfl)
  · exact h.kinds.kept ff (fun e => by rcases e with e | e; exact p4 e.symm; exact (hl _ e).2.2.2.2 rfl)
  · rcases hloc k hk with h1 | h1
    · exact .inl (h.sl k h1)
    · exact .inr h1
set_option linter.unusedSimpArgs false in
set_option maxRecDepth 100000 in
set_option maxHeartbeats 2000000 in
theorem propose_core (h : NA w S p A lv mw mg mu mk) (ok : A.ok) (hu : A.upOk) (hr : A.role = 3) (hlen : A.log.length < 1000) {s : ByteArray} {R : Value → World → Prop}
    (hT : ∀ W lv', NA W (fun k => S k ∨ w.heap.size ≤ k) p (A.proposed s) lv' mw mg mu mk → Calls Tryz.prog 74 #[.pointer (some ⟨p, 0, none⟩), .func (.func 75) #[.pointer (some ⟨p, 0, none⟩)] #[]] W fun r w' => ∃ v, r = .returned v ∧ R v w' ∧ Below W.heap.size W w') :
    Calls Tryz.prog 42 #[.pointer (some ⟨p, 0, none⟩), .string s] w fun r w' => ∃ v, r = .returned (.tuple #[.int .i64 (A.last + 1), v, .bool true]) ∧ R v w' ∧ NdAt w' (fun k => S k ∨ w.heap.size ≤ k) p (A.proposed s) ∧ Fr w w' (fun k => k = p ∨ lv.ownBlock = some k) := by
  have HH : Hid (NA w S p A lv mw mg mu mk) := h
  have HO : Hid A.ok := ok
  have HT : Hid (∀ W lv', NA W (fun k => S k ∨ w.heap.size ≤ k) p (A.proposed s) lv' mw mg mu mk → Calls Tryz.prog 74 #[.pointer (some ⟨p, 0, none⟩), .func (.func 75) #[.pointer (some ⟨p, 0, none⟩)] #[]] W fun r w' => ∃ v, r = .returned v ∧ R v w' ∧ Below W.heap.size W w') := hT
  have HRo : Hid (∀ W q, W = w.drewN q → Calls Tryz.prog 35 #[.pointer (some ⟨p, 0, none⟩)] W fun r w' => r = .returned (.int .i64 3) ∧ ∃ q, w' = W.drewN q) := fun W q e => by rw [e, ← hr]; exact role_any (h.dn q) ok
  have HU : Hid A.upOk := hu
  have HLn : Hid (A.log.length < 1000) := hlen
  obtain ⟨ao, cc, rfl, hcc, hao⟩ := h.log.shape
  obtain ⟨_, _, c2, _, _, _, _, c7, _⟩ := h.cells
  obtain ⟨n, hn⟩ : ∃ n, A.log.length = n := ⟨_, rfl⟩
  have HN : Hid (A.log.length = n) := hn
  obtain ⟨vw, hvw⟩ : ∃ vw, A.vw = vw := ⟨_, rfl⟩
  have HV : Hid (A.vw = vw) := hvw
  rw [hn] at c7 hlen hcc
  rw [hvw] at c2
  have hnI : ¬ (1000 : Int) ≤ n := by omega
  have hnN : ¬ 1000 ≤ n := by omega
  have hmf : ∀ (fn : Fn) (first cap : Array Value) (w : World), (Instr.makeFunc fn first cap).run Tryz.prog w = .ok (.func fn first cap) w := fun _ _ _ _ => rfl
  have hu0 : undef = Value.tuple #[] := rfl
  clear h ok hu hr hT hao hn hvw
  go_enter Tryz.func42, Tryz.ntmps42
  go_upto_region 3 with (go_at_call 35; refine Calls.mono (HRo.out _ 0 rfl) ?_; rintro r w1 ⟨rfl, q1, rfl⟩)
  obtain ⟨Wd, hWd⟩ : ∃ Wd, (w.drewN q1).drew = Wd := ⟨_, rfl⟩
  have bd : Below w.heap.size w Wd := by rw [← hWd]; exact Below.drew (below_dn _ _)
  have hDd := HH.out.new bd
  have x2 := (bd.cell (p := ⟨p, 2, none⟩) (vlt_cell c2)).trans c2
  have x7 := (bd.cell (p := ⟨p, 7, none⟩) (vlt_cell c7)).trans c7
  have HDd : Hid (NA Wd S p A (.slice ao A.log.length cc) mw mg mu mk) := hDd
  have HBd : Hid (Below w.heap.size w Wd) := bd
  have hsz : Wd.heap.size = w.heap.size := by rw [← hWd]; rfl
  have HSz : Hid (Wd.heap.size = w.heap.size) := hsz
  clear c2 c7 hDd bd HRo hsz
  refine wp_calmV ?_
  refine wp_region_L [18] (fun w' : World => w'.cell? ⟨p, 2, none⟩ = some (.int .i64 vw) ∧ w'.cell? ⟨p, 7, none⟩ = some (.slice ao n cc)) (by kernel_rfl) ?_
  rw [show (w.drewN q1).drew = Wd from hWd]
  clear hWd
  have hS : (fun w' : World => w'.cell? ⟨p, 2, none⟩ = some (.int .i64 vw) ∧ w'.cell? ⟨p, 7, none⟩ = some (.slice ao n cc)) Wd := ⟨x2, x7⟩
  refine wpAnyL_take (i := 0) 19 (v := .pointer (some ⟨p, 0, none⟩)) rfl rfl (by kernel_rfl) (by kernel_rfl) (by kernel_rfl) (by kernel_rfl) (by kernel_rfl) (by kernel_rfl) (fun _ _ _ h => h) hS (by rfl) (by intro w' hSw; obtain ⟨y0, y1⟩ := hSw; go_simp <;> with_reducible rfl) ?_
  simp only [Act.put, List.setIfInBounds_toArray, List.set_cons_zero, List.set_cons_succ]
  refine wpAnyL_take (i := 1) 20 (v := .pointer (some ⟨p, 0, none⟩)) rfl rfl (by kernel_rfl) (by kernel_rfl) (by kernel_rfl) (by kernel_rfl) (by kernel_rfl) (by kernel_rfl) (fun _ _ _ h => h) hS (by rfl) (by intro w' hSw; obtain ⟨y0, y1⟩ := hSw; go_simp <;> with_reducible rfl) ?_
  simp only [Act.put, List.setIfInBounds_toArray, List.set_cons_zero, List.set_cons_succ]
  refine wpAnyL_take (i := 2) 21 (v := .pointer (some ⟨p, 0, none⟩)) rfl rfl (by kernel_rfl) (by kernel_rfl) (by kernel_rfl) (by kernel_rfl) (by kernel_rfl) (by kernel_rfl) (fun _ _ _ h => h) hS (by rfl) (by intro w' hSw; obtain ⟨y0, y1⟩ := hSw; go_simp <;> with_reducible rfl) ?_
  simp only [Act.put, List.setIfInBounds_toArray, List.set_cons_zero, List.set_cons_succ]
  refine wpAnyL_take (i := 3) 22 (v := .pointer (some ⟨p, 2, none⟩)) rfl rfl (by kernel_rfl) (by kernel_rfl) (by kernel_rfl) (by kernel_rfl) (by kernel_rfl) (by kernel_rfl) (fun _ _ _ h => h) hS (by rfl) (by intro w' hSw; obtain ⟨y0, y1⟩ := hSw; go_simp <;> with_reducible rfl) ?_
  simp only [Act.put, List.setIfInBounds_toArray, List.set_cons_zero, List.set_cons_succ]
  refine wpAnyL_take (i := 4) 23 (v := .pointer (some ⟨p, 7, none⟩)) rfl rfl (by kernel_rfl) (by kernel_rfl) (by kernel_rfl) (by kernel_rfl) (by kernel_rfl) (by kernel_rfl) (fun _ _ _ h => h) hS (by rfl) (by intro w' hSw; obtain ⟨y0, y1⟩ := hSw; go_simp <;> with_reducible rfl) ?_
  simp only [Act.put, List.setIfInBounds_toArray, List.set_cons_zero, List.set_cons_succ]
  refine wpAnyL_take (i := 5) 24 (v := .slice ao n cc) rfl rfl (by kernel_rfl) (by kernel_rfl) (by kernel_rfl) (by kernel_rfl) (by kernel_rfl) (by kernel_rfl) (fun _ _ _ h => h) hS (by rfl) (by intro w' hSw; obtain ⟨y0, y1⟩ := hSw; go_simp <;> with_reducible rfl) ?_
  simp only [Act.put, List.setIfInBounds_toArray, List.set_cons_zero, List.set_cons_succ]
  refine wpAnyL_take (i := 6) 25 (v := .pointer (some ⟨p, 0, none⟩)) rfl rfl (by kernel_rfl) (by kernel_rfl) (by kernel_rfl) (by kernel_rfl) (by kernel_rfl) (by kernel_rfl) (fun _ _ _ h => h) hS (by rfl) (by intro w' hSw; obtain ⟨y0, y1⟩ := hSw; go_simp <;> with_reducible rfl) ?_
  simp only [Act.put, List.setIfInBounds_toArray, List.set_cons_zero, List.set_cons_succ]
  refine wpAnyL_take (i := 7) 26 (v := .pointer (some ⟨p, 0, none⟩)) rfl rfl (by kernel_rfl) (by kernel_rfl) (by kernel_rfl) (by kernel_rfl) (by kernel_rfl) (by kernel_rfl) (fun _ _ _ h => h) hS (by rfl) (by intro w' hSw; obtain ⟨y0, y1⟩ := hSw; go_simp <;> with_reducible rfl) ?_
  simp only [Act.put, List.setIfInBounds_toArray, List.set_cons_zero, List.set_cons_succ]
  refine wpAnyL_take (i := 8) 27 (v := .pointer (some ⟨p, 2, none⟩)) rfl rfl (by kernel_rfl) (by kernel_rfl) (by kernel_rfl) (by kernel_rfl) (by kernel_rfl) (by kernel_rfl) (fun _ _ _ h => h) hS (by rfl) (by intro w' hSw; obtain ⟨y0, y1⟩ := hSw; go_simp <;> with_reducible rfl) ?_
  simp only [Act.put, List.setIfInBounds_toArray, List.set_cons_zero, List.set_cons_succ]
  refine wpAnyL_take (i := 9) 28 (v := .pointer (some ⟨p, 2, none⟩)) rfl rfl (by kernel_rfl) (by kernel_rfl) (by kernel_rfl) (by kernel_rfl) (by kernel_rfl) (by kernel_rfl) (fun _ _ _ h => h) hS (by rfl) (by intro w' hSw; obtain ⟨y0, y1⟩ := hSw; go_simp <;> with_reducible rfl) ?_
  simp only [Act.put, List.setIfInBounds_toArray, List.set_cons_zero, List.set_cons_succ]
  refine wpAnyL_take (i := 10) 29 (v := .int .i64 vw) rfl rfl (by kernel_rfl) (by kernel_rfl) (by kernel_rfl) (by kernel_rfl) (by kernel_rfl) (by kernel_rfl) (fun _ _ _ h => h) hS (by rfl) (by intro w' hSw; obtain ⟨y0, y1⟩ := hSw; go_simp <;> with_reducible rfl) ?_
  simp only [Act.put, List.setIfInBounds_toArray, List.set_cons_zero, List.set_cons_succ]
  refine wpAnyL_take (i := 11) 30 (v := .string s) rfl rfl (by kernel_rfl) (by kernel_rfl) (by kernel_rfl) (by kernel_rfl) (by kernel_rfl) (by kernel_rfl) (fun _ _ _ h => h) hS (by rfl) (by intro w' hSw; obtain ⟨y0, y1⟩ := hSw; go_simp <;> with_reducible rfl) ?_
  simp only [Act.put, List.setIfInBounds_toArray, List.set_cons_zero, List.set_cons_succ]
  refine wpAnyL_take (i := 12) 31 (v := .agg #[.int .i64 vw, .string s]) rfl rfl (by kernel_rfl) (by kernel_rfl) (by kernel_rfl) (by kernel_rfl) (by kernel_rfl) (by kernel_rfl) (fun _ _ _ h => h) hS (by rfl) (by intro w' hSw; obtain ⟨y0, y1⟩ := hSw; go_simp <;> with_reducible rfl) ?_
  simp only [Act.put, List.setIfInBounds_toArray, List.set_cons_zero, List.set_cons_succ]
  refine wpAnyL_one (i := 13) (by kernel_rfl) rfl (fun Ka hKa => ?_)
  go_simp
  have b0 : Below Wd.heap.size Wd (Wd.alloc (.cells #[.int .i64 vw, .string s] 106)) := vone_new _ _
  have y2 := (b0.cell (p := ⟨p, 2, none⟩) (vlt_cell x2)).trans x2
  have y7 := (b0.cell (p := ⟨p, 7, none⟩) (vlt_cell x7)).trans x7
  refine hKa.out _ _ (fun _ => ⟨y2, y7⟩) ?_
  clear hKa Ka
  try simp only [Act.put, List.setIfInBounds_toArray, List.set_cons_zero, List.set_cons_succ]
  have hSrc : EnS (Wd.alloc (.cells #[.int .i64 vw, .string s] 106)) (.slice (some ⟨Wd.heap.size, 0, none⟩) 1 1) [⟨vw, s⟩] := by
    refine ⟨_, 1, rfl, Nat.le_refl _, fun _ => ⟨Wd.heap.size, 0, rfl, fun j hj => ?_⟩⟩
    obtain rfl : j = 0 := by simpa using hj
    have := heap_alloc_new Wd (.cells #[.int .i64 vw, .string s] 106)
    exact ⟨vcell_blk this, vcell_blk this⟩
  have HSrc : Hid _ := hSrc
  have HO0 : Hid (EnO (Wd.alloc (.cells #[.int .i64 vw, .string s] 106)) 0 (.slice ao n cc) A.log) := by
    have := HDd.out.log.new b0
    rw [HN.out] at this
    exact this
  obtain ⟨V0, hV0⟩ : ∃ V0, Wd.alloc (.cells #[.int .i64 vw, .string s] 106) = V0 := ⟨_, rfl⟩
  rw [hV0] at b0 y2 y7 hSrc HSrc HO0 ⊢
  have HB0 : Hid (Below Wd.heap.size Wd V0) := b0
  clear hV0 b0 hSrc hS x2 x7
  refine wpAnyL_one (i := 14) (by kernel_rfl) rfl (fun Ka hKa => ?_)
  refine stp_appV rfl (.tmp 24) (.tmp 32) rfl (R := A.log) (S := [⟨vw, s⟩]) rfl rfl HO0.out HSrc.out (by have := HLn.out; simp; omega) (Nat.zero_le _) ?_
  intro v1 w9 hE9 hF9 hX9
  obtain ⟨a1, c1, e1, _⟩ := hE9.shape
  rw [List.length_append, HN.out] at e1
  simp only [List.length_cons, List.length_nil] at e1
  subst e1
  have hnp : ¬ (Value.slice ao n cc).ownBlock = some p := fun e => by have := HN.out; have hh := HDd.out; rw [this] at hh; exact (hh.lrow e).1 rfl
  have z2 := vfr_cell hF9 hnp y2
  have z7 := vfr_cell hF9 hnp y7
  have hP9 : ∃ cs, w9.heap[p]? = some (.cells cs 114 (0, 0)) := ⟨_, (hF9.block p (vlt_cell y2) hnp).trans ((HB0.out.block p HDd.out.plt).trans HDd.out.blk)⟩
  have g7 : w9.frozen? ⟨p, 7, none⟩ = false := by obtain ⟨cs, hcs⟩ := hP9; simp [World.frozen?, hcs]
  refine hKa.out _ _ (fun _ => ⟨z2, z7⟩) ?_
  clear hKa Ka
  try simp only [Act.put, List.setIfInBounds_toArray, List.set_cons_zero, List.set_cons_succ]
  have HE9 : Hid (EnO w9 0 (.slice a1 (n + (0 + 1)) c1) (A.log ++ [⟨vw, s⟩])) := hE9
  have HF9 : Hid (Fr Wd w9 (fun k => (Value.slice ao n cc).ownBlock = some k)) := ((Fr.ofBelow HB0.out (fun _ => False)).mono (fun _ _ h => h.elim)).trans hF9 (fun _ _ h => h)
  have HX9 : Hid (∀ k, (Value.slice a1 (n + (0 + 1)) c1).ownBlock = some k → (Value.slice ao n cc).ownBlock = some k ∨ Wd.heap.size ≤ k) := fun k hk => by
    rcases hX9 k hk with h | h
    · exact .inl h
    · exact .inr (Nat.le_trans HB0.out.size h)
  clear hE9 hF9 hX9 hP9 hnp y2 y7 HSrc HO0 HB0
  refine wpAnyL_one (i := 15) (by kernel_rfl) rfl (fun Ka hKa => ?_)
  go_simp
  refine hKa.out _ _ (fun _ => ⟨z2, z7⟩) ?_
  clear hKa Ka
  try simp only [Act.put, List.setIfInBounds_toArray, List.set_cons_zero, List.set_cons_succ]
  refine wpAnyL_one (i := 16) (by kernel_rfl) rfl (fun Ka hKa => ?_)
  go_simp
  refine hKa.out _ _ (fun _ => ⟨z2, z7⟩) ?_
  clear hKa Ka
  try simp only [Act.put, List.setIfInBounds_toArray, List.set_cons_zero, List.set_cons_succ]
  refine wpAnyL_one (i := 17) (by kernel_rfl) rfl (fun Ka hKa => ?_)
  go_simp
  refine hKa.out _ _ (fun _ => ⟨z2, z7⟩) ?_
  clear hKa Ka
  try simp only [Act.put, List.setIfInBounds_toArray, List.set_cons_zero, List.set_cons_succ]
  refine wpAnyL_one (i := 18) (by kernel_rfl) rfl (fun Ka hKa => ?_)
  go_simp
  refine hKa.out _ _ (fun h => absurd h (Bool.eq_false_iff.1 (by kernel_rfl))) ?_
  clear hKa Ka
  refine wpAnyL_done (by kernel_rfl) ?_ _
  generalize hW10 : World.setCell _ _ _ = W10
  have hD0 := HDd.out
  rw [HN.out] at hD0
  have hRl := hD0.relog (L' := A.log ++ [⟨vw, s⟩]) HF9.out HE9.out HX9.out hW10
  rw [← HV.out, HSz.out] at hRl
  have HA10 : Hid (NA W10 (fun k => S k ∨ w.heap.size ≤ k) p (A.add s) (.slice a1 (n + (0 + 1)) c1) mw mg mu mk) := hRl.1
  have HF10 : Hid (Fr w W10 (fun k => k = p ∨ (Value.slice ao n cc).ownBlock = some k)) := ((Fr.ofBelow HBd.out (fun _ => False)).mono (fun _ _ h => h.elim)).trans hRl.2 (fun _ _ h => h)
  have hok2 : (A.add s).ok := add_ok HO.out HLn.out
  have HOk2 : Hid (A.add s).ok := hok2
  have HU2 : Hid (A.add s).upOk := fun x v e => by
    have := HU.out x v e
    rw [add_last]
    exact ⟨this.1, this.2.1, by omega⟩
  have HOk3 : Hid (A.proposed s).ok := { (counted_ok hok2 HU2.out) with tk0 := Int.le_refl _ }
  have HLast : Hid ((A.proposed s).last = A.last + 1) := add_last A s
  clear hRl hD0 hW10 HDd HE9 HF9 HX9 z2 z7 g7 hok2 HV
  go_upto_region 5 with (go_at_call 72; refine (count_any HA10.out HOk2.out (fun x v e => ⟨(HU2.out x v e).1, (HU2.out x v e).2.1⟩)).mono ?_; rintro r w11 ⟨rfl, hA, hF11⟩; have HA11 : Hid (NA w11 (fun k => S k ∨ w.heap.size ≤ k) p (A.add s).counted (.slice a1 (n + (0 + 1)) c1) mw mg mu mk) := hA; have HF11 : Hid (Fr W10 w11 (fun k => k = p)) := hF11; clear hA hF11)
  obtain ⟨_, _, _, _, _, _, _, _, _, _, c10, _⟩ := HA11.out.cells
  have g10 := HA11.out.free 10
  go_upto_region 6 with (fail)
  generalize hW12 : World.setCell _ _ _ = W12
  have hE := HA11.out.setP 10 (.int .i64 0) (A' := A.proposed s) rfl rfl rfl rfl rfl
  rw [hW12] at hE
  have HA12 : Hid (NA W12 (fun k => S k ∨ w.heap.size ≤ k) p (A.proposed s) (.slice a1 (n + (0 + 1)) c1) mw mg mu mk) := hE.1
  have HF12 : Hid (Fr w W12 (fun k => k = p ∨ (Value.slice ao n cc).ownBlock = some k)) := (HF10.out.trans HF11.out (fun _ _ h => .inl h)).trans hE.2 (fun _ _ h => .inl h)
  clear hE hW12 c10 g10 HA11 HF11 HA10 HF10
  go_wp2_with (first
    | (go_at_call 73; refine (last_any HA12.out HOk3.out).mono ?_; rintro r w13 ⟨rfl, q13, rfl⟩; rw [HLast.out])
    | (go_at_call 74; refine Calls.mono (HT.out _ _ (HA12.out.dn q13)) ?_; rintro r w14 ⟨v, rfl, hR, hb14⟩; have HR : Hid (R v w14) := hR; have HB14 : Hid (Below (W12.drewN q13).heap.size (W12.drewN q13) w14) := hb14; clear hR hb14))
  go_ret3
  have hb := (below_dn W12 q13).trans (show Below W12.heap.size (W12.drewN q13) w14 from HB14.out)
  refine ⟨v, rfl, HR.out, ⟨_, _, _, _, _, HA12.out.new hb⟩, ?_⟩
  have := HF12.out.trans (Fr.ofBelow hb (fun _ => False)) (fun _ _ h => h.elim)
  rw [HN.out]
  exact this
end
end Go.Proofs.YtnhjflebaeokeaaGreat
end

section
/- A master alone: nobody is told anything; what it is proposed is committed at once. -/
namespace Go.Proofs.YtnhjflebaeokeaaGreat
open Go.RowKit Go.Maps
attribute [local go_sem] Oper.semAt_some
section
variable {w : World} {S : Nat → Prop} {p : Nat} {A : Nd} {lv : Value} {mw mg mu mk : Nat}
set_option maxHeartbeats 800000 in
theorem others_alone (h : NA w S p A lv mw mg mu mk) (h1 : A.all = 1) (h0 : A.me = 0) (f : Value) : Calls Tryz.prog 74 #[.pointer (some ⟨p, 0, none⟩), f] w fun r w' => r = .returned (.slice none 0 0) ∧ w' = w := by
  obtain ⟨c0, c1, _⟩ := h.cells
  rw [h1] at c1
  rw [h0] at c0
  clear h h1 h0
  go_enter Tryz.func74, Tryz.ntmps74
  go_wp2
  refine wp_loop_rounds 2 ?_
  rw [rounds_succ]
  go_wp2
  rw [rounds_succ]
  go_wp2
  go_ret
  exact ⟨rfl, rfl⟩
end
/-- A master alone, in its first view. -/
structure Alone (A : Nd) : Prop where
  ok : A.ok
  all : A.all = 1
  me : A.me = 0
  vw : A.vw = 0
  nm : A.nm = 0
  cm : A.cm = A.last
  up : ∀ x, A.upTo x = none
/-- A master alone in a set of blocks. -/
def AS (w : World) (S : Nat → Prop) (p : Nat) (A : Nd) : Prop := NdAt w S p A ∧ Alone A
theorem Alone.role {A : Nd} (h : Alone A) : A.role = 3 := by
  unfold Nd.role
  rw [h.nm, h.vw, h.all, h.me]
  decide
theorem Alone.upOk {A : Nd} (h : Alone A) : A.upOk := fun x v e => by rw [h.up x] at e; cases e
theorem alone_far {A : Nd} (h1 : A.all = 1) (h0 : A.me = 0) : (srt (farL A))[(A.all.toNat - 1) / 2]?.getD 0 = A.last := by
  have : farL A = [A.last] := by
    unfold farL
    rw [h1, h0]
    rfl
  rw [this, h1, show srt [A.last] = [A.last] from by unfold srt; exact List.mergeSort_singleton _]
  rfl
theorem Alone.born {bi bv : Int} {base : ByteArray} {L : List Ent} (h : mayN 0 1 0 0 bi L.length = true) : Alone (Nd.born 0 1 0 0 bi bv base L).counted := by
  have ok := born_ok (bv := bv) (base := base) h
  refine ⟨counted_ok ok (fun x v e => by cases e), rfl, rfl, rfl, rfl, ?_, fun x => rfl⟩
  show max bi _ = (Nd.born 0 1 0 0 bi bv base L).last
  rw [alone_far rfl rfl]
  show max bi (bi + (L.length : Int)) = bi + (L.length : Int)
  omega
theorem Alone.proposed {A : Nd} (h : Alone A) {s : ByteArray} (hl : A.log.length < 1000) : Alone (A.proposed s) := by
  have ok := add_ok (s := s) h.ok hl
  have hu : (A.add s).upOk := fun x v e => by have := h.up x; rw [show (A.add s).upTo x = A.upTo x from rfl, this] at e; cases e
  refine ⟨{ (counted_ok ok hu) with tk0 := Int.le_refl _ }, h.all, h.me, h.vw, h.nm, ?_, h.up⟩
  show max A.cm _ = (A.add s).last
  rw [alone_far (A := A.add s) h.all h.me, add_last, h.cm]
  omega
/-- A master alone in memory, from a block on. -/
def AL (w : World) (B p : Nat) (A : Nd) : Prop := NdAt w (fun k => B ≤ k) p A ∧ Alone A
theorem AL.new {w w' : World} {B p : Nat} {A : Nd} (h : AL w B p A) (hb : Below w.heap.size w w') : AL w' B p A := ⟨h.1.new hb, h.2⟩
section
variable {w : World} {B p : Nat} {A : Nd}
end
end Go.Proofs.YtnhjflebaeokeaaGreat
end

section
/- A master that is none; are numbers such? -/
namespace Go.Proofs.YtnhjflebaeokeaaGreat
open Go.RowKit Go.Maps
attribute [local go_sem] Oper.semAt_some
section
variable (w : World)
theorem size_hardv : (Tryz.prog.info? 66).map (·.size) = some 6 := by kernel_rfl
theorem hset6 {W : World} {q : Nat} {t : TypeId} {x0 x1 x2 x3 x4 x5 : Value} (a b c d e f : Value) (h : W.heap[q]? = some (.cells #[x0, x1, x2, x3, x4, x5] t (0, 0))) : ((((((W.setCell ⟨q, 0, none⟩ a).setCell ⟨q, 1, none⟩ b).setCell ⟨q, 2, none⟩ c).setCell ⟨q, 3, none⟩ d).setCell ⟨q, 4, none⟩ e).setCell ⟨q, 5, none⟩ f).heap[q]? = some (.cells #[a, b, c, d, e, f] t (0, 0)) := vblk_set (i := 5) f (vblk_set (i := 4) e (vblk_set (i := 3) d (vblk_set (i := 2) c (vblk_set (i := 1) b (vblk_set (i := 0) a h)))))
theorem hset6_fr (W : World) (q : Nat) (a b c d e f : Value) : Fr W ((((((W.setCell ⟨q, 0, none⟩ a).setCell ⟨q, 1, none⟩ b).setCell ⟨q, 2, none⟩ c).setCell ⟨q, 3, none⟩ d).setCell ⟨q, 4, none⟩ e).setCell ⟨q, 5, none⟩ f) (fun k => k = q) :=
  (Fr.setCell (S := fun k => k = q) _ ⟨q, 0, none⟩ a rfl).trans ((Fr.setCell (S := fun k => k = q) _ ⟨q, 1, none⟩ b rfl).trans ((Fr.setCell (S := fun k => k = q) _ ⟨q, 2, none⟩ c rfl).trans ((Fr.setCell (S := fun k => k = q) _ ⟨q, 3, none⟩ d rfl).trans ((Fr.setCell (S := fun k => k = q) _ ⟨q, 4, none⟩ e rfl).trans (Fr.setCell (S := fun k => k = q) _ ⟨q, 5, none⟩ f rfl) (fun _ _ h => h)) (fun _ _ h => h)) (fun _ _ h => h)) (fun _ _ h => h)) (fun _ _ h => h)
theorem hfree {W : World} {q : Nat} {cs : Array Value} {t : TypeId} (h : W.heap[q]? = some (.cells cs t (0, 0))) (i : Nat) : W.frozen? ⟨q, i, none⟩ = false := by simp [World.frozen?, h]
end
end Go.Proofs.YtnhjflebaeokeaaGreat
end

section
/- A snapshot is laid. -/
namespace Go.Proofs.YtnhjflebaeokeaaGreat
open Go.RowKit Go.Maps
attribute [local go_sem] Oper.semAt_some
def Nd.packed (A : Nd) (k : Nat) (e : Ent) (s : ByteArray) : Nd := { A with log := A.log.drop k, bi := A.bi + k, bv := e.v, base := s }
section
variable {w : World} {S : Nat → Prop} {p : Nat} {A : Nd} {lv : Value} {mw mg mu mk : Nat}
set_option maxHeartbeats 800000 in
theorem compact_no (h : NA w S p A lv mw mg mu mk) (ok : A.ok) {ix : Int} (hix : ix ≤ A.bi ∨ A.cm < ix) (s : ByteArray) : Calls Tryz.prog 38 #[.pointer (some ⟨p, 0, none⟩), .int .i64 ix, .string s] w fun r w' => r = .returned (.bool false) ∧ Below w.heap.size w w' := by
  have HE : Hid (Calls Tryz.prog 66 #[.pointer (some ⟨p, 0, none⟩), .int .i64 ix] w fun r w' => r = .returned (.tuple #[.agg #[.int .i64 0, .string (str [])], .bool false]) ∧ Below w.heap.size w w') := entry_out h ok hix
  clear h ok hix
  go_enter Tryz.func38, Tryz.ntmps38
  go_wp2_with (go_at_call 66; refine Calls.mono HE.out ?_; rintro r w1 ⟨rfl, hb1⟩; have HB1 : Hid (Below w.heap.size w w1) := hb1; clear hb1)
  go_ret
  exact ⟨rfl, HB1.out.trans ((vone_new _ _).mono HB1.out.size)⟩
set_option linter.unusedSimpArgs false in
set_option maxRecDepth 100000 in
set_option maxHeartbeats 2000000 in
theorem compact_yes (h : NA w S p A lv mw mg mu mk) (ok : A.ok) {ix : Int} {j : Nat} (hj : j < A.log.length) (hix : ix - A.bi - 1 = j) (hc : ix ≤ A.cm) (s : ByteArray) : Calls Tryz.prog 38 #[.pointer (some ⟨p, 0, none⟩), .int .i64 ix, .string s] w fun r w' => r = .returned (.bool true) ∧ NdAt w' (fun k => S k ∨ w.heap.size ≤ k) p (A.packed (j + 1) A.log[j] s) ∧ Fr w w' (fun k => k = p ∨ lv.ownBlock = some k) := by
  obtain ⟨e, he⟩ : ∃ e, A.log[j] = e := ⟨_, rfl⟩
  have HEn : Hid (Calls Tryz.prog 66 #[.pointer (some ⟨p, 0, none⟩), .int .i64 ix] w fun r w' => r = .returned (.tuple #[.agg #[.int .i64 e.v, .string e.s], .bool true]) ∧ Below w.heap.size w w') := by rw [← he]; exact entry_in h ok hj hix hc
  rw [he]
  have HH : Hid (NA w S p A lv mw mg mu mk) := h
  have HO : Hid A.ok := ok
  obtain ⟨ao, cc, rfl, hcc, -⟩ := h.log.shape
  have hl := ok.len
  have h0 := ok.bi0
  have h1 := ok.bi1
  obtain ⟨n, hn⟩ : ∃ n, A.log.length = n := ⟨_, rfl⟩
  have HN : Hid (A.log.length = n) := hn
  obtain ⟨bi, hbi⟩ : ∃ b, A.bi = b := ⟨_, rfl⟩
  have HBi : Hid (A.bi = bi) := hbi
  rw [hn] at hj hl hcc
  rw [hbi] at hix h0 h1
  have HIx : Hid (ix = bi + ((j + 1 : Nat) : Int)) := by show _ = _; omega
  have hx0 : 0 ≤ ix := by omega
  have hx1 : ix ≤ 2147485000 := by omega
  obtain ⟨jj, hjj⟩ : ∃ jj, j + 1 = jj := ⟨_, rfl⟩
  have HJJ : Hid (j + 1 = jj) := hjj
  have hjn : jj ≤ n := by omega
  have hxs : ix - bi = (jj : Int) := by omega
  have HXs : Hid (ix - bi = (jj : Int)) := hxs
  rw [hjj] at HIx ⊢
  clear h ok he hn hbi hc hix hxs hjj
  go_enter Tryz.func38, Tryz.ntmps38
  go_upto_region 4 with (go_at_call 66; refine Calls.mono HEn.out ?_; rintro r w1 ⟨rfl, hb1⟩; have HB1 : Hid (Below w.heap.size w w1) := hb1; clear hb1)
  generalize hW2 : World.alloc _ _ = W2
  have b2 : Below w1.heap.size w1 W2 := by rw [← hW2]; exact vone_new _ _
  have hQ : W2.heap[w1.heap.size]? = some (.cells #[.int .i64 e.v, .string e.s] 106 (0, 0)) := by rw [← hW2]; exact heap_alloc_new _ _
  obtain ⟨q, hq⟩ : ∃ q, w1.heap.size = q := ⟨_, rfl⟩
  rw [hq] at hQ ⊢
  obtain ⟨Wd, hWd⟩ : ∃ Wd, W2.drew = Wd := ⟨_, rfl⟩
  have bd : Below W2.heap.size W2 Wd := by rw [← hWd]; exact Below.drew (Below.refl _ _)
  have hQd := (bd.block q (vlt_blk hQ)).trans hQ
  have hb : Below w.heap.size w Wd := HB1.out.trans ((b2.mono HB1.out.size).trans (bd.mono (Nat.le_trans HB1.out.size b2.size)))
  have hD := HH.out.new hb
  rw [HN.out] at hD
  have hqw : w.heap.size ≤ q := by have := HB1.out.size; omega
  obtain ⟨_, _, _, _, x4, _, _, x7, _⟩ := hD.cells
  rw [HBi.out] at x4
  have HD : Hid (NA Wd S p A (.slice ao n cc) mw mg mu mk) := hD
  have HQ : Hid (Wd.heap[q]? = some (.cells #[.int .i64 e.v, .string e.s] 106 (0, 0))) := hQd
  have HB : Hid (Below w.heap.size w Wd) := hb
  clear hW2 b2 hQ bd hQd hb hD HB1 hq
  refine wp_calmV ?_
  refine wp_region_L [23] (fun w' : World => w'.cell? ⟨p, 4, none⟩ = some (.int .i64 bi) ∧ w'.cell? ⟨p, 7, none⟩ = some (.slice ao n cc)) (by kernel_rfl) ?_
  rw [hWd]
  clear hWd
  have hS : (fun w' : World => w'.cell? ⟨p, 4, none⟩ = some (.int .i64 bi) ∧ w'.cell? ⟨p, 7, none⟩ = some (.slice ao n cc)) Wd := ⟨x4, x7⟩
  have hxs := HXs.out
  have hw1 : IntKind.i64.wrap (jj : Int) = (jj : Int) := IntWalk.i64_in _ (by omega)
  refine wpAnyL_take (i := 0) 17 (v := .pointer (some ⟨p, 0, none⟩)) rfl rfl (by kernel_rfl) (by kernel_rfl) (by kernel_rfl) (by kernel_rfl) (by kernel_rfl) (by kernel_rfl) (fun _ _ _ h => h) hS (by rfl) (by intro w' hSw; obtain ⟨y0, y1⟩ := hSw; go_simp <;> with_reducible rfl) ?_
  simp only [Act.put, List.setIfInBounds_toArray, List.set_cons_zero, List.set_cons_succ]
  refine wpAnyL_take (i := 1) 18 (v := .pointer (some ⟨p, 0, none⟩)) rfl rfl (by kernel_rfl) (by kernel_rfl) (by kernel_rfl) (by kernel_rfl) (by kernel_rfl) (by kernel_rfl) (fun _ _ _ h => h) hS (by rfl) (by intro w' hSw; obtain ⟨y0, y1⟩ := hSw; go_simp <;> with_reducible rfl) ?_
  simp only [Act.put, List.setIfInBounds_toArray, List.set_cons_zero, List.set_cons_succ]
  refine wpAnyL_take (i := 2) 19 (v := .pointer (some ⟨p, 0, none⟩)) rfl rfl (by kernel_rfl) (by kernel_rfl) (by kernel_rfl) (by kernel_rfl) (by kernel_rfl) (by kernel_rfl) (fun _ _ _ h => h) hS (by rfl) (by intro w' hSw; obtain ⟨y0, y1⟩ := hSw; go_simp <;> with_reducible rfl) ?_
  simp only [Act.put, List.setIfInBounds_toArray, List.set_cons_zero, List.set_cons_succ]
  refine wpAnyL_take (i := 3) 20 (v := .pointer (some ⟨p, 2, none⟩)) rfl rfl (by kernel_rfl) (by kernel_rfl) (by kernel_rfl) (by kernel_rfl) (by kernel_rfl) (by kernel_rfl) (fun _ _ _ h => h) hS (by rfl) (by intro w' hSw; obtain ⟨y0, y1⟩ := hSw; go_simp <;> with_reducible rfl) ?_
  simp only [Act.put, List.setIfInBounds_toArray, List.set_cons_zero, List.set_cons_succ]
  refine wpAnyL_take (i := 4) 21 (v := .pointer (some ⟨p, 7, none⟩)) rfl rfl (by kernel_rfl) (by kernel_rfl) (by kernel_rfl) (by kernel_rfl) (by kernel_rfl) (by kernel_rfl) (fun _ _ _ h => h) hS (by rfl) (by intro w' hSw; obtain ⟨y0, y1⟩ := hSw; go_simp <;> with_reducible rfl) ?_
  simp only [Act.put, List.setIfInBounds_toArray, List.set_cons_zero, List.set_cons_succ]
  refine wpAnyL_take (i := 5) 22 (v := .slice ao n cc) rfl rfl (by kernel_rfl) (by kernel_rfl) (by kernel_rfl) (by kernel_rfl) (by kernel_rfl) (by kernel_rfl) (fun _ _ _ h => h) hS (by rfl) (by intro w' hSw; obtain ⟨y0, y1⟩ := hSw; go_simp <;> with_reducible rfl) ?_
  simp only [Act.put, List.setIfInBounds_toArray, List.set_cons_zero, List.set_cons_succ]
  refine wpAnyL_take (i := 6) 23 (v := .int .i64 ix) rfl rfl (by kernel_rfl) (by kernel_rfl) (by kernel_rfl) (by kernel_rfl) (by kernel_rfl) (by kernel_rfl) (fun _ _ _ h => h) hS (by rfl) (by intro w' hSw; obtain ⟨y0, y1⟩ := hSw; go_simp <;> with_reducible rfl) ?_
  simp only [Act.put, List.setIfInBounds_toArray, List.set_cons_zero, List.set_cons_succ]
  refine wpAnyL_take (i := 7) 24 (v := .pointer (some ⟨p, 0, none⟩)) rfl rfl (by kernel_rfl) (by kernel_rfl) (by kernel_rfl) (by kernel_rfl) (by kernel_rfl) (by kernel_rfl) (fun _ _ _ h => h) hS (by rfl) (by intro w' hSw; obtain ⟨y0, y1⟩ := hSw; go_simp <;> with_reducible rfl) ?_
  simp only [Act.put, List.setIfInBounds_toArray, List.set_cons_zero, List.set_cons_succ]
  refine wpAnyL_take (i := 8) 25 (v := .pointer (some ⟨p, 0, none⟩)) rfl rfl (by kernel_rfl) (by kernel_rfl) (by kernel_rfl) (by kernel_rfl) (by kernel_rfl) (by kernel_rfl) (fun _ _ _ h => h) hS (by rfl) (by intro w' hSw; obtain ⟨y0, y1⟩ := hSw; go_simp <;> with_reducible rfl) ?_
  simp only [Act.put, List.setIfInBounds_toArray, List.set_cons_zero, List.set_cons_succ]
  refine wpAnyL_take (i := 9) 26 (v := .pointer (some ⟨p, 2, none⟩)) rfl rfl (by kernel_rfl) (by kernel_rfl) (by kernel_rfl) (by kernel_rfl) (by kernel_rfl) (by kernel_rfl) (fun _ _ _ h => h) hS (by rfl) (by intro w' hSw; obtain ⟨y0, y1⟩ := hSw; go_simp <;> with_reducible rfl) ?_
  simp only [Act.put, List.setIfInBounds_toArray, List.set_cons_zero, List.set_cons_succ]
  refine wpAnyL_take (i := 10) 27 (v := .pointer (some ⟨p, 4, none⟩)) rfl rfl (by kernel_rfl) (by kernel_rfl) (by kernel_rfl) (by kernel_rfl) (by kernel_rfl) (by kernel_rfl) (fun _ _ _ h => h) hS (by rfl) (by intro w' hSw; obtain ⟨y0, y1⟩ := hSw; go_simp <;> with_reducible rfl) ?_
  simp only [Act.put, List.setIfInBounds_toArray, List.set_cons_zero, List.set_cons_succ]
  refine wpAnyL_take (i := 11) 28 (v := .int .i64 bi) rfl rfl (by kernel_rfl) (by kernel_rfl) (by kernel_rfl) (by kernel_rfl) (by kernel_rfl) (by kernel_rfl) (fun _ _ _ h => h) hS (by rfl) (by intro w' hSw; obtain ⟨y0, y1⟩ := hSw; go_simp <;> with_reducible rfl) ?_
  simp only [Act.put, List.setIfInBounds_toArray, List.set_cons_zero, List.set_cons_succ]
  refine wpAnyL_take (i := 12) 29 (v := .int .i64 (jj : Int)) rfl rfl (by kernel_rfl) (by kernel_rfl) (by kernel_rfl) (by kernel_rfl) (by kernel_rfl) (by kernel_rfl) (fun _ _ _ h => h) hS (by rfl) (by intro w' hSw; obtain ⟨y0, y1⟩ := hSw; go_simp <;> with_reducible rfl) ?_
  simp only [Act.put, List.setIfInBounds_toArray, List.set_cons_zero, List.set_cons_succ]
  refine wpAnyL_take (i := 13) 30 (v := .pointer (some ⟨p, 0, none⟩)) rfl rfl (by kernel_rfl) (by kernel_rfl) (by kernel_rfl) (by kernel_rfl) (by kernel_rfl) (by kernel_rfl) (fun _ _ _ h => h) hS (by rfl) (by intro w' hSw; obtain ⟨y0, y1⟩ := hSw; go_simp <;> with_reducible rfl) ?_
  simp only [Act.put, List.setIfInBounds_toArray, List.set_cons_zero, List.set_cons_succ]
  refine wpAnyL_take (i := 14) 31 (v := .pointer (some ⟨p, 0, none⟩)) rfl rfl (by kernel_rfl) (by kernel_rfl) (by kernel_rfl) (by kernel_rfl) (by kernel_rfl) (by kernel_rfl) (fun _ _ _ h => h) hS (by rfl) (by intro w' hSw; obtain ⟨y0, y1⟩ := hSw; go_simp <;> with_reducible rfl) ?_
  simp only [Act.put, List.setIfInBounds_toArray, List.set_cons_zero, List.set_cons_succ]
  refine wpAnyL_take (i := 15) 32 (v := .pointer (some ⟨p, 2, none⟩)) rfl rfl (by kernel_rfl) (by kernel_rfl) (by kernel_rfl) (by kernel_rfl) (by kernel_rfl) (by kernel_rfl) (fun _ _ _ h => h) hS (by rfl) (by intro w' hSw; obtain ⟨y0, y1⟩ := hSw; go_simp <;> with_reducible rfl) ?_
  simp only [Act.put, List.setIfInBounds_toArray, List.set_cons_zero, List.set_cons_succ]
  refine wpAnyL_take (i := 16) 33 (v := .pointer (some ⟨p, 7, none⟩)) rfl rfl (by kernel_rfl) (by kernel_rfl) (by kernel_rfl) (by kernel_rfl) (by kernel_rfl) (by kernel_rfl) (fun _ _ _ h => h) hS (by rfl) (by intro w' hSw; obtain ⟨y0, y1⟩ := hSw; go_simp <;> with_reducible rfl) ?_
  simp only [Act.put, List.setIfInBounds_toArray, List.set_cons_zero, List.set_cons_succ]
  refine wpAnyL_take (i := 17) 34 (v := .slice ao n cc) rfl rfl (by kernel_rfl) (by kernel_rfl) (by kernel_rfl) (by kernel_rfl) (by kernel_rfl) (by kernel_rfl) (fun _ _ _ h => h) hS (by rfl) (by intro w' hSw; obtain ⟨y0, y1⟩ := hSw; go_simp <;> with_reducible rfl) ?_
  simp only [Act.put, List.setIfInBounds_toArray, List.set_cons_zero, List.set_cons_succ]
  refine wpAnyL_take (i := 18) 35 (v := .int .i64 (n : Int)) rfl rfl (by kernel_rfl) (by kernel_rfl) (by kernel_rfl) (by kernel_rfl) (by kernel_rfl) (by kernel_rfl) (fun _ _ _ h => h) hS (by rfl) (by intro w' hSw; obtain ⟨y0, y1⟩ := hSw; go_simp <;> with_reducible rfl) ?_
  simp only [Act.put, List.setIfInBounds_toArray, List.set_cons_zero, List.set_cons_succ]
  clear hxs hw1
  have hES : EnS Wd (.slice ao n cc) A.log := HD.out.log.toS
  have HES : Hid (EnS Wd (.slice ao n cc) A.log) := hES
  clear hES
  refine wpAnyL_one (i := 19) (by kernel_rfl) rfl (fun Ka hKa => ?_)
  go_simp
  refine Calls.mono (cut_any (a := jj) (b := n) HES.out (by omega) (by rw [HN.out]; exact Nat.le_refl _) (by rw [HN.out]; omega)) ?_
  rintro r w4 ⟨lv', rfl, hE4, hb4⟩
  have hT : (A.log.take n).drop jj = A.log.drop jj := by rw [List.take_of_length_le (by rw [HN.out]; exact Nat.le_refl _)]
  rw [hT] at hE4
  obtain ⟨a4, c4, e4, _⟩ := hE4.shape
  have hdl : (A.log.drop jj).length = n - jj := by rw [List.length_drop, HN.out]
  rw [hdl] at e4
  subst e4
  have z4 := (hb4.cell (p := ⟨p, 4, none⟩) (vlt_cell x4)).trans x4
  have z7 := (hb4.cell (p := ⟨p, 7, none⟩) (vlt_cell x7)).trans x7
  have g7 : w4.frozen? ⟨p, 7, none⟩ = false := (HD.out.new hb4).free 7
  have HE4 : Hid (EnO w4 Wd.heap.size (.slice a4 (n - jj) c4) (A.log.drop jj)) := hE4
  have HB4 : Hid (Below Wd.heap.size Wd w4) := hb4
  refine hKa.out _ _ (fun _ => ⟨z4, z7⟩) ?_
  clear hKa Ka hE4 hb4 hT hdl hS x4 x7 HES
  try simp only [Act.put, List.setIfInBounds_toArray, List.set_cons_zero, List.set_cons_succ]
  have hS4 : (fun w' : World => w'.cell? ⟨p, 4, none⟩ = some (.int .i64 bi) ∧ w'.cell? ⟨p, 7, none⟩ = some (.slice ao n cc)) w4 := ⟨z4, z7⟩
  refine wpAnyL_take (i := 20) 37 (v := .pointer (some ⟨p, 0, none⟩)) rfl rfl (by kernel_rfl) (by kernel_rfl) (by kernel_rfl) (by kernel_rfl) (by kernel_rfl) (by kernel_rfl) (fun _ _ _ h => h) hS4 (by rfl) (by intro w' hSw; obtain ⟨y0, y1⟩ := hSw; go_simp <;> with_reducible rfl) ?_
  simp only [Act.put, List.setIfInBounds_toArray, List.set_cons_zero, List.set_cons_succ]
  refine wpAnyL_take (i := 21) 38 (v := .pointer (some ⟨p, 2, none⟩)) rfl rfl (by kernel_rfl) (by kernel_rfl) (by kernel_rfl) (by kernel_rfl) (by kernel_rfl) (by kernel_rfl) (fun _ _ _ h => h) hS4 (by rfl) (by intro w' hSw; obtain ⟨y0, y1⟩ := hSw; go_simp <;> with_reducible rfl) ?_
  simp only [Act.put, List.setIfInBounds_toArray, List.set_cons_zero, List.set_cons_succ]
  refine wpAnyL_take (i := 22) 39 (v := .pointer (some ⟨p, 7, none⟩)) rfl rfl (by kernel_rfl) (by kernel_rfl) (by kernel_rfl) (by kernel_rfl) (by kernel_rfl) (by kernel_rfl) (fun _ _ _ h => h) hS4 (by rfl) (by intro w' hSw; obtain ⟨y0, y1⟩ := hSw; go_simp <;> with_reducible rfl) ?_
  simp only [Act.put, List.setIfInBounds_toArray, List.set_cons_zero, List.set_cons_succ]
  refine wpAnyL_one (i := 23) (by kernel_rfl) rfl (fun Ka hKa => ?_)
  go_simp
  refine hKa.out _ _ (fun h => absurd h (Bool.eq_false_iff.1 (by kernel_rfl))) ?_
  clear hKa Ka
  refine wpAnyL_done (by kernel_rfl) ?_ _
  generalize hW5 : World.setCell _ _ _ = W5
  have hRl := HD.out.relog (L' := A.log.drop jj) (Fr.ofBelow HB4.out _) (HE4.out.low (Nat.zero_le _)) (fun k hk => .inr (vrow_tag HE4.out hk).1) hW5
  have hlt5 : q < Wd.heap.size := vlt_blk HQ.out
  have hqp : q ≠ p := fun e => by
    have h1 := HQ.out
    rw [e, HD.out.blk] at h1
    injection h1 with h1
    injection h1 with _ h2
    exact absurd h2 (by decide)
  have hQ5 : W5.heap[q]? = some (.cells #[.int .i64 e.v, .string e.s] 106 (0, 0)) := by
    rw [← hW5]
    exact ((Fr.setCell (S := fun k => k = p) _ ⟨p, 7, none⟩ _ rfl).block q (Nat.lt_of_lt_of_le hlt5 HB4.out.size) hqp).trans ((HB4.out.block q hlt5).trans HQ.out)
  have HF5 : Hid (Fr w W5 (fun k => k = p ∨ (Value.slice ao n cc).ownBlock = some k)) := ((Fr.ofBelow HB.out (fun _ => False)).mono (fun _ _ h => h.elim)).trans hRl.2 (fun _ _ h => h)
  have HA5 : Hid (NA W5 (fun k => S k ∨ Wd.heap.size ≤ k) p { A with log := A.log.drop jj } (.slice a4 (n - jj) c4) mw mg mu mk) := hRl.1
  have HSz : Hid (w.heap.size ≤ Wd.heap.size) := HB.out.size
  clear hRl hW5 HE4 HB4 HD HB HQ z4 z7 g7 hS4 hlt5
  generalize Wd = Wd0 at *
  go_upto_region 5 with (fail)
  obtain ⟨Wd, hWd⟩ : ∃ Wd, W5.drew = Wd := ⟨_, rfl⟩
  have bd : Below W5.heap.size W5 Wd := by rw [← hWd]; exact Below.drew (Below.refl _ _)
  have hA := HA5.out.new bd
  have hQd := (bd.block q (vlt_blk hQ5)).trans hQ5
  obtain ⟨_, _, _, _, x4, x5, x6, _⟩ := hA.cells
  have g4 := hA.free 4
  have xq : Wd.cell? ⟨q, 0, none⟩ = some (.int .i64 e.v) := vcell_blk hQd
  have HA : Hid (NA Wd (fun k => S k ∨ Wd0.heap.size ≤ k) p { A with log := A.log.drop jj } (.slice a4 (n - jj) c4) mw mg mu mk) := hA
  have HBd : Hid (Below W5.heap.size W5 Wd) := bd
  clear hA hQd hQ5 bd HA5
  refine wp_calmV ?_
  refine wp_region_L [18] (fun w' : World => w'.cell? ⟨q, 0, none⟩ = some (.int .i64 e.v)) (by kernel_rfl) ?_
  rw [hWd]
  clear hWd
  have hS : (fun w' : World => w'.cell? ⟨q, 0, none⟩ = some (.int .i64 e.v)) Wd := xq
  refine wpAnyL_take (i := 0) 40 (v := .pointer (some ⟨p, 0, none⟩)) rfl rfl (by kernel_rfl) (by kernel_rfl) (by kernel_rfl) (by kernel_rfl) (by kernel_rfl) (by kernel_rfl) (fun _ _ _ h => h) hS (by rfl) (by intro w' hSw; have y0 := hSw; go_simp <;> with_reducible rfl) ?_
  simp only [Act.put, List.setIfInBounds_toArray, List.set_cons_zero, List.set_cons_succ]
  refine wpAnyL_take (i := 1) 41 (v := .pointer (some ⟨p, 0, none⟩)) rfl rfl (by kernel_rfl) (by kernel_rfl) (by kernel_rfl) (by kernel_rfl) (by kernel_rfl) (by kernel_rfl) (fun _ _ _ h => h) hS (by rfl) (by intro w' hSw; have y0 := hSw; go_simp <;> with_reducible rfl) ?_
  simp only [Act.put, List.setIfInBounds_toArray, List.set_cons_zero, List.set_cons_succ]
  refine wpAnyL_take (i := 2) 42 (v := .pointer (some ⟨p, 0, none⟩)) rfl rfl (by kernel_rfl) (by kernel_rfl) (by kernel_rfl) (by kernel_rfl) (by kernel_rfl) (by kernel_rfl) (fun _ _ _ h => h) hS (by rfl) (by intro w' hSw; have y0 := hSw; go_simp <;> with_reducible rfl) ?_
  simp only [Act.put, List.setIfInBounds_toArray, List.set_cons_zero, List.set_cons_succ]
  refine wpAnyL_take (i := 3) 43 (v := .int .i64 ix) rfl rfl (by kernel_rfl) (by kernel_rfl) (by kernel_rfl) (by kernel_rfl) (by kernel_rfl) (by kernel_rfl) (fun _ _ _ h => h) hS (by rfl) (by intro w' hSw; have y0 := hSw; go_simp <;> with_reducible rfl) ?_
  simp only [Act.put, List.setIfInBounds_toArray, List.set_cons_zero, List.set_cons_succ]
  refine wpAnyL_take (i := 4) 44 (v := .pointer (some ⟨q, 0, none⟩)) rfl rfl (by kernel_rfl) (by kernel_rfl) (by kernel_rfl) (by kernel_rfl) (by kernel_rfl) (by kernel_rfl) (fun _ _ _ h => h) hS (by rfl) (by intro w' hSw; have y0 := hSw; go_simp <;> with_reducible rfl) ?_
  simp only [Act.put, List.setIfInBounds_toArray, List.set_cons_zero, List.set_cons_succ]
  refine wpAnyL_take (i := 5) 45 (v := .int .i64 e.v) rfl rfl (by kernel_rfl) (by kernel_rfl) (by kernel_rfl) (by kernel_rfl) (by kernel_rfl) (by kernel_rfl) (fun _ _ _ h => h) hS (by rfl) (by intro w' hSw; have y0 := hSw; go_simp <;> with_reducible rfl) ?_
  simp only [Act.put, List.setIfInBounds_toArray, List.set_cons_zero, List.set_cons_succ]
  refine wpAnyL_take (i := 6) 46 (v := .string s) rfl rfl (by kernel_rfl) (by kernel_rfl) (by kernel_rfl) (by kernel_rfl) (by kernel_rfl) (by kernel_rfl) (fun _ _ _ h => h) hS (by rfl) (by intro w' hSw; have y0 := hSw; go_simp <;> with_reducible rfl) ?_
  simp only [Act.put, List.setIfInBounds_toArray, List.set_cons_zero, List.set_cons_succ]
  refine wpAnyL_take (i := 7) 47 (v := .pointer (some ⟨p, 0, none⟩)) rfl rfl (by kernel_rfl) (by kernel_rfl) (by kernel_rfl) (by kernel_rfl) (by kernel_rfl) (by kernel_rfl) (fun _ _ _ h => h) hS (by rfl) (by intro w' hSw; have y0 := hSw; go_simp <;> with_reducible rfl) ?_
  simp only [Act.put, List.setIfInBounds_toArray, List.set_cons_zero, List.set_cons_succ]
  refine wpAnyL_take (i := 8) 48 (v := .pointer (some ⟨p, 2, none⟩)) rfl rfl (by kernel_rfl) (by kernel_rfl) (by kernel_rfl) (by kernel_rfl) (by kernel_rfl) (by kernel_rfl) (fun _ _ _ h => h) hS (by rfl) (by intro w' hSw; have y0 := hSw; go_simp <;> with_reducible rfl) ?_
  simp only [Act.put, List.setIfInBounds_toArray, List.set_cons_zero, List.set_cons_succ]
  refine wpAnyL_take (i := 9) 49 (v := .pointer (some ⟨p, 4, none⟩)) rfl rfl (by kernel_rfl) (by kernel_rfl) (by kernel_rfl) (by kernel_rfl) (by kernel_rfl) (by kernel_rfl) (fun _ _ _ h => h) hS (by rfl) (by intro w' hSw; have y0 := hSw; go_simp <;> with_reducible rfl) ?_
  simp only [Act.put, List.setIfInBounds_toArray, List.set_cons_zero, List.set_cons_succ]
  have pq : q ≠ p := hqp
  refine wpAnyL_one (i := 10) (by kernel_rfl) rfl (fun Ka hKa => ?_)
  go_simp
  obtain ⟨A1, hA1⟩ : ∃ A1 : Nd, { A with log := A.log.drop jj, bi := ix } = A1 := ⟨_, rfl⟩
  have h1 := HA.out.setP 4 (.int .i64 ix) (A' := A1) (by rw [← hA1]; rfl) (by rw [← hA1]) (by rw [← hA1]) (by rw [← hA1]) (by rw [← hA1])
  obtain ⟨Wa, hWa⟩ : ∃ Wa, Wd.setCell ⟨p, 4, none⟩ (.int .i64 ix) = Wa := ⟨_, rfl⟩
  rw [hWa] at h1 ⊢
  have xqa : Wa.cell? ⟨q, 0, none⟩ = some (.int .i64 e.v) := vfr_cell h1.2 (S := fun k => k = p) pq xq
  obtain ⟨_, _, _, _, _, y5, _⟩ := h1.1.cells
  have g5 := h1.1.free 5
  have HA1 : Hid (NA Wa (fun k => S k ∨ Wd0.heap.size ≤ k) p A1 (.slice a4 (n - jj) c4) mw mg mu mk) := h1.1
  have HF1 : Hid (Fr Wd Wa (fun k => k = p)) := h1.2
  have HE1 : Hid ({ A with log := A.log.drop jj, bi := ix } = A1) := hA1
  refine hKa.out _ _ (fun _ => xqa) ?_
  clear hKa Ka h1 hWa hA1 hS xq x4 x5 x6 g4
  try simp only [Act.put, List.setIfInBounds_toArray, List.set_cons_zero, List.set_cons_succ]
  have hSa : (fun w' : World => w'.cell? ⟨q, 0, none⟩ = some (.int .i64 e.v)) Wa := xqa
  refine wpAnyL_take (i := 11) 50 (v := .pointer (some ⟨p, 0, none⟩)) rfl rfl (by kernel_rfl) (by kernel_rfl) (by kernel_rfl) (by kernel_rfl) (by kernel_rfl) (by kernel_rfl) (fun _ _ _ h => h) hSa (by rfl) (by intro w' hSw; have y0 := hSw; go_simp <;> with_reducible rfl) ?_
  simp only [Act.put, List.setIfInBounds_toArray, List.set_cons_zero, List.set_cons_succ]
  refine wpAnyL_take (i := 12) 51 (v := .pointer (some ⟨p, 2, none⟩)) rfl rfl (by kernel_rfl) (by kernel_rfl) (by kernel_rfl) (by kernel_rfl) (by kernel_rfl) (by kernel_rfl) (fun _ _ _ h => h) hSa (by rfl) (by intro w' hSw; have y0 := hSw; go_simp <;> with_reducible rfl) ?_
  simp only [Act.put, List.setIfInBounds_toArray, List.set_cons_zero, List.set_cons_succ]
  refine wpAnyL_take (i := 13) 52 (v := .pointer (some ⟨p, 5, none⟩)) rfl rfl (by kernel_rfl) (by kernel_rfl) (by kernel_rfl) (by kernel_rfl) (by kernel_rfl) (by kernel_rfl) (fun _ _ _ h => h) hSa (by rfl) (by intro w' hSw; have y0 := hSw; go_simp <;> with_reducible rfl) ?_
  simp only [Act.put, List.setIfInBounds_toArray, List.set_cons_zero, List.set_cons_succ]
  refine wpAnyL_one (i := 14) (by kernel_rfl) rfl (fun Ka hKa => ?_)
  go_simp
  obtain ⟨A2, hA2⟩ : ∃ A2 : Nd, { A1 with bv := e.v } = A2 := ⟨_, rfl⟩
  have h2 := HA1.out.setP 5 (.int .i64 e.v) (A' := A2) (by rw [← hA2]; rfl) (by rw [← hA2]) (by rw [← hA2]) (by rw [← hA2]) (by rw [← hA2])
  obtain ⟨Wb, hWb⟩ : ∃ Wb, Wa.setCell ⟨p, 5, none⟩ (.int .i64 e.v) = Wb := ⟨_, rfl⟩
  rw [hWb] at h2 ⊢
  have xqb : Wb.cell? ⟨q, 0, none⟩ = some (.int .i64 e.v) := vfr_cell h2.2 (S := fun k => k = p) pq xqa
  obtain ⟨_, _, _, _, _, _, z6, _⟩ := h2.1.cells
  have g6 := h2.1.free 6
  have HA2 : Hid (NA Wb (fun k => S k ∨ Wd0.heap.size ≤ k) p A2 (.slice a4 (n - jj) c4) mw mg mu mk) := h2.1
  have HF2 : Hid (Fr Wd Wb (fun k => k = p)) := HF1.out.trans h2.2 (fun _ _ h => h)
  have HE2 : Hid ({ A1 with bv := e.v } = A2) := hA2
  refine hKa.out _ _ (fun _ => xqb) ?_
  clear hKa Ka h2 hWb hA2 hSa xqa y5 g5 HA1 HF1
  try simp only [Act.put, List.setIfInBounds_toArray, List.set_cons_zero, List.set_cons_succ]
  have hSb : (fun w' : World => w'.cell? ⟨q, 0, none⟩ = some (.int .i64 e.v)) Wb := xqb
  refine wpAnyL_take (i := 15) 53 (v := .pointer (some ⟨p, 0, none⟩)) rfl rfl (by kernel_rfl) (by kernel_rfl) (by kernel_rfl) (by kernel_rfl) (by kernel_rfl) (by kernel_rfl) (fun _ _ _ h => h) hSb (by rfl) (by intro w' hSw; have y0 := hSw; go_simp <;> with_reducible rfl) ?_
  simp only [Act.put, List.setIfInBounds_toArray, List.set_cons_zero, List.set_cons_succ]
  refine wpAnyL_take (i := 16) 54 (v := .pointer (some ⟨p, 2, none⟩)) rfl rfl (by kernel_rfl) (by kernel_rfl) (by kernel_rfl) (by kernel_rfl) (by kernel_rfl) (by kernel_rfl) (fun _ _ _ h => h) hSb (by rfl) (by intro w' hSw; have y0 := hSw; go_simp <;> with_reducible rfl) ?_
  simp only [Act.put, List.setIfInBounds_toArray, List.set_cons_zero, List.set_cons_succ]
  refine wpAnyL_take (i := 17) 55 (v := .pointer (some ⟨p, 6, none⟩)) rfl rfl (by kernel_rfl) (by kernel_rfl) (by kernel_rfl) (by kernel_rfl) (by kernel_rfl) (by kernel_rfl) (fun _ _ _ h => h) hSb (by rfl) (by intro w' hSw; have y0 := hSw; go_simp <;> with_reducible rfl) ?_
  simp only [Act.put, List.setIfInBounds_toArray, List.set_cons_zero, List.set_cons_succ]
  refine wpAnyL_one (i := 18) (by kernel_rfl) rfl (fun Ka hKa => ?_)
  go_simp
  refine hKa.out _ _ (fun h => absurd h (Bool.eq_false_iff.1 (by kernel_rfl))) ?_
  clear hKa Ka
  refine wpAnyL_done (by kernel_rfl) ?_ _
  have h3 := HA2.out.setP 6 (.string s) (A' := A.packed jj e s) (by rw [← HE2.out, ← HE1.out]; show _ = ndCells _ _ _ _ _ _; unfold Nd.packed; rw [HBi.out, ← HIx.out]; rfl) (by rw [← HE2.out, ← HE1.out]; rfl) (by rw [← HE2.out, ← HE1.out]; rfl) (by rw [← HE2.out, ← HE1.out]; rfl) (by rw [← HE2.out, ← HE1.out]; rfl)
  obtain ⟨Wc, hWc⟩ : ∃ Wc, Wb.setCell ⟨p, 6, none⟩ (.string s) = Wc := ⟨_, rfl⟩
  rw [hWc] at h3 ⊢
  have HA3 : Hid (NA Wc (fun k => S k ∨ Wd0.heap.size ≤ k) p (A.packed jj e s) (.slice a4 (n - jj) c4) mw mg mu mk) := h3.1
  have HF3 : Hid (Fr Wd Wc (fun k => k = p)) := HF2.out.trans h3.2 (fun _ _ h => h)
  clear h3 hWc hSb xqb z6 g6 HA2 HF2
  go_wp2
  go_ret
  refine ⟨rfl, ⟨_, _, _, _, _, HA3.out.mono (fun k _ h => ?_)⟩, ?_⟩
  · rcases h with h | h
    · exact .inl h
    · exact .inr (Nat.le_trans HSz.out h)
  · rw [HN.out]
    exact (HF5.out.trans (Fr.ofBelow HBd.out (fun _ => False)) (fun _ _ h => h.elim)).trans HF3.out (fun _ _ h => .inl h)
end
end Go.Proofs.YtnhjflebaeokeaaGreat
end
