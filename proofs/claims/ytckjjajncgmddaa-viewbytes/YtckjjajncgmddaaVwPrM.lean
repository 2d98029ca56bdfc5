import Derived.Test.YtckjjajncgmddaaVwNw2M
/- An entry is proposed. -/
namespace Go.Proofs.Ytckjjajncgmddaa
open Go.RowKit Go.Maps
attribute [local go_sem] Oper.semAt_some
/-- The log with an entry more. -/
def Nd.add (A : Nd) (s : ByteArray) : Nd := { A with log := A.log ++ [⟨A.vw, s⟩] }
def Nd.proposed (A : Nd) (s : ByteArray) : Nd := { (A.add s).counted with tk := 0 }
theorem add_last (A : Nd) (s : ByteArray) : (A.add s).last = A.last + 1 := by
  show A.bi + ((A.log ++ [⟨A.vw, s⟩] : List Ent).length : Int) = A.bi + (A.log.length : Int) + 1
  rw [List.length_append]
  simp
  omega
theorem add_ok {A : Nd} (ok : A.ok) {s : ByteArray} (h : A.log.length < 1000) : (A.add s).ok := by
  have hl := add_last A s
  refine { ok with len := ?_, cm1 := ?_ }
  · show (A.log ++ [⟨A.vw, s⟩] : List Ent).length ≤ 1000
    rw [List.length_append]
    simp
    omega
  · rw [hl]
    have := ok.cm1
    show A.cm ≤ _
    omega
/-- How far all have the log, at most up to the last. -/
def Nd.upOk (A : Nd) : Prop := ∀ x v, A.upTo x = some v → 0 ≤ x ∧ x < A.all ∧ v ≤ A.last
theorem far_le {A : Nd} (ok : A.ok) (hu : A.upOk) : ∀ v ∈ farL A, v ≤ A.last := by
  intro v hv
  unfold farL at hv
  obtain ⟨i, hi, rfl⟩ := List.mem_map.1 hv
  have h0 : 0 ≤ A.last := by have := ok.bi0; unfold Nd.last; omega
  split
  · exact Int.le_refl _
  · cases e : A.upTo i with
    | none => exact h0
    | some v => exact (hu _ _ e).2.2
theorem counted_ok {A : Nd} (ok : A.ok) (hu : A.upOk) : A.counted.ok := by
  have h0 : 0 ≤ A.last := by have := ok.bi0; unfold Nd.last; omega
  have hm : (srt (farL A))[(A.all.toNat - 1) / 2]?.getD 0 ≤ A.last := by
    cases e : (srt (farL A))[(A.all.toNat - 1) / 2]? with
    | none => exact h0
    | some v =>
      have h1 := List.mem_of_getElem? e
      unfold srt at h1
      exact far_le ok hu v (List.mem_mergeSort.1 h1)
  refine { ok with cm0 := ?_, cm1 := ?_ }
  · show A.bi ≤ max A.cm _
    have := ok.cm0
    omega
  · show max A.cm _ ≤ A.last
    have := ok.cm1
    omega
section
variable {w : World} {S : Nat → Prop} {p : Nat} {A : Nd} {lv : Value} {mw mg mu mk : Nat}
/-- The log lies elsewhere, or is longer. -/
theorem NA.relog {V W : World} (h : NA w S p A lv mw mg mu mk) {lv' : Value} {L' : List Ent} (f1 : Fr w V (fun k => lv.ownBlock = some k)) (hE : EnO V 0 lv' L') (hloc : ∀ k, lv'.ownBlock = some k → lv.ownBlock = some k ∨ w.heap.size ≤ k) (hW : V.setCell ⟨p, 7, none⟩ lv' = W) :
    NA W (fun k => S k ∨ w.heap.size ≤ k) p { A with log := L' } lv' mw mg mu mk ∧ Fr w W (fun k => k = p ∨ lv.ownBlock = some k) := by
  obtain ⟨p1, p2, p3, p4⟩ := h.pmap
  have hl := fun k hk => h.lrow (k := k) hk
  have fs : Fr V W (fun k => k = p) := by rw [← hW]; exact Fr.setCell (S := fun k => k = p) _ ⟨p, 7, none⟩ _ rfl
  have ff : Fr w W (fun k => k = p ∨ lv.ownBlock = some k) := (f1.mono (fun _ _ h => .inr h)).trans fs (fun _ _ h => .inl h)
  have hP : V.heap[p]? = _ := (f1.block p h.plt (fun e => (hl p e).1 rfl)).trans h.blk
  have hnp : ∀ k, lv'.ownBlock = some k → k ≠ p := fun k hk e => by
    obtain ⟨_, c, fz, ht⟩ := vrow_tag hE hk
    subst e
    rw [hP] at ht
    cases ht
  refine ⟨⟨?_, hE.kept fs (fun k hk e => hnp k hk e), ?_, ?_, ?_, ?_, .inl h.sp, fun k hk => ?_, .inl h.sw, .inl h.sg, .inl h.su, .inl h.sk, h.wg, h.wu, h.wk, h.gu, h.gk, h.uk⟩, ff⟩
  · rw [← hW]; exact vblk_set (i := 7) _ hP
  · exact h.wants.kept ff (fun e => by rcases e with e | e; exact p1 e.symm; exact (hl _ e).2.1 rfl)
  · refine (h.given.move ff (fun e => by rcases e with e | e; exact p2 e.symm; exact (hl _ e).2.2.1 rfl) (fun k hu hs hk => ?_) hloc).mono (fun k _ h => .inl h)
    rcases hu with hu | hu
    · exact .inr (fun c fz e => by subst hu; rw [h.blk] at e; cases e)
    · exact .inl hu
  · exact h.upTo.kept ff (fun e => by rcases e with e | e; exact p3 e.symm; exact (hl _ e).2.2.2.1 rfl)
  · exact h.kinds.kept ff (fun e => by rcases e with e | e; exact p4 e.symm; exact (hl _ e).2.2.2.2 rfl)
  · rcases hloc k hk with h1 | h1
    · exact .inl (h.sl k h1)
    · exact .inr h1
set_option linter.unusedSimpArgs false in
set_option maxRecDepth 100000 in
set_option maxHeartbeats 2000000 in
theorem propose_core (h : NA w S p A lv mw mg mu mk) (ok : A.ok) (hu : A.upOk) (hr : A.role = 3) (hlen : A.log.length < 1000) {s : ByteArray} {R : Value → World → Prop}
    (hT : ∀ W lv', NA W (fun k => S k ∨ w.heap.size ≤ k) p (A.proposed s) lv' mw mg mu mk → Calls Try.prog 58 #[.pointer (some ⟨p, 0, none⟩), .func (.func 59) #[.pointer (some ⟨p, 0, none⟩)] #[]] W fun r w' => ∃ v, r = .returned v ∧ R v w' ∧ Below W.heap.size W w') :
    Calls Try.prog 30 #[.pointer (some ⟨p, 0, none⟩), .string s] w fun r w' => ∃ v, r = .returned (.tuple #[.int .i64 (A.last + 1), v, .bool true]) ∧ R v w' ∧ NdAt w' (fun k => S k ∨ w.heap.size ≤ k) p (A.proposed s) ∧ Fr w w' (fun k => k = p ∨ lv.ownBlock = some k) := by
  have HH : Hid (NA w S p A lv mw mg mu mk) := h
  have HO : Hid A.ok := ok
  have HT : Hid (∀ W lv', NA W (fun k => S k ∨ w.heap.size ≤ k) p (A.proposed s) lv' mw mg mu mk → Calls Try.prog 58 #[.pointer (some ⟨p, 0, none⟩), .func (.func 59) #[.pointer (some ⟨p, 0, none⟩)] #[]] W fun r w' => ∃ v, r = .returned v ∧ R v w' ∧ Below W.heap.size W w') := hT
  have HRo : Hid (∀ W q, W = w.drewN q → Calls Try.prog 34 #[.pointer (some ⟨p, 0, none⟩)] W fun r w' => r = .returned (.int .i64 3) ∧ ∃ q, w' = W.drewN q) := fun W q e => by rw [e, ← hr]; exact role_any (h.dn q) ok
  have HU : Hid A.upOk := hu
  have HLn : Hid (A.log.length < 1000) := hlen
  obtain ⟨ao, cc, rfl, hcc, hao⟩ := h.log.shape
  obtain ⟨_, _, c2, _, _, _, _, c7, _⟩ := h.cells
  obtain ⟨n, hn⟩ : ∃ n, A.log.length = n := ⟨_, rfl⟩
  have HN : Hid (A.log.length = n) := hn
  obtain ⟨vw, hvw⟩ : ∃ vw, A.vw = vw := ⟨_, rfl⟩
  have HV : Hid (A.vw = vw) := hvw
  rw [hn] at c7 hlen hcc
  rw [hvw] at c2
  have hnI : ¬ (1000 : Int) ≤ n := by omega
  have hnN : ¬ 1000 ≤ n := by omega
  have hmf : ∀ (fn : Fn) (first cap : Array Value) (w : World), (Instr.makeFunc fn first cap).run Try.prog w = .ok (.func fn first cap) w := fun _ _ _ _ => rfl
  have hu0 : undef = Value.tuple #[] := rfl
  clear h ok hu hr hT hao hn hvw
  go_enter Try.func30, Try.ntmps30
  go_upto_region 3 with (go_at_call 34; refine Calls.mono (HRo.out _ 0 rfl) ?_; rintro r w1 ⟨rfl, q1, rfl⟩)
  obtain ⟨Wd, hWd⟩ : ∃ Wd, (w.drewN q1).drew = Wd := ⟨_, rfl⟩
  have bd : Below w.heap.size w Wd := by rw [← hWd]; exact Below.drew (below_dn _ _)
  have hDd := HH.out.new bd
  have x2 := (bd.cell (p := ⟨p, 2, none⟩) (vlt_cell c2)).trans c2
  have x7 := (bd.cell (p := ⟨p, 7, none⟩) (vlt_cell c7)).trans c7
  have HDd : Hid (NA Wd S p A (.slice ao A.log.length cc) mw mg mu mk) := hDd
  have HBd : Hid (Below w.heap.size w Wd) := bd
  have hsz : Wd.heap.size = w.heap.size := by rw [← hWd]; rfl
  have HSz : Hid (Wd.heap.size = w.heap.size) := hsz
  clear c2 c7 hDd bd HRo hsz
  refine wp_calmV ?_
  refine wp_region_L [18] (fun w' : World => w'.cell? ⟨p, 2, none⟩ = some (.int .i64 vw) ∧ w'.cell? ⟨p, 7, none⟩ = some (.slice ao n cc)) (by kernel_rfl) ?_
  rw [show (w.drewN q1).drew = Wd from hWd]
  clear hWd
  have hS : (fun w' : World => w'.cell? ⟨p, 2, none⟩ = some (.int .i64 vw) ∧ w'.cell? ⟨p, 7, none⟩ = some (.slice ao n cc)) Wd := ⟨x2, x7⟩
  refine wpAnyL_take (i := 0) 19 (v := .pointer (some ⟨p, 0, none⟩)) rfl rfl (by kernel_rfl) (by kernel_rfl) (by kernel_rfl) (by kernel_rfl) (by kernel_rfl) (by kernel_rfl) (fun _ _ _ h => h) hS (by rfl) (by intro w' hSw; obtain ⟨y0, y1⟩ := hSw; go_simp <;> with_reducible rfl) ?_
  simp only [Act.put, List.setIfInBounds_toArray, List.set_cons_zero, List.set_cons_succ]
  refine wpAnyL_take (i := 1) 20 (v := .pointer (some ⟨p, 0, none⟩)) rfl rfl (by kernel_rfl) (by kernel_rfl) (by kernel_rfl) (by kernel_rfl) (by kernel_rfl) (by kernel_rfl) (fun _ _ _ h => h) hS (by rfl) (by intro w' hSw; obtain ⟨y0, y1⟩ := hSw; go_simp <;> with_reducible rfl) ?_
  simp only [Act.put, List.setIfInBounds_toArray, List.set_cons_zero, List.set_cons_succ]
  refine wpAnyL_take (i := 2) 21 (v := .pointer (some ⟨p, 0, none⟩)) rfl rfl (by kernel_rfl) (by kernel_rfl) (by kernel_rfl) (by kernel_rfl) (by kernel_rfl) (by kernel_rfl) (fun _ _ _ h => h) hS (by rfl) (by intro w' hSw; obtain ⟨y0, y1⟩ := hSw; go_simp <;> with_reducible rfl) ?_
  simp only [Act.put, List.setIfInBounds_toArray, List.set_cons_zero, List.set_cons_succ]
  refine wpAnyL_take (i := 3) 22 (v := .pointer (some ⟨p, 2, none⟩)) rfl rfl (by kernel_rfl) (by kernel_rfl) (by kernel_rfl) (by kernel_rfl) (by kernel_rfl) (by kernel_rfl) (fun _ _ _ h => h) hS (by rfl) (by intro w' hSw; obtain ⟨y0, y1⟩ := hSw; go_simp <;> with_reducible rfl) ?_
  simp only [Act.put, List.setIfInBounds_toArray, List.set_cons_zero, List.set_cons_succ]
  refine wpAnyL_take (i := 4) 23 (v := .pointer (some ⟨p, 7, none⟩)) rfl rfl (by kernel_rfl) (by kernel_rfl) (by kernel_rfl) (by kernel_rfl) (by kernel_rfl) (by kernel_rfl) (fun _ _ _ h => h) hS (by rfl) (by intro w' hSw; obtain ⟨y0, y1⟩ := hSw; go_simp <;> with_reducible rfl) ?_
  simp only [Act.put, List.setIfInBounds_toArray, List.set_cons_zero, List.set_cons_succ]
  refine wpAnyL_take (i := 5) 24 (v := .slice ao n cc) rfl rfl (by kernel_rfl) (by kernel_rfl) (by kernel_rfl) (by kernel_rfl) (by kernel_rfl) (by kernel_rfl) (fun _ _ _ h => h) hS (by rfl) (by intro w' hSw; obtain ⟨y0, y1⟩ := hSw; go_simp <;> with_reducible rfl) ?_
  simp only [Act.put, List.setIfInBounds_toArray, List.set_cons_zero, List.set_cons_succ]
  refine wpAnyL_take (i := 6) 25 (v := .pointer (some ⟨p, 0, none⟩)) rfl rfl (by kernel_rfl) (by kernel_rfl) (by kernel_rfl) (by kernel_rfl) (by kernel_rfl) (by kernel_rfl) (fun _ _ _ h => h) hS (by rfl) (by intro w' hSw; obtain ⟨y0, y1⟩ := hSw; go_simp <;> with_reducible rfl) ?_
  simp only [Act.put, List.setIfInBounds_toArray, List.set_cons_zero, List.set_cons_succ]
  refine wpAnyL_take (i := 7) 26 (v := .pointer (some ⟨p, 0, none⟩)) rfl rfl (by kernel_rfl) (by kernel_rfl) (by kernel_rfl) (by kernel_rfl) (by kernel_rfl) (by kernel_rfl) (fun _ _ _ h => h) hS (by rfl) (by intro w' hSw; obtain ⟨y0, y1⟩ := hSw; go_simp <;> with_reducible rfl) ?_
  simp only [Act.put, List.setIfInBounds_toArray, List.set_cons_zero, List.set_cons_succ]
  refine wpAnyL_take (i := 8) 27 (v := .pointer (some ⟨p, 2, none⟩)) rfl rfl (by kernel_rfl) (by kernel_rfl) (by kernel_rfl) (by kernel_rfl) (by kernel_rfl) (by kernel_rfl) (fun _ _ _ h => h) hS (by rfl) (by intro w' hSw; obtain ⟨y0, y1⟩ := hSw; go_simp <;> with_reducible rfl) ?_
  simp only [Act.put, List.setIfInBounds_toArray, List.set_cons_zero, List.set_cons_succ]
  refine wpAnyL_take (i := 9) 28 (v := .pointer (some ⟨p, 2, none⟩)) rfl rfl (by kernel_rfl) (by kernel_rfl) (by kernel_rfl) (by kernel_rfl) (by kernel_rfl) (by kernel_rfl) (fun _ _ _ h => h) hS (by rfl) (by intro w' hSw; obtain ⟨y0, y1⟩ := hSw; go_simp <;> with_reducible rfl) ?_
  simp only [Act.put, List.setIfInBounds_toArray, List.set_cons_zero, List.set_cons_succ]
  refine wpAnyL_take (i := 10) 29 (v := .int .i64 vw) rfl rfl (by kernel_rfl) (by kernel_rfl) (by kernel_rfl) (by kernel_rfl) (by kernel_rfl) (by kernel_rfl) (fun _ _ _ h => h) hS (by rfl) (by intro w' hSw; obtain ⟨y0, y1⟩ := hSw; go_simp <;> with_reducible rfl) ?_
  simp only [Act.put, List.setIfInBounds_toArray, List.set_cons_zero, List.set_cons_succ]
  refine wpAnyL_take (i := 11) 30 (v := .string s) rfl rfl (by kernel_rfl) (by kernel_rfl) (by kernel_rfl) (by kernel_rfl) (by kernel_rfl) (by kernel_rfl) (fun _ _ _ h => h) hS (by rfl) (by intro w' hSw; obtain ⟨y0, y1⟩ := hSw; go_simp <;> with_reducible rfl) ?_
  simp only [Act.put, List.setIfInBounds_toArray, List.set_cons_zero, List.set_cons_succ]
  refine wpAnyL_take (i := 12) 31 (v := .agg #[.int .i64 vw, .string s]) rfl rfl (by kernel_rfl) (by kernel_rfl) (by kernel_rfl) (by kernel_rfl) (by kernel_rfl) (by kernel_rfl) (fun _ _ _ h => h) hS (by rfl) (by intro w' hSw; obtain ⟨y0, y1⟩ := hSw; go_simp <;> with_reducible rfl) ?_
  simp only [Act.put, List.setIfInBounds_toArray, List.set_cons_zero, List.set_cons_succ]
  refine wpAnyL_one (i := 13) (by kernel_rfl) rfl (fun Ka hKa => ?_)
  go_simp
  have b0 : Below Wd.heap.size Wd (Wd.alloc (.cells #[.int .i64 vw, .string s] 31)) := vone_new _ _
  have y2 := (b0.cell (p := ⟨p, 2, none⟩) (vlt_cell x2)).trans x2
  have y7 := (b0.cell (p := ⟨p, 7, none⟩) (vlt_cell x7)).trans x7
  refine hKa.out _ _ (fun _ => ⟨y2, y7⟩) ?_
  clear hKa Ka
  try simp only [Act.put, List.setIfInBounds_toArray, List.set_cons_zero, List.set_cons_succ]
  have hSrc : EnS (Wd.alloc (.cells #[.int .i64 vw, .string s] 31)) (.slice (some ⟨Wd.heap.size, 0, none⟩) 1 1) [⟨vw, s⟩] := by
    refine ⟨_, 1, rfl, Nat.le_refl _, fun _ => ⟨Wd.heap.size, 0, rfl, fun j hj => ?_⟩⟩
    obtain rfl : j = 0 := by simpa using hj
    have := heap_alloc_new Wd (.cells #[.int .i64 vw, .string s] 31)
    exact ⟨vcell_blk this, vcell_blk this⟩
  have HSrc : Hid _ := hSrc
  have HO0 : Hid (EnO (Wd.alloc (.cells #[.int .i64 vw, .string s] 31)) 0 (.slice ao n cc) A.log) := by
    have := HDd.out.log.new b0
    rw [HN.out] at this
    exact this
  obtain ⟨V0, hV0⟩ : ∃ V0, Wd.alloc (.cells #[.int .i64 vw, .string s] 31) = V0 := ⟨_, rfl⟩
  rw [hV0] at b0 y2 y7 hSrc HSrc HO0 ⊢
  have HB0 : Hid (Below Wd.heap.size Wd V0) := b0
  clear hV0 b0 hSrc hS x2 x7
  refine wpAnyL_one (i := 14) (by kernel_rfl) rfl (fun Ka hKa => ?_)
  refine stp_appV rfl (.tmp 24) (.tmp 32) rfl (R := A.log) (S := [⟨vw, s⟩]) rfl rfl HO0.out HSrc.out (by have := HLn.out; simp; omega) (Nat.zero_le _) ?_
  intro v1 w9 hE9 hF9 hX9
  obtain ⟨a1, c1, e1, _⟩ := hE9.shape
  rw [List.length_append, HN.out] at e1
  simp only [List.length_cons, List.length_nil] at e1
  subst e1
  have hnp : ¬ (Value.slice ao n cc).ownBlock = some p := fun e => by have := HN.out; have hh := HDd.out; rw [this] at hh; exact (hh.lrow e).1 rfl
  have z2 := vfr_cell hF9 hnp y2
  have z7 := vfr_cell hF9 hnp y7
  have hP9 : ∃ cs, w9.heap[p]? = some (.cells cs 90 (0, 0)) := ⟨_, (hF9.block p (vlt_cell y2) hnp).trans ((HB0.out.block p HDd.out.plt).trans HDd.out.blk)⟩
  have g7 : w9.frozen? ⟨p, 7, none⟩ = false := by obtain ⟨cs, hcs⟩ := hP9; simp [World.frozen?, hcs]
  refine hKa.out _ _ (fun _ => ⟨z2, z7⟩) ?_
  clear hKa Ka
  try simp only [Act.put, List.setIfInBounds_toArray, List.set_cons_zero, List.set_cons_succ]
  have HE9 : Hid (EnO w9 0 (.slice a1 (n + (0 + 1)) c1) (A.log ++ [⟨vw, s⟩])) := hE9
  have HF9 : Hid (Fr Wd w9 (fun k => (Value.slice ao n cc).ownBlock = some k)) := ((Fr.ofBelow HB0.out (fun _ => False)).mono (fun _ _ h => h.elim)).trans hF9 (fun _ _ h => h)
  have HX9 : Hid (∀ k, (Value.slice a1 (n + (0 + 1)) c1).ownBlock = some k → (Value.slice ao n cc).ownBlock = some k ∨ Wd.heap.size ≤ k) := fun k hk => by
    rcases hX9 k hk with h | h
    · exact .inl h
    · exact .inr (Nat.le_trans HB0.out.size h)
  clear hE9 hF9 hX9 hP9 hnp y2 y7 HSrc HO0 HB0
  refine wpAnyL_one (i := 15) (by kernel_rfl) rfl (fun Ka hKa => ?_)
  go_simp
  refine hKa.out _ _ (fun _ => ⟨z2, z7⟩) ?_
  clear hKa Ka
  try simp only [Act.put, List.setIfInBounds_toArray, List.set_cons_zero, List.set_cons_succ]
  refine wpAnyL_one (i := 16) (by kernel_rfl) rfl (fun Ka hKa => ?_)
  go_simp
  refine hKa.out _ _ (fun _ => ⟨z2, z7⟩) ?_
  clear hKa Ka
  try simp only [Act.put, List.setIfInBounds_toArray, List.set_cons_zero, List.set_cons_succ]
  refine wpAnyL_one (i := 17) (by kernel_rfl) rfl (fun Ka hKa => ?_)
  go_simp
  refine hKa.out _ _ (fun _ => ⟨z2, z7⟩) ?_
  clear hKa Ka
  try simp only [Act.put, List.setIfInBounds_toArray, List.set_cons_zero, List.set_cons_succ]
  refine wpAnyL_one (i := 18) (by kernel_rfl) rfl (fun Ka hKa => ?_)
  go_simp
  refine hKa.out _ _ (fun h => absurd h (Bool.eq_false_iff.1 (by kernel_rfl))) ?_
  clear hKa Ka
  refine wpAnyL_done (by kernel_rfl) ?_ _
  generalize hW10 : World.setCell _ _ _ = W10
  have hD0 := HDd.out
  rw [HN.out] at hD0
  have hRl := hD0.relog (L' := A.log ++ [⟨vw, s⟩]) HF9.out HE9.out HX9.out hW10
  rw [← HV.out, HSz.out] at hRl
  have HA10 : Hid (NA W10 (fun k => S k ∨ w.heap.size ≤ k) p (A.add s) (.slice a1 (n + (0 + 1)) c1) mw mg mu mk) := hRl.1
  have HF10 : Hid (Fr w W10 (fun k => k = p ∨ (Value.slice ao n cc).ownBlock = some k)) := ((Fr.ofBelow HBd.out (fun _ => False)).mono (fun _ _ h => h.elim)).trans hRl.2 (fun _ _ h => h)
  have hok2 : (A.add s).ok := add_ok HO.out HLn.out
  have HOk2 : Hid (A.add s).ok := hok2
  have HU2 : Hid (A.add s).upOk := fun x v e => by
    have := HU.out x v e
    rw [add_last]
    exact ⟨this.1, this.2.1, by omega⟩
  have HOk3 : Hid (A.proposed s).ok := { (counted_ok hok2 HU2.out) with tk0 := Int.le_refl _ }
  have HLast : Hid ((A.proposed s).last = A.last + 1) := add_last A s
  clear hRl hD0 hW10 HDd HE9 HF9 HX9 z2 z7 g7 hok2 HV
  go_upto_region 5 with (go_at_call 52; refine (count_any HA10.out HOk2.out (fun x v e => ⟨(HU2.out x v e).1, (HU2.out x v e).2.1⟩)).mono ?_; rintro r w11 ⟨rfl, hA, hF11⟩; have HA11 : Hid (NA w11 (fun k => S k ∨ w.heap.size ≤ k) p (A.add s).counted (.slice a1 (n + (0 + 1)) c1) mw mg mu mk) := hA; have HF11 : Hid (Fr W10 w11 (fun k => k = p)) := hF11; clear hA hF11)
  obtain ⟨_, _, _, _, _, _, _, _, _, _, c10, _⟩ := HA11.out.cells
  have g10 := HA11.out.free 10
  go_upto_region 6 with (fail)
  generalize hW12 : World.setCell _ _ _ = W12
  have hE := HA11.out.setP 10 (.int .i64 0) (A' := A.proposed s) rfl rfl rfl rfl rfl
  rw [hW12] at hE
  have HA12 : Hid (NA W12 (fun k => S k ∨ w.heap.size ≤ k) p (A.proposed s) (.slice a1 (n + (0 + 1)) c1) mw mg mu mk) := hE.1
  have HF12 : Hid (Fr w W12 (fun k => k = p ∨ (Value.slice ao n cc).ownBlock = some k)) := (HF10.out.trans HF11.out (fun _ _ h => .inl h)).trans hE.2 (fun _ _ h => .inl h)
  clear hE hW12 c10 g10 HA11 HF11 HA10 HF10
  go_wp2_with (first
    | (go_at_call 50; refine (last_any HA12.out HOk3.out).mono ?_; rintro r w13 ⟨rfl, q13, rfl⟩; rw [HLast.out])
    | (go_at_call 58; refine Calls.mono (HT.out _ _ (HA12.out.dn q13)) ?_; rintro r w14 ⟨v, rfl, hR, hb14⟩; have HR : Hid (R v w14) := hR; have HB14 : Hid (Below (W12.drewN q13).heap.size (W12.drewN q13) w14) := hb14; clear hR hb14))
  go_ret3
  have hb := (below_dn W12 q13).trans (show Below W12.heap.size (W12.drewN q13) w14 from HB14.out)
  refine ⟨v, rfl, HR.out, ⟨_, _, _, _, _, HA12.out.new hb⟩, ?_⟩
  have := HF12.out.trans (Fr.ofBelow hb (fun _ => False)) (fun _ _ h => h.elim)
  rw [HN.out]
  exact this
end
end Go.Proofs.Ytckjjajncgmddaa
