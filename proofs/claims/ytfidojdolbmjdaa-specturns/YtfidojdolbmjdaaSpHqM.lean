import Derived.Test.YtfidojdolbmjdaaSpHpM
/- container/heap.Push at an empty queue. -/
namespace Go.Proofs.Ytfidojdolbmjdaa
open Go.RowKit Go.Shelf
attribute [local go_sem] Oper.semAt_some
theorem own_nb {w : World} {base : Nat} {e t : TypeId} {size b : Nat} {v : Value} {n : Nat} {xs : List Value} {cs : Array Value} {f : Nat × Nat} (ho : w.ownsRow base e size v n xs) (hq : w.heap[b]? = some (.cells cs t f)) (hne : e ≠ t) : v.ownBlock ≠ some b := by
  intro hk
  rcases ho.2 with ⟨h2, _⟩ | ⟨g, cap, cur, rfl, _, h4, _⟩
  · subst h2; simp [Value.ownBlock] at hk
  · simp [Value.ownBlock] at hk
    subst hk
    rw [h4] at hq
    injection hq with e1
    injection e1 with _ e2 _
    exact hne e2
theorem ta_stop (x y : Value) (t : TypeId) (w' : World) : (Instr.typeAssert (.iface 104 (.agg #[x, y])) t 104 false).run Try.prog w' = .ok (.agg #[x, y]) w' := by kernel_rfl
theorem infoST : (Try.prog.info? 104).map (fun i => (i.zero, i.size, i.bytes)) = some (some (.agg #[.int .i64 0, .int .i64 0]), 2, 16) := by kernel_rfl
set_option linter.unusedSimpArgs false in
set_option maxRecDepth 100000 in
set_option maxHeartbeats 4000000 in
theorem qpush_none {W : World} {qb base : Nat} {v : Value} {a f : Int} (hq : W.heap[qb]? = some (.cells #[v] 106 (0, 0))) (ho : W.ownsRow base 104 2 v 0 []) (hb : base ≤ W.heap.size) :
    Calls Try.prog 151 #[.pointer (some ⟨qb, 0, none⟩), .iface 104 (.agg #[.int .i64 a, .int .i64 f])] W fun r w' => r = .returned (.tuple #[]) ∧ ∃ v', w'.heap[qb]? = some (.cells #[v'] 106 (0, 0)) ∧ w'.ownsRow base 104 2 v' 1 [.int .i64 a, .int .i64 f] ∧ Fr W w' (fun k => k = qb ∨ v.ownBlock = some k) := by
  obtain ⟨i0, hi, hz0, hz1, hz2⟩ := info_parts infoST
  obtain ⟨p, m, c, rfl⟩ := own_any ho
  obtain ⟨Wd, hWd⟩ : ∃ Wd, W.drew = Wd := ⟨_, rfl⟩
  have HBd : Hid (Fr W Wd (fun k => k = qb ∨ (Value.slice p m c).ownBlock = some k)) := by rw [← hWd]; exact Fr.ofBelow (Below.drew (Below.refl _ W)) _
  have hbd : Below W.heap.size W Wd := by rw [← hWd]; exact Below.drew (Below.refl _ W)
  have HNe : Hid ((Value.slice p m c).ownBlock ≠ some qb) := own_nb ho hq (by decide)
  have hqd := (hbd.block _ (lt_of_block hq)).trans hq
  have HO : Hid (Wd.ownsRow base 104 2 (.slice p m c) 0 []) := so_new ho hbd
  have HQ : Hid _ := hqd
  have b0 := cell_of_one hqd
  have hS0 : (fun w' : World => w'.cell? ⟨qb, 0, none⟩ = some (.slice p m c)) Wd := b0
  have hb : base ≤ Wd.heap.size := Nat.le_trans hb hbd.size
  clear hq ho hqd hbd
  go_enter Try.func151, Try.ntmps151
  go_wp2
  refine wp_calm ?_
  refine wp_region_L [9] (fun w' : World => w'.cell? ⟨qb, 0, none⟩ = some (.slice p m c)) (by kernel_rfl) ?_
  rw [hWd]
  clear hWd
  refine wpAnyL_take (i := 0) 4 (v := .pointer (some ⟨qb, 0, none⟩)) rfl rfl (by kernel_rfl) (by kernel_rfl) (by kernel_rfl) (by kernel_rfl) (by kernel_rfl) (by kernel_rfl) (fun _ _ _ h => h) hS0 (by rfl) (by intro w' hSw; (try dsimp only at hSw); have ta := fun t => ta_stop (.int .i64 a) (.int .i64 f) t w'; go_simp <;> with_reducible rfl) ?_
  simp only [Act.put, List.setIfInBounds_toArray, List.set_cons_zero, List.set_cons_succ]
  refine wpAnyL_take (i := 1) 5 (v := .pointer (some ⟨qb, 0, none⟩)) rfl rfl (by kernel_rfl) (by kernel_rfl) (by kernel_rfl) (by kernel_rfl) (by kernel_rfl) (by kernel_rfl) (fun _ _ _ h => h) hS0 (by rfl) (by intro w' hSw; (try dsimp only at hSw); have ta := fun t => ta_stop (.int .i64 a) (.int .i64 f) t w'; go_simp <;> with_reducible rfl) ?_
  simp only [Act.put, List.setIfInBounds_toArray, List.set_cons_zero, List.set_cons_succ]
  refine wpAnyL_take (i := 2) 6 (v := .pointer (some ⟨qb, 0, none⟩)) rfl rfl (by kernel_rfl) (by kernel_rfl) (by kernel_rfl) (by kernel_rfl) (by kernel_rfl) (by kernel_rfl) (fun _ _ _ h => h) hS0 (by rfl) (by intro w' hSw; (try dsimp only at hSw); have ta := fun t => ta_stop (.int .i64 a) (.int .i64 f) t w'; go_simp <;> with_reducible rfl) ?_
  simp only [Act.put, List.setIfInBounds_toArray, List.set_cons_zero, List.set_cons_succ]
  refine wpAnyL_take (i := 3) 7 (v := .slice p m c) rfl rfl (by kernel_rfl) (by kernel_rfl) (by kernel_rfl) (by kernel_rfl) (by kernel_rfl) (by kernel_rfl) (fun _ _ _ h => h) hS0 (by rfl) (by intro w' hSw; (try dsimp only at hSw); have ta := fun t => ta_stop (.int .i64 a) (.int .i64 f) t w'; go_simp <;> with_reducible rfl) ?_
  simp only [Act.put, List.setIfInBounds_toArray, List.set_cons_zero, List.set_cons_succ]
  refine wpAnyL_take (i := 4) 8 (v := .iface 104 (.agg #[.int .i64 a, .int .i64 f])) rfl rfl (by kernel_rfl) (by kernel_rfl) (by kernel_rfl) (by kernel_rfl) (by kernel_rfl) (by kernel_rfl) (fun _ _ _ h => h) hS0 (by rfl) (by intro w' hSw; (try dsimp only at hSw); have ta := fun t => ta_stop (.int .i64 a) (.int .i64 f) t w'; go_simp <;> with_reducible rfl) ?_
  simp only [Act.put, List.setIfInBounds_toArray, List.set_cons_zero, List.set_cons_succ]
  refine wpAnyL_take (i := 5) 9 (v := .agg #[.int .i64 a, .int .i64 f]) rfl rfl (by kernel_rfl) (by kernel_rfl) (by kernel_rfl) (by kernel_rfl) (by kernel_rfl) (by kernel_rfl) (fun _ _ _ h => h) hS0 (by rfl) (by intro w' hSw; (try dsimp only at hSw); have ta := fun t => ta_stop (.int .i64 a) (.int .i64 f) t w'; go_simp <;> with_reducible rfl) ?_
  simp only [Act.put, List.setIfInBounds_toArray, List.set_cons_zero, List.set_cons_succ]
  refine wpAnyL_one (i := 6) (by kernel_rfl) rfl (fun Ka hKa => ?_)
  go_simp
  have bel0 : Below Wd.heap.size Wd (Wd.alloc (.cells #[.int .i64 a, .int .i64 f] 104)) := one_new _ _
  have hS1 : (fun w' : World => w'.cell? ⟨qb, 0, none⟩ = some (.slice p m c)) (Wd.alloc (.cells #[.int .i64 a, .int .i64 f] 104)) := (bel0.cell (p := ⟨qb, 0, none⟩) (lt_cell b0)).trans b0
  refine hKa.out _ _ (fun _ => hS1) ?_
  clear hKa Ka
  try simp only [Act.put, List.setIfInBounds_toArray, List.set_cons_zero, List.set_cons_succ]
  refine wpAnyL_one (i := 7) (by kernel_rfl) rfl (fun Kb hKb => ?_)
  refine step_append_own rfl (.tmp 7) (.tmp 10) 106 rfl base 104 i0 (.agg #[.int .i64 0, .int .i64 0]) 2 16 Try.underlying106 hi hz0 hz1 hz2 rfl (by decide) (.slice p m c) _ _ (by simp [Act.eval]) (so_new HO.out bel0) ⟨Wd.heap.size, 0, none⟩ 1 1 [.int .i64 a, .int .i64 f] (by simp [Act.eval]) rfl (w_two (heap_alloc_new Wd (.cells #[.int .i64 a, .int .i64 f] 104))) (by intro u hu; simp at hu; rcases hu with rfl | rfl <;> rfl) (by unfold maxLen; omega) (by omega) (Nat.le_trans hb bel0.size) ?_
  intro v1 w1 own1 gr1 at1
  obtain ⟨p1, k1, d1, rfl⟩ := own_any own1
  have f1 : Fr (Wd.alloc (.cells #[.int .i64 a, .int .i64 f] 104)) w1 (fun k => (Value.slice p m c).ownBlock = some k) := Fr.grown gr1 (fun k hk => hk)
  have fu1 : Fr Wd w1 (fun k => (Value.slice p m c).ownBlock = some k) := ((Fr.ofBelow bel0 (fun _ => False)).mono (fun _ _ h => h.elim)).trans f1 (fun _ _ h => h)
  have hn1 : ¬ (Value.slice p m c).ownBlock = some qb := fun e => HNe.out e
  have y1 := fr_cell f1 hn1 hS1
  have q1 : w1.heap[qb]? = _ := (fu1.block qb (lt_cell b0) hn1).trans HQ.out
  have y4 : w1.frozen? ⟨qb, 0, none⟩ = false := by simp [World.frozen?, q1]
  refine hKb.out _ _ (fun _ => y1) ?_
  clear hKb Kb
  try simp only [Act.put, List.setIfInBounds_toArray, List.set_cons_zero, List.set_cons_succ]
  refine wpAnyL_one (i := 8) (by kernel_rfl) rfl (fun Kc hKc => ?_)
  go_simp
  refine hKc.out _ _ (fun _ => y1) ?_
  clear hKc Kc
  try simp only [Act.put, List.setIfInBounds_toArray, List.set_cons_zero, List.set_cons_succ]
  refine wpAnyL_one (i := 9) (by kernel_rfl) rfl (fun Kd hKd => ?_)
  go_simp
  refine hKd.out _ _ (fun h => absurd h (Bool.eq_false_iff.1 (by kernel_rfl))) ?_
  clear hKd Kd
  refine wpAnyL_done (by kernel_rfl) ?_ _
  have HQ9 : Hid ((w1.setCell ⟨qb, 0, none⟩ (.slice p1 k1 d1)).heap[qb]? = some (.cells #[.slice p1 k1 d1] 106 (0, 0))) := cl_set1 q1 _
  have fS : Fr w1 (w1.setCell ⟨qb, 0, none⟩ (.slice p1 k1 d1)) (fun k => k = qb) := Fr.setCell _ _ _ rfl
  have HO9 : Hid ((w1.setCell ⟨qb, 0, none⟩ (.slice p1 k1 d1)).ownsRow base 104 2 (.slice p1 k1 d1) 1 [.int .i64 a, .int .i64 f]) := so_fr own1 fS (fun k hk e => by subst e; exact own_nb own1 q1 (by decide) hk)
  have HF9 : Hid (Fr Wd (w1.setCell ⟨qb, 0, none⟩ (.slice p1 k1 d1)) (fun k => k = qb ∨ (Value.slice p m c).ownBlock = some k)) := (fu1.mono (fun _ _ h => .inr h)).trans fS (fun _ _ h => .inl h)
  generalize hV : World.setCell w1 _ _ = V at HQ9 HO9 HF9 ⊢
  clear hV own1 gr1 at1 f1 fu1 y1 q1 y4 fS hS1 bel0
  go_wp2
  go_end0
  exact ⟨rfl, _, HQ9.out, HO9.out, HBd.out.trans HF9.out (fun _ _ h => h)⟩
set_option maxRecDepth 100000 in
set_option maxHeartbeats 4000000 in
theorem hpush_none {W : World} {qb base : Nat} {v : Value} {a f : Int} (hq : W.heap[qb]? = some (.cells #[v] 106 (0, 0))) (ho : W.ownsRow base 104 2 v 0 []) (hb : base ≤ W.heap.size) :
    Calls Try.prog 52 #[.iface 102 (.pointer (some ⟨qb, 0, none⟩)), .iface 104 (.agg #[.int .i64 a, .int .i64 f])] W fun r w' => r = .returned (.tuple #[]) ∧ ∃ v', w'.heap[qb]? = some (.cells #[v'] 106 (0, 0)) ∧ w'.ownsRow base 104 2 v' 1 [.int .i64 a, .int .i64 f] ∧ Fr W w' (fun k => k = qb ∨ v.ownBlock = some k) := by
  have HQ0 : Hid (W.heap[qb]? = some (.cells #[v] 106 (0, 0))) := hq
  have HO0 : Hid (W.ownsRow base 104 2 v 0 []) := ho
  have L1 := m_push (.pointer (some ⟨qb, 0, none⟩)) W qb rfl
  clear hq ho
  go_enter Try.func52, Try.ntmps52
  go_wp2_with (first
    | (go_at_call 151; (refine (qpush_none HQ0.out HO0.out hb).mono ?_; rintro r w1 ⟨rfl, v', hq1, ho1, f1⟩; obtain ⟨g, cap, cur, rfl, _, _, _⟩ := own_blk ho1 (by decide); have b1 := cell_of_one hq1; have L2 := m_len b1; have HO1 : Hid _ := ho1; have HQ1 : Hid _ := hq1; have HF1 : Hid _ := f1; clear ho1 hq1 f1))
    | (go_at_call 48; refine (len_any).mono ?_; rintro r w2 ⟨rfl, rfl⟩)
    | (go_at_call 73; refine (up_none).mono ?_; rintro r w3 ⟨rfl, rfl⟩))
  go_end0
  exact ⟨rfl, _, HQ1.out, HO1.out, HF1.out⟩
end Go.Proofs.Ytfidojdolbmjdaa
