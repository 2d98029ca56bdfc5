import Derived.Test.YtfidojdolbmjdaaSpWvM
/- container/heap at a queue of one. -/
namespace Go.Proofs.Ytfidojdolbmjdaa
open Go.RowKit Go.Shelf
attribute [local go_sem] Oper.semAt_some
set_option maxRecDepth 100000 in
set_option maxHeartbeats 2000000 in
theorem len_any {W : World} {p : Option Addr} {n c : Nat} : Calls Try.prog 48 #[.slice p n c] W fun r w' => r = .returned (.int .i64 n) ∧ w' = W := by
  go_enter Try.func48, Try.ntmps48
  go_wp2
  go_ret
  exact ⟨rfl, rfl⟩
theorem m_pop (v : Value) (W : World) (qb : Nat) (hv : v = .pointer (some ⟨qb, 0, none⟩)) : (method 309 102 v "Pop").run Try.prog W = .ok (150, v) W := by subst hv; kernel_rfl
theorem m_push (v : Value) (W : World) (qb : Nat) (hv : v = .pointer (some ⟨qb, 0, none⟩)) : (method 309 102 v "Push").run Try.prog W = .ok (151, v) W := by subst hv; kernel_rfl
theorem wrap_chk (W : World) (a : Addr) (t : TypeId) (nm : String) : (Builtin.ssaWrapNilChk_ #[t] t #[.pointer (some a), strVal "", strVal nm]).run Try.prog W = .ok (.pointer (some a)) W := rfl
theorem i_len : (Try.prog.info? 102).map (fun i => (i.methods.find? (·.name == "Len")).map (fun m => (m.path.toList, m.path.isEmpty, m.func))) = some (some ([], true, some (48, false))) := by kernel_rfl
theorem m_len {W : World} {qb n c : Nat} {p : Option Addr} (hb : W.cell? ⟨qb, 0, none⟩ = some (.slice p n c)) : (method 309 102 (.pointer (some ⟨qb, 0, none⟩)) "Len").run Try.prog W = .ok (48, .slice p n c) W := by
  obtain ⟨i, hi, h1⟩ := Option.map_eq_some_iff.1 i_len
  obtain ⟨m, hm, h2⟩ := Option.map_eq_some_iff.1 h1
  simp only [Prod.mk.injEq] at h2
  have hp : m.path = #[] := by simpa using h2.1
  unfold method
  simp [typeInfo, hi, hm, h2.2.2, hp, follow, receiverAt, Place.get, wrap_chk, go_sem, hb, run_underlying Try.underlying102]
theorem i_swap : (Try.prog.info? 102).map (fun i => (i.methods.find? (·.name == "Swap")).map (fun m => (m.path.toList, m.path.isEmpty, m.func))) = some (some ([], true, some (152, false))) := by kernel_rfl
theorem m_swap {W : World} {qb n c : Nat} {p : Option Addr} (hb : W.cell? ⟨qb, 0, none⟩ = some (.slice p n c)) : (method 309 102 (.pointer (some ⟨qb, 0, none⟩)) "Swap").run Try.prog W = .ok (152, .slice p n c) W := by
  obtain ⟨i, hi, h1⟩ := Option.map_eq_some_iff.1 i_swap
  obtain ⟨m, hm, h2⟩ := Option.map_eq_some_iff.1 h1
  simp only [Prod.mk.injEq] at h2
  have hp : m.path = #[] := by simpa using h2.1
  unfold method
  simp [typeInfo, hi, hm, h2.2.2, hp, follow, receiverAt, Place.get, wrap_chk, go_sem, hb, run_underlying Try.underlying102]
/-- A cell is laid anew, as it is. -/
theorem fr_same {W : World} {g i : Nat} {cs : Array Value} {t : TypeId} {f : Nat × Nat} {v : Value} (h : W.heap[g]? = some (.cells cs t f)) (hv : cs[i]? = some v) : Fr W (W.setCell ⟨g, i, none⟩ v) (fun _ => False) ∧ (W.setCell ⟨g, i, none⟩ v).heap[g]? = some (.cells cs t f) := by
  have h1 := set_heap h i v
  have e : cs.setIfInBounds i v = cs := by
    apply Array.ext
    · simp
    · intro k h1 h2
      rw [Array.getElem_setIfInBounds]
      by_cases e : i = k
      · subst e; rw [if_pos rfl]; exact ((Array.getElem?_eq_some_iff.1 hv).2).symm
      · rw [if_neg e]
  rw [e] at h1
  refine ⟨?_, h1⟩
  have f0 : Fr W (W.setCell ⟨g, i, none⟩ v) (fun k => k = g) := Fr.setCell _ _ _ rfl
  exact ⟨f0.1, f0.2, f0.3, f0.size, fun k hk _ => by
    by_cases e : k = g
    · subst e; exact h1.trans h.symm
    · exact f0.block k hk e⟩
theorem store_two {W : World} {g : Nat} {cs : Array Value} {t : TypeId} {v u : Value} (h : W.heap[g]? = some (.cells cs t (0, 0))) (h0 : cs[0]? = some v) (h1 : cs[1]? = some u) :
    W.cell? ⟨g, 0, none⟩ = some v ∧ W.cell? ⟨g, 1, none⟩ = some u ∧ W.frozen? ⟨g, 0, none⟩ = false ∧ (W.setCell ⟨g, 0, none⟩ v).cell? ⟨g, 1, none⟩ = some u ∧ (W.setCell ⟨g, 0, none⟩ v).frozen? ⟨g, 1, none⟩ = false ∧ ((W.setCell ⟨g, 0, none⟩ v).setCell ⟨g, 1, none⟩ u).heap[g]? = some (.cells cs t (0, 0)) ∧ Fr W ((W.setCell ⟨g, 0, none⟩ v).setCell ⟨g, 1, none⟩ u) (fun _ => False) := by
  obtain ⟨f1, k1⟩ := fr_same h h0
  obtain ⟨f2, k2⟩ := fr_same k1 h1
  exact ⟨by simp [World.cell?, h, h0], by simp [World.cell?, h, h1], by simp [World.frozen?, h], by simp [World.cell?, k1, h1], by simp [World.frozen?, k1], k2, f1.trans f2 (fun _ _ h => h)⟩
set_option maxRecDepth 100000 in
set_option maxHeartbeats 4000000 in
theorem swap_one {W : World} {g c : Nat} {cs : Array Value} {t : TypeId} {a f : Int} (hg : W.heap[g]? = some (.cells cs t (0, 0))) (hc0 : cs[0]? = some (.int .i64 a)) (hc1 : cs[1]? = some (.int .i64 f)) : Calls Try.prog 152 #[.slice (some ⟨g, 0, none⟩) 1 c, .int .i64 0, .int .i64 0] W fun r w' => r = .returned (.tuple #[]) ∧ Fr W w' (fun _ => False) := by
  obtain ⟨Wd, hWd⟩ : ∃ Wd, W.drew = Wd := ⟨_, rfl⟩
  have hgd : Wd.heap[g]? = some (.cells cs t (0, 0)) := by rw [← hWd]; exact hg
  have HBd : Hid (Fr W Wd (fun _ => False)) := by rw [← hWd]; exact Fr.ofBelow (Below.drew (Below.refl _ W)) _
  obtain ⟨h0, h1, y0, y1, y2, y3, y4⟩ := store_two hgd hc0 hc1
  have hS0 : (fun w' : World => w'.cell? ⟨g, 0, none⟩ = some (.int .i64 a) ∧ w'.cell? ⟨g, 1, none⟩ = some (.int .i64 f)) Wd := ⟨h0, h1⟩
  have HG : Hid _ := y3
  have HF : Hid _ := y4
  clear hg hgd y3 y4
  go_enter Try.func152, Try.ntmps152
  go_wp2
  refine wp_calm ?_
  refine wp_region_L [15] (fun w' : World => w'.cell? ⟨g, 0, none⟩ = some (.int .i64 a) ∧ w'.cell? ⟨g, 1, none⟩ = some (.int .i64 f)) (by kernel_rfl) ?_
  rw [hWd]
  clear hWd
  refine wpAnyL_take (i := 0) 6 (v := .slice (some ⟨g, 0, none⟩) 1 c) rfl rfl (by kernel_rfl) (by kernel_rfl) (by kernel_rfl) (by kernel_rfl) (by kernel_rfl) (by kernel_rfl) (fun _ _ _ h => h) hS0 (by rfl) (by intro w' hSw; (try dsimp only at hSw); obtain ⟨hSa, hSb⟩ := hSw; go_simp <;> with_reducible rfl) ?_
  simp only [Act.put, List.setIfInBounds_toArray, List.set_cons_zero, List.set_cons_succ]
  refine wpAnyL_take (i := 1) 7 (v := .int .i64 0) rfl rfl (by kernel_rfl) (by kernel_rfl) (by kernel_rfl) (by kernel_rfl) (by kernel_rfl) (by kernel_rfl) (fun _ _ _ h => h) hS0 (by rfl) (by intro w' hSw; (try dsimp only at hSw); obtain ⟨hSa, hSb⟩ := hSw; go_simp <;> with_reducible rfl) ?_
  simp only [Act.put, List.setIfInBounds_toArray, List.set_cons_zero, List.set_cons_succ]
  refine wpAnyL_take (i := 2) 8 (v := .slice (some ⟨g, 0, none⟩) 1 c) rfl rfl (by kernel_rfl) (by kernel_rfl) (by kernel_rfl) (by kernel_rfl) (by kernel_rfl) (by kernel_rfl) (fun _ _ _ h => h) hS0 (by rfl) (by intro w' hSw; (try dsimp only at hSw); obtain ⟨hSa, hSb⟩ := hSw; go_simp <;> with_reducible rfl) ?_
  simp only [Act.put, List.setIfInBounds_toArray, List.set_cons_zero, List.set_cons_succ]
  refine wpAnyL_take (i := 3) 9 (v := .int .i64 0) rfl rfl (by kernel_rfl) (by kernel_rfl) (by kernel_rfl) (by kernel_rfl) (by kernel_rfl) (by kernel_rfl) (fun _ _ _ h => h) hS0 (by rfl) (by intro w' hSw; (try dsimp only at hSw); obtain ⟨hSa, hSb⟩ := hSw; go_simp <;> with_reducible rfl) ?_
  simp only [Act.put, List.setIfInBounds_toArray, List.set_cons_zero, List.set_cons_succ]
  refine wpAnyL_take (i := 4) 10 (v := .slice (some ⟨g, 0, none⟩) 1 c) rfl rfl (by kernel_rfl) (by kernel_rfl) (by kernel_rfl) (by kernel_rfl) (by kernel_rfl) (by kernel_rfl) (fun _ _ _ h => h) hS0 (by rfl) (by intro w' hSw; (try dsimp only at hSw); obtain ⟨hSa, hSb⟩ := hSw; go_simp <;> with_reducible rfl) ?_
  simp only [Act.put, List.setIfInBounds_toArray, List.set_cons_zero, List.set_cons_succ]
  refine wpAnyL_take (i := 5) 11 (v := .int .i64 0) rfl rfl (by kernel_rfl) (by kernel_rfl) (by kernel_rfl) (by kernel_rfl) (by kernel_rfl) (by kernel_rfl) (fun _ _ _ h => h) hS0 (by rfl) (by intro w' hSw; (try dsimp only at hSw); obtain ⟨hSa, hSb⟩ := hSw; go_simp <;> with_reducible rfl) ?_
  simp only [Act.put, List.setIfInBounds_toArray, List.set_cons_zero, List.set_cons_succ]
  refine wpAnyL_take (i := 6) 12 (v := .pointer (some ⟨g, 0, none⟩)) rfl rfl (by kernel_rfl) (by kernel_rfl) (by kernel_rfl) (by kernel_rfl) (by kernel_rfl) (by kernel_rfl) (fun _ _ _ h => h) hS0 (by rfl) (by intro w' hSw; (try dsimp only at hSw); obtain ⟨hSa, hSb⟩ := hSw; go_simp <;> with_reducible rfl) ?_
  simp only [Act.put, List.setIfInBounds_toArray, List.set_cons_zero, List.set_cons_succ]
  refine wpAnyL_take (i := 7) 13 (v := .agg #[.int .i64 a, .int .i64 f]) rfl rfl (by kernel_rfl) (by kernel_rfl) (by kernel_rfl) (by kernel_rfl) (by kernel_rfl) (by kernel_rfl) (fun _ _ _ h => h) hS0 (by rfl) (by intro w' hSw; (try dsimp only at hSw); obtain ⟨hSa, hSb⟩ := hSw; go_simp <;> with_reducible rfl) ?_
  simp only [Act.put, List.setIfInBounds_toArray, List.set_cons_zero, List.set_cons_succ]
  refine wpAnyL_take (i := 8) 14 (v := .slice (some ⟨g, 0, none⟩) 1 c) rfl rfl (by kernel_rfl) (by kernel_rfl) (by kernel_rfl) (by kernel_rfl) (by kernel_rfl) (by kernel_rfl) (fun _ _ _ h => h) hS0 (by rfl) (by intro w' hSw; (try dsimp only at hSw); obtain ⟨hSa, hSb⟩ := hSw; go_simp <;> with_reducible rfl) ?_
  simp only [Act.put, List.setIfInBounds_toArray, List.set_cons_zero, List.set_cons_succ]
  refine wpAnyL_take (i := 9) 15 (v := .int .i64 0) rfl rfl (by kernel_rfl) (by kernel_rfl) (by kernel_rfl) (by kernel_rfl) (by kernel_rfl) (by kernel_rfl) (fun _ _ _ h => h) hS0 (by rfl) (by intro w' hSw; (try dsimp only at hSw); obtain ⟨hSa, hSb⟩ := hSw; go_simp <;> with_reducible rfl) ?_
  simp only [Act.put, List.setIfInBounds_toArray, List.set_cons_zero, List.set_cons_succ]
  refine wpAnyL_take (i := 10) 16 (v := .pointer (some ⟨g, 0, none⟩)) rfl rfl (by kernel_rfl) (by kernel_rfl) (by kernel_rfl) (by kernel_rfl) (by kernel_rfl) (by kernel_rfl) (fun _ _ _ h => h) hS0 (by rfl) (by intro w' hSw; (try dsimp only at hSw); obtain ⟨hSa, hSb⟩ := hSw; go_simp <;> with_reducible rfl) ?_
  simp only [Act.put, List.setIfInBounds_toArray, List.set_cons_zero, List.set_cons_succ]
  refine wpAnyL_take (i := 11) 17 (v := .agg #[.int .i64 a, .int .i64 f]) rfl rfl (by kernel_rfl) (by kernel_rfl) (by kernel_rfl) (by kernel_rfl) (by kernel_rfl) (by kernel_rfl) (fun _ _ _ h => h) hS0 (by rfl) (by intro w' hSw; (try dsimp only at hSw); obtain ⟨hSa, hSb⟩ := hSw; go_simp <;> with_reducible rfl) ?_
  simp only [Act.put, List.setIfInBounds_toArray, List.set_cons_zero, List.set_cons_succ]
  refine wpAnyL_one (i := 12) (by kernel_rfl) rfl (fun Ka hKa => ?_)
  go_simp
  refine hKa.out _ _ (fun _ => hS0) ?_
  clear hKa Ka
  try simp only [Act.put, List.setIfInBounds_toArray, List.set_cons_zero, List.set_cons_succ]
  refine wpAnyL_one (i := 13) (by kernel_rfl) rfl (fun Kb hKb => ?_)
  go_simp
  generalize hV : World.setCell (World.setCell Wd _ _) _ _ = V at HG HF ⊢
  obtain ⟨k0, k1, z0, z1, z2, z3, z4⟩ := store_two HG.out hc0 hc1
  have HG2 : Hid _ := z3
  have HF2 : Hid (Fr Wd _ _) := HF.out.trans z4 (fun _ _ h => h)
  refine hKb.out _ _ (fun _ => ⟨k0, k1⟩) ?_
  clear hKb Kb hV y0 y1 y2 z3 z4
  refine wpAnyL_one (i := 14) (by kernel_rfl) rfl (fun Kc hKc => ?_)
  go_simp
  refine hKc.out _ _ (fun _ => ⟨k0, k1⟩) ?_
  clear hKc Kc
  try simp only [Act.put, List.setIfInBounds_toArray, List.set_cons_zero, List.set_cons_succ]
  refine wpAnyL_one (i := 15) (by kernel_rfl) rfl (fun Kd hKd => ?_)
  go_simp
  refine hKd.out _ _ (fun h => absurd h (Bool.eq_false_iff.1 (by kernel_rfl))) ?_
  clear hKd Kd
  refine wpAnyL_done (by kernel_rfl) ?_ _
  generalize hV2 : World.setCell (World.setCell V _ _) _ _ = V2 at HG2 HF2 ⊢
  go_wp2
  go_end0
  exact ⟨rfl, HBd.out.trans HF2.out (fun _ _ h => h)⟩
set_option maxRecDepth 100000 in
set_option maxHeartbeats 4000000 in
theorem down_none {W : World} {h : Value} : Calls Try.prog 72 #[h, .int .i64 0, .int .i64 0] W fun r w' => r = .returned (.bool false) ∧ w' = W := by
  go_enter Try.func72, Try.ntmps72
  go_wp2
  go_loopw [7, 8, 9, 10] (fun i _ _ _ wr => i = .int .i64 0 ∧ wr = W) (fun _ _ _ _ _ => 0)
  case atStart => exact ⟨rfl, rfl⟩
  case round =>
    obtain ⟨rfl, rfl⟩ := hrel
    go_wp2
    go_ret
    exact ⟨rfl, rfl⟩
set_option maxRecDepth 100000 in
set_option maxHeartbeats 4000000 in
theorem up_none {W : World} {h : Value} : Calls Try.prog 73 #[h, .int .i64 0] W fun r w' => r = .returned (.tuple #[]) ∧ w' = W := by
  go_enter Try.func73, Try.ntmps73
  go_wp2
  go_loopw [1, 4] (fun i _ wr => i = .int .i64 0 ∧ wr = W) (fun _ _ _ => 0)
  case atStart => exact ⟨rfl, rfl⟩
  case round =>
    obtain ⟨rfl, rfl⟩ := hrel
    go_wp2
    go_end0
    exact ⟨rfl, rfl⟩
set_option maxRecDepth 100000 in
set_option maxHeartbeats 4000000 in
theorem qpop_one {W : World} {qb g c : Nat} {cs : Array Value} {t : TypeId} {a f : Int} (hq : W.heap[qb]? = some (.cells #[.slice (some ⟨g, 0, none⟩) 1 c] 106 (0, 0))) (hg : W.heap[g]? = some (.cells cs t (0, 0))) (hc0 : cs[0]? = some (.int .i64 a)) (hc1 : cs[1]? = some (.int .i64 f)) (hc : 1 ≤ c) :
    Calls Try.prog 150 #[.pointer (some ⟨qb, 0, none⟩)] W fun r w' => r = .returned (.iface 104 (.agg #[.int .i64 a, .int .i64 f])) ∧ w'.heap[qb]? = some (.cells #[.slice (some ⟨g, 0, none⟩) 0 c] 106 (0, 0)) ∧ Fr W w' (fun k => k = qb) := by
  have b0 := cell_of_one hq
  have b1 : W.frozen? ⟨qb, 0, none⟩ = false := by simp [World.frozen?, hq]
  have h0 : W.cell? ⟨g, 0, none⟩ = some (.int .i64 a) := by simp [World.cell?, hg, hc0]
  have h1 : W.cell? ⟨g, 1, none⟩ = some (.int .i64 f) := by simp [World.cell?, hg, hc1]
  have HQ : Hid _ := hq
  clear hq hg
  go_enter Try.func150, Try.ntmps150
  go_upto_region 3 with (fail)
  generalize hW2 : World.alloc W _ = W2
  have b2 : Below W.heap.size W W2 := by rw [← hW2]; exact one_new _ _
  have q2 : W2.heap[qb]? = some (.cells #[.slice (some ⟨g, 0, none⟩) 1 c] 106 (0, 0)) := (b2.block _ (lt_of_block HQ.out)).trans HQ.out
  have s2 : W2.heap[W.heap.size]? = some (.cells #[.int .i64 a, .int .i64 f] 104 (0, 0)) := by rw [← hW2]; exact heap_alloc_new _ _
  have e0 := cell_of_one q2
  have e1 : W2.frozen? ⟨qb, 0, none⟩ = false := by simp [World.frozen?, q2]
  have hne : qb ≠ W.heap.size := by have := lt_of_block HQ.out; omega
  have HS2 : Hid _ := s2
  have HQ2 : Hid _ := q2
  have HF2 : Hid (Fr W W2 (fun k => k = qb)) := Fr.ofBelow b2 _
  clear hW2 b2 b0 b1 h0 h1 s2 q2
  go_upto_region 4 with (fail)
  generalize hW3 : World.setCell W2 _ _ = W3
  have f3 : Fr W2 W3 (fun k => k = qb) := by rw [← hW3]; exact Fr.setCell _ _ _ rfl
  have q3 : Hid (W3.heap[qb]? = some (.cells #[.slice (some ⟨g, 0, none⟩) 0 c] 106 (0, 0))) := by rw [← hW3]; exact cl_set1 HQ2.out _
  have s3 := (f3.block W.heap.size (lt_of_block HS2.out) (fun e => hne e.symm)).trans HS2.out
  obtain ⟨i0, i1⟩ := box2 s3
  have HF3 : Hid (Fr W W3 (fun k => k = qb)) := HF2.out.trans f3 (fun _ _ h => h)
  clear hW3 f3 s3 e0 e1
  go_wp2
  go_ret
  exact ⟨rfl, q3.out, HF3.out⟩
set_option maxRecDepth 100000 in
set_option maxHeartbeats 4000000 in
theorem hpop_one {W : World} {qb g c : Nat} {cs : Array Value} {t : TypeId} {a f : Int} (hq : W.heap[qb]? = some (.cells #[.slice (some ⟨g, 0, none⟩) 1 c] 106 (0, 0))) (hg : W.heap[g]? = some (.cells cs t (0, 0))) (hc0 : cs[0]? = some (.int .i64 a)) (hc1 : cs[1]? = some (.int .i64 f)) (hc : 1 ≤ c) :
    Calls Try.prog 49 #[.iface 102 (.pointer (some ⟨qb, 0, none⟩))] W fun r w' => r = .returned (.iface 104 (.agg #[.int .i64 a, .int .i64 f])) ∧ w'.heap[qb]? = some (.cells #[.slice (some ⟨g, 0, none⟩) 0 c] 106 (0, 0)) ∧ Fr W w' (fun k => k = qb) := by
  have b0 := cell_of_one hq
  have HQ : Hid _ := hq
  have HG : Hid _ := hg
  clear hq hg
  have L1 := m_len b0
  have L2 := m_swap b0
  go_enter Try.func49, Try.ntmps49
  go_wp2_with (first
    | (go_at_call 48; refine (len_any).mono ?_; rintro r w1 ⟨rfl, rfl⟩)
    | (go_at_call 152; refine (swap_one HG.out hc0 hc1).mono ?_; rintro r w2 ⟨rfl, f2⟩; have hq2 := (f2.block _ (lt_of_block HQ.out) (fun h => h)).trans HQ.out; have hg2 := (f2.block _ (lt_of_block HG.out) (fun h => h)).trans HG.out; have L3 := m_pop (.pointer (some ⟨qb, 0, none⟩)) w2 qb rfl)
    | (go_at_call 72; refine (down_none).mono ?_; rintro r w3 ⟨rfl, rfl⟩)
    | (go_at_call 150; refine (qpop_one hq2 hg2 hc0 hc1 hc).mono ?_; rintro r w4 ⟨rfl, hq4, f4⟩))
  go_ret
  exact ⟨rfl, hq4, (f2.mono (fun _ _ h => h.elim)).trans f4 (fun _ _ h => h)⟩
end Go.Proofs.Ytfidojdolbmjdaa
