/- Compare: which of two messages stands first. -/
import Derived.Test.YtfajkfngjfhkoaaCbPut
import Derived.Test.YtfajkfngjfhkoaaCbLay
import Derived.Deep.RegionHeld
namespace Go.Proofs.Ytfajkfngjfhkoaa
open Go.RowKit
theorem nan64 (x : Int) (w : World) : Calls Try.prog 81 #[.int .i64 x] w fun e w' => e = .returned (.bool false) ∧ w' = w := by
  have hx : (x != x) = false := by simp
  go_enter Try.func81, Try.ntmps81
  go_wp2
  go_ret
  exact ⟨by simp, rfl⟩
theorem nanI (x : Int) (w : World) : Calls Try.prog 90 #[.int .i64 x] w fun e w' => e = .returned (.bool false) ∧ w' = w := by
  have hx : (x != x) = false := by simp
  go_enter Try.func90, Try.ntmps90
  go_wp2
  go_ret
  exact ⟨by simp, rfl⟩
theorem cmp64 (x y : Int) (w : World) : Calls Try.prog 53 #[.int .i64 x, .int .i64 y] w fun e w' => e = .returned (.int .i64 (c3 x y)) ∧ w' = w := by
  by_cases h : x < y
  · have e : c3 x y = -1 := by unfold c3; rw [if_pos h]
    rw [e]
    go_enter Try.func53, Try.ntmps53
    go_wp2_with (go_at_call 81; refine (nan64 _ _).mono ?_; rintro r w1 ⟨rfl, rfl⟩)
    go_ret
    exact ⟨rfl, rfl⟩
  · by_cases h' : y < x
    · have e : c3 x y = 1 := by unfold c3; rw [if_neg h, if_pos h']
      rw [e]
      go_enter Try.func53, Try.ntmps53
      go_wp2_with (go_at_call 81; refine (nan64 _ _).mono ?_; rintro r w1 ⟨rfl, rfl⟩)
      go_ret
      exact ⟨rfl, rfl⟩
    · have e : c3 x y = 0 := by unfold c3; rw [if_neg h, if_neg h']
      rw [e]
      go_enter Try.func53, Try.ntmps53
      go_wp2_with (go_at_call 81; refine (nan64 _ _).mono ?_; rintro r w1 ⟨rfl, rfl⟩)
      go_ret
      exact ⟨rfl, rfl⟩
theorem cmpInt (x y : Int) (w : World) : Calls Try.prog 64 #[.int .i64 x, .int .i64 y] w fun e w' => e = .returned (.int .i64 (c3 x y)) ∧ w' = w := by
  by_cases h : x < y
  · have e : c3 x y = -1 := by unfold c3; rw [if_pos h]
    rw [e]
    go_enter Try.func64, Try.ntmps64
    go_wp2_with (go_at_call 90; refine (nanI _ _).mono ?_; rintro r w1 ⟨rfl, rfl⟩)
    go_ret
    exact ⟨rfl, rfl⟩
  · by_cases h' : y < x
    · have e : c3 x y = 1 := by unfold c3; rw [if_neg h, if_pos h']
      rw [e]
      go_enter Try.func64, Try.ntmps64
      go_wp2_with (go_at_call 90; refine (nanI _ _).mono ?_; rintro r w1 ⟨rfl, rfl⟩)
      go_ret
      exact ⟨rfl, rfl⟩
    · have e : c3 x y = 0 := by unfold c3; rw [if_neg h, if_neg h']
      rw [e]
      go_enter Try.func64, Try.ntmps64
      go_wp2_with (go_at_call 90; refine (nanI _ _).mono ?_; rintro r w1 ⟨rfl, rfl⟩)
      go_ret
      exact ⟨rfl, rfl⟩
def orV (a b c d : Int) : Int := if a ≠ 0 then a else if b ≠ 0 then b else if c ≠ 0 then c else d
set_option maxRecDepth 100000 in
theorem or4 {w : World} {g : Nat} {a b c d : Int} (h : w.heap[g]? = some (.cells #[.int .i64 a, .int .i64 b, .int .i64 c, .int .i64 d] 3 (0, 0))) : Calls Try.prog 63 #[.slice (some ⟨g, 0, none⟩) 4 4] w fun e w' => e = .returned (.int .i64 (orV a b c d)) ∧ w' = w := by
  obtain ⟨k0, k1, k2, k3⟩ := m_cells h
  by_cases h0 : a = 0
  · subst h0
    by_cases h1 : b = 0
    · subst h1
      by_cases h2 : c = 0
      · subst h2
        by_cases h3 : d = 0
        · subst h3
          go_enter Try.func63, Try.ntmps63
          go_wp2
          refine wp_loop_rounds 5 ?_
          rw [rounds_succ]
          go_wp2
          rw [rounds_succ]
          go_wp2
          rw [rounds_succ]
          go_wp2
          rw [rounds_succ]
          go_wp2
          rw [rounds_succ]
          go_wp2
          go_ret
          exact ⟨rfl, rfl⟩
        · have e3 : (d != 0) = true := by simpa using h3
          go_enter Try.func63, Try.ntmps63
          go_wp2
          refine wp_loop_rounds 5 ?_
          rw [rounds_succ]
          go_wp2
          rw [rounds_succ]
          go_wp2
          rw [rounds_succ]
          go_wp2
          rw [rounds_succ]
          go_wp2
          go_ret
          exact ⟨rfl, rfl⟩
      · have e2 : (c != 0) = true := by simpa using h2
        go_enter Try.func63, Try.ntmps63
        go_wp2
        refine wp_loop_rounds 5 ?_
        rw [rounds_succ]
        go_wp2
        rw [rounds_succ]
        go_wp2
        rw [rounds_succ]
        go_wp2
        go_ret
        exact ⟨by simp [orV, h2], rfl⟩
    · have e1 : (b != 0) = true := by simpa using h1
      go_enter Try.func63, Try.ntmps63
      go_wp2
      refine wp_loop_rounds 5 ?_
      rw [rounds_succ]
      go_wp2
      rw [rounds_succ]
      go_wp2
      go_ret
      exact ⟨by simp [orV, h1], rfl⟩
  · have e0 : (a != 0) = true := by simpa using h0
    go_enter Try.func63, Try.ntmps63
    go_wp2
    refine wp_loop_rounds 5 ?_
    rw [rounds_succ]
    go_wp2
    go_ret
    exact ⟨by simp [orV, h0], rfl⟩
theorem m_eight {W : World} {p q : Nat} {x y : Msg} (hp : W.heap[p]? = some (.cells #[.int .i64 x.f, .int .i64 x.t, .int .i64 x.a, .int .i64 x.v] 67 (0, 0))) (hq : W.heap[q]? = some (.cells #[.int .i64 y.f, .int .i64 y.t, .int .i64 y.a, .int .i64 y.v] 67 (0, 0))) :
    (W.cell? ⟨p, 0, none⟩ = some (.int .i64 x.f) ∧ W.cell? ⟨p, 1, none⟩ = some (.int .i64 x.t) ∧ W.cell? ⟨p, 2, none⟩ = some (.int .i64 x.a) ∧ W.cell? ⟨p, 3, none⟩ = some (.int .i64 x.v)) ∧ W.cell? ⟨q, 0, none⟩ = some (.int .i64 y.f) ∧ W.cell? ⟨q, 1, none⟩ = some (.int .i64 y.t) ∧ W.cell? ⟨q, 2, none⟩ = some (.int .i64 y.a) ∧ W.cell? ⟨q, 3, none⟩ = some (.int .i64 y.v) := ⟨m_cells hp, m_cells hq⟩
set_option maxRecDepth 100000 in
set_option maxHeartbeats 1000000 in
theorem compare_msg (x y : Msg) (w : World) : Calls Try.prog 36 #[.agg #[.int .i64 x.f, .int .i64 x.t, .int .i64 x.a, .int .i64 x.v], .agg #[.int .i64 y.f, .int .i64 y.t, .int .i64 y.a, .int .i64 y.v]] w fun e w' => e = .returned (.int .i64 (cmpM x y)) ∧ ∃ q os, w' = Sort.grow (w.drewN q) os := by
  go_enter Try.func36, Try.ntmps36
  go_upto_region 1 with (fail)
  have hp := (Below.heap_alloc (w.alloc (.cells #[.int .i64 x.f, .int .i64 x.t, .int .i64 x.a, .int .i64 x.v] 67)) (.cells #[.int .i64 y.f, .int .i64 y.t, .int .i64 y.a, .int .i64 y.v] 67) w.heap.size (by simp)).trans (heap_alloc_new w (.cells #[.int .i64 x.f, .int .i64 x.t, .int .i64 x.a, .int .i64 x.v] 67))
  have hq := heap_alloc_new (w.alloc (.cells #[.int .i64 x.f, .int .i64 x.t, .int .i64 x.a, .int .i64 x.v] 67)) (.cells #[.int .i64 y.f, .int .i64 y.t, .int .i64 y.a, .int .i64 y.v] 67)
  have hW : (w.alloc (.cells #[.int .i64 x.f, .int .i64 x.t, .int .i64 x.a, .int .i64 x.v] 67)).alloc (.cells #[.int .i64 y.f, .int .i64 y.t, .int .i64 y.a, .int .i64 y.v] 67) = Sort.grow w #[(.cells #[.int .i64 x.f, .int .i64 x.t, .int .i64 x.a, .int .i64 x.v] 67), (.cells #[.int .i64 y.f, .int .i64 y.t, .int .i64 y.a, .int .i64 y.v] 67)] := by rw [Sort.alloc_eq_grow, Sort.alloc_eq_grow, Sort.grow_grow]; rfl
  rw [World.size_alloc] at hq
  rw [hW] at hp hq
  have HW : Hid _ := hW
  simp only [hW]
  clear hW
  generalize hWW : Sort.grow w #[(.cells #[.int .i64 x.f, .int .i64 x.t, .int .i64 x.a, .int .i64 x.v] 67), (.cells #[.int .i64 y.f, .int .i64 y.t, .int .i64 y.a, .int .i64 y.v] 67)] = W at hp hq HW ⊢
  have HWW : Hid _ := hWW
  clear hWW HW
  generalize w.heap.size + 1 = q at hq ⊢
  generalize w.heap.size = p at hp ⊢
  have x0 := m_eight hp hq
  have HX : Hid _ := x0
  have x1 := fun o => m_eight ((Below.heap_alloc W o p (m_lt hp)).trans hp) ((Below.heap_alloc W o q (m_lt hq)).trans hq)
  clear hp hq
  go_region_held (fun w' => (w'.cell? ⟨p, 0, none⟩ = some (.int .i64 x.f) ∧ w'.cell? ⟨p, 1, none⟩ = some (.int .i64 x.t) ∧ w'.cell? ⟨p, 2, none⟩ = some (.int .i64 x.a) ∧ w'.cell? ⟨p, 3, none⟩ = some (.int .i64 x.v)) ∧ w'.cell? ⟨q, 0, none⟩ = some (.int .i64 y.f) ∧ w'.cell? ⟨q, 1, none⟩ = some (.int .i64 y.t) ∧ w'.cell? ⟨q, 2, none⟩ = some (.int .i64 y.a) ∧ w'.cell? ⟨q, 3, none⟩ = some (.int .i64 y.v)) (first | exact x1 _ | exact x0)
    (first
    | (go_at_call 53; refine (cmp64 _ _ _).mono ?_; rintro e w1 ⟨rfl, rfl⟩)
    | (go_at_call 64; refine (cmpInt _ _ _).mono ?_; rintro e w1 ⟨rfl, rfl⟩)
    | (go_at_call 63; refine (or4 (w := (W.alloc (.cells #[.int .i64 (c3 x.t y.t), .int .i64 (c3 x.f y.f), .int .i64 (c3 x.a y.a), .int .i64 (c3 x.v y.v)] 3)).drew) (g := W.heap.size) (heap_alloc_new W _)).mono ?_; rintro e w1 ⟨rfl, rfl⟩))
  all_goals
    clear x0 x1 HX
    go_wp2
    go_ret
    refine ⟨rfl, 1, #[(.cells #[.int .i64 x.f, .int .i64 x.t, .int .i64 x.a, .int .i64 x.v] 67), (.cells #[.int .i64 y.f, .int .i64 y.t, .int .i64 y.a, .int .i64 y.v] 67)] ++ #[.cells #[.int .i64 (c3 x.t y.t), .int .i64 (c3 x.f y.f), .int .i64 (c3 x.a y.a), .int .i64 (c3 x.v y.v)] 3], ?_⟩
    rw [← HWW.out, Sort.alloc_eq_grow, Sort.grow_grow, Sort.drew_grow]
    rfl
theorem orV_cmp (x y : Msg) : orV (c3 x.t y.t) (c3 x.f y.f) (c3 x.a y.a) (c3 x.v y.v) = cmpM x y := rfl
end Go.Proofs.Ytfajkfngjfhkoaa
