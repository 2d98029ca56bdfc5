/- mut.Compare: which request is done first. -/
import Derived.Test.YthnhmhjcpdomcaaMuMath
import Derived.Test.YthnhmhjcpdomcaaMuRow
import Derived.Test.YthnhmhjcpdomcaaMuLay
import Derived.Test.YthnhmhjcpdomcaaChecked
import Derived.Deep.RegionHeld
import Derived.Deep.Cut
import Derived.Deep.DeepCutAuto
namespace Go.Proofs.Ythnhmhjcpdomcaa
open Go.RowKit
theorem u_cells {w : World} {b : Nat} {t : TypeId} {f : Nat × Nat} {u0 u1 u2 u3 : Value} (h : w.heap[b]? = some (.cells #[u0, u1, u2, u3] t f)) : w.cell? ⟨b, 0, none⟩ = some u0 ∧ w.cell? ⟨b, 1, none⟩ = some u1 ∧ w.cell? ⟨b, 2, none⟩ = some u2 ∧ w.cell? ⟨b, 3, none⟩ = some u3 := by
  refine ⟨?_, ?_, ?_, ?_⟩ <;> simp [World.cell?, h]
theorem u_lt {w : World} {b : Nat} {o : Obj} (h : w.heap[b]? = some o) : b < w.heap.size := (Array.getElem?_eq_some_iff.1 h).1
theorem uNan64 (x : Int) (w : World) : Calls Try.prog 78 #[.int .i64 x] w fun e w' => e = .returned (.bool false) ∧ w' = w := by
  have hx : (x != x) = false := by simp
  go_enter Try.func78, Try.ntmps78
  go_wp2
  go_ret
  exact ⟨by simp, rfl⟩
theorem uNanI (x : Int) (w : World) : Calls Try.prog 77 #[.int .i64 x] w fun e w' => e = .returned (.bool false) ∧ w' = w := by
  have hx : (x != x) = false := by simp
  go_enter Try.func77, Try.ntmps77
  go_wp2
  go_ret
  exact ⟨by simp, rfl⟩
theorem uCmp64 (x y : Int) (w : World) : Calls Try.prog 50 #[.int .i64 x, .int .i64 y] w fun e w' => e = .returned (.int .i64 (u3 x y)) ∧ w' = w := by
  by_cases h : x < y
  · have e : u3 x y = -1 := by unfold u3; rw [if_pos h]
    rw [e]
    go_enter Try.func50, Try.ntmps50
    go_wp2_with (go_at_call 78; refine (uNan64 _ _).mono ?_; rintro r w1 ⟨rfl, rfl⟩)
    go_ret
    exact ⟨rfl, rfl⟩
  · by_cases h' : y < x
    · have e : u3 x y = 1 := by unfold u3; rw [if_neg h, if_pos h']
      rw [e]
      go_enter Try.func50, Try.ntmps50
      go_wp2_with (go_at_call 78; refine (uNan64 _ _).mono ?_; rintro r w1 ⟨rfl, rfl⟩)
      go_ret
      exact ⟨rfl, rfl⟩
    · have e : u3 x y = 0 := by unfold u3; rw [if_neg h, if_neg h']
      rw [e]
      go_enter Try.func50, Try.ntmps50
      go_wp2_with (go_at_call 78; refine (uNan64 _ _).mono ?_; rintro r w1 ⟨rfl, rfl⟩)
      go_ret
      exact ⟨rfl, rfl⟩
theorem uCmpInt (x y : Int) (w : World) : Calls Try.prog 49 #[.int .i64 x, .int .i64 y] w fun e w' => e = .returned (.int .i64 (u3 x y)) ∧ w' = w := by
  by_cases h : x < y
  · have e : u3 x y = -1 := by unfold u3; rw [if_pos h]
    rw [e]
    go_enter Try.func49, Try.ntmps49
    go_wp2_with (go_at_call 77; refine (uNanI _ _).mono ?_; rintro r w1 ⟨rfl, rfl⟩)
    go_ret
    exact ⟨rfl, rfl⟩
  · by_cases h' : y < x
    · have e : u3 x y = 1 := by unfold u3; rw [if_neg h, if_pos h']
      rw [e]
      go_enter Try.func49, Try.ntmps49
      go_wp2_with (go_at_call 77; refine (uNanI _ _).mono ?_; rintro r w1 ⟨rfl, rfl⟩)
      go_ret
      exact ⟨rfl, rfl⟩
    · have e : u3 x y = 0 := by unfold u3; rw [if_neg h, if_neg h']
      rw [e]
      go_enter Try.func49, Try.ntmps49
      go_wp2_with (go_at_call 77; refine (uNanI _ _).mono ?_; rintro r w1 ⟨rfl, rfl⟩)
      go_ret
      exact ⟨rfl, rfl⟩
def orU (a b c d : Int) : Int := if a ≠ 0 then a else if b ≠ 0 then b else if c ≠ 0 then c else d
set_option maxRecDepth 100000 in
theorem orU4 {w : World} {g : Nat} {a b c d : Int} (h : w.heap[g]? = some (.cells #[.int .i64 a, .int .i64 b, .int .i64 c, .int .i64 d] 3 (0, 0))) : Calls Try.prog 48 #[.slice (some ⟨g, 0, none⟩) 4 4] w fun e w' => e = .returned (.int .i64 (orU a b c d)) ∧ w' = w := by
  obtain ⟨k0, k1, k2, k3⟩ := u_cells h
  by_cases h0 : a = 0
  · subst h0
    by_cases h1 : b = 0
    · subst h1
      by_cases h2 : c = 0
      · subst h2
        by_cases h3 : d = 0
        · subst h3
          go_enter Try.func48, Try.ntmps48
          go_wp2
          refine wp_loop_rounds 5 ?_
          rw [rounds_succ]
          go_wp2
          rw [rounds_succ]
          go_wp2
          rw [rounds_succ]
          go_wp2
          rw [rounds_succ]
          go_wp2
          rw [rounds_succ]
          go_wp2
          go_ret
          exact ⟨rfl, rfl⟩
        · have e3 : (d != 0) = true := by simpa using h3
          go_enter Try.func48, Try.ntmps48
          go_wp2
          refine wp_loop_rounds 5 ?_
          rw [rounds_succ]
          go_wp2
          rw [rounds_succ]
          go_wp2
          rw [rounds_succ]
          go_wp2
          rw [rounds_succ]
          go_wp2
          go_ret
          exact ⟨rfl, rfl⟩
      · have e2 : (c != 0) = true := by simpa using h2
        go_enter Try.func48, Try.ntmps48
        go_wp2
        refine wp_loop_rounds 5 ?_
        rw [rounds_succ]
        go_wp2
        rw [rounds_succ]
        go_wp2
        rw [rounds_succ]
        go_wp2
        go_ret
        exact ⟨by simp [orU, h2], rfl⟩
    · have e1 : (b != 0) = true := by simpa using h1
      go_enter Try.func48, Try.ntmps48
      go_wp2
      refine wp_loop_rounds 5 ?_
      rw [rounds_succ]
      go_wp2
      rw [rounds_succ]
      go_wp2
      go_ret
      exact ⟨by simp [orU, h1], rfl⟩
  · have e0 : (a != 0) = true := by simpa using h0
    go_enter Try.func48, Try.ntmps48
    go_wp2
    refine wp_loop_rounds 5 ?_
    rw [rounds_succ]
    go_wp2
    go_ret
    exact ⟨by simp [orU, h0], rfl⟩
theorem u_eight {W : World} {p q : Nat} {x y : Mu} (hp : W.heap[p]? = some (.cells #[.int .i64 x.k, .int .i64 x.i, .int .i64 x.t, .int .i64 x.v] 38 (0, 0))) (hq : W.heap[q]? = some (.cells #[.int .i64 y.k, .int .i64 y.i, .int .i64 y.t, .int .i64 y.v] 38 (0, 0))) :
    (W.cell? ⟨p, 0, none⟩ = some (.int .i64 x.k) ∧ W.cell? ⟨p, 1, none⟩ = some (.int .i64 x.i) ∧ W.cell? ⟨p, 2, none⟩ = some (.int .i64 x.t) ∧ W.cell? ⟨p, 3, none⟩ = some (.int .i64 x.v)) ∧ W.cell? ⟨q, 0, none⟩ = some (.int .i64 y.k) ∧ W.cell? ⟨q, 1, none⟩ = some (.int .i64 y.i) ∧ W.cell? ⟨q, 2, none⟩ = some (.int .i64 y.t) ∧ W.cell? ⟨q, 3, none⟩ = some (.int .i64 y.v) := ⟨u_cells hp, u_cells hq⟩
set_option maxRecDepth 100000 in
set_option maxHeartbeats 1000000 in
theorem compare_mu (x y : Mu) (w : World) : Calls Try.prog 19 #[.agg #[.int .i64 x.k, .int .i64 x.i, .int .i64 x.t, .int .i64 x.v], .agg #[.int .i64 y.k, .int .i64 y.i, .int .i64 y.t, .int .i64 y.v]] w fun e w' => e = .returned (.int .i64 (cmpU x y)) ∧ ∃ q os, w' = Sort.grow (w.drewN q) os := by
  go_enter Try.func19, Try.ntmps19
  go_upto_region 1 with (fail)
  have hp := (Below.heap_alloc (w.alloc (.cells #[.int .i64 x.k, .int .i64 x.i, .int .i64 x.t, .int .i64 x.v] 38)) (.cells #[.int .i64 y.k, .int .i64 y.i, .int .i64 y.t, .int .i64 y.v] 38) w.heap.size (by simp)).trans (heap_alloc_new w (.cells #[.int .i64 x.k, .int .i64 x.i, .int .i64 x.t, .int .i64 x.v] 38))
  have hq := heap_alloc_new (w.alloc (.cells #[.int .i64 x.k, .int .i64 x.i, .int .i64 x.t, .int .i64 x.v] 38)) (.cells #[.int .i64 y.k, .int .i64 y.i, .int .i64 y.t, .int .i64 y.v] 38)
  have hW : (w.alloc (.cells #[.int .i64 x.k, .int .i64 x.i, .int .i64 x.t, .int .i64 x.v] 38)).alloc (.cells #[.int .i64 y.k, .int .i64 y.i, .int .i64 y.t, .int .i64 y.v] 38) = Sort.grow w #[(.cells #[.int .i64 x.k, .int .i64 x.i, .int .i64 x.t, .int .i64 x.v] 38), (.cells #[.int .i64 y.k, .int .i64 y.i, .int .i64 y.t, .int .i64 y.v] 38)] := by rw [Sort.alloc_eq_grow, Sort.alloc_eq_grow, Sort.grow_grow]; rfl
  rw [World.size_alloc] at hq
  rw [hW] at hp hq
  have HW : Hid _ := hW
  simp only [hW]
  clear hW
  generalize hWW : Sort.grow w #[(.cells #[.int .i64 x.k, .int .i64 x.i, .int .i64 x.t, .int .i64 x.v] 38), (.cells #[.int .i64 y.k, .int .i64 y.i, .int .i64 y.t, .int .i64 y.v] 38)] = W at hp hq HW ⊢
  have HWW : Hid _ := hWW
  clear hWW HW
  generalize w.heap.size + 1 = q at hq ⊢
  generalize w.heap.size = p at hp ⊢
  have x0 := u_eight hp hq
  have HX : Hid _ := x0
  have x1 := fun o => u_eight ((Below.heap_alloc W o p (u_lt hp)).trans hp) ((Below.heap_alloc W o q (u_lt hq)).trans hq)
  clear hp hq
  go_region_held (fun w' => (w'.cell? ⟨p, 0, none⟩ = some (.int .i64 x.k) ∧ w'.cell? ⟨p, 1, none⟩ = some (.int .i64 x.i) ∧ w'.cell? ⟨p, 2, none⟩ = some (.int .i64 x.t) ∧ w'.cell? ⟨p, 3, none⟩ = some (.int .i64 x.v)) ∧ w'.cell? ⟨q, 0, none⟩ = some (.int .i64 y.k) ∧ w'.cell? ⟨q, 1, none⟩ = some (.int .i64 y.i) ∧ w'.cell? ⟨q, 2, none⟩ = some (.int .i64 y.t) ∧ w'.cell? ⟨q, 3, none⟩ = some (.int .i64 y.v)) (first | exact x1 _ | exact x0)
    (first
    | (go_at_call 50; refine (uCmp64 _ _ _).mono ?_; rintro e w1 ⟨rfl, rfl⟩)
    | (go_at_call 49; refine (uCmpInt _ _ _).mono ?_; rintro e w1 ⟨rfl, rfl⟩)
    | (go_at_call 48; refine (orU4 (w := (W.alloc (.cells #[.int .i64 (u3 x.k y.k), .int .i64 (u3 x.i y.i), .int .i64 (u3 x.t y.t), .int .i64 (u3 x.v y.v)] 3)).drew) (g := W.heap.size) (heap_alloc_new W _)).mono ?_; rintro e w1 ⟨rfl, rfl⟩))
  all_goals
    clear x0 x1 HX
    go_wp2
    go_ret
    refine ⟨rfl, 1, #[(.cells #[.int .i64 x.k, .int .i64 x.i, .int .i64 x.t, .int .i64 x.v] 38), (.cells #[.int .i64 y.k, .int .i64 y.i, .int .i64 y.t, .int .i64 y.v] 38)] ++ #[.cells #[.int .i64 (u3 x.k y.k), .int .i64 (u3 x.i y.i), .int .i64 (u3 x.t y.t), .int .i64 (u3 x.v y.v)] 3], ?_⟩
    rw [← HWW.out, Sort.alloc_eq_grow, Sort.grow_grow, Sort.drew_grow]
    rfl
end Go.Proofs.Ythnhmhjcpdomcaa
