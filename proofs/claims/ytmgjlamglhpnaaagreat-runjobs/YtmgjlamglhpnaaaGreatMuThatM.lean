/- The library's sort at requests: which of the program's functions are the library's. -/
import Derived.Shelf.SlSortCmp.NoneTotal
import Derived.Shelf.SlGeneric
import Derived.Test.YtmgjlamglhpnaaaGreatProg
import Derived.Test.YtmgjlamglhpnaaaGreatJbMM
import Derived.Test.YtmgjlamglhpnaaaGreatJbDecM
import Derived.Test.YtmgjlamglhpnaaaGreatChecked
import Derived.Deep.RegionHeld
import Derived.Deep.Cut
import Derived.Deep.DeepCutAuto
import Derived.Test.YtmgjlamglhpnaaaGreatGrWalk1M
import Derived.Maps.AppendAt
namespace Go.Proofs.YtmgjlamglhpnaaaGreat
set_option maxRecDepth 100000
open Go.Shelf Go.Proofs
def layU_ren : Go.Shelf.Ren := ⟨fun | 6 => 137 | 14 => 170 | 15 => 171 | 20 => 197 | 21 => 198 | 22 => 199 | 23 => 200 | 24 => 201 | 25 => 202 | 26 => 203 | 27 => 204 | 28 => 205 | 29 => 206 | 46 => 226 | 47 => 227 | 48 => 228 | 49 => 229 | 50 => 230 | 57 => 240 | n => n, fun | 22 => 117 | 24 => 195 | 25 => 216 | 3 => 3 | 39 => 164 | 0 => 0 | 53 => 265 | 55 => 85 | 4 => 4 | 46 => 259 | 45 => 258 | 50 => 106 | 5 => 5 | 9 => 9 | 66 => 280 | 70 => 283 | 76 => 292 | 77 => 293 | n => n, fun | n => n⟩
theorem layU : Go.Proofs.SlLaysF0.n6 Tryz.prog layU_ren := {
 mixed := by kernel_rfl,
 f6 := ⟨Tryz.f137.name, by decide, Tryz.func137.trans (congrArg some (by kernel_rfl))⟩,
 f14 := ⟨Tryz.f170.name, by decide, Tryz.func170.trans (congrArg some (by kernel_rfl))⟩,
 f15 := Tryz.func171.trans (congrArg some (by kernel_rfl)),
 f20 := ⟨Tryz.f197.name, by decide, Tryz.func197.trans (congrArg some (by kernel_rfl))⟩,
 f21 := ⟨Tryz.f198.name, by decide, Tryz.func198.trans (congrArg some (by kernel_rfl))⟩,
 f22 := ⟨Tryz.f199.name, by decide, Tryz.func199.trans (congrArg some (by kernel_rfl))⟩,
 f23 := ⟨Tryz.f200.name, by decide, Tryz.func200.trans (congrArg some (by kernel_rfl))⟩,
 f24 := ⟨Tryz.f201.name, by decide, Tryz.func201.trans (congrArg some (by kernel_rfl))⟩,
 f25 := ⟨Tryz.f202.name, by decide, Tryz.func202.trans (congrArg some (by kernel_rfl))⟩,
 f26 := ⟨Tryz.f203.name, by decide, Tryz.func203.trans (congrArg some (by kernel_rfl))⟩,
 f27 := ⟨Tryz.f204.name, by decide, Tryz.func204.trans (congrArg some (by kernel_rfl))⟩,
 f28 := Tryz.func205.trans (congrArg some (by kernel_rfl)),
 f29 := Tryz.func206.trans (congrArg some (by kernel_rfl)),
 f46 := ⟨Tryz.f226.name, by decide, Tryz.func226.trans (congrArg some (by kernel_rfl))⟩,
 f47 := Tryz.func227.trans (congrArg some (by kernel_rfl)),
 f48 := Tryz.func228.trans (congrArg some (by kernel_rfl)),
 f49 := ⟨Tryz.f229.name, by decide, Tryz.func229.trans (congrArg some (by kernel_rfl))⟩,
 f50 := ⟨Tryz.f230.name, by decide, Tryz.func230.trans (congrArg some (by kernel_rfl))⟩,
 f57 := ⟨Tryz.f240.name, by decide, Tryz.func240.trans (congrArg some (by kernel_rfl))⟩,
 t0 := Tryz.underlying0,
 a0 := Tryz.isAgg0,
 z0 := Tryz.sizeOf0,
 v0 := Tryz.zeroValue0,
 t3 := Tryz.underlying3,
 a3 := Tryz.isAgg3,
 z3 := Tryz.sizeOf3,
 v3 := Tryz.zeroValue3,
 t4 := Tryz.underlying4,
 a4 := Tryz.isAgg4,
 z4 := Tryz.sizeOf4,
 v4 := Tryz.zeroValue4,
 t5 := Tryz.underlying5,
 a5 := Tryz.isAgg5,
 z5 := Tryz.sizeOf5,
 v5 := Tryz.zeroValue5,
 t9 := Tryz.underlying9,
 a9 := Tryz.isAgg9,
 z9 := Tryz.sizeOf9,
 v9 := Tryz.zeroValue9,
 t22 := Tryz.underlying117,
 a22 := Tryz.isAgg117,
 z22 := Tryz.sizeOf117,
 v22 := Tryz.zeroValue117,
 t25 := Tryz.underlying216,
 a25 := Tryz.isAgg216,
 z25 := Tryz.sizeOf216,
 v25 := Tryz.zeroValue216,
 t39 := Tryz.underlying164,
 a39 := Tryz.isAgg164,
 z39 := Tryz.sizeOf164,
 v39 := Tryz.zeroValue164,
 t45 := Tryz.underlying258,
 a45 := Tryz.isAgg258,
 z45 := Tryz.sizeOf258,
 v45 := Tryz.zeroValue258,
 t46 := Tryz.underlying259,
 a46 := Tryz.isAgg259,
 z46 := Tryz.sizeOf259,
 v46 := Tryz.zeroValue259,
 t50 := Tryz.underlying106,
 a50 := Tryz.isAgg106,
 z50 := Tryz.sizeOf106,
 v50 := Tryz.zeroValue106,
 t53 := Tryz.underlying265,
 a53 := Tryz.isAgg265,
 z53 := Tryz.sizeOf265,
 v53 := Tryz.zeroValue265,
 t55 := Tryz.underlying85,
 a55 := Tryz.isAgg85,
 z55 := Tryz.sizeOf85,
 v55 := Tryz.zeroValue85,
 t66 := Tryz.underlying280,
 a66 := Tryz.isAgg280,
 z66 := Tryz.sizeOf280,
 v66 := Tryz.zeroValue280,
 t70 := Tryz.underlying283,
 a70 := Tryz.isAgg283,
 z70 := Tryz.sizeOf283,
 v70 := Tryz.zeroValue283,
 t76 := Tryz.underlying292,
 a76 := Tryz.isAgg292,
 z76 := Tryz.sizeOf292,
 v76 := Tryz.zeroValue292,
 t77 := Tryz.underlying293,
 a77 := Tryz.isAgg293,
 z77 := Tryz.sizeOf293,
 v77 := Tryz.zeroValue293 }
section
open Go.RowKit
theorem u_cells {w : World} {b : Nat} {t : TypeId} {f : Nat × Nat} {u0 u1 u2 u3 : Value} (h : w.heap[b]? = some (.cells #[u0, u1, u2, u3] t f)) : w.cell? ⟨b, 0, none⟩ = some u0 ∧ w.cell? ⟨b, 1, none⟩ = some u1 ∧ w.cell? ⟨b, 2, none⟩ = some u2 ∧ w.cell? ⟨b, 3, none⟩ = some u3 := by
 refine ⟨?_, ?_, ?_, ?_⟩ <;> simp [World.cell?, h]
theorem u_lt {w : World} {b : Nat} {o : Obj} (h : w.heap[b]? = some o) : b < w.heap.size := (Array.getElem?_eq_some_iff.1 h).1
theorem uNan64 (x : Int) (w : World) : Calls Tryz.prog 124 #[.int .i64 x] w fun e w' => e = .returned (.bool false) ∧ w' = w := by
 have hx : (x != x) = false := by simp
 go_enter Tryz.func124, Tryz.ntmps124
 go_wp2
 go_ret
 exact ⟨by simp, rfl⟩
theorem uNanI (x : Int) (w : World) : Calls Tryz.prog 207 #[.int .i64 x] w fun e w' => e = .returned (.bool false) ∧ w' = w := by
 have hx : (x != x) = false := by simp
 go_enter Tryz.func207, Tryz.ntmps207
 go_wp2
 go_ret
 exact ⟨by simp, rfl⟩
theorem uCmp64 (x y : Int) (w : World) : Calls Tryz.prog 106 #[.int .i64 x, .int .i64 y] w fun e w' => e = .returned (.int .i64 (u3 x y)) ∧ w' = w := by
 by_cases h : x < y
 ·have e : u3 x y = -1 := by unfold u3; rw [if_pos h]
  rw [e]
  go_enter Tryz.func106, Tryz.ntmps106
  go_wp2_with (go_at_call 124; refine (uNan64 _ _).mono ?_; rintro r w1 ⟨rfl, rfl⟩)
  go_ret
  exact ⟨rfl, rfl⟩
 ·by_cases h' : y < x
  ·have e : u3 x y = 1 := by unfold u3; rw [if_neg h, if_pos h']
   rw [e]
   go_enter Tryz.func106, Tryz.ntmps106
   go_wp2_with (go_at_call 124; refine (uNan64 _ _).mono ?_; rintro r w1 ⟨rfl, rfl⟩)
   go_ret
   exact ⟨rfl, rfl⟩
  ·have e : u3 x y = 0 := by unfold u3; rw [if_neg h, if_neg h']
   rw [e]
   go_enter Tryz.func106, Tryz.ntmps106
   go_wp2_with (go_at_call 124; refine (uNan64 _ _).mono ?_; rintro r w1 ⟨rfl, rfl⟩)
   go_ret
   exact ⟨rfl, rfl⟩
theorem uCmpInt (x y : Int) (w : World) : Calls Tryz.prog 173 #[.int .i64 x, .int .i64 y] w fun e w' => e = .returned (.int .i64 (u3 x y)) ∧ w' = w := by
 by_cases h : x < y
 ·have e : u3 x y = -1 := by unfold u3; rw [if_pos h]
  rw [e]
  go_enter Tryz.func173, Tryz.ntmps173
  go_wp2_with (go_at_call 207; refine (uNanI _ _).mono ?_; rintro r w1 ⟨rfl, rfl⟩)
  go_ret
  exact ⟨rfl, rfl⟩
 ·by_cases h' : y < x
  ·have e : u3 x y = 1 := by unfold u3; rw [if_neg h, if_pos h']
   rw [e]
   go_enter Tryz.func173, Tryz.ntmps173
   go_wp2_with (go_at_call 207; refine (uNanI _ _).mono ?_; rintro r w1 ⟨rfl, rfl⟩)
   go_ret
   exact ⟨rfl, rfl⟩
  ·have e : u3 x y = 0 := by unfold u3; rw [if_neg h, if_neg h']
   rw [e]
   go_enter Tryz.func173, Tryz.ntmps173
   go_wp2_with (go_at_call 207; refine (uNanI _ _).mono ?_; rintro r w1 ⟨rfl, rfl⟩)
   go_ret
   exact ⟨rfl, rfl⟩
def orU (a b c d : Int) : Int := if a ≠ 0 then a else if b ≠ 0 then b else if c ≠ 0 then c else d
theorem orU4 {w : World} {g : Nat} {a b c d : Int} (h : w.heap[g]? = some (.cells #[.int .i64 a, .int .i64 b, .int .i64 c, .int .i64 d] 3 (0, 0))) : Calls Tryz.prog 172 #[.slice (some ⟨g, 0, none⟩) 4 4] w fun e w' => e = .returned (.int .i64 (orU a b c d)) ∧ w' = w := by
 obtain ⟨k0, k1, k2, k3⟩ := u_cells h
 by_cases h0 : a = 0
 ·subst h0
  by_cases h1 : b = 0
  ·subst h1
   by_cases h2 : c = 0
   ·subst h2
    by_cases h3 : d = 0
    ·subst h3
     go_enter Tryz.func172, Tryz.ntmps172
     go_wp2
     refine wp_loop_rounds 5 ?_
     rw [rounds_succ]
     go_wp2
     rw [rounds_succ]
     go_wp2
     rw [rounds_succ]
     go_wp2
     rw [rounds_succ]
     go_wp2
     rw [rounds_succ]
     go_wp2
     go_ret
     exact ⟨rfl, rfl⟩
    ·have e3 : (d != 0) = true := by simpa using h3
     go_enter Tryz.func172, Tryz.ntmps172
     go_wp2
     refine wp_loop_rounds 5 ?_
     rw [rounds_succ]
     go_wp2
     rw [rounds_succ]
     go_wp2
     rw [rounds_succ]
     go_wp2
     rw [rounds_succ]
     go_wp2
     go_ret
     exact ⟨rfl, rfl⟩
   ·have e2 : (c != 0) = true := by simpa using h2
    go_enter Tryz.func172, Tryz.ntmps172
    go_wp2
    refine wp_loop_rounds 5 ?_
    rw [rounds_succ]
    go_wp2
    rw [rounds_succ]
    go_wp2
    rw [rounds_succ]
    go_wp2
    go_ret
    exact ⟨by simp [orU, h2], rfl⟩
  ·have e1 : (b != 0) = true := by simpa using h1
   go_enter Tryz.func172, Tryz.ntmps172
   go_wp2
   refine wp_loop_rounds 5 ?_
   rw [rounds_succ]
   go_wp2
   rw [rounds_succ]
   go_wp2
   go_ret
   exact ⟨by simp [orU, h1], rfl⟩
 ·have e0 : (a != 0) = true := by simpa using h0
  go_enter Tryz.func172, Tryz.ntmps172
  go_wp2
  refine wp_loop_rounds 5 ?_
  rw [rounds_succ]
  go_wp2
  go_ret
  exact ⟨by simp [orU, h0], rfl⟩
theorem u_eight {W : World} {p q : Nat} {x y : Mu} (hp : W.heap[p]? = some (.cells #[.int .i64 x.k, .int .i64 x.i, .int .i64 x.t, .int .i64 x.v] 195 (0, 0))) (hq : W.heap[q]? = some (.cells #[.int .i64 y.k, .int .i64 y.i, .int .i64 y.t, .int .i64 y.v] 195 (0, 0))) :
  (W.cell? ⟨p, 0, none⟩ = some (.int .i64 x.k) ∧ W.cell? ⟨p, 1, none⟩ = some (.int .i64 x.i) ∧ W.cell? ⟨p, 2, none⟩ = some (.int .i64 x.t) ∧ W.cell? ⟨p, 3, none⟩ = some (.int .i64 x.v)) ∧ W.cell? ⟨q, 0, none⟩ = some (.int .i64 y.k) ∧ W.cell? ⟨q, 1, none⟩ = some (.int .i64 y.i) ∧ W.cell? ⟨q, 2, none⟩ = some (.int .i64 y.t) ∧ W.cell? ⟨q, 3, none⟩ = some (.int .i64 y.v) := ⟨u_cells hp, u_cells hq⟩
set_option maxHeartbeats 1000000 in
theorem compare_mu (x y : Mu) (w : World) : Calls Tryz.prog 138 #[.agg #[.int .i64 x.k, .int .i64 x.i, .int .i64 x.t, .int .i64 x.v], .agg #[.int .i64 y.k, .int .i64 y.i, .int .i64 y.t, .int .i64 y.v]] w fun e w' => e = .returned (.int .i64 (cmpU x y)) ∧ ∃ q os, w' = Sort.grow (w.drewN q) os := by
 go_enter Tryz.func138, Tryz.ntmps138
 go_upto_region 1 with (fail)
 have hp := (Below.heap_alloc (w.alloc (.cells #[.int .i64 x.k, .int .i64 x.i, .int .i64 x.t, .int .i64 x.v] 195)) (.cells #[.int .i64 y.k, .int .i64 y.i, .int .i64 y.t, .int .i64 y.v] 195) w.heap.size (by simp)).trans (heap_alloc_new w (.cells #[.int .i64 x.k, .int .i64 x.i, .int .i64 x.t, .int .i64 x.v] 195))
 have hq := heap_alloc_new (w.alloc (.cells #[.int .i64 x.k, .int .i64 x.i, .int .i64 x.t, .int .i64 x.v] 195)) (.cells #[.int .i64 y.k, .int .i64 y.i, .int .i64 y.t, .int .i64 y.v] 195)
 have hW : (w.alloc (.cells #[.int .i64 x.k, .int .i64 x.i, .int .i64 x.t, .int .i64 x.v] 195)).alloc (.cells #[.int .i64 y.k, .int .i64 y.i, .int .i64 y.t, .int .i64 y.v] 195) = Sort.grow w #[(.cells #[.int .i64 x.k, .int .i64 x.i, .int .i64 x.t, .int .i64 x.v] 195), (.cells #[.int .i64 y.k, .int .i64 y.i, .int .i64 y.t, .int .i64 y.v] 195)] := by rw [Sort.alloc_eq_grow, Sort.alloc_eq_grow, Sort.grow_grow]; rfl
 rw [World.size_alloc] at hq
 rw [hW] at hp hq
 have HW : Hid _ := hW
 simp only [hW]
 clear hW
 generalize hWW : Sort.grow w #[(.cells #[.int .i64 x.k, .int .i64 x.i, .int .i64 x.t, .int .i64 x.v] 195), (.cells #[.int .i64 y.k, .int .i64 y.i, .int .i64 y.t, .int .i64 y.v] 195)] = W at hp hq HW ⊢
 have HWW : Hid _ := hWW
 clear hWW HW
 generalize w.heap.size + 1 = q at hq ⊢
 generalize w.heap.size = p at hp ⊢
 have x0 := u_eight hp hq
 have HX : Hid _ := x0
 have x1 := fun o => u_eight ((Below.heap_alloc W o p (u_lt hp)).trans hp) ((Below.heap_alloc W o q (u_lt hq)).trans hq)
 clear hp hq
 go_region_held (fun w' => (w'.cell? ⟨p, 0, none⟩ = some (.int .i64 x.k) ∧ w'.cell? ⟨p, 1, none⟩ = some (.int .i64 x.i) ∧ w'.cell? ⟨p, 2, none⟩ = some (.int .i64 x.t) ∧ w'.cell? ⟨p, 3, none⟩ = some (.int .i64 x.v)) ∧ w'.cell? ⟨q, 0, none⟩ = some (.int .i64 y.k) ∧ w'.cell? ⟨q, 1, none⟩ = some (.int .i64 y.i) ∧ w'.cell? ⟨q, 2, none⟩ = some (.int .i64 y.t) ∧ w'.cell? ⟨q, 3, none⟩ = some (.int .i64 y.v)) (first | exact x1 _ | exact x0)
  (first
  | (go_at_call 106; refine (uCmp64 _ _ _).mono ?_; rintro e w1 ⟨rfl, rfl⟩)
  | (go_at_call 173; refine (uCmpInt _ _ _).mono ?_; rintro e w1 ⟨rfl, rfl⟩)
  | (go_at_call 172; refine (orU4 (w := (W.alloc (.cells #[.int .i64 (u3 x.k y.k), .int .i64 (u3 x.i y.i), .int .i64 (u3 x.t y.t), .int .i64 (u3 x.v y.v)] 3)).drew) (g := W.heap.size) (heap_alloc_new W _)).mono ?_; rintro e w1 ⟨rfl, rfl⟩))
 all_goals
  clear x0 x1 HX
  go_wp2
  go_ret
  refine ⟨rfl, 1, #[(.cells #[.int .i64 x.k, .int .i64 x.i, .int .i64 x.t, .int .i64 x.v] 195), (.cells #[.int .i64 y.k, .int .i64 y.i, .int .i64 y.t, .int .i64 y.v] 195)] ++ #[.cells #[.int .i64 (u3 x.k y.k), .int .i64 (u3 x.i y.i), .int .i64 (u3 x.t y.t), .int .i64 (u3 x.v y.v)] 3], ?_⟩
  rw [← HWW.out, Sort.alloc_eq_grow, Sort.grow_grow, Sort.drew_grow]
  rfl
end
section
open Go.RowKit Go.Sort
def UO (w : World) (base : Nat) (v : Value) (L : List Mu) : Prop := w.ownsRow base 195 4 v L.length (L.flatMap muCells)
theorem mu_len (L : List Mu) : (L.flatMap muCells).length = L.length * 4 := by
 induction L with
 | nil => rfl
 | cons x L ih => rw [List.flatMap_cons, List.length_append, ih]; simp [muCells]; omega
theorem muOne (y : Mu) : ∀ u ∈ muCells y, u.oneCell' = true := by
 intro u hu
 simp [muCells] at hu
 rcases hu with rfl | rfl | rfl | rfl <;> rfl
theorem musOne (L : List Mu) : ∀ u ∈ L.flatMap muCells, u.oneCell' = true := by
 intro u hu
 obtain ⟨y, _, hy⟩ := List.mem_flatMap.1 hu
 exact muOne y u hy
theorem cellsU_get (L : List Mu) (j : Nat) (h : j < L.length) : (L.flatMap muCells)[j * 4]? = some (.int .i64 L[j].k) ∧ (L.flatMap muCells)[j * 4 + 1]? = some (.int .i64 L[j].i) ∧ (L.flatMap muCells)[j * 4 + 2]? = some (.int .i64 L[j].t) ∧ (L.flatMap muCells)[j * 4 + 3]? = some (.int .i64 L[j].v) := by
 have e : L = L.take j ++ L[j] :: L.drop (j + 1) := by rw [← List.drop_eq_getElem_cons h, List.take_append_drop]
 have hl : ((L.take j).flatMap muCells).length = j * 4 := by rw [mu_len, List.length_take]; omega
 generalize hx : L[j] = x at e
 rw [e, List.flatMap_append, List.flatMap_cons]
 refine ⟨?_, ?_, ?_, ?_⟩ <;> (rw [List.getElem?_append_right (by omega), hl]; simp [muCells])
theorem flatU_at (L : List Mu) (q r : Nat) (hq : q < L.length) (hr : r < 4) : (L.flatMap muCells)[q * 4 + r]? = (muCells L[q])[r]? := by
 obtain ⟨a0, a1, a2, a3⟩ := cellsU_get L q hq
 match r, hr with
 | 0, _ => rw [Nat.add_zero, a0]; rfl
 | 1, _ => rw [a1]; rfl
 | 2, _ => rw [a2]; rfl
 | 3, _ => rw [a3]; rfl
theorem flatU_get (L : List Mu) (t : Nat) (h : t < L.length * 4) : (L.flatMap muCells)[t]? = (muCells (L[t / 4]'(by omega)))[t % 4]? := by
 rw [← flatU_at L (t / 4) (t % 4) (by omega) (by omega)]
 congr 1
 omega
theorem flatKU_list [Inhabited Mu] (L : List Mu) : flatK muCells 4 L.toArray = (L.flatMap muCells).toArray := by
 apply Array.ext
 ·rw [size_flatK, List.size_toArray, List.size_toArray, mu_len]
 ·intro t h1 h2
  rw [size_flatK, List.size_toArray] at h1
  have e := get_flatK muCells 4 L.toArray t (by simpa using h1)
  rw [getElem!_pos _ t (by rw [size_flatK]; simpa using h1)] at e
  rw [e, List.getElem_toArray]
  have hj : t / 4 < L.length := by omega
  have e2 := flatU_get L t h1
  rw [List.getElem?_eq_getElem (by rw [mu_len]; exact h1)] at e2
  have e3 : L.toArray[t / 4]! = L[t / 4] := by rw [getElem!_pos L.toArray (t / 4) (by simpa using hj)]; simp
  rw [e3]
  have h4 : t % 4 < (muCells L[t / 4]).length := by simp [muCells]; omega
  rw [getElem!_pos (muCells L[t / 4]) (t % 4) h4]
  rw [List.getElem?_eq_getElem h4] at e2
  exact (Option.some.inj e2).symm
theorem take_putU (cur : Array Value) (xs : List Value) (h : xs.length ≤ cur.size) : (putCells id 0 xs.toArray cur).toList.take xs.length = xs := by
 apply List.ext_getElem?
 intro j
 by_cases hj : j < xs.length
 ·rw [List.getElem?_take_of_lt hj, Array.getElem?_toList]
  simp [putCells, hj, show j < cur.size by omega]
 ·rw [List.getElem?_take_eq_none (by omega), List.getElem?_eq_none (by omega)]
theorem sortedU_heap [Inhabited Mu] {w : World} {g n : Nat} {os : Array Obj} {cur : Array Value} {e : TypeId} (L : List Mu) (hb : w.heap[g]? = some (.cells cur e (0, 0))) :
  (sortWorldK muCells 4 w g 0 n L.toArray os).heap[g]? = some (.cells (putCells id 0 (L.flatMap muCells).toArray cur) e (0, 0)) := by
 have hg : g < w.heap.size := (Array.getElem?_eq_some_iff.1 hb).1
 unfold sortWorldK putRowK
 rw [heap_grow_old _ _ (by simpa using hg), flatKU_list]
 simp [putRow, mapBlock, Sort.ahead, Array.getElem?_modify, hb, onCells]
theorem sortedU_grown [Inhabited Mu] {w : World} {g n : Nat} {os : Array Obj} (d : Array Mu) : w.grownBy (sortWorldK muCells 4 w g 0 n d os) (some g) := by
 refine ⟨rfl, rfl, rfl, by simp [sortWorldK, putRowK], fun k hk hne => ?_⟩
 unfold sortWorldK putRowK
 rw [heap_grow_old _ _ (by simpa using hk)]
 have : g ≠ k := fun e => hne (by rw [e])
 simp [putRow, mapBlock, Sort.ahead, Array.getElem?_modify, this]
theorem lt_cmpU (x y : Mu) : ltOf cmpU x y = ult x y := cmpU_lt x y
theorem cmpU_swo : SWO (ltOf cmpU) where
 irrefl x := by rw [lt_cmpU]; exact ult_irrefl x
 trans x y z h1 h2 := by rw [lt_cmpU] at *; exact ult_trans x y z h1 h2
 ntrans x y z h1 h2 := by rw [lt_cmpU] at *; exact ult_ntrans x y z h1 h2
theorem cmpU_total (x y : Mu) (h : ltOf cmpU x y = false) (h' : ltOf cmpU y x = false) : x = y := by
 rw [lt_cmpU] at *
 exact ult_total x y h h'
theorem merge_sortU (L : List Mu) : (L.mergeSort fun x y => !ltOf cmpU y x) = sortU L := by
 unfold sortU
 congr 1
 funext x y
 unfold ule
 rw [lt_cmpU]
theorem aggMu : ∀ w, (isAgg 195).run Tryz.prog w = .ok true w := Tryz.isAgg195
theorem sizeMu : ∀ w, (Go.sizeOf 195).run Tryz.prog w = .ok 4 w := Tryz.sizeOf195
theorem cmpU_enters : ∀ args w, (callFunc 138 args).run Tryz.prog w = .ok (.enter 138 args) w := enters_of Tryz.func138 (by kernel_rfl) rfl
theorem holds_mus [Inhabited Mu] {w : World} {base g n cap : Nat} {L : List Mu} (h : UO w base (.slice (some ⟨g, 0, none⟩) n cap) L) : HoldsK muCells 4 w g 0 L.toArray := by
 intro j hj
 rw [flatKU_list] at hj ⊢
 rw [List.size_toArray] at hj
 have hc : w.cell? ⟨g, 0 + j, none⟩ = some (L.flatMap muCells)[j] := by
  have := World.ownsRow.cells h (g := g) rfl j _ (List.getElem?_eq_getElem hj)
  by_cases e : j = 0
  ·subst e; simpa [Addr.add] using this
  ·simpa [Addr.add, e] using this
 refine ⟨?_, ?_⟩
 ·rw [hc, getElem!_pos _ _ (by simpa using hj)]; simp
 ·rcases h.2 with ⟨h1, _⟩ | ⟨g', cap', cur, h1, _, hg, _⟩
  ·cases h1
  ·cases h1
   simp [World.frozen?, hg]
theorem sortFU_any {w : World} {base g cap : Nat} {L : List Mu} (h : UO w base (.slice (some ⟨g, 0, none⟩) L.length cap) L) (hs : L.length < 4611686018427387904) :
  Calls Tryz.prog 137 #[.slice (some ⟨g, 0, none⟩) L.length cap, .func (.func 138) #[] #[]] w fun e w' => e = .returned (.tuple #[]) ∧ UO w' base (.slice (some ⟨g, 0, none⟩) L.length cap) (sortU L) ∧ w.grownBy w' (some g) := by
 haveI : Inhabited Mu := ⟨⟨0, 0, 0, 0⟩⟩
 have hcon := AnyQ.slices_SortFunc_total layU 4 aggMu sizeMu muCells (fun _ => rfl) (fun x => muOne x) cmpU cmpU_swo 138 #[] g 0 cap L.toArray w cmpU_enters (fun _ _ _ _ x y => compare_mu x y _) (holds_mus h) (World.ownsRow.lt h g rfl).2 (by simpa using hs) cmpU_total
 change Calls Tryz.prog 137 _ _ _ at hcon
 rw [List.size_toArray, merge_sortU] at hcon
 refine hcon.mono ?_
 rintro e w' ⟨rfl, n, os, rfl⟩
 refine ⟨rfl, ?_, sortedU_grown _⟩
 rcases h.2 with ⟨h1, _⟩ | ⟨g', cap', cur, h1, h2, hg, hn, hc, hcs, ht⟩
 ·cases h1
 ·cases h1
  refine ⟨mu_len _, Or.inr ⟨g, cap, _, by rw [sortU_len], h2, sortedU_heap _ hg, by rw [sortU_len]; exact hn, hc, by simp [putCells, hcs], ?_⟩⟩
  have := take_putU cur ((sortU L).flatMap muCells) (by rw [mu_len, sortU_len, hcs]; exact Nat.mul_le_mul_right _ hn)
  rwa [mu_len] at this
end
section
open Go.RowKit Go.Sort
theorem ddF_snoc : ∀ (l : List Mu) (p x : Mu), ddF p (l ++ [x]) = ddF p l ++ (if sameU x (l.getLastD p) then [] else [x])
 | [], p, x => rfl
 | m :: l, p, x => by
  have ih := ddF_snoc l m x
  rw [List.cons_append, show ddF p (m :: (l ++ [x])) = if sameU m p then ddF m (l ++ [x]) else m :: ddF m (l ++ [x]) from rfl, show ddF p (m :: l) = if sameU m p then ddF m l else m :: ddF m l from rfl, ih, List.getLastD_cons]
  split <;> simp
theorem dd_snoc (l : List Mu) (p x : Mu) : dd (p :: l ++ [x]) = dd (p :: l) ++ (if sameU x (l.getLastD p) then [] else [x]) := by
 rw [List.cons_append, show dd (p :: (l ++ [x])) = p :: ddF p (l ++ [x]) from rfl, ddF_snoc]; rfl
theorem last_take {L : List Mu} {j : Nat} (h : j < L.length) {p : Mu} {l : List Mu} (e : L.take (j + 1) = p :: l) : l.getLastD p = L[j] := by
 have h1 : (L.take (j + 1)).getLast? = some L[j] := by
  rw [List.take_succ_eq_append_getElem h]; exact List.getLast?_concat
 rw [e, List.getLast?_cons] at h1
 rw [List.getLastD_eq_getLast?]
 exact Option.some.inj h1
theorem dd_take {L : List Mu} {j k : Nat} (hk : k = j + 1) (h : k < L.length) : dd (L.take (k + 1)) = dd (L.take k) ++ (if sameU (L[k]) (L[j]'(by omega)) then [] else [L[k]]) := by
 subst hk
 cases e : L.take (j + 1) with
 | nil => have := congrArg List.length e; rw [List.length_take, List.length_nil] at this; omega
 | cons p l =>
  rw [List.take_succ_eq_append_getElem h, e, dd_snoc, last_take (by omega) e]
theorem samething_any (x y : Mu) (w : World) : Calls Tryz.prog 140 #[.agg #[.int .i64 x.k, .int .i64 x.i, .int .i64 x.t, .int .i64 x.v], .agg #[.int .i64 y.k, .int .i64 y.i, .int .i64 y.t, .int .i64 y.v]] w fun e w' => e = .returned (.bool (sameU x y)) ∧ Below w.heap.size w w' := by
 by_cases h1 : x.k = y.k
 ·have e1 : (x.k == y.k) = true := by simpa using h1
  by_cases h2 : x.i = y.i
  ·have e2 : (x.i == y.i) = true := by simpa using h2
   have HE : Hid (sameU x y = (x.t == y.t)) := by show _ = _; unfold sameU; rw [e1, e2]; simp
   clear h1 h2
   go_enter Tryz.func140, Tryz.ntmps140
   go_wp2
   go_ret
   exact ⟨by rw [HE.out]; rfl, b2 _ _ _⟩
  ·have e2 : (x.i == y.i) = false := by simpa using h2
   have HE : Hid (sameU x y = false) := by show _ = _; unfold sameU; rw [e1, e2]; simp
   clear h1 h2
   go_enter Tryz.func140, Tryz.ntmps140
   go_wp2
   go_ret
   exact ⟨by rw [HE.out]; rfl, b2 _ _ _⟩
 ·have e1 : (x.k == y.k) = false := by simpa using h1
  have HE : Hid (sameU x y = false) := by show _ = _; unfold sameU; rw [e1]; simp
  clear h1
  go_enter Tryz.func140, Tryz.ntmps140
  go_wp2
  go_ret
  exact ⟨by rw [HE.out]; rfl, b2 _ _ _⟩
end
section
open Go.RowKit Go.Sort
theorem over_take_in' (cur : List Value) (o : Nat) (vs : List Value) {N : Nat} (h : o + vs.length ≤ N) (hN : N ≤ cur.length) : (over cur o vs).take N = over (cur.take N) o vs := by
 unfold over
 rw [List.take_append, List.take_of_length_le (by simp; omega), List.take_take, Nat.min_eq_left (by omega), List.drop_take]
 congr 1
 congr 1
 simp
 omega
theorem own_new' {w w' : World} {base : Nat} {e : TypeId} {size : Nat} {v : Value} {n : Nat} {xs : List Value} (h : w.ownsRow base e size v n xs) (hb : Below w.heap.size w w') : w'.ownsRow base e size v n xs := by
 refine ⟨h.1, ?_⟩
 rcases h.2 with hn | ⟨g, cap, cur, rfl, h2, hg, rest⟩
 ·exact .inl hn
 ·exact .inr ⟨g, cap, cur, rfl, h2, (hb.block g (Array.getElem?_eq_some_iff.1 hg).1).trans hg, rest⟩
def UC (w : World) (g o : Nat) (x : Mu) : Prop := w.cell? ⟨g, o, none⟩ = some (.int .i64 x.k) ∧ w.cell? ⟨g, o + 1, none⟩ = some (.int .i64 x.i) ∧ w.cell? ⟨g, o + 2, none⟩ = some (.int .i64 x.t) ∧ w.cell? ⟨g, o + 3, none⟩ = some (.int .i64 x.v)
theorem UC.new {w w' : World} {g o : Nat} {x : Mu} (h : UC w g o x) (hb : Below w.heap.size w w') : UC w' g o x := by
 have f := Fr.ofBelow hb (fun _ => False)
 exact ⟨fr_cell f (fun h => h) h.1, fr_cell f (fun h => h) h.2.1, fr_cell f (fun h => h) h.2.2.1, fr_cell f (fun h => h) h.2.2.2⟩
theorem UC.drew {w w' : World} {g o : Nat} {x : Mu} (h : UC w g o x) (hb : Below w.drew.heap.size w.drew w') : UC w' g o x := UC.new (w := w.drew) h hb
theorem UO.cells {w : World} {base g n cap : Nat} {R : List Mu} (h : UO w base (.slice (some ⟨g, 0, none⟩) n cap) R) {j : Nat} (hj : j < R.length) : UC w g (j * 4) R[j] := by
 have hc : ∀ i u, (R.flatMap muCells)[i]? = some u → w.cell? ⟨g, i, none⟩ = some u := fun i u hu => by
  have := World.ownsRow.cells h (g := g) rfl i u hu
  rwa [Addr.add_lit, Nat.zero_add] at this
 obtain ⟨a0, a1, a2, a3⟩ := cellsU_get R j hj
 exact ⟨hc _ _ a0, hc _ _ a1, hc _ _ a2, hc _ _ a3⟩
theorem UO.soft {w : World} {base g n cap : Nat} {R : List Mu} (h : UO w base (.slice (some ⟨g, 0, none⟩) n cap) R) (o : Nat) : w.frozen? ⟨g, o, none⟩ = false := by
 rcases h.2 with ⟨h1, _⟩ | ⟨g', cap', cur, h1, _, hg, _⟩
 ·cases h1
 ·cases h1
  simp [World.frozen?, hg]
theorem UO.new {w w' : World} {base : Nat} {v : Value} {R : List Mu} (h : UO w base v R) (hb : Below w.heap.size w w') : UO w' base v R := own_new' h hb
theorem over_mu (A B : List Mu) (x y : Mu) : over ((A ++ y :: B).flatMap muCells) (A.length * 4) (muCells x) = (A ++ x :: B).flatMap muCells := by
 have hl := mu_len A
 unfold over
 rw [List.flatMap_append, List.flatMap_cons, List.take_left' hl, show A.length * 4 + (muCells x).length = A.length * 4 + 4 from rfl]
 rw [← List.append_assoc, List.drop_left' (by rw [List.length_append, hl]; rfl), List.flatMap_append, List.flatMap_cons, List.append_assoc]
theorem UO.set {w : World} {base g n cap : Nat} {R : List Mu} (h : UO w base (.slice (some ⟨g, 0, none⟩) n cap) R) {j : Nat} (hj : j < R.length) (x : Mu) :
  UO (w.setCells g (j * 4) (muCells x)) base (.slice (some ⟨g, 0, none⟩) n cap) (R.set j x) := by
 obtain ⟨g', cap', cur, h1, hn, hB, ht⟩ := own_blk h (by omega)
 cases h1
 have hmul := Nat.mul_le_mul_right 4 hn
 have hsz := hB.size
 have hB2 := (hB.set (j * 4) (muCells x) (by show j * 4 + 4 ≤ _; omega)).own hn
 rw [over_take_in' _ _ _ (by show j * 4 + 4 ≤ _; omega) (by omega), ht] at hB2
 have e : R = R.take j ++ R[j] :: R.drop (j + 1) := by rw [← List.drop_eq_getElem_cons hj, List.take_append_drop]
 have e2 : over (R.flatMap muCells) (j * 4) (muCells x) = (R.set j x).flatMap muCells := by
  have := over_mu (R.take j) (R.drop (j + 1)) x R[j]
  rw [← e, List.length_take, Nat.min_eq_left (by omega)] at this
  rw [this, List.set_eq_take_append_cons_drop, if_pos hj]
 rw [e2] at hB2
 unfold UO
 rw [List.length_set]
 exact hB2
end
section
open Go.RowKit Go.Sort
theorem zeroMu : ∀ w, (zeroValue 195).run Tryz.prog w = .ok (.agg #[.int .i64 0, .int .i64 0, .int .i64 0, .int .i64 0]) w := Tryz.zeroValue195
theorem take_set_snoc {R : List Mu} {k : Nat} (h : k < R.length) {x : Mu} : (R.set k x).take (k + 1) = R.take k ++ [x] := by
 rw [List.take_succ_eq_append_getElem (by rw [List.length_set]; exact h), List.getElem_set_self, List.take_set_of_le (Nat.le_refl _)]
theorem flat_takeU (L : List Mu) (n : Nat) : (L.flatMap muCells).take (n * 4) = (L.take n).flatMap muCells := by
 by_cases h : n ≤ L.length
 ·conv => lhs; rw [← List.take_append_drop n L, List.flatMap_append]
  rw [List.take_left' (by rw [mu_len, List.length_take]; omega)]
 ·rw [List.take_of_length_le (by rw [mu_len]; omega), List.take_of_length_le (by omega)]
structure CI (w0 wr : World) (base g n cap : Nat) (L : List Mu) (k0 k k2 : Nat) : Prop where
 row : ∃ R, R.length = n ∧ UO wr base (.slice (some ⟨g, 0, none⟩) n cap) R ∧ R.take k = dd (L.take (k0 + k2)) ∧ ∀ j, k0 + k2 ≤ j + 1 → R[j]? = L[j]?
 lt : k + 1 ≤ k0 + k2
 fr : Fr w0 wr (fun b => b = g)
set_option maxHeartbeats 1000000 in
theorem compact_many {w : World} {base g cap : Nat} {L : List Mu} (h : UO w base (.slice (some ⟨g, 0, none⟩) L.length cap) L) (hl : L.length ≤ 1073741824) (h2 : 2 ≤ L.length) :
  Calls Tryz.prog 139 #[.slice (some ⟨g, 0, none⟩) L.length cap, .func (.func 140) #[] #[]] w fun e w' => ∃ v', e = .returned v' ∧ UO w' base v' (dd L) ∧ v'.ownBlock = some g ∧ Fr w w' (fun b => b = g) := by
 have hcap : L.length ≤ cap ∧ cap ≤ 9223372036854775807 := by
  rcases h.2 with ⟨h1, _⟩ | ⟨g', cap', cur, h1, _, hg, hn, hc, _⟩
  ·cases h1
  ·cases h1
   unfold maxLen at hc
   omega
 obtain ⟨hc1, hc2⟩ := hcap
 obtain ⟨n, hn⟩ : ∃ n, L.length = n := ⟨_, rfl⟩
 rw [hn] at h hl h2 hc1 ⊢
 have HN : Hid (L.length = n) := hn
 have HU : Hid _ := h
 clear hn h
 have hm : ¬ (n : Int) < 2 := by omega
 go_enter Tryz.func139, Tryz.ntmps139
 go_wp2
 go_loopw [5] (fun u wr => ∃ k : Nat, 1 ≤ k ∧ k ≤ n ∧ u = .int .i64 k ∧ Hid (dd (L.take k) = L.take k) ∧ Below w.heap.size w wr) (fun u _ => n - (intOf u).toNat)
 case atStart =>
  refine ⟨1, Nat.le_refl _, by omega, rfl, ?_, Below.refl _ _⟩
  show _ = _
  have := HN.out
  match L, this with
  | [], e => simp at e; omega
  | x :: L, _ => rfl
 case round =>
  obtain ⟨k, hk1, hkn, rfl, HD, hb⟩ := hrel
  by_cases hlt : k < n
  ·obtain ⟨j, hj⟩ : ∃ j, k = j + 1 := ⟨k - 1, by omega⟩
   have hLk : k < L.length := by rw [HN.out]; exact hlt
   have hc1' := (UO.cells HU.out hLk).new hb
   have hc0' := (UO.cells HU.out (j := j) (by omega)).new hb
   have HT := dd_take hj hLk
   have HX := List.take_succ_eq_append_getElem hLk
   generalize L[k] = x at hc1' HT HX
   generalize L[j]'(by omega) = y at hc0' HT
   have HTT : Hid _ := HT
   have HXX : Hid _ := HX
   clear HT HX
   have hsub : (k : Int) - 1 = (j : Int) := by omega
   have hjn : j < n := by omega
   have hwr : IntKind.i64.wrap (j : Int) = (j : Int) := IntWalk.i64_in _ (by omega)
   have HJ : Hid (k = j + 1) := hj
   have x0 : UC wr g (k * 4) x ∧ UC wr g (j * 4) y := ⟨hc1', hc0'⟩
   clear hj hc1' hc0' hLk
   have HB : Hid _ := hb
   cases hs : sameU x y
   ·have hS := fun W => samething_any x y W
    rw [hs] at hS
    have HS : Hid _ := hs
    clear hs hb
    go_upto_region 6 with (fail)
    unfold UC at x0
    go_region_held (fun w' => (w'.cell? ⟨g, k * 4, none⟩ = some (.int .i64 x.k) ∧ w'.cell? ⟨g, k * 4 + 1, none⟩ = some (.int .i64 x.i) ∧ w'.cell? ⟨g, k * 4 + 2, none⟩ = some (.int .i64 x.t) ∧ w'.cell? ⟨g, k * 4 + 3, none⟩ = some (.int .i64 x.v)) ∧ (w'.cell? ⟨g, j * 4, none⟩ = some (.int .i64 y.k) ∧ w'.cell? ⟨g, j * 4 + 1, none⟩ = some (.int .i64 y.i) ∧ w'.cell? ⟨g, j * 4 + 2, none⟩ = some (.int .i64 y.t) ∧ w'.cell? ⟨g, j * 4 + 3, none⟩ = some (.int .i64 y.v))) (first | exact x1 | exact x0)
     (first | (go_at_call 140; refine (hS _).mono ?_; rintro e w1 ⟨rfl, hb1⟩; have x1 := And.intro (UC.drew x0.1 hb1) (UC.drew x0.2 hb1); unfold UC at x1))
    have HB1 : Hid (Below w.heap.size w w1) := HB.out.trans (((Below.refl _ _).drew).trans hb1 |>.mono HB.out.size)
    clear x0 x1 hb1
    go_wp2
    go_roundw
    case rel => exact ⟨k + 1, by omega, by omega, by go_num, by show _ = _; rw [HTT.out, HS.out, HD.out, HXX.out]; rfl, HB1.out⟩
    case measure => simp [intOf]; omega
   ·have hS := fun W => samething_any x y W
    rw [hs] at hS
    have HS : Hid _ := hs
    clear hs hb
    go_upto_region 6 with (fail)
    unfold UC at x0
    go_region_held (fun w' => (w'.cell? ⟨g, k * 4, none⟩ = some (.int .i64 x.k) ∧ w'.cell? ⟨g, k * 4 + 1, none⟩ = some (.int .i64 x.i) ∧ w'.cell? ⟨g, k * 4 + 2, none⟩ = some (.int .i64 x.t) ∧ w'.cell? ⟨g, k * 4 + 3, none⟩ = some (.int .i64 x.v)) ∧ (w'.cell? ⟨g, j * 4, none⟩ = some (.int .i64 y.k) ∧ w'.cell? ⟨g, j * 4 + 1, none⟩ = some (.int .i64 y.i) ∧ w'.cell? ⟨g, j * 4 + 2, none⟩ = some (.int .i64 y.t) ∧ w'.cell? ⟨g, j * 4 + 3, none⟩ = some (.int .i64 y.v))) (first | exact x1 | exact x0)
     (first | (go_at_call 140; refine (hS _).mono ?_; rintro e w1 ⟨rfl, hb1⟩; have x1 := And.intro (UC.drew x0.1 hb1) (UC.drew x0.2 hb1); unfold UC at x1))
    have HB1 : Hid (Below w.heap.size w w1) := HB.out.trans (((Below.refl _ _).drew).trans hb1 |>.mono HB.out.size)
    clear x0 x1 hb1 hS hwr hsub hjn
    have hcn : ¬ cap = k := by omega
    have HDD : Hid (dd (L.take (k + 1)) = L.take k) := by show _ = _; rw [HTT.out, HS.out, HD.out]; simp
    clear HTT HXX HS HD HJ HB
    go_wp2
    go_loopw [5, 7] (fun u v wr => ∃ kk k2 : Nat, 1 ≤ k2 ∧ k2 ≤ n - k ∧ u = .int .i64 kk ∧ v = .int .i64 k2 ∧ CI w wr base g n cap L k kk k2) (fun _ v _ => (n - k) - (intOf v).toNat)
    case atStart => exact ⟨k, 1, Nat.le_refl _, by omega, rfl, rfl, ⟨⟨L, HN.out, by have := UO.new HU.out HB1.out; exact this, HDD.out.symm, fun _ _ => rfl⟩, Nat.le_refl _, Fr.ofBelow HB1.out _⟩⟩
    case round =>
     obtain ⟨kk, k2, hk21, hk2n, rfl, rfl, ⟨R, hR1, hR2, hR3, hR4⟩, hkl, hfr⟩ := hrel
     clear HB1
     by_cases hlt2 : k2 < n - k
     ·obtain ⟨p, hp⟩ : ∃ p, k2 = p + 1 := ⟨k2 - 1, by omega⟩
      have hLq : k + k2 < L.length := by rw [HN.out]; omega
      have e1 : R[k + k2]'(by omega) = L[k + k2] := by have := hR4 (k + k2) (by omega); rwa [List.getElem?_eq_getElem (by omega), List.getElem?_eq_getElem hLq, Option.some.injEq] at this
      have e0 : R[k + p]'(by omega) = L[k + p]'(by omega) := by have := hR4 (k + p) (by omega); rwa [List.getElem?_eq_getElem (by omega), List.getElem?_eq_getElem (by omega), Option.some.injEq] at this
      have c1 := UO.cells hR2 (j := k + k2) (by omega)
      have c0 := UO.cells hR2 (j := k + p) (by omega)
      have ck := UO.cells hR2 (j := kk) (by omega)
      rw [e1, Nat.add_mul] at c1
      rw [e0, Nat.add_mul] at c0
      have HT := dd_take (L := L) (j := k + p) (k := k + k2) (by omega) hLq
      generalize L[k + k2] = x2 at c1 HT
      generalize L[k + p]'(by omega) = y2 at c0 HT
      have hz := UO.soft hR2
      have HT2 : Hid _ := HT
      have HR1 : Hid _ := hR1
      have HR2 : Hid _ := hR2
      have HR3 : Hid _ := hR3
      have HR4 : Hid _ := hR4
      have HKl : Hid _ := hkl
      have HFr : Hid _ := hfr
      have hsub : (k2 : Int) - 1 = (p : Int) := by omega
      have hpn : p < n - k := by omega
      have hwr : IntKind.i64.wrap (p : Int) = (p : Int) := IntWalk.i64_in _ (by omega)
      have hkkn : kk < n := by omega
      generalize R[kk]'(by omega) = z at ck
      have x0 : UC wr g (k * 4 + k2 * 4) x2 ∧ UC wr g (k * 4 + p * 4) y2 := ⟨c1, c0⟩
      have HP : Hid (k2 = p + 1) := hp
      have hz0 := hz (kk * 4)
      have hz1 := hz (kk * 4 + 1)
      have hz2 := hz (kk * 4 + 2)
      have hz3 := hz (kk * 4 + 3)
      have HZ : Hid (UC wr g (kk * 4) z ∧ ∀ o, wr.frozen? ⟨g, o, none⟩ = false) := ⟨ck, hz⟩
      clear HT e0 e1 c0 c1 ck hR1 hR2 hR3 hR4 hkl hfr hp hz hz0 hz1 hz2 hz3 hLq
      cases hs : sameU x2 y2
      all_goals
       have hS := fun W => samething_any x2 y2 W
       rw [hs] at hS
       have HS : Hid _ := hs
       clear hs
       go_upto_region 11 with (fail)
       unfold UC at x0
       go_region_held (fun w' => (w'.cell? ⟨g, k * 4 + k2 * 4, none⟩ = some (.int .i64 x2.k) ∧ w'.cell? ⟨g, k * 4 + k2 * 4 + 1, none⟩ = some (.int .i64 x2.i) ∧ w'.cell? ⟨g, k * 4 + k2 * 4 + 2, none⟩ = some (.int .i64 x2.t) ∧ w'.cell? ⟨g, k * 4 + k2 * 4 + 3, none⟩ = some (.int .i64 x2.v)) ∧ (w'.cell? ⟨g, k * 4 + p * 4, none⟩ = some (.int .i64 y2.k) ∧ w'.cell? ⟨g, k * 4 + p * 4 + 1, none⟩ = some (.int .i64 y2.i) ∧ w'.cell? ⟨g, k * 4 + p * 4 + 2, none⟩ = some (.int .i64 y2.t) ∧ w'.cell? ⟨g, k * 4 + p * 4 + 3, none⟩ = some (.int .i64 y2.v))) (first | exact x1 | exact x0)
        (first | (go_at_call 140; refine (hS _).mono ?_; rintro e w2 ⟨rfl, hb2⟩; have x1 := And.intro (UC.drew x0.1 hb2) (UC.drew x0.2 hb2); unfold UC at x1))
       have HB2 : Hid (Below wr.heap.size wr w2) := ((Below.refl _ wr).drew).trans hb2
       have HX1 : Hid _ := x1
       clear x0 x1 hb2 hS
      ·have hb2 := HB2.out
       have hg : g < wr.heap.size := lt_cell HZ.out.1.1
       have ck2 := HZ.out.1.new hb2
       have hz2 : ∀ o, w2.frozen? ⟨g, o, none⟩ = false := fun o => (hb2.frozen (p := ⟨g, o, none⟩) hg).trans (HZ.out.2 o)
       have q0 := ck2.1
       have q1 := ck2.2.1
       have q2 := ck2.2.2.1
       have q3 := ck2.2.2.2
       have z0 := hz2 (kk * 4)
       have z1 := hz2 (kk * 4 + 1)
       have z2 := hz2 (kk * 4 + 2)
       have z3 := hz2 (kk * 4 + 3)
       have r0 := HX1.out.1.1
       have r1 := HX1.out.1.2.1
       have r2 := HX1.out.1.2.2.1
       have r3 := HX1.out.1.2.2.2
       have hkk := UO.set (UO.new HR2.out hb2) (j := kk) (by rw [HR1.out]; exact hkkn) x2
       have HKK : Hid _ := hkk
       clear hb2 hg ck2 hz2 hkk
       go_wp2
       go_roundw
       case rel => exact ⟨kk + 1, k2 + 1, by omega, by omega, by go_num, by go_num, ⟨⟨R.set kk x2, by rw [List.length_set]; exact HR1.out, HKK.out, by rw [take_set_snoc (by rw [HR1.out]; exact hkkn), HR3.out, ← Nat.add_assoc, HT2.out, HS.out]; rfl, fun q hq => by rw [List.getElem?_set_ne (by have := HKl.out; omega)]; exact HR4.out q (by omega)⟩, by have := HKl.out; omega, ((HFr.out.trans (Fr.ofBelow HB2.out (fun b => b = g)) (fun _ _ h => h)).trans (fr_setCells g (S := fun b => b = g) rfl (muCells x2) (kk * 4) w2) (fun _ _ h => h))⟩⟩
       case measure => simp [intOf]; omega
      ·have hb2 := HB2.out
       have hkk := UO.new HR2.out hb2
       have HKK : Hid _ := hkk
       clear hb2 hkk
       go_wp2
       go_roundw
       case rel => exact ⟨kk, k2 + 1, by omega, by omega, rfl, by go_num, ⟨⟨R, HR1.out, HKK.out, by rw [HR3.out, ← Nat.add_assoc, HT2.out, HS.out]; simp, fun q hq => HR4.out q (by omega)⟩, by have := HKl.out; omega, HFr.out.trans (Fr.ofBelow HB2.out (fun b => b = g)) (fun _ _ h => h)⟩⟩
       case measure => simp [intOf]; omega
     ·obtain rfl : k2 = n - k := by omega
      have hkn2 : k + (n - k) = n := by omega
      rw [hkn2, ← HN.out, List.take_length] at hR3
      have hR5 : wr.ownsRow base 195 4 (.slice (some ⟨g, 0, none⟩) n cap) n (R.flatMap muCells) := by have h := hR2; unfold UO at h; rwa [hR1] at h
      obtain ⟨g', cap', cur, hv1, hv2, hB, hv3⟩ := own_blk hR5 (by omega)
      cases hv1
      have hsz := hB.size
      have hnk := Nat.mul_le_mul_right 4 hv2
      obtain ⟨zs, hzs⟩ : ∃ zs, zs = (Builtin.zeroCells (Value.agg #[.int .i64 0, .int .i64 0, .int .i64 0, .int .i64 0]).cells (n - kk)).toList := ⟨_, rfl⟩
      have hzl : zs.length = (n - kk) * 4 := by rw [hzs, zc_len]; rfl
      have hcl : ∀ ty, (Builtin.clear_ #[117] ty #[.slice (some ⟨g, kk * 4, none⟩) (n - kk) (cap - kk)]).run Tryz.prog wr = .ok (.tuple #[]) (wr.setCells g (kk * 4) zs) := fun ty => by
       rw [hzs]
       exact run_clear_k wr _ _ ty _ Tryz.underlying117 zeroMu (by decide) (by intro v hv; simp [Value.cells] at hv; rcases hv with rfl | rfl | rfl | rfl <;> rfl) g (kk * 4) (n - kk) (cap - kk) (by omega) (fun q hq => hB.there (by have : (Value.agg #[.int .i64 0, .int .i64 0, .int .i64 0, .int .i64 0]).cells.size = 4 := rfl; rw [this] at hq; omega)) (fun q hq => hB.soft _)
      have hfin := (hB.set (kk * 4) zs (by rw [hzl]; omega)).own (n := kk) (by omega)
      rw [over_take_lo _ _ _ (Nat.le_refl _) (by omega)] at hfin
      have hk4 : cur.take (kk * 4) = (dd L).flatMap muCells := by
       have e : cur.take (kk * 4) = (R.flatMap muCells).take (kk * 4) := by rw [← hv3, List.take_take, Nat.min_eq_left (by omega)]
       rw [e, ← hR3, flat_takeU]
      rw [hk4] at hfin
      have hlen : (dd L).length = kk := by rw [← hR3, List.length_take]; omega
      have HF : Hid (UO (wr.setCells g (kk * 4) zs) base (.slice (some ⟨g, 0, none⟩) kk cap) (dd L)) := by show World.ownsRow _ _ _ _ _ _ _; rw [hlen]; exact hfin
      have HFr : Hid (Fr w (wr.setCells g (kk * 4) zs) (fun b => b = g)) := hfr.trans (fr_setCells g (S := fun b => b = g) rfl zs (kk * 4) wr) (fun _ _ h => h)
      have hkn3 : kk ≤ n := by omega
      have hkc : kk ≤ cap := by omega
      have hkc2 : ¬ cap = kk := by omega
      clear hR1 hR2 hR3 hR4 hR5 hkl hfr hB hv3 hsz hnk hzs hzl hfin hk4 hlen
      go_wp2
      go_ret
      exact ⟨_, rfl, HF.out, rfl, HFr.out⟩
  ·obtain rfl : k = n := by omega
   have HD2 : Hid (dd L = L) := by
    show _ = _
    have := HD.out
    rwa [← HN.out, List.take_length] at this
   have HF : Hid (UO wr base (.slice (some ⟨g, 0, none⟩) k cap) (dd L)) := by show UO _ _ _ _; rw [HD2.out]; exact UO.new HU.out hb
   clear HD2 HD
   go_wp2
   go_ret
   exact ⟨_, rfl, HF.out, rfl, Fr.ofBelow hb _⟩
theorem compact_few {w : World} {base : Nat} {v : Value} {L : List Mu} (h : UO w base v L) (h2 : L.length < 2) :
  Calls Tryz.prog 139 #[v, .func (.func 140) #[] #[]] w fun e w' => e = .returned v ∧ w' = w := by
 have hm : (L.length : Int) < 2 := by omega
 rcases h.2 with ⟨rfl, h1⟩ | ⟨g', cap', cur, rfl, _⟩
 ·clear h
  go_enter Tryz.func139, Tryz.ntmps139
  go_wp2
  go_ret
  exact ⟨rfl, rfl⟩
 ·clear h
  generalize L.length = n at hm
  go_enter Tryz.func139, Tryz.ntmps139
  go_wp2
  go_ret
  exact ⟨rfl, rfl⟩
theorem dd_few : ∀ {L : List Mu}, L.length < 2 → dd L = L
 | [], _ => rfl
 | [x], _ => rfl
 | _ :: _ :: _, h => by simp at h; omega
theorem compact_any {w : World} {base : Nat} {v : Value} {L : List Mu} (h : UO w base v L) (hl : L.length ≤ 1073741824) :
  Calls Tryz.prog 139 #[v, .func (.func 140) #[] #[]] w fun e w' => ∃ v', e = .returned v' ∧ UO w' base v' (dd L) ∧ Fr w w' (fun b => v.ownBlock = some b) := by
 by_cases h2 : L.length < 2
 ·refine (compact_few h h2).mono ?_
  rintro e w' ⟨rfl, rfl⟩
  exact ⟨v, rfl, by rw [dd_few h2]; exact h, Fr.refl _ _⟩
 ·rcases h.2 with ⟨_, h1⟩ | ⟨g', cap', cur, rfl, _⟩
  ·omega
  ·refine (compact_many h hl (by omega)).mono ?_
   rintro e w' ⟨v', rfl, h1, _, h3⟩
   exact ⟨v', rfl, h1, h3.mono (fun k _ e => by rw [e]; rfl)⟩
end
section
open Go.RowKit Go.Sort
def UsAt (w : World) (P : Nat → Prop) (ao : Option Addr) (L : List Mu) : Prop :=
 0 < L.length → ∃ b off, ao = some ⟨b, off, none⟩ ∧ P b ∧ ∀ j (h : j < L.length), UC w b (off + j * 4) L[j]
theorem UsAt.kept {w w' : World} {P Q S : Nat → Prop} {ao : Option Addr} {L : List Mu} (h : UsAt w P ao L) (f : Fr w w' S) (hs : ∀ k, k < w.heap.size → P k → ¬ S k ∧ Q k) : UsAt w' Q ao L := by
 intro hl
 obtain ⟨b, off, e, hb, hc⟩ := h hl
 have hlt := lt_cell (hc 0 hl).1
 have hn := (hs b hlt hb).1
 exact ⟨b, off, e, (hs b hlt hb).2, fun j hj => ⟨fr_cell f hn (hc j hj).1, fr_cell f hn (hc j hj).2.1, fr_cell f hn (hc j hj).2.2.1, fr_cell f hn (hc j hj).2.2.2⟩⟩
theorem UsAt.new {w w' : World} {P : Nat → Prop} {ao : Option Addr} {L : List Mu} (h : UsAt w P ao L) (hb : Below w.heap.size w w') : UsAt w' P ao L := h.kept (Fr.ofBelow hb (fun _ => False)) (fun _ _ hp => ⟨fun h => h, hp⟩)
theorem UsAt.flat {w : World} {P : Nat → Prop} {ad : Addr} {L : List Mu} (h : UsAt w P (some ad) L) : ∀ j u, (L.flatMap muCells)[j]? = some u → w.cell? (ad.add j) = some u := by
 intro j u hu
 have hj : j < (L.flatMap muCells).length := (List.getElem?_eq_some_iff.1 hu).1
 rw [mu_len] at hj
 obtain ⟨b, off, e, _, hc⟩ := h (by omega)
 cases e
 rw [Addr.add_lit]
 have hi : j / 4 < L.length := by omega
 rw [flatU_get L j hj] at hu
 obtain ⟨c0, c1, c2, c3⟩ := hc (j / 4) hi
 have hm : j % 4 = 0 ∨ j % 4 = 1 ∨ j % 4 = 2 ∨ j % 4 = 3 := by omega
 rcases hm with hm | hm | hm | hm <;> rw [hm] at hu <;> simp [muCells] at hu <;> subst hu
 ·rw [show off + j = off + j / 4 * 4 by omega]; exact c0
 ·rw [show off + j = off + j / 4 * 4 + 1 by omega]; exact c1
 ·rw [show off + j = off + j / 4 * 4 + 2 by omega]; exact c2
 ·rw [show off + j = off + j / 4 * 4 + 3 by omega]; exact c3
theorem infoMu : (Tryz.prog.info? 195).map (fun i => (i.zero, i.size, i.bytes)) = some (some (.agg #[.int .i64 0, .int .i64 0, .int .i64 0, .int .i64 0]), 4, 32) := by kernel_rfl
theorem nil_eqU (w : World) (n c : Nat) : (binOp .eql 117 (.slice none n c) (.slice none 0 0)).run Tryz.prog w = .ok (.bool true) w := by
 have h : (Op.equalIn 10000 117 (.slice none n c) (.slice none 0 0)).run Tryz.prog w = .ok true w := by
  unfold Op.equalIn
  simp [run_underlying Tryz.underlying117]
 simp only [binOp]
 simp [Op.equal, Op.maxDepth, h]
theorem nil_neU (w : World) (ad : Addr) (n c : Nat) : (binOp .eql 117 (.slice (some ad) n c) (.slice none 0 0)).run Tryz.prog w = .ok (.bool false) w := by
 have h : (Op.equalIn 10000 117 (.slice (some ad) n c) (.slice none 0 0)).run Tryz.prog w = .ok false w := by
  unfold Op.equalIn
  simp [run_underlying Tryz.underlying117]
 simp only [binOp]
 simp [Op.equal, Op.maxDepth, h]
theorem own_emptyU {w : World} {base : Nat} {t : TypeId} {size : Nat} (hb : base ≤ w.heap.size) : (w.alloc (.cells #[] t)).ownsRow base t size (.slice (some ⟨w.heap.size, 0, none⟩) 0 0) 0 [] := World.ownsRow_made w #[] 0 hb (by decide) (by simp)
theorem one_newU (w : World) (o : Obj) : Below w.heap.size w (w.alloc o) := (Below.refl _ _).alloc (Nat.le_refl _) _
theorem own_anyU {w : World} {base : Nat} {e : TypeId} {size : Nat} {v : Value} {n : Nat} {xs : List Value} (h : w.ownsRow base e size v n xs) : ∃ ao m c, v = .slice ao m c := by
 rcases h.2 with ⟨h1, _⟩ | ⟨g, cap, cur, h1, _⟩
 ·exact ⟨_, _, _, h1⟩
 ·exact ⟨_, _, _, h1⟩
theorem cloneU_any {w : World} {P : Nat → Prop} {ao : Option Addr} (L : List Mu) (cap : Nat) (h : UsAt w P ao L) (hl : L.length ≤ 1073741824) :
  Calls Tryz.prog 136 #[.slice ao L.length cap] w fun r w' => ∃ v, r = .returned v ∧ UO w' w.heap.size v L ∧ Below w.heap.size w w' := by
 obtain ⟨i0, hi, hz0, hz1, hz2⟩ := info_parts infoMu
 cases ao with
 | none =>
  have hL : L = [] := List.eq_nil_of_length_eq_zero (Nat.eq_zero_of_not_pos (fun hp => by obtain ⟨b, off, e, _⟩ := h hp; cases e))
  subst hL
  have hq := nil_eqU
  go_enter Tryz.func136, Tryz.ntmps136
  go_wp2
  go_ret
  exact ⟨_, rfl, World.ownsRow_nil _ _ _ _, Below.refl _ _⟩
 | some ad =>
  have HN : Hid (∀ j u, (L.flatMap muCells)[j]? = some u → (w.alloc (.cells #[] 195)).cell? (ad.add j) = some u) := UsAt.flat (h.new (one_newU _ _))
  have HO : Hid _ := own_emptyU (w := w) (base := w.heap.size) (t := 195) (size := 4) (Nat.le_refl _)
  have HL : Hid ((L.flatMap muCells).length = L.length * 4) := mu_len L
  have HOne : Hid _ := musOne L
  clear h
  have hq := nil_neU
  go_enter Tryz.func136, Tryz.ntmps136
  go_wp2_with (at_builtin; refine wpList_append_own_at _ rfl _ _ 117 rfl w.heap.size 195 i0 (.agg #[.int .i64 0, .int .i64 0, .int .i64 0, .int .i64 0]) 4 32 Tryz.underlying117 hi hz0 hz1 hz2 rfl (by decide) _ _ _ rfl HO.out ad L.length cap (L.flatMap muCells) rfl HL.out HN.out HOne.out (by unfold maxLen; omega) (by omega) (by simp) ?_)
  intro v' w1 hown hgrow _ _
  obtain ⟨bo, m, c, rfl⟩ := own_anyU hown
  have HOw : Hid _ := hown
  have hb : Below w.heap.size w w1 := (one_newU w _).trans ((Fr.grown (S := fun k => k = w.heap.size) hgrow (fun k hk => by cases hk; rfl)).below (by simp) (fun k hk => by omega))
  clear hown
  go_wp2
  go_ret
  exact ⟨_, rfl, HOw.out, hb⟩
theorem sortU_empty (w : World) (p : Option Addr) (cap : Nat) : Calls Tryz.prog 137 #[.slice p 0 cap, .func (.func 138) #[] #[]] w fun e w' => e = .returned (.tuple #[]) ∧ w' = w := AnyF.slices_SortFunc_none { layU with } p cap _ w
theorem sort_of {w : World} {base : Nat} {v : Value} {L : List Mu} (h : UO w base v L) (hl : L.length ≤ 1073741824) : Calls Tryz.prog 137 #[v, .func (.func 138) #[] #[]] w fun e w' => e = .returned (.tuple #[]) ∧ UO w' base v (sortU L) ∧ w.grownBy w' v.ownBlock := by
 by_cases h0 : L.length = 0
 ·obtain rfl := List.eq_nil_of_length_eq_zero h0
  obtain ⟨ao, c, rfl⟩ : ∃ ao c, v = .slice ao 0 c := by
   rcases h.2 with ⟨h1, _⟩ | ⟨g, cap, cur, h1, _⟩
   ·exact ⟨_, _, h1⟩
   ·exact ⟨_, _, h1⟩
  refine (sortU_empty w ao c).mono ?_
  rintro e w' ⟨rfl, rfl⟩
  rw [sortU_nil]
  exact ⟨rfl, h, rfl, rfl, rfl, Nat.le_refl _, fun _ _ _ => rfl⟩
 ·obtain ⟨g, cap, cur, rfl, _⟩ := own_blk h (by omega)
  exact sortFU_any h (by omega)
theorem thatcount_any {w : World} {P : Nat → Prop} {ao : Option Addr} (L : List Mu) (cap : Nat) (h : UsAt w P ao L) (hl : L.length ≤ 1073741824) :
  Calls Tryz.prog 114 #[.slice ao L.length cap] w fun r w' => ∃ v, r = .returned v ∧ UO w' w.heap.size v (thatC L) ∧ Below w.heap.size w w' := by
 have HU : Hid _ := h
 clear h
 go_enter Tryz.func114, Tryz.ntmps114
 go_wp2_with (first
  | (go_at_call 136; refine (cloneU_any L cap HU.out hl).mono ?_; rintro r w1 ⟨v, rfl, h1, hb1⟩; obtain ⟨o1, m1, c1, rfl⟩ := own_anyU h1; have H1 : Hid _ := h1; have HB1 : Hid _ := hb1; clear h1 hb1)
  | (go_at_call 137; refine (sort_of H1.out hl).mono ?_; rintro r w2 ⟨rfl, h2, hg2⟩; have H2 : Hid _ := h2; have HG2 : Hid _ := hg2; clear h2 hg2)
  | (go_at_call 139; refine (compact_any H2.out (by rw [sortU_len]; exact hl)).mono ?_; rintro r w3 ⟨v', rfl, h3, hf3⟩; obtain ⟨o3, m3, c3, rfl⟩ := own_anyU h3; have H3 : Hid _ := h3; have HF3 : Hid _ := hf3; clear h3 hf3))
 go_ret
 have hlt := fun k hk => (World.ownsRow.lt H1.out k hk).1
 have f2 : Fr w1 w2 (fun k => (Value.slice o1 m1 c1).ownBlock = some k) := Fr.grown HG2.out (fun k hk => hk)
 have f3 := f2.trans HF3.out (fun _ _ h => h)
 exact ⟨_, rfl, H3.out, HB1.out.trans (f3.below HB1.out.size (fun k hk => hlt k hk))⟩
end
end Go.Proofs.YtmgjlamglhpnaaaGreat
