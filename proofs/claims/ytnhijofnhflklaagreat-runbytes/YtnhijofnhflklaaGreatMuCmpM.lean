import Derived.Test.YtnhijofnhflklaaGreatNumM
import Derived.Below
import Derived.Laws.IdiomCopy
import Derived.Lib.AppendZerosOnto
import Derived.Shelf.SlSortCmp.NoneTotal
import Derived.Shelf.SlGeneric
import Derived.Test.YtnhijofnhflklaaGreatProg
import Derived.Test.YtnhijofnhflklaaGreatMuMathM
import Derived.Test.YtnhijofnhflklaaGreatChecked
import Derived.Deep.RegionHeld
import Derived.Deep.Cut
import Derived.Deep.DeepCutAuto
section
/- Rows that are written in place: cells set one behind the other, clear and copy of elements of several cells. No function of the program is named here. -/
namespace Go.Proofs.YtnhijofnhflklaaGreat
open Go.RowKit
theorem fr_setCells (b : Nat) {S : Nat → Prop} (hS : S b) : ∀ (vs : List Value) (o : Nat) (w : World), Fr w (w.setCells b o vs) S
  | [], _, w => Fr.refl w S
  | v :: r, o, w => (Fr.setCell w ⟨b, o, none⟩ v hS).trans (fr_setCells b hS r (o + 1) _) (fun _ _ h => h)
theorem set_heap {w : World} {b : Nat} {t : TypeId} {f : Nat × Nat} {cs : Array Value} (h : w.heap[b]? = some (.cells cs t f)) (i : Nat) (v : Value) : (w.setCell ⟨b, i, none⟩ v).heap[b]? = some (.cells (cs.setIfInBounds i v) t f) := by
  have hlt : b < w.heap.size := (Array.getElem?_eq_some_iff.1 h).1
  have h' : w.heap[b] = .cells cs t f := by simpa [Array.getElem?_eq_getElem hlt] using h
  show (w.heap.modify b _)[b]? = _
  rw [Array.getElem?_eq_getElem (by simpa using hlt), Array.getElem_modify_self, h']
  rfl
/-- Cells written over others. -/
def over (cur : List Value) (o : Nat) (vs : List Value) : List Value := cur.take o ++ vs ++ cur.drop (o + vs.length)
theorem over_len (cur : List Value) (o : Nat) (vs : List Value) (h : o + vs.length ≤ cur.length) : (over cur o vs).length = cur.length := by
  unfold over; simp; omega
theorem setCells_heap {b : Nat} {t : TypeId} {f : Nat × Nat} : ∀ (vs : List Value) (o : Nat) (w : World) (cur : Array Value), w.heap[b]? = some (.cells cur t f) → o + vs.length ≤ cur.size → (w.setCells b o vs).heap[b]? = some (.cells (over cur.toList o vs).toArray t f)
  | [], o, w, cur, h, _ => by
    unfold over
    simp only [World.setCells, List.append_nil, List.length_nil, Nat.add_zero, List.take_append_drop, Array.toArray_toList]
    exact h
  | v :: r, o, w, cur, h, hl => by
    have ih := setCells_heap r (o + 1) (w.setCell ⟨b, o, none⟩ v) (cur.setIfInBounds o v) (set_heap h o v) (by simp at hl ⊢; omega)
    rw [World.setCells, ih]
    have e : over (cur.setIfInBounds o v).toList (o + 1) r = over cur.toList o (v :: r) := by
      unfold over
      have := list_seg_step cur.toList o v r (by simp at hl ⊢; omega)
      simpa [Array.toList_setIfInBounds, Nat.add_assoc] using this
    rw [e]
/-- A block of a row of one's own. -/
structure Blk (w : World) (base : Nat) (e : TypeId) (size g cap : Nat) (cur : List Value) : Prop where
  low : base ≤ g
  heap : w.heap[g]? = some (.cells cur.toArray e (0, 0))
  max : cap ≤ maxLen
  size : cur.length = cap * size
theorem Blk.own {w : World} {base : Nat} {e : TypeId} {size g cap : Nat} {cur : List Value} (h : Blk w base e size g cap cur) {n : Nat} (hn : n ≤ cap) : w.ownsRow base e size (.slice (some ⟨g, 0, none⟩) n cap) n (cur.take (n * size)) := by
  refine ⟨?_, .inr ⟨g, cap, cur.toArray, rfl, h.low, h.heap, hn, h.max, by simpa using h.size, by simp⟩⟩
  have := Nat.mul_le_mul_right size hn
  rw [List.length_take, h.size]; omega
theorem own_blk {w : World} {base : Nat} {e : TypeId} {size : Nat} {v : Value} {n : Nat} {xs : List Value} (h : w.ownsRow base e size v n xs) (hn : 0 < n) : ∃ g cap cur, v = .slice (some ⟨g, 0, none⟩) n cap ∧ n ≤ cap ∧ Blk w base e size g cap cur ∧ cur.take (n * size) = xs := by
  rcases h.2 with ⟨_, h2⟩ | ⟨g, cap, cur, h1, h2, h3, h4, h5, h6, h7⟩
  · omega
  · exact ⟨g, cap, cur.toList, h1, h4, ⟨h2, by simpa using h3, h5, by simpa using h6⟩, h7⟩
theorem Blk.lt {w : World} {base : Nat} {e : TypeId} {size g cap : Nat} {cur : List Value} (h : Blk w base e size g cap cur) : g < w.heap.size := (Array.getElem?_eq_some_iff.1 h.heap).1
theorem Blk.set {w : World} {base : Nat} {e : TypeId} {size g cap : Nat} {cur : List Value} (h : Blk w base e size g cap cur) (o : Nat) (vs : List Value) (hl : o + vs.length ≤ cap * size) : Blk (w.setCells g o vs) base e size g cap (over cur o vs) := by
  refine ⟨h.low, ?_, h.max, ?_⟩
  · have := setCells_heap vs o w _ h.heap (by simpa [h.size] using hl)
    simpa using this
  · rw [over_len _ _ _ (by rw [h.size]; exact hl), h.size]
theorem Blk.drew {w : World} {base : Nat} {e : TypeId} {size g cap : Nat} {cur : List Value} (h : Blk w base e size g cap cur) : Blk w.drew base e size g cap cur := ⟨h.low, h.heap, h.max, h.size⟩
theorem Blk.cell {w : World} {base : Nat} {e : TypeId} {size g cap : Nat} {cur : List Value} (h : Blk w base e size g cap cur) (j : Nat) : w.cell? ⟨g, j, none⟩ = cur[j]? := by
  simp [World.cell?, h.heap]
theorem Blk.there {w : World} {base : Nat} {e : TypeId} {size g cap : Nat} {cur : List Value} (h : Blk w base e size g cap cur) {j : Nat} (hj : j < cap * size) : (w.cell? ⟨g, j, none⟩).isSome = true := by
  rw [h.cell, List.getElem?_eq_getElem (by rw [h.size]; exact hj)]; rfl
theorem Blk.soft {w : World} {base : Nat} {e : TypeId} {size g cap : Nat} {cur : List Value} (h : Blk w base e size g cap cur) (j : Nat) : w.frozen? ⟨g, j, none⟩ = false := by
  simp [World.frozen?, h.heap]
theorem over_take_at (cur : List Value) (o : Nat) (vs : List Value) (h : o ≤ cur.length) : (over cur o vs).take (o + vs.length) = cur.take o ++ vs := by
  unfold over
  rw [List.take_append_of_le_length (by simp; omega), List.take_of_length_le (by simp; omega)]
theorem over_take_lo (cur : List Value) (o : Nat) (vs : List Value) {n : Nat} (h : n ≤ o) (ho : o ≤ cur.length) : (over cur o vs).take n = cur.take n := by
  unfold over
  rw [List.append_assoc, List.take_append_of_le_length (by simp; omega), List.take_take, Nat.min_eq_left h]
section
variable {P : Program}
theorem step_copy_run {ops : Array Oper} {o : Oper} {a : Act} {w : World} {K : Act → World → Prop} {Q : Exit → Act → World → Prop} {E : Prop}
    (hg : o.guard = none) (d x : Operand) (dT sT : TypeId) (hop : o.op = Op.call { callee := Callee.builtin Builtin.copy, args := #[d, x], argTypes := #[dT, sT] })
    (v u : Value) (hd : a.eval d = v) (hx : a.eval x = u) {v' : Value} {w' : World} (hr : (Builtin.copy_ #[dT, sT] o.type #[v, u]).run P w = .ok v' w') (hK : K (a.put o.dst v') w') :
    if Region.wanted o (yielded ops a.tmps) = true then Oper.wp P o a w K Q else E := by
  have hw : Region.wanted o (yielded ops a.tmps) = true := by simp [Region.wanted, hg]
  rw [if_pos hw]
  unfold Oper.wp
  simp [execOp, hop, resolve, invoke, builtin, hd, hx, hr, Result.andThen]
  exact hK
theorem zc_one {z : Array Value} {n : Nat} (hs : 0 < z.size) (h1 : ∀ v ∈ z.toList, v.oneCell' = true) : ∀ v ∈ (Builtin.zeroCells z n).toList, v.oneCell' = true := by
  intro v hv
  simp only [Builtin.zeroCells, Array.toList_map, List.mem_map] at hv
  obtain ⟨i, _, rfl⟩ := hv
  rw [getElem!_pos z (i % z.size) (Nat.mod_lt _ hs)]
  exact h1 _ (by simp)
theorem zc_len (z : Array Value) (n : Nat) : (Builtin.zeroCells z n).toList.length = n * z.size := by simp [Builtin.zeroCells]
/-- clear of a slice whose elements have several cells. -/
theorem run_clear_k (w : World) (t e ty : TypeId) (z : Value) (ht : P.underlying t = some (.slice e)) (hv : ∀ w, (zeroValue e).run P w = .ok z w) (hs : 0 < z.cells.size) (h1 : ∀ v ∈ z.cells.toList, v.oneCell' = true) (b o n c : Nat) (hn : 0 < n)
    (hc : ∀ j, j < n * z.cells.size → (w.cell? ⟨b, o + j, none⟩).isSome = true) (hf : ∀ j, j < n * z.cells.size → w.frozen? ⟨b, o + j, none⟩ = false) :
    (Builtin.clear_ #[t] ty #[.slice (some ⟨b, o, none⟩) n c]).run P w = .ok (.tuple #[]) (w.setCells b o (Builtin.zeroCells z.cells n).toList) := by
  have hst := run_storeCells_cells (P := P) b o (Builtin.zeroCells z.cells n).toList 0 w (by rw [zc_len]; simpa using hc) (by rw [zc_len]; simpa using hf) (zc_one hs h1)
  simp only [Nat.add_zero] at hst
  obtain ⟨m, rfl⟩ : ∃ m, n = m + 1 := ⟨n - 1, by omega⟩
  simp [Builtin.clear_, run_underlying ht, hv, hst]
/-- copy of elements of several cells: all is read before anything is written. -/
theorem run_copy_k (w : World) (dT sT ty elem : TypeId) (i : TypeInfo) (b o dLen dCap : Nat) (a : Addr) (sLen sCap m : Nat) (cs : List Value)
    (hu : P.underlying dT = some (.slice elem)) (hi : P.info? elem = some i) (hm : Nat.min sLen dLen = m) (hn : cs.length = m * i.size)
    (hsrc : ∀ j v, cs[j]? = some v → w.cell? (a.add j) = some v) (hc : ∀ j, j < cs.length → (w.cell? ⟨b, o + j, none⟩).isSome = true) (hf : ∀ j, j < cs.length → w.frozen? ⟨b, o + j, none⟩ = false) (h1 : ∀ v ∈ cs, v.oneCell' = true) :
    (Builtin.copy_ #[dT, sT] ty #[.slice (some ⟨b, o, none⟩) dLen dCap, .slice (some a) sLen sCap]).run P w = .ok (goInt m) (w.setCells b o cs) := by
  have hl := run_loadCells_list (P := P) w a cs hsrc
  rw [hn] at hl
  have hst := run_storeCells_cells (P := P) b o cs 0 w (by simpa using hc) (by simpa using hf) h1
  simp [Builtin.copy_, run_underlying hu, Builtin.lenOf, Builtin.firstCells, sizeOf, typeInfo, hi, hm, hl, hst]
end
end Go.Proofs.YtnhijofnhflklaaGreat
end

section
/- The library's sort at requests: which of the program's functions are the library's. -/
namespace Go.Proofs.YtnhijofnhflklaaGreat
open Go.Shelf Go.Proofs
def layU_ren : Go.Shelf.Ren := ⟨fun | 6 => 179 | 14 => 221 | 15 => 222 | 20 => 249 | 21 => 250 | 22 => 251 | 23 => 252 | 24 => 253 | 25 => 254 | 26 => 255 | 27 => 256 | 28 => 257 | 29 => 258 | 46 => 278 | 47 => 279 | 48 => 280 | 49 => 281 | 50 => 282 | 57 => 292 | n => n, fun | 22 => 88 | 24 => 95 | 25 => 268 | 3 => 3 | 39 => 246 | 0 => 0 | 53 => 329 | 55 => 121 | 4 => 4 | 46 => 323 | 45 => 322 | 50 => 98 | 5 => 5 | 9 => 9 | 66 => 344 | 70 => 347 | 76 => 356 | 77 => 357 | n => n, fun | n => n⟩
theorem layU : Go.Proofs.SlLaysF0.n6 Tryz.prog layU_ren := {
  mixed := by kernel_rfl,
  f6 := ⟨Tryz.f179.name, by decide, Tryz.func179.trans (congrArg some (by kernel_rfl))⟩,
  f14 := ⟨Tryz.f221.name, by decide, Tryz.func221.trans (congrArg some (by kernel_rfl))⟩,
  f15 := Tryz.func222.trans (congrArg some (by kernel_rfl)),
  f20 := ⟨Tryz.f249.name, by decide, Tryz.func249.trans (congrArg some (by kernel_rfl))⟩,
  f21 := ⟨Tryz.f250.name, by decide, Tryz.func250.trans (congrArg some (by kernel_rfl))⟩,
  f22 := ⟨Tryz.f251.name, by decide, Tryz.func251.trans (congrArg some (by kernel_rfl))⟩,
  f23 := ⟨Tryz.f252.name, by decide, Tryz.func252.trans (congrArg some (by kernel_rfl))⟩,
  f24 := ⟨Tryz.f253.name, by decide, Tryz.func253.trans (congrArg some (by kernel_rfl))⟩,
  f25 := ⟨Tryz.f254.name, by decide, Tryz.func254.trans (congrArg some (by kernel_rfl))⟩,
  f26 := ⟨Tryz.f255.name, by decide, Tryz.func255.trans (congrArg some (by kernel_rfl))⟩,
  f27 := ⟨Tryz.f256.name, by decide, Tryz.func256.trans (congrArg some (by kernel_rfl))⟩,
  f28 := Tryz.func257.trans (congrArg some (by kernel_rfl)),
  f29 := Tryz.func258.trans (congrArg some (by kernel_rfl)),
  f46 := ⟨Tryz.f278.name, by decide, Tryz.func278.trans (congrArg some (by kernel_rfl))⟩,
  f47 := Tryz.func279.trans (congrArg some (by kernel_rfl)),
  f48 := Tryz.func280.trans (congrArg some (by kernel_rfl)),
  f49 := ⟨Tryz.f281.name, by decide, Tryz.func281.trans (congrArg some (by kernel_rfl))⟩,
  f50 := ⟨Tryz.f282.name, by decide, Tryz.func282.trans (congrArg some (by kernel_rfl))⟩,
  f57 := ⟨Tryz.f292.name, by decide, Tryz.func292.trans (congrArg some (by kernel_rfl))⟩,
  t0 := Tryz.underlying0,
  a0 := Tryz.isAgg0,
  z0 := Tryz.sizeOf0,
  v0 := Tryz.zeroValue0,
  t3 := Tryz.underlying3,
  a3 := Tryz.isAgg3,
  z3 := Tryz.sizeOf3,
  v3 := Tryz.zeroValue3,
  t4 := Tryz.underlying4,
  a4 := Tryz.isAgg4,
  z4 := Tryz.sizeOf4,
  v4 := Tryz.zeroValue4,
  t5 := Tryz.underlying5,
  a5 := Tryz.isAgg5,
  z5 := Tryz.sizeOf5,
  v5 := Tryz.zeroValue5,
  t9 := Tryz.underlying9,
  a9 := Tryz.isAgg9,
  z9 := Tryz.sizeOf9,
  v9 := Tryz.zeroValue9,
  t22 := Tryz.underlying88,
  a22 := Tryz.isAgg88,
  z22 := Tryz.sizeOf88,
  v22 := Tryz.zeroValue88,
  t25 := Tryz.underlying268,
  a25 := Tryz.isAgg268,
  z25 := Tryz.sizeOf268,
  v25 := Tryz.zeroValue268,
  t39 := Tryz.underlying246,
  a39 := Tryz.isAgg246,
  z39 := Tryz.sizeOf246,
  v39 := Tryz.zeroValue246,
  t45 := Tryz.underlying322,
  a45 := Tryz.isAgg322,
  z45 := Tryz.sizeOf322,
  v45 := Tryz.zeroValue322,
  t46 := Tryz.underlying323,
  a46 := Tryz.isAgg323,
  z46 := Tryz.sizeOf323,
  v46 := Tryz.zeroValue323,
  t50 := Tryz.underlying98,
  a50 := Tryz.isAgg98,
  z50 := Tryz.sizeOf98,
  v50 := Tryz.zeroValue98,
  t53 := Tryz.underlying329,
  a53 := Tryz.isAgg329,
  z53 := Tryz.sizeOf329,
  v53 := Tryz.zeroValue329,
  t55 := Tryz.underlying121,
  a55 := Tryz.isAgg121,
  z55 := Tryz.sizeOf121,
  v55 := Tryz.zeroValue121,
  t66 := Tryz.underlying344,
  a66 := Tryz.isAgg344,
  z66 := Tryz.sizeOf344,
  v66 := Tryz.zeroValue344,
  t70 := Tryz.underlying347,
  a70 := Tryz.isAgg347,
  z70 := Tryz.sizeOf347,
  v70 := Tryz.zeroValue347,
  t76 := Tryz.underlying356,
  a76 := Tryz.isAgg356,
  z76 := Tryz.sizeOf356,
  v76 := Tryz.zeroValue356,
  t77 := Tryz.underlying357,
  a77 := Tryz.isAgg357,
  z77 := Tryz.sizeOf357,
  v77 := Tryz.zeroValue357 }
end Go.Proofs.YtnhijofnhflklaaGreat
end

section
/- mut.Compare: which request is done first. -/
namespace Go.Proofs.YtnhijofnhflklaaGreat
open Go.RowKit
theorem u_cells {w : World} {b : Nat} {t : TypeId} {f : Nat × Nat} {u0 u1 u2 u3 : Value} (h : w.heap[b]? = some (.cells #[u0, u1, u2, u3] t f)) : w.cell? ⟨b, 0, none⟩ = some u0 ∧ w.cell? ⟨b, 1, none⟩ = some u1 ∧ w.cell? ⟨b, 2, none⟩ = some u2 ∧ w.cell? ⟨b, 3, none⟩ = some u3 := by
  refine ⟨?_, ?_, ?_, ?_⟩ <;> simp [World.cell?, h]
theorem u_lt {w : World} {b : Nat} {o : Obj} (h : w.heap[b]? = some o) : b < w.heap.size := (Array.getElem?_eq_some_iff.1 h).1
theorem uNan64 (x : Int) (w : World) : Calls Tryz.prog 166 #[.int .i64 x] w fun e w' => e = .returned (.bool false) ∧ w' = w := by
  have hx : (x != x) = false := by simp
  go_enter Tryz.func166, Tryz.ntmps166
  go_wp2
  go_ret
  exact ⟨by simp, rfl⟩
theorem uNanI (x : Int) (w : World) : Calls Tryz.prog 259 #[.int .i64 x] w fun e w' => e = .returned (.bool false) ∧ w' = w := by
  have hx : (x != x) = false := by simp
  go_enter Tryz.func259, Tryz.ntmps259
  go_wp2
  go_ret
  exact ⟨by simp, rfl⟩
theorem uCmp64 (x y : Int) (w : World) : Calls Tryz.prog 134 #[.int .i64 x, .int .i64 y] w fun e w' => e = .returned (.int .i64 (u3 x y)) ∧ w' = w := by
  by_cases h : x < y
  · have e : u3 x y = -1 := by unfold u3; rw [if_pos h]
    rw [e]
    go_enter Tryz.func134, Tryz.ntmps134
    go_wp2_with (go_at_call 166; refine (uNan64 _ _).mono ?_; rintro r w1 ⟨rfl, rfl⟩)
    go_ret
    exact ⟨rfl, rfl⟩
  · by_cases h' : y < x
    · have e : u3 x y = 1 := by unfold u3; rw [if_neg h, if_pos h']
      rw [e]
      go_enter Tryz.func134, Tryz.ntmps134
      go_wp2_with (go_at_call 166; refine (uNan64 _ _).mono ?_; rintro r w1 ⟨rfl, rfl⟩)
      go_ret
      exact ⟨rfl, rfl⟩
    · have e : u3 x y = 0 := by unfold u3; rw [if_neg h, if_neg h']
      rw [e]
      go_enter Tryz.func134, Tryz.ntmps134
      go_wp2_with (go_at_call 166; refine (uNan64 _ _).mono ?_; rintro r w1 ⟨rfl, rfl⟩)
      go_ret
      exact ⟨rfl, rfl⟩
theorem uCmpInt (x y : Int) (w : World) : Calls Tryz.prog 224 #[.int .i64 x, .int .i64 y] w fun e w' => e = .returned (.int .i64 (u3 x y)) ∧ w' = w := by
  by_cases h : x < y
  · have e : u3 x y = -1 := by unfold u3; rw [if_pos h]
    rw [e]
    go_enter Tryz.func224, Tryz.ntmps224
    go_wp2_with (go_at_call 259; refine (uNanI _ _).mono ?_; rintro r w1 ⟨rfl, rfl⟩)
    go_ret
    exact ⟨rfl, rfl⟩
  · by_cases h' : y < x
    · have e : u3 x y = 1 := by unfold u3; rw [if_neg h, if_pos h']
      rw [e]
      go_enter Tryz.func224, Tryz.ntmps224
      go_wp2_with (go_at_call 259; refine (uNanI _ _).mono ?_; rintro r w1 ⟨rfl, rfl⟩)
      go_ret
      exact ⟨rfl, rfl⟩
    · have e : u3 x y = 0 := by unfold u3; rw [if_neg h, if_neg h']
      rw [e]
      go_enter Tryz.func224, Tryz.ntmps224
      go_wp2_with (go_at_call 259; refine (uNanI _ _).mono ?_; rintro r w1 ⟨rfl, rfl⟩)
      go_ret
      exact ⟨rfl, rfl⟩
def orU (a b c d : Int) : Int := if a ≠ 0 then a else if b ≠ 0 then b else if c ≠ 0 then c else d
set_option maxRecDepth 100000 in
theorem orU4 {w : World} {g : Nat} {a b c d : Int} (h : w.heap[g]? = some (.cells #[.int .i64 a, .int .i64 b, .int .i64 c, .int .i64 d] 3 (0, 0))) : Calls Tryz.prog 223 #[.slice (some ⟨g, 0, none⟩) 4 4] w fun e w' => e = .returned (.int .i64 (orU a b c d)) ∧ w' = w := by
  obtain ⟨k0, k1, k2, k3⟩ := u_cells h
  by_cases h0 : a = 0
  · subst h0
    by_cases h1 : b = 0
    · subst h1
      by_cases h2 : c = 0
      · subst h2
        by_cases h3 : d = 0
        · subst h3
          go_enter Tryz.func223, Tryz.ntmps223
          go_wp2
          refine wp_loop_rounds 5 ?_
          rw [rounds_succ]
          go_wp2
          rw [rounds_succ]
          go_wp2
          rw [rounds_succ]
          go_wp2
          rw [rounds_succ]
          go_wp2
          rw [rounds_succ]
          go_wp2
          go_ret
          exact ⟨rfl, rfl⟩
        · have e3 : (d != 0) = true := by simpa using h3
          go_enter Tryz.func223, Tryz.ntmps223
          go_wp2
          refine wp_loop_rounds 5 ?_
          rw [rounds_succ]
          go_wp2
          rw [rounds_succ]
          go_wp2
          rw [rounds_succ]
          go_wp2
          rw [rounds_succ]
          go_wp2
          go_ret
          exact ⟨rfl, rfl⟩
      · have e2 : (c != 0) = true := by simpa using h2
        go_enter Tryz.func223, Tryz.ntmps223
        go_wp2
        refine wp_loop_rounds 5 ?_
        rw [rounds_succ]
        go_wp2
        rw [rounds_succ]
        go_wp2
        rw [rounds_succ]
        go_wp2
        go_ret
        exact ⟨by simp [orU, h2], rfl⟩
    · have e1 : (b != 0) = true := by simpa using h1
      go_enter Tryz.func223, Tryz.ntmps223
      go_wp2
      refine wp_loop_rounds 5 ?_
      rw [rounds_succ]
      go_wp2
      rw [rounds_succ]
      go_wp2
      go_ret
      exact ⟨by simp [orU, h1], rfl⟩
  · have e0 : (a != 0) = true := by simpa using h0
    go_enter Tryz.func223, Tryz.ntmps223
    go_wp2
    refine wp_loop_rounds 5 ?_
    rw [rounds_succ]
    go_wp2
    go_ret
    exact ⟨by simp [orU, h0], rfl⟩
theorem u_eight {W : World} {p q : Nat} {x y : Mu} (hp : W.heap[p]? = some (.cells #[.int .i64 x.k, .int .i64 x.i, .int .i64 x.t, .int .i64 x.v] 95 (0, 0))) (hq : W.heap[q]? = some (.cells #[.int .i64 y.k, .int .i64 y.i, .int .i64 y.t, .int .i64 y.v] 95 (0, 0))) :
    (W.cell? ⟨p, 0, none⟩ = some (.int .i64 x.k) ∧ W.cell? ⟨p, 1, none⟩ = some (.int .i64 x.i) ∧ W.cell? ⟨p, 2, none⟩ = some (.int .i64 x.t) ∧ W.cell? ⟨p, 3, none⟩ = some (.int .i64 x.v)) ∧ W.cell? ⟨q, 0, none⟩ = some (.int .i64 y.k) ∧ W.cell? ⟨q, 1, none⟩ = some (.int .i64 y.i) ∧ W.cell? ⟨q, 2, none⟩ = some (.int .i64 y.t) ∧ W.cell? ⟨q, 3, none⟩ = some (.int .i64 y.v) := ⟨u_cells hp, u_cells hq⟩
set_option maxRecDepth 100000 in
set_option maxHeartbeats 1000000 in
theorem compare_mu (x y : Mu) (w : World) : Calls Tryz.prog 180 #[.agg #[.int .i64 x.k, .int .i64 x.i, .int .i64 x.t, .int .i64 x.v], .agg #[.int .i64 y.k, .int .i64 y.i, .int .i64 y.t, .int .i64 y.v]] w fun e w' => e = .returned (.int .i64 (cmpU x y)) ∧ ∃ q os, w' = Sort.grow (w.drewN q) os := by
  go_enter Tryz.func180, Tryz.ntmps180
  go_upto_region 1 with (fail)
  have hp := (Below.heap_alloc (w.alloc (.cells #[.int .i64 x.k, .int .i64 x.i, .int .i64 x.t, .int .i64 x.v] 95)) (.cells #[.int .i64 y.k, .int .i64 y.i, .int .i64 y.t, .int .i64 y.v] 95) w.heap.size (by simp)).trans (heap_alloc_new w (.cells #[.int .i64 x.k, .int .i64 x.i, .int .i64 x.t, .int .i64 x.v] 95))
  have hq := heap_alloc_new (w.alloc (.cells #[.int .i64 x.k, .int .i64 x.i, .int .i64 x.t, .int .i64 x.v] 95)) (.cells #[.int .i64 y.k, .int .i64 y.i, .int .i64 y.t, .int .i64 y.v] 95)
  have hW : (w.alloc (.cells #[.int .i64 x.k, .int .i64 x.i, .int .i64 x.t, .int .i64 x.v] 95)).alloc (.cells #[.int .i64 y.k, .int .i64 y.i, .int .i64 y.t, .int .i64 y.v] 95) = Sort.grow w #[(.cells #[.int .i64 x.k, .int .i64 x.i, .int .i64 x.t, .int .i64 x.v] 95), (.cells #[.int .i64 y.k, .int .i64 y.i, .int .i64 y.t, .int .i64 y.v] 95)] := by rw [Sort.alloc_eq_grow, Sort.alloc_eq_grow, Sort.grow_grow]; rfl
  rw [World.size_alloc] at hq
  rw [hW] at hp hq
  have HW : Hid _ := hW
  simp only [hW]
  clear hW
  generalize hWW : Sort.grow w #[(.cells #[.int .i64 x.k, .int .i64 x.i, .int .i64 x.t, .int .i64 x.v] 95), (.cells #[.int .i64 y.k, .int .i64 y.i, .int .i64 y.t, .int .i64 y.v] 95)] = W at hp hq HW ⊢
  have HWW : Hid _ := hWW
  clear hWW HW
  generalize w.heap.size + 1 = q at hq ⊢
  generalize w.heap.size = p at hp ⊢
  have x0 := u_eight hp hq
  have HX : Hid _ := x0
  have x1 := fun o => u_eight ((Below.heap_alloc W o p (u_lt hp)).trans hp) ((Below.heap_alloc W o q (u_lt hq)).trans hq)
  clear hp hq
  go_region_held (fun w' => (w'.cell? ⟨p, 0, none⟩ = some (.int .i64 x.k) ∧ w'.cell? ⟨p, 1, none⟩ = some (.int .i64 x.i) ∧ w'.cell? ⟨p, 2, none⟩ = some (.int .i64 x.t) ∧ w'.cell? ⟨p, 3, none⟩ = some (.int .i64 x.v)) ∧ w'.cell? ⟨q, 0, none⟩ = some (.int .i64 y.k) ∧ w'.cell? ⟨q, 1, none⟩ = some (.int .i64 y.i) ∧ w'.cell? ⟨q, 2, none⟩ = some (.int .i64 y.t) ∧ w'.cell? ⟨q, 3, none⟩ = some (.int .i64 y.v)) (first | exact x1 _ | exact x0)
    (first
    | (go_at_call 134; refine (uCmp64 _ _ _).mono ?_; rintro e w1 ⟨rfl, rfl⟩)
    | (go_at_call 224; refine (uCmpInt _ _ _).mono ?_; rintro e w1 ⟨rfl, rfl⟩)
    | (go_at_call 223; refine (orU4 (w := (W.alloc (.cells #[.int .i64 (u3 x.k y.k), .int .i64 (u3 x.i y.i), .int .i64 (u3 x.t y.t), .int .i64 (u3 x.v y.v)] 3)).drew) (g := W.heap.size) (heap_alloc_new W _)).mono ?_; rintro e w1 ⟨rfl, rfl⟩))
  all_goals
    clear x0 x1 HX
    go_wp2
    go_ret
    refine ⟨rfl, 1, #[(.cells #[.int .i64 x.k, .int .i64 x.i, .int .i64 x.t, .int .i64 x.v] 95), (.cells #[.int .i64 y.k, .int .i64 y.i, .int .i64 y.t, .int .i64 y.v] 95)] ++ #[.cells #[.int .i64 (u3 x.k y.k), .int .i64 (u3 x.i y.i), .int .i64 (u3 x.t y.t), .int .i64 (u3 x.v y.v)] 3], ?_⟩
    rw [← HWW.out, Sort.alloc_eq_grow, Sort.grow_grow, Sort.drew_grow]
    rfl
end Go.Proofs.YtnhijofnhflklaaGreat
end
