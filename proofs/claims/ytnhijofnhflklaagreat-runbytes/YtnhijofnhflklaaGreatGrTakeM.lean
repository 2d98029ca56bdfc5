import Derived.Test.YtnhijofnhflklaaGreatGrDataM
import Derived.Test.YtnhijofnhflklaaGreatNumW2M
import Derived.RangeFuncNested
import Derived.RangeFuncBound
import Derived.RangeFuncCalls
import Derived.RangeFuncLeaves
import Derived.Shelf.Abstract
import Derived.Shelf.RegionOpen
import Derived.OwnWalkIn
import Derived.TacticsInMore
import Derived.LoopNIn
import Derived.LoopIn
import Derived.Test.YtnhijofnhflklaaGreatProg
import Derived.WalkKit
import Derived.Test.YtnhijofnhflklaaGreatMuDelM
section
/- A graph's bytes, as plain lists. -/
namespace Go.Proofs.YtnhijofnhflklaaGreat
open Go.RowKit
def sgB (k : Int) : List UInt8 := numB (foldN k).toNat
def edB (e : Ed) : List UInt8 := sgB e.t ++ sgB e.w
theorem fold_lt {k : Int} (h : I64 k) : (foldN k).toNat < 18446744073709551616 := by have := fold_bd k h.1 h.2; omega
theorem sgB_len {k : Int} (h : I64 k) : (sgB k).length ≤ 10 := numB_len10 (fold_lt h)
theorem edB_len {e : Ed} (h : e.ok) : (edB e).length ≤ 20 := by
  unfold edB
  have := sgB_len h.t
  have := sgB_len h.w
  rw [List.length_append]; omega
theorem edsB_len (L : List Ed) (h : ∀ e ∈ L, e.ok) : (L.flatMap edB).length ≤ 20 * L.length := by
  induction L with
  | nil => simp
  | cons e L ih =>
    have h1 := edB_len (h e (by simp))
    have h2 := ih (fun x hx => h x (by simp [hx]))
    rw [List.flatMap_cons, List.length_append, List.length_cons]; omega
theorem eds_snoc (L : List Ed) (k : Nat) (h : k < L.length) : (L.take (k + 1)).flatMap edB = (L.take k).flatMap edB ++ edB L[k] := by
  rw [List.take_succ_eq_append_getElem h, List.flatMap_append]; simp
/-- How many bytes at most. -/
def room (G : List Vx) : Nat := (G.map fun v => 30 + 20 * v.es.length).sum
end Go.Proofs.YtnhijofnhflklaaGreat
end

section
/- Plain mathematics of taking edges, vertices and graphs off bytes. -/
namespace Go.Proofs.YtnhijofnhflklaaGreat
open Go.RowKit
theorem rdNum_to {s : ByteArray} {a n a' : Nat} {e e' : Int} (ha : a ≤ s.size) (h : rdNum s a e = (n, a', e')) : a' ≤ s.size ∧ n < 18446744073709551616 ∧ (e' = 0 → e = 0) := by
  by_cases he : e = 0
  · subst he
    rcases three s a ha with ⟨m, k, hp, h1, h2, h3, h4⟩ | ⟨m, k, x, hp, hx⟩
    · rw [show rdNum s a 0 = (m, a + k, 0) from rd_ok hp] at h
      simp only [Prod.mk.injEq] at h
      obtain ⟨rfl, rfl, rfl⟩ := h
      exact ⟨h2, h4, fun _ => rfl⟩
    · rw [show rdNum s a 0 = (0, a, (x : Int)) from rd_bad hp hx] at h
      simp only [Prod.mk.injEq] at h
      obtain ⟨rfl, rfl, rfl⟩ := h
      exact ⟨ha, by decide, fun _ => rfl⟩
  · rw [show rdNum s a e = (0, a, e) from rd_err he] at h
    simp only [Prod.mk.injEq] at h
    obtain ⟨rfl, rfl, rfl⟩ := h
    exact ⟨ha, by decide, fun h => h⟩
theorem rdCount_to {s : ByteArray} {a n a' : Nat} {e e' : Int} {most : Nat} (ha : a ≤ s.size) (h : rdCount s a e most = (n, a', e')) : a' ≤ s.size ∧ n ≤ most ∧ (e' = 0 → e = 0) ∧ (0 < n → e' = 0) := by
  by_cases he : e = 0
  · subst he
    rcases three s a ha with ⟨m, k, hp, h1, h2, h3, h4⟩ | ⟨m, k, x, hp, hx⟩
    · have hq : rdCount s a 0 most = if (most : Int) < 0 ∨ (most : Int) < m then (0, a, 5) else (m, a + k, 0) := rd_ok hp
      rw [hq] at h
      split at h
      · simp only [Prod.mk.injEq] at h
        obtain ⟨rfl, rfl, rfl⟩ := h
        exact ⟨ha, by omega, fun _ => rfl, fun h => by omega⟩
      · simp only [Prod.mk.injEq] at h
        obtain ⟨rfl, rfl, rfl⟩ := h
        exact ⟨h2, by omega, fun _ => rfl, fun _ => rfl⟩
    · rw [show rdCount s a 0 most = (0, a, (x : Int)) from rd_bad hp hx] at h
      simp only [Prod.mk.injEq] at h
      obtain ⟨rfl, rfl, rfl⟩ := h
      exact ⟨ha, by omega, fun _ => rfl, fun h => by omega⟩
  · rw [show rdCount s a e most = (0, a, e) from rd_err he] at h
    simp only [Prod.mk.injEq] at h
    obtain ⟨rfl, rfl, rfl⟩ := h
    exact ⟨ha, by omega, fun h => h, fun h => by omega⟩
end Go.Proofs.YtnhijofnhflklaaGreat
end

section
/- The iterator over a graph's edges: every edge, vertex by vertex, each with where it begins, up to where a round says no more. -/
namespace Go.Proofs.YtnhijofnhflklaaGreat
open Go.RowKit Go.Shelf
attribute [local go_sem] Oper.semAt_some

/-- What a round keeps: all below n₀, and all cells from n₁ on. -/
structure Kc (n₀ n₁ : Nat) (W W' : World) : Prop where
  low : Below n₀ W W'
  cells : ∀ k, n₁ ≤ k → ∀ c t f, W.heap[k]? = some (.cells c t f) → W'.heap[k]? = some (.cells c t f)
theorem Kc.refl (n₀ n₁ : Nat) (W : World) : Kc n₀ n₁ W W := ⟨Below.refl _ _, fun _ _ _ _ _ h => h⟩
theorem Kc.trans {n₀ n₁ : Nat} {A B C : World} (h : Kc n₀ n₁ A B) (k : Kc n₀ n₁ B C) : Kc n₀ n₁ A C := ⟨h.low.trans k.low, fun i hi c t f hc => k.cells i hi c t f (h.cells i hi c t f hc)⟩
theorem Kc.put {n₀ n₁ : Nat} {w : World} (hn : n₀ ≤ w.heap.size) (W : World) (l : Nat) (o o' : Obj) (hl : w.heap.size ≤ l) (h : W.heap[l]? = some o) (h1 : o.isCells = false) (h2 : o.isWalk = false) : Kc n₀ n₁ W (W.putObj l o') :=
  ⟨belowK_b hn W l o o' hl h h1 h2, fun k _ _ _ _ hc => by
    have hne : k ≠ l := fun e => by subst e; rw [hc] at h; cases h; simp [Obj.isCells] at h1
    exact (World.putObj_heap_other hne).trans hc⟩
theorem Kc.ofNew {n₀ n₁ : Nat} {W W' : World} (h : Below W.heap.size W W') (hn : n₀ ≤ W.heap.size) : Kc n₀ n₁ W W' := ⟨h.mono hn, fun k _ _ _ _ hc => (h.block k (Array.getElem?_eq_some_iff.1 hc).1).trans hc⟩

/-- All edges, vertex by vertex. -/
def evs (G : List Vx) : List (Int × Ed) := G.flatMap fun v => v.es.map fun e => (v.id, e)
theorem evs_snoc (G : List Vx) (k : Nat) (h : k < G.length) : evs (G.take (k + 1)) = evs (G.take k) ++ G[k].es.map fun e => (G[k].id, e) := by
  unfold evs
  rw [List.take_succ_eq_append_getElem h, List.flatMap_append]; simp
theorem evs_pre (G : List Vx) (k : Nat) : evs (G.take k) <+: evs G := by
  unfold evs
  conv => rhs; rw [← List.take_append_drop k G]
  rw [List.flatMap_append]; exact List.prefix_append _ _
theorem evs_in (G : List Vx) (k : Nat) (h : k < G.length) (j : Nat) : evs (G.take k) ++ (G[k].es.take j).map (fun e => (G[k].id, e)) <+: evs G := by
  refine List.IsPrefix.trans ?_ (evs_pre G (k + 1))
  rw [evs_snoc G k h]
  refine (List.prefix_append_right_inj _).2 ?_
  conv => rhs; rw [← List.take_append_drop j G[k].es, List.map_append]
  exact List.prefix_append _ _
theorem take_snoc_map {L : List Ed} {j : Nat} (h : j < L.length) (x : Int) : (L.take (j + 1)).map (fun e => (x, e)) = (L.take j).map (fun e => (x, e)) ++ [(x, L[j])] := by
  rw [List.take_succ_eq_append_getElem h, List.map_append]; rfl
def encE (x : Int × Ed) : Array Value := #[.int .i64 x.1, .agg #[.int .i64 x.2.t, .int .i64 x.2.w]]
theorem box3 {W : World} {b : Nat} {t : TypeId} {u0 u1 u2 : Value} (h : W.heap[b]? = some (.cells #[u0, u1, u2] t (0, 0))) : W.cell? ⟨b, 0, none⟩ = some u0 ∧ W.cell? ⟨b, 1, none⟩ = some u1 ∧ W.cell? ⟨b, 2, none⟩ = some u2 := by
  simp [World.cell?, h]

set_option maxRecDepth 100000 in
set_option maxHeartbeats 4000000 in
theorem edges1_in (F : Fence) (n : Nat) (hF : F.fn 187) (hro : F.round = none) (hn : 1 ≤ n) (l Bs n₀ n₁ : Nat) (ao : Option Addr) (cap : Nat) (G : List Vx) (hlG : G.length ≤ 9223372036854775807) (hok : ∀ v ∈ G, v.ok) (J Jx : List (Int × Ed) → World → Prop)
    (W : World) (hJ : AbidesFrom W.heap.size J) (hn0 : n₀ ≤ W.heap.size) (hn1 : n₁ ≤ W.heap.size)
    (hY : ∀ pre x W1, J pre W1 → pre.length < (evs G).length → YieldAt F (n - 1) Tryz.prog l (encE x) W1 fun e W' =>
      (e = .returned (.bool true) ∧ J (pre ++ [x]) W' ∧ Kc n₀ n₁ W1 W') ∨ (e = .returned (.bool false) ∧ Jx (pre ++ [x]) W'))
    (hBs : W.cell? ⟨Bs, 0, none⟩ = some (.slice ao G.length cap)) (hG : VxAt W (fun k => k < n₀) ao G) (h0 : J [] W) :
    CallsIn F n Tryz.prog 187 #[.func (.yield l) #[] #[], .pointer (some ⟨Bs, 0, none⟩)] W fun e W' => (∃ v, e = .returned v) ∧
      ((∃ ys, ys = evs G ∧ J ys W') ∨ (∃ pre, pre <+: evs G ∧ Jx pre W')) := by
  refine callsIn_of_wp Tryz.func187 rfl hF ?_ hro
  simp only [Tryz.ntmps187, List.size_toArray, List.length_cons, List.length_nil, Nat.reduceAdd, Nat.reduceSub, Array.replicate_succ, Array.replicate_zero, List.push_toArray, List.append_toArray, List.nil_append, List.cons_append]
  gi_wp2
  gi_loopw [4, 6, 10] (fun _ _ i wr => ∃ k : Nat, k ≤ G.length ∧ i = .int .i64 k ∧ J (evs (G.take k)) wr ∧ Below n₀ W wr) (fun _ _ i _ => G.length - (intOf i).toNat)
  case atStart => exact ⟨0, Nat.zero_le _, rfl, h0, Below.refl _ _⟩
  case round =>
    obtain ⟨k, hk, rfl, hJs, hnx⟩ := hrel
    by_cases hlt : k < G.length
    · obtain ⟨b, off, rfl, hP, hc⟩ := hG (by omega)
      obtain ⟨eo, ec, c0, c1, c2, c3⟩ := hc k hlt
      have d0 := (hnx.cell (p := ⟨b, off + k * 3, none⟩) hP).trans c0
      have d1 := (hnx.cell (p := ⟨b, off + k * 3 + 1, none⟩) hP).trans c1
      have d2 := (hnx.cell (p := ⟨b, off + k * 3 + 2, none⟩) hP).trans c2
      have HI : Hid (∀ j, evs (G.take k) ++ (G[k].es.take j).map (fun e => (G[k].id, e)) <+: evs G) := evs_in G k hlt
      have HS : Hid (evs (G.take (k + 1)) = evs (G.take k) ++ G[k].es.map fun e => (G[k].id, e)) := evs_snoc G k hlt
      have hlen : G[k].es.length ≤ 9223372036854775807 := Nat.le_trans (hok _ (List.getElem_mem hlt)).len (by decide)
      generalize G[k] = y at d0 d1 d2 c3 HI HS hlen
      clear c0 c1 c2 hc
      obtain ⟨wo, rfl⟩ : ∃ wo, wo = wr := ⟨_, rfl⟩
      have hv1 : n₁ ≤ wo.heap.size := Nat.le_trans hn1 hnx.size
      obtain ⟨bv, hbv⟩ : ∃ bv, wo.heap.size = bv := ⟨_, rfl⟩
      rw [hbv] at hv1
      gi_wp2
      gi_loopw [6, 17] (fun _ i wx => ∃ j : Nat, j ≤ y.es.length ∧ i = .int .i64 j ∧ J (evs (G.take k) ++ (y.es.take j).map (fun e => (y.id, e))) wx ∧ Below n₀ W wx ∧ wx.heap[bv]? = some (.cells #[.int .i64 y.id, .int .i64 y.val, .slice eo y.es.length ec] 82 (0, 0))) (fun _ i _ => y.es.length - (intOf i).toNat)
      case atStart =>
        refine ⟨0, Nat.zero_le _, rfl, ?_, hnx.alloc (Nat.le_trans hn0 hnx.size) _, by rw [← hbv]; exact heap_alloc_new _ _⟩
        simp only [List.take_zero, List.map_nil, List.append_nil]
        exact hJ _ _ _ none hJs (World.grownBy_alloc _ _ none) (fun r e => by cases e)
      case round =>
        obtain ⟨j, hj, rfl, hJj, hnj, hbx⟩ := hrel
        by_cases hjl : j < y.es.length
        · obtain ⟨eb, eoff, rfl, hPe, hce⟩ := c3 (by omega)
          obtain ⟨e0, e1⟩ := hce j hjl
          have f0 := (hnj.cell (p := ⟨eb, eoff + j * 2, none⟩) hPe).trans e0
          have f1 := (hnj.cell (p := ⟨eb, eoff + j * 2 + 1, none⟩) hPe).trans e1
          obtain ⟨q0, q1, q2⟩ := box3 hbx
          have hbl := lt_cell q0
          have HT : Hid (∀ x, (y.es.take (j + 1)).map (fun e => (x, e)) = (y.es.take j).map (fun e => (x, e)) ++ [(x, y.es[j])]) := take_snoc_map hjl
          generalize y.es[j] = z at f0 f1 HT
          have hJ2 : ∀ o, J (evs (G.take k) ++ (y.es.take j).map (fun e => (y.id, e))) (wr.alloc o) := fun o => hJ _ _ _ none hJj (World.grownBy_alloc _ _ none) (fun r e => by cases e)
          have hpl : (evs (G.take k) ++ (y.es.take j).map (fun e => (y.id, e))).length < (evs G).length := by
            have h1 := (HI.out (j + 1)).length_le
            rw [HT.out, ← List.append_assoc, List.length_append] at h1
            simp only [List.length_cons, List.length_nil] at h1
            omega
          obtain ⟨fn, tmps, assign, body, hy, hR⟩ := hY _ (y.id, z) (wr.alloc (.cells #[.int .i64 z.t, .int .i64 z.w] 106)) (hJ2 _) hpl
          dsimp only [encE] at hy
          gi_wp2
          refine hR.mono ?_
          rintro e W3 (⟨rfl, hJ3, hk3⟩ | ⟨rfl, hJx3⟩)
          · have hb3 := hk3.cells bv hv1 _ _ _ ((Below.heap_alloc wr _ bv hbl).trans hbx)
            have hnl : Below n₀ W W3 := (hnj.alloc (Nat.le_trans hn0 hnj.size) _).trans hk3.low
            gi_wp2
            go_roundw
            case rel => exact ⟨j + 1, by omega, by go_num, by rw [HT.out, ← List.append_assoc]; exact hJ3, hnl, hb3⟩
            case measure => simp [intOf]; omega
          · gi_wp2
            refine bodyPost_ret (results_none rfl _ _ _) rfl ?_
            exact ⟨⟨_, rfl⟩, .inr ⟨_, by have := HI.out (j + 1); rw [HT.out, ← List.append_assoc] at this; exact this, hJx3⟩⟩
        · obtain rfl : j = y.es.length := by omega
          gi_wp2
          go_roundw
          case rel => exact ⟨k + 1, by omega, by go_num, by rw [HS.out]; simpa using hJj, hnj⟩
          case measure => simp [intOf]; omega
    · obtain rfl : k = G.length := by omega
      gi_wp2
      go_end0
      rw [List.take_length] at hJs
      exact ⟨⟨_, rfl⟩, .inl ⟨_, rfl, hJs⟩⟩
theorem edges_stops (F : Fence) (n : Nat) (hF : F.fn 187) (hro : F.round = none) (hn : 1 ≤ n) (Bs n₀ : Nat) (ao : Option Addr) (cap : Nat) (G : List Vx) (hlG : G.length ≤ 9223372036854775807) (hok : ∀ v ∈ G, v.ok) (w : World) (hB : Bs < w.heap.size) (hn0 : n₀ ≤ w.heap.size)
    (hc : w.cell? ⟨Bs, 0, none⟩ = some (.slice ao G.length cap)) (hG : VxAt w (fun k => k < n₀) ao G) :
    SeqStopsK F n Tryz.prog 187 #[.pointer (some ⟨Bs, 0, none⟩)] encE (Kc n₀ w.heap.size) (fun ys => ys = evs G) (fun pre => pre <+: evs G) (evs G).length w := fun l J Jx W hW hJ _ hY h0 =>
  edges1_in F n hF hro hn l Bs n₀ w.heap.size ao cap G hlG hok J Jx W hJ (Nat.le_trans hn0 hW.size) hW.size hY ((hW.cell (p := ⟨Bs, 0, none⟩) hB).trans hc) (hG.below hW (fun _ hk _ => hk)) h0
end Go.Proofs.YtnhijofnhflklaaGreat
end

section
/- What Find returns of vertices that rise: where a number is, or would stand. -/
namespace Go.Proofs.YtnhijofnhflklaaGreat
open Go.RowKit
def cmpI (x y : Int) : Int := if x < y then -1 else if y < x then 1 else 0

theorem isnan_any (x : Int) (w : World) : Calls Tryz.prog 166 #[.int .i64 x] w fun r w' => r = .returned (.bool false) ∧ w' = w := by
  go_enter Tryz.func166, Tryz.ntmps166
  go_wp2
  go_ret
  exact ⟨by simp, rfl⟩
theorem compare_any (x y : Int) (w : World) : Calls Tryz.prog 134 #[.int .i64 x, .int .i64 y] w fun r w' => r = .returned (.int .i64 (cmpI x y)) ∧ w' = w := by
  unfold cmpI
  by_cases h1 : x < y
  · rw [if_pos h1]
    go_enter Tryz.func134, Tryz.ntmps134
    go_wp2_with (go_at_call 166; refine (isnan_any _ _).mono ?_; rintro r w1 ⟨rfl, rfl⟩)
    go_ret
    exact ⟨rfl, rfl⟩
  · rw [if_neg h1]
    by_cases h2 : y < x
    · rw [if_pos h2]
      go_enter Tryz.func134, Tryz.ntmps134
      go_wp2_with (go_at_call 166; refine (isnan_any _ _).mono ?_; rintro r w1 ⟨rfl, rfl⟩)
      go_ret
      exact ⟨rfl, rfl⟩
    · rw [if_neg h2]
      go_enter Tryz.func134, Tryz.ntmps134
      go_wp2_with (go_at_call 166; refine (isnan_any _ _).mono ?_; rintro r w1 ⟨rfl, rfl⟩)
      go_ret
      exact ⟨rfl, rfl⟩
theorem find1_any (x y i : Int) (ao : Option Addr) (n c : Nat) (w : World) :
    Calls Tryz.prog 189 #[.agg #[.int .i64 x, .int .i64 y, .slice ao n c], .int .i64 i] w fun r w' => r = .returned (.int .i64 (cmpI x i)) ∧ Below w.heap.size w w' := by
  go_enter Tryz.func189, Tryz.ntmps189
  go_wp2_with (go_at_call 134; refine (compare_any _ _ _).mono ?_; rintro r w1 ⟨rfl, rfl⟩)
  go_ret
  exact ⟨rfl, (Below.refl _ _).alloc (Nat.le_refl _) _⟩
end Go.Proofs.YtnhijofnhflklaaGreat
end

section
/- What Find returns of vertices that rise: where a number is, or would stand. -/
namespace Go.Proofs.YtnhijofnhflklaaGreat
open Go.RowKit
theorem below_step {l : List Int} (hr : Rise l) {m : Nat} (h : m < l.length) {x y : Int} (hm : l[m] = y) (hy : y < x) : ∀ q (h : q < l.length), q < m + 1 → l[q] < x := by
  intro q hq hqm
  by_cases e : q = m
  · subst e; omega
  · have := hr.lt m q h (by omega); omega
theorem above_step {l : List Int} (hr : Rise l) {m : Nat} (h : m < l.length) {x y : Int} (hm : l[m] = y) (hy : x ≤ y) : ∀ q (h : q < l.length), m ≤ q → x ≤ l[q] := by
  intro q hq hqm
  by_cases e : q = m
  · subst e; omega
  · have := hr.lt q m hq (by omega); omega
theorem found_cmp {y x : Int} (h : ¬ y < x) : ((some y : Option Int) == some x) = (cmpI y x == 0) := by
  unfold cmpI
  rw [if_neg h, Bool.eq_iff_iff]
  split <;> simp <;> omega

set_option maxRecDepth 100000 in
set_option maxHeartbeats 4000000 in
theorem bsearch_any {w : World} {P : Nat → Prop} {ao : Option Addr} {G : List Vx} (cap : Nat) (x : Int) (h : VxAt w P ao G) (hl : G.length ≤ 256) (hr : Rise (ids G)) :
    Calls Tryz.prog 188 #[.slice ao G.length cap, .int .i64 x, .func (.func 189) #[] #[]] w fun r w' => r = .returned (.tuple #[.int .i64 (findN (ids G) x), .bool (foundB (ids G) x)]) ∧ Below w.heap.size w w' := by
  have HR : Hid (Rise (ids G)) := hr
  clear hr
  go_enter Tryz.func188, Tryz.ntmps188
  go_wp2
  go_loopw [9, 10, 11] (fun u v _ wr => ∃ (i j : Nat), i ≤ j ∧ j ≤ G.length ∧ u = .int .i64 i ∧ v = .int .i64 j ∧ Hid (∀ q (h : q < (ids G).length), q < i → (ids G)[q] < x) ∧ Hid (∀ q (h : q < (ids G).length), j ≤ q → x ≤ (ids G)[q]) ∧ Below w.heap.size w wr) (fun u v _ _ => (intOf v).toNat - (intOf u).toNat)
  case atStart => exact ⟨0, G.length, Nat.zero_le _, Nat.le_refl _, rfl, rfl, fun q _ hq => absurd hq (by omega), fun q hq hq' => absurd hq (by rw [ids_len]; omega), Below.refl _ _⟩
  case round =>
    obtain ⟨i, j, hij, hj, rfl, rfl, H1, H2, hb⟩ := hrel
    by_cases hlt : i < j
    · obtain ⟨m, HM⟩ : ∃ m : Nat, Hid (m = (i + j) / 2) := ⟨_, rfl⟩
      have hm : m = (i + j) / 2 := HM.out
      have hmi : i ≤ m := by omega
      have hmj : m < j := by omega
      have hmG : m < G.length := by omega
      obtain ⟨b, off, rfl, hP, hc⟩ := h (by omega)
      obtain ⟨eo, ec, c0, c1, c2, c3⟩ := hc m hmG
      have hbb := lt_cell c0
      have d0 := (hb.cell (p := ⟨b, off + m * 3, none⟩) hbb).trans c0
      have d1 := (hb.cell (p := ⟨b, off + m * 3 + 1, none⟩) hbb).trans c1
      have d2 := (hb.cell (p := ⟨b, off + m * 3 + 2, none⟩) hbb).trans c2
      have HG : Hid ((ids G)[m]'(by rw [ids_len]; exact hmG) = G[m].id) := ids_get G m hmG
      generalize G[m] = y at d0 d1 d2 HG
      have hdv : ((i : Int) + (j : Int)) / 2 = m := by omega
      have hF := fun w => find1_any y.id y.val x eo y.es.length ec w
      clear c0 c1 c2 c3 hc hm
      by_cases hy : y.id < x
      · rw [show cmpI y.id x = -1 from if_pos hy] at hF
        go_wp2_with (go_at_call 189; refine (hF _).mono ?_; rintro r w1 ⟨rfl, hb1⟩)
        go_roundw
        case rel => exact ⟨m + 1, j, by omega, by omega, by go_num, rfl, below_step HR.out (by rw [ids_len]; exact hmG) HG.out hy, H2, hb.trans (hb1.mono hb.size)⟩
        case measure => simp [intOf]; omega
      · obtain ⟨c, hcc, hc0⟩ : ∃ c, cmpI y.id x = c ∧ ¬ c < 0 := ⟨_, rfl, by unfold cmpI; rw [if_neg hy]; split <;> omega⟩
        rw [hcc] at hF
        clear hcc
        go_wp2_with (go_at_call 189; refine (hF _).mono ?_; rintro r w1 ⟨rfl, hb1⟩)
        go_roundw
        case rel => exact ⟨i, m, by omega, by omega, rfl, rfl, H1, above_step HR.out (by rw [ids_len]; exact hmG) HG.out (by omega), hb.trans (hb1.mono hb.size)⟩
        case measure => simp [intOf]; omega
    · obtain rfl : i = j := by omega
      have HF : Hid (findN (ids G) x = i) := findN_eq (by rw [ids_len]; exact hj) H1.out (fun q hq hqi => by have := H2.out q hq hqi; omega)
      by_cases hin : i < G.length
      · obtain ⟨b, off, rfl, hP, hc⟩ := h (by omega)
        obtain ⟨eo, ec, c0, c1, c2, c3⟩ := hc i hin
        have hbb := lt_cell c0
        have d0 := (hb.cell (p := ⟨b, off + i * 3, none⟩) hbb).trans c0
        have d1 := (hb.cell (p := ⟨b, off + i * 3 + 1, none⟩) hbb).trans c1
        have d2 := (hb.cell (p := ⟨b, off + i * 3 + 2, none⟩) hbb).trans c2
        have HG : Hid ((ids G)[i]'(by rw [ids_len]; exact hin) = G[i].id) := ids_get G i hin
        have HX : Hid (¬ G[i].id < x) := by
          show ¬ _
          rw [← HG.out]
          have := H2.out i (by rw [ids_len]; exact hin) (Nat.le_refl _)
          omega
        have HB : Hid (foundB (ids G) x = (cmpI G[i].id x == 0)) := by
          show _ = _
          unfold foundB
          rw [HF.out, List.getElem?_eq_getElem (by rw [ids_len]; exact hin), HG.out]
          exact found_cmp HX.out
        generalize G[i] = y at d0 d1 d2 HG HX HB
        have hF := fun w => find1_any y.id y.val x eo y.es.length ec w
        clear c0 c1 c2 c3 hc
        generalize cmpI y.id x = c at hF HB
        go_wp2_with (go_at_call 189; refine (hF _).mono ?_; rintro r w1 ⟨rfl, hb1⟩)
        go_ret2
        exact ⟨by rw [HF.out, HB.out]; rfl, hb.trans (hb1.mono hb.size)⟩
      · have HB : Hid (foundB (ids G) x = false) := by
          show _ = _
          unfold foundB
          rw [HF.out, List.getElem?_eq_none (by rw [ids_len]; omega)]; rfl
        go_wp2
        go_ret2
        exact ⟨by rw [HF.out, HB.out]; rfl, hb⟩
theorem find_any {w : World} {P : Nat → Prop} {ao : Option Addr} {G : List Vx} (cap : Nat) (x : Int) (h : VxAt w P ao G) (hl : G.length ≤ 256) (hr : Rise (ids G)) :
    Calls Tryz.prog 149 #[.agg #[.slice ao G.length cap], .int .i64 x] w fun r w' => r = .returned (.tuple #[.int .i64 (findN (ids G) x), .bool (foundB (ids G) x)]) ∧ Below w.heap.size w w' := by
  have hB := fun o => bsearch_any (w := w.alloc o) cap x (h.new ((Below.refl _ _).alloc (Nat.le_refl _) _)) hl hr
  clear h hr
  go_enter Tryz.func149, Tryz.ntmps149
  go_wp2_with (go_at_call 188; refine (hB _).mono ?_; rintro r w1 ⟨rfl, hb1⟩)
  go_ret2
  exact ⟨rfl, ((Below.refl _ _).alloc (Nat.le_refl _) _).trans (hb1.mono (by simp))⟩
end Go.Proofs.YtnhijofnhflklaaGreat
end

section
/- What endsAreThere returns: whether all edges' ends are vertices, of vertices that rise. -/
namespace Go.Proofs.YtnhijofnhflklaaGreat
open Go.RowKit Go.Shelf
attribute [local go_sem] Oper.semAt_some

theorem edges_fn {w : World} (ao : Option Addr) (n cap : Nat) :
    Calls Tryz.prog 148 #[.agg #[.slice ao n cap]] w fun r w' => r = .returned (.func (.func 187) #[] #[.pointer (some ⟨w.heap.size, 0, none⟩)]) ∧ w' = w.alloc (.cells #[.slice ao n cap] 24) := by
  have hmf : ∀ (fn : Fn) (first cap : Array Value) (w : World), (Instr.makeFunc fn first cap).run Tryz.prog w = .ok (.func fn first cap) w := fun _ _ _ _ => rfl
  go_enter Tryz.func148, Tryz.ntmps148
  go_wp2
  go_ret
  exact ⟨rfl, rfl⟩
theorem thereE_iff {G : List Vx} (hr : Rise (ids G)) : thereE G = true ↔ ∀ x ∈ evs G, foundB (ids G) x.2.t = true := by
  unfold thereE evs
  simp only [List.all_eq_true, List.mem_flatMap, List.mem_map]
  constructor
  · rintro h x ⟨v, hv, e, he, rfl⟩
    rw [foundB_iff hr]
    exact h v hv e he
  · intro h v hv e he
    rw [← foundB_iff hr]
    exact h (v.id, e) ⟨v, hv, e, he, rfl⟩
theorem box2 {W : World} {b : Nat} {t : TypeId} {u0 u1 : Value} (h : W.heap[b]? = some (.cells #[u0, u1] t (0, 0))) : W.cell? ⟨b, 0, none⟩ = some u0 ∧ W.cell? ⟨b, 1, none⟩ = some u1 := by
  simp [World.cell?, h]
theorem blk_own (B : Nat) (o : Obj) (ho : o.isCells = true) : Own (fun (_ : Unit) W => W.heap[B]? = some o) := by
  intro _ X Y row hv hg hrow
  refine (hg.block B (Array.getElem?_eq_some_iff.1 hv).1 (fun e' => ?_)).trans hv
  obtain ⟨o', ho', hc⟩ := hrow B e'.symm
  rw [hv] at ho'; cases ho'; rw [ho] at hc; cases hc
theorem boxed_keep {A B : World} {row : Option Nat} {k : Nat} {t : TypeId} {v : Value} (h : Boxed A k t v) (hg : A.grownBy B row) (hr : ∀ r, row = some r → ∃ o : Obj, A.heap[r]? = some o ∧ o.isCells = false) : Boxed B k t v :=
  boxed_own k t (fun (_ : Unit) => v) () A B row h hg hr

set_option maxRecDepth 100000 in
set_option maxHeartbeats 4000000 in
theorem there_any {w : World} {ao : Option Addr} {G : List Vx} (cap : Nat) (h : VxAt w (fun k => k < w.heap.size) ao G) (hl : G.length ≤ 256) (hr : Rise (ids G)) (hok : ∀ v ∈ G, v.ok) :
    Calls Tryz.prog 98 #[.agg #[.slice ao G.length cap]] w fun r w' => r = .returned (.bool (thereE G)) ∧ Below w.heap.size w w' := by
  refine (callsIn_wide (n := 5)).1 ?_
  refine callsIn_of_wp_marks Tryz.func98 rfl trivial ?_ rfl
  simp only [Tryz.ntmps98, List.size_toArray, List.length_cons, List.length_nil, Nat.reduceAdd, Nat.reduceSub, Array.replicate_succ, Array.replicate_zero, List.push_toArray, List.append_toArray, List.nil_append, List.cons_append]
  gi_wp2_with (refine ⟨trivial, ?_⟩; gi_at_call 148; refine (callsIn_wide.2 (edges_fn _ _ _)).mono ?_; rintro r w1 ⟨rfl, rfl⟩)
  have bG0 := Boxed.new w 24 (.slice ao G.length cap)
  have bR0 := Boxed.new (w.alloc (.cells #[.slice ao G.length cap] 24)) 4 (.bool false)
  have bE0 := Boxed.new ((w.alloc (.cells #[.slice ao G.length cap] 24)).alloc (.cells #[.bool false] 4)) 24 (.slice ao G.length cap)
  simp only [World.size_alloc] at bR0 bE0
  have hB0 : Below w.heap.size w (((w.alloc (.cells #[.slice ao G.length cap] 24)).alloc (.cells #[.bool false] 4)).alloc (.cells #[.slice ao G.length cap] 24)) := (((Below.refl _ w).alloc (Nat.le_refl _) _).alloc (by simp) _).alloc (by simp; omega) _
  have bG1 := (bG0.alloc (.cells #[.bool false] 4)).alloc (.cells #[.slice ao G.length cap] 24)
  have bR1 := bR0.alloc (.cells #[.slice ao G.length cap] 24)
  have hsz : (((w.alloc (.cells #[.slice ao G.length cap] 24)).alloc (.cells #[.bool false] 4)).alloc (.cells #[.slice ao G.length cap] 24)).heap.size = w.heap.size + 3 := by simp
  obtain ⟨W0, hW0⟩ : ∃ W0, (((w.alloc (.cells #[.slice ao G.length cap] 24)).alloc (.cells #[.bool false] 4)).alloc (.cells #[.slice ao G.length cap] 24)) = W0 := ⟨_, rfl⟩
  rw [hW0] at hB0 bG1 bR1 bE0 hsz ⊢
  clear bG0 bR0
  refine wpIn_rangeFunc_ownH rfl (by decide) (gf := 187) (lb := #[.pointer (some ⟨w.heap.size + 1 + 1, 0, none⟩)]) rfl trivial (enters_of Tryz.func187 (by kernel_rfl) rfl)
    (edges_stops Fence.wide 4 trivial rfl (by decide) (w.heap.size + 1 + 1) w.heap.size ao cap G (Nat.le_trans hl (by decide)) hok W0 (by omega) (by omega) bE0.cell (h.below hB0 (fun _ _ h => h))) Kc.trans (Kc.put (by omega)) (Below.refl _ _) (fun _ => rfl)
    (fun pre W => (Boxed W w.heap.size 24 (.slice ao G.length cap) ∧ Boxed W (w.heap.size + 1) 4 (.bool false) ∧ (∀ x ∈ pre, foundB (ids G) x.2.t = true)) ∧ Below w.heap.size w W)
    (fun c pre W => (c = .ret ∧ (∃ x ∈ pre, foundB (ids G) x.2.t = false) ∧ Boxed W (w.heap.size + 1) 4 (.bool false)) ∧ Below w.heap.size w W)
    (OwnFrom.and (Own.from (fun s A B row hs hg hr => ⟨boxed_keep hs.1 hg hr, boxed_keep hs.2.1 hg hr, hs.2.2⟩) _) (ownFrom_below (Nat.le_refl _) (by omega)))
    (fun c => OwnFrom.and (Own.from (fun s A B row hs hg hr => ⟨hs.1, hs.2.1, boxed_keep hs.2.2 hg hr⟩) _) (ownFrom_below (Nat.le_refl _) (by omega)))
    ⟨⟨bG1, bR1, by simp⟩, hB0⟩
    (fun x a' W => ∃ Bx, w.heap.size + 1 < Bx ∧ W.heap[Bx]? = some (.cells #[.int .i64 x.2.t, .int .i64 x.2.w] 106 (0, 0)) ∧ a' = { tmps := #[.agg #[.slice ao G.length cap], .pointer (some ⟨w.heap.size, 0, none⟩), .pointer (some ⟨w.heap.size + 1, 0, none⟩), undef, .pointer (some ⟨Bx, 0, none⟩), undef, undef, .agg #[.slice ao G.length cap], .func (.func 187) #[] #[.pointer (some ⟨w.heap.size + 1 + 1, 0, none⟩)], .int .i64 x.1, .agg #[.int .i64 x.2.t, .int .i64 x.2.w], undef, undef, undef, undef, undef, undef, undef, undef, undef], defers := [] })
    (fun x a' _ A B row hs hg hr => by
      obtain ⟨Bx, h1, h2, h3⟩ := hs
      exact ⟨Bx, h1, blk_own Bx _ rfl () A B row h2 hg (fun r e => (hr r e).2), h3⟩) ?assign ?body ?done ?stop
  case assign =>
    rintro l pre x W K ⟨⟨bG, bR, hall⟩, hB⟩ hK
    dsimp only [encE]
    gi_wp2
    exact hK _ _ ((KeepsOthers.alloc _ _).from _) (Kc.ofNew ((Below.refl _ _).alloc (Nat.le_refl _) _) hB.size) ⟨⟨bG.alloc _, bR.alloc _, hall⟩, hB.alloc hB.size _⟩ ⟨W.heap.size, bR.lt, heap_alloc_new _ _, rfl⟩
  case body =>
    rintro l pre x a' W hl0 ⟨r, hr0⟩ ⟨⟨bG, bR, hall⟩, hB⟩ ⟨Bx, hBx, bX, rfl⟩ _
    obtain ⟨q0, q1⟩ := box2 bX
    have g0 := bG.cell
    have hF := find_any cap x.2.t (h.below hB (fun _ _ h => h)) hl hr
    have bR' := fun w1 (hb : Below W.heap.size W w1) => (show Boxed w1 _ _ _ from (hb.block _ bR.lt).trans bR)
    have bG' := fun w1 (hb : Below W.heap.size W w1) => (show Boxed w1 _ _ _ from (hb.block _ bG.lt).trans bG)
    have HB : Hid _ := bR'
    have HG : Hid _ := bG'
    clear bR' bG'
    cases hf : foundB (ids G) x.2.t with
    | false =>
      rw [hf] at hF
      gi_wp2_with (refine ⟨trivial, ?_⟩; gi_at_call 149; refine (CallsIn.inRound l (callsIn_wide.2 hF)).mono ?_; rintro r w1 ⟨rfl, hb1⟩; have c1 := (HB.out w1 hb1).cell; have f1 := (HB.out w1 hb1).frozen)
      have ko : KeepsOthers W w1 := ⟨hb1.size, fun k o hk _ => (hb1.block k (Array.getElem?_eq_some_iff.1 hk).1).trans hk⟩
      have hb2 : Below w.heap.size w w1 := hB.trans (hb1.mono hB.size)
      exact ⟨(ko.trans (KeepsOthers.setCell _ _ _)).from _, ⟨rfl, ⟨x, by simp, hf⟩, (HB.out w1 hb1).set _⟩, hb2.setCell (p := ⟨w.heap.size + 1, 0, none⟩) (by simp) _⟩
    | true =>
      rw [hf] at hF
      gi_wp2_with (refine ⟨trivial, ?_⟩; gi_at_call 149; refine (CallsIn.inRound l (callsIn_wide.2 hF)).mono ?_; rintro r w1 ⟨rfl, hb1⟩; have c1 := (HB.out w1 hb1).cell; have f1 := (HB.out w1 hb1).frozen)
      have ko : KeepsOthers W w1 := ⟨hb1.size, fun k o hk _ => (hb1.block k (Array.getElem?_eq_some_iff.1 hk).1).trans hk⟩
      have hb2 : Below w.heap.size w w1 := hB.trans (hb1.mono hB.size)
      refine ⟨ko.from _, Kc.ofNew hb1 hB.size, ⟨HG.out w1 hb1, HB.out w1 hb1, fun z hz => ?_⟩, hb2⟩
      rcases List.mem_append.1 hz with hz | hz
      · exact hall z hz
      · obtain rfl : z = x := by simpa using hz
        exact hf
  case done =>
    rintro D ys W hD rfl ⟨⟨bG, bR, hall⟩, hB⟩ hK
    have cR := bR.cell
    have fR := bR.frozen
    gi_wp2
    have hK' := (KeepsOthers.setCell W ⟨w.heap.size + 1, 0, none⟩ (.bool true)).same D _ hK rfl
    refine ⟨by simp, .inl ⟨_, _, rfl, run_takeDeferred hK', ?_⟩⟩
    have hc5 := cell_kept (World.cell?_setCell_same' W ⟨w.heap.size + 1, 0, none⟩ (.bool true) (by rw [cR]; rfl)) (grownBy_putObj' _ D (.deferred none)) (fun r e => by cases e; exact ⟨_, hK', rfl⟩)
    refine ⟨.bool true, ?_, by rw [(thereE_iff hr).2 hall], (hB.setCell (p := ⟨w.heap.size + 1, 0, none⟩) (by simp) _).trans (belowK_b (w := w) (Nat.le_refl _) _ D _ _ (by omega) hK' rfl rfl)⟩
    simp [results, Tryz.results98, go_sem, hc5]
  case stop =>
    rintro D c pre W hD hpre ⟨⟨rfl, ⟨x, hx, hf⟩, bR⟩, hB⟩ hK
    gi_wp2
    refine ⟨by simp, .inl ⟨_, _, rfl, run_takeDeferred hK, ?_⟩⟩
    have hc5 := cell_kept bR.cell (grownBy_putObj' _ D (.deferred none)) (fun r e => by cases e; exact ⟨_, hK, rfl⟩)
    have ht : thereE G = false := by
      rw [Bool.eq_false_iff]
      intro ht
      have := (thereE_iff hr).1 ht x (hpre.subset hx)
      rw [hf] at this
      cases this
    refine ⟨.bool false, ?_, by rw [ht], hB.trans (belowK_b (w := w) (Nat.le_refl _) W D _ _ (by omega) hK rfl rfl)⟩
    simp [results, Tryz.results98, go_sem, hc5]
end Go.Proofs.YtnhijofnhflklaaGreat
end

section
/- What rising returns of edges, and endsRise of a graph. -/
namespace Go.Proofs.YtnhijofnhflklaaGreat
open Go.RowKit

set_option maxRecDepth 100000 in
set_option maxHeartbeats 4000000 in
theorem rising_e {w : World} {P : Nat → Prop} {ao : Option Addr} {L : List Ed} (cap : Nat) (h : EdAt w P ao L) (hl : L.length ≤ 9223372036854775807) :
    Calls Tryz.prog 146 #[.slice ao L.length cap, .func (.func 147) #[] #[]] w fun r w' => r = .returned (.bool (riseB (ends L))) ∧ Below w.heap.size w w' := by
  go_enter Tryz.func146, Tryz.ntmps146
  go_wp2
  go_loopw [5] (fun i wr => ∃ (k : Nat), 1 ≤ k ∧ k ≤ max L.length 1 ∧ i = .int .i64 k ∧ Hid (∀ j (h : j + 1 < (ends L).length), j + 1 < k → (ends L)[j] < (ends L)[j + 1]) ∧ Below w.heap.size w wr) (fun i _ => L.length - (intOf i).toNat)
  case atStart => exact ⟨1, Nat.le_refl _, by omega, rfl, fun j _ hj => absurd hj (by omega), Below.refl _ _⟩
  case round =>
    obtain ⟨k, hk1, hk, rfl, HR, hb⟩ := hrel
    by_cases hlt : k < L.length
    · obtain ⟨b, off, rfl, hP, hc⟩ := h (by omega)
      obtain ⟨m, HK⟩ : ∃ m, Hid (k = m + 1) := ⟨k - 1, (by omega : k = k - 1 + 1)⟩
      have hmk : k = m + 1 := HK.out
      have hm0 : m < L.length := by omega
      obtain ⟨c0, c1⟩ := hc m hm0
      obtain ⟨f0, f1⟩ := hc k hlt
      have hbb := lt_cell c0
      have hbw : b < wr.heap.size := Nat.lt_of_lt_of_le hbb hb.size
      have d0 := (hb.cell (p := ⟨b, off + m * 2, none⟩) hbb).trans c0
      have d1 := (hb.cell (p := ⟨b, off + m * 2 + 1, none⟩) hbb).trans c1
      have g0 := (hb.cell (p := ⟨b, off + k * 2, none⟩) hbb).trans f0
      have g1 := (hb.cell (p := ⟨b, off + k * 2 + 1, none⟩) hbb).trans f1
      have HM : Hid ((ends L)[m]'(by rw [ends_len]; omega) = L[m].t) := ends_get L m hm0
      have HN : Hid ((ends L)[k]'(by rw [ends_len]; omega) = L[k].t) := ends_get L k hlt
      have hm1 : IntKind.i64.wrap ((k : Int) - 1) = m := by rw [IntKind.wrap_i64]; omega
      have hm2 : wrap64 ((k : Int) - 1) = m := by unfold wrap64; omega
      clear c0 c1 f0 f1 hc hmk
      generalize L[m] = y at d0 d1 HM
      generalize L[k] = z at g0 g1 HN
      go_wp2
      go_region_with (go_at_call 147; refine (edgeend_any _ _ _).mono ?_; rintro r w1 ⟨rfl, hb1⟩; first | (have hbA := hb.trans ((below_c hb1).mono hb.size); have e0 := (hb1.cell (p := ⟨b, off + k * 2, none⟩) hbw).trans g0; have e1 := (hb1.cell (p := ⟨b, off + k * 2 + 1, none⟩) hbw).trans g1) | (have hbB := hbA.trans (hb1.mono hbA.size)))
      all_goals
        by_cases hr : z.t ≤ y.t
        · go_wp2
          go_ret
          exact ⟨by rw [rise_at HK.out (by rw [ends_len]; exact hlt) HM.out HN.out hr]; rfl, hbB⟩
        · go_wp2
          go_roundw
          case rel => exact ⟨k + 1, by omega, by omega, by go_num, rise_step HK.out (by rw [ends_len]; exact hlt) HM.out HN.out (by omega) HR.out, hbB⟩
          case measure => simp [intOf]; omega
    · go_wp2
      go_ret
      exact ⟨by rw [(riseB_iff _).2 (fun j hj => HR.out j hj (by rw [ends_len] at hj; omega))]; rfl, hb⟩
theorem risesE_at {G : List Vx} {k : Nat} (h : k < G.length) (hr : riseB (ends G[k].es) = false) : risesE G = false := by
  unfold risesE
  rw [Bool.eq_false_iff]
  intro ha
  rw [List.all_eq_true] at ha
  have := ha _ (List.getElem_mem h)
  rw [hr] at this
  cases this
theorem risesE_all {G : List Vx} (H : ∀ j (h : j < G.length), riseB (ends G[j].es) = true) : risesE G = true := by
  unfold risesE
  rw [List.all_eq_true]
  intro v hv
  obtain ⟨j, hj, rfl⟩ := List.getElem_of_mem hv
  exact H j hj

set_option maxRecDepth 100000 in
set_option maxHeartbeats 4000000 in
theorem endsrise_any {w : World} {P : Nat → Prop} {ao : Option Addr} {G : List Vx} (cap : Nat) (h : VxAt w P ao G) (hl : G.length ≤ 9223372036854775807) (hok : ∀ v ∈ G, v.ok) :
    Calls Tryz.prog 97 #[.agg #[.slice ao G.length cap]] w fun r w' => r = .returned (.bool (risesE G)) ∧ Below w.heap.size w w' := by
  go_enter Tryz.func97, Tryz.ntmps97
  go_wp2
  go_loopw [4, 8] (fun _ i wr => ∃ (k : Nat), k ≤ G.length ∧ i = .int .i64 k ∧ Hid (∀ j (h : j < G.length), j < k → riseB (ends G[j].es) = true) ∧ Below w.heap.size w wr) (fun _ i _ => G.length - (intOf i).toNat)
  case atStart => exact ⟨0, Nat.zero_le _, rfl, fun j _ hj => absurd hj (by omega), (Below.refl _ _).alloc (Nat.le_refl _) _⟩
  case round =>
    obtain ⟨k, hk, rfl, HR, hb⟩ := hrel
    by_cases hlt : k < G.length
    · obtain ⟨b, off, rfl, hP, hc⟩ := h (by omega)
      obtain ⟨eo, ec, c0, c1, c2, c3⟩ := hc k hlt
      have hbb := lt_cell c0
      have d0 := (hb.cell (p := ⟨b, off + k * 3, none⟩) hbb).trans c0
      have d1 := (hb.cell (p := ⟨b, off + k * 3 + 1, none⟩) hbb).trans c1
      have d2 := (hb.cell (p := ⟨b, off + k * 3 + 2, none⟩) hbb).trans c2
      have d3 := c3.new hb
      have HG : Hid (∀ y, G[k] = y → riseB (ends y.es) = false → risesE G = false) := fun y e hr => risesE_at hlt (by rw [e]; exact hr)
      have HS : Hid (∀ y, G[k] = y → riseB (ends y.es) = true → ∀ j (h : j < G.length), j < k + 1 → riseB (ends G[j].es) = true) := fun y e hr j hj hjk => by
        by_cases ej : j = k
        · subst ej; rw [e]; exact hr
        · exact HR.out j hj (by omega)
      have hlen : G[k].es.length ≤ 9223372036854775807 := Nat.le_trans (hok _ (List.getElem_mem hlt)).len (by decide)
      have HE : Hid (∃ y, G[k] = y) := ⟨_, rfl⟩
      clear c0 c1 c2 c3 hc
      obtain ⟨y, hy⟩ := HE.out
      have HY : Hid (G[k] = y) := hy
      rw [hy] at d0 d1 d2 d3 hlen
      clear hy
      have hR := fun o => rising_e (w := wr.alloc o) ec (d3.new ((Below.refl _ _).alloc (Nat.le_refl _) _)) hlen
      cases hrb : riseB (ends y.es) with
      | false =>
        rw [hrb] at hR
        go_wp2_with (go_at_call 146; refine (hR _).mono ?_; rintro r w1 ⟨rfl, hb1⟩)
        go_ret
        exact ⟨by rw [HG.out y HY.out hrb]; rfl, (hb.alloc hb.size _).trans (hb1.mono (by have := hb.size; simp; omega))⟩
      | true =>
        rw [hrb] at hR
        go_wp2_with (go_at_call 146; refine (hR _).mono ?_; rintro r w1 ⟨rfl, hb1⟩)
        go_roundw
        case rel => exact ⟨k + 1, by omega, by go_num, HS.out y HY.out hrb, (hb.alloc hb.size _).trans (hb1.mono (by have := hb.size; simp; omega))⟩
        case measure => simp [intOf]; omega
    · go_wp2
      go_ret
      exact ⟨by rw [risesE_all (fun j hj => HR.out j hj (by omega))]; rfl, hb⟩
end Go.Proofs.YtnhijofnhflklaaGreat
end

section
/- What Check returns. -/
namespace Go.Proofs.YtnhijofnhflklaaGreat
open Go.RowKit
theorem wlt {w : World} {P : Nat → Prop} {ao : Option Addr} {G : List Vx} (h : VxAt w P ao G) : VxAt w (fun k => k < w.heap.size) ao G := h.mono (fun _ hk _ => hk)
theorem one_new (w : World) (o : Obj) : Below w.heap.size w (w.alloc o) := (Below.refl _ _).alloc (Nat.le_refl _) _
theorem alloc_then {w w1 : World} {o : Obj} (h : Below (w.alloc o).heap.size (w.alloc o) w1) : Below w.heap.size w w1 := (one_new w o).trans (h.mono (by simp))

set_option maxRecDepth 100000 in
set_option maxHeartbeats 2000000 in
theorem check_any {w : World} {P : Nat → Prop} {ao : Option Addr} {G : List Vx} (cap : Nat) (h : VxAt w P ao G) (hl : G.length ≤ 9223372036854775807) (hok : ∀ v ∈ G, v.ok) :
    Calls Tryz.prog 47 #[.agg #[.slice ao G.length cap]] w fun r w' => r = .returned (.int .i64 (chk G)) ∧ Below w.heap.size w w' := by
  have hN := fun o => (wlt h).new (one_new w o)
  by_cases hlen : 256 < G.length
  · have HC : Hid (chk G = 30) := if_pos (Or.inl hlen)
    go_enter Tryz.func47, Tryz.ntmps47
    go_wp2
    go_ret
    exact ⟨by rw [HC.out]; rfl, one_new _ _⟩
  · have hR := fun o => rising_v cap (hN o) hl
    cases hrb : riseB (ids G) with
    | false =>
      have HC : Hid (chk G = 30) := if_pos (Or.inr hrb)
      rw [hrb] at hR
      go_enter Tryz.func47, Tryz.ntmps47
      go_wp2_with (go_at_call 94; refine (hR _).mono ?_; rintro r w1 ⟨rfl, hb1⟩)
      go_ret
      exact ⟨by rw [HC.out]; rfl, alloc_then hb1⟩
    | true =>
      rw [hrb] at hR
      have hrise := (riseB_iff _).1 hrb
      have H1 : Hid (∀ o w1, Below (w.alloc o).heap.size (w.alloc o) w1 → VxAt w1 (fun k => k < w.heap.size) ao G) := fun o w1 hb => ((hN o).new hb)
      have HC : Hid (chk G = if 2048 < sumE G ∨ risesE G = false ∨ thereE G = false then 31 else 0) := if_neg (by rw [hrb]; simp; omega)
      have HR : Hid (Rise (ids G)) := hrise
      have HO : Hid (∀ v ∈ G, v.ok) := hok
      clear hrise hok
      by_cases hs : 2048 < sumE G
      · go_enter Tryz.func47, Tryz.ntmps47
        go_wp2_with (first
          | (go_at_call 94; refine (hR _).mono ?_; rintro r w1 ⟨rfl, hb1⟩; have c1 := (hb1.cell (p := ⟨w.heap.size, 0, none⟩) (by simp)))
          | (go_at_call 96; refine (edges_any cap (H1.out _ _ hb1) hl).mono ?_; rintro r w2 ⟨rfl, hb2⟩))
        go_ret
        exact ⟨by rw [HC.out, if_pos (Or.inl hs)]; rfl, (alloc_then hb1).trans (hb2.mono (alloc_then hb1).size)⟩
      · have hE := fun w1 (v : VxAt w1 (fun k => k < w.heap.size) ao G) => endsrise_any cap v hl HO.out
        cases he : risesE G with
        | false =>
          simp only [he] at hE
          go_enter Tryz.func47, Tryz.ntmps47
          go_wp2_with (first
            | (go_at_call 94; refine (hR _).mono ?_; rintro r w1 ⟨rfl, hb1⟩; have c1 := (hb1.cell (p := ⟨w.heap.size, 0, none⟩) (by simp)); have z1 : w.heap.size < w1.heap.size := by have := hb1.size; simp at this; omega)
            | (go_at_call 96; refine (edges_any cap (H1.out _ _ hb1) hl).mono ?_; rintro r w2 ⟨rfl, hb2⟩; have c2 := (hb2.cell (p := ⟨w.heap.size, 0, none⟩) z1); have z2 : w.heap.size < w2.heap.size := Nat.lt_of_lt_of_le z1 hb2.size; have v2 := (H1.out _ _ hb1).new hb2)
            | (go_at_call 97; refine (hE _ v2).mono ?_; rintro r w3 ⟨rfl, hb3⟩; have c3 := (hb3.cell (p := ⟨w.heap.size, 0, none⟩) z2); have v3 := v2.new hb3))
          go_ret
          exact ⟨by rw [HC.out, if_pos (Or.inr (Or.inl he))]; rfl, ((alloc_then hb1).trans (hb2.mono (alloc_then hb1).size)).trans (hb3.mono (by have := z2; omega))⟩
        | true =>
          simp only [he] at hE
          have hT := fun w1 (v : VxAt w1 (fun k => k < w.heap.size) ao G) => there_any cap (wlt v) (by omega) HR.out HO.out
          cases ht : thereE G with
          | false =>
            simp only [ht] at hT
            go_enter Tryz.func47, Tryz.ntmps47
            go_wp2_with (first
              | (go_at_call 94; refine (hR _).mono ?_; rintro r w1 ⟨rfl, hb1⟩; have c1 := (hb1.cell (p := ⟨w.heap.size, 0, none⟩) (by simp)); have z1 : w.heap.size < w1.heap.size := by have := hb1.size; simp at this; omega)
              | (go_at_call 96; refine (edges_any cap (H1.out _ _ hb1) hl).mono ?_; rintro r w2 ⟨rfl, hb2⟩; have c2 := (hb2.cell (p := ⟨w.heap.size, 0, none⟩) z1); have z2 : w.heap.size < w2.heap.size := Nat.lt_of_lt_of_le z1 hb2.size; have v2 := (H1.out _ _ hb1).new hb2)
              | (go_at_call 97; refine (hE _ v2).mono ?_; rintro r w3 ⟨rfl, hb3⟩; have c3 := (hb3.cell (p := ⟨w.heap.size, 0, none⟩) z2); have v3 := v2.new hb3)
              | (go_at_call 98; refine (hT _ v3).mono ?_; rintro r w4 ⟨rfl, hb4⟩))
            go_ret
            exact ⟨by rw [HC.out, if_pos (Or.inr (Or.inr ht))]; rfl, (((alloc_then hb1).trans (hb2.mono (alloc_then hb1).size)).trans (hb3.mono (by have := z2; omega))).trans (hb4.mono (by have := hb3.size; omega))⟩
          | true =>
            simp only [ht] at hT
            go_enter Tryz.func47, Tryz.ntmps47
            go_wp2_with (first
              | (go_at_call 94; refine (hR _).mono ?_; rintro r w1 ⟨rfl, hb1⟩; have c1 := (hb1.cell (p := ⟨w.heap.size, 0, none⟩) (by simp)); have z1 : w.heap.size < w1.heap.size := by have := hb1.size; simp at this; omega)
              | (go_at_call 96; refine (edges_any cap (H1.out _ _ hb1) hl).mono ?_; rintro r w2 ⟨rfl, hb2⟩; have c2 := (hb2.cell (p := ⟨w.heap.size, 0, none⟩) z1); have z2 : w.heap.size < w2.heap.size := Nat.lt_of_lt_of_le z1 hb2.size; have v2 := (H1.out _ _ hb1).new hb2)
              | (go_at_call 97; refine (hE _ v2).mono ?_; rintro r w3 ⟨rfl, hb3⟩; have c3 := (hb3.cell (p := ⟨w.heap.size, 0, none⟩) z2); have v3 := v2.new hb3)
              | (go_at_call 98; refine (hT _ v3).mono ?_; rintro r w4 ⟨rfl, hb4⟩))
            go_ret
            exact ⟨by rw [HC.out, if_neg (by rw [he, ht]; simp; omega)]; rfl, (((alloc_then hb1).trans (hb2.mono (alloc_then hb1).size)).trans (hb3.mono (by have := z2; omega))).trans (hb4.mono (by have := hb3.size; omega))⟩
end Go.Proofs.YtnhijofnhflklaaGreat
end

section
/- What TakeVertex takes off a reader. -/
namespace Go.Proofs.YtnhijofnhflklaaGreat
open Go.RowKit
theorem own_kept {w w' : World} {base : Nat} {e : TypeId} {size : Nat} {v : Value} {n : Nat} {xs : List Value} {S : Nat → Prop} (h : w.ownsRow base e size v n xs) (f : Fr w w' S) (hS : ∀ k, v.ownBlock = some k → ¬ S k) : w'.ownsRow base e size v n xs := by
  refine ⟨h.1, ?_⟩
  rcases h.2 with hn | ⟨g, cap, cur, rfl, hb, hgg, rest⟩
  · exact Or.inl hn
  · exact Or.inr ⟨g, cap, cur, rfl, hb, (f.block g (lt_of_block hgg) (hS g rfl)).trans hgg, rest⟩
/-- Edges, as cells. -/
def ecs (L : List Ed) : List Value := L.flatMap fun e => [.int .i64 e.t, .int .i64 e.w]
theorem ecs_snoc (L : List Ed) (e : Ed) : ecs (L ++ [e]) = ecs L ++ [.int .i64 e.t, .int .i64 e.w] := by simp [ecs]
theorem ecs_at : ∀ (L : List Ed) (j : Nat) (h : j < L.length), (ecs L)[j * 2]? = some (.int .i64 L[j].t) ∧ (ecs L)[j * 2 + 1]? = some (.int .i64 L[j].w)
  | [], j, h => absurd h (by simp)
  | e :: L, 0, _ => ⟨rfl, rfl⟩
  | e :: L, j + 1, h => by
    have := ecs_at L j (by simpa using h)
    rw [show (j + 1) * 2 = j * 2 + 1 + 1 by omega]
    exact this
/-- A row of edges of the call's own. -/
theorem own_eds {w : World} {base : Nat} {t : TypeId} {ao : Option Addr} {n c : Nat} {L : List Ed} (h : w.ownsRow base t 2 (.slice ao n c) L.length (ecs L)) : n = L.length ∧ EdAt w (fun k => base ≤ k ∧ (Value.slice ao n c).ownBlock = some k) ao L := by
  rcases h.2 with ⟨h1, h2⟩ | ⟨g, cap, cur, h1, hb, hg, hn, hc, hcs, ht⟩
  · cases h1
    exact ⟨h2.symm, fun hl => by omega⟩
  · cases h1
    refine ⟨rfl, fun hl => ⟨g, 0, rfl, ⟨hb, rfl⟩, fun j hj => ?_⟩⟩
    have hcell : ∀ i (u : Value), (ecs L)[i]? = some u → w.cell? ⟨g, i, none⟩ = some u := fun i u hu => by
      have := h.cells (g := g) rfl i u hu
      have hadd : (⟨g, 0, none⟩ : Addr).add i = ⟨g, i, none⟩ := by unfold Addr.add; split <;> simp_all
      rw [hadd] at this
      exact this
    have := ecs_at L j hj
    rw [Nat.zero_add]
    exact ⟨hcell _ _ this.1, hcell _ _ this.2⟩
theorem infoEdge : (Tryz.prog.info? 106).map (fun i => (i.zero, i.size, i.bytes)) = some (some (.agg #[.int .i64 0, .int .i64 0]), 2, 16) := by kernel_rfl
theorem set3_2 {w : World} {b : Nat} {t : TypeId} {u0 u1 u2 : Value} (h : w.heap[b]? = some (.cells #[u0, u1, u2] t (0, 0))) (u : Value) : (w.setCell ⟨b, 2, none⟩ u).heap[b]? = some (.cells #[u0, u1, u] t (0, 0)) := by
  have hlt := lt_of_block h
  have h' : w.heap[b] = .cells #[u0, u1, u2] t (0, 0) := by simpa [Array.getElem?_eq_getElem hlt] using h
  show (w.heap.modify b _)[b]? = _
  rw [Array.getElem?_eq_getElem (by simpa using hlt), Array.getElem_modify_self, h']
  rfl
theorem froz {w : World} {b o : Nat} {t : TypeId} {c : Array Value} (h : w.heap[b]? = some (.cells c t (0, 0))) : w.frozen? ⟨b, o, none⟩ = false := by simp [World.frozen?, h]
/-- Between two edges: the reader, the vertex's box, the result's box, the edges so far. -/
structure TV (w wr : World) (p bv : Nat) (s : ByteArray) (i v : Int) (sv : Value) (L : List Ed) (a : Nat) (e : Int) : Prop where
  rd : Rd wr p s a e
  fr : Fr w wr (fun k => k = p)
  vb : wr.heap[bv]? = some (.cells #[.int .i64 i, .int .i64 v, sv] 82 (0, 0))
  rb : wr.heap[w.heap.size]? = some (.cells #[.int .i64 0, .int .i64 0, .slice none 0 0] 82 (0, 0))
  own : wr.ownsRow (bv + 1) 106 2 sv L.length (ecs L)
  lt : w.heap.size < bv
  hp : p < w.heap.size
section
variable {w wr : World} {p bv : Nat} {s : ByteArray} {i v : Int} {sv : Value} {L : List Ed} {a : Nat} {e : Int}
theorem TV.step (h : TV w wr p bv s i v sv L a e) {w1 : World} {a' : Nat} {e' : Int} (f : Fr wr w1 (fun k => k = p)) (hr : Rd w1 p s a' e') : TV w w1 p bv s i v sv L a' e' := by
  have h1 := h.lt
  have h2 := h.hp
  exact ⟨hr, h.fr.trans f (fun _ _ h => h), (f.block bv (lt_of_block h.vb) (by omega)).trans h.vb, (f.block _ (lt_of_block h.rb) (by omega)).trans h.rb, own_kept h.own f (fun k hk => by have := (h.own.lt k hk).1; omega), h.lt, h.hp⟩
theorem TV.al (h : TV w wr p bv s i v sv L a e) (o : Obj) : TV w (wr.alloc o) p bv s i v sv L a e := h.step (Fr.alloc wr o _) (h.rd.kept (Fr.alloc wr o (fun _ => False)) (fun h => h))
theorem TV.app (h : TV w wr p bv s i v sv L a e) {w1 : World} {sv' : Value} {x y : Int} (ho : w1.ownsRow (bv + 1) 106 2 sv' (L.length + 1) (ecs L ++ [.int .i64 x, .int .i64 y])) (hg : wr.grownBy w1 sv.ownBlock) : TV w (w1.setCell ⟨bv, 2, none⟩ sv') p bv s i v sv' (L ++ [⟨x, y⟩]) a e := by
  have h1 := h.lt
  have h2 := h.hp
  have f1 : Fr wr w1 (fun k => sv.ownBlock = some k) := Fr.grown hg (fun k hk => hk)
  have f2 : Fr w1 (w1.setCell ⟨bv, 2, none⟩ sv') (fun k => k = bv) := Fr.setCell (S := fun k => k = bv) w1 ⟨bv, 2, none⟩ sv' rfl
  have f : Fr wr (w1.setCell ⟨bv, 2, none⟩ sv') (fun k => bv ≤ k) := (f1.mono (T := fun k => bv ≤ k) (fun k _ hk => by have := (h.own.lt k hk).1; omega)).trans f2 (fun k _ hk => Nat.le_of_eq hk.symm)
  have hvb := (f1.block bv (lt_of_block h.vb) (fun hk => by have := (h.own.lt _ hk).1; omega)).trans h.vb
  refine ⟨h.rd.kept f (by omega), h.fr.trans f (fun k hk hb => by omega), set3_2 hvb _, (f.block _ (lt_of_block h.rb) (by omega)).trans h.rb, ?_, h.lt, h.hp⟩
  rw [ecs_snoc, List.length_append]
  exact ownsRow_setCell_other ho (fun e => Nat.lt_irrefl bv (ho.lt bv e).1) _
theorem TV.res (h : TV w wr p bv s i v sv L a e) : wr.cell? ⟨w.heap.size, 0, none⟩ = some (.int .i64 0) ∧ wr.cell? ⟨w.heap.size, 1, none⟩ = some (.int .i64 0) ∧ wr.cell? ⟨w.heap.size, 2, none⟩ = some (.slice none 0 0) ∧ wr.frozen? ⟨w.heap.size, 0, none⟩ = false ∧ wr.frozen? ⟨w.heap.size, 1, none⟩ = false ∧ wr.frozen? ⟨w.heap.size, 2, none⟩ = false := by
  obtain ⟨h0, h1, h2⟩ := box3 h.rb
  exact ⟨h0, h1, h2, froz h.rb, froz h.rb, froz h.rb⟩
theorem TV.done {ao : Option Addr} {n c : Nat} (h : TV w wr p bv s i v (.slice ao n c) L a e) (u0 u1 u2 : Value) : n = L.length ∧ EdAt (((wr.setCell ⟨w.heap.size, 0, none⟩ u0).setCell ⟨w.heap.size, 1, none⟩ u1).setCell ⟨w.heap.size, 2, none⟩ u2) (fun k => w.heap.size ≤ k) ao L ∧
    Rd (((wr.setCell ⟨w.heap.size, 0, none⟩ u0).setCell ⟨w.heap.size, 1, none⟩ u1).setCell ⟨w.heap.size, 2, none⟩ u2) p s a e ∧ Fr w (((wr.setCell ⟨w.heap.size, 0, none⟩ u0).setCell ⟨w.heap.size, 1, none⟩ u1).setCell ⟨w.heap.size, 2, none⟩ u2) (fun k => k = p) := by
  have h1 := h.lt
  have h2 := h.hp
  have f : Fr wr (((wr.setCell ⟨w.heap.size, 0, none⟩ u0).setCell ⟨w.heap.size, 1, none⟩ u1).setCell ⟨w.heap.size, 2, none⟩ u2) (fun k => k = w.heap.size) :=
    ((Fr.setCell (S := fun k => k = w.heap.size) wr ⟨w.heap.size, 0, none⟩ u0 rfl).trans (Fr.setCell (S := fun k => k = w.heap.size) _ ⟨w.heap.size, 1, none⟩ u1 rfl) (fun _ _ h => h)).trans (Fr.setCell (S := fun k => k = w.heap.size) _ ⟨w.heap.size, 2, none⟩ u2 rfl) (fun _ _ h => h)
  obtain ⟨hn, he⟩ := own_eds h.own
  exact ⟨hn, he.kept f (fun k _ hk => ⟨by omega, by omega⟩), h.rd.kept f (by omega), h.fr.trans f (fun k hk hb => by omega)⟩
end

end Go.Proofs.YtnhijofnhflklaaGreat
end
