import Derived.RangeFuncNested
import Derived.RangeFuncBound
import Derived.RangeFuncCalls
import Derived.RangeFuncLeaves
import Derived.Shelf.Abstract
import Derived.Shelf.RegionOpen
import Derived.OwnWalkIn
import Derived.TacticsInMore
import Derived.LoopNIn
import Derived.LoopIn
import Derived.Test.YtidghoipmggklaaGreatGrDataM
import Derived.Test.YtidghoipmggklaaGreatProg
import Derived.WalkKit
/- The iterator over a graph's edges: every edge, vertex by vertex, each with where it begins, up to where a round says no more. -/
namespace Go.Proofs.YtidghoipmggklaaGreat
open Go.RowKit Go.Shelf
attribute [local go_sem] Oper.semAt_some

/-- What a round keeps: all below n₀, and all cells from n₁ on. -/
structure Kc (n₀ n₁ : Nat) (W W' : World) : Prop where
  low : Below n₀ W W'
  cells : ∀ k, n₁ ≤ k → ∀ c t f, W.heap[k]? = some (.cells c t f) → W'.heap[k]? = some (.cells c t f)
theorem Kc.refl (n₀ n₁ : Nat) (W : World) : Kc n₀ n₁ W W := ⟨Below.refl _ _, fun _ _ _ _ _ h => h⟩
theorem Kc.trans {n₀ n₁ : Nat} {A B C : World} (h : Kc n₀ n₁ A B) (k : Kc n₀ n₁ B C) : Kc n₀ n₁ A C := ⟨h.low.trans k.low, fun i hi c t f hc => k.cells i hi c t f (h.cells i hi c t f hc)⟩
theorem Kc.put {n₀ n₁ : Nat} {w : World} (hn : n₀ ≤ w.heap.size) (W : World) (l : Nat) (o o' : Obj) (hl : w.heap.size ≤ l) (h : W.heap[l]? = some o) (h1 : o.isCells = false) (h2 : o.isWalk = false) : Kc n₀ n₁ W (W.putObj l o') :=
  ⟨belowK_b hn W l o o' hl h h1 h2, fun k _ _ _ _ hc => by
    have hne : k ≠ l := fun e => by subst e; rw [hc] at h; cases h; simp [Obj.isCells] at h1
    exact (World.putObj_heap_other hne).trans hc⟩
theorem Kc.ofNew {n₀ n₁ : Nat} {W W' : World} (h : Below W.heap.size W W') (hn : n₀ ≤ W.heap.size) : Kc n₀ n₁ W W' := ⟨h.mono hn, fun k _ _ _ _ hc => (h.block k (Array.getElem?_eq_some_iff.1 hc).1).trans hc⟩

/-- All edges, vertex by vertex. -/
def evs (G : List Vx) : List (Int × Ed) := G.flatMap fun v => v.es.map fun e => (v.id, e)
theorem evs_snoc (G : List Vx) (k : Nat) (h : k < G.length) : evs (G.take (k + 1)) = evs (G.take k) ++ G[k].es.map fun e => (G[k].id, e) := by
  unfold evs
  rw [List.take_succ_eq_append_getElem h, List.flatMap_append]; simp
theorem evs_pre (G : List Vx) (k : Nat) : evs (G.take k) <+: evs G := by
  unfold evs
  conv => rhs; rw [← List.take_append_drop k G]
  rw [List.flatMap_append]; exact List.prefix_append _ _
theorem evs_in (G : List Vx) (k : Nat) (h : k < G.length) (j : Nat) : evs (G.take k) ++ (G[k].es.take j).map (fun e => (G[k].id, e)) <+: evs G := by
  refine List.IsPrefix.trans ?_ (evs_pre G (k + 1))
  rw [evs_snoc G k h]
  refine (List.prefix_append_right_inj _).2 ?_
  conv => rhs; rw [← List.take_append_drop j G[k].es, List.map_append]
  exact List.prefix_append _ _
theorem take_snoc_map {L : List Ed} {j : Nat} (h : j < L.length) (x : Int) : (L.take (j + 1)).map (fun e => (x, e)) = (L.take j).map (fun e => (x, e)) ++ [(x, L[j])] := by
  rw [List.take_succ_eq_append_getElem h, List.map_append]; rfl
def encE (x : Int × Ed) : Array Value := #[.int .i64 x.1, .agg #[.int .i64 x.2.t, .int .i64 x.2.w]]
theorem box3 {W : World} {b : Nat} {t : TypeId} {u0 u1 u2 : Value} (h : W.heap[b]? = some (.cells #[u0, u1, u2] t (0, 0))) : W.cell? ⟨b, 0, none⟩ = some u0 ∧ W.cell? ⟨b, 1, none⟩ = some u1 ∧ W.cell? ⟨b, 2, none⟩ = some u2 := by
  simp [World.cell?, h]

set_option maxRecDepth 100000 in
set_option maxHeartbeats 4000000 in
theorem edges1_in (F : Fence) (n : Nat) (hF : F.fn 238) (hro : F.round = none) (hn : 1 ≤ n) (l Bs n₀ n₁ : Nat) (ao : Option Addr) (cap : Nat) (G : List Vx) (hlG : G.length ≤ 9223372036854775807) (hok : ∀ v ∈ G, v.ok) (J Jx : List (Int × Ed) → World → Prop)
    (W : World) (hJ : AbidesFrom W.heap.size J) (hn0 : n₀ ≤ W.heap.size) (hn1 : n₁ ≤ W.heap.size)
    (hY : ∀ pre x W1, J pre W1 → pre.length < (evs G).length → YieldAt F (n - 1) Tryz.prog l (encE x) W1 fun e W' =>
      (e = .returned (.bool true) ∧ J (pre ++ [x]) W' ∧ Kc n₀ n₁ W1 W') ∨ (e = .returned (.bool false) ∧ Jx (pre ++ [x]) W'))
    (hBs : W.cell? ⟨Bs, 0, none⟩ = some (.slice ao G.length cap)) (hG : VxAt W (fun k => k < n₀) ao G) (h0 : J [] W) :
    CallsIn F n Tryz.prog 238 #[.func (.yield l) #[] #[], .pointer (some ⟨Bs, 0, none⟩)] W fun e W' => (∃ v, e = .returned v) ∧
      ((∃ ys, ys = evs G ∧ J ys W') ∨ (∃ pre, pre <+: evs G ∧ Jx pre W')) := by
  refine callsIn_of_wp Tryz.func238 rfl hF ?_ hro
  simp only [Tryz.ntmps238, List.size_toArray, List.length_cons, List.length_nil, Nat.reduceAdd, Nat.reduceSub, Array.replicate_succ, Array.replicate_zero, List.push_toArray, List.append_toArray, List.nil_append, List.cons_append]
  gi_wp2
  gi_loopw [4, 6, 10] (fun _ _ i wr => ∃ k : Nat, k ≤ G.length ∧ i = .int .i64 k ∧ J (evs (G.take k)) wr ∧ Below n₀ W wr) (fun _ _ i _ => G.length - (intOf i).toNat)
  case atStart => exact ⟨0, Nat.zero_le _, rfl, h0, Below.refl _ _⟩
  case round =>
    obtain ⟨k, hk, rfl, hJs, hnx⟩ := hrel
    by_cases hlt : k < G.length
    · obtain ⟨b, off, rfl, hP, hc⟩ := hG (by omega)
      obtain ⟨eo, ec, c0, c1, c2, c3⟩ := hc k hlt
      have d0 := (hnx.cell (p := ⟨b, off + k * 3, none⟩) hP).trans c0
      have d1 := (hnx.cell (p := ⟨b, off + k * 3 + 1, none⟩) hP).trans c1
      have d2 := (hnx.cell (p := ⟨b, off + k * 3 + 2, none⟩) hP).trans c2
      have HI : Hid (∀ j, evs (G.take k) ++ (G[k].es.take j).map (fun e => (G[k].id, e)) <+: evs G) := evs_in G k hlt
      have HS : Hid (evs (G.take (k + 1)) = evs (G.take k) ++ G[k].es.map fun e => (G[k].id, e)) := evs_snoc G k hlt
      have hlen : G[k].es.length ≤ 9223372036854775807 := Nat.le_trans (hok _ (List.getElem_mem hlt)).len (by decide)
      generalize G[k] = y at d0 d1 d2 c3 HI HS hlen
      clear c0 c1 c2 hc
      obtain ⟨wo, rfl⟩ : ∃ wo, wo = wr := ⟨_, rfl⟩
      have hv1 : n₁ ≤ wo.heap.size := Nat.le_trans hn1 hnx.size
      obtain ⟨bv, hbv⟩ : ∃ bv, wo.heap.size = bv := ⟨_, rfl⟩
      rw [hbv] at hv1
      gi_wp2
      gi_loopw [6, 17] (fun _ i wx => ∃ j : Nat, j ≤ y.es.length ∧ i = .int .i64 j ∧ J (evs (G.take k) ++ (y.es.take j).map (fun e => (y.id, e))) wx ∧ Below n₀ W wx ∧ wx.heap[bv]? = some (.cells #[.int .i64 y.id, .int .i64 y.val, .slice eo y.es.length ec] 114 (0, 0))) (fun _ i _ => y.es.length - (intOf i).toNat)
      case atStart =>
        refine ⟨0, Nat.zero_le _, rfl, ?_, hnx.alloc (Nat.le_trans hn0 hnx.size) _, by rw [← hbv]; exact heap_alloc_new _ _⟩
        simp only [List.take_zero, List.map_nil, List.append_nil]
        exact hJ _ _ _ none hJs (World.grownBy_alloc _ _ none) (fun r e => by cases e)
      case round =>
        obtain ⟨j, hj, rfl, hJj, hnj, hbx⟩ := hrel
        by_cases hjl : j < y.es.length
        · obtain ⟨eb, eoff, rfl, hPe, hce⟩ := c3 (by omega)
          obtain ⟨e0, e1⟩ := hce j hjl
          have f0 := (hnj.cell (p := ⟨eb, eoff + j * 2, none⟩) hPe).trans e0
          have f1 := (hnj.cell (p := ⟨eb, eoff + j * 2 + 1, none⟩) hPe).trans e1
          obtain ⟨q0, q1, q2⟩ := box3 hbx
          have hbl := lt_cell q0
          have HT : Hid (∀ x, (y.es.take (j + 1)).map (fun e => (x, e)) = (y.es.take j).map (fun e => (x, e)) ++ [(x, y.es[j])]) := take_snoc_map hjl
          generalize y.es[j] = z at f0 f1 HT
          have hJ2 : ∀ o, J (evs (G.take k) ++ (y.es.take j).map (fun e => (y.id, e))) (wr.alloc o) := fun o => hJ _ _ _ none hJj (World.grownBy_alloc _ _ none) (fun r e => by cases e)
          have hpl : (evs (G.take k) ++ (y.es.take j).map (fun e => (y.id, e))).length < (evs G).length := by
            have h1 := (HI.out (j + 1)).length_le
            rw [HT.out, ← List.append_assoc, List.length_append] at h1
            simp only [List.length_cons, List.length_nil] at h1
            omega
          obtain ⟨fn, tmps, assign, body, hy, hR⟩ := hY _ (y.id, z) (wr.alloc (.cells #[.int .i64 z.t, .int .i64 z.w] 111)) (hJ2 _) hpl
          dsimp only [encE] at hy
          gi_wp2
          refine hR.mono ?_
          rintro e W3 (⟨rfl, hJ3, hk3⟩ | ⟨rfl, hJx3⟩)
          · have hb3 := hk3.cells bv hv1 _ _ _ ((Below.heap_alloc wr _ bv hbl).trans hbx)
            have hnl : Below n₀ W W3 := (hnj.alloc (Nat.le_trans hn0 hnj.size) _).trans hk3.low
            gi_wp2
            go_roundw
            case rel => exact ⟨j + 1, by omega, by go_num, by rw [HT.out, ← List.append_assoc]; exact hJ3, hnl, hb3⟩
            case measure => simp [intOf]; omega
          · gi_wp2
            refine bodyPost_ret (results_none rfl _ _ _) rfl ?_
            exact ⟨⟨_, rfl⟩, .inr ⟨_, by have := HI.out (j + 1); rw [HT.out, ← List.append_assoc] at this; exact this, hJx3⟩⟩
        · obtain rfl : j = y.es.length := by omega
          gi_wp2
          go_roundw
          case rel => exact ⟨k + 1, by omega, by go_num, by rw [HS.out]; simpa using hJj, hnj⟩
          case measure => simp [intOf]; omega
    · obtain rfl : k = G.length := by omega
      gi_wp2
      go_end0
      rw [List.take_length] at hJs
      exact ⟨⟨_, rfl⟩, .inl ⟨_, rfl, hJs⟩⟩
theorem edges_stops (F : Fence) (n : Nat) (hF : F.fn 238) (hro : F.round = none) (hn : 1 ≤ n) (Bs n₀ : Nat) (ao : Option Addr) (cap : Nat) (G : List Vx) (hlG : G.length ≤ 9223372036854775807) (hok : ∀ v ∈ G, v.ok) (w : World) (hB : Bs < w.heap.size) (hn0 : n₀ ≤ w.heap.size)
    (hc : w.cell? ⟨Bs, 0, none⟩ = some (.slice ao G.length cap)) (hG : VxAt w (fun k => k < n₀) ao G) :
    SeqStopsK F n Tryz.prog 238 #[.pointer (some ⟨Bs, 0, none⟩)] encE (Kc n₀ w.heap.size) (fun ys => ys = evs G) (fun pre => pre <+: evs G) (evs G).length w := fun l J Jx W hW hJ _ hY h0 =>
  edges1_in F n hF hro hn l Bs n₀ w.heap.size ao cap G hlG hok J Jx W hJ (Nat.le_trans hn0 hW.size) hW.size hY ((hW.cell (p := ⟨Bs, 0, none⟩) hB).trans hc) (hG.below hW (fun _ hk _ => hk)) h0
end Go.Proofs.YtidghoipmggklaaGreat
