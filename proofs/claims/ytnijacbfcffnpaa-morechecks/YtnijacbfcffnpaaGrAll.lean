/- graph.All: the iterator over a copy's edges. -/
import Derived.Test.YtnijacbfcffnpaaGrClone2
import Derived.Test.YtnijacbfcffnpaaGrThere
namespace Go.Proofs.Ytnijacbfcffnpaa
open Go.RowKit Go.Shelf
attribute [local go_sem] Oper.semAt_some
theorem ga_one (w : World) (o : Obj) : Below w.heap.size w (w.alloc o) := (Below.refl _ _).alloc (Nat.le_refl _) _
theorem ga_new {w w' : World} {P : Nat → Prop} {ao : Option Addr} {G : List Vx} (h : VxAt w P ao G) (hb : Below w.heap.size w w') : VxAt w' P ao G := h.kept (Fr.ofBelow hb (fun _ => False)) (fun _ _ hp => ⟨fun h => h, hp⟩)
theorem ga_cell {W : World} {b : Nat} {t : TypeId} {u : Value} (h : W.heap[b]? = some (.cells #[u] t (0, 0))) : W.cell? ⟨b, 0, none⟩ = some u := by simp [World.cell?, h]
theorem allG_fn {w : World} {P : Nat → Prop} {ao : Option Addr} (G : List Vx) (cap : Nat) (h : VxAt w P ao G) (hok : ∀ v ∈ G, v.ok) (hl : G.length * 40 ≤ 140737488355328) :
    Calls Try.prog 93 #[.agg #[.slice ao G.length cap]] w fun r w' => ∃ Bs fo c, r = .returned (.func (.func 126) #[] #[.pointer (some ⟨Bs, 0, none⟩)]) ∧ w'.cell? ⟨Bs, 0, none⟩ = some (.slice fo G.length c) ∧ VxAt w' (fun k => k < w'.heap.size) fo G ∧ Bs < w'.heap.size ∧ Below w.heap.size w w' := by
  have HG := ga_new h (ga_one w (.cells #[.slice ao G.length cap] 24))
  have HH : Hid _ := HG
  have HOk : Hid _ := hok
  clear h HG hok
  go_enter Try.func93, Try.ntmps93
  go_wp2_with (first
    | (go_at_call 125; refine (clone_any G cap HH.out HOk.out hl).mono ?_; rintro r w1 ⟨bo, c, rfl, hV, hb1⟩)
    | (go_at_call 99; refine (edges_fn _ _ _).mono ?_; rintro r w2 ⟨rfl, rfl⟩))
  go_ret
  have hs := hb1.size
  rw [World.size_alloc] at hs
  refine ⟨w1.heap.size, bo, c, rfl, ga_cell (heap_alloc_new _ _), ?_, by simp, ?_⟩
  · exact (ga_new hV (ga_one _ _)).kept (Fr.refl _ (fun _ => False)) (fun k hk hp => ⟨fun h => h, hk⟩)
  · exact ((ga_one w _).trans (hb1.mono (by rw [World.size_alloc]; omega))).alloc (by omega) _
/-- Is there an edge with a weight below 0? -/
def negE (G : List Vx) : Bool := (evs G).any fun x => decide (x.2.w < 0)
def noNeg (l : List (Int × Ed)) : Prop := ∀ x ∈ l, ¬ x.2.w < 0
def someNeg (l : List (Int × Ed)) : Prop := ∃ x ∈ l, x.2.w < 0
set_option maxRecDepth 100000 in
set_option maxHeartbeats 4000000 in
theorem below0_any {w : World} {P : Nat → Prop} {ao : Option Addr} {G : List Vx} (cap : Nat) (h : VxAt w P ao G) (hok : ∀ v ∈ G, v.ok) (hl : G.length ≤ 256) :
    Calls Try.prog 58 #[.agg #[.slice ao G.length cap]] w fun r w' => r = .returned (.bool (negE G)) ∧ Below w.heap.size w w' := by
  refine (callsIn_wide (n := 5)).1 ?_
  refine callsIn_of_wp_marks Try.func58 rfl trivial ?_ rfl
  simp only [Try.ntmps58, List.size_toArray, List.length_cons, List.length_nil, Nat.reduceAdd, Nat.reduceSub, Array.replicate_succ, Array.replicate_zero, List.push_toArray, List.append_toArray, List.nil_append, List.cons_append]
  obtain ⟨W1, hW1⟩ : ∃ W1, (w.alloc (.cells #[.slice ao G.length cap] 24)).alloc (.cells #[.bool false] 4) = W1 := ⟨_, rfl⟩
  have hB1 : Below w.heap.size w W1 := by rw [← hW1]; exact (ga_one _ _).trans ((ga_one _ _).mono (by simp))
  have hG1 : W1.cell? ⟨w.heap.size, 0, none⟩ = some (.slice ao G.length cap) := by
    rw [← hW1]
    exact ga_cell (((ga_one _ _).block _ (by simp)).trans (heap_alloc_new _ _))
  have bR0 : Boxed W1 (w.heap.size + 1) 4 (.bool false) := by
    rw [← hW1]
    have := Boxed.new (w.alloc (.cells #[.slice ao G.length cap] 24)) 4 (.bool false)
    rw [World.size_alloc] at this
    exact this
  have HV1 : Hid _ := ga_new h hB1
  gi_wp2_with (refine ⟨trivial, ?_⟩; gi_at_call 93; refine (callsIn_wide.2 (allG_fn G cap HV1.out hok (by omega))).mono ?_; rintro r w1 ⟨Bs, fo, c, rfl, hBs, hV2, hBl, hb1⟩)
  have bR1 : Boxed w1 (w.heap.size + 1) 4 (.bool false) := (hb1.block _ bR0.lt).trans bR0
  have hbw : Below w.heap.size w w1 := hB1.trans (hb1.mono hB1.size)
  have hsz1 : w.heap.size + 2 ≤ w1.heap.size := by have := hb1.size; have : W1.heap.size = w.heap.size + 2 := (by rw [← hW1]; simp); omega
  clear hW1 hG1 bR0 HV1 h hb1 hB1
  refine wpIn_rangeFunc_ownH rfl (by decide) (gf := 126) (lb := #[.pointer (some ⟨Bs, 0, none⟩)]) rfl trivial (enters_of Try.func126 (by kernel_rfl) rfl)
    (edges_stops Fence.wide 4 trivial rfl (by decide) Bs w1.heap.size fo c G (Nat.le_trans hl (by decide)) hok w1 hBl (Nat.le_refl _) hBs hV2) Kc.trans (Kc.put (Nat.le_refl _)) (Below.refl _ _) (fun _ => rfl)
    (fun pre W => (Boxed W (w.heap.size + 1) 4 (.bool false) ∧ noNeg pre) ∧ Below w1.heap.size w1 W)
    (fun c pre W => (c = .ret ∧ someNeg pre ∧ Boxed W (w.heap.size + 1) 4 (.bool true)) ∧ Below w.heap.size w W)
    (OwnFrom.and (Own.from (fun s A B row hs hg hr => ⟨boxed_keep hs.1 hg hr, hs.2⟩) _) (ownFrom_below (Nat.le_refl _) (Nat.le_refl _)))
    (fun c => OwnFrom.and (Own.from (fun s A B row hs hg hr => ⟨hs.1, hs.2.1, boxed_keep hs.2.2 hg hr⟩) _) (ownFrom_below (Nat.le_refl _) (by omega)))
    ⟨⟨bR1, (fun x hx => (by simp at hx))⟩, Below.refl _ _⟩
    (fun x a' W => ∃ Bx, w.heap.size + 1 < Bx ∧ W.heap[Bx]? = some (.cells #[.int .i64 x.2.t, .int .i64 x.2.w] 50 (0, 0)) ∧ a' = { tmps := #[.agg #[.slice ao G.length cap], .pointer (some ⟨w.heap.size, 0, none⟩), .pointer (some ⟨w.heap.size + 1, 0, none⟩), undef, .pointer (some ⟨Bx, 0, none⟩), .agg #[.slice ao G.length cap], .func (.func 126) #[] #[.pointer (some ⟨Bs, 0, none⟩)], .int .i64 x.1, .agg #[.int .i64 x.2.t, .int .i64 x.2.w], undef, undef, undef], defers := [] })
    (fun x a' _ A B row hs hg hr => by
      obtain ⟨Bx, h1, h2, h3⟩ := hs
      exact ⟨Bx, h1, blk_own Bx _ rfl () A B row h2 hg (fun r e => (hr r e).2), h3⟩) ?assign ?body ?done ?stop
  case assign =>
    rintro l pre x W K ⟨⟨bR, hall⟩, hB⟩ hK
    dsimp only [encE]
    gi_wp2
    exact hK _ _ ((KeepsOthers.alloc _ _).from _) (Kc.ofNew ((Below.refl _ _).alloc (Nat.le_refl _) _) hB.size) ⟨⟨bR.alloc _, hall⟩, hB.alloc hB.size _⟩ ⟨W.heap.size, bR.lt, heap_alloc_new _ _, rfl⟩
  case body =>
    rintro l pre x a' W hl0 ⟨r, hr0⟩ ⟨⟨bR, hall⟩, hB⟩ ⟨Bx, hBx, bX, rfl⟩ _
    obtain ⟨q0, q1⟩ := box2 bX
    have cR := bR.cell
    have fR := bR.frozen
    by_cases hx : x.2.w < 0
    · gi_wp2
      exact ⟨(KeepsOthers.setCell _ _ _).from _, ⟨rfl, ⟨x, by simp, hx⟩, bR.set _⟩, (hbw.trans (hB.mono hbw.size)).setCell (p := ⟨w.heap.size + 1, 0, none⟩) (by simp) _⟩
    · gi_wp2
      refine ⟨(KeepsOthers.refl _).from _, Kc.refl _ _ _, ⟨bR, fun z hz => ?_⟩, hB⟩
      rcases List.mem_append.1 hz with hz | hz
      · exact hall z hz
      · obtain rfl : z = x := by simpa using hz
        exact Int.not_lt.2 hx
  case done =>
    rintro D ys W hD rfl ⟨⟨bR, hall⟩, hB⟩ hK
    have cR := bR.cell
    have fR := bR.frozen
    gi_wp2
    have hK' := (KeepsOthers.setCell W ⟨w.heap.size + 1, 0, none⟩ (.bool false)).same D _ hK rfl
    refine ⟨by simp, .inl ⟨_, _, rfl, run_takeDeferred hK', ?_⟩⟩
    have hc5 := cell_kept (World.cell?_setCell_same' W ⟨w.heap.size + 1, 0, none⟩ (.bool false) (by rw [cR]; rfl)) (grownBy_putObj' _ D (.deferred none)) (fun r e => by cases e; exact ⟨_, hK', rfl⟩)
    have hN : negE G = false := by
      unfold negE
      rw [List.any_eq_false]
      intro x hx
      simpa using hall x hx
    have hBw := hbw.trans (hB.mono hbw.size)
    refine ⟨.bool false, ?_, by rw [hN], (hBw.setCell (p := ⟨w.heap.size + 1, 0, none⟩) (by simp) _).trans (belowK_b (w := w) (Nat.le_refl _) _ D _ _ (by omega) hK' rfl rfl)⟩
    simp [results, Try.results58, go_sem, hc5]
  case stop =>
    rintro D c pre W hD hpre ⟨⟨rfl, hex, bR⟩, hB⟩ hK
    obtain ⟨x, hx, hw⟩ := hex
    gi_wp2
    refine ⟨by simp, .inl ⟨_, _, rfl, run_takeDeferred hK, ?_⟩⟩
    have hc5 := cell_kept bR.cell (grownBy_putObj' _ D (.deferred none)) (fun r e => by cases e; exact ⟨_, hK, rfl⟩)
    have hN : negE G = true := by
      unfold negE
      rw [List.any_eq_true]
      exact ⟨x, hpre.subset hx, by simpa using hw⟩
    refine ⟨.bool true, ?_, by rw [hN], hB.trans (belowK_b (w := w) (Nat.le_refl _) W D _ _ (by omega) hK rfl rfl)⟩
    simp [results, Try.results58, go_sem, hc5]
end Go.Proofs.Ytnijacbfcffnpaa
