import Derived.Test.YthkfbaoeimjgaaaGreatGrIterM
import Derived.Test.YthkfbaoeimjgaaaGreatGrFind2M
/- What endsAreThere returns: whether all edges' ends are vertices, of vertices that rise. -/
namespace Go.Proofs.YthkfbaoeimjgaaaGreat
open Go.RowKit Go.Shelf
attribute [local go_sem] Oper.semAt_some

theorem edges_fn {w : World} (ao : Option Addr) (n cap : Nat) :
    Calls Tryz.prog 194 #[.agg #[.slice ao n cap]] w fun r w' => r = .returned (.func (.func 238) #[] #[.pointer (some ⟨w.heap.size, 0, none⟩)]) ∧ w' = w.alloc (.cells #[.slice ao n cap] 24) := by
  have hmf : ∀ (fn : Fn) (first cap : Array Value) (w : World), (Instr.makeFunc fn first cap).run Tryz.prog w = .ok (.func fn first cap) w := fun _ _ _ _ => rfl
  go_enter Tryz.func194, Tryz.ntmps194
  go_wp2
  go_ret
  exact ⟨rfl, rfl⟩
theorem thereE_iff {G : List Vx} (hr : Rise (ids G)) : thereE G = true ↔ ∀ x ∈ evs G, foundB (ids G) x.2.t = true := by
  unfold thereE evs
  simp only [List.all_eq_true, List.mem_flatMap, List.mem_map]
  constructor
  · rintro h x ⟨v, hv, e, he, rfl⟩
    rw [foundB_iff hr]
    exact h v hv e he
  · intro h v hv e he
    rw [← foundB_iff hr]
    exact h (v.id, e) ⟨v, hv, e, he, rfl⟩
theorem box2 {W : World} {b : Nat} {t : TypeId} {u0 u1 : Value} (h : W.heap[b]? = some (.cells #[u0, u1] t (0, 0))) : W.cell? ⟨b, 0, none⟩ = some u0 ∧ W.cell? ⟨b, 1, none⟩ = some u1 := by
  simp [World.cell?, h]
theorem blk_own (B : Nat) (o : Obj) (ho : o.isCells = true) : Own (fun (_ : Unit) W => W.heap[B]? = some o) := by
  intro _ X Y row hv hg hrow
  refine (hg.block B (Array.getElem?_eq_some_iff.1 hv).1 (fun e' => ?_)).trans hv
  obtain ⟨o', ho', hc⟩ := hrow B e'.symm
  rw [hv] at ho'; cases ho'; rw [ho] at hc; cases hc
theorem boxed_keep {A B : World} {row : Option Nat} {k : Nat} {t : TypeId} {v : Value} (h : Boxed A k t v) (hg : A.grownBy B row) (hr : ∀ r, row = some r → ∃ o : Obj, A.heap[r]? = some o ∧ o.isCells = false) : Boxed B k t v :=
  boxed_own k t (fun (_ : Unit) => v) () A B row h hg hr

set_option maxRecDepth 100000 in
set_option maxHeartbeats 4000000 in
theorem there_any {w : World} {ao : Option Addr} {G : List Vx} (cap : Nat) (h : VxAt w (fun k => k < w.heap.size) ao G) (hl : G.length ≤ 256) (hr : Rise (ids G)) (hok : ∀ v ∈ G, v.ok) :
    Calls Tryz.prog 153 #[.agg #[.slice ao G.length cap]] w fun r w' => r = .returned (.bool (thereE G)) ∧ Below w.heap.size w w' := by
  refine (callsIn_wide (n := 5)).1 ?_
  refine callsIn_of_wp_marks Tryz.func153 rfl trivial ?_ rfl
  simp only [Tryz.ntmps153, List.size_toArray, List.length_cons, List.length_nil, Nat.reduceAdd, Nat.reduceSub, Array.replicate_succ, Array.replicate_zero, List.push_toArray, List.append_toArray, List.nil_append, List.cons_append]
  gi_wp2_with (refine ⟨trivial, ?_⟩; gi_at_call 194; refine (callsIn_wide.2 (edges_fn _ _ _)).mono ?_; rintro r w1 ⟨rfl, rfl⟩)
  have bG0 := Boxed.new w 24 (.slice ao G.length cap)
  have bR0 := Boxed.new (w.alloc (.cells #[.slice ao G.length cap] 24)) 4 (.bool false)
  have bE0 := Boxed.new ((w.alloc (.cells #[.slice ao G.length cap] 24)).alloc (.cells #[.bool false] 4)) 24 (.slice ao G.length cap)
  simp only [World.size_alloc] at bR0 bE0
  have hB0 : Below w.heap.size w (((w.alloc (.cells #[.slice ao G.length cap] 24)).alloc (.cells #[.bool false] 4)).alloc (.cells #[.slice ao G.length cap] 24)) := (((Below.refl _ w).alloc (Nat.le_refl _) _).alloc (by simp) _).alloc (by simp; omega) _
  have bG1 := (bG0.alloc (.cells #[.bool false] 4)).alloc (.cells #[.slice ao G.length cap] 24)
  have bR1 := bR0.alloc (.cells #[.slice ao G.length cap] 24)
  have hsz : (((w.alloc (.cells #[.slice ao G.length cap] 24)).alloc (.cells #[.bool false] 4)).alloc (.cells #[.slice ao G.length cap] 24)).heap.size = w.heap.size + 3 := by simp
  obtain ⟨W0, hW0⟩ : ∃ W0, (((w.alloc (.cells #[.slice ao G.length cap] 24)).alloc (.cells #[.bool false] 4)).alloc (.cells #[.slice ao G.length cap] 24)) = W0 := ⟨_, rfl⟩
  rw [hW0] at hB0 bG1 bR1 bE0 hsz ⊢
  clear bG0 bR0
  refine wpIn_rangeFunc_ownH rfl (by decide) (gf := 238) (lb := #[.pointer (some ⟨w.heap.size + 1 + 1, 0, none⟩)]) rfl trivial (enters_of Tryz.func238 (by kernel_rfl) rfl)
    (edges_stops Fence.wide 4 trivial rfl (by decide) (w.heap.size + 1 + 1) w.heap.size ao cap G (Nat.le_trans hl (by decide)) hok W0 (by omega) (by omega) bE0.cell (h.below hB0 (fun _ _ h => h))) Kc.trans (Kc.put (by omega)) (Below.refl _ _) (fun _ => rfl)
    (fun pre W => (Boxed W w.heap.size 24 (.slice ao G.length cap) ∧ Boxed W (w.heap.size + 1) 4 (.bool false) ∧ (∀ x ∈ pre, foundB (ids G) x.2.t = true)) ∧ Below w.heap.size w W)
    (fun c pre W => (c = .ret ∧ (∃ x ∈ pre, foundB (ids G) x.2.t = false) ∧ Boxed W (w.heap.size + 1) 4 (.bool false)) ∧ Below w.heap.size w W)
    (OwnFrom.and (Own.from (fun s A B row hs hg hr => ⟨boxed_keep hs.1 hg hr, boxed_keep hs.2.1 hg hr, hs.2.2⟩) _) (ownFrom_below (Nat.le_refl _) (by omega)))
    (fun c => OwnFrom.and (Own.from (fun s A B row hs hg hr => ⟨hs.1, hs.2.1, boxed_keep hs.2.2 hg hr⟩) _) (ownFrom_below (Nat.le_refl _) (by omega)))
    ⟨⟨bG1, bR1, by simp⟩, hB0⟩
    (fun x a' W => ∃ Bx, w.heap.size + 1 < Bx ∧ W.heap[Bx]? = some (.cells #[.int .i64 x.2.t, .int .i64 x.2.w] 111 (0, 0)) ∧ a' = { tmps := #[.agg #[.slice ao G.length cap], .pointer (some ⟨w.heap.size, 0, none⟩), .pointer (some ⟨w.heap.size + 1, 0, none⟩), undef, .pointer (some ⟨Bx, 0, none⟩), undef, undef, .agg #[.slice ao G.length cap], .func (.func 238) #[] #[.pointer (some ⟨w.heap.size + 1 + 1, 0, none⟩)], .int .i64 x.1, .agg #[.int .i64 x.2.t, .int .i64 x.2.w], undef, undef, undef, undef, undef, undef, undef, undef, undef], defers := [] })
    (fun x a' _ A B row hs hg hr => by
      obtain ⟨Bx, h1, h2, h3⟩ := hs
      exact ⟨Bx, h1, blk_own Bx _ rfl () A B row h2 hg (fun r e => (hr r e).2), h3⟩) ?assign ?body ?done ?stop
  case assign =>
    rintro l pre x W K ⟨⟨bG, bR, hall⟩, hB⟩ hK
    dsimp only [encE]
    gi_wp2
    exact hK _ _ ((KeepsOthers.alloc _ _).from _) (Kc.ofNew ((Below.refl _ _).alloc (Nat.le_refl _) _) hB.size) ⟨⟨bG.alloc _, bR.alloc _, hall⟩, hB.alloc hB.size _⟩ ⟨W.heap.size, bR.lt, heap_alloc_new _ _, rfl⟩
  case body =>
    rintro l pre x a' W hl0 ⟨r, hr0⟩ ⟨⟨bG, bR, hall⟩, hB⟩ ⟨Bx, hBx, bX, rfl⟩ _
    obtain ⟨q0, q1⟩ := box2 bX
    have g0 := bG.cell
    have hF := find_any cap x.2.t (h.below hB (fun _ _ h => h)) hl hr
    have bR' := fun w1 (hb : Below W.heap.size W w1) => (show Boxed w1 _ _ _ from (hb.block _ bR.lt).trans bR)
    have bG' := fun w1 (hb : Below W.heap.size W w1) => (show Boxed w1 _ _ _ from (hb.block _ bG.lt).trans bG)
    have HB : Hid _ := bR'
    have HG : Hid _ := bG'
    clear bR' bG'
    cases hf : foundB (ids G) x.2.t with
    | false =>
      rw [hf] at hF
      gi_wp2_with (refine ⟨trivial, ?_⟩; gi_at_call 195; refine (CallsIn.inRound l (callsIn_wide.2 hF)).mono ?_; rintro r w1 ⟨rfl, hb1⟩; have c1 := (HB.out w1 hb1).cell; have f1 := (HB.out w1 hb1).frozen)
      have ko : KeepsOthers W w1 := ⟨hb1.size, fun k o hk _ => (hb1.block k (Array.getElem?_eq_some_iff.1 hk).1).trans hk⟩
      have hb2 : Below w.heap.size w w1 := hB.trans (hb1.mono hB.size)
      exact ⟨(ko.trans (KeepsOthers.setCell _ _ _)).from _, ⟨rfl, ⟨x, by simp, hf⟩, (HB.out w1 hb1).set _⟩, hb2.setCell (p := ⟨w.heap.size + 1, 0, none⟩) (by simp) _⟩
    | true =>
      rw [hf] at hF
      gi_wp2_with (refine ⟨trivial, ?_⟩; gi_at_call 195; refine (CallsIn.inRound l (callsIn_wide.2 hF)).mono ?_; rintro r w1 ⟨rfl, hb1⟩; have c1 := (HB.out w1 hb1).cell; have f1 := (HB.out w1 hb1).frozen)
      have ko : KeepsOthers W w1 := ⟨hb1.size, fun k o hk _ => (hb1.block k (Array.getElem?_eq_some_iff.1 hk).1).trans hk⟩
      have hb2 : Below w.heap.size w w1 := hB.trans (hb1.mono hB.size)
      refine ⟨ko.from _, Kc.ofNew hb1 hB.size, ⟨HG.out w1 hb1, HB.out w1 hb1, fun z hz => ?_⟩, hb2⟩
      rcases List.mem_append.1 hz with hz | hz
      · exact hall z hz
      · obtain rfl : z = x := by simpa using hz
        exact hf
  case done =>
    rintro D ys W hD rfl ⟨⟨bG, bR, hall⟩, hB⟩ hK
    have cR := bR.cell
    have fR := bR.frozen
    gi_wp2
    have hK' := (KeepsOthers.setCell W ⟨w.heap.size + 1, 0, none⟩ (.bool true)).same D _ hK rfl
    refine ⟨by simp, .inl ⟨_, _, rfl, run_takeDeferred hK', ?_⟩⟩
    have hc5 := cell_kept (World.cell?_setCell_same' W ⟨w.heap.size + 1, 0, none⟩ (.bool true) (by rw [cR]; rfl)) (grownBy_putObj' _ D (.deferred none)) (fun r e => by cases e; exact ⟨_, hK', rfl⟩)
    refine ⟨.bool true, ?_, by rw [(thereE_iff hr).2 hall], (hB.setCell (p := ⟨w.heap.size + 1, 0, none⟩) (by simp) _).trans (belowK_b (w := w) (Nat.le_refl _) _ D _ _ (by omega) hK' rfl rfl)⟩
    simp [results, Tryz.results153, go_sem, hc5]
  case stop =>
    rintro D c pre W hD hpre ⟨⟨rfl, ⟨x, hx, hf⟩, bR⟩, hB⟩ hK
    gi_wp2
    refine ⟨by simp, .inl ⟨_, _, rfl, run_takeDeferred hK, ?_⟩⟩
    have hc5 := cell_kept bR.cell (grownBy_putObj' _ D (.deferred none)) (fun r e => by cases e; exact ⟨_, hK, rfl⟩)
    have ht : thereE G = false := by
      rw [Bool.eq_false_iff]
      intro ht
      have := (thereE_iff hr).1 ht x (hpre.subset hx)
      rw [hf] at this
      cases this
    refine ⟨.bool false, ?_, by rw [ht], hB.trans (belowK_b (w := w) (Nat.le_refl _) W D _ _ (by omega) hK rfl rfl)⟩
    simp [results, Tryz.results153, go_sem, hc5]
end Go.Proofs.YthkfbaoeimjgaaaGreat
