/- What awake returns: true. -/
import Derived.Test.YtfajkfngjfhkoaaGrRound
namespace Go.Proofs.Ytfajkfngjfhkoaa
open Go.RowKit
def G0 : List Vx := [⟨1, 0, [⟨2, 5⟩]⟩, ⟨2, 0, []⟩]
theorem G0_ok : ∀ v ∈ G0, v.ok := by
  intro v hv
  simp only [G0, List.mem_cons, List.not_mem_nil, or_false] at hv
  rcases hv with rfl | rfl
  · refine ⟨by unfold I64; decide, by unfold I64; decide, fun e he => ?_, by decide⟩
    simp only [List.mem_cons, List.not_mem_nil, or_false] at he
    subst he
    exact ⟨by unfold I64; decide, by unfold I64; decide⟩
  · exact ⟨by unfold I64; decide, by unfold I64; decide, fun e he => (by cases he), by decide⟩
theorem G0_chk : chk G0 = 0 := by decide +kernel
theorem G0_sum : sumE G0 = 1 := by decide +kernel
theorem awake_at (w : World) : VxAt (((w.alloc (.cells #[.int .i64 2, .int .i64 5] 45)).alloc (.cells #[.int .i64 1, .int .i64 0, .slice (some ⟨w.heap.size, 0, none⟩) 1 1, .int .i64 2, .int .i64 0, .slice none 0 0] 39)).alloc (.cells #[.slice (some ⟨w.heap.size + 1, 0, none⟩) 2 2] 24)) (fun _ => True) (some ⟨w.heap.size + 1, 0, none⟩) G0 := by
  have e1 : (((w.alloc (.cells #[.int .i64 2, .int .i64 5] 45)).alloc (.cells #[.int .i64 1, .int .i64 0, .slice (some ⟨w.heap.size, 0, none⟩) 1 1, .int .i64 2, .int .i64 0, .slice none 0 0] 39)).alloc (.cells #[.slice (some ⟨w.heap.size + 1, 0, none⟩) 2 2] 24)).heap[w.heap.size]? = some (.cells #[.int .i64 2, .int .i64 5] 45 (0, 0)) :=
    (Below.heap_alloc _ _ _ (by simp; omega)).trans ((Below.heap_alloc _ _ _ (by simp)).trans (heap_alloc_new _ _))
  have e2 : (((w.alloc (.cells #[.int .i64 2, .int .i64 5] 45)).alloc (.cells #[.int .i64 1, .int .i64 0, .slice (some ⟨w.heap.size, 0, none⟩) 1 1, .int .i64 2, .int .i64 0, .slice none 0 0] 39)).alloc (.cells #[.slice (some ⟨w.heap.size + 1, 0, none⟩) 2 2] 24)).heap[w.heap.size + 1]? = some (.cells #[.int .i64 1, .int .i64 0, .slice (some ⟨w.heap.size, 0, none⟩) 1 1, .int .i64 2, .int .i64 0, .slice none 0 0] 39 (0, 0)) := by
    refine (Below.heap_alloc _ _ _ (by simp)).trans ?_
    have := heap_alloc_new (w.alloc (.cells #[.int .i64 2, .int .i64 5] 45)) (.cells #[.int .i64 1, .int .i64 0, .slice (some ⟨w.heap.size, 0, none⟩) 1 1, .int .i64 2, .int .i64 0, .slice none 0 0] 39)
    rw [World.size_alloc] at this
    exact this
  generalize (((w.alloc (.cells #[.int .i64 2, .int .i64 5] 45)).alloc (.cells #[.int .i64 1, .int .i64 0, .slice (some ⟨w.heap.size, 0, none⟩) 1 1, .int .i64 2, .int .i64 0, .slice none 0 0] 39)).alloc (.cells #[.slice (some ⟨w.heap.size + 1, 0, none⟩) 2 2] 24)) = W at e1 e2
  intro _
  refine ⟨w.heap.size + 1, 0, rfl, trivial, fun j hj => ?_⟩
  match j, hj with
  | 0, _ =>
    refine ⟨some ⟨w.heap.size, 0, none⟩, 1, by simp [World.cell?, e2, G0], by simp [World.cell?, e2, G0], by simp [World.cell?, e2, G0], fun _ => ⟨w.heap.size, 0, rfl, trivial, fun i hi => ?_⟩⟩
    match i, hi with
    | 0, _ => exact ⟨by simp [World.cell?, e1, G0], by simp [World.cell?, e1, G0]⟩
  | 1, _ => exact ⟨none, 0, by simp [World.cell?, e2, G0], by simp [World.cell?, e2, G0], by simp [World.cell?, e2, G0], fun h => absurd h (by simp [G0])⟩

set_option maxRecDepth 100000 in
set_option maxHeartbeats 400000 in
theorem awake_any (w : World) : Calls Try.prog 11 #[] w fun r w' => r = .returned (.bool true) ∧ Below w.heap.size w w' := by
  have hE : ∀ W, VxAt W (fun _ => True) (some ⟨w.heap.size + 1, 0, none⟩) G0 → Calls Try.prog 45 #[.agg #[.slice (some ⟨w.heap.size + 1, 0, none⟩) 2 2]] W fun r w' => r = .returned (.tuple #[.string (str (grB G0)), .int .i64 0]) ∧ Below W.heap.size W w' := fun W h => by
    have := encode_any G0 2 h G0_ok (by decide)
    rw [G0_chk, if_pos rfl] at this
    exact this
  have hsz : (str (grB G0)).size ≤ maxLen := by decide
  have hD : ∀ W, Calls Try.prog 9 #[.string (str (grB G0))] W fun r w' => ∃ ao cap, r = .returned (.tuple #[.agg #[.slice ao 2 cap], .int .i64 0]) ∧ VxAt w' (fun k => W.heap.size ≤ k) ao G0 ∧ Below W.heap.size W w' := fun W => by
    have := decode_any (str (grB G0)) W hsz
    rw [dec_enc G0_ok G0_chk] at this
    exact this
  have hS : ∀ W ao bo ca cb P Q, VxAt W P ao G0 → VxAt W Q bo G0 → Calls Try.prog 22 #[.agg #[.slice ao 2 ca], .agg #[.slice bo 2 cb]] W fun r w' => r = .returned (.bool true) ∧ Below W.heap.size W w' := fun W ao bo ca cb P Q h1 h2 => by
    have := same_any ca cb h1 h2 (by decide) (fun v hv => Nat.le_trans (G0_ok v hv).len (by decide))
    rw [(sameG_iff G0 G0).2 rfl] at this
    exact this
  have hG : ∀ W ao ca P, VxAt W P ao G0 → Calls Try.prog 46 #[.agg #[.slice ao 2 ca]] W fun r w' => r = .returned (.int .i64 1) ∧ Below W.heap.size W w' := fun W ao ca P h => by
    have := edges_any ca h (by decide)
    rw [G0_sum] at this
    exact this
  have hA := awake_at w
  generalize str (grB G0) = S at hE hD
  clear hsz
  go_enter Try.func11, Try.ntmps11
  go_wp2_with (first
    | (go_at_call 45; refine (hE _ hA).mono ?_; rintro r w1 ⟨rfl, hb1⟩; have c1 := (hb1.cell (p := ⟨w.heap.size + 1 + 1, 0, none⟩) (by simp)); have z1 : w.heap.size + 1 + 1 < w1.heap.size := by (have := hb1.size; simp at this; omega))
    | (go_at_call 9; refine (hD _).mono ?_; rintro r w2 ⟨ao, cap, rfl, hV2, hb2⟩; have c2 := (hb2.cell (p := ⟨w.heap.size + 1 + 1, 0, none⟩) z1); have z2 : w.heap.size + 1 + 1 < w2.heap.size := Nat.lt_of_lt_of_le z1 hb2.size; have hA2 := (hA.new hb1).new hb2)
    | (go_at_call 22; refine (hS _ _ _ _ _ _ _ (hA2.new (one_new _ _)) (hV2.new (one_new _ _))).mono ?_; rintro r w3 ⟨rfl, hb3⟩; have c3 := (hb3.cell (p := ⟨w2.heap.size, 0, none⟩) (by simp)))
    | (go_at_call 46; refine (hG _ _ _ _ ((hV2.new (one_new _ _)).new hb3)).mono ?_; rintro r w4 ⟨rfl, hb4⟩))
  go_ret
  refine ⟨rfl, ?_⟩
  have k1 : Below w.heap.size w w1 := (((one_new w _).alloc (by simp) _).alloc (by simp; omega) _).trans (hb1.mono (by simp; omega))
  have k2 : Below w.heap.size w w2 := k1.trans (hb2.mono k1.size)
  have k3 : Below w.heap.size w w3 := (k2.alloc k2.size _).trans (hb3.mono (by have := k2.size; simp; omega))
  exact k3.trans (hb4.mono k3.size)
end Go.Proofs.Ytfajkfngjfhkoaa
