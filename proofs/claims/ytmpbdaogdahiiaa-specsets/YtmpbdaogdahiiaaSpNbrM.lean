import Derived.Test.YtmpbdaogdahiiaaSpWvM
import Derived.Shelf.SlicesE.IndexFunc
import Derived.Shelf.SlGeneric
import Derived.Test.YtmpbdaogdahiiaaProg
/- (spec.web).neighbours, and what slices.ContainsFunc says of a row of neighbours. -/
namespace Go.Proofs.Ytmpbdaogdahiiaa
open Go.RowKit Go.Shelf
attribute [local go_sem] Oper.semAt_some
/-- A row of ints in memory: its block, or none. -/
theorem nb_row {W : World} {base : Nat} {v : Value} {L : List Int} (h : RwI W 3 base v L) : ∃ (ao : Option Addr) (c : Nat), v = .slice ao L.length c ∧ (0 < L.length → ∃ g, ao = some ⟨g, 0, none⟩ ∧ ∀ j (hj : j < L.length), W.cell? ⟨g, j, none⟩ = some (.int .i64 L[j])) := by
  obtain ⟨ao, n, c, rfl⟩ := own_any h
  obtain ⟨rfl, hc⟩ := ri_at h
  refine ⟨ao, c, rfl, fun h0 => ?_⟩
  obtain ⟨g, e, _, hcell⟩ := hc h0
  exact ⟨g, e, fun j hj => (hcell j hj).1⟩
theorem rise_pw {L : List Int} (h : L.Pairwise (· < ·)) : Rise L := fun j hj => List.pairwise_iff_getElem.1 h j (j + 1) (by omega) hj (by omega)
set_option maxRecDepth 100000 in
set_option maxHeartbeats 1000000 in
theorem srchI_nil {w : World} (ao : Option Addr) (c : Nat) (x : Int) : Calls Try.prog 32 #[.slice ao 0 c, .int .i64 x] w fun r w' => r = .returned (.tuple #[.int .i64 0, .bool false]) ∧ Below w.heap.size w w' := by
  go_enter Try.func32, Try.ntmps32
  go_wp2
  go_loopw [7, 8] (fun i j wr => i = .int .i64 0 ∧ j = .int .i64 0 ∧ Hid (Below w.heap.size w wr)) (fun _ _ _ => 0)
  case atStart => exact ⟨rfl, rfl, Below.refl _ _⟩
  case round =>
    obtain ⟨rfl, rfl, HB⟩ := hrel
    go_wp2
    go_ret2
    exact ⟨rfl, HB.out⟩
theorem srchI_any {w : World} {base : Nat} {v : Value} {L : List Int} (x : Int) (h : RwI w 3 base v L) (hr : Rise L) (hl : L.length ≤ 4096) : Calls Try.prog 32 #[v, .int .i64 x] w fun r w' => r = .returned (.tuple #[.int .i64 (findN L x), .bool (foundB L x)]) ∧ Below w.heap.size w w' := by
  obtain ⟨ao, c, rfl, hc⟩ := nb_row h
  rcases Nat.eq_zero_or_pos L.length with h0 | h0
  · have : L = [] := List.eq_nil_of_length_eq_zero h0
    subst this
    exact srchI_nil ao c x
  · obtain ⟨g, rfl, hcell⟩ := hc h0
    have := Go.Proofs.AnyG.slices_BinarySearch_int laySrchInt g 0 L.length c L x w (Nat.le_refl _) (by omega) (fun j hj => by
      rw [Nat.zero_add, hcell j hj]
      simp [hj]) (by
      rw [List.take_length, List.pairwise_iff_getElem]
      intro i j hi hj hij
      have := hr.lt j i hj hij
      omega)
    rw [List.take_length, count_find x hr, contains_found x hr] at this
    refine Calls.mono this ?_
    rintro r w' ⟨rfl, q, rfl⟩
    exact ⟨rfl, bel_drewN (Below.refl _ _) q⟩
set_option maxRecDepth 100000 in
set_option maxHeartbeats 1000000 in
theorem neighbours_any {w : World} {g2 n base : Nat} {vi vo v : Value} {L : List Int} (a b : Nat) (ha : a < n) (hv : w.cell? ⟨g2, a, none⟩ = some v) (h : RwI w 3 base v L) (hr : Rise L) (hl : L.length ≤ 4096) :
    Calls Try.prog 33 #[.agg #[vi, vo, .slice (some ⟨g2, 0, none⟩) n n], .int .i64 (a : Nat), .int .i64 (b : Nat)] w fun r w' => r = .returned (.bool (L.contains (b : Int))) ∧ Below w.heap.size w w' := by
  have HB : Hid (∀ W, Below w.heap.size w W → Calls Try.prog 32 #[v, .int .i64 (b : Nat)] W fun r w' => r = .returned (.tuple #[.int .i64 (findN L b), .bool (foundB L b)]) ∧ Below W.heap.size W w') := fun W hb => srchI_any (b : Int) (ri_new h hb) hr hl
  rw [contains_found _ hr]
  obtain ⟨ao, m, c, rfl⟩ := own_any h
  clear h hr hl
  go_enter Try.func33, Try.ntmps33
  go_upto_region 1 with (fail)
  generalize hW0 : World.alloc w _ = W0
  have hb0 : Below w.heap.size w W0 := by rw [← hW0]; exact one_new _ _
  have c0 : W0.cell? ⟨w.heap.size, 2, none⟩ = some (.slice (some ⟨g2, 0, none⟩) n n) := by
    rw [← hW0]
    exact (box3 (heap_alloc_new _ _)).2.2
  have c1 := (hb0.cell (p := ⟨g2, a, none⟩) (lt_cell hv)).trans hv
  have HB0 : Hid _ := hb0
  clear hW0 hb0 hv
  go_wp2_with (go_at_call 32; refine Calls.mono (HB.out _ HB0.out) ?_; rintro r w1 ⟨rfl, hb1⟩; have HB1 : Hid _ := hb1; clear hb1)
  go_ret
  exact ⟨rfl, HB0.out.trans (HB1.out.mono HB0.out.size)⟩
end Go.Proofs.Ytmpbdaogdahiiaa
