import Derived.Test.YtfidojdolbmjdaaSpNumM
import Derived.Test.YtfidojdolbmjdaaGrSameM
/- (spec.web).place: where a number stands. -/
namespace Go.Proofs.Ytfidojdolbmjdaa
open Go.RowKit
theorem count_find : ∀ {L : List Int} (x : Int), Rise L → L.countP (fun y => decide (y < x)) = findN L x
  | [], _, _ => rfl
  | a :: L, x, h => by
    have hL : Rise L := fun j hj => h (j + 1) (by simpa using hj)
    unfold findN
    by_cases ha : a < x
    · rw [List.countP_cons_of_pos (by simpa using ha), List.takeWhile_cons_of_pos (by simpa using ha), List.length_cons, count_find x hL]; rfl
    · rw [List.countP_cons_of_neg (by simpa using ha), List.takeWhile_cons_of_neg (by simpa using ha)]
      rw [List.countP_eq_zero.2]
      · rfl
      · intro y hy
        obtain ⟨i, hi, rfl⟩ := List.getElem_of_mem hy
        have := h.lt (i + 1) 0 (by simpa using hi) (by omega)
        simp at this ⊢
        omega
theorem contains_found : ∀ {L : List Int} (x : Int), Rise L → L.contains x = foundB L x
  | [], _, _ => rfl
  | a :: L, x, h => by
    have hL : Rise L := fun j hj => h (j + 1) (by simpa using hj)
    have ih := contains_found x hL
    by_cases ha : a < x
    · have e1 : findN (a :: L) x = findN L x + 1 := by unfold findN; rw [List.takeWhile_cons_of_pos (by simpa using ha)]; rfl
      unfold foundB at ih ⊢
      rw [e1, List.getElem?_cons_succ, ← ih, List.contains_cons]
      have : (x == a) = false := by rw [beq_eq_false_iff_ne]; omega
      rw [this, Bool.false_or]
    · have e1 : findN (a :: L) x = 0 := by unfold findN; rw [List.takeWhile_cons_of_neg (by simpa using ha)]; rfl
      unfold foundB
      rw [e1, List.getElem?_cons_zero, List.contains_cons]
      by_cases e : x = a
      · subst e; simp
      · have h1 : (x == a) = false := by rw [beq_eq_false_iff_ne]; exact e
        have h2 : L.contains x = false := by
          rw [Bool.eq_false_iff]
          intro hc
          obtain ⟨i, hi, rfl⟩ := List.getElem_of_mem (List.contains_iff_mem.1 hc)
          have := h.lt (i + 1) 0 (by simpa using hi) (by omega)
          simp at this
          omega
        rw [h1, h2]
        have : (some a == some x) = false := by rw [beq_eq_false_iff_ne]; intro h; exact e (Option.some.inj h).symm
        rw [this]; rfl
set_option maxRecDepth 100000 in
set_option maxHeartbeats 1000000 in
theorem place_any {w : World} {base g c : Nat} {L : List Int} {vo vn : Value} (x : Int) (h : RwI w 2 base (.slice (some ⟨g, 0, none⟩) L.length c) L) (hr : Rise L) (hl : L.length ≤ 256) :
    Calls Try.prog 47 #[.agg #[.slice (some ⟨g, 0, none⟩) L.length c, vo, vn], .int .i64 x] w fun r w' => r = .returned (.tuple #[.int .i64 (findN L x), .bool (foundB L x)]) ∧ Below w.heap.size w w' := by
  have hB : ∀ W, Below w.heap.size w W → Calls Try.prog 71 #[.slice (some ⟨g, 0, none⟩) L.length c, .int .i64 x] W fun r w' => r = .returned (.tuple #[.int .i64 (findN L x), .bool (foundB L x)]) ∧ Below W.heap.size W w' := fun W hb => by
    have hW := ri_new h hb
    obtain ⟨_, hc⟩ := ri_at hW
    have := Go.Proofs.AnyG.slices_BinarySearch_int laySrch64 g 0 L.length c L x W (Nat.le_refl _) (by omega) (fun j hj => by
      obtain ⟨g', e, _, hcell⟩ := hc (by omega)
      cases e
      rw [Nat.zero_add, (hcell j hj).1]
      simp [hj]) (by
      rw [List.take_length, List.pairwise_iff_getElem]
      intro i j hi hj hij
      have := hr.lt j i hj hij
      omega)
    rw [List.take_length, count_find x hr, contains_found x hr] at this
    refine Calls.mono this ?_
    rintro r w' ⟨rfl, q, rfl⟩
    exact ⟨rfl, bel_drewN (Below.refl _ _) q⟩
  have HB : Hid _ := hB
  clear hB h hr hl
  go_enter Try.func47, Try.ntmps47
  go_upto_region 1 with (fail)
  generalize hW0 : World.alloc w _ = W0
  have hb0 : Below w.heap.size w W0 := by rw [← hW0]; exact one_new _ _
  have c0 : W0.cell? ⟨w.heap.size, 0, none⟩ = some (.slice (some ⟨g, 0, none⟩) L.length c) := by
    rw [← hW0]
    exact (box3 (heap_alloc_new _ _)).1
  have HB0 : Hid _ := hb0
  clear hW0 hb0
  go_wp2_with (go_at_call 71; refine Calls.mono (HB.out _ HB0.out) ?_; rintro r w1 ⟨rfl, hb1⟩; have HB1 : Hid _ := hb1; clear hb1)
  go_ret2
  exact ⟨rfl, HB0.out.trans (HB1.out.mono HB0.out.size)⟩
end Go.Proofs.Ytfidojdolbmjdaa
