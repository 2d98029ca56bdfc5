import Derived.Test.YtidghoipmggklaaGreatPlLayM
import Derived.Test.YtidghoipmggklaaGreatGnRowM
import Derived.Test.YtidghoipmggklaaGreatPlMM
import Derived.Sort.OwnSortedInts
import Derived.Lib.SlicesCompact
/- The library's copy, sort and striking of doubles at rows of integers. -/
namespace Go.Proofs.YtidghoipmggklaaGreat
open Go.RowKit Go.Sort
def srtI (L : List Int) : List Int := L.mergeSort (fun x y => decide (x ≤ y))
theorem srtI_len (L : List Int) : (srtI L).length = L.length := List.length_mergeSort L
theorem pgrow_none (w : World) : grow w #[] = w := by unfold grow; simp
theorem io_iff {w : World} {B : Nat} {v : Value} {L : List Int} : IO_ w B v L ↔ w.ownsRow B 3 1 v L.length (L.map (Value.int .i64)) := by unfold IO_ GO; rw [ie_map]
theorem psort {w : World} {B : Nat} {v : Value} {L : List Int} (hn : L.length < 4611686018427387904) (h : IO_ w B v L) : Calls Tryz.prog 141 #[v] w fun r w' => r = .returned (.tuple #[]) ∧ IO_ w' B v (srtI L) ∧ Fr w w' (fun k => v.ownBlock = some k) := by
  rw [io_iff] at h
  rcases h.2 with ⟨hv, hl⟩ | ⟨g, cap, cur, hv, hb, hg, hn', hc, hcs', ht⟩
  · subst hv
    obtain rfl : L = [] := List.eq_nil_of_length_eq_zero hl
    refine Calls.mono (Go.Proofs.AnyM.slices_Sort_int_none laySortInt none 0 w) ?_
    rintro r w' ⟨rfl, rfl⟩
    exact ⟨rfl, by rw [show srtI ([] : List Int) = [] from by simp [srtI]]; exact io_iff.2 h, Fr.refl _ _⟩
  · subst hv
    refine Calls.mono (Go.Proofs.AnyM.slices_Sort_int laySortInt g 0 cap L w (holds_of_blockI hg (by simpa using ht)) (Array.getElem?_eq_some_iff.1 hg).1 hn) ?_
    rintro r w' ⟨rfl, nn, os, rfl⟩
    refine ⟨rfl, ?_, Fr.grown (grownBy_sortedI _) (fun k hk => hk)⟩
    rw [io_iff, srtI_len]
    exact ownsRow_sortedI (ss := L) (ts := srtI L) (by rw [srtI_len]) hb hg hn' hc hcs'
theorem pcomp_le (L : List Int) : (Lib.compact L).length ≤ L.length := by
  unfold Lib.compact Lib.compactUpTo
  rw [List.length_map]
  have := List.length_filter_le (Lib.keeps L.toArray) (List.range L.length)
  rwa [List.length_range] at this
theorem io_take {w : World} {B g cap : Nat} {L : List Int} {m : Nat} (h : IO_ w B (.slice (some ⟨g, 0, none⟩) L.length cap) L) (hm : m ≤ L.length) : IO_ w B (.slice (some ⟨g, 0, none⟩) m cap) (L.take m) := by
  have hl : (L.take m).length = m := by rw [List.length_take]; omega
  rw [io_iff] at h
  rcases h.2 with ⟨h1, _⟩ | ⟨g', cap', cur, h1, hb, hg, hn, hc, hcs', ht⟩
  · cases h1
  · cases h1
    rw [io_iff, hl]
    refine ⟨by simp; omega, .inr ⟨g, cap, cur, rfl, hb, hg, by omega, hc, hcs', ?_⟩⟩
    rw [Nat.mul_one] at ht ⊢
    have : cur.toList.take m = (cur.toList.take L.length).take m := by rw [List.take_take]; congr 1; omega
    rw [this, ht, List.map_take]
theorem pcomp {w : World} {B : Nat} {v : Value} {L : List Int} (hn : L.length ≤ 9223372036854775807) (h : IO_ w B v L) : Calls Tryz.prog 189 #[v] w fun r w' => ∃ v', r = .returned v' ∧ v'.ownBlock = v.ownBlock ∧ IO_ w' B v' (Lib.compact L) ∧ Fr w w' (fun k => v.ownBlock = some k) := by
  have hcl := pcomp_le L
  rw [io_iff] at h
  rcases h.2 with ⟨hv, hl⟩ | ⟨g, cap, cur, hv, hb, hg, hn', hc, hcs', ht⟩
  · subst hv
    obtain rfl : L = [] := List.eq_nil_of_length_eq_zero hl
    refine Calls.mono (Go.Proofs.AnyG.slices_Compact_int_empty layCompInt none 0 w) ?_
    rintro r w' ⟨rfl, rfl⟩
    exact ⟨_, rfl, rfl, by rw [show Lib.compact ([] : List Int) = [] from rfl]; exact io_iff.2 h, Fr.refl _ _⟩
  · subst hv
    refine Calls.mono (Go.Proofs.AnyG.slices_Compact_int layCompInt g 0 cap L w (holds_of_blockI hg (by simpa using ht)) hn hn') ?_
    rintro r w' ⟨rfl, q, rfl⟩
    obtain ⟨C, hC⟩ : ∃ C, Lib.compact L = C := ⟨_, rfl⟩
    rw [hC] at hcl ⊢
    have hlen : (C ++ List.replicate (L.length - C.length) 0).length = L.length := by simp; omega
    have hR : IO_ (putRow (Value.int .i64) (Sort.ahead w q) g 0 (C ++ List.replicate (L.length - C.length) 0).toArray) B (.slice (some ⟨g, 0, none⟩) (C ++ List.replicate (L.length - C.length) 0).length cap) (C ++ List.replicate (L.length - C.length) 0) := by
      have := ownsRow_sortedI (ss := L) (ts := C ++ List.replicate (L.length - C.length) 0) (os := #[]) (n := q) hlen hb hg hn' hc hcs'
      rw [pgrow_none] at this
      rw [io_iff, hlen]
      exact this
    have hR2 := io_take (m := C.length) hR (by omega)
    rw [List.take_left] at hR2
    refine ⟨_, rfl, rfl, hR2, ?_⟩
    have := grownBy_sortedI (w := w) (g := g) (n := q) (os := #[]) (C ++ List.replicate (L.length - C.length) 0).toArray
    rw [pgrow_none] at this
    exact Fr.grown this (fun k hk => hk)
theorem pclone {w : World} {v : Value} {L : List Int} (hn : L.length * 8 ≤ 140737488355328) (h : IS w v L) : Calls Tryz.prog 81 #[v] w fun r w' => ∃ v', r = .returned v' ∧ IO_ w' w.heap.size v' L ∧ Below w.heap.size w w' := by
  obtain ⟨ao, c, rfl, hc, hs⟩ := h
  cases ao with
  | none =>
    have h0 : L = [] := by
      rcases Nat.eq_zero_or_pos L.length with h0 | h0
      · exact List.eq_nil_of_length_eq_zero h0
      · obtain ⟨b, off, e, _⟩ := hs h0
        cases e
    subst h0
    refine Calls.mono (Go.Proofs.AnyG.slices_Clone_int_nil layCloneInt _ c w) ?_
    rintro r w' ⟨rfl, rfl⟩
    exact ⟨_, rfl, GO.nil _ _ _ _ _, Below.refl _ _⟩
  | some a =>
    rcases Nat.eq_zero_or_pos L.length with h0 | h0
    · obtain rfl : L = [] := List.eq_nil_of_length_eq_zero h0
      refine Calls.mono (Go.Proofs.AnyG.slices_Clone_int_zero layCloneInt a c w) ?_
      rintro r w' ⟨v', rfl, ho, _, hb⟩
      exact ⟨v', rfl, io_iff.2 ho, hb⟩
    · obtain ⟨b, off, e, hcell⟩ := hs h0
      cases e
      refine Calls.mono (Go.Proofs.AnyG.slices_Clone_int layCloneInt b off L.length c L w (Nat.le_refl _) hn (fun j hj => ?_)) ?_
      · refine hcell j _ ?_
        rw [ie_map]
        simp [hj]
      · rintro r w' ⟨v', rfl, ho, _, hb⟩
        rw [List.take_length] at ho
        exact ⟨v', rfl, io_iff.2 ho, hb⟩
end Go.Proofs.YtidghoipmggklaaGreat
