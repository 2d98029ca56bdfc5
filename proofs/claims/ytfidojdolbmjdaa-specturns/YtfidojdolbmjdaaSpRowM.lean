import Derived.Test.YtfidojdolbmjdaaSpLayM
import Derived.Test.YtfidojdolbmjdaaGrCheckM
import Derived.Sort.OwnSortedInts
import Derived.Lib.SlicesCompact
/- The library's sort, compact and search at rows of numbers of one's own. -/
namespace Go.Proofs.Ytfidojdolbmjdaa
open Go.RowKit Go.Sort
/-- A row of numbers of one's own. -/
def RwI (w : World) (te : TypeId) (base : Nat) (v : Value) (L : List Int) : Prop := w.ownsRow base te 1 v L.length (L.map (Value.int .i64))
def srt (L : List Int) : List Int := L.mergeSort (fun x y => decide (x ≤ y))
theorem srt_len (L : List Int) : (srt L).length = L.length := List.length_mergeSort L
theorem ri_fr {w w' : World} {te : TypeId} {base : Nat} {v : Value} {L : List Int} {S : Nat → Prop} (h : RwI w te base v L) (f : Fr w w' S) (hs : ∀ k, v.ownBlock = some k → ¬ S k) : RwI w' te base v L := by
  refine ⟨h.1, ?_⟩
  rcases h.2 with h2 | ⟨g, cap, cur, rfl, h3, h4, h5⟩
  · exact Or.inl h2
  · exact Or.inr ⟨g, cap, cur, rfl, h3, (f.block g (Array.getElem?_eq_some_iff.1 h4).1 (hs g rfl)).trans h4, h5⟩
theorem ri_lt {w : World} {te : TypeId} {base : Nat} {v : Value} {L : List Int} (h : RwI w te base v L) {k : Nat} (hk : v.ownBlock = some k) : base ≤ k ∧ k < w.heap.size := World.ownsRow.lt h k hk
theorem ri_new {w w' : World} {te : TypeId} {base : Nat} {v : Value} {L : List Int} (h : RwI w te base v L) (hb : Below w.heap.size w w') : RwI w' te base v L := ri_fr h (Fr.ofBelow hb (fun _ => False)) (fun _ _ h => h)
theorem ri_shape {w : World} {te : TypeId} {base : Nat} {v : Value} {L : List Int} (h : RwI w te base v L) : ∃ ao c, v = .slice ao L.length c := by
  rcases h.2 with ⟨h1, h2⟩ | ⟨g, cap, cur, rfl, _⟩
  · exact ⟨none, 0, by rw [h1, h2]⟩
  · exact ⟨_, _, rfl⟩
/-- Its cells. -/
theorem ri_at {w : World} {te : TypeId} {base : Nat} {ao : Option Addr} {n c : Nat} {L : List Int} (h : RwI w te base (.slice ao n c) L) : n = L.length ∧ (0 < L.length → ∃ g, ao = some ⟨g, 0, none⟩ ∧ base ≤ g ∧ ∀ j (hj : j < L.length), w.cell? ⟨g, j, none⟩ = some (.int .i64 L[j]) ∧ w.frozen? ⟨g, j, none⟩ = false) := by
  have h0 := h
  rcases h.2 with ⟨h1, h2⟩ | ⟨g, cap, cur, h1, hb, hg, hn, hc, hcs', ht⟩
  · cases h1
    exact ⟨h2.symm, fun hl => by omega⟩
  · cases h1
    refine ⟨rfl, fun _ => ⟨g, rfl, hb, fun j hj => ?_⟩⟩
    have hH := holds_of_blockI (ss := L) hg (by simpa using ht) j (by simpa using hj)
    rw [Nat.zero_add] at hH
    refine ⟨?_, hH.2⟩
    rw [hH.1]
    simp [hj]
theorem ri_take {w : World} {te : TypeId} {base g cap : Nat} {L : List Int} {m : Nat} (h : RwI w te base (.slice (some ⟨g, 0, none⟩) L.length cap) L) (hm : m ≤ L.length) : RwI w te base (.slice (some ⟨g, 0, none⟩) m cap) (L.take m) := by
  have hl : (L.take m).length = m := by rw [List.length_take]; omega
  rcases h.2 with ⟨h1, _⟩ | ⟨g', cap', cur, h1, hb, hg, hn, hc, hcs', ht⟩
  · cases h1
  · cases h1
    unfold RwI
    rw [hl]
    refine ⟨by simp; omega, .inr ⟨g, cap, cur, rfl, hb, hg, by omega, hc, hcs', ?_⟩⟩
    rw [Nat.mul_one] at ht ⊢
    have : cur.toList.take m = (cur.toList.take L.length).take m := by rw [List.take_take]; congr 1; omega
    rw [this, ht, List.map_take]
theorem grow_none (w : World) : grow w #[] = w := by unfold grow; simp
section
variable {w : World} {base : Nat} {v : Value} {L : List Int}
theorem sort_of {te : TypeId} {f : FuncId} (hn : L.length < 4611686018427387904) (h : RwI w te base v L)
    (h0 : ∀ (p : Option Addr) (cap : Nat) (w : World), Calls Try.prog f #[.slice p 0 cap] w fun e w' => e = .returned (.tuple #[]) ∧ w' = w)
    (h1 : ∀ (blk off cap : Nat) (zs : List Int) (w : World), Holds (Value.int .i64) w blk off zs.toArray → blk < w.heap.size → zs.length < 4611686018427387904 → Calls Try.prog f #[.slice (some ⟨blk, off, none⟩) zs.length cap] w fun e w' =>
      e = .returned (.tuple #[]) ∧ ∃ n os, w' = grow (putRow (Value.int .i64) (Sort.ahead w n) blk off (zs.mergeSort fun x y => decide (x ≤ y)).toArray) os) :
    Calls Try.prog f #[v] w fun r w' => r = .returned (.tuple #[]) ∧ RwI w' te base v (srt L) ∧ Fr w w' (fun k => v.ownBlock = some k) := by
  rcases h.2 with ⟨hv, hl⟩ | ⟨g, cap, cur, hv, hb, hg, hn', hc, hcs', ht⟩
  · subst hv
    obtain rfl : L = [] := List.eq_nil_of_length_eq_zero hl
    refine (h0 none 0 w).mono ?_
    rintro r w' ⟨rfl, rfl⟩
    exact ⟨rfl, by rw [show srt ([] : List Int) = [] from by simp [srt]]; exact h, Fr.refl _ _⟩
  · subst hv
    refine (h1 g 0 cap L w (holds_of_blockI hg (by simpa using ht)) (Array.getElem?_eq_some_iff.1 hg).1 hn).mono ?_
    rintro r w' ⟨rfl, nn, os, rfl⟩
    refine ⟨rfl, ?_, Fr.grown (grownBy_sortedI _) (fun k hk => hk)⟩
    unfold RwI
    rw [srt_len]
    exact ownsRow_sortedI (ss := L) (ts := srt L) (by rw [srt_len]) hb hg hn' hc hcs'
theorem comp_of {te : TypeId} {f : FuncId} (hn : L.length ≤ 9223372036854775807) (h : RwI w te base v L)
    (h0 : ∀ (p : Option Addr) (cap : Nat) (w : World), Calls Try.prog f #[.slice p 0 cap] w fun e w' => e = .returned (.slice p 0 cap) ∧ w' = w)
    (h1 : ∀ (blk off cap : Nat) (zs : List Int) (w : World), Holds (Value.int .i64) w blk off zs.toArray → zs.length ≤ 9223372036854775807 → zs.length ≤ cap → Calls Try.prog f #[.slice (some ⟨blk, off, none⟩) zs.length cap] w fun e w' => e = .returned (.slice (some ⟨blk, off, none⟩) (Lib.compact zs).length cap) ∧ ∃ q, w' = putRow (Value.int .i64) (Sort.ahead w q) blk off (Lib.compact zs ++ List.replicate (zs.length - (Lib.compact zs).length) 0).toArray)
    (hcl : (Lib.compact L).length ≤ L.length) :
    Calls Try.prog f #[v] w fun r w' => ∃ v', r = .returned v' ∧ v'.ownBlock = v.ownBlock ∧ RwI w' te base v' (Lib.compact L) ∧ Fr w w' (fun k => v.ownBlock = some k) := by
  rcases h.2 with ⟨hv, hl⟩ | ⟨g, cap, cur, hv, hb, hg, hn', hc, hcs', ht⟩
  · subst hv
    obtain rfl : L = [] := List.eq_nil_of_length_eq_zero hl
    refine (h0 none 0 w).mono ?_
    rintro r w' ⟨rfl, rfl⟩
    exact ⟨_, rfl, rfl, by rw [show Lib.compact ([] : List Int) = [] from rfl]; exact h, Fr.refl _ _⟩
  · subst hv
    refine (h1 g 0 cap L w (holds_of_blockI hg (by simpa using ht)) hn hn').mono ?_
    rintro r w' ⟨rfl, q, rfl⟩
    obtain ⟨C, hC⟩ : ∃ C, Lib.compact L = C := ⟨_, rfl⟩
    rw [hC] at hcl ⊢
    have hlen : (C ++ List.replicate (L.length - C.length) 0).length = L.length := by simp; omega
    have hR : RwI (putRow (Value.int .i64) (Sort.ahead w q) g 0 (C ++ List.replicate (L.length - C.length) 0).toArray) te base (.slice (some ⟨g, 0, none⟩) (C ++ List.replicate (L.length - C.length) 0).length cap) (C ++ List.replicate (L.length - C.length) 0) := by
      have := ownsRow_sortedI (ss := L) (ts := C ++ List.replicate (L.length - C.length) 0) (os := #[]) (n := q) hlen hb hg hn' hc hcs'
      rw [grow_none] at this
      unfold RwI
      rw [hlen]
      exact this
    have hR2 := ri_take (m := C.length) hR (by omega)
    rw [List.take_left] at hR2
    refine ⟨_, rfl, rfl, hR2, ?_⟩
    have := grownBy_sortedI (w := w) (g := g) (n := q) (os := #[]) (C ++ List.replicate (L.length - C.length) 0).toArray
    rw [grow_none] at this
    exact Fr.grown this (fun k hk => hk)
end
theorem sort64_row {w : World} {base : Nat} {v : Value} {L : List Int} (hn : L.length < 4611686018427387904) (h : RwI w 2 base v L) : Calls Try.prog 58 #[v] w fun r w' => r = .returned (.tuple #[]) ∧ RwI w' 2 base v (srt L) ∧ Fr w w' (fun k => v.ownBlock = some k) :=
  sort_of hn h (fun p cap w => Go.Proofs.AnyM.slices_Sort_int_none laySort64 p cap w) (fun blk off cap zs w => Go.Proofs.AnyM.slices_Sort_int laySort64 blk off cap zs w)
theorem sortInt_row {w : World} {base : Nat} {v : Value} {L : List Int} (hn : L.length < 4611686018427387904) (h : RwI w 3 base v L) : Calls Try.prog 55 #[v] w fun r w' => r = .returned (.tuple #[]) ∧ RwI w' 3 base v (srt L) ∧ Fr w w' (fun k => v.ownBlock = some k) :=
  sort_of hn h (fun p cap w => Go.Proofs.AnyM.slices_Sort_int_none laySortInt p cap w) (fun blk off cap zs w => Go.Proofs.AnyM.slices_Sort_int laySortInt blk off cap zs w)
theorem comp_le (L : List Int) : (Lib.compact L).length ≤ L.length := by
  unfold Lib.compact Lib.compactUpTo
  rw [List.length_map]
  have := List.length_filter_le (Lib.keeps L.toArray) (List.range L.length)
  rwa [List.length_range] at this
theorem comp64_row {w : World} {base : Nat} {v : Value} {L : List Int} (hn : L.length ≤ 9223372036854775807) (h : RwI w 2 base v L) : Calls Try.prog 74 #[v] w fun r w' => ∃ v', r = .returned v' ∧ v'.ownBlock = v.ownBlock ∧ RwI w' 2 base v' (Lib.compact L) ∧ Fr w w' (fun k => v.ownBlock = some k) :=
  comp_of hn h (fun p cap w => Go.Proofs.AnyG.slices_Compact_int_empty layComp64 p cap w) (fun blk off cap zs w => Go.Proofs.AnyG.slices_Compact_int layComp64 blk off cap zs w) (comp_le L)
theorem compInt_row {w : World} {base : Nat} {v : Value} {L : List Int} (hn : L.length ≤ 9223372036854775807) (h : RwI w 3 base v L) : Calls Try.prog 56 #[v] w fun r w' => ∃ v', r = .returned v' ∧ v'.ownBlock = v.ownBlock ∧ RwI w' 3 base v' (Lib.compact L) ∧ Fr w w' (fun k => v.ownBlock = some k) :=
  comp_of hn h (fun p cap w => Go.Proofs.AnyG.slices_Compact_int_empty layCompInt p cap w) (fun blk off cap zs w => Go.Proofs.AnyG.slices_Compact_int layCompInt blk off cap zs w) (comp_le L)
/-- Numbers that rise: nothing moves. -/
theorem srt_rise {L : List Int} (h : Rise L) : srt L = L := by
  unfold srt
  refine List.mergeSort_of_pairwise ?_
  rw [List.pairwise_iff_getElem]
  intro i j hi hj hij
  have := h.lt j i hj hij
  simp; omega
theorem comp_rise {L : List Int} (h : Rise L) : Lib.compact L = L := by
  refine Lib.compact_all L fun j hj => ?_
  unfold Lib.keeps
  by_cases h0 : j = 0
  · simp [h0]
  · have h1 := h.lt j (j - 1) hj (by omega)
    have e1 : L.toArray[j]! = L[j] := by simp [hj]
    have e2 : L.toArray[j - 1]! = L[j - 1] := by simp [show j - 1 < L.length by omega]
    rw [e1, e2]
    simp only [decide_eq_true_eq]
    right
    omega
end Go.Proofs.Ytfidojdolbmjdaa
