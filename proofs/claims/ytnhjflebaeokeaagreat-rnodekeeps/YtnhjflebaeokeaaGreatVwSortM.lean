import Derived.Test.YtnhjflebaeokeaaGreatVwLayM
import Derived.Test.YtnhjflebaeokeaaGreatVwRowM
import Derived.Sort.OwnSortedInts
/- The library's sort at rows of ints of one's own. -/
namespace Go.Proofs.YtnhjflebaeokeaaGreat
open Go.RowKit Go.Sort
/-- A row of numbers of one's own. -/
def RwI (w : World) (te : TypeId) (base : Nat) (v : Value) (L : List Int) : Prop := w.ownsRow base te 1 v L.length (L.map (Value.int .i64))
def srt (L : List Int) : List Int := L.mergeSort (fun x y => decide (x ≤ y))
theorem srt_len (L : List Int) : (srt L).length = L.length := List.length_mergeSort L
theorem ri_fr {w w' : World} {te : TypeId} {base : Nat} {v : Value} {L : List Int} {S : Nat → Prop} (h : RwI w te base v L) (f : Fr w w' S) (hs : ∀ k, v.ownBlock = some k → ¬ S k) : RwI w' te base v L := by
  refine ⟨h.1, ?_⟩
  rcases h.2 with h2 | ⟨g, cap, cur, rfl, h3, h4, h5⟩
  · exact Or.inl h2
  · exact Or.inr ⟨g, cap, cur, rfl, h3, (f.block g (Array.getElem?_eq_some_iff.1 h4).1 (hs g rfl)).trans h4, h5⟩
theorem ri_new {w w' : World} {te : TypeId} {base : Nat} {v : Value} {L : List Int} (h : RwI w te base v L) (hb : Below w.heap.size w w') : RwI w' te base v L := ri_fr h (Fr.ofBelow hb (fun _ => False)) (fun _ _ h => h)
/-- Its cells. -/
theorem ri_at {w : World} {te : TypeId} {base : Nat} {ao : Option Addr} {n c : Nat} {L : List Int} (h : RwI w te base (.slice ao n c) L) : n = L.length ∧ (0 < L.length → ∃ g, ao = some ⟨g, 0, none⟩ ∧ base ≤ g ∧ ∀ j (hj : j < L.length), w.cell? ⟨g, j, none⟩ = some (.int .i64 L[j]) ∧ w.frozen? ⟨g, j, none⟩ = false) := by
  have h0 := h
  rcases h.2 with ⟨h1, h2⟩ | ⟨g, cap, cur, h1, hb, hg, hn, hc, hcs', ht⟩
  · cases h1
    exact ⟨h2.symm, fun hl => by omega⟩
  · cases h1
    refine ⟨rfl, fun _ => ⟨g, rfl, hb, fun j hj => ?_⟩⟩
    have hH := holds_of_blockI (ss := L) hg (by simpa using ht) j (by simpa using hj)
    rw [Nat.zero_add] at hH
    refine ⟨?_, hH.2⟩
    rw [hH.1]
    simp [hj]
section
variable {w : World} {base : Nat} {v : Value} {L : List Int}
theorem sort_of {te : TypeId} {f : FuncId} (hn : L.length < 4611686018427387904) (h : RwI w te base v L)
    (h0 : ∀ (p : Option Addr) (cap : Nat) (w : World), Calls Tryz.prog f #[.slice p 0 cap] w fun e w' => e = .returned (.tuple #[]) ∧ w' = w)
    (h1 : ∀ (blk off cap : Nat) (zs : List Int) (w : World), Holds (Value.int .i64) w blk off zs.toArray → blk < w.heap.size → zs.length < 4611686018427387904 → Calls Tryz.prog f #[.slice (some ⟨blk, off, none⟩) zs.length cap] w fun e w' =>
      e = .returned (.tuple #[]) ∧ ∃ n os, w' = grow (putRow (Value.int .i64) (Sort.ahead w n) blk off (zs.mergeSort fun x y => decide (x ≤ y)).toArray) os) :
    Calls Tryz.prog f #[v] w fun r w' => r = .returned (.tuple #[]) ∧ RwI w' te base v (srt L) ∧ Fr w w' (fun k => v.ownBlock = some k) := by
  rcases h.2 with ⟨hv, hl⟩ | ⟨g, cap, cur, hv, hb, hg, hn', hc, hcs', ht⟩
  · subst hv
    obtain rfl : L = [] := List.eq_nil_of_length_eq_zero hl
    refine (h0 none 0 w).mono ?_
    rintro r w' ⟨rfl, rfl⟩
    exact ⟨rfl, by rw [show srt ([] : List Int) = [] from by simp [srt]]; exact h, Fr.refl _ _⟩
  · subst hv
    refine (h1 g 0 cap L w (holds_of_blockI hg (by simpa using ht)) (Array.getElem?_eq_some_iff.1 hg).1 hn).mono ?_
    rintro r w' ⟨rfl, nn, os, rfl⟩
    refine ⟨rfl, ?_, Fr.grown (grownBy_sortedI _) (fun k hk => hk)⟩
    unfold RwI
    rw [srt_len]
    exact ownsRow_sortedI (ss := L) (ts := srt L) (by rw [srt_len]) hb hg hn' hc hcs'
end
theorem sortInt_row {w : World} {base : Nat} {v : Value} {L : List Int} (hn : L.length < 4611686018427387904) (h : RwI w 3 base v L) : Calls Tryz.prog 109 #[v] w fun r w' => r = .returned (.tuple #[]) ∧ RwI w' 3 base v (srt L) ∧ Fr w w' (fun k => v.ownBlock = some k) :=
  sort_of hn h (fun p cap w => Go.Proofs.AnyM.slices_Sort_int_none laySortInt p cap w) (fun blk off cap zs w => Go.Proofs.AnyM.slices_Sort_int laySortInt blk off cap zs w)
end Go.Proofs.YtnhjflebaeokeaaGreat
