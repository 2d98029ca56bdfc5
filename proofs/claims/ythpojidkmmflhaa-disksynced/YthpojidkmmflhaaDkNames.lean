/- The names of all files, sorted. -/
import Derived.Test.YthpojidkmmflhaaDkSec
import Derived.Test.YthpojidkmmflhaaDkLay2
import Derived.Shelf.AbstractIn
namespace Go.Proofs.Ythpojidkmmflhaa
open Go.RowKit Go.Maps Go.Sort Go.Shelf
theorem sortsS (m : Nat) : AnyZ.SortsIn Try.prog laySorted_ren Fence.wide m :=
  ⟨fun blk off cap ss W hH hblk hsz => callsIn_wide.2 (AnyM.slices_Sort_string laySortS blk off cap ss W hH hblk hsz),
   fun p cap W => callsIn_wide.2 (AnyM.slices_Sort_string_none laySortS p cap W)⟩
theorem names_sorted {l : Fl} (hs : SortF l) {ss : List Bs} (h : ss.Perm (l.map (·.1))) : ss.mergeSort (fun x y => decide (x ≤ y)) = l.map (·.1) := by
  refine (mergeSort_of_perm h).trans (List.mergeSort_of_pairwise ?_)
  refine List.pairwise_map.2 (List.Pairwise.imp ?_ hs)
  intro a b hab
  exact decide_eq_true (List.le_of_lt hab)
set_option maxHeartbeats 1000000 in
theorem names_some {w : World} {B p : Nat} {A : Dk} {ms : Option Nat} {lv : Value} {a : Nat} (h : DA w B p A (some a) ms lv) (hd : A.dead = false) (hn : A.now.length ≤ 1000000) : Calls Try.prog 17 #[.pointer (some ⟨p, 0, none⟩)] w fun e w' => ∃ v, e = .returned v ∧ w'.ownsRow w.heap.size 9 1 v A.now.length ((A.now.map (·.1)).map encStr) ∧ Below w.heap.size w w' := by
  obtain ⟨c0, _, _, _, _, _⟩ := h.cells
  have hDe := dead_any h
  rw [hd] at hDe
  obtain ⟨hs, D0, ⟨nn, hown⟩, hat⟩ : FMap w a A.now := h.now
  have hperm := keys_perm hs hown (fun k => (hat k).1)
  have hsz := size_is hs hown (fun k => (hat k).1)
  have HP : Hid (∀ ss : List Bs, ss.Perm (strKeys D0) → ss.mergeSort (fun x y => decide (x ≤ y)) = A.now.map (·.1) ∧ ss.length = A.now.length) := fun ss hss => ⟨names_sorted hs (hss.trans hperm.symm), by rw [(hss.trans hperm.symm).length_eq, List.length_map]⟩
  refine (callsIn_wide (n := 6)).1 ?_
  have hbl := hown.lt
  have hseq : SeqGives Fence.wide 2 Try.prog 57 #[.pointer (some ⟨w.heap.size, 0, none⟩)] encStr (fun ss => ss.Perm (strKeys D0)) (Maps.size D0) (w.alloc (.cells #[.map (some a)] 57)) :=
    AnyZ.keys_gives (ρ := layKeys_ren) { layKeys with } Fence.wide _ trivial rfl (by omega) w.heap.size a nn D0 _ (by simp) (by simp) (by
      obtain ⟨es, clock, hb, Ft, hs, hD⟩ := hown
      exact ⟨es, clock, (Below.heap_alloc _ _ a hbl).trans hb, Ft, hs, hD⟩)
  have cK : ∀ mb W, CallsIn Fence.wide 5 Try.prog 37 #[.map mb] W fun e w' => e = .returned (.func (.func 57) #[] #[.pointer (some ⟨W.heap.size, 0, none⟩)]) ∧ w' = W.alloc (.cells #[.map mb] 57) := fun mb W => AnyZ.keys_in layKeys Fence.wide 5 trivial rfl mb W
  have cS := AnyZ.sorted_in laySorted Fence.wide 5 trivial trivial trivial trivial rfl (by omega) (sortsS _) (enters_of Try.func56 (by kernel_rfl) rfl) 57 #[.pointer (some ⟨w.heap.size, 0, none⟩)] trivial (enters_of Try.func57 (by kernel_rfl) rfl) _ _ (by rw [hsz]; unfold maxLen; omega) (by rw [hsz]; omega) _ hseq
  change CallsIn _ _ Try.prog 36 _ _ _ at cS
  have cD : CallsIn Fence.wide 5 Try.prog 24 #[.pointer (some ⟨p, 0, none⟩)] w fun r w' => r = .returned (.bool false) ∧ w' = w := callsIn_wide.2 hDe
  have hfK : Fence.wide.fn 37 := trivial
  have hfS : Fence.wide.fn 36 := trivial
  have hfD : Fence.wide.fn 24 := trivial
  clear hperm hsz hat hown hs hDe h
  refine callsIn_of_wp Try.func17 rfl trivial ?_ rfl
  simp only [Try.ntmps17, List.size_toArray, List.length_cons, List.length_nil, Nat.reduceAdd, Nat.reduceSub, Array.replicate_succ, Array.replicate_zero, List.push_toArray, List.append_toArray, List.nil_append, List.cons_append]
  gi_wp2_with (first
    | (gi_at_call 24; refine cD.mono ?_; rintro e w ⟨rfl, rfl⟩)
    | (gi_at_call 37; refine (cK _ _).mono ?_; rintro e w' ⟨rfl, rfl⟩)
    | (gi_at_call 36; refine cS.mono ?_; rintro e w' ⟨v, ss, rfl, hS, hrow, hnil, hb⟩))
  go_ret
  obtain ⟨e1, e2⟩ := HP.out ss hS
  rw [e1, e2] at hrow
  exact ⟨v, rfl, ownsRow_base_a hrow (by simp), ((Below.refl _ w).alloc (Nat.le_refl _) _).trans (hb.mono (by simp))⟩
set_option maxHeartbeats 1000000 in
theorem names_nil {w : World} {B p : Nat} {A : Dk} {ms : Option Nat} {lv : Value} (h : DA w B p A none ms lv) (hd : A.dead = false) : Calls Try.prog 17 #[.pointer (some ⟨p, 0, none⟩)] w fun e w' => e = .returned (.slice none 0 0) ∧ Below w.heap.size w w' := by
  obtain ⟨c0, _, _, _, _, _⟩ := h.cells
  have hDe := dead_any h
  rw [hd] at hDe
  refine (callsIn_wide (n := 6)).1 ?_
  have hseq : SeqGives Fence.wide 2 Try.prog 57 #[.pointer (some ⟨w.heap.size, 0, none⟩)] encStr (fun ss : List (List UInt8) => ss = []) 0 (w.alloc (.cells #[.map none] 57)) :=
    AnyZ.keys_gives_nil (ρ := layKeys_ren) { layKeys with } Fence.wide _ trivial rfl w.heap.size _ (by simp) (by simp)
  have cK : ∀ mb W, CallsIn Fence.wide 5 Try.prog 37 #[.map mb] W fun e w' => e = .returned (.func (.func 57) #[] #[.pointer (some ⟨W.heap.size, 0, none⟩)]) ∧ w' = W.alloc (.cells #[.map mb] 57) := fun mb W => AnyZ.keys_in layKeys Fence.wide 5 trivial rfl mb W
  have cS := AnyZ.sorted_in laySorted Fence.wide 5 trivial trivial trivial trivial rfl (by omega) (sortsS _) (enters_of Try.func56 (by kernel_rfl) rfl) 57 #[.pointer (some ⟨w.heap.size, 0, none⟩)] trivial (enters_of Try.func57 (by kernel_rfl) rfl) _ 0 (Nat.zero_le _) (by omega) _ hseq
  change CallsIn _ _ Try.prog 36 _ _ _ at cS
  have cD : CallsIn Fence.wide 5 Try.prog 24 #[.pointer (some ⟨p, 0, none⟩)] w fun r w' => r = .returned (.bool false) ∧ w' = w := callsIn_wide.2 hDe
  have hfK : Fence.wide.fn 37 := trivial
  have hfS : Fence.wide.fn 36 := trivial
  have hfD : Fence.wide.fn 24 := trivial
  clear hDe h
  refine callsIn_of_wp Try.func17 rfl trivial ?_ rfl
  simp only [Try.ntmps17, List.size_toArray, List.length_cons, List.length_nil, Nat.reduceAdd, Nat.reduceSub, Array.replicate_succ, Array.replicate_zero, List.push_toArray, List.append_toArray, List.nil_append, List.cons_append]
  gi_wp2_with (first
    | (gi_at_call 24; refine cD.mono ?_; rintro e w ⟨rfl, rfl⟩)
    | (gi_at_call 37; refine (cK _ _).mono ?_; rintro e w' ⟨rfl, rfl⟩)
    | (gi_at_call 36; refine cS.mono ?_; rintro e w' ⟨v, ss, rfl, rfl, hrow, hnil, hb⟩; obtain rfl : v = .slice none 0 0 := hnil.2 rfl))
  go_ret
  exact ⟨rfl, ((Below.refl _ w).alloc (Nat.le_refl _) _).trans (hb.mono (by simp))⟩
theorem names_any {w : World} {B p : Nat} {A : Dk} {mn ms : Option Nat} {lv : Value} (h : DA w B p A mn ms lv) (hd : A.dead = false) (hn : A.now.length ≤ 1000000) : Calls Try.prog 17 #[.pointer (some ⟨p, 0, none⟩)] w fun e w' => ∃ v, e = .returned v ∧ w'.ownsRow w.heap.size 9 1 v A.now.length ((A.now.map (·.1)).map encStr) ∧ Below w.heap.size w w' := by
  cases mn with
  | some a => exact names_some h hd hn
  | none =>
    have e : A.now = [] := h.now
    refine (names_nil h hd).mono ?_
    rintro r w' ⟨rfl, hb⟩
    exact ⟨_, rfl, by rw [e]; exact ⟨rfl, .inl ⟨rfl, rfl⟩⟩, hb⟩
end Go.Proofs.Ythpojidkmmflhaa
