import Derived.Test.YtjemnkijoiehmaaGreatDoorStRowM
import Derived.Test.YtjemnkijoiehmaaGreatDoorStNumM
import Derived.Test.YtjemnkijoiehmaaGreatDoorStLay2M
import Derived.Sort.OwnSortedInts
/- store: without, a number's file name. -/
namespace Go.Proofs.YtjemnkijoiehmaaGreatDoor
open Go.RowKit Go.Sort
attribute [local go_sem] Oper.semAt_some
theorem io_iff {w : World} {B : Nat} {v : Value} {L : List Int} : IO_ w B v L ↔ w.ownsRow B 3 1 v L.length (L.map (Value.int .i64)) := by unfold IO_ GO; rw [ie_map]
theorem io_nro {w : World} {B : Nat} {v : Value} {L : List Int} (h : IO_ w B v L) : NrO w B v L := NrO.ofRow (io_iff.1 h)
set_option linter.unnecessarySimpa false in
theorem nclone {w : World} {v : Value} {L : List Int} (hn : L.length * 8 ≤ 140737488355328) (h : NrS w v L) : Calls Tryz.prog 35 #[v] w fun r w' => ∃ v', r = .returned v' ∧ IO_ w' w.heap.size v' L ∧ Below w.heap.size w w' := by
  obtain ⟨ao, c, rfl, hc, hs⟩ := h
  cases ao with
  | none =>
    have h0 : L = [] := by
      rcases Nat.eq_zero_or_pos L.length with h0 | h0
      · exact List.eq_nil_of_length_eq_zero h0
      · obtain ⟨b, off, e, _⟩ := hs h0
        cases e
    subst h0
    refine Calls.mono (Go.Proofs.AnyG.slices_Clone_int_nil layCloneInt _ c w) ?_
    rintro r w' ⟨rfl, rfl⟩
    exact ⟨_, rfl, GO.nil _ _ _ _ _, Below.refl _ _⟩
  | some a =>
    rcases Nat.eq_zero_or_pos L.length with h0 | h0
    · obtain rfl : L = [] := List.eq_nil_of_length_eq_zero h0
      refine Calls.mono (Go.Proofs.AnyG.slices_Clone_int_zero layCloneInt a c w) ?_
      rintro r w' ⟨v', rfl, ho, _, hb⟩
      exact ⟨v', rfl, io_iff.2 ho, hb⟩
    · obtain ⟨b, off, e, hcell⟩ := hs h0
      cases e
      refine Calls.mono (Go.Proofs.AnyG.slices_Clone_int layCloneInt b off L.length c L w (Nat.le_refl _) hn (fun j hj => by have := hcell j (by omega); simpa [hj] using this)) ?_
      rintro r w' ⟨v', rfl, ho, _, hb⟩
      rw [List.take_length] at ho
      exact ⟨v', rfl, io_iff.2 ho, hb⟩
theorem wo1_any {w : World} {bx : Nat} {n : Int} (x : Int) (hb : w.cell? ⟨bx, 0, none⟩ = some (.int .i64 n)) : Calls Tryz.prog 36 #[.int .i64 x, .pointer (some ⟨bx, 0, none⟩)] w fun r w' => r = .returned (.bool (x == n)) ∧ w' = w := by
  go_enter Tryz.func36, Tryz.ntmps36
  go_wp2
  go_ret
  exact ⟨rfl, rfl⟩
theorem one_i64 : OneCell (Value.int .i64) := fun _ => rfl
theorem pgrow_none (w : World) : grow w #[] = w := by unfold grow; simp
theorem NrO.pre {w : World} {B g off n c m : Nat} {R : List Int} (h : NrO w B (.slice (some ⟨g, off, none⟩) n c) R) (hm : m ≤ R.length) : NrO w B (.slice (some ⟨g, off, none⟩) m c) (R.take m) := by
  rcases h with ⟨h1, _⟩ | ⟨g', off, cap, h1, h2, h3, h4, h5, h6⟩
  · cases h1
  · cases h1
    have hl : (R.take m).length = m := by rw [List.length_take]; omega
    refine .inr ⟨g, off, c, by rw [hl], h2, h3, by omega, h5, fun j hj => ?_⟩
    rw [hl] at hj
    rw [List.getElem_take]
    exact h6 j (by omega)
theorem NrO.rest {w : World} {B g off n c m : Nat} {R : List Int} (h : NrO w B (.slice (some ⟨g, off, none⟩) n c) R) (hm : m ≤ R.length) : NrO w B (.slice (some ⟨g, off + m, none⟩) (R.length - m) (c - m)) (R.drop m) := by
  rcases h with ⟨h1, _⟩ | ⟨g', off, cap, h1, h2, ⟨cur, h3, h3'⟩, h4, h5, h6⟩
  · cases h1
  · cases h1
    have hl : (R.drop m).length = R.length - m := by rw [List.length_drop]
    refine .inr ⟨g, off + m, c - m, by rw [hl], h2, ⟨cur, h3, by omega⟩, by rw [hl]; omega, by omega, fun j hj => ?_⟩
    rw [hl] at hj
    have := h6 (m + j) (by omega)
    rw [List.getElem_drop, Nat.add_assoc]
    exact this
theorem ndel_nil {fv : Value} (w : World) : Calls Tryz.prog 34 #[.slice none 0 0, fv] w fun r w' => r = .returned (.slice none 0 0) ∧ w' = w := by
  have hI : ∀ w, Calls Tryz.prog 56 #[.slice none 0 0, fv] w fun r w' => r = .returned (.int .i64 (-1)) ∧ w' = w := fun w => AnyE.slices_IndexFunc_empty (ρ := layDelInt_ren) { layDelInt with } none 0 fv w
  go_enter Tryz.func34, Tryz.ntmps34
  go_wp2_with (go_at_call 56; refine (hI _).mono ?_; rintro r w1 ⟨rfl, rfl⟩)
  go_ret
  exact ⟨rfl, rfl⟩
theorem ndel {w : World} {B bx : Nat} {v : Value} {L : List Int} {n : Int} (h : IO_ w B v L) (hL : L.length ≤ 9223372036854775807) (hb : w.cell? ⟨bx, 0, none⟩ = some (.int .i64 n)) (hbx : v.ownBlock ≠ some bx) :
    Calls Tryz.prog 34 #[v, .func (.func 36) #[] #[.pointer (some ⟨bx, 0, none⟩)]] w fun r w' => ∃ v', r = .returned v' ∧ v'.ownBlock = v.ownBlock ∧ NrO w' B v' (woI L n) ∧ Fr w w' (fun k => v.ownBlock = some k) := by
  rw [io_iff] at h
  rcases h.2 with ⟨hv, hl⟩ | ⟨g, cap, cur, hv, hbg, hg, hn', hc, hcs', ht⟩
  · subst hv
    obtain rfl : L = [] := List.eq_nil_of_length_eq_zero hl
    refine Calls.mono (ndel_nil w) ?_
    rintro r w' ⟨rfl, rfl⟩
    exact ⟨_, rfl, rfl, NrO.nil _ _, Fr.refl _ _⟩
  · subst hv
    have hlt := glt_cell hb
    have hgb : g ≠ bx := fun e => hbx (by rw [← e]; rfl)
    have hD := AnyE.slices_DeleteFunc (ρ := layDelInt_ren) layDelInt (Value.int .i64) one_i64 (fun x => x == n) 36 #[.pointer (some ⟨bx, 0, none⟩)] (enters_of Tryz.func36 (by kernel_rfl) rfl) 0 Tryz.zeroValue3 g 0 cap L.toArray w
      (fun W x hB => (wo1_any x ((hB.cell (p := ⟨bx, 0, none⟩) hlt).trans hb)).mono (fun e W' ⟨h1, h2⟩ => ⟨h1, 0, h2⟩))
      (fun m os dk x hs => (wo1_any x (by
        have f : Fr w (sortWorld (Value.int .i64) w g 0 m dk os) (fun k => k = g) := Fr.grown (grownBy_sortedI dk) (fun k e => by cases e; rfl)
        exact gfr_cell f (fun e => hgb e.symm) hb)).mono (fun e W' ⟨h1, h2⟩ => ⟨h1, 0, h2⟩))
      (holds_of_blockI hg (by simpa using ht)) (by simpa using hL) (by simpa using hn')
    simp only [List.size_toArray] at hD
    refine Calls.mono hD ?_
    rintro r w' ⟨rfl, q, rfl⟩
    have e0 : (L.filter fun x => !(x == n)) = woI L n := rfl
    simp only [e0]
    obtain ⟨C, hC⟩ : ∃ C, woI L n = C := ⟨_, rfl⟩
    have hcl : C.length ≤ L.length := by rw [← hC]; exact woI_le L n
    rw [hC]
    have hlen : (C ++ List.replicate (L.length - C.length) 0).length = L.length := by simp; omega
    have hR : NrO (putRow (Value.int .i64) (Sort.ahead w q) g 0 (C ++ List.replicate (L.length - C.length) 0).toArray) B (.slice (some ⟨g, 0, none⟩) (C ++ List.replicate (L.length - C.length) 0).length cap) (C ++ List.replicate (L.length - C.length) 0) := by
      have := ownsRow_sortedI (ss := L) (ts := C ++ List.replicate (L.length - C.length) 0) (os := #[]) (n := q) hlen hbg hg hn' hc hcs'
      rw [pgrow_none] at this
      refine NrO.ofRow ?_
      rw [hlen]
      exact this
    have hR2 := NrO.pre (m := C.length) hR (by omega)
    rw [List.take_left] at hR2
    refine ⟨_, rfl, rfl, hR2, ?_⟩
    have := grownBy_sortedI (w := w) (g := g) (n := q) (os := #[]) (C ++ List.replicate (L.length - C.length) 0).toArray
    rw [pgrow_none] at this
    exact Fr.grown this (fun k hk => hk)
set_option maxRecDepth 100000 in
theorem swithout {w : World} {v : Value} {L : List Int} {n : Int} (h : NrS w v L) (hL : L.length ≤ 1000000) : Calls Tryz.prog 20 #[v, .int .i64 n] w fun r w' => ∃ v', r = .returned v' ∧ NrO w' w.heap.size v' (woI L n) ∧ Below w.heap.size w w' := by
  obtain ⟨w1, hw1⟩ : ∃ w1, w1 = w.alloc (.cells #[.int .i64 n] 3) := ⟨_, rfl⟩
  have hb1 : Below w.heap.size w w1 := by rw [hw1]; exact gone_new _ _
  have hs1 : w1.heap.size = w.heap.size + 1 := by rw [hw1]; simp
  have hc1 : w1.cell? ⟨w.heap.size, 0, none⟩ = some (.int .i64 n) := by rw [hw1]; exact cell_blk (heap_alloc_new _ _)
  have hC := nclone (w := w1) (by omega) (NrS.new h hb1)
  have hD : ∀ w2 v2, IO_ w2 w1.heap.size v2 L → Below w1.heap.size w1 w2 → Calls Tryz.prog 34 #[v2, .func (.func 36) #[] #[.pointer (some ⟨w.heap.size, 0, none⟩)]] w2 fun r w' => ∃ v', r = .returned v' ∧ NrO w' w.heap.size v' (woI L n) ∧ Below w.heap.size w w' := by
    intro w2 v2 hi hb
    refine Calls.mono (ndel hi (by omega) (gnew_cell hb hc1) (fun e => ?_)) ?_
    · have := (GO.lt hi _ e).1
      omega
    · rintro r w' ⟨v', rfl, _, hr, hf⟩
      exact ⟨v', rfl, hr.low (by omega), (hb1.trans (hb.mono (by omega))).trans (hf.below (by have := hb.size; omega) (fun k hk => by have := (GO.lt hi _ hk).1; omega))⟩
  clear hb1 hs1 hc1 h
  rw [hw1] at hC hD
  clear hw1
  go_enter Tryz.func20, Tryz.ntmps20
  go_wp2_with (first
    | (go_at_call 35; refine hC.mono ?_; rintro r w2 ⟨v2, rfl, hi, hb⟩; have HD : Hid _ := hD w2 v2 hi hb; clear hi hb hC)
    | (go_at_call 34; refine Calls.mono HD.out ?_; rintro r w3 ⟨v3, rfl, h1, h2⟩; have H1 : Hid _ := h1; have H2 : Hid _ := h2; clear h1 h2))
  go_ret
  exact ⟨_, rfl, H1.out, H2.out⟩
theorem sname {n : Int} (h0 : 0 ≤ n) (h1 : n < 16) (w : World) : Calls Tryz.prog 22 #[.int .i64 n] w fun r w' => r = .returned (.string (str (fnm n))) ∧ w' = w := by
  obtain ⟨k, rfl⟩ := Int.eq_ofNat_of_zero_le h0
  have hk : k < 16 := by omega
  have hI := Any.strconv_Itoa_small (ρ := layItoa_ren) layItoa k (by omega) w
  change Calls Tryz.prog 38 _ _ _ at hI
  have e : fnm (k : Int) = [112, 97, 114, 116, 45] ++ Lib.decDigits k := by
    unfold fnm nmN
    rw [dec_small hk, Int.toNat_natCast]
  rw [e]
  have hl : (Lib.decDigits k).length ≤ 2 := by
    rw [dec_small hk]
    split <;> simp
  generalize Lib.decDigits k = D at hI hl ⊢
  have hsz : ¬ (9223372036854775807 : Nat) < 5 + D.length := by omega
  clear h0 h1 e hk hl
  go_enter Tryz.func22, Tryz.ntmps22
  go_wp2_with (go_at_call 38; refine hI.mono ?_; rintro r w1 ⟨rfl, rfl⟩)
  go_ret
  exact ⟨congrArg (fun s => Ending.returned (Value.string s)) (str_append [112, 97, 114, 116, 45] D), rfl⟩
end Go.Proofs.YtjemnkijoiehmaaGreatDoor
