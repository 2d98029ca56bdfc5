import Derived.Test.YtmpbdaogdahiiaaSpCmM
import Derived.Test.YtmpbdaogdahiiaaSpCoM
import Derived.Test.YtmpbdaogdahiiaaOrdLM
import Derived.Scope
import Derived.Test.YtmpbdaogdahiiaaSpNearM
import Derived.BigQuiet
section
/- Components on plain data: what is found from a vertex on. -/
namespace Go.Proofs.Ytmpbdaogdahiiaa
/-- A neighbour that is met: it is found, and laid on the stack, if it was not found yet. -/
def pushC (st : List Bool × List Nat) (x : Int) : List Bool × List Nat := if st.1.getD x.toNat false = true then st else (st.1.set x.toNat true, st.2 ++ [x.toNat])
def rowC (row : List Int) (st : List Bool × List Nat) : List Bool × List Nat := row.foldl pushC st
theorem getD_set_b (F : List Bool) (a u : Nat) (ha : a < F.length) : (F.set a true).getD u false = if u = a then true else F.getD u false := by
  by_cases e : u = a
  · subst e
    simp [List.getD_eq_getElem?_getD, ha]
  · simp [List.getD_eq_getElem?_getD, e, Ne.symm e]
theorem count_set_b : ∀ (F : List Bool) (a : Nat), a < F.length → F.getD a false = false → (F.set a true).count false + 1 = F.count false
  | b :: F, 0, _, h => by
    have hb : b = false := by simpa using h
    subst hb
    simp
  | b :: F, a + 1, h, h2 => by
    have ih := count_set_b F a (by simpa using h) (by simpa using h2)
    rw [List.set_cons_succ, List.count_cons, List.count_cons]
    omega
/-- What a row of neighbours does. -/
structure RC (n : Nat) (row : List Int) (F : List Bool) (O : List Nat) (F' : List Bool) (O' : List Nat) : Prop where
  len : F'.length = n
  old : ∀ u, F.getD u false = true → F'.getD u false = true
  row : ∀ x ∈ row, F'.getD x.toNat false = true
  stk : ∀ u ∈ O, u ∈ O'
  inn : ∀ u ∈ O', u ∈ O ∨ (u < n ∧ F'.getD u false = true ∧ F.getD u false = false)
  new : ∀ u, F'.getD u false = true → F.getD u false = true ∨ u ∈ O'
  cnt : O'.length + F'.count false = O.length + F.count false
theorem rowC_is (n : Nat) : ∀ (row : List Int) (F : List Bool) (O : List Nat), F.length = n → (∀ x ∈ row, ∃ j : Nat, j < n ∧ x = j) → RC n row F O (rowC row (F, O)).1 (rowC row (F, O)).2
  | [], F, O, hF, _ => ⟨hF, fun _ h => h, fun x hx => (by cases hx), fun _ h => h, fun u h => .inl h, fun u h => .inl h, rfl⟩
  | x :: row, F, O, hF, hr => by
    obtain ⟨j, hj, rfl⟩ := hr x (List.mem_cons_self ..)
    have e0 : rowC ((j : Int) :: row) (F, O) = rowC row (pushC (F, O) j) := rfl
    by_cases hf : F.getD j false = true
    · have e : pushC (F, O) j = (F, O) := if_pos hf
      rw [e0, e]
      have ih := rowC_is n row F O hF (fun y hy => hr y (List.mem_cons_of_mem _ hy))
      refine ⟨ih.len, ih.old, fun y hy => ?_, ih.stk, ih.inn, ih.new, ih.cnt⟩
      rcases List.mem_cons.1 hy with rfl | hy
      · exact ih.old _ (by simpa using hf)
      · exact ih.row y hy
    · have hff : F.getD j false = false := by simpa using hf
      have e : pushC (F, O) j = (F.set j true, O ++ [j]) := if_neg hf
      rw [e0, e]
      have ih := rowC_is n row (F.set j true) (O ++ [j]) (by simpa using hF) (fun y hy => hr y (List.mem_cons_of_mem _ hy))
      have hs := fun u => getD_set_b F j u (by omega)
      refine ⟨ih.len, fun u h => ih.old u ?_, fun y hy => ?_, fun u h => ih.stk u (by simp [h]), fun u h => ?_, fun u h => ?_, ?_⟩
      · rw [hs u]
        split
        · rfl
        · exact h
      · rcases List.mem_cons.1 hy with rfl | hy
        · exact ih.old _ (by rw [hs]; simp)
        · exact ih.row y hy
      · rcases ih.inn u h with h1 | ⟨h1, h2, h3⟩
        · rcases List.mem_append.1 h1 with h1 | h1
          · exact .inl h1
          · rw [List.mem_singleton.1 h1]
            exact .inr ⟨hj, ih.old j (by rw [hs]; simp), hff⟩
        · refine .inr ⟨h1, h2, ?_⟩
          rw [hs u] at h3
          split at h3
          · cases h3
          · exact h3
      · rcases ih.new u h with h1 | h1
        · rw [hs u] at h1
          split at h1
          · rename_i e2
            rw [e2]
            exact .inr (ih.stk j (by simp))
          · exact .inl h1
        · exact .inr h1
      · have h1 := ih.cnt
        have h2 := count_set_b F j (by omega) hff
        rw [List.length_append] at h1
        simp at h1
        omega
/-- What is found from a vertex on, while the stack is not empty. -/
structure DI (N : List (List Int)) (n i : Nat) (F0 : List Bool) (L0 : List Int) (v : Int) (F : List Bool) (O : List Nat) (L : List Int) : Prop where
  lenF : F.length = n
  lenL : L.length = n
  old : ∀ u, F0.getD u false = true → F.getD u false = true
  root : F.getD i false = true
  stk : ∀ u ∈ O, u < n ∧ F.getD u false = true ∧ F0.getD u false = false
  don : ∀ u, u < n → F.getD u false = true → F0.getD u false = false → u ∈ O ∨ (L.getD u 0 = v ∧ ∀ x ∈ N.getD u [], F.getD x.toNat false = true)
  keep : ∀ u, F0.getD u false = true → L.getD u 0 = L0.getD u 0
  cnt : O.length + F.count false ≤ n
/-- All that was found is closed, and has its least number. -/
structure CI (N : List (List Int)) (n : Nat) (I : List Int) (i : Nat) (F : List Bool) (c : Nat → Nat) (L : List Int) : Prop where
  lenF : F.length = n
  lenL : L.length = n
  all : ∀ j, j < i → F.getD j false = true
  cls : ∀ u, u < n → F.getD u false = true → ∀ a : Nat, ((a : Nat) : Int) ∈ N.getD u [] → F.getD a false = true ∧ c a = c u
  le : ∀ u, u < n → F.getD u false = true → c u ≤ u ∧ c (c u) = c u ∧ F.getD (c u) false = true ∧ L.getD u 0 = I.getD (c u) 0
section
variable {N : List (List Int)} {n i : Nat} {I : List Int} {F F0 : List Bool} {c : Nat → Nat} {L L0 : List Int} {v : Int} {O : List Nat}
theorem CI.skip (h : CI N n I i F c L) (hi : F.getD i false = true) : CI N n I (i + 1) F c L :=
  ⟨h.lenF, h.lenL, fun j hj => by
    by_cases e : j = i
    · rw [e]; exact hi
    · exact h.all j (by omega), h.cls, h.le⟩
theorem CI.start (h : CI N n I i F c L) (hn : i < n) (hi : F.getD i false = false) : DI N n i F L v (F.set i true) [i] L := by
  have hs := fun u => getD_set_b F i u (by rw [h.lenF]; exact hn)
  refine ⟨by simpa using h.lenF, h.lenL, fun u hu => ?_, by rw [hs]; simp, fun u hu => ?_, fun u _ hu h0 => ?_, fun _ _ => rfl, ?_⟩
  · rw [hs u]
    split
    · rfl
    · exact hu
  · rw [List.mem_singleton.1 hu]
    exact ⟨hn, by rw [hs]; simp, hi⟩
  · rw [hs u] at hu
    split at hu
    · rename_i e
      exact .inl (by simp [e])
    · rw [h0] at hu; cases hu
  · have h1 := count_set_b F i (by rw [h.lenF]; exact hn) hi
    have h2 : F.count false ≤ F.length := List.count_le_length
    have h3 := h.lenF
    simp
    omega
theorem DI.pop {at_ : Nat} (hR : Rows2 N n) (h : DI N n i F0 L0 v F (O ++ [at_]) L) : DI N n i F0 L0 v (rowC (N.getD at_ []) (F, O)).1 (rowC (N.getD at_ []) (F, O)).2 (L.set at_ v) := by
  obtain ⟨ha, haF, ha0⟩ := h.stk at_ (by simp)
  have rc := rowC_is n (N.getD at_ []) F O h.lenF (hR.nat at_ ha)
  have hsl : ∀ u, (L.set at_ v).getD u 0 = if u = at_ then v else L.getD u 0 := fun u => by
    by_cases e : u = at_
    · subst e
      simp [List.getD_eq_getElem?_getD, h.lenL, ha]
    · simp [List.getD_eq_getElem?_getD, e, Ne.symm e]
  refine ⟨rc.len, by simpa using h.lenL, fun u hu => rc.old u (h.old u hu), rc.old i h.root, fun u hu => ?_, fun u hun hu h0 => ?_, fun u hu => ?_, ?_⟩
  · rcases rc.inn u hu with h1 | ⟨h1, h2, h3⟩
    · obtain ⟨k1, k2, k3⟩ := h.stk u (by simp [h1])
      exact ⟨k1, rc.old u k2, k3⟩
    · refine ⟨h1, h2, ?_⟩
      by_cases e : F0.getD u false = true
      · rw [h.old u e] at h3; cases h3
      · simpa using e
  · rcases rc.new u hu with h1 | h1
    · rcases h.don u hun h1 h0 with h2 | ⟨h2, h3⟩
      · rcases List.mem_append.1 h2 with h2 | h2
        · exact .inl (rc.stk u h2)
        · have e := List.mem_singleton.1 h2
          right
          rw [hsl u, if_pos e]
          exact ⟨rfl, fun x hx => rc.row x (by rw [← e]; exact hx)⟩
      · right
        refine ⟨?_, fun x hx => rc.old _ (h3 x hx)⟩
        rw [hsl u]
        split
        · rfl
        · exact h2
    · exact .inl h1
  · rw [hsl u, if_neg (fun e => by rw [e, ha0] at hu; cases hu)]
    exact h.keep u hu
  · have h1 := rc.cnt
    have h2 := h.cnt
    rw [List.length_append] at h2
    simp at h2
    omega
theorem DI.done (hR : Rows2 N n) (hC : CI N n I i F0 c L0) (h0 : F0.getD i false = false) (h : DI N n i F0 L0 (I.getD i 0) F [] L) : CI N n I (i + 1) F (fun u => if F0.getD u false = true then c u else i) L := by
  have inS : ∀ u : Nat, u < n → F.getD u false = true → ∀ a : Nat, ((a : Nat) : Int) ∈ N.getD u [] → a < n := fun u hu _ a ha => by
    obtain ⟨j, hj, e⟩ := hR.nat u hu _ ha
    omega
  refine ⟨h.lenF, h.lenL, fun j hj => ?_, fun u hu hf a ha => ?_, fun u hu hf => ?_⟩
  · by_cases e : j = i
    · rw [e]; exact h.root
    · exact h.old j (hC.all j (by omega))
  · have han := inS u hu hf a ha
    by_cases e : F0.getD u false = true
    · obtain ⟨k1, k2⟩ := hC.cls u hu e a ha
      refine ⟨h.old a k1, ?_⟩
      simp only [k1, e, if_true]
      exact k2
    · have e' : F0.getD u false = false := by simpa using e
      rcases h.don u hu hf e' with k | ⟨_, k⟩
      · cases k
      · have k1 := k _ ha
        have hna : ¬ F0.getD a false = true := fun ea => e (hC.cls a han ea u (hR.sym u a hu han ha)).1
        refine ⟨by simpa using k1, ?_⟩
        show (if F0.getD a false = true then c a else i) = (if F0.getD u false = true then c u else i)
        rw [if_neg hna, if_neg e]
  · by_cases e : F0.getD u false = true
    · obtain ⟨k1, k2, k3, k4⟩ := hC.le u hu e
      simp only [e, if_true]
      refine ⟨k1, ?_, h.old _ k3, (h.keep u e).trans k4⟩
      simp only [k3, if_true]
      exact k2
    · have e' : F0.getD u false = false := by simpa using e
      have hiu : i ≤ u := by
        by_cases hlt : u < i
        · exact absurd (hC.all u hlt) e
        · omega
      have h0' : ¬ F0.getD i false = true := by rw [h0]; simp
      show (if F0.getD u false = true then c u else i) ≤ u ∧ (fun u => if F0.getD u false = true then c u else i) (if F0.getD u false = true then c u else i) = (if F0.getD u false = true then c u else i) ∧ F.getD (if F0.getD u false = true then c u else i) false = true ∧ L.getD u 0 = I.getD (if F0.getD u false = true then c u else i) 0
      rw [if_neg e]
      refine ⟨hiu, if_neg h0', h.root, ?_⟩
      rcases h.don u hu hf e' with k | ⟨k, _⟩
      · cases k
      · exact k
theorem CI.none (n : Nat) (N : List (List Int)) (I : List Int) : CI N n I 0 (List.replicate n false) (fun u => u) (List.replicate n 0) :=
  ⟨by simp, by simp, fun j hj => by omega, fun u hu h => by simp [List.getD_eq_getElem?_getD, hu] at h, fun u hu h => by simp [List.getD_eq_getElem?_getD, hu] at h⟩
end
end Go.Proofs.Ytmpbdaogdahiiaa
end

section
/- Region 2 of Components: two rows are made, in any order. -/
namespace Go.Proofs.Ytmpbdaogdahiiaa
open Go.RowKit Go.Shelf
attribute [local go_sem] Oper.semAt_some
/-- A block of truths, of one's own. -/
def BB (W : World) (m : Nat) (L : List Bool) : Prop := W.heap[m]? = some (.cells (L.map Value.bool).toArray 4 (0, 0))
theorem BB.lt {W : World} {m : Nat} {L : List Bool} (h : BB W m L) : m < W.heap.size := lt_of_block h
theorem BB.cell {W : World} {m : Nat} {L : List Bool} (h : BB W m L) {j : Nat} (hj : j < L.length) : W.cell? ⟨m, j, none⟩ = some (.bool L[j]) ∧ W.frozen? ⟨m, j, none⟩ = false := by
  unfold BB at h
  constructor
  · simp [World.cell?, h, hj]
  · simp [World.frozen?, h]
theorem BB.set {W : World} {m : Nat} {L : List Bool} (h : BB W m L) (j : Nat) (x : Bool) : BB (W.setCell ⟨m, j, none⟩ (.bool x)) m (L.set j x) := by
  unfold BB at h ⊢
  rw [set_heap h, List.setIfInBounds_toArray, List.map_set]
theorem BB.kept {W W' : World} {m : Nat} {L : List Bool} {S : Nat → Prop} (h : BB W m L) (f : Fr W W' S) (hs : ¬ S m) : BB W' m L := (f.block m h.lt hs).trans h
theorem BB.new {W W' : World} {m : Nat} {L : List Bool} (h : BB W m L) (hb : Below W.heap.size W W') : BB W' m L := (hb.block m h.lt).trans h
theorem BB.made (W : World) (n : Nat) : BB (W.alloc (.cells (madeCells #[.bool false] n) 4)) W.heap.size (List.replicate n false) := by
  unfold BB
  rw [heap_alloc_new]
  have : madeCells #[Value.bool false] n = ((List.replicate n false).map Value.bool).toArray := by
    apply Array.ext
    · rw [size_madeCells]; simp
    · intro i h1 h2
      simp [madeCells, Nat.mod_one]
  rw [this]
theorem lt_of_cell0 {W : World} {q : Nat} {v : Value} (h : W.cell? ⟨q, 0, none⟩ = some v) : q < W.heap.size := by
  unfold World.cell? at h
  cases h2 : W.heap[q]? with
  | none => simp [h2] at h
  | some o => exact lt_of_block h2
def regionOfS (n : Nat) : Code → Option Code
  | .region m ops d => if m = n then some (.region m ops d) else none
  | .loop c => regionOfS n c
  | .seq a b => match regionOfS n a with
    | some c => some c
    | none => regionOfS n b
  | .block _ c => regionOfS n c
  | .scope c => regionOfS n c
  | .cond _ a b => match regionOfS n a with
    | some c => some c
    | none => regionOfS n b
  | _ => none
theorem then_falseS {K : Act → World → Prop} {Q' : Exit → Act → World → Prop} : ∀ e a w, Exit.then K (fun _ _ _ => False) e a w → Exit.then K Q' e a w := by
  intro e a w h
  cases e with
  | normal => exact h
  | _ => exact h.elim
set_option linter.unusedSimpArgs false in
set_option maxRecDepth 100000 in
set_option maxHeartbeats 1000000 in
theorem comp_r2 {wr : World} {ds : List Deferred} {wb gi n ci : Nat} {z0 z1 z2 z4 z5 z6 z7 z8 z9 z10 z11 z12 z13 z14 z15 z16 z17 z18 z19 z20 z21 z22 z23 z24 z25 z26 z27 z28 z29 z30 z31 z32 z33 z34 z35 z36 z37 z38 z39 z40 z41 z42 z43 z44 z45 z46 z47 z48 z49 z50 z51 z52 z53 z54 z55 z56 z57 z58 z59 z60 z61 z62 z63 z64 z65 z66 z67 z68 z69 z70 z71 z72 z73 z74 z75 z76 z77 z78 z79 z80 z81 : Value} {K : Act → World → Prop} {Q' : Exit → Act → World → Prop}
    (hS0 : wr.cell? ⟨wb, 0, none⟩ = some (.slice (some ⟨gi, 0, none⟩) n ci))
    (hm1 : ∀ W : World, (Instr.makeSlice 36 (.int .i64 (n : Int)) (.int .i64 (n : Int))).run Try.prog W = .ok (.slice (some ⟨W.heap.size, 0, none⟩) n n) (W.alloc (.cells (madeCells #[.int .i64 0] n) 2)))
    (hm2 : ∀ W : World, (Instr.makeSlice 78 (.int .i64 (n : Int)) (.int .i64 (n : Int))).run Try.prog W = .ok (.slice (some ⟨W.heap.size, 0, none⟩) n n) (W.alloc (.cells (madeCells #[.bool false] n) 4)))
    (HC : ∀ (wx : World) (m f : Nat) (u14 u15 u16 u17 u18 u19 u20 u21 : Value), Below wr.heap.size wr wx → wr.heap.size ≤ m → wr.heap.size ≤ f → m ≠ f → IB wx m (List.replicate n 0) → BB wx f (List.replicate n false) → K ⟨(List.toArray (z0 :: z1 :: z2 :: (.pointer (some ⟨wb, 0, none⟩)) :: (.slice (some ⟨m, 0, none⟩) n n) :: (.slice (some ⟨f, 0, none⟩) n n) :: z6 :: z7 :: z8 :: z9 :: z10 :: z11 :: z12 :: z13 :: u14 :: u15 :: u16 :: u17 :: u18 :: u19 :: u20 :: u21 :: z22 :: z23 :: z24 :: z25 :: z26 :: z27 :: z28 :: z29 :: z30 :: z31 :: z32 :: z33 :: z34 :: z35 :: z36 :: z37 :: z38 :: z39 :: z40 :: z41 :: z42 :: z43 :: z44 :: z45 :: z46 :: z47 :: z48 :: z49 :: z50 :: z51 :: z52 :: z53 :: z54 :: z55 :: z56 :: z57 :: z58 :: z59 :: z60 :: z61 :: z62 :: z63 :: z64 :: z65 :: z66 :: z67 :: z68 :: z69 :: z70 :: z71 :: z72 :: z73 :: z74 :: z75 :: z76 :: z77 :: z78 :: z79 :: z80 :: z81 :: [])), ds⟩ wx) :
    Code.wp Try.prog ((Try.f12.body.bind (regionOfS 2)).getD .skip) (Exit.then K Q') ⟨(List.toArray (z0 :: z1 :: z2 :: (.pointer (some ⟨wb, 0, none⟩)) :: z4 :: z5 :: z6 :: z7 :: z8 :: z9 :: z10 :: z11 :: z12 :: z13 :: z14 :: z15 :: z16 :: z17 :: z18 :: z19 :: z20 :: z21 :: z22 :: z23 :: z24 :: z25 :: z26 :: z27 :: z28 :: z29 :: z30 :: z31 :: z32 :: z33 :: z34 :: z35 :: z36 :: z37 :: z38 :: z39 :: z40 :: z41 :: z42 :: z43 :: z44 :: z45 :: z46 :: z47 :: z48 :: z49 :: z50 :: z51 :: z52 :: z53 :: z54 :: z55 :: z56 :: z57 :: z58 :: z59 :: z60 :: z61 :: z62 :: z63 :: z64 :: z65 :: z66 :: z67 :: z68 :: z69 :: z70 :: z71 :: z72 :: z73 :: z74 :: z75 :: z76 :: z77 :: z78 :: z79 :: z80 :: z81 :: [])), ds⟩ wr := by
  have HH : Hid _ := HC
  clear HC
  refine wp_mono (Q := Exit.then K (fun _ _ _ => False)) ?_ then_falseS
  conv => arg 2; whnf
  obtain ⟨Wd, hWd⟩ : ∃ Wd, wr.drew = Wd := ⟨_, rfl⟩
  have bd : Below wr.heap.size wr Wd := by rw [← hWd]; exact Below.drew (Below.refl _ _)
  have HDs : Hid (Wd.heap.size = wr.heap.size) := by show _ = _; rw [← hWd]; rfl
  have hS : (fun w' : World => w'.cell? ⟨wb, 0, none⟩ = some (.slice (some ⟨gi, 0, none⟩) n ci)) Wd := by rw [← hWd]; exact hS0
  refine wp_region_L [] (fun w' : World => w'.cell? ⟨wb, 0, none⟩ = some (.slice (some ⟨gi, 0, none⟩) n ci)) (by kernel_rfl) ?_
  rw [hWd]
  clear hWd
  refine wpAnyL_take (i := 0) 14 (v := .pointer (some ⟨wb, 0, none⟩)) rfl rfl (by kernel_rfl) (by kernel_rfl) (by kernel_rfl) (by kernel_rfl) (by kernel_rfl) (by kernel_rfl) (fun _ _ _ h => h) hS (by rfl) (by intro w' hSw; have y0 := hSw; go_simp <;> with_reducible rfl) ?_
  simp only [Act.put, List.setIfInBounds_toArray, List.set_cons_zero, List.set_cons_succ]
  refine wpAnyL_take (i := 1) 15 (v := .slice (some ⟨gi, 0, none⟩) n ci) rfl rfl (by kernel_rfl) (by kernel_rfl) (by kernel_rfl) (by kernel_rfl) (by kernel_rfl) (by kernel_rfl) (fun _ _ _ h => h) hS (by rfl) (by intro w' hSw; have y0 := hSw; go_simp <;> with_reducible rfl) ?_
  simp only [Act.put, List.setIfInBounds_toArray, List.set_cons_zero, List.set_cons_succ]
  refine wpAnyL_take (i := 2) 16 (v := .int .i64 (n : Int)) rfl rfl (by kernel_rfl) (by kernel_rfl) (by kernel_rfl) (by kernel_rfl) (by kernel_rfl) (by kernel_rfl) (fun _ _ _ h => h) hS (by rfl) (by intro w' hSw; have y0 := hSw; go_simp <;> with_reducible rfl) ?_
  simp only [Act.put, List.setIfInBounds_toArray, List.set_cons_zero, List.set_cons_succ]
  refine wpAnyL_take (i := 4) 18 (v := .pointer (some ⟨wb, 0, none⟩)) rfl rfl (by kernel_rfl) (by kernel_rfl) (by kernel_rfl) (by kernel_rfl) (by kernel_rfl) (by kernel_rfl) (fun _ _ _ h => h) hS (by rfl) (by intro w' hSw; have y0 := hSw; go_simp <;> with_reducible rfl) ?_
  simp only [Act.put, List.setIfInBounds_toArray, List.set_cons_zero, List.set_cons_succ]
  refine wpAnyL_take (i := 5) 19 (v := .slice (some ⟨gi, 0, none⟩) n ci) rfl rfl (by kernel_rfl) (by kernel_rfl) (by kernel_rfl) (by kernel_rfl) (by kernel_rfl) (by kernel_rfl) (fun _ _ _ h => h) hS (by rfl) (by intro w' hSw; have y0 := hSw; go_simp <;> with_reducible rfl) ?_
  simp only [Act.put, List.setIfInBounds_toArray, List.set_cons_zero, List.set_cons_succ]
  refine wpAnyL_take (i := 6) 20 (v := .int .i64 (n : Int)) rfl rfl (by kernel_rfl) (by kernel_rfl) (by kernel_rfl) (by kernel_rfl) (by kernel_rfl) (by kernel_rfl) (fun _ _ _ h => h) hS (by rfl) (by intro w' hSw; have y0 := hSw; go_simp <;> with_reducible rfl) ?_
  simp only [Act.put, List.setIfInBounds_toArray, List.set_cons_zero, List.set_cons_succ]
  refine wpAnyL_two (i := 3) (j := 7) (by kernel_rfl) rfl rfl ?_ ?_
  · intro K1 hK1
    have e1 := hm1 Wd
    go_simp
    generalize hX : World.alloc _ _ = X1
    have b1 : Below Wd.heap.size Wd X1 := by rw [← hX]; exact one_new _ _
    have h1 : IB X1 Wd.heap.size (List.replicate n 0) := by rw [← hX]; exact IB.made _ _
    have hS1 : (fun w' : World => w'.cell? ⟨wb, 0, none⟩ = some (.slice (some ⟨gi, 0, none⟩) n ci)) X1 := (b1.cell (p := ⟨wb, 0, none⟩) (lt_of_cell0 hS)).trans hS
    refine hK1.out _ _ (fun _ => hS1) ?_
    clear hK1 K1 hX e1
    try simp only [Act.put, List.setIfInBounds_toArray, List.set_cons_zero, List.set_cons_succ]
    refine wpAnyL_take (i := 8) 4 (v := .slice (some ⟨Wd.heap.size, 0, none⟩) n n) rfl rfl (by kernel_rfl) (by kernel_rfl) (by kernel_rfl) (by kernel_rfl) (by kernel_rfl) (by kernel_rfl) (fun _ _ _ h => h) hS1 (by rfl) (by intro w' hSw; go_simp <;> with_reducible rfl) ?_
    simp only [Act.put, List.setIfInBounds_toArray, List.set_cons_zero, List.set_cons_succ]
    refine wpAnyL_one (i := 7) (by kernel_rfl) rfl (fun K1 hK1 => ?_)
    have e1 := hm2 X1
    go_simp
    generalize hX : World.alloc _ _ = X2
    have b2 : Below X1.heap.size X1 X2 := by rw [← hX]; exact one_new _ _
    have h2 : BB X2 X1.heap.size (List.replicate n false) := by rw [← hX]; exact BB.made _ _
    have hS2 : (fun w' : World => w'.cell? ⟨wb, 0, none⟩ = some (.slice (some ⟨gi, 0, none⟩) n ci)) X2 := (b2.cell (p := ⟨wb, 0, none⟩) (lt_of_cell0 hS1)).trans hS1
    refine hK1.out _ _ (fun _ => hS2) ?_
    clear hK1 K1 hX e1
    try simp only [Act.put, List.setIfInBounds_toArray, List.set_cons_zero, List.set_cons_succ]
    refine wpAnyL_take (i := 9) 5 (v := .slice (some ⟨X1.heap.size, 0, none⟩) n n) rfl rfl (by kernel_rfl) (by kernel_rfl) (by kernel_rfl) (by kernel_rfl) (by kernel_rfl) (by kernel_rfl) (fun _ _ _ h => h) hS2 (by rfl) (by intro w' hSw; go_simp <;> with_reducible rfl) ?_
    simp only [Act.put, List.setIfInBounds_toArray, List.set_cons_zero, List.set_cons_succ]
    have hs1 := b1.size
    have hs2 := h1.lt
    have hd := HDs.out
    refine wpAnyL_done (by kernel_rfl) ?_ _
    exact HH.out _ _ _ _ _ _ _ _ _ _ _ (bd.trans ((b1.trans (b2.mono hs1)).mono (by omega))) (by omega) (by omega) (by omega) (h1.new b2) h2
  · intro K1 hK1
    have e1 := hm2 Wd
    go_simp
    generalize hX : World.alloc _ _ = X1
    have b1 : Below Wd.heap.size Wd X1 := by rw [← hX]; exact one_new _ _
    have h1 : BB X1 Wd.heap.size (List.replicate n false) := by rw [← hX]; exact BB.made _ _
    have hS1 : (fun w' : World => w'.cell? ⟨wb, 0, none⟩ = some (.slice (some ⟨gi, 0, none⟩) n ci)) X1 := (b1.cell (p := ⟨wb, 0, none⟩) (lt_of_cell0 hS)).trans hS
    refine hK1.out _ _ (fun _ => hS1) ?_
    clear hK1 K1 hX e1
    try simp only [Act.put, List.setIfInBounds_toArray, List.set_cons_zero, List.set_cons_succ]
    refine wpAnyL_one (i := 3) (by kernel_rfl) rfl (fun K1 hK1 => ?_)
    have e1 := hm1 X1
    go_simp
    generalize hX : World.alloc _ _ = X2
    have b2 : Below X1.heap.size X1 X2 := by rw [← hX]; exact one_new _ _
    have h2 : IB X2 X1.heap.size (List.replicate n 0) := by rw [← hX]; exact IB.made _ _
    have hS2 : (fun w' : World => w'.cell? ⟨wb, 0, none⟩ = some (.slice (some ⟨gi, 0, none⟩) n ci)) X2 := (b2.cell (p := ⟨wb, 0, none⟩) (lt_of_cell0 hS1)).trans hS1
    refine hK1.out _ _ (fun _ => hS2) ?_
    clear hK1 K1 hX e1
    try simp only [Act.put, List.setIfInBounds_toArray, List.set_cons_zero, List.set_cons_succ]
    refine wpAnyL_take (i := 8) 4 (v := .slice (some ⟨X1.heap.size, 0, none⟩) n n) rfl rfl (by kernel_rfl) (by kernel_rfl) (by kernel_rfl) (by kernel_rfl) (by kernel_rfl) (by kernel_rfl) (fun _ _ _ h => h) hS2 (by rfl) (by intro w' hSw; go_simp <;> with_reducible rfl) ?_
    simp only [Act.put, List.setIfInBounds_toArray, List.set_cons_zero, List.set_cons_succ]
    refine wpAnyL_take (i := 9) 5 (v := .slice (some ⟨Wd.heap.size, 0, none⟩) n n) rfl rfl (by kernel_rfl) (by kernel_rfl) (by kernel_rfl) (by kernel_rfl) (by kernel_rfl) (by kernel_rfl) (fun _ _ _ h => h) hS2 (by rfl) (by intro w' hSw; go_simp <;> with_reducible rfl) ?_
    simp only [Act.put, List.setIfInBounds_toArray, List.set_cons_zero, List.set_cons_succ]
    have hs1 := b1.size
    have hs2 := h1.lt
    have hd := HDs.out
    refine wpAnyL_done (by kernel_rfl) ?_ _
    exact HH.out _ _ _ _ _ _ _ _ _ _ _ (bd.trans ((b1.trans (b2.mono hs1)).mono (by omega))) (by omega) (by omega) (by omega) h2 (h1.new b2)
end Go.Proofs.Ytmpbdaogdahiiaa
end

section
/- spec.Components. -/
namespace Go.Proofs.Ytmpbdaogdahiiaa
open Go.RowKit Go.Shelf
attribute [local go_sem] Oper.semAt_some
theorem infoCb : (Try.prog.info? 4).map (fun i => (i.zero, i.size, i.bytes)) = some (some (.bool false), 1, 1) := by kernel_rfl
def natsI (O : List Nat) : List Int := List.map (fun u : Nat => (u : Int)) O
theorem rw_pop {w : World} {te : TypeId} {base : Nat} {v : Value} {L : List Int} {x : Int} (h : RwI w te base v (L ++ [x])) : ∃ g c, v = .slice (some ⟨g, 0, none⟩) (L.length + 1) c ∧ L.length + 1 ≤ c ∧ base ≤ g ∧ w.cell? ⟨g, L.length, none⟩ = some (.int .i64 x) ∧ RwI w te base (.slice (some ⟨g, 0, none⟩) L.length c) L := by
  have e : (L ++ [x]).length = L.length + 1 := by simp
  rcases h.2 with ⟨_, h0⟩ | ⟨g, c, cur, rfl, h1, h2, h3, h4, h5, h6⟩
  · rw [e] at h0; cases h0
  · have h7 := congrArg (List.take (L.length * 1)) h6
    obtain ⟨_, h8⟩ := ri_at h
    obtain ⟨g', hg', _, h9⟩ := h8 (by rw [e]; omega)
    cases hg'
    have h10 := (h9 L.length (by rw [e]; omega)).1
    refine ⟨g, c, by rw [e], by rw [e] at h3; exact h3, h1, by simpa using h10, by simp, .inr ⟨g, c, cur, rfl, h1, h2, by rw [e] at h3; omega, h4, h5, ?_⟩⟩
    rw [List.take_take, e] at h7
    rw [show min (L.length * 1) ((L.length + 1) * 1) = L.length * 1 by omega] at h7
    rw [h7]
    simp
theorem rowC_snoc (row : List Int) (x : Int) (st : List Bool × List Nat) : rowC (row ++ [x]) st = pushC (rowC row st) x := by
  unfold rowC
  rw [List.foldl_append]
  rfl
theorem rowC_take {row : List Int} {k : Nat} (h : k < row.length) (st : List Bool × List Nat) : rowC (row.take (k + 1)) st = pushC (rowC (row.take k) st) row[k] := by
  rw [List.take_add_one, List.getElem?_eq_getElem h]
  exact rowC_snoc _ _ _
/-- How many are not found, in memory. -/
def cfW (f : Nat) (w : World) : Nat :=
  match w.heap[f]? with
  | some (.cells cs _ _) => cs.toList.countP (fun v => match v with | .bool false => true | _ => false)
  | _ => 0
theorem cfW_is {W : World} {f : Nat} {F : List Bool} (h : BB W f F) : cfW f W = F.count false := by
  unfold BB at h
  unfold cfW List.count
  rw [h]
  simp only [List.countP_map]
  congr 1
  funext b
  cases b <;> rfl
def slLen : Value → Nat
  | .slice _ n _ => n
  | _ => 0
theorem slLen_is {w : World} {te : TypeId} {base : Nat} {v : Value} {L : List Int} (h : RwI w te base v L) : slLen v = L.length := by
  rcases h.2 with ⟨h1, h0⟩ | ⟨g, c, cur, h1, _⟩
  · rw [h1, h0]; rfl
  · rw [h1]; rfl
set_option maxRecDepth 100000 in
set_option maxHeartbeats 1600000 in
theorem components_any {w : World} {P : Nat → Prop} {ao : Option Addr} {G : List Vx} (cap : Nat) (h : VxAt w P ao G) (hok : ∀ v ∈ G, v.ok) (hr : Rise (ids G)) (hth : thereE G = true) (hl : G.length ≤ 256) (he : (evs G).length ≤ 2048) :
    Calls Try.prog 12 #[.agg #[.slice ao G.length cap]] w fun r w' => (∃ m L c F, r = .returned (.slice (some ⟨m, 0, none⟩) G.length G.length) ∧ IB w' m L ∧ CI (nearR G) G.length (ids G) G.length F c L ∧ w.heap.size ≤ m) ∧ Below w.heap.size w w' := by
  obtain ⟨i0, hi, hz0, hz1, hz2⟩ := info_parts infoSI
  obtain ⟨j0, hj, hy0, hy1, hy2⟩ := info_parts infoCb
  obtain ⟨k0, hk, hx0, hx1, hx2⟩ := info_parts infoSN
  have HRow : Hid (∀ i, i < G.length → ((nearR G).getD i []).length ≤ 4096) := fun i hi => (nearR_row hr hth he hi).2.1
  have HR2 : Hid (Rows2 (nearR G) G.length) := rows2_near hr hth he
  have HWv : Hid (∀ W, Below w.heap.size w W → Calls Try.prog 31 #[.agg #[.slice ao G.length cap]] W fun r w' => (∃ gi ci g1 g2 B, r = .returned (.agg #[.slice (some ⟨gi, 0, none⟩) G.length ci, .slice (some ⟨g1, 0, none⟩) G.length G.length, .slice (some ⟨g2, 0, none⟩) G.length G.length]) ∧ WebAt w' W.heap.size gi ci g1 g2 B G.length (ids G) (foldW (ids G) G.length (evs G)).1 (nearR G)) ∧ Below W.heap.size W w') := fun W hb => weave_any cap (h.new hb) hok hr hth hl he
  have hNl := nearR_len G
  generalize (foldW (ids G) G.length (evs G)).1 = O at HWv
  generalize nearR G = N at HRow HR2 HWv hNl ⊢
  generalize ids G = I at HWv ⊢
  obtain ⟨n, hn⟩ : ∃ n, G.length = n := ⟨_, rfl⟩
  rw [hn] at HRow HR2 HWv hNl hl ⊢
  have HM1 : Hid (∀ W : World, (Instr.makeSlice 36 (.int .i64 (n : Int)) (.int .i64 (n : Int))).run Try.prog W = .ok (.slice (some ⟨W.heap.size, 0, none⟩) n n) (W.alloc (.cells (madeCells #[.int .i64 0] n) 2))) := fun W => by
    have := run_make (P := Try.prog) W 36 2 i0 (.int .i64 0) Try.underlying36 hi hz0 .i64 .i64 n n (by omega) (by omega) (by rw [hz2]; omega) (by omega)
    simpa [hz1, Value.cells] using this
  have HM2 : Hid (∀ W : World, (Instr.makeSlice 78 (.int .i64 (n : Int)) (.int .i64 (n : Int))).run Try.prog W = .ok (.slice (some ⟨W.heap.size, 0, none⟩) n n) (W.alloc (.cells (madeCells #[.bool false] n) 4))) := fun W => by
    have := run_make (P := Try.prog) W 78 4 j0 (.bool false) Try.underlying78 hj hy0 .i64 .i64 n n (by omega) (by omega) (by rw [hy2]; omega) (by omega)
    simpa [hy1, Value.cells] using this
  clear h hok hr hth he hn hi hz0 hz1 hz2 hj hy0 hy1 hy2
  go_enter Try.func12, Try.ntmps12
  go_upto_region 2 with (go_at_call 31; refine (HWv.out _ (one_new _ _)).mono ?_; rintro r w1 ⟨⟨gi, ci, g1, g2, B, rfl, hw1⟩, hb1⟩)
  obtain ⟨vs, hM⟩ := hw1.nm
  have hs1 := hb1.size
  rw [World.size_alloc] at hs1
  have hId := hw1.idr
  generalize hW1 : World.alloc w1 _ = W1
  have hbW : Below w1.heap.size w1 W1 := by rw [← hW1]; exact one_new _ _
  have hWb : W1.heap[w1.heap.size]? = some (.cells #[.slice (some ⟨gi, 0, none⟩) n ci, .slice (some ⟨g1, 0, none⟩) n n, .slice (some ⟨g2, 0, none⟩) n n] 76 (0, 0)) := by rw [← hW1]; exact heap_alloc_new _ _
  clear hW1
  have hwW := lt_of_block hWb
  have hgi : gi < w1.heap.size := by
    obtain ⟨cs, t, f, hh⟩ := own_cells hId (k := gi) rfl
    exact lt_of_block hh
  have hg2 := lt_of_block hM.blk
  refine comp_r2 (wb := w1.heap.size) (gi := gi) (n := n) (ci := ci) (by simp [World.cell?, hWb]) HM1.out HM2.out ?_
  intro W2 m f u14 u15 u16 u17 u18 u19 u20 u21 hbx hm hf hne hI0 hB0
  have HI0 : Hid (IB W2 m (List.replicate n 0)) := hI0
  have HB0 : Hid (BB W2 f (List.replicate n false)) := hB0
  have hb12 : Below w1.heap.size w1 W2 := hbW.trans (hbx.mono hbW.size)
  have HM : Hid (Mat W2 3 79 1 encI1 B g2 vs N) := hM.kept (Fr.ofBelow hb12 (fun _ => False)) (fun h => h) (fun _ _ h => h)
  have HId : Hid (RwI W2 2 (w.heap.size + 1) (.slice (some ⟨gi, 0, none⟩) n ci) I) := by
    have := ri_fr hId (Fr.ofBelow hb12 (fun _ => False)) (fun _ _ h => h)
    rw [World.size_alloc] at this
    exact this
  have HWb : Hid (W2.heap[w1.heap.size]? = some (.cells #[.slice (some ⟨gi, 0, none⟩) n ci, .slice (some ⟨g1, 0, none⟩) n n, .slice (some ⟨g2, 0, none⟩) n n] 76 (0, 0))) := (hbx.block _ hwW).trans hWb
  have HBe : Hid (Below w.heap.size w W2) := ((one_new w _).trans (hb1.mono (by rw [World.size_alloc]; omega))).trans (hb12.mono (by omega))
  have hmB := hI0.lt
  have hfB := hB0.lt
  have HMl : Hid (∀ k, rowsB vs k → k < w1.heap.size) := fun k hk => (hM.lt hk).2
  have hsW := hbW.size
  have hws := hbx.size
  have c0 : W2.cell? ⟨w1.heap.size, 0, none⟩ = some (.slice (some ⟨gi, 0, none⟩) n ci) := by simp [World.cell?, HWb.out]
  have c2 : W2.cell? ⟨w1.heap.size, 2, none⟩ = some (.slice (some ⟨g2, 0, none⟩) n n) := by simp [World.cell?, HWb.out]
  have hmw : w1.heap.size < m := by omega
  have hfw : w1.heap.size < f := by omega
  have hmx : w.heap.size ≤ m := by omega
  have hfx : w.heap.size ≤ f := by omega
  have hgw : gi < w1.heap.size ∧ g2 < w1.heap.size := ⟨hgi, hg2⟩
  have HC2 : Hid (W2.cell? ⟨w1.heap.size, 2, none⟩ = some (.slice (some ⟨g2, 0, none⟩) n n)) := c2
  generalize w1.heap.size = wb at *
  clear hI0 hB0 hb12 hM hId hWb hwW hbW hbx hb1 hw1 HWv HM1 HM2 hs1 hsW hws hgi hg2 c2
  go_wp2
  clear c0
  go_loopw [6, 7, 8, 9, 11, 25] (fun _ _ _ _ _ i wr => ∃ (j : Nat) (F : List Bool) (c : Nat → Nat) (L : List Int), j ≤ n ∧ i = .int .i64 j ∧ Hid (CI N n I j F c L) ∧ Hid (BB wr f F) ∧ Hid (IB wr m L) ∧ Hid (Fr W2 wr (fun k => k = m ∨ k = f))) (fun _ _ _ _ _ i _ => n - (intOf i).toNat)
  case atStart => exact ⟨0, _, _, _, Nat.zero_le _, rfl, CI.none n N I, HB0.out, HI0.out, Fr.refl _ _⟩
  case round =>
    obtain ⟨j, F, c, L, hj, rfl, HC, HBF, HIL, HF⟩ := hrel
    by_cases hlt : j < n
    · obtain ⟨e1, hcc⟩ := ri_at HId.out
      have hjI : j < I.length := by omega
      obtain ⟨g', hg', _, hcs⟩ := hcc (by omega)
      cases hg'
      have d0 := fr_cell HF.out (by show ¬ (_ ∨ _); omega) (hcs j hjI).1
      have HGd : Hid (I.getD j 0 = I[j]) := by show _ = _; simp [List.getD, hjI]
      generalize I[j] = id at d0 HGd
      have hjF : j < F.length := by rw [HC.out.lenF]; exact hlt
      obtain ⟨a0, a1⟩ := BB.cell HBF.out hjF
      have HGf : Hid (F.getD j false = (F)[j]) := by show _ = _; simp [List.getD, hjF]
      generalize (F)[j] = b at a0 HGf
      clear hcc hcs e1
      cases b
      · go_wp2
        generalize hX1 : World.setCell _ _ _ = X1
        have HB1 : Hid (BB X1 f (F.set j true)) := by rw [← hX1]; exact BB.set HBF.out _ _
        have HI1 : Hid (IB X1 m L) := by rw [← hX1]; exact IB.kept HIL.out (Fr.setCell (S := fun k => k = f) _ _ _ rfl) (by show ¬ _ = _; omega)
        have HF1 : Hid (Fr W2 X1 (fun k => k = m ∨ k = f)) := by rw [← hX1]; exact HF.out.trans (Fr.setCell (S := fun k => k = m ∨ k = f) _ _ _ (.inr rfl)) (fun _ _ h => h)
        generalize hX2 : World.alloc X1 _ = X2
        have hbn : Below X1.heap.size X1 X2 := by rw [← hX2]; exact one_new _ _
        have hsz : X1.heap.size = wr.heap.size := by rw [← hX1]; simp
        have HO2 : Hid (RwI X2 3 W2.heap.size (.slice (some ⟨wr.heap.size, 0, none⟩) 1 1) (natsI [j])) := by
          rw [← hX2, ← hsz]
          exact ⟨rfl, .inr ⟨X1.heap.size, 1, #[.int .i64 j], rfl, HF1.out.size, heap_alloc_new _ _, Nat.le_refl _, by decide, rfl, rfl⟩⟩
        have HB2 : Hid (BB X2 f (F.set j true)) := HB1.out.new hbn
        have HI2 : Hid (IB X2 m L) := HI1.out.new hbn
        have HF2 : Hid (Fr W2 X2 (fun k => k = m ∨ k = f)) := HF1.out.trans (Fr.ofBelow hbn _) (fun _ _ h => h)
        have HD0 : Hid (DI N n j F L id (F.set j true) [j] L) := HC.out.start hlt HGf.out
        generalize wr.heap.size = og at HO2 ⊢
        clear hsz hX1 hX2 hbn HB1 HI1 HF1 a0 a1 d0
        go_loopw [8, 9, 11] (fun op _ _ wr => ∃ (F1 : List Bool) (O1 : List Nat) (L1 : List Int), Hid (DI N n j F L id F1 O1 L1) ∧ Hid (RwI wr 3 W2.heap.size op (natsI O1)) ∧ Hid (BB wr f F1) ∧ Hid (IB wr m L1) ∧ Hid (Fr W2 wr (fun k => k = m ∨ k = f))) (fun op _ _ wr => slLen op + cfW f wr)
        case atStart => exact ⟨F.set j true, [j], L, HD0.out, HO2.out, HB2.out, HI2.out, HF2.out⟩
        case round =>
          obtain ⟨F1, O1, L1, HD, HO, HBF1, HIL1, HF3⟩ := hrel
          rcases List.eq_nil_or_concat O1 with rfl | ⟨O2, at_, rfl⟩
          · obtain ⟨b1, b2, b3, rfl⟩ := own_any HO.out
            obtain ⟨e2, _⟩ := ri_at HO.out
            obtain rfl : b2 = 0 := e2
            have HC' : Hid (CI N n I (j + 1) F1 (fun u => if F.getD u false = true then c u else j) L1) := by
              have := HD.out
              rw [← HGd.out] at this
              exact DI.done HR2.out HC.out HGf.out this
            generalize (fun u => if F.getD u false = true then c u else j) = c' at HC'
            clear HD HD0 HO HO2 HB2 HI2 HF2 HC HBF HIL HF
            go_wp2
            go_roundw
            case rel => exact ⟨j + 1, F1, c', L1, by omega, by go_num, HC'.out, HBF1.out, HIL1.out, HF3.out⟩
            case measure => simp [intOf]; omega
          · rw [List.concat_eq_append] at HD HO
            have e4 : natsI (O2 ++ [at_]) = natsI O2 ++ [(at_ : Int)] := by simp [natsI]
            have hO := HO.out
            rw [e4] at hO
            obtain ⟨g, cc, rfl, hcc, hbg, d1, hO2⟩ := rw_pop hO
            obtain ⟨hat, _, _⟩ := HD.out.stk at_ (by simp)
            have hatN : at_ < N.length := by rw [hNl]; exact hat
            obtain ⟨u, hu, cu, fu, ou⟩ := HM.out.at_ hatN
            rw [flat_I1] at ou
            have gN : N.getD at_ [] = N[at_] := by simp [List.getD, hatN]
            rw [← gN] at ou
            have hr1 := HRow.out at_ hat
            have HPop : Hid (DI N n j F L id (rowC (N.getD at_ []) (F1, O2)).1 (rowC (N.getD at_ []) (F1, O2)).2 (L1.set at_ id)) := HD.out.pop HR2.out
            have HRc : Hid (∀ k, (rowC ((N.getD at_ []).take k) (F1, O2)).1.length = n ∧ (rowC ((N.getD at_ []).take k) (F1, O2)).2.length + (rowC ((N.getD at_ []).take k) (F1, O2)).1.count false = O2.length + F1.count false) := fun k => by
              have rc := rowC_is n ((N.getD at_ []).take k) F1 O2 HD.out.lenF (fun x hx => HR2.out.nat at_ hat x (List.mem_of_mem_take hx))
              exact ⟨rc.len, rc.cnt⟩
            have HNt : Hid (∀ x ∈ N.getD at_ [], ∃ t : Nat, t < n ∧ x = t) := HR2.out.nat at_ hat
            have hcnt : O2.length + 1 + F1.count false ≤ n := by have := HD.out.cnt; simpa using this
            obtain ⟨p, q, rc0, rfl⟩ := own_any ou
            obtain ⟨e3, hcs⟩ := ri_at ou
            have HRb : Hid (∀ gg, p = some ⟨gg, 0, none⟩ → gg < wb) := fun gg e => HMl.out gg ⟨at_, _, hu, by rw [e]; rfl⟩
            generalize N.getD at_ [] = row at ou gN hr1 HPop HRc HNt e3 hcs
            subst e3
            have HCs : Hid (0 < row.length → ∃ gg, p = some ⟨gg, 0, none⟩ ∧ gg < wb ∧ ∀ jj (hjj : jj < row.length), W2.cell? ⟨gg, jj, none⟩ = some (.int .i64 row[jj])) := fun hp => by
              obtain ⟨gg, e, _, hx⟩ := hcs hp
              exact ⟨gg, e, HRb.out gg e, fun jj hjj => (hx jj hjj).1⟩
            have hatL : at_ < L1.length := by rw [HD.out.lenL]; exact hat
            obtain ⟨l0, l1⟩ := IB.cell HIL1.out hatL
            generalize L1[at_] = y at l0
            have c2 := fr_cell HF3.out (by show ¬ (_ ∨ _); omega) HC2.out
            have cu' := fr_cell HF3.out (by show ¬ (_ ∨ _); omega) cu
            have HMz : Hid (slLen (.slice (some ⟨g, 0, none⟩) ((natsI O2).length + 1) cc) + cfW f wr = O2.length + 1 + F1.count false) := by
              show _ = _
              rw [cfW_is HBF1.out]
              simp [slLen, natsI]
            have HO3 : Hid (RwI wr 3 W2.heap.size (.slice (some ⟨g, 0, none⟩) (natsI O2).length cc) (natsI O2)) := hO2
            have hol : (natsI O2).length = O2.length := by simp [natsI]
            rw [hol] at d1 hcc HO3 HMz ⊢
            have ho9 : O2.length ≤ 256 := by omega
            clear hcs ou gN hu fu cu hO2 hO HO HD0 HO2 HB2 HI2 HF2 hatN hol
            generalize hOl : O2.length = ol at d1 hcc HO3 ho9 HMz
            have HOl : Hid (O2.length = ol) := hOl
            clear hOl
            go_wp2
            generalize hX5 : World.setCell _ _ _ = X5
            have f5 : Fr wr X5 (fun k => k = m) := by rw [← hX5]; exact Fr.setCell _ _ _ rfl
            have HI5 : Hid (IB X5 m (L1.set at_ id)) := by rw [← hX5]; exact IB.set HIL1.out _ _
            have HB5 : Hid (BB X5 f F1) := HBF1.out.kept f5 (by show ¬ _ = _; omega)
            have HO5 : Hid (RwI X5 3 W2.heap.size (.slice (some ⟨g, 0, none⟩) ol cc) (natsI O2)) := ri_fr HO3.out f5 (fun k hk => by
              simp [Value.ownBlock] at hk
              show ¬ _ = _
              omega)
            have HF5 : Hid (Fr W2 X5 (fun k => k = m ∨ k = f)) := HF3.out.trans f5 (fun _ _ h => .inl h)
            clear hX5 f5 l0 l1 c2 cu' d1 HO3 HBF1 HIL1 HF3
            go_loopw [8, 11, 63] (fun op _ i wy => ∃ k : Nat, k ≤ row.length ∧ i = .int .i64 k ∧ Hid (RwI wy 3 W2.heap.size op (natsI (rowC (row.take k) (F1, O2)).2)) ∧ Hid (BB wy f (rowC (row.take k) (F1, O2)).1) ∧ Hid (IB wy m (L1.set at_ id)) ∧ Hid (Fr W2 wy (fun k => k = m ∨ k = f))) (fun _ _ i _ => row.length - (intOf i).toNat)
            case atStart => exact ⟨0, Nat.zero_le _, rfl, HO5.out, HB5.out, HI5.out, HF5.out⟩
            case round =>
              obtain ⟨k, hkr, rfl, HO6, HB6, HI6, HF6⟩ := hrel
              by_cases hlk : k < row.length
              · obtain ⟨gg, rfl, hgg, hcs⟩ := HCs.out (by omega)
                have d0 := fr_cell HF6.out (by show ¬ (_ ∨ _); omega) (hcs k hlk)
                obtain ⟨t, htn, ht⟩ := HNt.out _ (List.getElem_mem hlk)
                have HS : Hid (rowC (row.take (k + 1)) (F1, O2) = pushC (rowC (row.take k) (F1, O2)) (t : Int)) := by
                  show _ = _
                  rw [← ht]
                  exact rowC_take hlk _
                rw [ht] at d0
                obtain ⟨hl6, hc6⟩ := HRc.out k
                generalize rowC (row.take k) (F1, O2) = st at HO6 HB6 HS hl6 hc6
                obtain ⟨F6, O6⟩ := st
                have htF : t < F6.length := by rw [show F6.length = n from hl6]; exact htn
                obtain ⟨a0, a1⟩ := BB.cell HB6.out htF
                have HGf6 : Hid (F6.getD t false = (F6)[t]) := by show _ = _; simp [List.getD, htF]
                generalize (F6)[t] = b at a0 HGf6
                have HO6' : Hid (RwI wr 3 W2.heap.size u8 (natsI O6)) := HO6.out
                have HB6' : Hid (BB wr f F6) := HB6.out
                obtain ⟨oo, ol6, oc, rfl⟩ := own_any HO6'.out
                have HLo : Hid (∀ q, (Value.slice oo ol6 oc).ownBlock = some q → W2.heap.size ≤ q) := fun q hq => (World.ownsRow.lt HO6'.out q hq).1
                have hO6l : (natsI O6).length ≤ 256 := by
                  have h1 : O6.length + F6.count false = O2.length + F1.count false := hc6
                  have h2 : (natsI O6).length = O6.length := by simp [natsI]
                  have h3 := HOl.out
                  omega
                clear hcs ht HO6 HB6 hl6 hc6
                cases b
                · have HSt : Hid (rowC (row.take (k + 1)) (F1, O2) = (F6.set t true, O6 ++ [t])) := by
                    show _ = _
                    rw [HS.out]
                    exact if_neg (by show ¬ F6.getD t false = true; rw [HGf6.out]; simp)
                  go_upto_region 18 with (fail)
                  generalize hX7 : World.setCell _ _ _ = X7
                  have f7 : Fr wr X7 (fun k => k = f) := by rw [← hX7]; exact Fr.setCell _ _ _ rfl
                  have HB7 : Hid (BB X7 f (F6.set t true)) := by rw [← hX7]; exact BB.set HB6'.out _ _
                  have HI7 : Hid (IB X7 m (L1.set at_ id)) := HI6.out.kept f7 (by show ¬ _ = _; omega)
                  have HO7 : Hid (RwI X7 3 W2.heap.size (.slice oo ol6 oc) (natsI O6)) := ri_fr HO6'.out f7 (fun k hk => by
                    have := HLo.out k hk
                    show ¬ _ = _
                    omega)
                  have HF7 : Hid (Fr W2 X7 (fun k => k = m ∨ k = f)) := HF6.out.trans f7 (fun _ _ h => .inr h)
                  have hsz7 : W2.heap.size ≤ X7.heap.size := HF7.out.size
                  clear hX7 f7 a0 a1
                  go_wp2_with (at_builtin; refine wpList_append_own_at _ rfl _ _ 79 rfl W2.heap.size 3 k0 (.int .i64 0) 1 8 Try.underlying79 hk hx0 hx1 hx2 rfl (by decide) _ _ _ rfl (World.ownsRow.alloc HO7.out _) _ 1 1 [.int .i64 (t : Int)] rfl rfl (cell_one_new _ _ _) (by simp [Value.oneCell']) (by unfold maxLen; omega) (by omega) (by rw [World.size_alloc]; omega) ?_; intro v8 X8 hown hgrow hnil hat8)
                  have HO8 : Hid (RwI X8 3 W2.heap.size v8 (natsI (O6 ++ [t]))) := by
                    have e : natsI (O6 ++ [t]) = natsI O6 ++ [(t : Int)] := by simp [natsI]
                    show RwI _ _ _ _ _
                    rw [e]
                    unfold RwI
                    simpa using hown
                  have g8 : Fr X7 X8 (fun k => W2.heap.size ≤ k) := (Fr.ofBelow (one_new _ _) _).trans (Fr.grown hgrow (S := fun k => W2.heap.size ≤ k) (fun k hk => HLo.out k hk)) (fun _ _ h => h)
                  have HB8 : Hid (BB X8 f (F6.set t true)) := HB7.out.kept g8 (by show ¬ _ ≤ _; omega)
                  have HI8 : Hid (IB X8 m (L1.set at_ id)) := HI7.out.kept g8 (by show ¬ _ ≤ _; omega)
                  have HF8 : Hid (Fr W2 X8 (fun k => k = m ∨ k = f)) := HF7.out.trans g8 (fun i hi h => absurd hi (by have : W2.heap.size ≤ i := h; omega))
                  clear hown hgrow hnil hat8 g8
                  go_roundw
                  case rel => exact ⟨k + 1, by omega, by go_num, by rw [HSt.out]; exact HO8, by rw [HSt.out]; exact HB8, HI8, HF8⟩
                  case measure => simp [intOf]; omega
                · have HSt : Hid (rowC (row.take (k + 1)) (F1, O2) = (F6, O6)) := by
                    show _ = _
                    rw [HS.out]
                    exact if_pos (by show F6.getD t false = true; exact HGf6.out)
                  go_wp2
                  go_roundw
                  case rel => exact ⟨k + 1, by omega, by go_num, by rw [HSt.out]; exact HO6', by rw [HSt.out]; exact HB6', HI6, HF6⟩
                  case measure => simp [intOf]; omega
              · obtain rfl : k = row.length := by omega
                rw [List.take_length] at HO6 HB6
                have HMy : Hid (slLen u8 + cfW f wr < O2.length + 1 + F1.count false) := by
                  show _ < _
                  rw [slLen_is HO6.out, cfW_is HB6.out]
                  have h1 := (HRc.out row.length).2
                  rw [List.take_length] at h1
                  have h2 : ∀ l : List Nat, (natsI l).length = l.length := fun l => by simp [natsI]
                  rw [h2]
                  omega
                go_wp2
                go_roundw
                case rel => exact ⟨_, _, _, HPop, HO6, HB6, HI6, HF6⟩
                case measure => rw [HMz.out, ← HOl.out]; exact HMy.out
      · have HC' : Hid (CI N n I (j + 1) F c L) := HC.out.skip HGf.out
        go_wp2
        go_roundw
        case rel => exact ⟨j + 1, F, c, L, by omega, by go_num, HC'.out, HBF.out, HIL.out, HF.out⟩
        case measure => simp [intOf]; omega
    · obtain rfl : j = n := by omega
      go_wp2
      go_ret
      exact ⟨⟨m, L, c, F, rfl, HIL.out, HC.out, hmx⟩, HBe.out.trans (HF.out.below HBe.out.size (fun k hk => by rcases hk with rfl | rfl <;> omega))⟩
end Go.Proofs.Ytmpbdaogdahiiaa
end

section
/- What near of layer 10 returns: whether two vertices are neighbours. -/
namespace Go.Proofs.Ytmpbdaogdahiiaa
open Go.RowKit Go.Shelf
attribute [local go_sem] Oper.semAt_some
theorem any_false_take {L : List Ed} {x : Int} {k : Nat} (h : ∀ e ∈ L.take k, (e.t == x) = false) (hk : L.length ≤ k) : L.any (fun e => e.t == x) = false := by
  rw [List.take_of_length_le hk] at h
  rw [List.any_eq_false]
  intro e he
  simp [h e he]
theorem take_snocE {L : List Ed} {x : Int} {k : Nat} (hk : k < L.length) (h : ∀ e ∈ L.take k, (e.t == x) = false) (h1 : (L[k].t == x) = false) : ∀ e ∈ L.take (k + 1), (e.t == x) = false := by
  intro e he
  rw [List.take_succ_eq_append_getElem hk] at he
  rcases List.mem_append.1 he with he | he
  · exact h e he
  · rw [List.mem_singleton.1 he]; exact h1
theorem any_true {L : List Ed} {x : Int} {k : Nat} (hk : k < L.length) (h1 : (L[k].t == x) = true) : L.any (fun e => e.t == x) = true := List.any_eq_true.2 ⟨L[k], List.getElem_mem hk, h1⟩
set_option maxRecDepth 100000 in
set_option maxHeartbeats 4000000 in
theorem near_any {w : World} {P : Nat → Prop} {ao : Option Addr} {G : List Vx} {a b : Nat} (cap : Nat) (h : VxAt w P ao G) (ha : a < G.length) (hb : b < G.length) (hl : ∀ v ∈ G, v.es.length ≤ 1000000) : Calls Try.prog 17 #[.slice ao G.length cap, .int .i64 (a : Nat), .int .i64 (b : Nat)] w fun r w' => r = .returned (.bool (nearD G a b)) ∧ Below w.heap.size w w' := by
  obtain ⟨vb, off, rfl, _, hcl⟩ := h (by omega)
  obtain ⟨ea, ca, a0, _, a2, hEa⟩ := hcl a ha
  obtain ⟨eb, cb, b0, _, b2, hEb⟩ := hcl b hb
  have hla := hl G[a] (List.getElem_mem ha)
  have hlb := hl G[b] (List.getElem_mem hb)
  have HR : Hid (nearD G a b = (decide (a ≠ b) && (G[a].es.any (fun e => e.t == G[b].id) || G[b].es.any (fun e => e.t == G[a].id)))) := by
    show _ = _
    unfold nearD
    simp only [List.getD, List.getElem?_eq_getElem ha, List.getElem?_eq_getElem hb, Option.getD_some]
  generalize nearD G a b = res at HR ⊢
  obtain ⟨n, hn⟩ : ∃ n, G.length = n := ⟨_, rfl⟩
  rw [hn] at ha hb ⊢
  generalize G[a].es = La at a2 hEa hla HR
  generalize G[b].es = Lb at b2 hEb hlb HR
  generalize G[a].id = xa at a0 HR
  generalize G[b].id = xb at b0 HR
  have HEa : Hid (∀ j (hj : j < La.length), ∃ g o, ea = some ⟨g, o, none⟩ ∧ w.cell? ⟨g, o + j * 2, none⟩ = some (.int .i64 La[j].t)) := fun j hj => by
    obtain ⟨g, o, e, _, hc⟩ := hEa (by omega)
    exact ⟨g, o, e, (hc j hj).1⟩
  have HEb : Hid (∀ j (hj : j < Lb.length), ∃ g o, eb = some ⟨g, o, none⟩ ∧ w.cell? ⟨g, o + j * 2, none⟩ = some (.int .i64 Lb[j].t)) := fun j hj => by
    obtain ⟨g, o, e, _, hc⟩ := hEb (by omega)
    exact ⟨g, o, e, (hc j hj).1⟩
  obtain ⟨na, hna⟩ : ∃ na, La.length = na := ⟨_, rfl⟩
  obtain ⟨nb, hnb⟩ : ∃ nb, Lb.length = nb := ⟨_, rfl⟩
  have HNa : Hid (La.length = na) := hna
  have HNb : Hid (Lb.length = nb) := hnb
  rw [hna] at a2 hla
  rw [hnb] at b2 hlb
  have hab : ((a : Int) != (b : Int)) = decide (a ≠ b) := by
    rw [Bool.eq_iff_iff]
    simp
    omega
  generalize decide (a ≠ b) = nb0 at hab HR
  clear hcl hEa hEb hna hnb hn hl h
  go_enter Try.func17, Try.ntmps17
  go_wp2
  go_loopw [7] (fun i wr => ∃ k : Nat, k ≤ na ∧ i = .int .i64 k ∧ (nb0 = true → ∀ e ∈ La.take k, (e.t == xb) = false) ∧ Hid (Below w.heap.size w wr)) (fun i _ => na - (intOf i).toNat)
  case atStart => exact ⟨0, Nat.zero_le _, rfl, fun _ e he => (by simp at he), Below.refl _ _⟩
  case round =>
    obtain ⟨k, hk, rfl, hno, HB⟩ := hrel
    have HNo : Hid (nb0 = true → ∀ e ∈ La.take k, (e.t == xb) = false) := hno
    have a0' := (HB.out.cell (p := ⟨vb, off + a * 3, none⟩) (lt_cell a0)).trans a0
    have a2' := (HB.out.cell (p := ⟨vb, off + a * 3 + 2, none⟩) (lt_cell a2)).trans a2
    have b0' := (HB.out.cell (p := ⟨vb, off + b * 3, none⟩) (lt_cell b0)).trans b0
    have b2' := (HB.out.cell (p := ⟨vb, off + b * 3 + 2, none⟩) (lt_cell b2)).trans b2
    clear hno
    by_cases hlt : k < na
    · have HLt : Hid (k < na) := hlt
      have hkl : k < La.length := by rw [HNa.out]; exact hlt
      obtain ⟨g, o, rfl, c0⟩ := HEa.out k hkl
      replace c0 := (HB.out.cell (p := ⟨g, o + k * 2, none⟩) (lt_cell c0)).trans c0
      have HSn : Hid ((La[k].t == xb) = false → nb0 = true → ∀ e ∈ La.take (k + 1), (e.t == xb) = false) := fun h1 h2 => take_snocE hkl (HNo.out h2) h1
      have HTr : Hid ((La[k].t == xb) = true → La.any (fun e => e.t == xb) = true) := any_true hkl
      generalize La[k].t = y at c0 HSn HTr
      cases he : (y == xb) with
      | true =>
        cases hnb0 : nb0 with
        | true =>
          have HF : Hid (res = true) := by show res = true; rw [HR.out, hnb0, HTr.out he]; rfl
          rw [hnb0] at hab
          clear hkl hnb0
          go_wp2
          go_quiet (fail)
          go_wp2
          go_ret
          exact ⟨by rw [HF.out]; rfl, bel_drewN HB.out _⟩
        | false =>
          rw [hnb0] at hab
          clear hkl hnb0
          go_wp2
          go_quiet (fail)
          go_wp2
          go_roundw
          case rel => exact ⟨k + 1, HLt.out, by go_num, fun h => (by cases h), bel_drewN HB.out _⟩
          case measure => have := HLt.out; simp [intOf]; omega
      | false =>
        have HE0 : Hid ((y == xb) = false) := he
        clear hkl
        go_wp2
        go_quiet (fail)
        go_wp2
        go_roundw
        case rel => exact ⟨k + 1, HLt.out, by go_num, HSn.out HE0.out, bel_drewN HB.out _⟩
        case measure => have := HLt.out; simp [intOf]; omega
    · obtain rfl : k = na := by omega
      have HA : Hid (nb0 = true → La.any (fun e => e.t == xb) = false) := fun h => any_false_take (HNo.out h) (by rw [HNa.out]; omega)
      clear hlt
      go_wp2
      obtain ⟨W0, hW0⟩ : ∃ W0, wr = W0 := ⟨_, rfl⟩
      go_loopw [8] (fun i wr2 => ∃ k : Nat, k ≤ nb ∧ i = .int .i64 k ∧ (nb0 = true → ∀ e ∈ Lb.take k, (e.t == xa) = false) ∧ Hid (Below w.heap.size w wr2)) (fun i _ => nb - (intOf i).toNat)
      case atStart => exact ⟨0, Nat.zero_le _, rfl, fun _ e he => (by simp at he), HB⟩
      case round =>
        obtain ⟨k2, hk2, rfl, hno2, HB2⟩ := hrel
        have HNo2 : Hid (nb0 = true → ∀ e ∈ Lb.take k2, (e.t == xa) = false) := hno2
        have a0'' := (HB2.out.cell (p := ⟨vb, off + a * 3, none⟩) (lt_cell a0)).trans a0
        have b2'' := (HB2.out.cell (p := ⟨vb, off + b * 3 + 2, none⟩) (lt_cell b2)).trans b2
        clear hno2 a0' a2' b0' b2'
        by_cases hlt2 : k2 < nb
        · have HLt : Hid (k2 < nb) := hlt2
          have hkl : k2 < Lb.length := by rw [HNb.out]; exact hlt2
          obtain ⟨g, o, rfl, c0⟩ := HEb.out k2 hkl
          replace c0 := (HB2.out.cell (p := ⟨g, o + k2 * 2, none⟩) (lt_cell c0)).trans c0
          have HSn : Hid ((Lb[k2].t == xa) = false → nb0 = true → ∀ e ∈ Lb.take (k2 + 1), (e.t == xa) = false) := fun h1 h2 => take_snocE hkl (HNo2.out h2) h1
          have HTr : Hid ((Lb[k2].t == xa) = true → Lb.any (fun e => e.t == xa) = true) := any_true hkl
          generalize Lb[k2].t = y at c0 HSn HTr
          cases he : (y == xa) with
          | true =>
            cases hnb0 : nb0 with
            | true =>
              have HF : Hid (res = true) := by show res = true; rw [HR.out, hnb0, HTr.out he, Bool.or_true]; rfl
              rw [hnb0] at hab
              clear hkl hnb0
              go_wp2
              go_quiet (fail)
              go_wp2
              go_ret
              exact ⟨by rw [HF.out]; rfl, bel_drewN HB2.out _⟩
            | false =>
              rw [hnb0] at hab
              clear hkl hnb0
              go_wp2
              go_quiet (fail)
              go_wp2
              go_roundw
              case rel => exact ⟨k2 + 1, HLt.out, by go_num, fun h => (by cases h), bel_drewN HB2.out _⟩
              case measure => have := HLt.out; simp [intOf]; omega
          | false =>
            have HE0 : Hid ((y == xa) = false) := he
            clear hkl
            go_wp2
            go_quiet (fail)
            go_wp2
            go_roundw
            case rel => exact ⟨k2 + 1, HLt.out, by go_num, HSn.out HE0.out, bel_drewN HB2.out _⟩
            case measure => have := HLt.out; simp [intOf]; omega
        · obtain rfl : k2 = nb := by omega
          have HF : Hid (res = false) := by
            show res = false
            rw [HR.out]
            cases hnb0 : nb0 with
            | false => rfl
            | true => rw [HA.out hnb0, any_false_take (HNo2.out hnb0) (by rw [HNb.out]; omega)]; rfl
          clear hlt2
          go_wp2
          go_ret
          exact ⟨by rw [HF.out]; rfl, HB2.out⟩
end Go.Proofs.Ytmpbdaogdahiiaa
end
