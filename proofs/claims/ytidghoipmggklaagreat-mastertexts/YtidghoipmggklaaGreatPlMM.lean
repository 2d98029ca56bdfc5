import Derived.Lib.SlicesCompact
import Derived.WalkKit
/- Numbers, each once, rising: what sorting and striking doubles makes, what putting one by one makes; partitions in turn. Plain data. -/
namespace Go.Proofs.YtidghoipmggklaaGreat
open Go
/-- Rising, each once. -/
def RiseI (L : List Int) : Prop := L.Pairwise (· < ·)
theorem rise_ext : ∀ {A B : List Int}, RiseI A → RiseI B → (∀ x, x ∈ A ↔ x ∈ B) → A = B
  | [], [], _, _, _ => rfl
  | [], b :: B, _, _, h => by have := (h b).2 List.mem_cons_self; cases this
  | a :: A, [], _, _, h => by have := (h a).1 List.mem_cons_self; cases this
  | a :: A, b :: B, hA, hB, h => by
    have hA' := List.pairwise_cons.1 hA
    have hB' := List.pairwise_cons.1 hB
    have e : a = b := by
      rcases List.mem_cons.1 ((h a).1 List.mem_cons_self) with h1 | h1
      · exact h1
      · rcases List.mem_cons.1 ((h b).2 List.mem_cons_self) with h2 | h2
        · exact h2.symm
        · have := hB'.1 a h1
          have := hA'.1 b h2
          omega
    subst e
    rw [rise_ext hA'.2 hB'.2 (fun x => ?_)]
    constructor
    · intro hx
      rcases List.mem_cons.1 ((h x).1 (List.mem_cons_of_mem _ hx)) with h1 | h1
      · have := hA'.1 x hx; omega
      · exact h1
    · intro hx
      rcases List.mem_cons.1 ((h x).2 (List.mem_cons_of_mem _ hx)) with h1 | h1
      · have := hB'.1 x hx; omega
      · exact h1
/-- How many are below x, from the front on. -/
def posI (L : List Int) (x : Int) : Nat := (L.takeWhile (fun y => decide (y < x))).length
/-- x put where it belongs, if it is not there. -/
def insI (L : List Int) (x : Int) : List Int := if L[posI L x]? = some x then L else L.take (posI L x) ++ x :: L.drop (posI L x)
/-- One by one. -/
def risL (L : List Int) : List Int := L.foldl insI []
theorem posI_le (L : List Int) (x : Int) : posI L x ≤ L.length := (List.takeWhile_prefix _).length_le
theorem posI_lo (L : List Int) (x : Int) : ∀ j (h : j < L.length), j < posI L x → L[j] < x := by
  intro j h hj
  have hm : L[j] ∈ L.takeWhile (fun y => decide (y < x)) := by
    have e : (L.takeWhile (fun y => decide (y < x)))[j]'hj = L[j] := (List.takeWhile_prefix _).getElem hj
    rw [← e]
    exact List.getElem_mem _
  have : ∀ (M : List Int) (z : Int), z ∈ M.takeWhile (fun y => decide (y < x)) → z < x := by
    intro M
    induction M with
    | nil => intro z hz; cases hz
    | cons c r ih =>
      intro z hz
      rw [List.takeWhile_cons] at hz
      split at hz
      · rename_i hc
        rcases List.mem_cons.1 hz with rfl | hz
        · simpa using hc
        · exact ih z hz
      · cases hz
  exact this L _ hm
theorem posI_hi (L : List Int) (x : Int) : ∀ (h : posI L x < L.length), x ≤ L[posI L x] := by
  induction L with
  | nil => intro h; simp at h
  | cons c r ih =>
    intro h
    by_cases hc : c < x
    · have e : posI (c :: r) x = posI r x + 1 := by unfold posI; rw [List.takeWhile_cons, if_pos (by simpa using hc)]; rfl
      have := ih (by rw [e] at h; simpa using h)
      simpa [e] using this
    · have e : posI (c :: r) x = 0 := by unfold posI; rw [List.takeWhile_cons, if_neg (by simpa using hc)]; rfl
      simp only [e, List.getElem_cons_zero]
      omega
theorem insI_mem {L : List Int} {x z : Int} : z ∈ insI L x ↔ z ∈ L ∨ z = x := by
  unfold insI
  split
  · rename_i h
    constructor
    · exact .inl
    · rintro (h1 | rfl)
      · exact h1
      · exact List.mem_of_getElem? h
  · rw [List.mem_append, List.mem_cons]
    constructor
    · rintro (h | rfl | h)
      · exact .inl (List.mem_of_mem_take h)
      · exact .inr rfl
      · exact .inl (List.mem_of_mem_drop h)
    · rintro (h | rfl)
      · rw [← List.take_append_drop (posI L x) L, List.mem_append] at h
        rcases h with h | h
        · exact .inl h
        · exact .inr (.inr h)
      · exact .inr (.inl rfl)
theorem rise_lt {L : List Int} (h : RiseI L) {i j : Nat} (hj : j < L.length) (hij : i < j) : L[i] < L[j] := List.pairwise_iff_getElem.1 h i j (by omega) hj hij
theorem insI_rise {L : List Int} {x : Int} (h : RiseI L) : RiseI (insI L x) := by
  unfold insI
  split
  · exact h
  · rename_i hne
    unfold RiseI at h ⊢
    rw [List.pairwise_append]
    refine ⟨h.sublist (List.take_sublist _ _), ?_, ?_⟩
    · rw [List.pairwise_cons]
      refine ⟨?_, h.sublist (List.drop_sublist _ _)⟩
      intro z hz
      obtain ⟨j, hj, rfl⟩ := List.getElem_of_mem hz
      rw [List.length_drop] at hj
      rw [List.getElem_drop]
      have h0 := posI_hi L x (by omega)
      have h1 : ¬ L[posI L x] = x := fun e => hne (by rw [List.getElem?_eq_getElem (by omega), e])
      rcases Nat.eq_zero_or_pos j with rfl | hj0
      · simp only [Nat.add_zero]; omega
      · have := rise_lt h (i := posI L x) (j := posI L x + j) (by omega) (by omega)
        omega
    · intro a ha b hb
      obtain ⟨i, hi, rfl⟩ := List.getElem_of_mem ha
      rw [List.length_take] at hi
      rw [List.getElem_take]
      have h0 := posI_lo L x i (by omega) (by omega)
      rcases List.mem_cons.1 hb with rfl | hb
      · exact h0
      · obtain ⟨j, hj, rfl⟩ := List.getElem_of_mem hb
        rw [List.length_drop] at hj
        rw [List.getElem_drop]
        exact rise_lt h (by omega) (by omega)
theorem insI_len (L : List Int) (x : Int) : (insI L x).length ≤ L.length + 1 := by
  unfold insI
  have := posI_le L x
  split
  · omega
  · simp; omega
theorem foldl_ins (L A : List Int) (hA : RiseI A) : RiseI (L.foldl insI A) ∧ ∀ z, z ∈ L.foldl insI A ↔ z ∈ A ∨ z ∈ L := by
  induction L generalizing A with
  | nil => exact ⟨hA, fun z => by simp⟩
  | cons c r ih =>
    obtain ⟨h1, h2⟩ := ih (insI A c) (insI_rise hA)
    refine ⟨h1, fun z => ?_⟩
    rw [List.foldl_cons, h2, insI_mem, List.mem_cons]
    constructor
    · rintro ((h | h) | h)
      · exact .inl h
      · exact .inr (.inl h)
      · exact .inr (.inr h)
    · rintro (h | h | h)
      · exact .inl (.inl h)
      · exact .inl (.inr h)
      · exact .inr h
theorem risL_rise (L : List Int) : RiseI (risL L) := (foldl_ins L [] List.Pairwise.nil).1
theorem risL_mem {L : List Int} {z : Int} : z ∈ risL L ↔ z ∈ L := by rw [risL, (foldl_ins L [] List.Pairwise.nil).2]; simp
theorem risL_len (L : List Int) : (risL L).length ≤ L.length := by
  have : ∀ A : List Int, (L.foldl insI A).length ≤ A.length + L.length := by
    induction L with
    | nil => intro A; simp
    | cons c r ih => intro A; have := ih (insI A c); have := insI_len A c; simp only [List.foldl_cons, List.length_cons]; omega
  have h0 := this []
  rw [List.length_nil, Nat.zero_add] at h0
  exact h0
theorem risL_nil {L : List Int} : risL L = [] ↔ L = [] := by
  constructor
  · intro h
    cases L with
    | nil => rfl
    | cons c r =>
      have : c ∈ risL (c :: r) := risL_mem.2 List.mem_cons_self
      rw [h] at this
      cases this
  · rintro rfl; rfl
/-- What is sorted, doubles struck. -/
theorem compact_upto (L : List Int) (hs : L.Pairwise (· ≤ ·)) : ∀ m, m ≤ L.length → RiseI (Lib.compactUpTo L.toArray m) ∧ (∀ z, z ∈ Lib.compactUpTo L.toArray m ↔ z ∈ L.take m) := by
  intro m
  induction m with
  | zero => intro _; exact ⟨List.Pairwise.nil, fun z => by simp [Lib.compactUpTo]⟩
  | succ m ih =>
    intro hm
    obtain ⟨h1, h2⟩ := ih (by omega)
    have em : L.toArray[m]! = L[m] := by simp [show m < L.length by omega]
    rw [Lib.compactUpTo_succ]
    have hle : ∀ i j (hj : j < L.length) (hij : i ≤ j), L[i]'(by omega) ≤ L[j] := fun i j hj hij => by
      rcases Nat.lt_or_ge i j with h | h
      · exact List.pairwise_iff_getElem.1 hs i j (by omega) hj h
      · obtain rfl : i = j := by omega
        exact Int.le_refl _
    by_cases hk : Lib.keeps L.toArray m = true
    · rw [if_pos hk, em]
      have hlt : ∀ z ∈ L.take m, z < L[m] := by
        intro z hz
        obtain ⟨j, hj, rfl⟩ := List.getElem_of_mem hz
        rw [List.length_take] at hj
        rw [List.getElem_take]
        have e1 : L.toArray[m - 1]! = L[m - 1] := by simp [show m - 1 < L.length by omega]
        unfold Lib.keeps at hk
        rw [em, e1] at hk
        simp only [decide_eq_true_eq] at hk
        have h3 := hle j (m - 1) (by omega) (by omega)
        have h4 := hle (m - 1) m (by omega) (by omega)
        omega
      refine ⟨?_, fun z => ?_⟩
      · unfold RiseI
        rw [List.pairwise_append]
        exact ⟨h1, List.pairwise_singleton _ _, fun a ha b hb => by rw [List.mem_singleton.1 hb]; exact hlt a ((h2 a).1 ha)⟩
      · rw [List.mem_append, h2, List.mem_singleton, List.take_succ_eq_append_getElem (by omega), List.mem_append, List.mem_singleton]
    · rw [if_neg hk, List.append_nil]
      refine ⟨h1, fun z => ?_⟩
      rw [h2, List.take_succ_eq_append_getElem (by omega), List.mem_append, List.mem_singleton]
      constructor
      · exact .inl
      · rintro (h | rfl)
        · exact h
        · have e1 : L.toArray[m - 1]! = L[m - 1] := by simp [show m - 1 < L.length by omega]
          unfold Lib.keeps at hk
          rw [em, e1] at hk
          simp only [decide_eq_true_eq] at hk
          have hm0 : m ≠ 0 := fun e => hk (.inl e)
          have he : L[m] = L[m - 1] := by
            apply Classical.byContradiction
            intro hne
            exact hk (.inr hne)
          rw [he]
          rw [List.mem_iff_getElem]
          exact ⟨m - 1, by rw [List.length_take]; omega, by rw [List.getElem_take]⟩
theorem compact_sorted (L : List Int) : Lib.compact (L.mergeSort (fun x y => decide (x ≤ y))) = risL L := by
  have hs : (L.mergeSort (fun x y => decide (x ≤ y))).Pairwise (· ≤ ·) := by
    refine (List.pairwise_mergeSort (le := fun x y : Int => decide (x ≤ y)) ?_ ?_ L).imp ?_
    · intro a b c h1 h2; simp only [decide_eq_true_eq] at h1 h2 ⊢; omega
    · intro a b; simp only [Bool.or_eq_true, decide_eq_true_eq]; omega
    · intro a b h; simpa using h
  obtain ⟨h1, h2⟩ := compact_upto _ hs _ (Nat.le_refl _)
  refine rise_ext h1 (risL_rise L) (fun z => ?_)
  have h3 := h2 z
  rw [List.take_length] at h3
  exact (h3.trans List.mem_mergeSort).trans risL_mem.symm
/-- What rises, sorted, of the same members. -/
theorem sorted_ris {L : List Int} (hn : L.Nodup) : L.mergeSort (fun x y => decide (x ≤ y)) = risL L := by
  have hs : (L.mergeSort (fun x y => decide (x ≤ y))).Pairwise (· ≤ ·) := by
    refine (List.pairwise_mergeSort (le := fun x y : Int => decide (x ≤ y)) ?_ ?_ L).imp ?_
    · intro a b c h1 h2; simp only [decide_eq_true_eq] at h1 h2 ⊢; omega
    · intro a b; simp only [Bool.or_eq_true, decide_eq_true_eq]; omega
    · intro a b h; simpa using h
  have hd : (L.mergeSort (fun x y => decide (x ≤ y))).Pairwise (· ≠ ·) := (List.mergeSort_perm L _).nodup_iff.2 hn
  refine rise_ext ?_ (risL_rise L) (fun z => List.mem_mergeSort.trans risL_mem.symm)
  exact (hs.and hd).imp (fun ⟨h1, h2⟩ => by omega)
end Go.Proofs.YtidghoipmggklaaGreat
