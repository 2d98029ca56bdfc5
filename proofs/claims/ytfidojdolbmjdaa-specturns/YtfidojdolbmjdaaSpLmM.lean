import Derived.Test.YtfidojdolbmjdaaSpTmM
import Derived.Test.YtfidojdolbmjdaaSpTkM
/- SpecTurns, plain: labels behind a turn; rows of what is said, and of what is given. -/
namespace Go.Proofs.Ytfidojdolbmjdaa
/-- What is said to a place by the first m. -/
def saidIn (O : List (List Ed)) (X : List Int) : Nat → Nat → List Int
  | 0, _ => []
  | m + 1, i => saidIn O X m i ++ List.replicate (cntE (O.getD m []) i) (X.getD m 0)
def bestOf (L : List Int) (d : Int) : Int := (L.foldl (bestF L) (d, 0)).1
/-- A turn of labels. -/
def labT (O : List (List Ed)) (n : Nat) (X : List Int) : List Int := (List.range n).map fun i => bestOf (saidIn O X n i) (X.getD i 0)
theorem labT_len (O : List (List Ed)) (n : Nat) (X : List Int) : (labT O n X).length = n := by simp [labT]
theorem labT_at {O : List (List Ed)} {n : Nat} {X : List Int} {i : Nat} (hi : i < n) : (labT O n X).getD i 0 = bestOf (saidIn O X n i) (X.getD i 0) := by simp [labT, List.getD, hi]
theorem best_is {L : List Int} {d b : Int} (h0 : 0 < L.length) (h : IsBest L b) : b = bestOf L d := h.one (best_law (by intro e; subst e; simp at h0) d)
theorem rankT_len (O : List (List Ed)) (n : Nat) (R : List Int) : (rankT O n R).length = n := by simp [rankT]
/-- One is told something, by each edge of a row. -/
def tellOne (L : List (List Int)) (t : Nat) (x : Int) : List (List Int) := L.set t (L.getD t [] ++ [x])
def tellRow (x : Int) (L : List (List Int)) (l : List Ed) : List (List Int) := l.foldl (fun L e => tellOne L e.t.toNat x) L
theorem tellOne_len (L : List (List Int)) (t : Nat) (x : Int) : (tellOne L t x).length = L.length := by simp [tellOne]
theorem tellRow_len (x : Int) : ∀ (l : List Ed) (L : List (List Int)), (tellRow x L l).length = L.length
  | [], _ => rfl
  | e :: l, L => by
    show (tellRow x (tellOne L e.t.toNat x) l).length = _
    rw [tellRow_len x l, tellOne_len]
theorem tellRow_snoc (x : Int) (L : List (List Int)) (l : List Ed) (e : Ed) : tellRow x L (l ++ [e]) = tellOne (tellRow x L l) e.t.toNat x := by simp [tellRow, List.foldl_append]
theorem rowAdd_snoc (q : Int) (X : List Int) (l : List Ed) (e : Ed) : rowAdd q X (l ++ [e]) = addTo (rowAdd q X l) e.t.toNat q := by simp [rowAdd, List.foldl_append]
theorem tellOne_at {L : List (List Int)} {t : Nat} (x : Int) (ht : t < L.length) (i : Nat) : (tellOne L t x).getD i [] = L.getD i [] ++ (if t = i then [x] else []) := by
  unfold tellOne
  simp only [List.getD, List.getElem?_set]
  by_cases e : t = i
  · subst e
    simp [ht]
  · simp [e]
theorem tellRow_at (x : Int) : ∀ (l : List Ed) (L : List (List Int)), (∀ e ∈ l, e.t.toNat < L.length) → ∀ i, (tellRow x L l).getD i [] = L.getD i [] ++ List.replicate (cntE l i) x
  | [], L, _, i => by simp [tellRow, cntE]
  | e :: l, L, h, i => by
    show (tellRow x (tellOne L e.t.toNat x) l).getD i [] = _
    rw [tellRow_at x l _ (fun d hd => by rw [tellOne_len]; exact h d (List.mem_cons_of_mem _ hd)), tellOne_at x (h e List.mem_cons_self), cntE_cons]
    by_cases he : e.t.toNat = i
    · rw [if_pos he, if_pos he, List.append_assoc, Nat.add_comm, List.replicate_succ]
      rfl
    · rw [if_neg he, if_neg he, Nat.zero_add, List.append_nil]
theorem list_ext {α : Type} (d : α) {A B : List α} (hl : A.length = B.length) (h : ∀ i, i < A.length → A.getD i d = B.getD i d) : A = B := by
  apply List.ext_getElem hl
  intro i h1 h2
  have := h i h1
  simpa [List.getD, h1, h2] using this
/-- The rows of what is said, by the first m. -/
def saidL (O : List (List Ed)) (X : List Int) (n m : Nat) : List (List Int) := (List.range n).map (saidIn O X m)
theorem saidL_len (O : List (List Ed)) (X : List Int) (n m : Nat) : (saidL O X n m).length = n := by simp [saidL]
theorem saidL_at {O : List (List Ed)} {X : List Int} {n m i : Nat} (hi : i < n) : (saidL O X n m).getD i [] = saidIn O X m i := by simp [saidL, List.getD, hi]
theorem saidL_zero (O : List (List Ed)) (X : List Int) (n : Nat) : saidL O X n 0 = List.replicate n [] := by
  apply list_ext []
  · simp [saidL]
  · intro i hi
    rw [saidL_len] at hi
    rw [saidL_at hi]
    simp [saidIn, List.getD, hi]
theorem saidL_succ {O : List (List Ed)} (X : List Int) {n m : Nat} (hO : ∀ e ∈ O.getD m [], e.t.toNat < n) : tellRow (X.getD m 0) (saidL O X n m) (O.getD m []) = saidL O X n (m + 1) := by
  apply list_ext []
  · rw [tellRow_len, saidL_len, saidL_len]
  · intro i hi
    rw [tellRow_len, saidL_len] at hi
    rw [tellRow_at _ _ _ (fun e he => by rw [saidL_len]; exact hO e he), saidL_at hi, saidL_at hi]
    rfl
/-- What comes to all places, from the first m. -/
def givL (O : List (List Ed)) (R : List Int) (n m : Nat) : List Int := (List.range n).map (rankIn O R m)
theorem givL_len (O : List (List Ed)) (R : List Int) (n m : Nat) : (givL O R n m).length = n := by simp [givL]
theorem givL_at {O : List (List Ed)} {R : List Int} {n m i : Nat} (hi : i < n) : (givL O R n m).getD i 0 = rankIn O R m i := by simp [givL, List.getD, hi]
theorem givL_zero (O : List (List Ed)) (R : List Int) (n : Nat) : givL O R n 0 = List.replicate n 0 := by
  apply list_ext 0
  · simp [givL]
  · intro i hi
    rw [givL_len] at hi
    rw [givL_at hi]
    simp [rankIn, List.getD, hi]
theorem givL_succ {O : List (List Ed)} (R : List Int) {n m : Nat} (hO : ∀ e ∈ O.getD m [], e.t.toNat < n) : rowAdd (share O R m) (givL O R n m) (O.getD m []) = givL O R n (m + 1) := by
  apply list_ext 0
  · rw [rowAdd_len, givL_len, givL_len]
  · intro i hi
    rw [rowAdd_len, givL_len] at hi
    rw [rowAdd_at _ _ _ (fun e he => by rw [givL_len]; exact hO e he), givL_at hi, givL_at hi, rankIn_succ]
theorem sumI_nn (n : Nat) {f : Nat → Int} (h : ∀ i, i < n → 0 ≤ f i) : 0 ≤ sumI n f := by
  have := sumI_le n (f := fun _ => 0) (g := f) h
  rw [sumI_const] at this
  omega
theorem sumI_one_le {n : Nat} {f : Nat → Int} (h : ∀ i, i < n → 0 ≤ f i) {i : Nat} (hi : i < n) : f i ≤ sumI n f := by
  induction n with
  | zero => omega
  | succ n ih =>
    rw [sumI_succ]
    by_cases e : i = n
    · subst e
      have := sumI_nn i (f := f) (fun j hj => h j (by omega))
      omega
    · have := ih (fun j hj => h j (by omega)) (by omega)
      have := h n (by omega)
      omega
theorem sumI_mono {n m : Nat} {f : Nat → Int} (h : ∀ i, 0 ≤ f i) (hm : m ≤ n) : sumI m f ≤ sumI n f := by
  induction n with
  | zero =>
    obtain rfl : m = 0 := by omega
    exact Int.le_refl _
  | succ n ih =>
    by_cases e : m = n + 1
    · subst e; exact Int.le_refl _
    · rw [sumI_succ]
      have := ih (by omega)
      have := h n
      omega
/-- No sum lacks room. -/
theorem rankIn_le {O : List (List Ed)} {R : List Int} {n : Nat} (hR : ∀ k, 0 ≤ R.getD k 0) (hO : ∀ k, ∀ e ∈ O.getD k [], e.t.toNat < n) (hS : sumI n (fun k => R.getD k 0) ≤ 1000000) {m i : Nat} (hm : m ≤ n) (hi : i < n) : rankIn O R m i ≤ 1000000 := by
  have h1 := sumI_one_le (f := rankIn O R m) (fun j _ => rankIn_nn hR j m) hi
  have h2 := rankIn_sum hR hO m
  have h3 := sumI_mono (f := fun k => R.getD k 0) hR hm
  omega
theorem cntE_take (l : List Ed) (k i : Nat) : cntE (l.take k) i ≤ cntE l i := by
  unfold cntE
  exact List.Sublist.countP_le (List.take_sublist k l)
/-- A row's part. -/
theorem part_le {O : List (List Ed)} {R : List Int} {n : Nat} (hR : ∀ k, 0 ≤ R.getD k 0) (hO : ∀ k, ∀ e ∈ O.getD k [], e.t.toNat < n) (hS : sumI n (fun k => R.getD k 0) ≤ 1000000) {m i : Nat} (hm : m < n) (hi : i < n) (k : Nat) : 0 ≤ (rowAdd (share O R m) (givL O R n m) ((O.getD m []).take k)).getD i 0 ∧ (rowAdd (share O R m) (givL O R n m) ((O.getD m []).take k)).getD i 0 ≤ 1000000 := by
  rw [rowAdd_at _ _ _ (fun e he => by rw [givL_len]; exact hO m e (List.mem_of_mem_take he)), givL_at hi]
  have h1 := rankIn_nn (O := O) hR i m
  have h2 := share_nn (O := O) hR m
  have h3 := rankIn_le hR hO hS (m := m + 1) (i := i) (by omega) hi
  rw [rankIn_succ] at h3
  have h4 : (cntE ((O.getD m []).take k) i : Int) * share O R m ≤ (cntE (O.getD m []) i : Int) * share O R m := Int.mul_le_mul_of_nonneg_right (by have := cntE_take (O.getD m []) k i; omega) h2
  have h5 : 0 ≤ (cntE ((O.getD m []).take k) i : Int) * share O R m := Int.mul_nonneg (by omega) h2
  omega
theorem share_le {O : List (List Ed)} {R : List Int} {n : Nat} (hR : ∀ k, 0 ≤ R.getD k 0) (hS : sumI n (fun k => R.getD k 0) ≤ 1000000) {m : Nat} (hm : m < n) : share O R m ≤ 1000000 := by
  have h1 := sumI_one_le (f := fun k => R.getD k 0) (fun j _ => hR j) hm
  have h2 : share O R m ≤ R.getD m 0 := by
    unfold share
    exact Int.ediv_le_self _ (hR m)
  have h3 : R.getD m 0 ≤ sumI n (fun k => R.getD k 0) := h1
  omega
/-- The ranks that may be. -/
def RkOk (n : Nat) (R : List Int) : Prop := R.length = n ∧ (∀ k, 0 ≤ R.getD k 0) ∧ sumI n (fun k => R.getD k 0) ≤ 1000000
theorem rankT_ok {O : List (List Ed)} {n : Nat} {R : List Int} (hO : ∀ k, ∀ e ∈ O.getD k [], e.t.toNat < n) (h : RkOk n R) : RkOk n (rankT O n R) := ⟨rankT_len _ _ _, fun k => rankT_nn h.2.1 k, rankT_sum h.2.1 hO h.2.2⟩
theorem first_ok (n : Nat) : RkOk n (List.replicate n (1000000 / (n : Int))) := by
  refine ⟨by simp, fun k => ?_, ?_⟩
  · have : 0 ≤ (1000000 : Int) / (n : Int) := Int.ediv_nonneg (by decide) (by omega)
    by_cases hk : k < n
    · simpa [List.getD, hk] using this
    · simp [List.getD, hk]
  · have : sumI n (fun k => (List.replicate n ((1000000 : Int) / (n : Int))).getD k 0) = sumI n (fun _ => (1000000 : Int) / (n : Int)) := by
      unfold sumI
      congr 1
      apply List.map_congr_left
      intro i hi
      rw [List.mem_range] at hi
      simp [List.getD, hi]
    rw [this, sumI_const]
    exact mul_div_le (by decide)
theorem iter_ok {T : List Int → List Int} {p : List Int → Prop} (hT : ∀ x, p x → p (T x)) : ∀ m x, p x → p (iterT T m x)
  | 0, _, h => h
  | m + 1, x, h => iter_ok hT m (T x) (hT x h)
end Go.Proofs.Ytfidojdolbmjdaa
