import Derived.Test.YtfidojdolbmjdaaGrDataM
/- SpecTurns, plain: ranks behind a turn; all together they are not above the scale. -/
namespace Go.Proofs.Ytfidojdolbmjdaa
/-- A share is put to a place. -/
def addTo (X : List Int) (t : Nat) (q : Int) : List Int := X.set t (X.getD t 0 + q)
def rowAdd (q : Int) (X : List Int) (l : List Ed) : List Int := l.foldl (fun X e => addTo X e.t.toNat q) X
theorem addTo_len (X : List Int) (t : Nat) (q : Int) : (addTo X t q).length = X.length := by simp [addTo]
theorem rowAdd_len (q : Int) : ∀ (l : List Ed) (X : List Int), (rowAdd q X l).length = X.length
  | [], _ => rfl
  | e :: l, X => by
    show (rowAdd q (addTo X e.t.toNat q) l).length = _
    rw [rowAdd_len q l, addTo_len]
theorem addTo_at {X : List Int} {t : Nat} (q : Int) (ht : t < X.length) (i : Nat) : (addTo X t q).getD i 0 = X.getD i 0 + (if t = i then q else 0) := by
  unfold addTo
  simp only [List.getD, List.getElem?_set]
  by_cases e : t = i
  · subst e
    simp [ht]
  · simp [e]
/-- How many edges of a row lead to a place. -/
def cntE (l : List Ed) (i : Nat) : Nat := l.countP (fun e => e.t.toNat == i)
theorem cntE_cons (e : Ed) (l : List Ed) (i : Nat) : cntE (e :: l) i = (if e.t.toNat = i then 1 else 0) + cntE l i := by
  unfold cntE
  rw [List.countP_cons]
  by_cases h : e.t.toNat = i
  · simp [h]; omega
  · simp [h]
theorem rowAdd_at (q : Int) : ∀ (l : List Ed) (X : List Int), (∀ e ∈ l, e.t.toNat < X.length) → ∀ i, (rowAdd q X l).getD i 0 = X.getD i 0 + (cntE l i : Int) * q
  | [], X, _, i => by simp [rowAdd, cntE]
  | e :: l, X, h, i => by
    show (rowAdd q (addTo X e.t.toNat q) l).getD i 0 = _
    rw [rowAdd_at q l _ (fun d hd => by rw [addTo_len]; exact h d (List.mem_cons_of_mem _ hd)), addTo_at q (h e List.mem_cons_self), cntE_cons]
    by_cases he : e.t.toNat = i
    · rw [if_pos he, if_pos he]
      have : (((1 + cntE l i : Nat) : Int)) * q = q + (cntE l i : Int) * q := by rw [Int.natCast_add, Int.add_mul]; simp
      rw [this]
      omega
    · rw [if_neg he, if_neg he, Nat.zero_add]
      omega
/-- What a vertex gives along each of its edges. -/
def share (O : List (List Ed)) (R : List Int) (k : Nat) : Int := R.getD k 0 / ((O.getD k []).length : Nat)
/-- What comes to a place from the first m. -/
def rankIn (O : List (List Ed)) (R : List Int) (m i : Nat) : Int := ((List.range m).map (fun k => (cntE (O.getD k []) i : Int) * share O R k)).sum
theorem rankIn_succ (O : List (List Ed)) (R : List Int) (m i : Nat) : rankIn O R (m + 1) i = rankIn O R m i + (cntE (O.getD m []) i : Int) * share O R m := by
  unfold rankIn
  rw [List.range_succ, List.map_append, List.sum_append]
  simp
/-- Summed over places. -/
def sumI (n : Nat) (f : Nat → Int) : Int := ((List.range n).map f).sum
theorem sumI_succ (n : Nat) (f : Nat → Int) : sumI (n + 1) f = sumI n f + f n := by
  unfold sumI
  rw [List.range_succ, List.map_append, List.sum_append]
  simp
theorem sumI_add (n : Nat) (f g : Nat → Int) : sumI n (fun i => f i + g i) = sumI n f + sumI n g := by
  induction n with
  | zero => rfl
  | succ n ih => rw [sumI_succ, sumI_succ, sumI_succ, ih]; omega
theorem sumI_mul (n : Nat) (f : Nat → Int) (q : Int) : sumI n (fun i => f i * q) = sumI n f * q := by
  induction n with
  | zero => simp [sumI]
  | succ n ih => rw [sumI_succ, sumI_succ, ih, Int.add_mul]
theorem sumI_le (n : Nat) {f g : Nat → Int} (h : ∀ i, i < n → f i ≤ g i) : sumI n f ≤ sumI n g := by
  induction n with
  | zero => exact Int.le_refl _
  | succ n ih =>
    rw [sumI_succ, sumI_succ]
    have := ih (fun i hi => h i (by omega))
    have := h n (by omega)
    omega
theorem sumI_const (n : Nat) (c : Int) : sumI n (fun _ => c) = n * c := by
  induction n with
  | zero => simp [sumI]
  | succ n ih => rw [sumI_succ, ih, Int.natCast_succ, Int.add_mul]; omega
theorem sumI_one (n t : Nat) (ht : t < n) : sumI n (fun i => if t = i then 1 else 0) = 1 := by
  induction n with
  | zero => omega
  | succ n ih =>
    rw [sumI_succ]
    by_cases e : t = n
    · subst e
      rw [if_pos rfl]
      have : sumI t (fun i => if t = i then (1 : Int) else 0) = sumI t (fun _ => 0) := by
        unfold sumI
        congr 1
        apply List.map_congr_left
        intro i hi
        rw [List.mem_range] at hi
        rw [if_neg (by omega)]
      rw [this, sumI_const]
      omega
    · rw [if_neg e, ih (by omega)]
      rfl
/-- Each edge leads to one place. -/
theorem cntE_sum (n : Nat) : ∀ l : List Ed, (∀ e ∈ l, e.t.toNat < n) → sumI n (fun i => (cntE l i : Int)) = l.length
  | [], _ => by
    have : (fun i => ((cntE [] i : Nat) : Int)) = fun _ => 0 := by funext i; rfl
    rw [this, sumI_const]
    simp
  | e :: l, h => by
    have h1 : (fun i => ((cntE (e :: l) i : Nat) : Int)) = fun i => (if e.t.toNat = i then 1 else 0) + (cntE l i : Int) := by
      funext i
      rw [cntE_cons]
      split <;> simp
    rw [h1, sumI_add, sumI_one n _ (h e List.mem_cons_self), cntE_sum n l (fun d hd => h d (List.mem_cons_of_mem _ hd)), List.length_cons]
    omega
theorem mul_div_le {a b : Int} (ha : 0 ≤ a) : b * (a / b) ≤ a := by
  by_cases hb : b = 0
  · subst hb
    rw [Int.zero_mul]
    exact ha
  · have h1 := Int.mul_ediv_add_emod a b
    have h2 := Int.emod_nonneg a hb
    omega
/-- What comes to all places is not more than what is there. -/
theorem rankIn_sum {O : List (List Ed)} {R : List Int} {n : Nat} (hR : ∀ k, 0 ≤ R.getD k 0) (hO : ∀ k, ∀ e ∈ O.getD k [], e.t.toNat < n) : ∀ m, sumI n (rankIn O R m) ≤ sumI m (fun k => R.getD k 0)
  | 0 => by
    have : rankIn O R 0 = fun _ => 0 := by funext i; rfl
    rw [this, sumI_const]
    simp [sumI]
  | m + 1 => by
    have h1 : rankIn O R (m + 1) = fun i => rankIn O R m i + (cntE (O.getD m []) i : Int) * share O R m := by funext i; exact rankIn_succ O R m i
    rw [h1, sumI_add, sumI_mul, cntE_sum n _ (hO m), sumI_succ]
    have ih := rankIn_sum hR hO m
    have h2 : ((O.getD m []).length : Int) * share O R m ≤ R.getD m 0 := by
      unfold share
      exact mul_div_le (hR m)
    omega
theorem share_nn {O : List (List Ed)} {R : List Int} (hR : ∀ k, 0 ≤ R.getD k 0) (k : Nat) : 0 ≤ share O R k := Int.ediv_nonneg (hR k) (by omega)
theorem rankIn_nn {O : List (List Ed)} {R : List Int} (hR : ∀ k, 0 ≤ R.getD k 0) (i : Nat) : ∀ m, 0 ≤ rankIn O R m i
  | 0 => by simp [rankIn]
  | m + 1 => by
    rw [rankIn_succ]
    have h1 := rankIn_nn (O := O) hR i m
    have h2 : 0 ≤ (cntE (O.getD m []) i : Int) * share O R m := Int.mul_nonneg (by omega) (share_nn hR m)
    omega
/-- A turn. -/
def rankT (O : List (List Ed)) (n : Nat) (R : List Int) : List Int := (List.range n).map (fun i => 150000 / (n : Int) + rankIn O R n i * 85 / 100)
theorem rankT_at {O : List (List Ed)} {n : Nat} {R : List Int} {i : Nat} (hi : i < n) : (rankT O n R).getD i 0 = 150000 / (n : Int) + rankIn O R n i * 85 / 100 := by simp [rankT, List.getD, hi]
theorem rankT_nn {O : List (List Ed)} {n : Nat} {R : List Int} (hR : ∀ k, 0 ≤ R.getD k 0) (k : Nat) : 0 ≤ (rankT O n R).getD k 0 := by
  by_cases hk : k < n
  · rw [rankT_at hk]
    have h1 := rankIn_nn (O := O) hR k n
    have h2 : 0 ≤ 150000 / (n : Int) := Int.ediv_nonneg (by decide) (by omega)
    omega
  · simp [rankT, List.getD, hk]
/-- All ranks together are not above the scale. -/
theorem rankT_sum {O : List (List Ed)} {n : Nat} {R : List Int} (hR : ∀ k, 0 ≤ R.getD k 0) (hO : ∀ k, ∀ e ∈ O.getD k [], e.t.toNat < n) (hS : sumI n (fun k => R.getD k 0) ≤ 1000000) : sumI n (fun k => (rankT O n R).getD k 0) ≤ 1000000 := by
  have h1 : sumI n (fun k => (rankT O n R).getD k 0) = sumI n (fun i => 150000 / (n : Int) + rankIn O R n i * 85 / 100) := by
    unfold sumI
    congr 1
    apply List.map_congr_left
    intro i hi
    rw [List.mem_range] at hi
    exact rankT_at hi
  rw [h1, sumI_add, sumI_const]
  have h2 : (n : Int) * (150000 / (n : Int)) ≤ 150000 := mul_div_le (by decide)
  have h3 : 100 * sumI n (fun i => rankIn O R n i * 85 / 100) ≤ sumI n (fun i => rankIn O R n i) * 85 := by
    rw [← sumI_mul]
    have : 100 * sumI n (fun i => rankIn O R n i * 85 / 100) = sumI n (fun i => rankIn O R n i * 85 / 100 * 100) := by rw [sumI_mul]; omega
    rw [this]
    refine sumI_le n (fun i hi => ?_)
    have : 0 ≤ rankIn O R n i * 85 := Int.mul_nonneg (rankIn_nn hR i n) (by decide)
    omega
  have h4 := rankIn_sum hR hO n
  have h5 : sumI n (rankIn O R n) = sumI n (fun i => rankIn O R n i) := rfl
  omega
/-- So many turns. -/
def iterT (T : List Int → List Int) : Nat → List Int → List Int
  | 0, x => x
  | m + 1, x => iterT T m (T x)
theorem iterT_add (T : List Int → List Int) : ∀ (a b : Nat) (x : List Int), iterT T (a + b) x = iterT T b (iterT T a x)
  | 0, b, x => by rw [Nat.zero_add]; rfl
  | a + 1, b, x => by
    rw [show a + 1 + b = (a + b) + 1 by omega]
    exact iterT_add T a b (T x)
/-- Who is back behind a turns goes round. -/
theorem iterT_round {T : List Int → List Int} {a : Nat} {x : List Int} (h : iterT T a x = x) : ∀ q, iterT T (a * q) x = x
  | 0 => rfl
  | q + 1 => by rw [Nat.mul_succ, iterT_add, iterT_round h q, h]
theorem iterT_mod {T : List Int → List Int} {a : Nat} {x : List Int} (h : iterT T a x = x) (m : Nat) : iterT T m x = iterT T (m % a) x := by
  conv => lhs; rw [← Nat.div_add_mod m a]
  rw [iterT_add, iterT_round h]
theorem iterT_succ (T : List Int → List Int) (m : Nat) (x : List Int) : iterT T (m + 1) x = T (iterT T m x) := by
  rw [iterT_add]
  rfl
end Go.Proofs.Ytfidojdolbmjdaa
