/- Plain mathematics of files of frames: what is read from the front on, and where that ends. -/
import Derived.Test.YtdapapnkmicklaaFrameMath
namespace Go.Proofs.Ytdapapnkmicklaa
/-- The frames of texts, one behind the other. -/
def frs (T : List (List UInt8)) : List UInt8 := T.flatMap frameB
theorem frs_nil : frs [] = [] := rfl
theorem frs_cons (x : List UInt8) (T : List (List UInt8)) : frs (x :: T) = frameB x ++ frs T := rfl
theorem frs_append (S T : List (List UInt8)) : frs (S ++ T) = frs S ++ frs T := by unfold frs; rw [List.flatMap_append]
theorem frs_one (x : List UInt8) : frs [x] = frameB x := by rw [frs_cons, frs_nil, List.append_nil]
/-- The first frame of bytes, and how long it is. -/
def unf1 (l : List UInt8) : Option (List UInt8 × Nat) := if (unfr (str l) 0).2.2 = 0 then some ((unfr (str l) 0).1.data.toList, (unfr (str l) 0).2.1) else none
theorem frameB_len (x : List UInt8) : (frameB x).length = (numB x.length).length + x.length + 4 := by
  unfold frameB textB
  simp [crc4]
  omega
theorem frameB_pos (x : List UInt8) : 4 + x.length ≤ (frameB x).length := by rw [frameB_len]; omega
theorem frameB_le (x : List UInt8) (h : x.length < 18446744073709551616) : (frameB x).length ≤ x.length + 14 := by
  have := numB_len10 h
  rw [frameB_len]
  omega
theorem unf1_frame (x m : List UInt8) (h : x.length < 18446744073709551616) : unf1 (frameB x ++ m) = some (x, (frameB x).length) := by
  have e := unfr_frame (str x) m h
  rw [str_list] at e
  unfold unf1
  rw [e, if_pos rfl, str_list]
theorem unf1_some {l x : List UInt8} {n : Nat} (h : unf1 l = some (x, n)) : n ≤ l.length ∧ l.take n = frameB x ∧ 0 < n := by
  unfold unf1 at h
  split at h
  · rename_i e
    obtain ⟨⟨y, a, z⟩, hq⟩ : ∃ q, unfr (str l) 0 = q := ⟨_, rfl⟩
    rw [hq] at h e
    simp only [Option.some.injEq, Prod.mk.injEq] at h e
    obtain ⟨rfl, rfl⟩ := h
    subst e
    obtain ⟨h1, h2⟩ := unfr_only hq
    rw [str_size] at h1
    rw [str_list] at h2
    refine ⟨h1, h2, ?_⟩
    have h3 := congrArg List.length h2
    rw [List.length_take, frameB_len] at h3
    omega
  · cases h
theorem unf1_nil : unf1 [] = none := by
  cases h : unf1 [] with
  | none => rfl
  | some q =>
    obtain ⟨x, n⟩ := q
    have := unf1_some h
    simp at this
    omega
def unfL : Nat → List UInt8 → List (List UInt8) × Nat
  | 0, _ => ([], 0)
  | f + 1, l => match unf1 l with
    | none => ([], 0)
    | some q => (q.1 :: (unfL f (l.drop q.2)).1, q.2 + (unfL f (l.drop q.2)).2)
/-- The texts of the frames from the front on that are whole and right, and the place behind them. -/
def unfV (l : List UInt8) : List (List UInt8) × Nat := unfL (l.length + 1) l
theorem unfL_two (f g : Nat) (l : List UInt8) (hf : l.length < f) (hg : l.length < g) : unfL f l = unfL g l := by
  induction f generalizing g l with
  | zero => omega
  | succ f ih =>
    cases g with
    | zero => omega
    | succ g =>
      unfold unfL
      cases h : unf1 l with
      | none => rfl
      | some q =>
        obtain ⟨x, n⟩ := q
        have h1 := unf1_some h
        have e := ih g (l.drop n) (by simp; omega) (by simp; omega)
        simp only [e]
theorem unfV_none {l : List UInt8} (h : unf1 l = none) : unfV l = ([], 0) := by
  unfold unfV unfL
  rw [h]
theorem unfV_some {l x : List UInt8} {n : Nat} (h : unf1 l = some (x, n)) : unfV l = (x :: (unfV (l.drop n)).1, n + (unfV (l.drop n)).2) := by
  have h1 := unf1_some h
  have e : unfL l.length (l.drop n) = unfV (l.drop n) := unfL_two _ _ _ (by simp; omega) (by omega)
  unfold unfV at e ⊢
  rw [unfL]
  rw [h]
  simp only [e]
theorem unfV_frs (T : List (List UInt8)) (m : List UInt8) (hT : ∀ x ∈ T, x.length < 18446744073709551616) : unfV (frs T ++ m) = (T ++ (unfV m).1, (frs T).length + (unfV m).2) := by
  induction T with
  | nil => simp [frs_nil]
  | cons x T ih =>
    rw [frs_cons, List.append_assoc, unfV_some (unf1_frame x _ (hT x (by simp))), List.drop_left, ih (fun y hy => hT y (List.mem_cons_of_mem _ hy))]
    simp
    omega
theorem unfV_all (T : List (List UInt8)) (hT : ∀ x ∈ T, x.length < 18446744073709551616) : unfV (frs T) = (T, (frs T).length) := by
  have h := unfV_frs T [] hT
  rw [List.append_nil, unfV_none unf1_nil] at h
  simpa using h
theorem unfL_is (f : Nat) (l : List UInt8) : (unfL f l).2 ≤ l.length ∧ l.take (unfL f l).2 = frs (unfL f l).1 := by
  induction f generalizing l with
  | zero => simp [unfL, frs_nil]
  | succ f ih =>
    unfold unfL
    cases h : unf1 l with
    | none => simp [frs_nil]
    | some q =>
      obtain ⟨x, n⟩ := q
      obtain ⟨h1, h2, h3⟩ := unf1_some h
      obtain ⟨i1, i2⟩ := ih (l.drop n)
      simp only
      refine ⟨by simp at i1; omega, ?_⟩
      rw [frs_cons, ← h2, ← i2, List.take_add]
theorem unfV_is (l : List UInt8) : (unfV l).2 ≤ l.length ∧ l.take (unfV l).2 = frs (unfV l).1 := unfL_is _ l
theorem mem_frs {T : List (List UInt8)} {x : List UInt8} (h : x ∈ T) : x.length + 4 ≤ (frs T).length := by
  induction T with
  | nil => cases h
  | cons y T ih =>
    rw [frs_cons, List.length_append]
    have := frameB_pos y
    rcases List.mem_cons.1 h with rfl | h
    · omega
    · have := ih h
      omega
theorem len_frs (T : List (List UInt8)) : 4 * T.length ≤ (frs T).length := by
  induction T with
  | nil => simp
  | cons y T ih =>
    rw [frs_cons, List.length_append]
    have := frameB_pos y
    simp only [List.length_cons]
    omega
theorem unfV_len (l : List UInt8) : 4 * (unfV l).1.length ≤ l.length ∧ ∀ x ∈ (unfV l).1, x.length ≤ l.length := by
  obtain ⟨h1, h2⟩ := unfV_is l
  have h3 := congrArg List.length h2
  rw [List.length_take] at h3
  have h4 := len_frs (unfV l).1
  refine ⟨by omega, fun x hx => ?_⟩
  have := mem_frs hx
  omega
/-- Frames at a place are those of what lies behind it. -/
theorem unfr_shift (l : List UInt8) (a : Nat) : (unf1 (l.drop a) = none → ¬ (unfr (str l) a).2.2 = 0) ∧ ∀ x n, unf1 (l.drop a) = some (x, n) → unfr (str l) a = (str x, a + n, 0) := by
  have e0 : (str l).extract a (str l).size = str (l.drop a) := ba_eq (by rw [ext_list, str_list, str_list, str_size, List.take_of_length_le (by simp)])
  have e1 : (str (l.drop a)).extract 0 (str (l.drop a)).size = str (l.drop a) := ext_full _
  have e2 : ∀ k, (str l).extract a (a + k) = (str (l.drop a)).extract 0 (0 + k) := fun k => ba_eq (by rw [ext_list, ext_list, str_list, str_list, Nat.add_sub_cancel_left, Nat.zero_add, Nat.sub_zero, List.drop_zero])
  obtain ⟨⟨y, a1, z1⟩, h1⟩ : ∃ q, rdText (str (l.drop a)) 0 0 = q := ⟨_, rfl⟩
  obtain ⟨⟨q, a2, z2⟩, h2⟩ : ∃ q, rdBytes (str (l.drop a)) a1 z1 4 = q := ⟨_, rfl⟩
  have g1 : rdText ((str l).extract a (str l).size) 0 0 = (y, a1, z1) := by rw [e0]; exact h1
  have g2 : rdBytes ((str l).extract a (str l).size) a1 z1 4 = (q, a2, z2) := by rw [e0]; exact h2
  have k1 : rdText ((str (l.drop a)).extract 0 (str (l.drop a)).size) 0 0 = (y, a1, z1) := by rw [e1]; exact h1
  have k2 : rdBytes ((str (l.drop a)).extract 0 (str (l.drop a)).size) a1 z1 4 = (q, a2, z2) := by rw [e1]; exact h2
  by_cases hz : z2 = 0
  · subst hz
    cases hq : (q.toList == (str (fourB (crcN ((str l).extract a (a + a1)).data.toList))).toList) with
    | false =>
      have u1 := unfr_no g1 g2 hq
      have u2 := unfr_no k1 k2 (by rw [← e2]; exact hq)
      refine ⟨fun _ => by rw [u1]; simp, fun x n h => ?_⟩
      unfold unf1 at h
      rw [u2] at h
      simp at h
    | true =>
      have u1 := unfr_ok g1 g2 hq
      have u2 := unfr_ok k1 k2 (by rw [← e2]; exact hq)
      refine ⟨fun h => ?_, fun x n h => ?_⟩
      · unfold unf1 at h
        rw [u2] at h
        simp at h
      · unfold unf1 at h
        rw [u2] at h
        simp only [if_true, Option.some.injEq, Prod.mk.injEq] at h
        obtain ⟨rfl, rfl⟩ := h
        rw [u1, str_data, Nat.zero_add]
  · have u1 := unfr_err g1 g2 hz
    have u2 := unfr_err k1 k2 hz
    refine ⟨fun _ => by rw [u1]; exact hz, fun x n h => ?_⟩
    unfold unf1 at h
    rw [u2] at h
    simp only [hz, if_false] at h
    cases h
end Go.Proofs.Ytdapapnkmicklaa
