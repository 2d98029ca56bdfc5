/- However small values are put together, the aggregate is the same. No walk here. -/
import Derived.Test.YtjbkbhilcmiamaaAgRow
namespace Go.Proofs.Ytjbkbhilcmiamaa
open Go.RowKit

theorem bits_back (r : BitVec IntKind.i64.bits) : BitVec.ofInt IntKind.i64.bits (IntKind.i64.wrap (r.toNat : Int)) = r := by
  have hlt : r.toNat < 18446744073709551616 := r.isLt
  apply BitVec.eq_of_toNat_eq
  rw [BitVec.toNat_ofInt, IntKind.wrap_i64]
  try unfold wrap64
  show (_ % ((2 ^ 64 : Nat) : Int)).toNat = _
  rw [show ((2 ^ 64 : Nat) : Int) = 18446744073709551616 by decide]
  omega
theorem andI_assoc (a b c : Int) : andI (andI a b) c = andI a (andI b c) := by
  unfold andI
  rw [bits_back, bits_back, BitVec.and_assoc]
theorem andI_comm (a b : Int) : andI a b = andI b a := by
  unfold andI
  rw [BitVec.and_comm]
theorem orI_assoc (a b c : Int) : orI (orI a b) c = orI a (orI b c) := by
  unfold orI
  rw [bits_back, bits_back, BitVec.or_assoc]
theorem orI_comm (a b : Int) : orI a b = orI b a := by
  unfold orI
  rw [BitVec.or_comm]
/-- Two values of a kind as one, as if all had room. -/
def jq (k : Nat) (a b : Int) : Int :=
  match k with
  | 0 => a + b
  | 1 => if b < a then b else a
  | 2 => if a < b then b else a
  | 3 => andI a b
  | _ => orI a b
theorem jq_assoc : ∀ (k : Nat) (a b c : Int), jq k (jq k a b) c = jq k a (jq k b c)
  | 0, a, b, c => by show a + b + c = a + (b + c); omega
  | 1, a, b, c => by
    show (if c < (if b < a then b else a) then c else (if b < a then b else a)) = (if (if c < b then c else b) < a then (if c < b then c else b) else a)
    by_cases h1 : b < a <;> by_cases h2 : c < b <;> simp only [h1, h2, if_true, if_false] <;> (repeat' split) <;> omega
  | 2, a, b, c => by
    show (if (if a < b then b else a) < c then c else (if a < b then b else a)) = (if a < (if b < c then c else b) then (if b < c then c else b) else a)
    by_cases h1 : a < b <;> by_cases h2 : b < c <;> simp only [h1, h2, if_true, if_false] <;> (repeat' split) <;> omega
  | 3, a, b, c => andI_assoc a b c
  | n + 4, a, b, c => orI_assoc a b c
theorem jq_comm (k : Nat) (a b : Int) : jq k a b = jq k b a := by
  unfold jq
  split
  · omega
  · repeat' split
    all_goals omega
  · repeat' split
    all_goals omega
  · exact andI_comm a b
  · exact orI_comm a b
theorem jv_jq {k : Nat} {a b : Int} (h : k = 0 → -9223372036854775808 ≤ a + b ∧ a + b ≤ 9223372036854775807) : jv k a b = jq k a b ∧ je k a b = 0 := by
  by_cases h0 : k = 0
  · subst h0
    exact ⟨hv_in (h rfl), he_in (h rfl)⟩
  · refine ⟨?_, if_neg h0⟩
    match k, h0 with
    | 1, _ => rfl
    | 2, _ => rfl
    | 3, _ => rfl
    | n + 4, _ => rfl
def opJ (k : Nat) : Option Int → Option Int → Option Int
  | a, none => a
  | none, b => b
  | some x, some y => some (jq k x y)
theorem opJ_none (k : Nat) (a : Option Int) : opJ k a none = a := by cases a <;> rfl
theorem none_opJ (k : Nat) (a : Option Int) : opJ k none a = a := by cases a <;> rfl
theorem opJ_assoc (k : Nat) (a b c : Option Int) : opJ k (opJ k a b) c = opJ k a (opJ k b c) := by
  cases a <;> cases b <;> cases c <;> simp [opJ, jq_assoc]
theorem opJ_comm (k : Nat) (a b : Option Int) : opJ k a b = opJ k b a := by
  cases a <;> cases b <;> simp [opJ, jq_comm k]
/-- What a list of values comes to in one kind. -/
def kf (k : Nat) (a : Option Int) (L : List Ed) : Option Int := L.foldl (fun a y => if y.t = (k : Int) then opJ k a (some y.w) else a) a
theorem kf_op (k : Nat) (L : List Ed) : ∀ a b, kf k (opJ k a b) L = opJ k a (kf k b L) := by
  induction L with
  | nil => intro a b; rfl
  | cons y L ih =>
    intro a b
    show kf k (if y.t = (k : Int) then opJ k (opJ k a b) (some y.w) else opJ k a b) L = opJ k a (kf k (if y.t = (k : Int) then opJ k b (some y.w) else b) L)
    split
    · rw [opJ_assoc]; exact ih a _
    · exact ih a b
theorem kf_app (k : Nat) (A B : List Ed) : kf k none (A ++ B) = opJ k (kf k none A) (kf k none B) := by
  have h : kf k none (A ++ B) = kf k (kf k none A) B := List.foldl_append
  rw [h, ← kf_op k B (kf k none A) none, opJ_none]
/-- A bound on what stands in the sum. -/
def bd (n : Nat) (a : Option Int) : Prop := ∀ x, a = some x → -((n : Int) * 1000000) ≤ x ∧ x ≤ (n : Int) * 1000000
theorem addO_at {o : Nat → Option Int} {k : Nat} {x : Int} (hk : k ≤ 4) (h : ∀ y, o k = some y → k = 0 → -9223372036854775808 ≤ y + x ∧ y + x ≤ 9223372036854775807) : addO o (k : Int) x k = opJ k (o k) (some x) ∧ addE o (k : Int) x = 0 := by
  cases e : o k with
  | none =>
    rw [(addO_new hk e).1, (addO_new hk e).2, upd_at]
    exact ⟨rfl, rfl⟩
  | some y =>
    have hj := jv_jq (k := k) (a := y) (b := x) (h y e)
    rw [(addO_old hk e hj.2).1, (addO_old hk e hj.2).2, upd_at, hj.1]
    exact ⟨rfl, rfl⟩
theorem addO_oth {o : Nat → Option Int} {k : Nat} {t x : Int} (h : t ≠ (k : Int)) : addO o t x k = o k := by
  by_cases ht : 0 ≤ t ∧ t ≤ 4
  · obtain ⟨n, rfl⟩ : ∃ n : Nat, t = n := ⟨t.toNat, by omega⟩
    have hn : k ≠ n := fun e => h (by rw [e])
    have hn4 : n ≤ 4 := by omega
    cases e : o n with
    | none => rw [(addO_new hn4 e).1, upd_ne _ _ hn]
    | some y =>
      rcases je_cases n y x with hj | ⟨_, hj⟩
      · rw [(addO_old hn4 e hj).1, upd_ne _ _ hn]
      · rw [(addO_no hn4 e hj (by decide)).1]
  · rw [(addO_out ht).1]
theorem fold_kf (L : List Ed) (hs : ∀ y ∈ L, -1000000 < y.w ∧ y.w < 1000000) : ∀ (o : Nat → Option Int) (n : Nat), bd n (o 0) → n + L.length ≤ 100 → (∀ k, k ≤ 4 → (L.foldl (fun o y => addO o y.t y.w) o) k = kf k (o k) L) ∧ bd (n + L.length) ((L.foldl (fun o y => addO o y.t y.w) o) 0) := by
  induction L with
  | nil => intro o n hb _; exact ⟨fun k _ => rfl, hb⟩
  | cons y L ih =>
    intro o n hb hn
    have hy := hs y (by simp)
    rw [List.length_cons] at hn ⊢
    have h0 : ∀ z, o 0 = some z → -9223372036854775808 ≤ z + y.w ∧ z + y.w ≤ 9223372036854775807 := fun z hz => by
      have := hb z hz
      omega
    have hstep : ∀ k, k ≤ 4 → addO o y.t y.w k = if y.t = (k : Int) then opJ k (o k) (some y.w) else o k := by
      intro k hk
      by_cases ht : y.t = (k : Int)
      · rw [if_pos ht, ht]
        exact (addO_at hk (fun z hz hk0 => by subst hk0; exact h0 z hz)).1
      · rw [if_neg ht]
        exact addO_oth ht
    have hb1 : bd (n + 1) (addO o y.t y.w 0) := by
      rw [hstep 0 (by decide)]
      intro x hx
      split at hx
      · cases e : o 0 with
        | none => rw [e] at hx; cases hx; omega
        | some z =>
          rw [e] at hx
          have := hb z e
          simp [opJ, jq] at hx
          omega
      · have := hb x hx; omega
    have := ih (fun z hz => hs z (List.mem_cons_of_mem _ hz)) (addO o y.t y.w) (n + 1) hb1 (by omega)
    refine ⟨fun k hk => ?_, ?_⟩
    · show (L.foldl _ (addO o y.t y.w)) k = kf k (if y.t = (k : Int) then opJ k (o k) (some y.w) else o k) L
      rw [this.1 k hk, hstep k hk]
    · show bd _ ((L.foldl _ (addO o y.t y.w)) 0)
      rw [show n + (L.length + 1) = n + 1 + L.length by omega]
      exact this.2
theorem allO_kf (L : List Ed) (hs : ∀ y ∈ L, -1000000 < y.w ∧ y.w < 1000000) (hl : L.length ≤ 40) : (∀ k, k ≤ 4 → allO L k = kf k none L) ∧ bd 40 (allO L 0) := by
  have := fold_kf L hs (fun _ => none) 0 (fun x hx => by cases hx) (by omega)
  refine ⟨this.1, fun x hx => ?_⟩
  have h := this.2 x hx
  omega
theorem mrg_opJ {a b : Nat → Option Int} (ha : bd 40 (a 0)) (hb : bd 40 (b 0)) : ∀ j, j ≤ 5 → (mrg a b j).2 = 0 ∧ ∀ i, i ≤ 4 → (mrg a b j).1 i = if i < j then opJ i (a i) (b i) else a i
  | 0, _ => ⟨rfl, fun i _ => rfl⟩
  | j + 1, hj => by
    obtain ⟨h1, h2⟩ := mrg_opJ ha hb j (by omega)
    cases e : b j with
    | none =>
      rw [mrg_none e]
      refine ⟨h1, fun i hi => ?_⟩
      rw [h2 i hi]
      by_cases hij : i = j
      · subst hij
        rw [if_neg (by omega), if_pos (by omega), e, opJ_none]
      · by_cases hlt : i < j
        · rw [if_pos hlt, if_pos (by omega)]
        · rw [if_neg hlt, if_neg (by omega)]
    | some v =>
      have hjj : (mrg a b j).1 j = a j := by rw [h2 j (by omega), if_neg (by omega)]
      have hadd := addO_at (o := (mrg a b j).1) (k := j) (x := v) (by omega) (fun y hy hj0 => by
        subst hj0
        rw [hjj] at hy
        have := ha y hy
        have := hb v e
        omega)
      rw [mrg_some e h1]
      refine ⟨hadd.2, fun i hi => ?_⟩
      by_cases hij : i = j
      · subst hij
        show addO _ _ _ i = _
        rw [hadd.1, hjj, if_pos (by omega), e]
      · show addO _ _ _ i = _
        rw [addO_oth (fun h => hij (by omega)), h2 i hi]
        by_cases hlt : i < j
        · rw [if_pos hlt, if_pos (by omega)]
        · rw [if_neg hlt, if_neg (by omega)]
theorem merge_opJ {a b : Nat → Option Int} (ha : bd 40 (a 0)) (hb : bd 40 (b 0)) : mergeE a b = 0 ∧ ∀ i, i ≤ 4 → mergeO a b i = opJ i (a i) (b i) := by
  obtain ⟨h1, h2⟩ := mrg_opJ ha hb 5 (by decide)
  refine ⟨h1, fun i hi => ?_⟩
  rw [(merge_good h1).1, h2 i hi, if_pos (by omega)]
theorem AOc_ext {o p : Nat → Option Int} (h : ∀ i, i ≤ 4 → o i = p i) : AOc o = AOc p := by
  unfold AOc AC oh ov
  rw [h 0 (by decide), h 1 (by decide), h 2 (by decide), h 3 (by decide), h 4 (by decide)]
/-- Both ways round, and all at once. -/
theorem orders_math (D : List Ed) (kk : Nat) (hs : ∀ y ∈ D, -1000000 < y.w ∧ y.w < 1000000) (hl : D.length ≤ 40) :
    mergeE (allO (D.take kk)) (allO (D.drop kk)) = 0 ∧ mergeE (allO (D.drop kk)) (allO (D.take kk)) = 0 ∧ AOc (mergeO (allO (D.take kk)) (allO (D.drop kk))) = AOc (allO D) ∧ AOc (mergeO (allO (D.drop kk)) (allO (D.take kk))) = AOc (allO D) := by
  have hT := allO_kf (D.take kk) (fun y hy => hs y (List.mem_of_mem_take hy)) (by rw [List.length_take]; omega)
  have hR := allO_kf (D.drop kk) (fun y hy => hs y (List.mem_of_mem_drop hy)) (by rw [List.length_drop]; omega)
  have hD := allO_kf D hs hl
  have h1 := merge_opJ hT.2 hR.2
  have h2 := merge_opJ hR.2 hT.2
  have key : ∀ i, i ≤ 4 → allO D i = opJ i (allO (D.take kk) i) (allO (D.drop kk) i) := fun i hi => by
    rw [hD.1 i hi, hT.1 i hi, hR.1 i hi, ← kf_app, List.take_append_drop]
  exact ⟨h1.1, h2.1, AOc_ext (fun i hi => by rw [h1.2 i hi, key i hi]), AOc_ext (fun i hi => by rw [h2.2 i hi, key i hi, opJ_comm])⟩
end Go.Proofs.Ytjbkbhilcmiamaa
