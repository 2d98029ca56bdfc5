/- The vertices that have messages, by their numbers: the mathematics. -/
import Derived.Test.YtfajkfngjfhkoaaCbBox
import Derived.Lib.SlKeysI
namespace Go.Proofs.Ytfajkfngjfhkoaa
open Go.RowKit Go.Maps
/-- The vertices that messages go to. -/
def tsB : List Msg → List Int
  | [] => []
  | m :: B => if m.t ∈ tsB B then tsB B else m.t :: tsB B
theorem tsB_mem (B : List Msg) (x : Int) : x ∈ tsB B ↔ ∃ m ∈ B, m.t = x := by
  induction B with
  | nil => simp [tsB]
  | cons m B ih =>
    unfold tsB
    split
    · rename_i h
      rw [ih]
      constructor
      · rintro ⟨y, hy, e⟩; exact ⟨y, List.mem_cons_of_mem _ hy, e⟩
      · rintro ⟨y, hy, e⟩
        rcases List.mem_cons.1 hy with rfl | hy
        · rw [← ih, ← e]; exact h
        · exact ⟨y, hy, e⟩
    · rw [List.mem_cons, ih]
      constructor
      · rintro (rfl | ⟨y, hy, e⟩)
        · exact ⟨m, List.mem_cons_self, rfl⟩
        · exact ⟨y, List.mem_cons_of_mem _ hy, e⟩
      · rintro ⟨y, hy, e⟩
        rcases List.mem_cons.1 hy with rfl | hy
        · exact .inl e.symm
        · exact .inr ⟨y, hy, e⟩
theorem tsB_nodup (B : List Msg) : (tsB B).Nodup := by
  induction B with
  | nil => simp [tsB]
  | cons m B ih =>
    unfold tsB
    split
    · exact ih
    · rename_i h; exact List.nodup_cons.2 ⟨h, ih⟩
def ksB (B : List Msg) : List Int := (tsB B).mergeSort (fun x y => decide (x ≤ y))
theorem ksB_of {B : List Msg} {ss : List Int} (h : ss.Perm (tsB B)) : ss.mergeSort (fun x y => decide (x ≤ y)) = ksB B := mergeSort_of_perm_i h
theorem ksB_perm (B : List Msg) : (ksB B).Perm (tsB B) := List.mergeSort_perm _ _
theorem ksB_mem (B : List Msg) (x : Int) : x ∈ ksB B ↔ ∃ m ∈ B, m.t = x := by rw [(ksB_perm B).mem_iff, tsB_mem]
theorem ksB_lt (B : List Msg) : (ksB B).Pairwise (· < ·) := by
  have h1 : (ksB B).Pairwise (fun a b => decide (a ≤ b) = true) := List.pairwise_mergeSort (fun a b c h1 h2 => by simp only [decide_eq_true_eq] at *; omega) (fun a b => by simp only [Bool.or_eq_true, decide_eq_true_eq]; omega) _
  have h2 : (ksB B).Nodup := (ksB_perm B).nodup_iff.2 (tsB_nodup B)
  exact (h1.and h2).imp (fun {a b} h => by have := h.1; have := h.2; simp only [decide_eq_true_eq] at *; omega)
theorem ksB_len (B : List Msg) : (ksB B).length ≤ B.length := by
  rw [(ksB_perm B).length_eq]
  induction B with
  | nil => simp [tsB]
  | cons m B ih =>
    unfold tsB
    split
    · simp; omega
    · simpa using ih
/-- The messages vertex by vertex. -/
def rowsM (B : List Msg) : List (List Msg) := (ksB B).map fun id => sortM (toV B id)
theorem toV_flat : ∀ (ks : List Int) (B : List Msg), ks.Nodup → (∀ m ∈ B, m.t ∈ ks) → (ks.flatMap fun id => toV B id).Perm B
  | [], B, _, h => by
    cases B with
    | nil => simp
    | cons m B => exact absurd (h m List.mem_cons_self) (by simp)
  | k :: ks, B, hn, h => by
    rw [List.nodup_cons] at hn
    rw [List.flatMap_cons]
    have e : (ks.flatMap fun id => toV B id) = ks.flatMap fun id => toV (offV B k) id := by
      rw [List.flatMap_def, List.flatMap_def]
      congr 1
      refine List.map_congr_left fun id hid => ?_
      have hne : id ≠ k := fun e => hn.1 (by rw [← e]; exact hid)
      rw [toV_off_other B hne]
    rw [e]
    have ih := toV_flat ks (offV B k) hn.2 (fun m hm => by
      obtain ⟨h1, h2⟩ := List.mem_filter.1 hm
      rcases List.mem_cons.1 (h m h1) with h3 | h3
      · rw [h3] at h2; simp at h2
      · exact h3)
    refine (List.Perm.append_left _ ih).trans ?_
    exact List.filter_append_perm (fun m => m.t == k) B
theorem rows_flat (B : List Msg) : (rowsM B).flatten = sortM B := by
  unfold rowsM
  rw [← List.flatMap_def]
  refine sortM_of ?_ ?_
  · refine List.Perm.trans ?_ (toV_flat (ksB B) B (((ksB_perm B).nodup_iff).2 (tsB_nodup B)) (fun m hm => (ksB_mem B m.t).2 ⟨m, hm, rfl⟩))
    generalize ksB B = ks
    induction ks with
    | nil => simp
    | cons k ks ih =>
      rw [List.flatMap_cons, List.flatMap_cons]
      exact (sortM_perm _).append ih
  · rw [List.pairwise_flatMap]
    refine ⟨fun id _ => sortM_sorted _, (ksB_lt B).imp (fun {a b} hab => fun x hx y hy => ?_)⟩
    have hx' := (List.mem_filter.1 (sortM_mem.1 hx)).2
    have hy' := (List.mem_filter.1 (sortM_mem.1 hy)).2
    simp only [beq_iff_eq] at hx' hy'
    unfold mle
    cases hq : mlt y x
    · rfl
    · rw [mlt_iff] at hq
      omega
theorem keys_perm {w : World} {S : Nat → Prop} {M N : Nat} {D : DataW Value} {B : List Msg} (h : MP w S M N D B) : (tsB B).Perm (intKeys D) := by
  obtain ⟨es, hD, hpw, _⟩ := h.own.entries law64
  obtain ⟨es', hD', hko⟩ := h.own.keysOf
  obtain rfl : es = es' := by rw [hD] at hD'; simpa using hD'
  subst hD
  refine perm_intKeys hpw (fun p hp => by obtain ⟨v, hv⟩ := hko p hp; obtain ⟨x, _, hx, _⟩ := Maps.keyOf_i64 Try.underlying2 hv; exact ⟨x, hx⟩) (tsB_nodup B) (fun x => ?_)
  rw [h.has x, tsB_mem]
  unfold toV
  cases hf : B.filter (fun m => m.t == x) with
  | nil =>
    simp only [List.isEmpty_nil, Bool.not_true, Bool.false_eq_true, iff_false, not_exists, not_and]
    intro m hm e
    have := List.filter_eq_nil_iff.1 hf m hm
    simp [e] at this
  | cons y ys =>
    simp only [List.isEmpty_cons, Bool.not_false, iff_true]
    have : y ∈ B.filter (fun m => m.t == x) := by rw [hf]; exact List.mem_cons_self
    obtain ⟨h1, h2⟩ := List.mem_filter.1 this
    exact ⟨y, h1, by simpa using h2⟩
theorem size_keys {D : DataW Value} : (intKeys D).length = Maps.size D ∨ Maps.size D = 0 := by
  cases D with
  | map es => left; simp [intKeys, Maps.size]
  | _ => right; rfl
end Go.Proofs.Ytfajkfngjfhkoaa
