import Derived.Test.YthkfbaoeimjgaaaGreatMaWkM
/- Plain: who is there, by lives; how many. -/
namespace Go.Proofs.YthkfbaoeimjgaaaGreat
open Go.RowKit
/-- All that are there have numbers below 64, and lives above none. -/
structure LvI (M : List Pz) : Prop where
  nod : (M.map (·.k)).Nodup
  lo : ∀ y ∈ M, 0 ≤ y.k ∧ y.k < 64 ∧ 1 ≤ y.l ∧ y.l ≤ 4
theorem LvI.nil : LvI [] := ⟨List.nodup_nil, fun _ h => (by cases h)⟩
theorem lifeP_some {M : List Pz} {x : Int} {y : Pz} (h : getP M x = some y) : lifeP M x = y.l := by unfold lifeP; rw [h]; rfl
theorem lifeP_none {M : List Pz} {x : Int} (h : getP M x = none) : lifeP M x = 0 := by unfold lifeP; rw [h]; rfl
theorem LvI.pos {M : List Pz} (h : LvI M) (x : Int) : (0 < lifeP M x) ↔ (getP M x).isSome = true := by
  cases hg : getP M x with
  | none => rw [lifeP_none hg]; simp
  | some y =>
    rw [lifeP_some hg]
    have := (h.lo y (getP_mem hg).1).2.2.1
    simp; omega
theorem LvI.is {M : List Pz} (h : LvI M) (x : Int) : (getP M x).isSome = decide (0 < lifeP M x) := by
  have := h.pos x
  cases hg : (getP M x).isSome <;> simp [hg] at this ⊢ <;> omega
theorem LvI.small {M : List Pz} (h : LvI M) (x : Int) : 0 ≤ lifeP M x ∧ lifeP M x ≤ 4 := by
  cases hg : getP M x with
  | none => rw [lifeP_none hg]; omega
  | some y => rw [lifeP_some hg]; have := (h.lo y (getP_mem hg).1).2.2; omega
theorem LvI.out {M : List Pz} (h : LvI M) {x : Int} (hx : ¬ (0 ≤ x ∧ x < 64)) : getP M x = none := by
  cases hg : getP M x with
  | none => rfl
  | some y =>
    have h1 := h.lo y (getP_mem hg).1
    have h2 := (getP_mem hg).2
    exact absurd ⟨by omega, by omega⟩ hx
theorem join_is {M : List Pz} (h : LvI M) (x : Int) {l : Int} (hl : 1 ≤ l) : joinP M x l = if 0 ≤ x ∧ x < 64 ∧ lifeP M x < l then insP M ⟨x, l⟩ else M := by
  unfold joinP
  have hp := h.pos x
  by_cases hs : (getP M x).isSome = true
  · simp only [hs, true_implies]
  · have h0 : lifeP M x = 0 := by have := h.small x; have h3 := mt hp.1 hs; omega
    have e1 : ((getP M x).isSome = true → lifeP M x < l) ↔ lifeP M x < l := ⟨fun _ => by omega, fun h _ => h⟩
    simp only [e1]
theorem lose_is {M : List Pz} (h : LvI M) (x : Int) {l : Int} (hl : 1 ≤ l) : loseP M x l = if lifeP M x = l then delP M x else M := by
  unfold loseP
  have hp := h.pos x
  by_cases hs : (getP M x).isSome = true
  · simp only [hs, true_and]
  · have h0 : lifeP M x = 0 := by have := h.small x; have h3 := mt hp.1 hs; omega
    rw [if_neg (by rintro ⟨h, _⟩; exact hs h), if_neg (by omega)]
theorem LvI.ins {M : List Pz} (h : LvI M) {y : Pz} (hy : 0 ≤ y.k ∧ y.k < 64 ∧ 1 ≤ y.l ∧ y.l ≤ 4) : LvI (insP M y) :=
  ⟨insP_nod h.nod, fun z hz => (insP_mem hz).elim (fun h1 => h.lo z h1) (fun h1 => h1 ▸ hy)⟩
theorem LvI.del {M : List Pz} (h : LvI M) (x : Int) : LvI (delP M x) := ⟨delP_nod h.nod, fun z hz => h.lo z (delP_mem hz).1⟩
theorem LvI.join {M : List Pz} (h : LvI M) {x l : Int} (hl : 1 ≤ l ∧ l ≤ 4) : LvI (joinP M x l) := by
  rw [join_is h x hl.1]
  split
  · rename_i hc; exact h.ins ⟨hc.1, hc.2.1, hl.1, hl.2⟩
  · exact h
theorem LvI.lose {M : List Pz} (h : LvI M) {x l : Int} (hl : 1 ≤ l) : LvI (loseP M x l) := by
  rw [lose_is h x hl]
  split
  · exact h.del x
  · exact h
def cntL (M : List Pz) (j : Nat) : Nat := ((List.range j).filter (fun (k : Nat) => decide (0 < lifeP M (k : Int)))).length
theorem cntL_step (M : List Pz) (j : Nat) : cntL M (j + 1) = cntL M j + if 0 < lifeP M (j : Int) then 1 else 0 := by
  unfold cntL
  rw [List.range_succ, List.filter_append, List.length_append]
  congr 1
  by_cases h : 0 < lifeP M (j : Int) <;> simp [h]
theorem cntL_le (M : List Pz) (j : Nat) : cntL M j ≤ j := by
  unfold cntL
  exact Nat.le_trans (List.length_filter_le _ _) (by simp)
theorem cntL_all {M : List Pz} (h : LvI M) : cntL M 64 = M.length := by
  have hn : (M.map (fun y => y.k.toNat)).Nodup := by
    have h1 := h.nod
    rw [List.Nodup, List.pairwise_map] at h1 ⊢
    refine h1.imp_of_mem (fun {a b} ha hb hab e => hab ?_)
    have := h.lo a ha
    have := h.lo b hb
    omega
  have hp : ((List.range 64).filter (fun (k : Nat) => decide (0 < lifeP M (k : Int)))).Perm (M.map (fun y => y.k.toNat)) := by
    refine (List.perm_ext_iff_of_nodup (List.nodup_range.filter _) hn).2 (fun k => ?_)
    simp only [List.mem_filter, List.mem_range, decide_eq_true_eq, List.mem_map]
    rw [h.pos, getP_some]
    constructor
    · rintro ⟨_, y, hy, e⟩; exact ⟨y, hy, by omega⟩
    · rintro ⟨y, hy, e⟩
      have := h.lo y hy
      exact ⟨by omega, y, hy, by omega⟩
  have := hp.length_eq
  simpa [cntL] using this
theorem ris_nod_len {L : List Int} (hn : L.Nodup) : (risL L).length = L.length := by
  refine List.Perm.length_eq ((List.perm_ext_iff_of_nodup ?_ hn).2 (fun _ => risL_mem))
  have := risL_rise L
  unfold RiseI at this
  exact this.imp (fun h => by omega)
theorem LvI.few {M : List Pz} (h : LvI M) : M.length ≤ 64 := by rw [← cntL_all h]; exact cntL_le M 64
end Go.Proofs.YthkfbaoeimjgaaaGreat
