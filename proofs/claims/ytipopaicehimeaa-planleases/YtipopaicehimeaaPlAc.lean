/- The law's own leases and acts in memory, and what a find says. -/
import Derived.Test.YtipopaicehimeaaPlLs2
namespace Go.Proofs.Ytipopaicehimeaa
open Go.RowKit Go.Maps
/-- An act. -/
structure Ac where
  d : Int
  k : Int
  l : Int
  t : Int
def Ac.ok (x : Ac) : Prop := I6 x.k ∧ I6 x.l ∧ I6 x.t
def ae (x : Ac) : List Value := [.int .i64 x.d, .int .i64 x.k, .int .i64 x.l, .int .i64 x.t]
theorem ae_len (x : Ac) : (ae x).length = 4 := rfl
def le (y : Lz) : List Value := [.int .i64 y.k, .int .i64 y.l, .int .i64 y.t]
theorem le_len (y : Lz) : (le y).length = 3 := rfl
theorem gT_lz : GT le 3 24 34 38 := by
  refine ⟨Try.underlying34, ?_, le_len, fun x u hu => by simp only [le, List.mem_cons, List.not_mem_nil, or_false] at hu; rcases hu with rfl | rfl | rfl <;> rfl, by decide, by decide⟩
  cases h : Try.prog.info? 38 with
  | none =>
    have : (Try.prog.info? 38).isSome = true := by kernel_rfl
    rw [h] at this
    cases this
  | some i =>
    have h1 : (Try.prog.info? 38).map (·.zero) = some (some (.agg #[.int .i64 0, .int .i64 0, .int .i64 0])) := by kernel_rfl
    have h2 : (Try.prog.info? 38).map (·.size) = some 3 := by kernel_rfl
    have h3 : (Try.prog.info? 38).map (·.bytes) = some 24 := by kernel_rfl
    rw [h] at h1 h2 h3
    exact ⟨i, _, rfl, by simpa using h1, by simpa using h2, by simpa using h3, rfl⟩
/-- The law's leases. -/
def LO (w : World) (B : Nat) (v : Value) (M : List Lz) : Prop := GO le 3 38 w B v M
def LS (w : World) (v : Value) (M : List Lz) : Prop := GS le w v M
theorem LO.at_ {w : World} {B g n cap : Nat} {M : List Lz} (h : LO w B (.slice (some ⟨g, 0, none⟩) n cap) M) (j : Nat) (hj : j < M.length) : w.cell? ⟨g, j * 3, none⟩ = some (.int .i64 M[j].k) ∧ w.cell? ⟨g, j * 3 + 1, none⟩ = some (.int .i64 M[j].l) ∧ w.cell? ⟨g, j * 3 + 2, none⟩ = some (.int .i64 M[j].t) := by
  have h0 := GO.at_ le_len h j hj 0 (by decide) (u := .int .i64 M[j].k) rfl
  have h1 := GO.at_ le_len h j hj 1 (by decide) (u := .int .i64 M[j].l) rfl
  have h2 := GO.at_ le_len h j hj 2 (by decide) (u := .int .i64 M[j].t) rfl
  exact ⟨by simpa using h0, h1, h2⟩
theorem LO.fz {w : World} {B g n cap : Nat} {M : List Lz} (h : LO w B (.slice (some ⟨g, 0, none⟩) n cap) M) (k : Nat) : w.frozen? ⟨g, k, none⟩ = false := by
  rcases h.2 with ⟨h1, _⟩ | ⟨g', cap', cur, h1, hb, hg, _⟩
  · cases h1
  · cases h1
    simp [World.frozen?, hg]
theorem fr_set3 (W : World) (g a b c : Nat) (x y z : Value) : Fr W (((W.setCell ⟨g, a, none⟩ x).setCell ⟨g, b, none⟩ y).setCell ⟨g, c, none⟩ z) (fun k => k = g) := ((Fr.setCell (S := fun k => k = g) W ⟨g, a, none⟩ x rfl).trans (Fr.setCell (S := fun k => k = g) _ ⟨g, b, none⟩ y rfl) (fun _ _ h => h)).trans (Fr.setCell (S := fun k => k = g) _ ⟨g, c, none⟩ z rfl) (fun _ _ h => h)
theorem LO.front {W : World} {B g c n j : Nat} {M : List Lz} (h : LO W B (.slice (some ⟨g, 0, none⟩) n c) M) (hj : j ≤ M.length) : LS W (.slice (some ⟨g, 0, none⟩) j c) (M.take j) := by
  have h2 := h
  obtain ⟨ao, c', e, hc, _⟩ := GO.shape h2
  cases e
  have hl : (M.take j).length = j := by rw [List.length_take]; omega
  refine ⟨_, _, by rw [hl], by omega, fun _ => ⟨g, 0, rfl, fun i u hu => ?_⟩⟩
  rw [Nat.zero_add]
  refine GO.raw h i u ?_
  rw [← genc_take le_len, List.getElem?_take] at hu
  split at hu
  · exact hu
  · cases hu
theorem LO.back {W : World} {B g c n j : Nat} {M : List Lz} (h : LO W B (.slice (some ⟨g, 0, none⟩) n c) M) (hj : j ≤ M.length) : LS W (.slice (some ⟨g, j * 3, none⟩) (M.length - j) (c - j)) (M.drop j) := by
  have h2 := h
  obtain ⟨ao, c', e, hc, _⟩ := GO.shape h2
  cases e
  have hl : (M.drop j).length = M.length - j := List.length_drop
  refine ⟨_, _, by rw [hl], by omega, fun _ => ⟨g, j * 3, rfl, fun i u hu => ?_⟩⟩
  refine GO.raw h (j * 3 + i) u ?_
  rw [← genc_drop le_len, List.getElem?_drop] at hu
  exact hu
theorem ls_none {W : World} {ao : Option Addr} {M : List Lz} {j : Nat} (hj : M.length ≤ j) : LS W (.slice ao 0 0) (M.drop j) := by
  rw [List.drop_of_length_le hj]
  exact ⟨ao, 0, rfl, Nat.le_refl _, fun h => by simp at h⟩
theorem LO.set {w : World} {B g n cap : Nat} {M : List Lz} (h : LO w B (.slice (some ⟨g, 0, none⟩) n cap) M) (j : Nat) (hj : j < M.length) (y : Lz) : LO (((w.setCell ⟨g, j * 3, none⟩ (.int .i64 y.k)).setCell ⟨g, j * 3 + 1, none⟩ (.int .i64 y.l)).setCell ⟨g, j * 3 + 2, none⟩ (.int .i64 y.t)) B (.slice (some ⟨g, 0, none⟩) n cap) (M.set j y) := by
  obtain ⟨h1, h2⟩ := h
  rcases h2 with ⟨h2, _⟩ | ⟨g', cap', cur, h2, hb, hg, hn, hc, hcs, ht⟩
  · cases h2
  · cases h2
    have hb2 := gblk_set (i := j * 3 + 2) (.int .i64 y.t) (gblk_set (i := j * 3 + 1) (.int .i64 y.l) (gblk_set (i := j * 3) (.int .i64 y.k) hg))
    unfold LO GO
    rw [List.length_set]
    refine ⟨by rw [genc_len le_len, List.length_set], .inr ⟨g, cap, _, rfl, hb, hb2, hn, hc, by simpa using hcs, ?_⟩⟩
    apply List.ext_getElem?
    intro i
    have hsz : M.length * 3 ≤ cur.size := by rw [hcs]; omega
    rw [List.getElem?_take]
    by_cases hi : i < M.length * 3
    · rw [if_pos hi]
      have hq : i / 3 < M.length := by omega
      have hr : i % 3 < 3 := Nat.mod_lt _ (by decide)
      have e : i / 3 * 3 + i % 3 = i := by omega
      have h3 := genc_get le_len (M.set j y) (i / 3) (by rw [List.length_set]; exact hq) (i % 3) hr
      rw [e] at h3
      rw [h3]
      have h4 := genc_get le_len M (i / 3) hq (i % 3) hr
      rw [e, ← ht, List.getElem?_take, if_pos hi] at h4
      simp only [Array.toList_setIfInBounds, List.getElem?_set, List.length_set, Array.length_toList]
      by_cases ej : i / 3 = j
      · subst ej
        rw [List.getElem_set_self]
        have : i % 3 = 0 ∨ i % 3 = 1 ∨ i % 3 = 2 := by omega
        rcases this with h5 | h5 | h5
        · have e6 : ¬ i / 3 * 3 + 2 = i := by omega
          have e7 : ¬ i / 3 * 3 + 1 = i := by omega
          have e8 : i / 3 * 3 = i := by omega
          rw [if_neg e6, if_neg e7, if_pos e8, if_pos (by omega), h5]
          rfl
        · have e6 : ¬ i / 3 * 3 + 2 = i := by omega
          have e7 : i / 3 * 3 + 1 = i := by omega
          rw [if_neg e6, if_pos e7, if_pos (by omega), h5]
          rfl
        · have e6 : i / 3 * 3 + 2 = i := by omega
          rw [if_pos e6, if_pos (by omega), h5]
          rfl
      · rw [List.getElem_set_ne (by omega)]
        rw [if_neg (by omega), if_neg (by omega), if_neg (by omega)]
        exact h4
    · rw [if_neg hi]
      symm
      apply List.getElem?_eq_none
      rw [genc_len le_len, List.length_set]
      omega
section
variable {w w' : World} {B C p : Nat} {long : Int} {mb : Option Nat} {M M2 : List Lz} {v : Value}
/-- The law's leases lie apart from those of plan. -/
theorem LA.apart (h : LA w B p long mb M) (r : LO w C v M2) : ∀ k, v.ownBlock = some k → ¬ (k = p ∨ mb = some k) := by
  intro k hk e
  obtain ⟨_, cs, f, hb⟩ := GO.tag r hk
  rcases e with rfl | rfl
  · rw [h.box] at hb
    simp at hb
  · obtain ⟨_, _, hM⟩ := h.mp
    obtain ⟨es, cl, hm⟩ := hM.isMap
    rw [hm] at hb
    cases hb
theorem LO.past (h : LA w B p long mb M) (r : LO w C v M2) (f : Fr w w' (fun k => k = p ∨ mb = some k)) : LO w' C v M2 := GO.kept r f (h.apart r)
theorem LA.past (h : LA w B p long mb M) (r : LO w C v M2) (f : Fr w w' (fun k => v.ownBlock = some k)) : LA w' B p long mb M := h.kept f (fun e => h.apart r p e (.inl rfl)) (fun b hb e => h.apart r b e (.inr hb))
theorem LTo.below (f : Fr w w' (fun k => k = p ∨ mb = some k)) (h : LA w B p long mb M) {w0 : World} (hb : Below B w0 w) : Below B w0 w' := hb.trans (f.below h.base (fun k hk => by
  rcases hk with rfl | rfl
  · exact h.low
  · exact h.mp.1))
end
/-- Where a worker's lease is. -/
def AtI (M : List Lz) (x : Int) (n : Nat) (a : Int) : Prop := (a = -1 ∧ ∀ i (h : i < M.length), i < n → M[i].k ≠ x) ∨ ∃ (i : Nat) (h : i < M.length), i < n ∧ a = i ∧ M[i].k = x
theorem AtI.no {M : List Lz} {x : Int} {n : Nat} {a : Int} (h : AtI M x n a) (hn : n < M.length) (hx : M[n].k ≠ x) : AtI M x (n + 1) a := by
  rcases h with ⟨h1, h2⟩ | ⟨i, hi, h1, h2, h3⟩
  · refine .inl ⟨h1, fun i hi h => ?_⟩
    rcases Nat.lt_or_ge i n with h4 | h4
    · exact h2 i hi h4
    · obtain rfl : i = n := by omega
      exact hx
  · exact .inr ⟨i, hi, by omega, h2, h3⟩
theorem AtI.end_ {M : List Lz} {x : Int} {a : Int} (h : AtI M x M.length a) : (a = -1 ∧ getL M x = none) ∨ ∃ (i : Nat) (_ : i < M.length), a = i ∧ M[i].k = x := by
  rcases h with ⟨h1, h2⟩ | ⟨i, hi, _, h2, h3⟩
  · refine .inl ⟨h1, getL_none.2 (fun y hy => ?_)⟩
    obtain ⟨i, hi, rfl⟩ := List.getElem_of_mem hy
    exact h2 i hi hi
  · exact .inr ⟨i, hi, h2, h3⟩
theorem split_at {M : List Lz} {i : Nat} (hi : i < M.length) : M = M.take i ++ M[i] :: M.drop (i + 1) := by rw [← List.drop_eq_getElem_cons hi, List.take_append_drop]
theorem ahead_ne {M : List Lz} (hn : (M.map (·.k)).Nodup) {i : Nat} (hi : i < M.length) : ∀ z ∈ M.take i, z.k ≠ M[i].k := by
  intro z hz
  obtain ⟨j, hj, rfl⟩ := List.getElem_of_mem hz
  rw [List.length_take] at hj
  rw [List.getElem_take]
  have := List.pairwise_iff_getElem.1 hn j i (by simp; omega) (by simpa using hi) (by omega)
  simpa using this
theorem behind_ne {M : List Lz} (hn : (M.map (·.k)).Nodup) {i : Nat} (hi : i < M.length) : ∀ z ∈ M.drop (i + 1), z.k ≠ M[i].k := by
  intro z hz
  obtain ⟨j, hj, rfl⟩ := List.getElem_of_mem hz
  rw [List.length_drop] at hj
  rw [List.getElem_drop]
  have := List.pairwise_iff_getElem.1 hn i (i + 1 + j) (by simpa using hi) (by simp; omega) (by omega)
  simpa using this.symm
theorem get_i {M : List Lz} (hn : (M.map (·.k)).Nodup) {i : Nat} (hi : i < M.length) : getL M M[i].k = some M[i] := by
  have := getL_at (C := M.drop (i + 1)) (ahead_ne hn hi)
  rwa [← split_at hi] at this
/-- A lease is put in its place. -/
theorem set_get {M : List Lz} (hn : (M.map (·.k)).Nodup) {i : Nat} (hi : i < M.length) {y : Lz} (hy : y.k = M[i].k) : ((M.set i y).map (·.k)).Nodup ∧ ∀ x, getL (M.set i y) x = if x = y.k then some y else getL M x := by
  have e : M.set i y = M.take i ++ y :: M.drop (i + 1) := by rw [List.set_eq_take_append_cons_drop, if_pos hi]
  constructor
  · have : (M.set i y).map (·.k) = M.map (·.k) := by
      rw [List.map_set, hy]
      apply List.ext_getElem?
      intro j
      rw [List.getElem?_set]
      by_cases h : i = j
      · subst h; simp [hi]
      · simp [h]
    rw [this]
    exact hn
  · intro x
    rw [e]
    by_cases h : x = y.k
    · subst h
      rw [if_pos rfl]
      exact getL_at (fun z hz => by rw [hy]; exact ahead_ne hn hi z hz)
    · rw [if_neg h, getL_other (fun e => h e.symm)]
      conv => rhs; rw [split_at hi]
      rw [getL_other (fun e => h (by rw [hy]; exact e.symm))]
/-- A lease is taken out. -/
theorem out_get {M : List Lz} (hn : (M.map (·.k)).Nodup) {i : Nat} (hi : i < M.length) : ((M.take i ++ M.drop (i + 1)).map (·.k)).Nodup ∧ ∀ x, getL (M.take i ++ M.drop (i + 1)) x = if x = M[i].k then none else getL M x := by
  constructor
  · refine List.Nodup.sublist (List.Sublist.map _ ?_) hn
    conv => rhs; rw [split_at hi]
    exact List.Sublist.append_left (List.sublist_cons_self _ _) _
  · intro x
    by_cases h : x = M[i].k
    · subst h
      rw [if_pos rfl]
      refine getL_none.2 (fun z hz => ?_)
      rcases List.mem_append.1 hz with hz | hz
      · exact ahead_ne hn hi z hz
      · exact behind_ne hn hi z hz
    · rw [if_neg h]
      conv => rhs; rw [split_at hi]
      rw [getL_other (fun e => h e.symm)]
/-- A lease is put behind. -/
theorem snoc_get {M : List Lz} (hn : (M.map (·.k)).Nodup) {y : Lz} (hy : getL M y.k = none) : ((M ++ [y]).map (·.k)).Nodup ∧ ∀ x, getL (M ++ [y]) x = if x = y.k then some y else getL M x := by
  have h := getL_none.1 hy
  constructor
  · rw [List.map_append, List.nodup_append]
    refine ⟨hn, by simp, ?_⟩
    intro a ha b hb
    obtain ⟨z, hz, rfl⟩ := List.mem_map.1 ha
    simp at hb
    subst hb
    exact h z hz
  · intro x
    exact getL_snoc h
end Go.Proofs.Ytipopaicehimeaa
