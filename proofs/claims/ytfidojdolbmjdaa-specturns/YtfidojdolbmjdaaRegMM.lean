import Derived.Test.YtfidojdolbmjdaaRegGM
/- As RegG, where the last operation has no slot, waits for all others, and changes the world. -/
namespace Go.Proofs.Ytfidojdolbmjdaa
open Go Go.RowKit
section
variable {P : Program} {Q : Exit → Act → World → Prop} {md : Region.Mode}
/-- The last one waits for each other. -/
def lastB (md : Region.Mode) (pre : List Oper) (lo : Oper) : Bool := lo.guard.isNone && (List.range pre.length).all fun i => lo.after.any fun e => Region.binds md e && (e.on == i || waitsB md pre pre.length e.on i)
theorem lastB_on {pre : List Oper} {lo : Oper} (h : lastB md pre lo = true) {on : Nat → Prop} (hc : ∀ k o, pre[k]? = some o → on k → ∀ m, needs md o m = true → on m) (hk : ∀ k, needs md lo k = true → on k) : ∀ i, i < pre.length → on i := by
  intro i hi
  unfold lastB at h
  rw [Bool.and_eq_true] at h
  have h1 := List.all_eq_true.1 h.2 i (List.mem_range.2 hi)
  obtain ⟨e, he, h2⟩ := Array.any_eq_true'.1 h1
  rw [Bool.and_eq_true, Bool.or_eq_true] at h2
  have hm : on e.on := hk e.on (Array.any_eq_true'.2 ⟨e, he, by rw [h2.1]; simp⟩)
  rcases h2.2 with h3 | h3
  · rw [← show e.on = i by simpa using h3]; exact hm
  · exact waits_on hc _ _ _ h3 hm
theorem none_ready {ops : List Oper} {listed : Array Bool} (h : ∀ i, i < ops.length → onL listed i) : Region.ready md ops.toArray listed = [] := by
  cases hr : Region.ready md ops.toArray listed with
  | nil => rfl
  | cons i l =>
    exfalso
    have hi : i ∈ Region.ready md ops.toArray listed := by rw [hr]; exact List.mem_cons_self
    obtain ⟨hn, o, hoi, _⟩ := mem_ready.1 hi
    have hoi' : ops[i]? = some o := by simpa using hoi
    have := h i (List.getElem?_eq_some_iff.1 hoi').1
    unfold onL at this
    rw [Array.getD_eq_getD_getElem?] at this hn
    cases hx : listed[i]? <;> simp [hx] at this hn
    rw [this] at hn
    cases hn
theorem wpAny_end {ops : List Oper} {a : Act} {W : World} {listed : Array Bool} (h : ∀ i, i < ops.length → onL listed i) (hQ : Q .normal a W) : ∀ fuel, wpAny P md ops.toArray Q fuel listed a W
  | 0 => ⟨none_ready h, hQ⟩
  | fuel + 1 => ⟨fun _ => hQ, fun i hi => by rw [none_ready h] at hi; cases hi⟩
theorem wpAny_M {pre : List Oper} {lo : Oper} {A : Act} {ds : List Nat} {V : Nat → Value → World → Prop} {gb : Nat → Bool} {W0 : World} (hp : orderB md (pre ++ [lo]) = true) (hlast : lastB md pre lo = true) (hds : dstsB ds pre = true) (hsz : ∀ d ∈ ds, d < A.tmps.size) (hV : ∀ i v W W', V i v W → Below W.heap.size W W' → V i v W')
    (hgb : ∀ (i : Nat) (o : Oper) (j : Nat) (want : Bool), pre[i]? = some o → o.guard = some (j, want) → ∀ v W, V j v W → v = .bool (gb j)) (hst : StepsG P md Q A ds pre V gb W0 0 pre)
    (hdone : ∀ X W, Below W0.heap.size W0 W → (∀ i, i < pre.length → V i (X (ds.getD i 0)) W) → lo.wp P (puts A X ds) W (fun a' W' => Q .normal a' W') Q) :
    ∀ (fuel : Nat) (listed : Array Bool) (X : Nat → Value) (W : World), listed.size = (pre ++ [lo]).length → offs listed ≤ fuel → JG md A ds pre V W0 (onL listed) X W → wpAny P md (pre ++ [lo]).toArray Q fuel listed (puts A X ds) W
  | 0, listed, X, W, hs, ho, hJ => by
    have hr : Region.ready md (pre ++ [lo]).toArray listed = [] := by
      cases hr : Region.ready md (pre ++ [lo]).toArray listed with
      | nil => rfl
      | cons i l =>
        have : i ∈ Region.ready md (pre ++ [lo]).toArray listed := by rw [hr]; exact List.mem_cons_self
        have := offs_set (mem_ready.1 this).1
        omega
    have := hJ.bound _ (all_onG hp hs hr pre.length (by simp))
    exact absurd this (Nat.lt_irrefl _)
  | fuel + 1, listed, X, W, hs, ho, hJ => by
    refine ⟨fun hr => absurd (hJ.bound _ (all_onG hp hs hr pre.length (by simp))) (Nat.lt_irrefl _), fun i hi => ?_⟩
    obtain ⟨hn, o, hoi, hd⟩ := mem_ready.1 hi
    have hoi1 : (pre ++ [lo])[i]? = some o := by simpa using hoi
    have hlt : i < listed.size := by rw [hs]; exact (List.getElem?_eq_some_iff.1 hoi1).1
    have hil : i < (pre ++ [lo]).length := (List.getElem?_eq_some_iff.1 hoi1).1
    have hn' : ¬ onL listed i := by
      unfold onL
      rw [Array.getD_eq_getD_getElem?] at hn ⊢
      simp [hlt] at hn ⊢
      exact hn
    have hk : ∀ k, needs md o k = true → onL listed k := fun k hk => by
      obtain ⟨e, he, h2⟩ := Array.any_eq_true'.1 hk
      rw [Bool.and_eq_true] at h2
      have := hd e he h2.1
      rwa [show e.on = k by simpa using h2.2] at this
    by_cases hil2 : i < pre.length
    · have hoi' : pre[i]? = some o := by rwa [List.getElem?_append_left hil2] at hoi1
      obtain ⟨hd1, hd2⟩ := dstsB_at hds hoi'
      have hw : Region.wanted o (yielded (pre ++ [lo]).toArray (puts A X ds).tmps) = wantG gb o := by
        unfold Region.wanted wantG
        cases hg : o.guard with
        | none => rfl
        | some jw =>
          obtain ⟨j, want⟩ := jw
          obtain ⟨hnj, _⟩ := (orderB_at hp hoi1).2 j want hg
          have hjl := hJ.bound j (hk j hnj)
          have hv := hgb i o j want hoi' hg _ W (hJ.vals j hjl (hk j hnj))
          have hoj : pre[j]? = some (pre[j]) := by simp [hjl]
          obtain ⟨hj1, hj2⟩ := dstsB_at hds hoj
          have hy : yielded (pre ++ [lo]).toArray (puts A X ds).tmps j = some (gb j) := by
            unfold yielded
            have h1 : ((pre ++ [lo]).toArray[j]?).bind (·.dst) = some (ds.getD j 0) := by
              have e : (pre ++ [lo]).toArray[j]? = some pre[j] := by
                rw [List.getElem?_toArray, List.getElem?_append_left hjl]; exact hoj
              rw [e]
              exact hj1
            rw [h1]
            show (match (puts A X ds).tmps[ds.getD j 0]? with | some (.bool b) => some b | _ => none) = _
            rw [puts_at, if_pos ⟨hj2, hsz _ hj2⟩, hv]
          show (yielded (pre ++ [lo]).toArray (puts A X ds).tmps j == some want) = _
          rw [hy]
          simp
      have fin : ∀ v W', V i v W' → Below W.heap.size W W' → wpAny P md (pre ++ [lo]).toArray Q fuel (listed.setIfInBounds i true) ((puts A X ds).put o.dst v) W' := fun v W' hv hb => by
        rw [hd1, puts_put v hd2]
        refine wpAny_M hp hlast hds hsz hV hgb hst hdone fuel _ _ W' (by simpa using hs) (by have := offs_set hn; omega) ?_
        rw [onL_set hlt]
        exact hJ.step hds hV hoi' hn' hk hv hb
      have hstep := StepsG.at_ hst hoi'
      rw [Nat.zero_add] at hstep
      unfold wpOp
      rw [hoi]
      simp only [hw]
      cases hwg : wantG gb o
      · simp only [Bool.false_eq_true, if_false]
        exact fin undef W (hstep.2 hwg W) (Below.refl _ _)
      · simp only [if_true]
        refine .inl (Oper.wp_mono ?_ (hstep.1 hwg X W hJ.low (fun k hk' => hJ.vals k (hJ.bound k (hk k hk')) (hk k hk')) (fun k hkl hwt => hJ.old k hkl (fun hon => hn' (waits_on hJ.shut _ _ _ hwt hon)))))
        rintro a' W' ⟨v, rfl, hv, hb⟩
        exact fin v W' hv hb
    · have hie : i = pre.length := by simp at hil; omega
      subst hie
      have hol : o = lo := by simpa using hoi1.symm
      subst hol
      have hall := lastB_on hlast hJ.shut hk
      have hgn : o.guard = none := by
        unfold lastB at hlast
        rw [Bool.and_eq_true] at hlast
        simpa using hlast.1
      have hw : Region.wanted o (yielded (pre ++ [o]).toArray (puts A X ds).tmps) = true := by
        unfold Region.wanted
        rw [hgn]
      unfold wpOp
      rw [hoi]
      simp only [hw, if_true]
      refine .inl (Oper.wp_mono ?_ (hdone X W hJ.low (fun k hkl => hJ.vals k hkl (hall k hkl))))
      intro a' W' hQ
      refine wpAny_end (fun k hkl => ?_) hQ fuel
      rw [onL_set hlt]
      by_cases e : k = pre.length
      · exact .inl e
      · exact .inr (hall k (by simp at hkl; omega))
/-- The whole region. -/
theorem wp_region_M {id : Nat} {ops : List Oper} {a : Act} {w : World} (n : Nat) {lo : Oper} (hlo : ops.drop n = [lo]) (ds : List Nat) (V : Nat → Value → World → Prop) (gb : Nat → Bool) (hm : P.follows .mixedOrders = true) (hp : orderB .any ops = true) (hlast : lastB .any (ops.take n) lo = true) (hds : dstsB ds (ops.take n) = true) (hsz : ∀ d ∈ ds, d < a.tmps.size)
    (hV : ∀ i v W W', V i v W → Below W.heap.size W W' → V i v W') (hgb : ∀ (i : Nat) (o : Oper) (j : Nat) (want : Bool), (ops.take n)[i]? = some o → o.guard = some (j, want) → ∀ v W, V j v W → v = .bool (gb j)) (hst : StepsG P .any Q a ds (ops.take n) V gb w 0 (ops.take n))
    (hdone : ∀ X W, Below w.heap.size w W → (∀ i, i < (ops.take n).length → V i (X (ds.getD i 0)) W) → lo.wp P (puts a X ds) W (fun a' W' => Q .normal a' W') Q) : (Code.region id ops.toArray true).wp P Q a w := by
  obtain ⟨pre, hpre⟩ : ∃ pre, ops.take n = pre := ⟨_, rfl⟩
  have ho : ops = pre ++ [lo] := by rw [← hlo, ← hpre, List.take_append_drop]
  rw [hpre] at hlast hds hgb hst hdone
  clear hlo hpre
  subst ho
  refine wp_region_any hm ?_
  have h := wpAny_M (md := .any) hp hlast hds hsz hV hgb hst hdone (pre ++ [lo]).length (Array.replicate (pre ++ [lo]).length false) (fun k => a.tmps.getD k undef) w.drew (by simp) (by
    unfold offs
    refine Nat.le_trans (List.length_filter_le _ _) ?_
    simp) (by
    have : onL (Array.replicate (pre ++ [lo]).length false) = fun _ => False := by
      funext k
      unfold onL
      rw [Array.getD_eq_getD_getElem?, Array.getElem?_replicate]
      split <;> simp
    rw [this]
    exact ⟨fun _ _ h => h.elim, fun _ h => h.elim, ⟨rfl, rfl, rfl, Nat.le_refl _, fun _ _ => rfl⟩, fun _ _ _ h => h.elim, fun _ _ _ => rfl⟩)
  rw [puts_self] at h
  simpa using h
end
end Go.Proofs.Ytfidojdolbmjdaa
