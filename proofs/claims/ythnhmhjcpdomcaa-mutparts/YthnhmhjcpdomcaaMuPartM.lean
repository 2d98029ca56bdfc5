/- Requests done partition by partition: on plain lists. -/
import Derived.Test.YthnhmhjcpdomcaaMuFine
import Derived.Test.YthnhmhjcpdomcaaGrOf
namespace Go.Proofs.Ythnhmhjcpdomcaa
open Go.RowKit
/-- Is a request for a vertex of a partition? -/
def askQ (parts p : Int) (m : Mu) : Bool := partN m.i parts == p
theorem part_app (A B : List Vx) (parts p : Int) : partG (A ++ B) parts p = partG A parts p ++ partG B parts p := by unfold partG; exact List.filter_append ..
theorem part_cons (v : Vx) (B : List Vx) (parts p : Int) : partG (v :: B) parts p = (if inPart parts p v then [v] else []) ++ partG B parts p := by
  unfold partG
  rw [List.filter_cons]
  split <;> simp
theorem part_mem {G : List Vx} {parts p : Int} {v : Vx} (h : v ∈ partG G parts p) : v ∈ G := (List.mem_filter.1 h).1
theorem part_all {C : List Vx} {parts p : Int} {b : Bool} (h : ∀ y ∈ C, inPart parts p y = b) : partG C parts p = if b then C else [] := by
  unfold partG
  cases b
  · rw [List.filter_eq_nil_iff.2 (fun y hy => by rw [h y hy]; simp)]; rfl
  · rw [List.filter_eq_self.2 h]; rfl
theorem part_fine {G : List Vx} (h : Fine G) (parts p : Int) : Fine (partG G parts p) := by
  refine ⟨?_, fun v hv => h.es v (part_mem hv)⟩
  refine h.ids.sublist ?_
  unfold ids partG
  exact List.Sublist.map _ List.filter_sublist
theorem part_up {G : List Vx} {n : Nat} (h : Up n G) (parts p : Int) : Up n (partG G parts p) :=
  ⟨Nat.le_trans (List.length_filter_le _ _) h.1, fun v hv => h.2 v (part_mem hv)⟩
theorem inPart_id {v y : Vx} (h : y.id = v.id) (parts p : Int) : inPart parts p y = inPart parts p v := by unfold inPart; rw [h]
theorem doG_part {G : List Vx} (hf : Fine G) (m : Mu) (parts p : Int) :
    (askQ parts p m = true → doG (partG G parts p) m = (partG (doG G m).1 parts p, (doG G m).2)) ∧ (askQ parts p m = false → partG (doG G m).1 parts p = partG G parts p) := by
  rcases doG_form hf m with ⟨A, v, B, h1, h2, h3, h4, e⟩ | ⟨A, B, h1, h3, h4, e⟩
  · have hq : inPart parts p v = askQ parts p m := by unfold inPart askQ; rw [h2]
    have hV := doV_ok (m := m) (hf.es v (by rw [h1]; simp))
    have hD : partG (doV v m).1 parts p = if askQ parts p m then (doV v m).1 else [] := part_all (fun y hy => by rw [inPart_id (hV.2 y hy).1, hq])
    have hA : ∀ a ∈ partG A parts p, a.id < m.i := fun a ha => h3 a (part_mem ha)
    have hB : ∀ b ∈ partG B parts p, m.i < b.id := fun b hb => h4 b (part_mem hb)
    rw [e]
    constructor
    · intro ha
      rw [h1, part_app, part_cons, hq, ha, if_pos rfl, List.singleton_append, doG_there h2 hA hB, part_app, part_app, hD, ha, if_pos rfl]
    · intro ha
      rw [h1, part_app, part_app, part_app, part_cons, hq, hD, ha]
      simp
  · have hV := noV_ok m
    have hD : partG (noV m).1 parts p = if askQ parts p m then (noV m).1 else [] := part_all (fun y hy => by unfold inPart askQ; rw [(hV.2 y hy).1])
    have hA : ∀ a ∈ partG A parts p, a.id < m.i := fun a ha => h3 a (part_mem ha)
    have hB : ∀ b ∈ partG B parts p, m.i < b.id := fun b hb => h4 b (part_mem hb)
    rw [e]
    constructor
    · intro ha
      rw [h1, part_app, doG_none hA hB, part_app, part_app, hD, ha, if_pos rfl]
    · intro ha
      rw [h1, part_app, part_app, part_app, hD, ha]
      simp
/-- How many of some requests changed something. -/
def cntQ (q : Mu → Bool) : List Vx → List Mu → Nat
  | _, [] => 0
  | G, m :: l => (if q m && (doG G m).2 then 1 else 0) + cntQ q (doG G m).1 l
theorem cntQ_all : ∀ (l : List Mu) (G : List Vx) (n : Nat), (runU (G, n) l).2 = n + cntQ (fun _ => true) G l
  | [], _, _ => rfl
  | m :: l, G, n => by
    show (runU (stepU (G, n) m) l).2 = _
    unfold stepU
    rw [cntQ_all l]
    simp only [cntQ, Bool.true_and]
    omega
theorem cntQ_or (q r s : Mu → Bool) (h : ∀ m, s m = (q m || r m)) (hd : ∀ m, ¬ (q m = true ∧ r m = true)) : ∀ (l : List Mu) (G : List Vx), cntQ s G l = cntQ q G l + cntQ r G l
  | [], _ => rfl
  | m :: l, G => by
    have ih := cntQ_or q r s h hd l (doG G m).1
    simp only [cntQ]
    rw [ih, h m]
    have := hd m
    cases hq : q m <;> cases hr : r m <;> cases (doG G m).2 <;> simp <;> first | omega | exact absurd ⟨hq, hr⟩ this
theorem cntQ_none (q : Mu → Bool) (h : ∀ m, q m = false) : ∀ (l : List Mu) (G : List Vx), cntQ q G l = 0
  | [], _ => rfl
  | m :: l, G => by simp only [cntQ]; rw [h m, cntQ_none q h l]; simp
theorem cntQ_congr {q r : Mu → Bool} (h : ∀ m, q m = r m) (l : List Mu) (G : List Vx) : cntQ q G l = cntQ r G l := by
  rw [show q = r from funext h]
theorem cntQ_le (q : Mu → Bool) : ∀ (l : List Mu) (G : List Vx), cntQ q G l ≤ l.length
  | [], _ => Nat.le_refl _
  | m :: l, G => by
    have := cntQ_le q l (doG G m).1
    simp only [cntQ, List.length_cons]
    split <;> omega
theorem runU_part (parts p : Int) : ∀ (l : List Mu) (G : List Vx) (n k : Nat), Fine G → runU (partG G parts p, n) (l.filter (askQ parts p)) = (partG (runU (G, k) l).1 parts p, n + cntQ (askQ parts p) G l)
  | [], _, _, _, _ => rfl
  | m :: l, G, n, k, hf => by
    have hd := doG_part hf m parts p
    have e : runU (G, k) (m :: l) = runU (stepU (G, k) m) l := rfl
    rw [e]
    have ih := fun n' => runU_part parts p l (doG G m).1 n' (stepU (G, k) m).2 (doG_fine hf m)
    cases hq : askQ parts p m
    · rw [List.filter_cons_of_neg (by rw [hq]; simp), ← hd.2 hq, ih n]
      simp only [cntQ, hq, Bool.false_and]
      simp
      rfl
    · rw [List.filter_cons_of_pos hq]
      have e2 : runU (partG G parts p, n) (m :: l.filter (askQ parts p)) = runU (stepU (partG G parts p, n) m) (l.filter (askQ parts p)) := rfl
      rw [e2]
      unfold stepU
      rw [hd.1 hq]
      have := ih (n + if (doG G m).2 then 1 else 0)
      rw [this]
      simp only [cntQ, hq, Bool.true_and]
      rw [Nat.add_assoc]
      rfl
theorem appG_part {G : List Vx} (hf : Fine G) (L : List Mu) (parts p : Int) : appG (partG G parts p) (L.filter (askQ parts p)) = (partG (appG G L).1 parts p, cntQ (askQ parts p) G (thatC L)) := by
  unfold appG
  rw [thatC_filter L (askQ parts p) (fun a b h => by unfold askQ; rw [((sameU_iff a b).1 h).2.1]), runU_part parts p (thatC L) G 0 0 hf, Nat.zero_add]
theorem cnt_step (G : List Vx) (L : List Mu) (parts : Int) (k : Nat) : cntQ (fun m => decide (partN m.i parts < (k + 1 : Nat))) G L = cntQ (fun m => decide (partN m.i parts < k)) G L + cntQ (askQ parts k) G L :=
  cntQ_or _ _ _ (fun m => by unfold askQ; rw [Bool.eq_iff_iff]; simp; omega) (fun m h => by unfold askQ at h; simp at h; omega) L G
theorem partN_bdU {id pp : Int} (h : 1 ≤ pp) : 0 ≤ partN id pp ∧ partN id pp < pp := by
  have := tmod_bd id pp (by omega)
  unfold partN
  rw [if_neg (by omega)]
  split <;> omega
theorem cnt_zero (G : List Vx) (L : List Mu) {parts : Int} (h : 1 ≤ parts) : cntQ (fun m => decide (partN m.i parts < (0 : Nat))) G L = 0 :=
  cntQ_none _ (fun m => by have := partN_bdU (id := m.i) h; simp; omega) L G
theorem cnt_end (G : List Vx) (L : List Mu) {parts : Int} (h : 1 ≤ parts) {k : Nat} (hk : (k : Int) = parts) : cntQ (fun m => decide (partN m.i parts < k)) G (thatC L) = (appG G L).2 := by
  unfold appG
  rw [cntQ_all, Nat.zero_add]
  exact cntQ_congr (fun m => by have := partN_bdU (id := m.i) h; simp; omega) _ _
end Go.Proofs.Ythnhmhjcpdomcaa
