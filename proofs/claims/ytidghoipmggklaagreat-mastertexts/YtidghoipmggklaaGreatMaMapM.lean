import Derived.Test.YtidghoipmggklaaGreatGnRowM
import Derived.Test.YtidghoipmggklaaGreatPlMM
import Derived.Maps.OwnSet
import Derived.Maps.RangeWalk
import Derived.Lib.SlKeysI
import Derived.Sort.KeysCollected
/- A map of ints to ints, on plain data and in memory: what it says, look-ups, updates, deletions. -/
namespace Go.Proofs.YtidghoipmggklaaGreat
open Go.RowKit Go.Maps
/-- A pair of a map. -/
structure Pz where
  k : Int
  l : Int
def W6 (x : Int) : Prop := -9223372036854775808 ≤ x ∧ x ≤ 9223372036854775807
def Pz.ok (y : Pz) : Prop := W6 y.k ∧ W6 y.l
def getP (M : List Pz) (x : Int) : Option Pz := M.find? (fun y => y.k == x)
def pv (y : Pz) : Value := .int .i64 y.l
theorem getP_some {M : List Pz} {x : Int} : (getP M x).isSome = true ↔ ∃ y ∈ M, y.k = x := by
  unfold getP
  rw [List.find?_isSome]
  simp
theorem getP_at {A C : List Pz} {y : Pz} (h : ∀ z ∈ A, z.k ≠ y.k) : getP (A ++ y :: C) y.k = some y := by
  unfold getP
  rw [List.find?_append, List.find?_eq_none.2 (fun z hz => by simpa using h z hz)]
  simp
theorem getP_other {A C : List Pz} {y : Pz} {x : Int} (h : y.k ≠ x) : getP (A ++ y :: C) x = getP (A ++ C) x := by
  unfold getP
  rw [List.find?_append, List.find?_append, List.find?_cons_of_neg (by simpa using h)]
theorem getP_snoc {M : List Pz} {y : Pz} {x : Int} (h : ∀ z ∈ M, z.k ≠ y.k) : getP (M ++ [y]) x = if x = y.k then some y else getP M x := by
  by_cases e : x = y.k
  · subst e
    rw [if_pos rfl]
    exact getP_at h
  · rw [if_neg e, getP_other (fun e2 => e e2.symm), List.append_nil]
def wR (v : Value) : Option (DataW Value × List MemPlace) := some (.held v, [])
theorem wlaw : Keyed Tryz.prog 3 := int_keyed Tryz.underlying3
theorem wkey {x : Int} (h : W6 x) : keyOf Tryz.prog 3 (.int .i64 x) = some (.int .i64 x) := keyOf_int_mk Tryz.underlying3 (WalkArith.wf_i64 h)
theorem wkey_ne {i j : Int} (h : i ≠ j) : (Lit.int .i64 i) ≠ (Lit.int .i64 j) := by
  intro e
  cases e
  exact h rfl
/-- What a map says. -/
structure WM (M : List Pz) (D : DataW Value) : Prop where
  nod : (M.map (·.k)).Nodup
  ok : ∀ y ∈ M, y.ok
  has : ∀ x, Maps.has D (.int .i64 x) = (getP M x).isSome
  at_ : ∀ x z, D.atKey (.int .i64 x) (.held z) = .held (((getP M x).map pv).getD z)
def WMap (w : World) (b : Nat) (M : List Pz) : Prop := ∃ D n, w.ownsMap Tryz.prog 3 wR b n D ∧ WM M D
section
variable {w w' : World} {b : Nat} {M : List Pz}
theorem WMap.same (h : WMap w b M) (e : w'.heap[b]? = w.heap[b]?) : WMap w' b M := by
  obtain ⟨D, n, ⟨es, clock, hb, r⟩, hat⟩ := h
  exact ⟨D, n, ⟨es, clock, e.trans hb, r⟩, hat⟩
theorem WMap.lt (h : WMap w b M) : b < w.heap.size := by
  obtain ⟨D, n, h, _⟩ := h
  exact h.lt
theorem WMap.isMap (h : WMap w b M) : ∃ es c, w.heap[b]? = some (.map es c) := by
  obtain ⟨D, n, ⟨es, clock, hb, r⟩, hat⟩ := h
  exact ⟨es, clock, hb⟩
theorem WMap.kept (h : WMap w b M) {S : Nat → Prop} (fr : Fr w w' S) (hS : ¬ S b) : WMap w' b M := h.same (fr.block b h.lt hS)
theorem WMap.new (h : WMap w b M) (hb : Below w.heap.size w w') : WMap w' b M := h.same (hb.block b h.lt)
theorem WMap.made (w : World) : WMap (w.alloc (.map #[] 0)) w.heap.size [] := ⟨_, 0, World.ownsMap_made w _ _ _, ⟨List.nodup_nil, fun _ h => (by cases h), fun _ => rfl, fun _ _ => rfl⟩⟩
theorem WM.perm {n : Nat} {D : DataW Value} (h : w.ownsMap Tryz.prog 3 wR b n D) (hm : WM M D) : (M.map (·.k)).Perm (intKeys D) := by
  obtain ⟨es, rfl, hp, _⟩ := h.entries wlaw
  obtain ⟨es', e, hk⟩ := h.keysOf
  cases e
  exact perm_intKeys (ss := M.map (·.k)) hp (fun p hp' => by
    obtain ⟨key, hkey⟩ := hk p hp'
    obtain ⟨x, _, hx, _⟩ := Maps.keyOf_int_inv Tryz.underlying3 hkey
    exact ⟨x, by assumption⟩) hm.nod (fun x => by rw [hm.has, getP_some, List.mem_map])
theorem WM.size {n : Nat} {D : DataW Value} (h : w.ownsMap Tryz.prog 3 wR b n D) (hm : WM M D) : Maps.size D = M.length := by
  have hp := (hm.perm h).length_eq
  obtain ⟨es, rfl, _, _⟩ := h.entries wlaw
  rw [List.length_map] at hp
  simpa [intKeys, Maps.size] using hp.symm
theorem WMap.tight (h : WMap w b M) : ∃ D, w.ownsMap Tryz.prog 3 wR b M.length D ∧ WM M D := by
  obtain ⟨D, n, h, hm⟩ := h
  have hs := hm.size h
  obtain ⟨es, clock, hb, Ft, _, rfl⟩ := h
  refine ⟨_, ⟨es, clock, hb, Ft, ?_, rfl⟩, hm⟩
  rw [← hs]
  simp [Maps.size, length_sorted]
theorem wzero (w : World) : (zeroValue 3).run Tryz.prog w = .ok (.int .i64 0) w := by kernel_rfl
theorem WMap.lookOk (h : WMap w b M) {x : Int} (hx : W6 x) : (Instr.lookup 90 (.map (some b)) (.int .i64 x) true).run Tryz.prog w = .ok (.tuple #[((getP M x).map pv).getD (.int .i64 0), .bool (getP M x).isSome]) w := by
  obtain ⟨D, n, h, hm⟩ := h
  obtain ⟨v, ps, hrun, hv⟩ := h.look_ok wlaw Tryz.underlying90 (z := .int .i64 0) (wzero w) (zd := .held (.int .i64 0)) (zp := []) rfl (wkey hx)
  unfold wR at hv
  rw [hm.at_ x] at hv
  simp only [Option.some.injEq, Prod.mk.injEq, DataW.held.injEq] at hv
  rw [hrun, hm.has x, hv.1]
theorem wnil_look {x : Int} (hx : W6 x) : (Instr.lookup 90 (.map none) (.int .i64 x) true).run Tryz.prog w = .ok (.tuple #[.int .i64 0, .bool false]) w := by
  have := Maps.look_nil (w := w) true wlaw Tryz.underlying90 (wzero w) (wkey hx)
  simpa using this
/-- A lease is put. -/
theorem WMap.put (h : WMap w b M) (hl : M.length < 1000000) {y : Pz} (hy : y.ok) {M' : List Pz} (h1 : (M'.map (·.k)).Nodup) (h2 : ∀ z ∈ M', z.ok) (h3 : ∀ x, getP M' x = if x = y.k then some y else getP M x) :
    ∃ w', (Instr.mapUpdate 90 (.map (some b)) (.int .i64 y.k) (pv y)).run Tryz.prog w = .ok () w' ∧ WMap w' b M' ∧ Fr w w' (fun k => k = b) := by
  obtain ⟨D, h, hm⟩ := h.tight
  obtain ⟨w', hrun, g1, g2⟩ := h.store wlaw Tryz.underlying90 (by unfold maxLen; omega) (wkey hy.1) (d := .held (pv y)) (ps := []) (show wR (pv y) = some (.held (pv y), []) from rfl)
  refine ⟨w', hrun, ⟨_, _, g1, ⟨h1, h2, fun x => ?_, fun x z => ?_⟩⟩, Fr.grown g2.grown (fun k e => by cases e; rfl)⟩
  · rw [h3]
    by_cases e : x = y.k
    · subst e
      rw [if_pos rfl, has_put_same h.isMap (show WideAt.IsKeyLit (.int .i64 y.k) from trivial)]
      rfl
    · rw [if_neg e, has_put_other (wkey_ne e), hm.has]
  · rw [h3]
    by_cases e : x = y.k
    · subst e
      rw [if_pos rfl, atKey_put_same h.isMap (show WideAt.IsKeyLit (.int .i64 y.k) from trivial)]
      rfl
    · rw [if_neg e, atKey_put_other (wkey_ne e), hm.at_]
/-- A lease is let go. -/
theorem WMap.del (h : WMap w b M) {x : Int} (hx : W6 x) (ty : TypeId) {M' : List Pz} (h1 : (M'.map (·.k)).Nodup) (h2 : ∀ z ∈ M', z.ok) (h3 : ∀ z, getP M' z = if z = x then none else getP M z) :
    ∃ w', (Builtin.delete_ #[90, 3] ty #[.map (some b), .int .i64 x]).run Tryz.prog w = .ok (.tuple #[]) w' ∧ WMap w' b M' ∧ Fr w w' (fun k => k = b) := by
  obtain ⟨D, n, h, hm⟩ := h
  obtain ⟨w', hrun, g1, g2⟩ := h.drop wlaw Tryz.underlying90 (wkey hx) ty
  refine ⟨w', hrun, ⟨_, _, g1, ⟨h1, h2, fun y => ?_, fun y z => ?_⟩⟩, Fr.grown g2.grown (fun k e => by cases e; rfl)⟩
  · rw [h3]
    by_cases e : y = x
    · subst e
      rw [if_pos rfl, has_del_same]
      rfl
    · rw [if_neg e, has_del_other (wkey_ne e), hm.has]
  · rw [h3]
    by_cases e : y = x
    · subst e
      rw [if_pos rfl, atKey_del_same]
      rfl
    · rw [if_neg e, atKey_del_other (wkey_ne e), hm.at_]
theorem WMap.nod (h : WMap w b M) : (M.map (·.k)).Nodup := by obtain ⟨_, _, _, hm⟩ := h; exact hm.nod
theorem WMap.oks (h : WMap w b M) : ∀ y ∈ M, y.ok := by obtain ⟨_, _, _, hm⟩ := h; exact hm.ok
end
end Go.Proofs.YtidghoipmggklaaGreat
