/- Leases on plain data and in memory: a map of workers to lives and ticks: what it says, look-ups, updates, deletions. -/
import Derived.Test.YtipopaicehimeaaGnRow
import Derived.Test.YtipopaicehimeaaPlM
import Derived.Maps.OwnSet
import Derived.Maps.RangeWalk
import Derived.Lib.SlKeysI
import Derived.Sort.KeysCollected
namespace Go.Proofs.Ytipopaicehimeaa
open Go.RowKit Go.Maps
/-- A lease: whose, of which life, of which tick. -/
structure Lz where
  k : Int
  l : Int
  t : Int
def I6 (x : Int) : Prop := -9223372036854775808 ≤ x ∧ x ≤ 9223372036854775807
def Lz.ok (y : Lz) : Prop := I6 y.k ∧ I6 y.l ∧ I6 y.t
def getL (M : List Lz) (x : Int) : Option Lz := M.find? (fun y => y.k == x)
def lv (y : Lz) : Value := .agg #[.int .i64 y.l, .int .i64 y.t]
theorem getL_mem {M : List Lz} {x : Int} {y : Lz} (h : getL M x = some y) : y ∈ M ∧ y.k = x := ⟨List.mem_of_find?_eq_some h, by simpa using List.find?_some h⟩
theorem getL_none {M : List Lz} {x : Int} : getL M x = none ↔ ∀ y ∈ M, y.k ≠ x := by
  unfold getL
  rw [List.find?_eq_none]
  simp
theorem getL_some {M : List Lz} {x : Int} : (getL M x).isSome = true ↔ ∃ y ∈ M, y.k = x := by
  unfold getL
  rw [List.find?_isSome]
  simp
theorem getL_at {A C : List Lz} {y : Lz} (h : ∀ z ∈ A, z.k ≠ y.k) : getL (A ++ y :: C) y.k = some y := by
  unfold getL
  rw [List.find?_append, List.find?_eq_none.2 (fun z hz => by simpa using h z hz)]
  simp
theorem getL_other {A C : List Lz} {y : Lz} {x : Int} (h : y.k ≠ x) : getL (A ++ y :: C) x = getL (A ++ C) x := by
  unfold getL
  rw [List.find?_append, List.find?_append, List.find?_cons_of_neg (by simpa using h)]
theorem getL_snoc {M : List Lz} {y : Lz} {x : Int} (h : ∀ z ∈ M, z.k ≠ y.k) : getL (M ++ [y]) x = if x = y.k then some y else getL M x := by
  by_cases e : x = y.k
  · subst e
    rw [if_pos rfl]
    exact getL_at h
  · rw [if_neg e, getL_other (fun e2 => e e2.symm), List.append_nil]
def pR (v : Value) : Option (DataW Value × List MemPlace) := some (.held v, [])
theorem plaw : Keyed Try.prog 3 := int_keyed Try.underlying3
theorem pkey {x : Int} (h : I6 x) : keyOf Try.prog 3 (.int .i64 x) = some (.int .i64 x) := keyOf_int_mk Try.underlying3 (WalkArith.wf_i64 h)
theorem pkey_ne {i j : Int} (h : i ≠ j) : (Lit.int .i64 i) ≠ (Lit.int .i64 j) := by
  intro e
  cases e
  exact h rfl
/-- What a map says. -/
structure LM (M : List Lz) (D : DataW Value) : Prop where
  nod : (M.map (·.k)).Nodup
  ok : ∀ y ∈ M, y.ok
  has : ∀ x, Maps.has D (.int .i64 x) = (getL M x).isSome
  at_ : ∀ x z, D.atKey (.int .i64 x) (.held z) = .held (((getL M x).map lv).getD z)
def LMap (w : World) (b : Nat) (M : List Lz) : Prop := ∃ D n, w.ownsMap Try.prog 3 pR b n D ∧ LM M D
section
variable {w w' : World} {b : Nat} {M : List Lz}
theorem LMap.same (h : LMap w b M) (e : w'.heap[b]? = w.heap[b]?) : LMap w' b M := by
  obtain ⟨D, n, ⟨es, clock, hb, r⟩, hat⟩ := h
  exact ⟨D, n, ⟨es, clock, e.trans hb, r⟩, hat⟩
theorem LMap.lt (h : LMap w b M) : b < w.heap.size := by
  obtain ⟨D, n, h, _⟩ := h
  exact h.lt
theorem LMap.isMap (h : LMap w b M) : ∃ es c, w.heap[b]? = some (.map es c) := by
  obtain ⟨D, n, ⟨es, clock, hb, r⟩, hat⟩ := h
  exact ⟨es, clock, hb⟩
theorem LMap.kept (h : LMap w b M) {S : Nat → Prop} (fr : Fr w w' S) (hS : ¬ S b) : LMap w' b M := h.same (fr.block b h.lt hS)
theorem LMap.new (h : LMap w b M) (hb : Below w.heap.size w w') : LMap w' b M := h.same (hb.block b h.lt)
theorem LMap.made (w : World) : LMap (w.alloc (.map #[] 0)) w.heap.size [] := ⟨_, 0, World.ownsMap_made w _ _ _, ⟨List.nodup_nil, fun _ h => (by cases h), fun _ => rfl, fun _ _ => rfl⟩⟩
theorem LM.perm {n : Nat} {D : DataW Value} (h : w.ownsMap Try.prog 3 pR b n D) (hm : LM M D) : (M.map (·.k)).Perm (intKeys D) := by
  obtain ⟨es, rfl, hp, _⟩ := h.entries plaw
  obtain ⟨es', e, hk⟩ := h.keysOf
  cases e
  exact perm_intKeys (ss := M.map (·.k)) hp (fun p hp' => by
    obtain ⟨key, hkey⟩ := hk p hp'
    obtain ⟨x, _, hx, _⟩ := Maps.keyOf_int_inv Try.underlying3 hkey
    exact ⟨x, by assumption⟩) hm.nod (fun x => by rw [hm.has, getL_some, List.mem_map])
theorem LM.size {n : Nat} {D : DataW Value} (h : w.ownsMap Try.prog 3 pR b n D) (hm : LM M D) : Maps.size D = M.length := by
  have hp := (hm.perm h).length_eq
  obtain ⟨es, rfl, _, _⟩ := h.entries plaw
  rw [List.length_map] at hp
  simpa [intKeys, Maps.size] using hp.symm
theorem LMap.tight (h : LMap w b M) : ∃ D, w.ownsMap Try.prog 3 pR b M.length D ∧ LM M D := by
  obtain ⟨D, n, h, hm⟩ := h
  have hs := hm.size h
  obtain ⟨es, clock, hb, Ft, _, rfl⟩ := h
  refine ⟨_, ⟨es, clock, hb, Ft, ?_, rfl⟩, hm⟩
  rw [← hs]
  simp [Maps.size, length_sorted]
theorem pzero (w : World) : (zeroValue 52).run Try.prog w = .ok (.agg #[.int .i64 0, .int .i64 0]) w := by kernel_rfl
theorem LMap.lookOk (h : LMap w b M) {x : Int} (hx : I6 x) : (Instr.lookup 48 (.map (some b)) (.int .i64 x) true).run Try.prog w = .ok (.tuple #[((getL M x).map lv).getD (.agg #[.int .i64 0, .int .i64 0]), .bool (getL M x).isSome]) w := by
  obtain ⟨D, n, h, hm⟩ := h
  obtain ⟨v, ps, hrun, hv⟩ := h.look_ok plaw Try.underlying48 (z := .agg #[.int .i64 0, .int .i64 0]) (pzero w) (zd := .held (.agg #[.int .i64 0, .int .i64 0])) (zp := []) rfl (pkey hx)
  unfold pR at hv
  rw [hm.at_ x] at hv
  simp only [Option.some.injEq, Prod.mk.injEq, DataW.held.injEq] at hv
  rw [hrun, hm.has x, hv.1]
theorem pnil_look {x : Int} (hx : I6 x) : (Instr.lookup 48 (.map none) (.int .i64 x) true).run Try.prog w = .ok (.tuple #[.agg #[.int .i64 0, .int .i64 0], .bool false]) w := by
  have := Maps.look_nil (w := w) true plaw Try.underlying48 (pzero w) (pkey hx)
  simpa using this
/-- A lease is put. -/
theorem LMap.put (h : LMap w b M) (hl : M.length < 1000000) {y : Lz} (hy : y.ok) {M' : List Lz} (h1 : (M'.map (·.k)).Nodup) (h2 : ∀ z ∈ M', z.ok) (h3 : ∀ x, getL M' x = if x = y.k then some y else getL M x) :
    ∃ w', (Instr.mapUpdate 48 (.map (some b)) (.int .i64 y.k) (lv y)).run Try.prog w = .ok () w' ∧ LMap w' b M' ∧ Fr w w' (fun k => k = b) := by
  obtain ⟨D, h, hm⟩ := h.tight
  obtain ⟨w', hrun, g1, g2⟩ := h.store plaw Try.underlying48 (by unfold maxLen; omega) (pkey hy.1) (d := .held (lv y)) (ps := []) (show pR (lv y) = some (.held (lv y), []) from rfl)
  refine ⟨w', hrun, ⟨_, _, g1, ⟨h1, h2, fun x => ?_, fun x z => ?_⟩⟩, Fr.grown g2.grown (fun k e => by cases e; rfl)⟩
  · rw [h3]
    by_cases e : x = y.k
    · subst e
      rw [if_pos rfl, has_put_same h.isMap (show WideAt.IsKeyLit (.int .i64 y.k) from trivial)]
      rfl
    · rw [if_neg e, has_put_other (pkey_ne e), hm.has]
  · rw [h3]
    by_cases e : x = y.k
    · subst e
      rw [if_pos rfl, atKey_put_same h.isMap (show WideAt.IsKeyLit (.int .i64 y.k) from trivial)]
      rfl
    · rw [if_neg e, atKey_put_other (pkey_ne e), hm.at_]
/-- A lease is let go. -/
theorem LMap.del (h : LMap w b M) {x : Int} (hx : I6 x) (ty : TypeId) {M' : List Lz} (h1 : (M'.map (·.k)).Nodup) (h2 : ∀ z ∈ M', z.ok) (h3 : ∀ z, getL M' z = if z = x then none else getL M z) :
    ∃ w', (Builtin.delete_ #[48, 3] ty #[.map (some b), .int .i64 x]).run Try.prog w = .ok (.tuple #[]) w' ∧ LMap w' b M' ∧ Fr w w' (fun k => k = b) := by
  obtain ⟨D, n, h, hm⟩ := h
  obtain ⟨w', hrun, g1, g2⟩ := h.drop plaw Try.underlying48 (pkey hx) ty
  refine ⟨w', hrun, ⟨_, _, g1, ⟨h1, h2, fun y => ?_, fun y z => ?_⟩⟩, Fr.grown g2.grown (fun k e => by cases e; rfl)⟩
  · rw [h3]
    by_cases e : y = x
    · subst e
      rw [if_pos rfl, has_del_same]
      rfl
    · rw [if_neg e, has_del_other (pkey_ne e), hm.has]
  · rw [h3]
    by_cases e : y = x
    · subst e
      rw [if_pos rfl, atKey_del_same]
      rfl
    · rw [if_neg e, atKey_del_other (pkey_ne e), hm.at_]
theorem LMap.nod (h : LMap w b M) : (M.map (·.k)).Nodup := by obtain ⟨_, _, _, hm⟩ := h; exact hm.nod
theorem LMap.oks (h : LMap w b M) : ∀ y ∈ M, y.ok := by obtain ⟨_, _, _, hm⟩ := h; exact hm.ok
end
/-- Leases at p: how long they last, and a map or none. -/
structure LA (w : World) (B p : Nat) (long : Int) (mb : Option Nat) (M : List Lz) : Prop where
  box : w.heap[p]? = some (.cells #[.int .i64 long, .map mb] 50 (0, 0))
  low : B ≤ p
  mp : match mb with
    | none => M = []
    | some b => B ≤ b ∧ b ≠ p ∧ LMap w b M
section
variable {w w' : World} {B p : Nat} {long : Int} {mb : Option Nat} {M : List Lz}
theorem LA.lt (h : LA w B p long mb M) : p < w.heap.size := glt_blk h.box
theorem LA.c0 (h : LA w B p long mb M) : w.cell? ⟨p, 0, none⟩ = some (.int .i64 long) := by simp [World.cell?, h.box]
theorem LA.c1 (h : LA w B p long mb M) : w.cell? ⟨p, 1, none⟩ = some (.map mb) := by simp [World.cell?, h.box]
theorem LA.f1 (h : LA w B p long mb M) : w.frozen? ⟨p, 1, none⟩ = false := by simp [World.frozen?, h.box]
theorem LA.kept (h : LA w B p long mb M) {S : Nat → Prop} (f : Fr w w' S) (hp : ¬ S p) (hb : ∀ b, mb = some b → ¬ S b) : LA w' B p long mb M := by
  refine ⟨(f.block p h.lt hp).trans h.box, h.low, ?_⟩
  have := h.mp
  cases mb with
  | none => exact this
  | some b => exact ⟨this.1, this.2.1, this.2.2.kept f (hb b rfl)⟩
theorem LA.new (h : LA w B p long mb M) (hb : Below w.heap.size w w') : LA w' B p long mb M := h.kept (Fr.ofBelow hb (fun _ => False)) (fun h => h) (fun _ _ h => h)
theorem LA.base (h : LA w B p long mb M) : B ≤ w.heap.size := by have := h.low; have := h.lt; omega
theorem LA.nod (h : LA w B p long mb M) : (M.map (·.k)).Nodup := by
  have := h.mp
  cases mb with
  | none => rw [show M = [] from this]; exact List.nodup_nil
  | some b => exact this.2.2.nod
theorem LA.look (h : LA w B p long mb M) {x : Int} (hx : I6 x) : (Instr.lookup 48 (.map mb) (.int .i64 x) true).run Try.prog w = .ok (.tuple #[((getL M x).map lv).getD (.agg #[.int .i64 0, .int .i64 0]), .bool (getL M x).isSome]) w := by
  have := h.mp
  cases mb with
  | none => rw [show M = [] from this]; exact pnil_look hx
  | some b => exact this.2.2.lookOk hx
end
end Go.Proofs.Ytipopaicehimeaa
