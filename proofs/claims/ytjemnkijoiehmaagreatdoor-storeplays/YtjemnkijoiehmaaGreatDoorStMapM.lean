import Derived.Test.YtjemnkijoiehmaaGreatDoorGnRowM
import Derived.Test.YtjemnkijoiehmaaGreatDoorStNumM
import Derived.Maps.OwnSet
import Derived.Maps.RangeWalk
import Derived.Lib.SlKeysI
import Derived.Sort.KeysCollected
/- store: maps of few numbers to anything: look-ups, updates, deletions. -/
namespace Go.Proofs.YtjemnkijoiehmaaGreatDoor
open Go.RowKit Go.Maps
def I6 (x : Int) : Prop := -9223372036854775808 ≤ x ∧ x ≤ 9223372036854775807
def pR (v : Value) : Option (DataW Value × List MemPlace) := some (.held v, [])
theorem plaw : Keyed Tryz.prog 3 := int_keyed Tryz.underlying3
theorem pkey {x : Int} (h : I6 x) : keyOf Tryz.prog 3 (.int .i64 x) = some (.int .i64 x) := keyOf_int_mk Tryz.underlying3 (WalkArith.wf_i64 h)
theorem pkey_ne {i j : Int} (h : i ≠ j) : (Lit.int .i64 i) ≠ (Lit.int .i64 j) := by
  intro e
  cases e
  exact h rfl
/-- A type of maps of ints: its elements' type and zero value. -/
structure MT (tm te : TypeId) (z : Value) : Prop where
  und : Tryz.prog.underlying tm = some (.map 3 te)
  zero : ∀ w, (zeroValue te).run Tryz.prog w = .ok z w
section
variable {α : Type} (lv : α → Value)
/-- What a map says. -/
structure IMd (f : Int → Option α) (D : DataW Value) : Prop where
  sup : Sup f
  has : ∀ x, Maps.has D (.int .i64 x) = (f x).isSome
  at_ : ∀ x z, D.atKey (.int .i64 x) (.held z) = .held (((f x).map lv).getD z)
def IMp (w : World) (b : Nat) (f : Int → Option α) : Prop := ∃ D n, w.ownsMap Tryz.prog 3 pR b n D ∧ IMd lv f D
end
section
variable {α : Type} {lv : α → Value} {w w' : World} {b : Nat} {f : Int → Option α} {tm te : TypeId} {zv : Value}
theorem IMp.same (h : IMp lv w b f) (e : w'.heap[b]? = w.heap[b]?) : IMp lv w' b f := by
  obtain ⟨D, n, ⟨es, clock, hb, r⟩, hat⟩ := h
  exact ⟨D, n, ⟨es, clock, e.trans hb, r⟩, hat⟩
theorem IMp.lt (h : IMp lv w b f) : b < w.heap.size := by
  obtain ⟨D, n, h, _⟩ := h
  exact h.lt
theorem IMp.isMap (h : IMp lv w b f) : ∃ es c, w.heap[b]? = some (.map es c) := by
  obtain ⟨D, n, ⟨es, clock, hb, r⟩, hat⟩ := h
  exact ⟨es, clock, hb⟩
theorem IMp.sup (h : IMp lv w b f) : Sup f := by
  obtain ⟨D, n, _, hm⟩ := h
  exact hm.sup
theorem IMp.kept (h : IMp lv w b f) {S : Nat → Prop} (fr : Fr w w' S) (hS : ¬ S b) : IMp lv w' b f := h.same (fr.block b h.lt hS)
theorem IMp.new (h : IMp lv w b f) (hb : Below w.heap.size w w') : IMp lv w' b f := h.same (hb.block b h.lt)
theorem IMp.made (lv : α → Value) (w : World) : IMp lv (w.alloc (.map #[] 0)) w.heap.size (noneO : Int → Option α) := ⟨_, 0, World.ownsMap_made w _ _ _, ⟨Sup.none, fun _ => rfl, fun _ _ => rfl⟩⟩
theorem IMd.perm {n : Nat} {D : DataW Value} (h : w.ownsMap Tryz.prog 3 pR b n D) (hm : IMd lv f D) : (keysO f).Perm (intKeys D) := by
  obtain ⟨es, rfl, hp, _⟩ := h.entries plaw
  obtain ⟨es', e, hk⟩ := h.keysOf
  cases e
  exact perm_intKeys (ss := keysO f) hp (fun p hp' => by
    obtain ⟨key, hkey⟩ := hk p hp'
    obtain ⟨x, _, hx, _⟩ := Maps.keyOf_int_inv Tryz.underlying3 hkey
    exact ⟨x, by assumption⟩) keysO_nodup (fun x => by rw [hm.has, mem_keysO hm.sup])
theorem IMd.size {n : Nat} {D : DataW Value} (h : w.ownsMap Tryz.prog 3 pR b n D) (hm : IMd lv f D) : Maps.size D = (keysO f).length := by
  have hp := (hm.perm h).length_eq
  obtain ⟨es, rfl, _, _⟩ := h.entries plaw
  simpa [intKeys, Maps.size] using hp.symm
theorem IMp.tight (h : IMp lv w b f) : ∃ D, w.ownsMap Tryz.prog 3 pR b (keysO f).length D ∧ IMd lv f D := by
  obtain ⟨D, n, h, hm⟩ := h
  have hs := hm.size h
  obtain ⟨es, clock, hb, Ft, _, rfl⟩ := h
  refine ⟨_, ⟨es, clock, hb, Ft, ?_, rfl⟩, hm⟩
  rw [← hs]
  simp [Maps.size, length_sorted]
theorem IMp.look (T : MT tm te zv) (h : IMp lv w b f) {x : Int} (hx : I6 x) : (Instr.lookup tm (.map (some b)) (.int .i64 x) false).run Tryz.prog w = .ok (((f x).map lv).getD zv) w := by
  obtain ⟨D, n, h, hm⟩ := h
  obtain ⟨v, ps, hrun, hv⟩ := h.lookup plaw T.und (z := zv) (T.zero w) (zd := .held zv) (zp := []) rfl (pkey hx)
  unfold pR at hv
  rw [hm.at_ x] at hv
  simp only [Option.some.injEq, Prod.mk.injEq, DataW.held.injEq] at hv
  rw [hrun, hv.1]
theorem IMp.lookOk (T : MT tm te zv) (h : IMp lv w b f) {x : Int} (hx : I6 x) : (Instr.lookup tm (.map (some b)) (.int .i64 x) true).run Tryz.prog w = .ok (.tuple #[((f x).map lv).getD zv, .bool (f x).isSome]) w := by
  obtain ⟨D, n, h, hm⟩ := h
  obtain ⟨v, ps, hrun, hv⟩ := h.look_ok plaw T.und (z := zv) (T.zero w) (zd := .held zv) (zp := []) rfl (pkey hx)
  unfold pR at hv
  rw [hm.at_ x] at hv
  simp only [Option.some.injEq, Prod.mk.injEq, DataW.held.injEq] at hv
  rw [hrun, hm.has x, hv.1]
theorem nilm_lookOk (T : MT tm te zv) {x : Int} (hx : I6 x) : (Instr.lookup tm (.map none) (.int .i64 x) true).run Tryz.prog w = .ok (.tuple #[zv, .bool false]) w := by
  have := Maps.look_nil (w := w) true plaw T.und (T.zero w) (pkey hx)
  simpa using this
theorem nilm_look (T : MT tm te zv) {x : Int} (hx : I6 x) : (Instr.lookup tm (.map none) (.int .i64 x) false).run Tryz.prog w = .ok zv w := by
  have := Maps.look_nil (w := w) false plaw T.und (T.zero w) (pkey hx)
  simpa using this
theorem i6_few {x : Int} (h0 : 0 ≤ x) (h1 : x < 16) : I6 x := ⟨by omega, by omega⟩
/-- An element is put. -/
theorem IMp.put (T : MT tm te zv) (h : IMp lv w b f) {x : Int} (h0 : 0 ≤ x) (h1 : x < 16) (y : α) :
    ∃ w', (Instr.mapUpdate tm (.map (some b)) (.int .i64 x) (lv y)).run Tryz.prog w = .ok () w' ∧ IMp lv w' b (setO f x y) ∧ Fr w w' (fun k => k = b) := by
  obtain ⟨D, h, hm⟩ := h.tight
  have hl := keysO_len (f := f)
  obtain ⟨w', hrun, g1, g2⟩ := h.store plaw T.und (by unfold maxLen; omega) (pkey (i6_few h0 h1)) (d := .held (lv y)) (ps := []) (show pR (lv y) = some (.held (lv y), []) from rfl)
  refine ⟨w', hrun, ⟨_, _, g1, ⟨hm.sup.set h0 h1, fun z => ?_, fun z u => ?_⟩⟩, Fr.grown g2.grown (fun k e => by cases e; rfl)⟩
  · by_cases e : z = x
    · subst e
      rw [set_same, has_put_same h.isMap (show WideAt.IsKeyLit (.int .i64 z) from trivial)]
      rfl
    · rw [set_ne e, has_put_other (pkey_ne e), hm.has]
  · by_cases e : z = x
    · subst e
      rw [set_same, atKey_put_same h.isMap (show WideAt.IsKeyLit (.int .i64 z) from trivial)]
      rfl
    · rw [set_ne e, atKey_put_other (pkey_ne e), hm.at_]
/-- An element is let go. -/
theorem IMp.del (T : MT tm te zv) (h : IMp lv w b f) {x : Int} (hx : I6 x) (ty : TypeId) :
    ∃ w', (Builtin.delete_ #[tm, 3] ty #[.map (some b), .int .i64 x]).run Tryz.prog w = .ok (.tuple #[]) w' ∧ IMp lv w' b (cutO' f x) ∧ Fr w w' (fun k => k = b) := by
  obtain ⟨D, n, h, hm⟩ := h
  obtain ⟨w', hrun, g1, g2⟩ := h.drop plaw T.und (pkey hx) ty
  refine ⟨w', hrun, ⟨_, _, g1, ⟨hm.sup.cut, fun y => ?_, fun y z => ?_⟩⟩, Fr.grown g2.grown (fun k e => by cases e; rfl)⟩
  · by_cases e : y = x
    · subst e
      rw [cut_same, has_del_same]
      rfl
    · rw [cut_ne e, has_del_other (pkey_ne e), hm.has]
  · by_cases e : y = x
    · subst e
      rw [cut_same, atKey_del_same]
      rfl
    · rw [cut_ne e, atKey_del_other (pkey_ne e), hm.at_]
/-- Such a map, or none. -/
def IMo (lv : α → Value) (w : World) (mb : Option Nat) (f : Int → Option α) : Prop := match mb with
  | none => f = noneO
  | some b => IMp lv w b f
theorem IMo.sup {mb : Option Nat} (h : IMo lv w mb f) : Sup f := by
  cases mb with
  | none => rw [show f = noneO from h]; exact Sup.none
  | some b => exact IMp.sup h
theorem IMo.lookOk (T : MT tm te zv) {mb : Option Nat} (h : IMo lv w mb f) {x : Int} (hx : I6 x) : (Instr.lookup tm (.map mb) (.int .i64 x) true).run Tryz.prog w = .ok (.tuple #[((f x).map lv).getD zv, .bool (f x).isSome]) w := by
  cases mb with
  | none => rw [show f = noneO from h]; exact nilm_lookOk T hx
  | some b => exact IMp.lookOk T h hx
theorem IMo.look (T : MT tm te zv) {mb : Option Nat} (h : IMo lv w mb f) {x : Int} (hx : I6 x) : (Instr.lookup tm (.map mb) (.int .i64 x) false).run Tryz.prog w = .ok (((f x).map lv).getD zv) w := by
  cases mb with
  | none => rw [show f = noneO from h]; exact nilm_look T hx
  | some b => exact IMp.look T h hx
theorem IMo.kept {mb : Option Nat} (h : IMo lv w mb f) {S : Nat → Prop} (fr : Fr w w' S) (hS : ∀ b, mb = some b → ¬ S b) : IMo lv w' mb f := by
  cases mb with
  | none => exact h
  | some b => exact IMp.kept h fr (hS b rfl)
end
end Go.Proofs.YtjemnkijoiehmaaGreatDoor
