import Derived.Test.YtjemnkijoiehmaaGreatDoorDkFilesM
import Derived.Test.YtjemnkijoiehmaaGreatDoorStrM
import Derived.Test.YtjemnkijoiehmaaGreatDoorNumM
import Derived.Test.YtjemnkijoiehmaaGreatDoorProg
import Derived.Maps.OwnSet
import Derived.Sort.KeysCollected
import Derived.WalkKit
import Derived.OwnWalk
/- A map of names to files in memory: what it says, look-ups, updates, deletions. -/
namespace Go.Proofs.YtjemnkijoiehmaaGreatDoor
open Go.RowKit Go.Maps
/-- How a file reads. -/
def fileR (v : Value) : Option (DataW Unit × List MemPlace) :=
  match v with
  | .agg cs => match cs.toList with
    | [.string s] => some (.lit (.string s.data.toList), [])
    | _ => none
  | _ => none
theorem fileR_mk (v : Bs) : fileR (.agg #[.string (str v)]) = some (.lit (.string v), []) := rfl
theorem fileR_inv {v : Value} {z : DataW Unit × List MemPlace} (h : fileR v = some z) : ∃ x, v = .agg #[.string (str x)] ∧ z = (.lit (.string x), []) := by
  unfold fileR at h
  split at h
  · rename_i cs
    split at h
    · rename_i s e
      cases h
      refine ⟨s.data.toList, ?_, rfl⟩
      rw [str_data, ← Array.toArray_toList (xs := cs), e]
    · cases h
  · cases h
theorem lawS : Keyed Tryz.prog 9 := string_keyed Tryz.underlying9
theorem keyS {k : Bs} (h : k.length ≤ maxLen) : keyOf Tryz.prog 9 (.string (str k)) = some (.string k) := WideMaps.keyOf_string_mk Tryz.underlying9 h
theorem zeroF (w : World) : (zeroValue 72).run Tryz.prog w = .ok (.agg #[.string (str [])]) w := by kernel_rfl
/-- A map that says what the files are. -/
def FMap (w : World) (b : Nat) (l : Fl) : Prop := SortF l ∧ ∃ D : DataW Unit, (∃ n, w.ownsMap Tryz.prog 9 fileR b n D) ∧ ∀ k : Bs, Maps.has D (.string k) = (getF k l).isSome ∧ D.atKey (.string k) (.lit (.string [])) = .lit (.string (ofF k l))
theorem FMap.same {w w' : World} {b : Nat} {l : Fl} (h : FMap w b l) (e : w'.heap[b]? = w.heap[b]?) : FMap w' b l := by
  obtain ⟨hs, D, ⟨n, es, clock, hb, r⟩, hat⟩ := h
  exact ⟨hs, D, ⟨n, es, clock, e.trans hb, r⟩, hat⟩
theorem FMap.lt {w : World} {b : Nat} {l : Fl} (h : FMap w b l) : b < w.heap.size := by
  obtain ⟨_, D, ⟨_, h⟩, _⟩ := h
  exact h.lt
theorem FMap.isMap {w : World} {b : Nat} {l : Fl} (h : FMap w b l) : ∃ es c, w.heap[b]? = some (.map es c) := by
  obtain ⟨hs, D, ⟨n, es, clock, hb, r⟩, hat⟩ := h
  exact ⟨es, clock, hb⟩
theorem FMap.made (w : World) : FMap (w.alloc (.map #[] 0)) w.heap.size [] := ⟨List.Pairwise.nil, _, ⟨0, World.ownsMap_made w _ _ _⟩, fun _ => ⟨rfl, rfl⟩⟩
theorem own_tight {w : World} {b n : Nat} {D : DataW Unit} (h : w.ownsMap Tryz.prog 9 fileR b n D) : w.ownsMap Tryz.prog 9 fileR b (Maps.size D) D := by
  obtain ⟨es, clock, hb, F, _, rfl⟩ := h
  exact ⟨es, clock, hb, F, by simp [Maps.size, length_sorted], rfl⟩
theorem keys_perm {w : World} {b n : Nat} {D : DataW Unit} {l : Fl} (hs : SortF l) (h : w.ownsMap Tryz.prog 9 fileR b n D) (hat : ∀ k : Bs, Maps.has D (.string k) = (getF k l).isSome) : (l.map (·.1)).Perm (strKeys D) := by
  obtain ⟨es, rfl, hp, _⟩ := h.entries lawS
  obtain ⟨es', e, hk⟩ := h.keysOf
  cases e
  refine perm_strKeys hp (fun p hp => ?_) ?_ fun x => ?_
  · obtain ⟨key, hkey⟩ := hk p hp
    obtain ⟨x, _, hx, _⟩ := Maps.keyOf_str Tryz.underlying9 hkey
    exact ⟨x, hx⟩
  · refine List.pairwise_map.2 (List.Pairwise.imp ?_ hs)
    intro p q g e
    rw [e] at g
    exact b_irr _ g
  · rw [hat x]
    constructor
    · intro hx
      obtain ⟨p, hp, rfl⟩ := List.mem_map.1 hx
      rw [getF_of_mem hs hp]
      rfl
    · intro hx
      obtain ⟨v, hv⟩ := Option.isSome_iff_exists.1 hx
      exact List.mem_map.2 ⟨_, getF_mem hv, rfl⟩
theorem size_is {w : World} {b n : Nat} {D : DataW Unit} {l : Fl} (hs : SortF l) (h : w.ownsMap Tryz.prog 9 fileR b n D) (hat : ∀ k : Bs, Maps.has D (.string k) = (getF k l).isSome) : Maps.size D = l.length := by
  have hp := (keys_perm hs h hat).length_eq
  obtain ⟨es, rfl, _, _⟩ := h.entries lawS
  rw [List.length_map] at hp
  simpa [strKeys, Maps.size] using hp.symm
theorem FMap.look {w : World} {b : Nat} {l : Fl} (h : FMap w b l) {k : Bs} (hk : k.length ≤ maxLen) : (Instr.lookup 50 (.map (some b)) (.string (str k)) false).run Tryz.prog w = .ok (.agg #[.string (str (ofF k l))]) w := by
  obtain ⟨_, D, ⟨n, h⟩, hat⟩ := h
  obtain ⟨v, ps, hrun, hv⟩ := h.lookup lawS Tryz.underlying50 (z := .agg #[.string (str [])]) (zeroF w) (fileR_mk []) (keyS hk)
  obtain ⟨x, rfl, hz⟩ := fileR_inv hv
  rw [(hat k).2] at hz
  simp only [Prod.mk.injEq, DataW.lit.injEq, Lit.string.injEq] at hz
  rw [hrun, hz.1]
theorem FMap.lookOk {w : World} {b : Nat} {l : Fl} (h : FMap w b l) {k : Bs} (hk : k.length ≤ maxLen) : (Instr.lookup 50 (.map (some b)) (.string (str k)) true).run Tryz.prog w = .ok (.tuple #[.agg #[.string (str (ofF k l))], .bool (getF k l).isSome]) w := by
  obtain ⟨_, D, ⟨n, h⟩, hat⟩ := h
  obtain ⟨v, ps, hrun, hv⟩ := h.look_ok lawS Tryz.underlying50 (z := .agg #[.string (str [])]) (zeroF w) (fileR_mk []) (keyS hk)
  obtain ⟨x, rfl, hz⟩ := fileR_inv hv
  rw [(hat k).2] at hz
  simp only [Prod.mk.injEq, DataW.lit.injEq, Lit.string.injEq] at hz
  rw [hrun, hz.1, (hat k).1]
theorem nil_look {w : World} {k : Bs} (hk : k.length ≤ maxLen) : (Instr.lookup 50 (.map none) (.string (str k)) true).run Tryz.prog w = .ok (.tuple #[.agg #[.string (str [])], .bool false]) w := by
  have := Maps.look_nil (w := w) true lawS Tryz.underlying50 (zeroF w) (keyS hk)
  simpa using this
theorem skey_ne {i j : Bs} (h : i ≠ j) : (Lit.string i) ≠ (Lit.string j) := by
  intro e
  cases e
  exact h rfl
theorem ofF_put {l : Fl} (hs : SortF l) (k v j : Bs) : ofF j (putF k v l) = if j = k then v else ofF j l := by
  unfold ofF
  rw [getF_put hs]
  split <;> rfl
theorem ofF_del {l : Fl} (hs : SortF l) (k j : Bs) : ofF j (delF k l) = if j = k then [] else ofF j l := by
  unfold ofF
  rw [getF_del hs]
  split <;> rfl
theorem FMap.put {w : World} {b : Nat} {l : Fl} (h : FMap w b l) (hn : l.length < maxLen) {k : Bs} (hk : k.length ≤ maxLen) (v : Bs) : ∃ w', (Instr.mapUpdate 50 (.map (some b)) (.string (str k)) (.agg #[.string (str v)])).run Tryz.prog w = .ok () w' ∧ FMap w' b (putF k v l) ∧ Fr w w' (fun j => j = b) := by
  obtain ⟨hs, D, ⟨n, h⟩, hat⟩ := h
  have ht := own_tight h
  rw [size_is hs h (fun k => (hat k).1)] at ht
  obtain ⟨w', hrun, h1, h2⟩ := ht.store lawS Tryz.underlying50 hn (keyS hk) (fileR_mk v)
  refine ⟨w', hrun, ⟨sort_putF _ _ hs, _, ⟨_, h1⟩, fun y => ?_⟩, Fr.grown h2.grown (fun k e => by cases e; rfl)⟩
  rw [getF_put hs, ofF_put hs]
  by_cases e : y = k
  · subst e
    rw [if_pos rfl, if_pos rfl, atKey_put_same h.isMap (show WideAt.IsKeyLit (.string y) from trivial), has_put_same h.isMap (show WideAt.IsKeyLit (.string y) from trivial)]
    exact ⟨rfl, rfl⟩
  · rw [if_neg e, if_neg e, atKey_put_other (skey_ne e), has_put_other (skey_ne e)]
    exact hat y
theorem FMap.del {w : World} {b : Nat} {l : Fl} (h : FMap w b l) {k : Bs} (hk : k.length ≤ maxLen) (ty : TypeId) : ∃ w', (Builtin.delete_ #[50, 9] ty #[.map (some b), .string (str k)]).run Tryz.prog w = .ok (.tuple #[]) w' ∧ FMap w' b (delF k l) ∧ Fr w w' (fun j => j = b) := by
  obtain ⟨hs, D, ⟨n, h⟩, hat⟩ := h
  obtain ⟨w', hrun, h1, h2⟩ := h.drop lawS Tryz.underlying50 (keyS hk) ty
  refine ⟨w', hrun, ⟨sort_delF _ hs, _, ⟨_, h1⟩, fun y => ?_⟩, Fr.grown h2.grown (fun k e => by cases e; rfl)⟩
  rw [getF_del hs, ofF_del hs]
  by_cases e : y = k
  · subst e
    rw [if_pos rfl, if_pos rfl, atKey_del_same, has_del_same]
    exact ⟨rfl, rfl⟩
  · rw [if_neg e, if_neg e, atKey_del_other (skey_ne e), has_del_other (skey_ne e)]
    exact hat y
/-- The same map, told by another list. -/
theorem FMap.ext {w : World} {b : Nat} {l m : Fl} (h : FMap w b l) (hm : SortF m) (e : ∀ k, getF k l = getF k m) : FMap w b m := by
  rw [← sortF_ext h.1 hm e]
  exact h
/-- A map, or none. -/
def MapAt (w : World) (mb : Option Nat) (l : Fl) : Prop := match mb with
  | none => l = []
  | some b => FMap w b l
theorem MapAt.sort {w : World} {mb : Option Nat} {l : Fl} (h : MapAt w mb l) : SortF l := by
  cases mb with
  | none => rw [show l = [] from h]; exact List.Pairwise.nil
  | some b => exact (show FMap w b l from h).1
theorem MapAt.look {w : World} {mb : Option Nat} {l : Fl} (h : MapAt w mb l) {k : Bs} (hk : k.length ≤ maxLen) : (Instr.lookup 50 (.map mb) (.string (str k)) true).run Tryz.prog w = .ok (.tuple #[.agg #[.string (str (ofF k l))], .bool (getF k l).isSome]) w := by
  cases mb with
  | none => rw [show l = [] from h]; exact nil_look hk
  | some b => exact FMap.lookOk h hk
end Go.Proofs.YtjemnkijoiehmaaGreatDoor
