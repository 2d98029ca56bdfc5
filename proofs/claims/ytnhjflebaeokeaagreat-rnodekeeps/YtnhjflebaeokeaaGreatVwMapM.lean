import Derived.Test.YtnhjflebaeokeaaGreatVwRowM
import Derived.Maps.OwnSet
import Derived.Maps.RangeWalk
import Derived.Lib.SlKeysI
/- Maps of small ints to anything in memory: what they say, look-ups, updates, how many keys. -/
namespace Go.Proofs.YtnhjflebaeokeaaGreat
open Go.RowKit Go.Maps
/-- A map's element as it is. -/
def hR (v : Value) : Option (DataW Value × List MemPlace) := some (.held v, [])
theorem vlaw : Keyed Tryz.prog 3 := int_keyed Tryz.underlying3
theorem vkey {x : Int} (h1 : -9223372036854775808 ≤ x) (h2 : x ≤ 9223372036854775807) : keyOf Tryz.prog 3 (.int .i64 x) = some (.int .i64 x) := keyOf_int_mk Tryz.underlying3 (WalkArith.wf_i64 ⟨h1, h2⟩)
theorem vkey_ne {i j : Int} (h : i ≠ j) : (Lit.int .i64 i) ≠ (Lit.int .i64 j) := by
  intro e
  cases e
  exact h rfl
/-- What a map of keys 0 to 7 says. -/
structure HM (f : Int → Option Value) (D : DataW Value) : Prop where
  low : ∀ x, (f x).isSome = true → 0 ≤ x ∧ x < 8
  has : ∀ x, Maps.has D (.int .i64 x) = (f x).isSome
  at_ : ∀ x z, D.atKey (.int .i64 x) (.held z) = .held ((f x).getD z)
def HMap (w : World) (b : Nat) (f : Int → Option Value) : Prop := ∃ D n, w.ownsMap Tryz.prog 3 hR b n D ∧ HM f D
theorem HMap.same {w w' : World} {b : Nat} {f : Int → Option Value} (h : HMap w b f) (e : w'.heap[b]? = w.heap[b]?) : HMap w' b f := by
  obtain ⟨D, n, ⟨es, clock, hb, r⟩, hat⟩ := h
  exact ⟨D, n, ⟨es, clock, e.trans hb, r⟩, hat⟩
theorem HMap.lt {w : World} {b : Nat} {f : Int → Option Value} (h : HMap w b f) : b < w.heap.size := by
  obtain ⟨D, n, h, _⟩ := h
  exact h.lt
theorem HMap.isMap {w : World} {b : Nat} {f : Int → Option Value} (h : HMap w b f) : ∃ es c, w.heap[b]? = some (.map es c) := by
  obtain ⟨D, n, ⟨es, clock, hb, r⟩, hat⟩ := h
  exact ⟨es, clock, hb⟩
theorem HMap.kept {w w' : World} {b : Nat} {f : Int → Option Value} (h : HMap w b f) {S : Nat → Prop} (fr : Fr w w' S) (hS : ¬ S b) : HMap w' b f := h.same (fr.block b h.lt hS)
theorem HMap.new {w w' : World} {b : Nat} {f : Int → Option Value} (h : HMap w b f) (hb : Below w.heap.size w w') : HMap w' b f := h.same (hb.block b h.lt)
theorem HMap.made (w : World) : HMap (w.alloc (.map #[] 0)) w.heap.size (fun _ => none) := ⟨_, 0, World.ownsMap_made w _ _ _, ⟨fun _ h => (by cases h), fun _ => rfl, fun _ _ => rfl⟩⟩
/-- The keys of such a map. -/
def keysF (f : Int → Option Value) : List Int := [0, 1, 2, 3, 4, 5, 6, 7].filter fun i => (f i).isSome
theorem keysF_nodup (f : Int → Option Value) : (keysF f).Nodup := List.Nodup.sublist List.filter_sublist (by decide)
theorem keysF_mem {f : Int → Option Value} (low : ∀ x, (f x).isSome = true → 0 ≤ x ∧ x < 8) (x : Int) : x ∈ keysF f ↔ (f x).isSome = true := by
  unfold keysF
  rw [List.mem_filter]
  constructor
  · exact fun h => h.2
  · intro h
    refine ⟨?_, h⟩
    have := low x h
    have : x = 0 ∨ x = 1 ∨ x = 2 ∨ x = 3 ∨ x = 4 ∨ x = 5 ∨ x = 6 ∨ x = 7 := by omega
    simp only [List.mem_cons, List.not_mem_nil, or_false]
    exact this
theorem keysF_le (f : Int → Option Value) : (keysF f).length ≤ 8 := List.length_filter_le _ _
theorem HM.size {w : World} {b n : Nat} {f : Int → Option Value} {D : DataW Value} (h : w.ownsMap Tryz.prog 3 hR b n D) (hm : HM f D) : Maps.size D = (keysF f).length := by
  obtain ⟨es, rfl, hp, _⟩ := h.entries vlaw
  obtain ⟨es', e, hk⟩ := h.keysOf
  cases e
  have := (perm_intKeys (ss := keysF f) hp (fun p hp' => by
    obtain ⟨key, hkey⟩ := hk p hp'
    obtain ⟨x, _, hx, _⟩ := Maps.keyOf_int_inv Tryz.underlying3 hkey
    exact ⟨x, by assumption⟩) (keysF_nodup f) (fun x => by rw [keysF_mem hm.low, hm.has])).length_eq
  simpa [intKeys, Maps.size] using this.symm
theorem HMap.tight {w : World} {b : Nat} {f : Int → Option Value} (h : HMap w b f) : ∃ D, w.ownsMap Tryz.prog 3 hR b 8 D ∧ HM f D := by
  obtain ⟨D, n, h, hm⟩ := h
  have hs := hm.size h
  obtain ⟨es, clock, hb, F, _, rfl⟩ := h
  refine ⟨_, ⟨es, clock, hb, F, ?_, rfl⟩, hm⟩
  have h1 := keysF_le f
  rw [← hs] at h1
  simpa [Maps.size, length_sorted] using h1
section
variable {w : World} {b : Nat} {f : Int → Option Value} {t e : TypeId} {x : Int} {z : Value}
theorem HMap.lookOk (h : HMap w b f) (ht : Tryz.prog.underlying t = some (.map 3 e)) (hz : (zeroValue e).run Tryz.prog w = .ok z w) (h1 : -9223372036854775808 ≤ x) (h2 : x ≤ 9223372036854775807) : (Instr.lookup t (.map (some b)) (.int .i64 x) true).run Tryz.prog w = .ok (.tuple #[(f x).getD z, .bool (f x).isSome]) w := by
  obtain ⟨D, n, h, hm⟩ := h
  obtain ⟨v, ps, hrun, hv⟩ := h.look_ok vlaw ht (z := z) hz (zd := .held z) (zp := []) rfl (vkey h1 h2)
  unfold hR at hv
  rw [hm.at_ x z] at hv
  simp only [Option.some.injEq, Prod.mk.injEq, DataW.held.injEq] at hv
  rw [hrun, hm.has x, hv.1]
theorem HMap.look (h : HMap w b f) (ht : Tryz.prog.underlying t = some (.map 3 e)) (hz : (zeroValue e).run Tryz.prog w = .ok z w) (h1 : -9223372036854775808 ≤ x) (h2 : x ≤ 9223372036854775807) : (Instr.lookup t (.map (some b)) (.int .i64 x) false).run Tryz.prog w = .ok ((f x).getD z) w := by
  obtain ⟨D, n, h, hm⟩ := h
  obtain ⟨v, ps, hrun, hv⟩ := h.lookup vlaw ht (z := z) hz (zd := .held z) (zp := []) rfl (vkey h1 h2)
  unfold hR at hv
  rw [hm.at_ x z] at hv
  simp only [Option.some.injEq, Prod.mk.injEq, DataW.held.injEq] at hv
  rw [hrun, hv.1]
theorem HMap.put (h : HMap w b f) (ht : Tryz.prog.underlying t = some (.map 3 e)) (h1 : 0 ≤ x) (h2 : x < 8) (v : Value) : ∃ w', (Instr.mapUpdate t (.map (some b)) (.int .i64 x) v).run Tryz.prog w = .ok () w' ∧ HMap w' b (fun y => if y = x then some v else f y) ∧ Fr w w' (fun k => k = b) := by
  obtain ⟨D, h, hm⟩ := h.tight
  obtain ⟨w', hrun, g1, g2⟩ := h.store vlaw ht (by unfold maxLen; omega) (vkey (x := x) (by omega) (by omega)) (d := .held v) (ps := []) (show hR v = some (.held v, []) from rfl)
  refine ⟨w', hrun, ⟨_, _, g1, ⟨fun y hy => ?_, fun y => ?_, fun y z => ?_⟩⟩, Fr.grown g2.grown (fun k e => by cases e; rfl)⟩
  · by_cases e : y = x
    · subst e; exact ⟨h1, h2⟩
    · rw [if_neg e] at hy; exact hm.low y hy
  · by_cases e : y = x
    · subst e
      rw [if_pos rfl, has_put_same h.isMap (show WideAt.IsKeyLit (.int .i64 y) from trivial)]
      rfl
    · rw [if_neg e, has_put_other (vkey_ne e), hm.has]
  · by_cases e : y = x
    · subst e
      rw [if_pos rfl, atKey_put_same h.isMap (show WideAt.IsKeyLit (.int .i64 y) from trivial)]
      rfl
    · rw [if_neg e, atKey_put_other (vkey_ne e), hm.at_]
theorem HMap.len (h : HMap w b f) (ht : Tryz.prog.underlying t = some (.map 3 e)) (ty : TypeId) : (Builtin.len_ #[t] ty #[.map (some b)]).run Tryz.prog w = .ok (.int .i64 ((keysF f).length : Nat)) w := by
  obtain ⟨D, n, h, hm⟩ := h
  rw [h.len ht ty, hm.size h]
end
theorem HMap.ext {w : World} {b : Nat} {f g : Int → Option Value} (h : HMap w b f) (e : ∀ x, f x = g x) : HMap w b g := by
  rw [show g = f from (funext e).symm]
  exact h
end Go.Proofs.YtnhjflebaeokeaaGreat
