/- How slices of elements of any make that came in are opened. -/
import Derived.Test.YtipopaicehimeaaGnRow
import Derived.ProofKit
import Derived.OpenShut
import Derived.SizedLaws
import Derived.Deep.Slices
import Derived.Deep.Strs
import Derived.Lib.SmallJoins
namespace Go.Proofs.Ytipopaicehimeaa
open Go.RowKit Go.Deep Go.Joins Go.ChangeShapes
section
variable {H : Type} {en : TypeId × Value → H} {w : World} {base : Nat} {spare : Nat → Bool} {held : Bool}
theorem open_gs {α : Type} [Inhabited α] {enc : α → List Value} {size bytes : Nat} {t e : TypeId} {P : α → Prop} (ht : Try.prog.underlying t = some (.slice e)) (hc : Try.prog.cellsOf e = size) (hby : Try.prog.bytesOf e = bytes) (hl : ∀ x, (enc x).length = size) (hpos : 0 < size)
    (ho : ∀ n cs (x : DataW H × List MemPlace), DataW.trod en Try.prog w base spare held n e cs = some x → ∃ y, cs = enc y ∧ P y)
    {n : Nat} {cs : List Value} {x : DataW H × List MemPlace} (h : DataW.trod en Try.prog w base spare held n t cs = some x) (hw : ∀ m ∈ x.1.weights Try.prog t, m ≤ reachBytes) :
    ∃ (v : Value) (L : List α), cs = [v] ∧ GS enc w v L ∧ (∀ y ∈ L, P y) ∧ L.length * bytes ≤ 140737488355328 := by
  rcases open_slice ht h with ⟨h0, h1⟩ | ⟨a, len, cap, m, k, D, Pl, rfl, hb, hll, hm, hmm, rfl, hx⟩
  · exact ⟨_, [], h0, ⟨none, 0, rfl, Nat.le_refl _, fun h => by simp at h⟩, fun y hy => (by cases hy), by simp⟩
  · have hlm : len ≤ m := by rw [hmm]; split <;> omega
    have each : ∀ i, i < len → ∃ y : α, w.cells? base (a.add (i * size)) size = some (enc y) ∧ P y := by
      intro i hi
      obtain ⟨cs', h1, h2⟩ := hx i (by omega)
      rw [hc] at h1
      obtain ⟨y, rfl, h3⟩ := ho _ _ _ h2
      exact ⟨y, h1, h3⟩
    obtain ⟨q, hq⟩ := choose_lt each
    have hlen : ((List.range len).map q).length = len := by simp
    refine ⟨_, (List.range len).map q, rfl, ⟨some a, cap, by rw [hlen], by rw [hlen]; exact hll, ?_⟩, ?_, ?_⟩
    · intro hp
      rw [hlen] at hp
      obtain ⟨_, _, hc0⟩ := World.cells?_some (hq 0 hp).1
      have hs0 := World.cell?_spot ((hc0 0 hpos).trans (List.getElem?_eq_getElem (by rw [hl]; exact hpos)))
      have hspot : a.spot = none := by simpa [Addr.add] using hs0
      obtain ⟨b, off, spot⟩ := a
      simp only at hspot
      subst hspot
      refine ⟨b, off, rfl, fun i u hu => ?_⟩
      have hi : i < len * size := by
        have := (List.getElem?_eq_some_iff.1 hu).1
        rw [genc_len hl, hlen] at this
        exact this
      have hiq : i / size < len := (Nat.div_lt_iff_lt_mul hpos).2 hi
      have hr : i % size < size := Nat.mod_lt _ hpos
      have ei : i / size * size + i % size = i := by rw [Nat.mul_comm]; exact Nat.div_add_mod i size
      have h4 := genc_get hl ((List.range len).map q) (i / size) (by rw [hlen]; exact hiq) (i % size) hr
      rw [ei, hu] at h4
      have e4 : ((List.range len).map q)[i / size]'(by rw [hlen]; exact hiq) = q (i / size) := by simp
      rw [e4] at h4
      obtain ⟨_, _, hcc⟩ := World.cells?_some (hq (i / size) hiq).1
      have h5 := hcc (i % size) hr
      rw [Addr.add_lit, Addr.add_lit] at h5
      rw [show off + i = off + i / size * size + i % size by omega]
      exact h5.trans h4.symm
    · intro y hy
      obtain ⟨i, hi, rfl⟩ := List.mem_map.1 hy
      exact (hq i (List.mem_range.1 hi)).2
    · have h1 := hw _ (by simp only [DataW.weights, ht]; exact List.mem_cons_self)
      rw [hby] at h1
      unfold reachBytes at h1
      rw [hlen]
      refine Nat.le_trans (Nat.mul_le_mul_right _ ?_) (Nat.le_trans h1 (by decide))
      simp
end
end Go.Proofs.Ytipopaicehimeaa
