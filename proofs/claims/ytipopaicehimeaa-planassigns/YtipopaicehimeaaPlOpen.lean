/- How rows of integers that came in are opened. -/
import Derived.Test.YtipopaicehimeaaGnRow
import Derived.ProofKit
import Derived.OpenShut
import Derived.SizedLaws
import Derived.ChangeSlices
import Derived.Deep.Slices
import Derived.Deep.Strs
import Derived.Lib.SmallJoins
namespace Go.Proofs.Ytipopaicehimeaa
open Go.RowKit Go.Deep Go.Joins Go.ChangeShapes
theorem pcellsI : Try.prog.cellsOf 3 = 1 := by kernel_rfl
theorem pbytesI : Try.prog.bytesOf 3 = 8 := by kernel_rfl
section
variable {H : Type} {enc : TypeId × Value → H} {w : World} {base : Nat} {spare : Nat → Bool} {held : Bool}
theorem open_is {n : Nat} {cs : List Value} {x : DataW H × List MemPlace} (h : DataW.trod enc Try.prog w base spare held n 22 cs = some x) (hw : ∀ m ∈ x.1.weights Try.prog 22, m ≤ reachBytes) :
    ∃ (v : Value) (L : List Int), cs = [v] ∧ IS w v L ∧ L.length * 8 ≤ 140737488355328 := by
  rcases open_ints Try.underlying22 Try.underlying3 pcellsI h with ⟨hcs, _⟩ | ⟨a, len, cap, zs, hcs, _, hl, _, hz, hx, hcell, hwz⟩
  · exact ⟨_, [], hcs, ⟨none, 0, rfl, Nat.le_refl _, fun h => by simp at h⟩, by simp⟩
  · have hlen : len ≤ zs.length := by rw [hz]; split <;> omega
    have e : (zs.take len).length = len := by rw [List.length_take]; omega
    refine ⟨_, zs.take len, hcs, ⟨some a, cap, by rw [e], by rw [e]; exact hl, fun hj => ?_⟩, ?_⟩
    · rw [e] at hj
      have c0 := hcell 0 (by omega)
      have hspot : a.spot = none := by simpa [Addr.add] using World.cell?_spot c0
      obtain ⟨b, off, spot⟩ := a
      simp only at hspot
      subst hspot
      refine ⟨b, off, rfl, fun i u hu => ?_⟩
      rw [ie_map] at hu
      have hi : i < len := by
        have := (List.getElem?_eq_some_iff.1 hu).1
        simp at this
        omega
      have h1 := hcell i (by omega)
      rw [Addr.add_lit] at h1
      rw [h1]
      rw [List.getElem?_map, List.getElem?_take_of_lt hi, List.getElem?_eq_getElem (show i < zs.length by omega)] at hu
      simp only [Option.map_some] at hu
      rw [← hu]
      simp [List.getD, show i < zs.length by omega]
    · have hu := Try.underlying22
      have h1 := hw (((lits .i64 (zs.take len) : List (DataW H)).length + (lits .i64 (zs.drop len) : List (DataW H)).length) * Try.prog.bytesOf 3) (by rw [hx]; simp only [DataW.weights, hu]; exact List.mem_cons_self)
      rw [pbytesI] at h1
      unfold reachBytes at h1
      have h2 : (lits .i64 (zs.take len) : List (DataW H)).length = len := by simp [lits]; omega
      rw [e]
      rw [h2] at h1
      omega
end
end Go.Proofs.Ytipopaicehimeaa
