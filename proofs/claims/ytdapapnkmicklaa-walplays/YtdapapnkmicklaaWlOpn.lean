/- A slice of texts that is handed in can be read. -/
import Derived.Test.YtdapapnkmicklaaWlRow
import Derived.WalkKit
import Derived.ProofKit
import Derived.OpenShut
import Derived.Deep.Strs
namespace Go.Proofs.Ytdapapnkmicklaa
open Go.RowKit Go.Deep
theorem wcellsS : Try.prog.cellsOf 9 = 1 := by kernel_rfl
section
variable {H : Type} {enc : TypeId × Value → H} {w : World} {base : Nat} {spare : Nat → Bool} {held : Bool}
theorem open_txs {n : Nat} {cs : List Value} {x : DataW H × List MemPlace} (h : DataW.trod enc Try.prog w base spare held n 45 cs = some x) : ∃ (v : Value) (L : List Bs), cs = [v] ∧ TxS w v L := by
  rcases open_strs Try.underlying45 Try.underlying9 wcellsS h with ⟨h0, _⟩ | ⟨a, len, cap, m, Sx, rfl, _, hl, hm, hmm, _, hx⟩
  · exact ⟨_, [], h0, none, 0, rfl, Nat.le_refl _, fun h => absurd h (by simp)⟩
  · have hlm : len ≤ m := by rw [hmm]; split <;> omega
    have hlen : ((List.range len).map fun i => (Sx i).data.toList).length = len := by simp
    refine ⟨_, (List.range len).map fun i => (Sx i).data.toList, rfl, some a, cap, by rw [hlen], by rw [hlen]; exact hl, fun h0 => ?_⟩
    rw [hlen] at h0
    have hs0 := World.cell?_spot (hx 0 (by omega)).1
    have hspot : a.spot = none := by simpa [Addr.add] using hs0
    obtain ⟨b, off, spot⟩ := a
    simp only at hspot
    subst hspot
    refine ⟨b, off, rfl, fun j hj => ?_⟩
    rw [hlen] at hj
    have h1 := (hx j (by omega)).1
    rw [Addr.add_lit] at h1
    rw [h1]
    simp only [List.getElem_map, List.getElem_range, str_data]
end
end Go.Proofs.Ytdapapnkmicklaa
