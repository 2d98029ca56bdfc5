import Derived.Test.YtnhijofnhflklaaGreatCbMathM
import Derived.Test.YtnhijofnhflklaaGreatNumM
import Derived.Test.YtnhijofnhflklaaGreatGrDataM
import Derived.Test.YtnhijofnhflklaaGreatProg
import Derived.WalkKit
import Derived.OwnWalk
import Derived.Below
/- Messages as they lie in memory. -/
namespace Go.Proofs.YtnhijofnhflklaaGreat
open Go.RowKit
/-- Messages lie in memory from an address on, in a block that P names. -/
def MsAt (w : World) (P : Nat → Prop) (ao : Option Addr) (L : List Msg) : Prop :=
  0 < L.length → ∃ b off, ao = some ⟨b, off, none⟩ ∧ P b ∧ ∀ j (h : j < L.length), w.cell? ⟨b, off + j * 4, none⟩ = some (.int .i64 L[j].f) ∧ w.cell? ⟨b, off + j * 4 + 1, none⟩ = some (.int .i64 L[j].t) ∧ w.cell? ⟨b, off + j * 4 + 2, none⟩ = some (.int .i64 L[j].a) ∧ w.cell? ⟨b, off + j * 4 + 3, none⟩ = some (.int .i64 L[j].v)
theorem MsAt.kept {w w' : World} {P Q S : Nat → Prop} {ao : Option Addr} {L : List Msg} (h : MsAt w P ao L) (f : Fr w w' S) (hs : ∀ k, k < w.heap.size → P k → ¬ S k ∧ Q k) : MsAt w' Q ao L := by
  intro hl
  obtain ⟨b, off, e, hb, hc⟩ := h hl
  have hlt := lt_cell (hc 0 hl).1
  have hn := (hs b hlt hb).1
  exact ⟨b, off, e, (hs b hlt hb).2, fun j hj => ⟨fr_cell f hn (hc j hj).1, fr_cell f hn (hc j hj).2.1, fr_cell f hn (hc j hj).2.2.1, fr_cell f hn (hc j hj).2.2.2⟩⟩
theorem MsAt.new {w w' : World} {P : Nat → Prop} {ao : Option Addr} {L : List Msg} (h : MsAt w P ao L) (hb : Below w.heap.size w w') : MsAt w' P ao L := h.kept (Fr.ofBelow hb (fun _ => False)) (fun _ _ hp => ⟨fun h => h, hp⟩)
theorem MsAt.mono {w : World} {P Q : Nat → Prop} {ao : Option Addr} {L : List Msg} (h : MsAt w P ao L) (hs : ∀ k, k < w.heap.size → P k → Q k) : MsAt w Q ao L := h.kept (Fr.refl w (fun _ => False)) (fun k hk hp => ⟨fun h => h, hs k hk hp⟩)
end Go.Proofs.YtnhijofnhflklaaGreat
