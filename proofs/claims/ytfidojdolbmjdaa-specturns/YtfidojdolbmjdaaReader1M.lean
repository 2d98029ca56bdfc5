import Derived.Test.YtfidojdolbmjdaaProg
import Derived.Test.YtfidojdolbmjdaaParseM
import Derived.Laws.BitsAllLaws
import Derived.WalkKit
import Derived.WalkSpells
import Derived.WalkLawsBesides
import Derived.Deep.QuietTactic
import Derived.BigQuiet
import Derived.Deep.RegionWith
/- What a reader's Err, At, Left and next do to the reader that they are called on. -/
namespace Go.Proofs.Ytfidojdolbmjdaa
open Go.RowKit

/-- A reader lies at block p: its bytes, how many were taken, its error. -/
def Rd (w : World) (p : Nat) (s : ByteArray) (a e : Int) : Prop := w.heap[p]? = some (.cells #[.string s, .int .i64 a, .int .i64 e] 80 (0, 0))
section
variable {w : World} {p : Nat} {s : ByteArray} {a e : Int}
theorem Rd.c0 (h : Rd w p s a e) : w.cell? ⟨p, 0, none⟩ = some (.string s) := by unfold Rd at h; simp [World.cell?, h]
theorem Rd.c1 (h : Rd w p s a e) : w.cell? ⟨p, 1, none⟩ = some (.int .i64 a) := by unfold Rd at h; simp [World.cell?, h]
theorem Rd.c2 (h : Rd w p s a e) : w.cell? ⟨p, 2, none⟩ = some (.int .i64 e) := by unfold Rd at h; simp [World.cell?, h]
theorem Rd.f1 (h : Rd w p s a e) : w.frozen? ⟨p, 1, none⟩ = false := by unfold Rd at h; simp [World.frozen?, h]
theorem Rd.f2 (h : Rd w p s a e) : w.frozen? ⟨p, 2, none⟩ = false := by unfold Rd at h; simp [World.frozen?, h]
theorem Rd.lt (h : Rd w p s a e) : p < w.heap.size := lt_of_block h
theorem Rd.kept (h : Rd w p s a e) {w' : World} {S : Nat → Prop} (f : Fr w w' S) (hn : ¬ S p) : Rd w' p s a e := (f.block p h.lt hn).trans h
theorem Rd.below (h : Rd w p s a e) {w' : World} (b : Below w.heap.size w w') : Rd w' p s a e := (b.block p h.lt).trans h
end

theorem Rd.drewN {w : World} {p : Nat} {s : ByteArray} {a e : Int} (h : Rd w p s a e) (n : Nat) : Rd (w.drewN n) p s a e := by unfold Rd; rw [World.heap_drewN]; exact h
theorem Fr.drewN (w : World) (n : Nat) (S : Nat → Prop) : Fr w (w.drewN n) S := by
  induction n with
  | zero => exact Fr.refl _ _
  | succ n ih => exact ih.trans (Fr.drew (w.drewN n) S) (fun _ _ h => h)

end Go.Proofs.Ytfidojdolbmjdaa
