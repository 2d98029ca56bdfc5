import Derived.Test.YtfidojdolbmjdaaProg
import Derived.Test.YtfidojdolbmjdaaNumM
import Derived.WalkKit
import Derived.WalkSpells
import Derived.WalkLawsBesides
import Derived.Below
import Derived.Laws.Strings
import Derived.Laws.Concat
import Derived.Lib.SlBytesRow
import Derived.Deep.RegionWith
import Derived.Laws.BitsAllLaws
import Derived.OneCell
/- What a writer's methods do to the writer that they are called on. -/
namespace Go.Proofs.Ytfidojdolbmjdaa
open Go.RowKit

/-- A writer lies at block p: its slice v holds the bytes l, in a row of its own from 'base' on. -/
structure Wr (w : World) (base p : Nat) (v : Value) (l : List UInt8) : Prop where
  blk : w.heap[p]? = some (.cells #[v] 131 (0, 0))
  own : w.ownsRow base 5 1 v l.length (bc l)
  apart : v.ownBlock ≠ some p
  low : base ≤ w.heap.size
theorem Wr.lt {w : World} {base p : Nat} {v : Value} {l : List UInt8} (h : Wr w base p v l) : p < w.heap.size := lt_of_block h.blk
theorem Wr.kept {w w' : World} {base p : Nat} {v : Value} {l : List UInt8} {S : Nat → Prop} (h : Wr w base p v l) (f : Fr w w' S) (h1 : ¬ S p) (h2 : ∀ k, v.ownBlock = some k → ¬ S k) : Wr w' base p v l := by
  refine ⟨(f.block p h.lt h1).trans h.blk, ⟨h.own.1, ?_⟩, h.apart, Nat.le_trans h.low f.size⟩
  rcases h.own.2 with hn | ⟨g, cap, cur, rfl, hb, hgg, rest⟩
  · exact Or.inl hn
  · exact Or.inr ⟨g, cap, cur, rfl, hb, (f.block g (lt_of_block hgg) (h2 g rfl)).trans hgg, rest⟩
theorem own_shape {w : World} {base : Nat} {e : TypeId} {size : Nat} {v : Value} {n : Nat} {xs : List Value} (h : w.ownsRow base e size v n xs) : ∃ ao c, v = .slice ao n c := by
  rcases h.2 with ⟨rfl, rfl⟩ | ⟨g, cap, cur, rfl, _⟩
  · exact ⟨_, _, rfl⟩
  · exact ⟨_, _, rfl⟩
theorem own_any {w : World} {base : Nat} {e : TypeId} {size : Nat} {v : Value} {n : Nat} {xs : List Value} (h : w.ownsRow base e size v n xs) : ∃ ao m c, v = .slice ao m c := by
  obtain ⟨ao, c, rfl⟩ := own_shape h
  exact ⟨_, _, _, rfl⟩
end Go.Proofs.Ytfidojdolbmjdaa
