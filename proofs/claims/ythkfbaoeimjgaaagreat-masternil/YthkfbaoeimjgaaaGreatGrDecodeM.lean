import Derived.Test.YthkfbaoeimjgaaaGreatGrTake3M
import Derived.Test.YthkfbaoeimjgaaaGreatGrPutM
import Derived.Test.YthkfbaoeimjgaaaGreatGrWalk1M
/- What Decode returns, and what awake returns. -/
namespace Go.Proofs.YthkfbaoeimjgaaaGreat
open Go.RowKit
theorem rdGs_to {s : ByteArray} {a : Nat} {e : Int} (ha : a ≤ s.size) : (rdGs s a e).2.1 ≤ s.size ∧ (rdGs s a e).1.length ≤ 256 ∧ ∀ x ∈ (rdGs s a e).1, x.ok := by
  obtain ⟨⟨n, a1, e1⟩, h1⟩ : ∃ q, rdCount s a e (256 : Nat) = q := ⟨_, rfl⟩
  have g1 := rdCount_to ha h1
  have g2 := rdVs_to s n a1 e1 g1.1
  have hq : rdGs s a e = rdVs s n a1 e1 := by unfold rdGs; rw [show (256 : Int) = ((256 : Nat) : Int) from rfl, h1]
  rw [hq]
  exact ⟨g2.1, Nat.le_trans g2.2.1 g1.2.1, g2.2.2⟩
theorem rdG_to {s : ByteArray} {a : Nat} {e : Int} (ha : a ≤ s.size) : (rdG s a e).2.1 ≤ s.size ∧ (rdG s a e).1.length ≤ 256 ∧ ∀ x ∈ (rdG s a e).1, x.ok := by
  have g := rdGs_to (e := e) ha
  unfold rdG
  dsimp only
  split
  · split
    · exact g
    · exact ⟨g.1, Nat.zero_le _, fun x hx => by cases hx⟩
  · exact ⟨g.1, Nat.zero_le _, fun x hx => by cases hx⟩
theorem take_to {w : World} {p : Nat} {s : ByteArray} {a x : Nat} {e y : Int} {G : List Vx} (h : Rd w p s a e) (hs : s.size ≤ maxLen) (ha : a ≤ s.size) (hq : rdG s a e = (G, x, y)) :
    Calls Tryz.prog 54 #[.pointer (some ⟨p, 0, none⟩)] w fun r w' => ∃ ao cap, r = .returned (.agg #[.slice ao G.length cap]) ∧ VxAt w' (fun k => w.heap.size ≤ k) ao G ∧ Rd w' p s x y ∧ Fr w w' (fun k => k = p) := by
  have := take_any h hs ha; rw [hq] at this; exact this
theorem rend_to {w : World} {p : Nat} {s : ByteArray} {a : Nat} {e z : Int} (h : Rd w p s a e) (hs : s.size ≤ maxLen) (ha : a ≤ s.size) (hz : rdEnd s a e = z) :
    Calls Tryz.prog 48 #[.pointer (some ⟨p, 0, none⟩)] w fun r w' => r = .returned (.int .i64 z) ∧ Rd w' p s a z ∧ Fr w w' (fun k => k = p) := by
  have := rend_any h hs ha; rw [hz] at this; exact this
end Go.Proofs.YthkfbaoeimjgaaaGreat
