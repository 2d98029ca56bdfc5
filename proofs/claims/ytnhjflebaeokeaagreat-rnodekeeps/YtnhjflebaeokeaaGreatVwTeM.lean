import Derived.Test.YtnhjflebaeokeaaGreatVwTmM
/- What Take reads, told by messages. -/
namespace Go.Proofs.YtnhjflebaeokeaaGreat
open Go.RowKit
theorem rdVE_to (s : ByteArray) : ∀ (n a : Nat) (e : Int) (L : List Ent), a ≤ s.size → (rdVE s n a e L).2.1 ≤ s.size
  | 0, _, _, _, ha => ha
  | n + 1, a, e, L, ha => by
    obtain ⟨⟨n1, a1, e1⟩, h1⟩ : ∃ q, rdCount s a e 2147483647 = q := ⟨_, rfl⟩
    obtain ⟨⟨t, a2, e2⟩, h2⟩ : ∃ q, rdText s a1 e1 = q := ⟨_, rfl⟩
    rw [rdVE_step h1 h2]
    exact rdVE_to s n a2 e2 _ (rdText_leV (rdCount_to (most := 2147483647) ha h1).1 h2)
theorem vRd_le {s : ByteArray} {n a a' : Nat} {e e' : Int} {L R : List Ent} (h : rdVE s n a e L = (R, a', e')) (ha : a ≤ s.size) : a' ≤ s.size := by
  have := rdVE_to s n a e L ha
  rw [h] at this
  exact this
end Go.Proofs.YtnhjflebaeokeaaGreat
