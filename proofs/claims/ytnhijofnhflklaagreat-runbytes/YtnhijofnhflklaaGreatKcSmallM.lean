import Derived.Test.YtnhijofnhflklaaGreatGrDataM
import Derived.Test.YtnhijofnhflklaaGreatProg
import Derived.WalkKit
import Derived.OwnWalk
import Derived.Below
/- Which programs are known, their combiners, the checks of parameters. -/
namespace Go.Proofs.YtnhijofnhflklaaGreat
open Go.RowKit
abbrev isBfs (s : ByteArray) : Bool := s.toList == [98, 102, 115]
abbrev isCc (s : ByteArray) : Bool := s.toList == [99, 99]
abbrev isDeg (s : ByteArray) : Bool := s.toList == [100, 101, 103, 114, 101, 101]
abbrev isPr (s : ByteArray) : Bool := s.toList == [112, 97, 103, 101, 114, 97, 110, 107]
abbrev isSp (s : ByteArray) : Bool := s.toList == [115, 115, 115, 112]
abbrev isKc (s : ByteArray) : Bool := s.toList == [107, 99, 111, 114, 101]
/-- Numbers lie in memory from an address on. -/
def IsAt (w : World) (ao : Option Addr) (L : List Int) : Prop := 0 < L.length → ∃ b off, ao = some ⟨b, off, none⟩ ∧ ∀ j (h : j < L.length), w.cell? ⟨b, off + j, none⟩ = some (.int .i64 L[j])
theorem IsAt.new {w w' : World} {ao : Option Addr} {L : List Int} (h : IsAt w ao L) (hb : Below w.heap.size w w') : IsAt w' ao L := fun hl => by
  obtain ⟨b, off, e, hc⟩ := h hl
  exact ⟨b, off, e, fun j hj => (hb.cell (p := ⟨b, off + j, none⟩) (lt_cell (hc j hj))).trans (hc j hj)⟩
def noneN (L : List Int) : Int := if L.length = 0 then 0 else 71
def turnN (L : List Int) : Int := if L.length = 1 ∧ 0 ≤ L.getD 0 0 ∧ L.getD 0 0 ≤ 100 then 0 else 71
theorem IsAt.one {w : World} {ao : Option Addr} {L : List Int} (h : IsAt w ao L) (h1 : L.length = 1) : ∃ b off, ao = some ⟨b, off, none⟩ ∧ w.cell? ⟨b, off, none⟩ = some (.int .i64 (L.getD 0 0)) := by
  obtain ⟨b, off, e, hc⟩ := h (by omega)
  refine ⟨b, off, e, ?_⟩
  have := hc 0 (by omega)
  rw [Nat.add_zero] at this
  rw [this]
  match L, h1 with
  | [x], _ => rfl
set_option maxRecDepth 100000 in
theorem none_any {ao : Option Addr} (L : List Int) (n cap : Nat) (w : World) (hn : n = L.length) : Calls Tryz.prog 101 #[.slice ao n cap] w fun r w' => r = .returned (.int .i64 (noneN L)) ∧ w' = w := by
  unfold noneN
  rw [← hn]
  by_cases h : n = 0
  · subst h
    clear hn
    go_enter Tryz.func101, Tryz.ntmps101
    go_wp2
    go_ret
    exact ⟨by simp, rfl⟩
  · clear hn
    go_enter Tryz.func101, Tryz.ntmps101
    go_wp2
    all_goals first | (exfalso; omega) | (go_ret; exact ⟨by simp, rfl⟩)
set_option maxRecDepth 100000 in
theorem turns_any {ao : Option Addr} (L : List Int) (n cap : Nat) (w : World) (hn : n = L.length) (hL : IsAt w ao L) : Calls Tryz.prog 99 #[.slice ao n cap] w fun r w' => r = .returned (.int .i64 (turnN L)) ∧ w' = w := by
  by_cases h1 : n = 1
  · obtain ⟨b, off, rfl, hc⟩ := hL.one (by omega)
    have HT : Hid (turnN L = if 0 ≤ L.getD 0 0 ∧ L.getD 0 0 ≤ 100 then 0 else 71) := by
      show _ = _
      unfold turnN
      have : L.length = 1 := by omega
      simp [this]
    generalize L.getD 0 0 = x at hc HT
    subst h1
    rw [HT.out]
    clear hn hL HT
    go_enter Tryz.func99, Tryz.ntmps99
    by_cases g0 : x < 0
    · go_wp2
      all_goals first | (exfalso; omega) | (go_ret; exact ⟨by first | rfl | (rw [if_neg (by omega)]; rfl), rfl⟩)
    · by_cases g1 : 100 < x
      · go_wp2
        all_goals first | (exfalso; omega) | (go_ret; exact ⟨by first | rfl | (rw [if_neg (by omega)]; rfl), rfl⟩)
      · go_wp2
        all_goals first | (exfalso; omega) | (go_ret; exact ⟨by first | rfl | (rw [if_pos (by omega)]; rfl), rfl⟩)
  · have HT : Hid (turnN L = 71) := by
      show _ = _
      unfold turnN
      rw [if_neg (by omega)]
    rw [HT.out]
    have hb : ((n : Int) != 1) = true := by simp; omega
    clear hn hL HT
    go_enter Tryz.func99, Tryz.ntmps99
    go_wp2
    all_goals first | (exfalso; omega) | (go_ret; exact ⟨rfl, rfl⟩)
end Go.Proofs.YtnhijofnhflklaaGreat
