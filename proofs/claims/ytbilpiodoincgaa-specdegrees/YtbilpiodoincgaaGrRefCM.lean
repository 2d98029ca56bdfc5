import Derived.Test.YtbilpiodoincgaaGrWalk2M
import Derived.Test.YtbilpiodoincgaaGrSameM
/- What the document's Edges, Find and Check return. -/
namespace Go.Proofs.Ytbilpiodoincgaa
open Go.RowKit

set_option maxRecDepth 100000 in
theorem refedges_any {w : World} {P : Nat → Prop} {ao : Option Addr} {G : List Vx} (cap : Nat) (h : VxAt w P ao G) (hl : G.length ≤ 9223372036854775807) :
    Calls Try.prog 29 #[.slice ao G.length cap] w fun r w' => r = .returned (.int .i64 (sumE G)) ∧ Below w.heap.size w w' := by
  go_enter Try.func29, Try.ntmps29
  go_wp2
  go_loopw [3, 4] (fun n i wr => ∃ (k : Nat), k ≤ G.length ∧ i = .int .i64 k ∧ n = .int .i64 (sumE (G.take k)) ∧ Below w.heap.size w wr) (fun _ i _ => G.length - (intOf i).toNat)
  case atStart => exact ⟨0, Nat.zero_le _, rfl, rfl, Below.refl _ _⟩
  case round =>
    obtain ⟨k, hk, rfl, rfl, hb⟩ := hrel
    by_cases hlt : k < G.length
    · obtain ⟨b, off, rfl, hP, hc⟩ := h (by omega)
      obtain ⟨eo, ec, c0, c1, c2, _⟩ := hc k hlt
      have hbb := lt_cell c0
      have d2 := (hb.cell (p := ⟨b, off + k * 3 + 2, none⟩) hbb).trans c2
      have HS : Hid _ := sumE_snoc G k hlt
      clear c0 c1 c2 hc
      generalize G[k] = y at d2 HS
      go_wp2
      go_roundw
      case rel => exact ⟨k + 1, by omega, by go_num, by rw [HS.out], hb⟩
      case measure => simp [intOf]; omega
    · obtain rfl : k = G.length := by omega
      go_wp2
      go_ret
      exact ⟨by rw [List.take_length]; rfl, hb⟩
theorem findN_from {l : List Int} {x : Int} {k : Nat} (hk : k ≤ l.length) (h1 : ∀ j (h : j < l.length), j < k → l[j] < x) (h2 : ∀ h : k < l.length, ¬ l[k] < x) : findN l x = k := by
  have hle := findN_le l x
  rcases Nat.lt_trichotomy (findN l x) k with h | h | h
  · exact absurd (h1 _ (by omega) h) (findN_stop l x (by omega))
  · exact h
  · obtain ⟨h', h''⟩ := findN_lt l x k h
    exact absurd h'' (h2 h')

set_option maxRecDepth 100000 in
set_option maxHeartbeats 1000000 in
theorem reffind_any {w : World} {P : Nat → Prop} {ao : Option Addr} {G : List Vx} (cap : Nat) (x : Int) (h : VxAt w P ao G) (hl : G.length ≤ 9223372036854775807) :
    Calls Try.prog 16 #[.slice ao G.length cap, .int .i64 x] w fun r w' => r = .returned (.tuple #[.int .i64 (findN (ids G) x), .bool (foundB (ids G) x)]) ∧ Below w.heap.size w w' := by
  go_enter Try.func16, Try.ntmps16
  go_wp2
  go_loopw [6] (fun i wr => ∃ (k : Nat), k ≤ G.length ∧ i = .int .i64 k ∧ Hid (∀ j (h : j < (ids G).length), j < k → (ids G)[j] < x) ∧ Below w.heap.size w wr) (fun i _ => G.length - (intOf i).toNat)
  case atStart => exact ⟨0, Nat.zero_le _, rfl, fun j _ hj => absurd hj (by omega), Below.refl _ _⟩
  case round =>
    obtain ⟨k, hk, rfl, HR, hb⟩ := hrel
    by_cases hlt : k < G.length
    · obtain ⟨b, off, rfl, hP, hc⟩ := h (by omega)
      obtain ⟨eo, ec, c0, c1, c2, _⟩ := hc k hlt
      have hbb := lt_cell c0
      have d0 := (hb.cell (p := ⟨b, off + k * 3, none⟩) hbb).trans c0
      have HG : Hid ((ids G)[k]'(by rw [ids_len]; exact hlt) = G[k].id) := ids_get G k hlt
      clear c0 c1 c2 hc
      generalize G[k] = y at d0 HG
      by_cases hy : y.id < x
      · go_wp2
        go_roundw
        case rel => exact ⟨k + 1, by omega, by go_num, (fun j hj hjk => by
          by_cases e : j = k
          · subst e; rw [HG.out]; exact hy
          · exact HR.out j hj (by omega)), hb⟩
        case measure => simp [intOf]; omega
      · have HF : Hid (findN (ids G) x = k) := findN_from (by rw [ids_len]; exact hk) HR.out (fun h => by rw [HG.out]; exact hy)
        have HB : Hid (foundB (ids G) x = (y.id == x)) := by
          show _ = _
          unfold foundB
          rw [HF.out, List.getElem?_eq_getElem (by rw [ids_len]; exact hlt), HG.out]
          rfl
        go_wp2
        go_quiet (fail)
        go_wp2
        go_ret2
        exact ⟨by rw [HF.out, HB.out]; rfl, bel_drewN hb _⟩
    · have HF : Hid (findN (ids G) x = k) := findN_from (by rw [ids_len]; exact hk) HR.out (fun h => by rw [ids_len] at h; exact absurd h hlt)
      have HB : Hid (foundB (ids G) x = false) := by
        show _ = _
        unfold foundB
        rw [HF.out, List.getElem?_eq_none (by rw [ids_len]; omega)]; rfl
      have hd : decide ((k : Int) < (G.length : Int)) = false := by rw [decide_eq_false_iff_not]; omega
      go_wp2
      go_quiet (fail)
      go_wp2
      go_ret2
      exact ⟨by rw [HF.out, HB.out]; rfl, bel_drewN hb _⟩
end Go.Proofs.Ytbilpiodoincgaa
