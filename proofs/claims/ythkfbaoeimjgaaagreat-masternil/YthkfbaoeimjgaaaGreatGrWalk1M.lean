import Derived.Test.YthkfbaoeimjgaaaGreatProg
import Derived.Test.YthkfbaoeimjgaaaGreatGrDataM
import Derived.Test.YthkfbaoeimjgaaaGreatRefReaderM
import Derived.Test.YthkfbaoeimjgaaaGreatWriterWM
import Derived.WalkKit
import Derived.WalkSpells
import Derived.WalkLawsBesides
import Derived.Deep.QuietTactic
import Derived.BigQuiet
import Derived.Deep.RegionWith
/- What rising, Edges and endsRise return. -/
namespace Go.Proofs.YthkfbaoeimjgaaaGreat
open Go.RowKit

theorem vertexnumber_any (x y : Int) (ao : Option Addr) (n c : Nat) (w : World) :
    Calls Tryz.prog 150 #[.agg #[.int .i64 x, .int .i64 y, .slice ao n c]] w fun r w' => r = .returned (.int .i64 x) ∧ Below w.heap.size w w' := by
  go_enter Tryz.func150, Tryz.ntmps150
  go_wp2
  go_ret
  exact ⟨rfl, (Below.refl _ _).alloc (Nat.le_refl _) _⟩
theorem edgeend_any (x y : Int) (w : World) :
    Calls Tryz.prog 193 #[.agg #[.int .i64 x, .int .i64 y]] w fun r w' => r = .returned (.int .i64 x) ∧ Below w.heap.size w w' := by
  go_enter Tryz.func193, Tryz.ntmps193
  go_wp2
  go_ret
  exact ⟨rfl, (Below.refl _ _).alloc (Nat.le_refl _) _⟩

set_option maxRecDepth 100000 in
theorem edges_any {w : World} {P : Nat → Prop} {ao : Option Addr} {G : List Vx} (cap : Nat) (h : VxAt w P ao G) (hl : G.length ≤ 9223372036854775807) :
    Calls Tryz.prog 151 #[.agg #[.slice ao G.length cap]] w fun r w' => r = .returned (.int .i64 (sumE G)) ∧ Below w.heap.size w w' := by
  go_enter Tryz.func151, Tryz.ntmps151
  go_wp2
  go_loopw [3, 5, 9] (fun n _ i wr => ∃ (k : Nat), k ≤ G.length ∧ i = .int .i64 k ∧ n = .int .i64 (sumE (G.take k)) ∧ Below w.heap.size w wr) (fun _ _ i _ => G.length - (intOf i).toNat)
  case atStart => exact ⟨0, Nat.zero_le _, rfl, rfl, (Below.refl _ _).alloc (Nat.le_refl _) _⟩
  case round =>
    obtain ⟨k, hk, rfl, rfl, hb⟩ := hrel
    by_cases hlt : k < G.length
    · obtain ⟨b, off, rfl, hP, hc⟩ := h (by omega)
      obtain ⟨eo, ec, c0, c1, c2, _⟩ := hc k hlt
      have hbb := lt_cell c0
      have d0 := (hb.cell (p := ⟨b, off + k * 3, none⟩) hbb).trans c0
      have d1 := (hb.cell (p := ⟨b, off + k * 3 + 1, none⟩) hbb).trans c1
      have d2 := (hb.cell (p := ⟨b, off + k * 3 + 2, none⟩) hbb).trans c2
      have HS : Hid _ := sumE_snoc G k hlt
      clear c0 c1 c2 hc
      generalize G[k] = y at d0 d1 d2 HS
      go_wp2
      go_roundw
      case rel => exact ⟨k + 1, by omega, by go_num, by rw [HS.out], hb.alloc hb.size _⟩
      case measure => simp [intOf]; omega
    · obtain rfl : k = G.length := by omega
      go_wp2
      go_ret
      exact ⟨by rw [List.take_length]; rfl, hb⟩
theorem rise_false {l : List Int} {j : Nat} (h : j + 1 < l.length) (hn : ¬ l[j] < l[j + 1]) : riseB l = false := by
  rw [Bool.eq_false_iff]
  intro hr
  exact hn ((riseB_iff l).1 hr j h)
theorem rise_at {l : List Int} {k m : Nat} {x y : Int} (hk : k = m + 1) (h : k < l.length) (hm : l[m]'(by omega) = x) (hn : l[k] = y) (hr : y ≤ x) : riseB l = false := by
  subst hk
  exact rise_false h (by rw [hm, hn]; omega)
theorem rise_step {l : List Int} {k m : Nat} {x y : Int} (hk : k = m + 1) (h : k < l.length) (hm : l[m]'(by omega) = x) (hn : l[k] = y) (hr : x < y) (H : ∀ j (h : j + 1 < l.length), j + 1 < k → l[j] < l[j + 1]) : ∀ j (h : j + 1 < l.length), j + 1 < k + 1 → l[j] < l[j + 1] := by
  subst hk
  intro j hj hjk
  by_cases e : j = m
  · subst e; rw [hm, hn]; exact hr
  · exact H j hj (by omega)

set_option maxRecDepth 100000 in
set_option maxHeartbeats 4000000 in
theorem rising_v {w : World} {P : Nat → Prop} {ao : Option Addr} {G : List Vx} (cap : Nat) (h : VxAt w P ao G) (hl : G.length ≤ 9223372036854775807) :
    Calls Tryz.prog 149 #[.slice ao G.length cap, .func (.func 150) #[] #[]] w fun r w' => r = .returned (.bool (riseB (ids G))) ∧ Below w.heap.size w w' := by
  go_enter Tryz.func149, Tryz.ntmps149
  go_wp2
  go_loopw [5] (fun i wr => ∃ (k : Nat), 1 ≤ k ∧ k ≤ max G.length 1 ∧ i = .int .i64 k ∧ Hid (∀ j (h : j + 1 < (ids G).length), j + 1 < k → (ids G)[j] < (ids G)[j + 1]) ∧ Below w.heap.size w wr) (fun i _ => G.length - (intOf i).toNat)
  case atStart => exact ⟨1, Nat.le_refl _, by omega, rfl, fun j _ hj => absurd hj (by omega), Below.refl _ _⟩
  case round =>
    obtain ⟨k, hk1, hk, rfl, HR, hb⟩ := hrel
    by_cases hlt : k < G.length
    · obtain ⟨b, off, rfl, hP, hc⟩ := h (by omega)
      obtain ⟨m, HK⟩ : ∃ m, Hid (k = m + 1) := ⟨k - 1, (by omega : k = k - 1 + 1)⟩
      have hmk : k = m + 1 := HK.out
      have hm0 : m < G.length := by omega
      obtain ⟨eo, ec, c0, c1, c2, _⟩ := hc m hm0
      obtain ⟨fo, fc, f0, f1, f2, _⟩ := hc k hlt
      have hbb := lt_cell c0
      have hbw : b < wr.heap.size := Nat.lt_of_lt_of_le hbb hb.size
      have d0 := (hb.cell (p := ⟨b, off + m * 3, none⟩) hbb).trans c0
      have d1 := (hb.cell (p := ⟨b, off + m * 3 + 1, none⟩) hbb).trans c1
      have d2 := (hb.cell (p := ⟨b, off + m * 3 + 2, none⟩) hbb).trans c2
      have g0 := (hb.cell (p := ⟨b, off + k * 3, none⟩) hbb).trans f0
      have g1 := (hb.cell (p := ⟨b, off + k * 3 + 1, none⟩) hbb).trans f1
      have g2 := (hb.cell (p := ⟨b, off + k * 3 + 2, none⟩) hbb).trans f2
      have HM : Hid ((ids G)[m]'(by rw [ids_len]; omega) = G[m].id) := ids_get G m hm0
      have HN : Hid ((ids G)[k]'(by rw [ids_len]; omega) = G[k].id) := ids_get G k hlt
      have hm1 : IntKind.i64.wrap ((k : Int) - 1) = m := by rw [IntKind.wrap_i64]; omega
      have hm2 : wrap64 ((k : Int) - 1) = m := by unfold wrap64; omega
      clear c0 c1 c2 f0 f1 f2 hc hmk
      generalize G[m] = y at d0 d1 d2 HM
      generalize G[k] = z at g0 g1 g2 HN
      go_wp2
      go_region_with (go_at_call 150; refine (vertexnumber_any _ _ _ _ _ _).mono ?_; rintro r w1 ⟨rfl, hb1⟩; first | (have hbA := hb.trans ((below_c hb1).mono hb.size); have e0 := (hb1.cell (p := ⟨b, off + k * 3, none⟩) hbw).trans g0; have e1 := (hb1.cell (p := ⟨b, off + k * 3 + 1, none⟩) hbw).trans g1; have e2 := (hb1.cell (p := ⟨b, off + k * 3 + 2, none⟩) hbw).trans g2) | (have hbB := hbA.trans (hb1.mono hbA.size)))
      all_goals
        by_cases hr : z.id ≤ y.id
        · go_wp2
          go_ret
          exact ⟨by rw [rise_at HK.out (by rw [ids_len]; exact hlt) HM.out HN.out hr]; rfl, hbB⟩
        · go_wp2
          go_roundw
          case rel => exact ⟨k + 1, by omega, by omega, by go_num, rise_step HK.out (by rw [ids_len]; exact hlt) HM.out HN.out (by omega) HR.out, hbB⟩
          case measure => simp [intOf]; omega
    · go_wp2
      go_ret
      exact ⟨by rw [(riseB_iff _).2 (fun j hj => HR.out j hj (by rw [ids_len] at hj; omega))]; rfl, hb⟩
end Go.Proofs.YthkfbaoeimjgaaaGreat
