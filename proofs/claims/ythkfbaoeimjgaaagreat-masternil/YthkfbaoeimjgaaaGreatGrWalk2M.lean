import Derived.Test.YthkfbaoeimjgaaaGreatGrWalk1M
/- What rising returns of edges, and endsRise of a graph. -/
namespace Go.Proofs.YthkfbaoeimjgaaaGreat
open Go.RowKit

set_option maxRecDepth 100000 in
set_option maxHeartbeats 4000000 in
theorem rising_e {w : World} {P : Nat → Prop} {ao : Option Addr} {L : List Ed} (cap : Nat) (h : EdAt w P ao L) (hl : L.length ≤ 9223372036854775807) :
    Calls Tryz.prog 192 #[.slice ao L.length cap, .func (.func 193) #[] #[]] w fun r w' => r = .returned (.bool (riseB (ends L))) ∧ Below w.heap.size w w' := by
  go_enter Tryz.func192, Tryz.ntmps192
  go_wp2
  go_loopw [5] (fun i wr => ∃ (k : Nat), 1 ≤ k ∧ k ≤ max L.length 1 ∧ i = .int .i64 k ∧ Hid (∀ j (h : j + 1 < (ends L).length), j + 1 < k → (ends L)[j] < (ends L)[j + 1]) ∧ Below w.heap.size w wr) (fun i _ => L.length - (intOf i).toNat)
  case atStart => exact ⟨1, Nat.le_refl _, by omega, rfl, fun j _ hj => absurd hj (by omega), Below.refl _ _⟩
  case round =>
    obtain ⟨k, hk1, hk, rfl, HR, hb⟩ := hrel
    by_cases hlt : k < L.length
    · obtain ⟨b, off, rfl, hP, hc⟩ := h (by omega)
      obtain ⟨m, HK⟩ : ∃ m, Hid (k = m + 1) := ⟨k - 1, (by omega : k = k - 1 + 1)⟩
      have hmk : k = m + 1 := HK.out
      have hm0 : m < L.length := by omega
      obtain ⟨c0, c1⟩ := hc m hm0
      obtain ⟨f0, f1⟩ := hc k hlt
      have hbb := lt_cell c0
      have hbw : b < wr.heap.size := Nat.lt_of_lt_of_le hbb hb.size
      have d0 := (hb.cell (p := ⟨b, off + m * 2, none⟩) hbb).trans c0
      have d1 := (hb.cell (p := ⟨b, off + m * 2 + 1, none⟩) hbb).trans c1
      have g0 := (hb.cell (p := ⟨b, off + k * 2, none⟩) hbb).trans f0
      have g1 := (hb.cell (p := ⟨b, off + k * 2 + 1, none⟩) hbb).trans f1
      have HM : Hid ((ends L)[m]'(by rw [ends_len]; omega) = L[m].t) := ends_get L m hm0
      have HN : Hid ((ends L)[k]'(by rw [ends_len]; omega) = L[k].t) := ends_get L k hlt
      have hm1 : IntKind.i64.wrap ((k : Int) - 1) = m := by rw [IntKind.wrap_i64]; omega
      have hm2 : wrap64 ((k : Int) - 1) = m := by unfold wrap64; omega
      clear c0 c1 f0 f1 hc hmk
      generalize L[m] = y at d0 d1 HM
      generalize L[k] = z at g0 g1 HN
      go_wp2
      go_region_with (go_at_call 193; refine (edgeend_any _ _ _).mono ?_; rintro r w1 ⟨rfl, hb1⟩; first | (have hbA := hb.trans ((below_c hb1).mono hb.size); have e0 := (hb1.cell (p := ⟨b, off + k * 2, none⟩) hbw).trans g0; have e1 := (hb1.cell (p := ⟨b, off + k * 2 + 1, none⟩) hbw).trans g1) | (have hbB := hbA.trans (hb1.mono hbA.size)))
      all_goals
        by_cases hr : z.t ≤ y.t
        · go_wp2
          go_ret
          exact ⟨by rw [rise_at HK.out (by rw [ends_len]; exact hlt) HM.out HN.out hr]; rfl, hbB⟩
        · go_wp2
          go_roundw
          case rel => exact ⟨k + 1, by omega, by omega, by go_num, rise_step HK.out (by rw [ends_len]; exact hlt) HM.out HN.out (by omega) HR.out, hbB⟩
          case measure => simp [intOf]; omega
    · go_wp2
      go_ret
      exact ⟨by rw [(riseB_iff _).2 (fun j hj => HR.out j hj (by rw [ends_len] at hj; omega))]; rfl, hb⟩
theorem risesE_at {G : List Vx} {k : Nat} (h : k < G.length) (hr : riseB (ends G[k].es) = false) : risesE G = false := by
  unfold risesE
  rw [Bool.eq_false_iff]
  intro ha
  rw [List.all_eq_true] at ha
  have := ha _ (List.getElem_mem h)
  rw [hr] at this
  cases this
theorem risesE_all {G : List Vx} (H : ∀ j (h : j < G.length), riseB (ends G[j].es) = true) : risesE G = true := by
  unfold risesE
  rw [List.all_eq_true]
  intro v hv
  obtain ⟨j, hj, rfl⟩ := List.getElem_of_mem hv
  exact H j hj

set_option maxRecDepth 100000 in
set_option maxHeartbeats 4000000 in
theorem endsrise_any {w : World} {P : Nat → Prop} {ao : Option Addr} {G : List Vx} (cap : Nat) (h : VxAt w P ao G) (hl : G.length ≤ 9223372036854775807) (hok : ∀ v ∈ G, v.ok) :
    Calls Tryz.prog 152 #[.agg #[.slice ao G.length cap]] w fun r w' => r = .returned (.bool (risesE G)) ∧ Below w.heap.size w w' := by
  go_enter Tryz.func152, Tryz.ntmps152
  go_wp2
  go_loopw [4, 8] (fun _ i wr => ∃ (k : Nat), k ≤ G.length ∧ i = .int .i64 k ∧ Hid (∀ j (h : j < G.length), j < k → riseB (ends G[j].es) = true) ∧ Below w.heap.size w wr) (fun _ i _ => G.length - (intOf i).toNat)
  case atStart => exact ⟨0, Nat.zero_le _, rfl, fun j _ hj => absurd hj (by omega), (Below.refl _ _).alloc (Nat.le_refl _) _⟩
  case round =>
    obtain ⟨k, hk, rfl, HR, hb⟩ := hrel
    by_cases hlt : k < G.length
    · obtain ⟨b, off, rfl, hP, hc⟩ := h (by omega)
      obtain ⟨eo, ec, c0, c1, c2, c3⟩ := hc k hlt
      have hbb := lt_cell c0
      have d0 := (hb.cell (p := ⟨b, off + k * 3, none⟩) hbb).trans c0
      have d1 := (hb.cell (p := ⟨b, off + k * 3 + 1, none⟩) hbb).trans c1
      have d2 := (hb.cell (p := ⟨b, off + k * 3 + 2, none⟩) hbb).trans c2
      have d3 := c3.new hb
      have HG : Hid (∀ y, G[k] = y → riseB (ends y.es) = false → risesE G = false) := fun y e hr => risesE_at hlt (by rw [e]; exact hr)
      have HS : Hid (∀ y, G[k] = y → riseB (ends y.es) = true → ∀ j (h : j < G.length), j < k + 1 → riseB (ends G[j].es) = true) := fun y e hr j hj hjk => by
        by_cases ej : j = k
        · subst ej; rw [e]; exact hr
        · exact HR.out j hj (by omega)
      have hlen : G[k].es.length ≤ 9223372036854775807 := Nat.le_trans (hok _ (List.getElem_mem hlt)).len (by decide)
      have HE : Hid (∃ y, G[k] = y) := ⟨_, rfl⟩
      clear c0 c1 c2 c3 hc
      obtain ⟨y, hy⟩ := HE.out
      have HY : Hid (G[k] = y) := hy
      rw [hy] at d0 d1 d2 d3 hlen
      clear hy
      have hR := fun o => rising_e (w := wr.alloc o) ec (d3.new ((Below.refl _ _).alloc (Nat.le_refl _) _)) hlen
      cases hrb : riseB (ends y.es) with
      | false =>
        rw [hrb] at hR
        go_wp2_with (go_at_call 192; refine (hR _).mono ?_; rintro r w1 ⟨rfl, hb1⟩)
        go_ret
        exact ⟨by rw [HG.out y HY.out hrb]; rfl, (hb.alloc hb.size _).trans (hb1.mono (by have := hb.size; simp; omega))⟩
      | true =>
        rw [hrb] at hR
        go_wp2_with (go_at_call 192; refine (hR _).mono ?_; rintro r w1 ⟨rfl, hb1⟩)
        go_roundw
        case rel => exact ⟨k + 1, by omega, by go_num, HS.out y HY.out hrb, (hb.alloc hb.size _).trans (hb1.mono (by have := hb.size; simp; omega))⟩
        case measure => simp [intOf]; omega
    · go_wp2
      go_ret
      exact ⟨by rw [risesE_all (fun j hj => HR.out j hj (by omega))]; rfl, hb⟩
end Go.Proofs.YthkfbaoeimjgaaaGreat
