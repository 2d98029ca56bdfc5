import Derived.Test.YtcfbmgbhpihdcaaSpNearM
import Derived.BigQuiet
/- What near of layer 10 returns: whether two vertices are neighbours. -/
namespace Go.Proofs.Ytcfbmgbhpihdcaa
open Go.RowKit Go.Shelf
attribute [local go_sem] Oper.semAt_some
theorem any_false_take {L : List Ed} {x : Int} {k : Nat} (h : ∀ e ∈ L.take k, (e.t == x) = false) (hk : L.length ≤ k) : L.any (fun e => e.t == x) = false := by
  rw [List.take_of_length_le hk] at h
  rw [List.any_eq_false]
  intro e he
  simp [h e he]
theorem take_snocE {L : List Ed} {x : Int} {k : Nat} (hk : k < L.length) (h : ∀ e ∈ L.take k, (e.t == x) = false) (h1 : (L[k].t == x) = false) : ∀ e ∈ L.take (k + 1), (e.t == x) = false := by
  intro e he
  rw [List.take_succ_eq_append_getElem hk] at he
  rcases List.mem_append.1 he with he | he
  · exact h e he
  · rw [List.mem_singleton.1 he]; exact h1
theorem any_true {L : List Ed} {x : Int} {k : Nat} (hk : k < L.length) (h1 : (L[k].t == x) = true) : L.any (fun e => e.t == x) = true := List.any_eq_true.2 ⟨L[k], List.getElem_mem hk, h1⟩
set_option maxRecDepth 100000 in
set_option maxHeartbeats 4000000 in
theorem near_any {w : World} {P : Nat → Prop} {ao : Option Addr} {G : List Vx} {a b : Nat} (cap : Nat) (h : VxAt w P ao G) (ha : a < G.length) (hb : b < G.length) (hl : ∀ v ∈ G, v.es.length ≤ 1000000) : Calls Try.prog 23 #[.slice ao G.length cap, .int .i64 (a : Nat), .int .i64 (b : Nat)] w fun r w' => r = .returned (.bool (nearD G a b)) ∧ Below w.heap.size w w' := by
  obtain ⟨vb, off, rfl, _, hcl⟩ := h (by omega)
  obtain ⟨ea, ca, a0, _, a2, hEa⟩ := hcl a ha
  obtain ⟨eb, cb, b0, _, b2, hEb⟩ := hcl b hb
  have hla := hl G[a] (List.getElem_mem ha)
  have hlb := hl G[b] (List.getElem_mem hb)
  have HR : Hid (nearD G a b = (decide (a ≠ b) && (G[a].es.any (fun e => e.t == G[b].id) || G[b].es.any (fun e => e.t == G[a].id)))) := by
    show _ = _
    unfold nearD
    simp only [List.getD, List.getElem?_eq_getElem ha, List.getElem?_eq_getElem hb, Option.getD_some]
  generalize nearD G a b = res at HR ⊢
  obtain ⟨n, hn⟩ : ∃ n, G.length = n := ⟨_, rfl⟩
  rw [hn] at ha hb ⊢
  generalize G[a].es = La at a2 hEa hla HR
  generalize G[b].es = Lb at b2 hEb hlb HR
  generalize G[a].id = xa at a0 HR
  generalize G[b].id = xb at b0 HR
  have HEa : Hid (∀ j (hj : j < La.length), ∃ g o, ea = some ⟨g, o, none⟩ ∧ w.cell? ⟨g, o + j * 2, none⟩ = some (.int .i64 La[j].t)) := fun j hj => by
    obtain ⟨g, o, e, _, hc⟩ := hEa (by omega)
    exact ⟨g, o, e, (hc j hj).1⟩
  have HEb : Hid (∀ j (hj : j < Lb.length), ∃ g o, eb = some ⟨g, o, none⟩ ∧ w.cell? ⟨g, o + j * 2, none⟩ = some (.int .i64 Lb[j].t)) := fun j hj => by
    obtain ⟨g, o, e, _, hc⟩ := hEb (by omega)
    exact ⟨g, o, e, (hc j hj).1⟩
  obtain ⟨na, hna⟩ : ∃ na, La.length = na := ⟨_, rfl⟩
  obtain ⟨nb, hnb⟩ : ∃ nb, Lb.length = nb := ⟨_, rfl⟩
  have HNa : Hid (La.length = na) := hna
  have HNb : Hid (Lb.length = nb) := hnb
  rw [hna] at a2 hla
  rw [hnb] at b2 hlb
  have hab : ((a : Int) != (b : Int)) = decide (a ≠ b) := by
    rw [Bool.eq_iff_iff]
    simp
    omega
  generalize decide (a ≠ b) = nb0 at hab HR
  clear hcl hEa hEb hna hnb hn hl h
  go_enter Try.func23, Try.ntmps23
  go_wp2
  go_loopw [7] (fun i wr => ∃ k : Nat, k ≤ na ∧ i = .int .i64 k ∧ (nb0 = true → ∀ e ∈ La.take k, (e.t == xb) = false) ∧ Hid (Below w.heap.size w wr)) (fun i _ => na - (intOf i).toNat)
  case atStart => exact ⟨0, Nat.zero_le _, rfl, fun _ e he => (by simp at he), Below.refl _ _⟩
  case round =>
    obtain ⟨k, hk, rfl, hno, HB⟩ := hrel
    have HNo : Hid (nb0 = true → ∀ e ∈ La.take k, (e.t == xb) = false) := hno
    have a0' := (HB.out.cell (p := ⟨vb, off + a * 3, none⟩) (lt_cell a0)).trans a0
    have a2' := (HB.out.cell (p := ⟨vb, off + a * 3 + 2, none⟩) (lt_cell a2)).trans a2
    have b0' := (HB.out.cell (p := ⟨vb, off + b * 3, none⟩) (lt_cell b0)).trans b0
    have b2' := (HB.out.cell (p := ⟨vb, off + b * 3 + 2, none⟩) (lt_cell b2)).trans b2
    clear hno
    by_cases hlt : k < na
    · have HLt : Hid (k < na) := hlt
      have hkl : k < La.length := by rw [HNa.out]; exact hlt
      obtain ⟨g, o, rfl, c0⟩ := HEa.out k hkl
      replace c0 := (HB.out.cell (p := ⟨g, o + k * 2, none⟩) (lt_cell c0)).trans c0
      have HSn : Hid ((La[k].t == xb) = false → nb0 = true → ∀ e ∈ La.take (k + 1), (e.t == xb) = false) := fun h1 h2 => take_snocE hkl (HNo.out h2) h1
      have HTr : Hid ((La[k].t == xb) = true → La.any (fun e => e.t == xb) = true) := any_true hkl
      generalize La[k].t = y at c0 HSn HTr
      cases he : (y == xb) with
      | true =>
        cases hnb0 : nb0 with
        | true =>
          have HF : Hid (res = true) := by show res = true; rw [HR.out, hnb0, HTr.out he]; rfl
          rw [hnb0] at hab
          clear hkl hnb0
          go_wp2
          go_quiet (fail)
          go_wp2
          go_ret
          exact ⟨by rw [HF.out]; rfl, bel_drewN HB.out _⟩
        | false =>
          rw [hnb0] at hab
          clear hkl hnb0
          go_wp2
          go_quiet (fail)
          go_wp2
          go_roundw
          case rel => exact ⟨k + 1, HLt.out, by go_num, fun h => (by cases h), bel_drewN HB.out _⟩
          case measure => have := HLt.out; simp [intOf]; omega
      | false =>
        have HE0 : Hid ((y == xb) = false) := he
        clear hkl
        go_wp2
        go_quiet (fail)
        go_wp2
        go_roundw
        case rel => exact ⟨k + 1, HLt.out, by go_num, HSn.out HE0.out, bel_drewN HB.out _⟩
        case measure => have := HLt.out; simp [intOf]; omega
    · obtain rfl : k = na := by omega
      have HA : Hid (nb0 = true → La.any (fun e => e.t == xb) = false) := fun h => any_false_take (HNo.out h) (by rw [HNa.out]; omega)
      clear hlt
      go_wp2
      obtain ⟨W0, hW0⟩ : ∃ W0, wr = W0 := ⟨_, rfl⟩
      go_loopw [8] (fun i wr2 => ∃ k : Nat, k ≤ nb ∧ i = .int .i64 k ∧ (nb0 = true → ∀ e ∈ Lb.take k, (e.t == xa) = false) ∧ Hid (Below w.heap.size w wr2)) (fun i _ => nb - (intOf i).toNat)
      case atStart => exact ⟨0, Nat.zero_le _, rfl, fun _ e he => (by simp at he), HB⟩
      case round =>
        obtain ⟨k2, hk2, rfl, hno2, HB2⟩ := hrel
        have HNo2 : Hid (nb0 = true → ∀ e ∈ Lb.take k2, (e.t == xa) = false) := hno2
        have a0'' := (HB2.out.cell (p := ⟨vb, off + a * 3, none⟩) (lt_cell a0)).trans a0
        have b2'' := (HB2.out.cell (p := ⟨vb, off + b * 3 + 2, none⟩) (lt_cell b2)).trans b2
        clear hno2 a0' a2' b0' b2'
        by_cases hlt2 : k2 < nb
        · have HLt : Hid (k2 < nb) := hlt2
          have hkl : k2 < Lb.length := by rw [HNb.out]; exact hlt2
          obtain ⟨g, o, rfl, c0⟩ := HEb.out k2 hkl
          replace c0 := (HB2.out.cell (p := ⟨g, o + k2 * 2, none⟩) (lt_cell c0)).trans c0
          have HSn : Hid ((Lb[k2].t == xa) = false → nb0 = true → ∀ e ∈ Lb.take (k2 + 1), (e.t == xa) = false) := fun h1 h2 => take_snocE hkl (HNo2.out h2) h1
          have HTr : Hid ((Lb[k2].t == xa) = true → Lb.any (fun e => e.t == xa) = true) := any_true hkl
          generalize Lb[k2].t = y at c0 HSn HTr
          cases he : (y == xa) with
          | true =>
            cases hnb0 : nb0 with
            | true =>
              have HF : Hid (res = true) := by show res = true; rw [HR.out, hnb0, HTr.out he, Bool.or_true]; rfl
              rw [hnb0] at hab
              clear hkl hnb0
              go_wp2
              go_quiet (fail)
              go_wp2
              go_ret
              exact ⟨by rw [HF.out]; rfl, bel_drewN HB2.out _⟩
            | false =>
              rw [hnb0] at hab
              clear hkl hnb0
              go_wp2
              go_quiet (fail)
              go_wp2
              go_roundw
              case rel => exact ⟨k2 + 1, HLt.out, by go_num, fun h => (by cases h), bel_drewN HB2.out _⟩
              case measure => have := HLt.out; simp [intOf]; omega
          | false =>
            have HE0 : Hid ((y == xa) = false) := he
            clear hkl
            go_wp2
            go_quiet (fail)
            go_wp2
            go_roundw
            case rel => exact ⟨k2 + 1, HLt.out, by go_num, HSn.out HE0.out, bel_drewN HB2.out _⟩
            case measure => have := HLt.out; simp [intOf]; omega
        · obtain rfl : k2 = nb := by omega
          have HF : Hid (res = false) := by
            show res = false
            rw [HR.out]
            cases hnb0 : nb0 with
            | false => rfl
            | true => rw [HA.out hnb0, any_false_take (HNo2.out hnb0) (by rw [HNb.out]; omega)]; rfl
          clear hlt2
          go_wp2
          go_ret
          exact ⟨by rw [HF.out]; rfl, HB2.out⟩
end Go.Proofs.Ytcfbmgbhpihdcaa
