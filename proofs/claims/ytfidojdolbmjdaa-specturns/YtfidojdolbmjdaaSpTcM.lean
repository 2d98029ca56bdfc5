import Derived.Test.YtfidojdolbmjdaaSpRowM
import Derived.Test.YtfidojdolbmjdaaSpTmM
/- spec.commonest: the number that is there most often, the least of several. -/
namespace Go.Proofs.Ytfidojdolbmjdaa
open Go.RowKit Go.Shelf
attribute [local go_sem] Oper.semAt_some
theorem srt_perm (L : List Int) : (srt L).Perm L := List.mergeSort_perm L _
theorem srt_up (L : List Int) : (srt L).Pairwise (· ≤ ·) := by
  unfold srt
  refine (List.pairwise_mergeSort (le := fun x y : Int => decide (x ≤ y)) ?_ ?_ L).imp ?_
  · intro a b c h1 h2; simp only [decide_eq_true_eq] at h1 h2 ⊢; omega
  · intro a b; simp only [Bool.or_eq_true, decide_eq_true_eq]; omega
  · intro a b h; simpa using h
/-- What holds behind the first k. -/
def ComI (M : List Int) (k : Nat) (b : Int) (mo ti : Nat) : Prop := (k = 0 ∧ mo = 0 ∧ ti = 0) ∨ (0 < k ∧ IsBest (M.take k) b ∧ mo = (M.take k).count b ∧ ∃ h : k - 1 < M.length, ti = (M.take k).count M[k - 1])
theorem ComI.le {M : List Int} {k : Nat} {b : Int} {mo ti : Nat} (h : ComI M k b mo ti) : mo ≤ k ∧ ti ≤ k := by
  rcases h with ⟨h1, h2, h3⟩ | ⟨_, _, h2, _, h3⟩
  · omega
  · have e1 := List.count_le_length (a := b) (l := M.take k)
    have e2 := List.count_le_length (a := M[k - 1]) (l := M.take k)
    rw [List.length_take] at e1 e2
    omega
theorem ComI.next {M : List Int} (hs : M.Pairwise (· ≤ ·)) {k : Nat} {b : Int} {mo ti : Nat} (h : ComI M k b mo ti) (hk : k < M.length) (t2 : Nat) (ht : t2 = if 0 < k ∧ M[k] = M[k - 1] then ti + 1 else 1) : (mo < t2 → ComI M (k + 1) M[k] t2 t2) ∧ (¬ mo < t2 → ComI M (k + 1) b mo t2) := by
  have e : M.take (k + 1) = M.take k ++ [M[k]] := List.take_succ_eq_append_getElem hk
  have hle : ∀ i j (hj : j < M.length) (hij : i ≤ j), M[i]'(by omega) ≤ M[j] := fun i j hj hij => by
    rcases Nat.lt_or_ge i j with h | h
    · exact List.pairwise_iff_getElem.1 hs i j (by omega) hj h
    · obtain rfl : i = j := by omega
      exact Int.le_refl _
  have hall : ∀ x ∈ M.take k, x ≤ M[k] := fun x hx => by
    obtain ⟨j, hj, rfl⟩ := List.getElem_of_mem hx
    rw [List.length_take] at hj
    rw [List.getElem_take]
    exact hle j k hk (by omega)
  have hct : (M.take (k + 1)).count M[k] = t2 := by
    rw [e, ht]
    rcases h with ⟨h1, _, _⟩ | ⟨h0, _, _, _, h3⟩
    · subst h1
      simp
    · by_cases he : M[k] = M[k - 1]
      · rw [if_pos ⟨h0, he⟩, h3, run_same, he]
      · rw [if_neg (fun h => he h.2)]
        refine run_new (m := M[k - 1]) (fun x hx => ?_) ?_
        · obtain ⟨j, hj, rfl⟩ := List.getElem_of_mem hx
          rw [List.length_take] at hj
          rw [List.getElem_take]
          exact hle j (k - 1) (by omega) (by omega)
        · have := hle (k - 1) k hk (by omega)
          omega
  have hl : ∃ h : k + 1 - 1 < M.length, t2 = (M.take (k + 1)).count M[k + 1 - 1] := ⟨by simpa using hk, by simpa using hct.symm⟩
  rcases h with ⟨h1, h2, h3⟩ | ⟨h0, hB, hm, hr⟩
  · subst h1
    constructor
    · intro _
      refine .inr ⟨by omega, ?_, hct.symm, hl⟩
      rw [e]
      simpa using IsBest.first M[0]
    · intro hn
      exfalso
      have : 0 < t2 := by rw [← hct, e]; simp
      omega
  · obtain ⟨g1, g2⟩ := hB.step hall
    rw [← e] at g1 g2
    rw [hct, ← hm] at g1 g2
    constructor
    · intro hlt
      exact .inr ⟨by omega, g1 hlt, hct.symm, hl⟩
    · intro hge
      obtain ⟨g3, g4⟩ := g2 hge
      exact .inr ⟨by omega, g3, g4.symm, hl⟩
set_option linter.unusedSimpArgs false in
set_option linter.unusedVariables false in
set_option maxRecDepth 100000 in
set_option maxHeartbeats 2000000 in
theorem commonest_any {w : World} {base : Nat} {v : Value} {L : List Int} (h : RwI w 2 base v L) (h0 : 0 < L.length) (hl : L.length ≤ 1000000) : Calls Try.prog 30 #[v] w fun r w' => (∃ b, r = .returned (.int .i64 b) ∧ IsBest L b) ∧ Fr w w' (fun k => v.ownBlock = some k) := by
  have hS := sort64_row (by omega) h
  obtain ⟨ao, c, rfl⟩ := ri_shape h
  clear h
  go_enter Try.func30, Try.ntmps30
  go_upto_region 2 with (go_at_call 58; refine hS.mono ?_; rintro r w1 ⟨rfl, hr1, hf1⟩)
  have HF : Hid (Fr w w1 (fun k => (Value.slice ao L.length c).ownBlock = some k)) := hf1
  have HUp : Hid ((srt L).Pairwise (· ≤ ·)) := srt_up L
  have HPm : Hid ((srt L).Perm L) := srt_perm L
  have hlen : (srt L).length = L.length := srt_len L
  obtain ⟨M, hM⟩ : ∃ M, srt L = M := ⟨_, rfl⟩
  rw [hM] at hr1 HUp HPm hlen
  obtain ⟨hn, hat⟩ := ri_at hr1
  obtain ⟨g, rfl, _, hc⟩ := hat (by omega)
  obtain ⟨n, hnn⟩ : ∃ n, L.length = n := ⟨_, rfl⟩
  have HMl : Hid (M.length = n) := by show _ = _; omega
  rw [hnn] at h0 hl ⊢
  have HC : Hid (∀ j (hj : j < M.length), w1.cell? ⟨g, j, none⟩ = some (.int .i64 M[j])) := fun j hj => (hc j hj).1
  obtain ⟨z0, c0⟩ : ∃ z0, w1.cell? ⟨g, 0, none⟩ = some (.int .i64 z0) := ⟨_, (hc 0 (by omega)).1⟩
  clear hS hr1 hf1 hM hn hat hc hlen hnn
  go_wp2
  go_loopw [3, 4, 5, 6, 7, 15] (fun bv mv tv _ _ iv wr => ∃ (k mo ti : Nat) (b : Int), k ≤ n ∧ iv = .int .i64 k ∧ bv = .int .i64 b ∧ mv = .int .i64 mo ∧ tv = .int .i64 ti ∧ Hid (ComI M k b mo ti) ∧ wr = w1) (fun _ _ _ _ _ iv _ => n - (intOf iv).toNat)
  case atStart => exact ⟨0, 0, 0, z0, Nat.zero_le _, rfl, rfl, rfl, rfl, .inl ⟨rfl, rfl, rfl⟩, rfl⟩
  case round =>
    clear c0
    obtain ⟨k, mo, ti, b, hk, rfl, rfl, rfl, rfl, HI, rfl⟩ := hrel
    obtain ⟨hmo, hti⟩ := HI.out.le
    by_cases hkl : k < n
    · have HKl : Hid (k < n) := hkl
      have hkM : k < M.length := by rw [HMl.out]; exact hkl
      have d0 := HC.out k hkM
      by_cases hk0 : k = 0
      · subst hk0
        have hN := HI.out.next HUp.out hkM 1 (by simp)
        have hz : mo = 0 := by omega
        subst hz
        have HN : Hid (ComI M (0 + 1) M[0] 1 1) := hN.1 (by omega)
        generalize M[0] = y at d0 HN
        clear hN hkM
        go_wp2
        go_roundw
        case rel => exact ⟨1, 1, 1, y, HKl.out, (by first | rfl | go_num), rfl, (by first | rfl | go_num), (by first | rfl | go_num), HN, (by first | trivial | rfl)⟩
        case measure => have := HKl.out; simp [intOf]; omega
      · obtain ⟨j, rfl⟩ : ∃ j, k = j + 1 := ⟨k - 1, by omega⟩
        have d1 := HC.out j (by omega)
        have hN := HI.out.next HUp.out hkM
        have e1 : j + 1 - 1 = j := by omega
        simp only [e1] at hN
        have HNx : Hid (∀ t2, t2 = (if 0 < j + 1 ∧ M[j + 1] = M[j] then ti + 1 else 1) → (mo < t2 → ComI M (j + 1 + 1) M[j + 1] t2 t2) ∧ (¬ mo < t2 → ComI M (j + 1 + 1) b mo t2)) := hN
        generalize M[j + 1] = y at d0 HNx
        generalize M[j] = x at d1 HNx
        have hjw : IntKind.i64.wrap (j : Int) = (j : Int) := IntWalk.i64_in _ (by omega)
        have hj0 : 0 ≤ (j : Int) + 1 := by omega
        have hj1 : ¬ (j : Int) + 1 = 0 := by omega
        have hj2 : (j : Int) < n := by omega
        have hj3 : (j : Int) + 1 < n := by omega
        clear hN hkM hk0 e1
        by_cases hyx : y = x
        · subst hyx
          have HN2 := HNx.out (ti + 1) (by simp)
          by_cases hmt : mo < ti + 1
          · have HN3 : Hid (ComI M (j + 1 + 1) y (ti + 1) (ti + 1)) := HN2.1 hmt
            have hmt2 : (mo : Int) < (ti : Int) + 1 := by omega
            clear HN2 HNx
            go_wp2
            go_roundw
            case rel => exact ⟨j + 2, ti + 1, ti + 1, y, HKl.out, by go_num, rfl, by go_num, by go_num, HN3, (by first | trivial | rfl)⟩
            case measure => have := HKl.out; simp [intOf]; omega
          · have HN3 : Hid (ComI M (j + 1 + 1) b mo (ti + 1)) := HN2.2 hmt
            have hmt2 : (ti : Int) + 1 ≤ mo := by omega
            clear HN2 HNx
            go_wp2
            go_roundw
            case rel => exact ⟨j + 2, mo, ti + 1, b, HKl.out, by go_num, rfl, rfl, by go_num, HN3, (by first | trivial | rfl)⟩
            case measure => have := HKl.out; simp [intOf]; omega
        · have HN2 := HNx.out 1 (by rw [if_neg (fun h => hyx h.2)])
          have hne : (y != x) = true := by simpa using hyx
          by_cases hmt : mo < 1
          · have HN3 : Hid (ComI M (j + 1 + 1) y 1 1) := HN2.1 hmt
            have hz : mo = 0 := by omega
            subst hz
            clear HN2 HNx
            go_wp2
            go_roundw
            case rel => exact ⟨j + 2, 1, 1, y, HKl.out, by go_num, rfl, rfl, rfl, HN3, (by first | trivial | rfl)⟩
            case measure => have := HKl.out; simp [intOf]; omega
          · have HN3 : Hid (ComI M (j + 1 + 1) b mo 1) := HN2.2 hmt
            have hmt2 : (1 : Int) ≤ mo := by omega
            clear HN2 HNx
            go_wp2
            go_roundw
            case rel => exact ⟨j + 2, mo, 1, b, HKl.out, by go_num, rfl, rfl, rfl, HN3, (by first | trivial | rfl)⟩
            case measure => have := HKl.out; simp [intOf]; omega
    · obtain rfl : k = n := by omega
      clear hkl
      go_wp2
      go_ret
      refine ⟨⟨b, rfl, ?_⟩, HF.out⟩
      rcases HI.out with ⟨h1, _⟩ | ⟨_, h2, _⟩
      · omega
      · rw [List.take_of_length_le (by rw [HMl.out]; omega)] at h2
        exact h2.perm HPm.out
end Go.Proofs.Ytfidojdolbmjdaa
