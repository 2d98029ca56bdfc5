/- The law's own: are two rows of numbers the same; numbers put one by one, rising. -/
import Derived.Test.YtipopaicehimeaaGnRow
import Derived.Test.YtipopaicehimeaaPlM
import Derived.Test.YtipopaicehimeaaOrdL
import Derived.WalkSmall
import Derived.Deep.QuietTactic
import Derived.BigQuiet
import Derived.BigRegion
import Derived.Deep.Cut
import Derived.Deep.DeepCutAuto
import Derived.Deep.CutBlock
namespace Go.Proofs.Ytipopaicehimeaa
open Go.RowKit
attribute [local go_sem] Oper.semAt_some

set_option maxRecDepth 100000 in
set_option maxHeartbeats 1000000 in
theorem lsame {w : World} {va vb : Value} {A C : List Int} (hA : IS w va A) (hB : IS w vb C) (ha : A.length ≤ 140737488355328) : Calls Try.prog 10 #[va, vb] w fun r w' => r = .returned (.bool (decide (A = C))) ∧ ∃ q, w' = w.drewN q := by
  obtain ⟨ao, ca, rfl, hca⟩ := hA.shape
  obtain ⟨bo, cb, rfl, hcb⟩ := hB.shape
  have HA : Hid (IS w (.slice ao A.length ca) A) := hA
  have HC : Hid (IS w (.slice bo C.length cb) C) := hB
  obtain ⟨res, hres⟩ : ∃ res, decide (A = C) = res := ⟨_, rfl⟩
  have HR : Hid (decide (A = C) = res) := hres
  rw [hres]
  obtain ⟨n, hn⟩ : ∃ n, A.length = n := ⟨_, rfl⟩
  obtain ⟨m, hm⟩ : ∃ m, C.length = m := ⟨_, rfl⟩
  have HN : Hid (A.length = n) := hn
  have HM : Hid (C.length = m) := hm
  rw [hn] at ha hca ⊢
  rw [hm] at hcb ⊢
  have HA2 : Hid (∀ j (h : j < A.length), ∃ b off, ao = some ⟨b, off, none⟩ ∧ w.cell? ⟨b, off + j, none⟩ = some (.int .i64 A[j])) := fun j hj => HA.out.at_ j hj
  have HC2 : Hid (∀ j (h : j < C.length), ∃ b off, bo = some ⟨b, off, none⟩ ∧ w.cell? ⟨b, off + j, none⟩ = some (.int .i64 C[j])) := fun j hj => HC.out.at_ j hj
  clear hA hB hres hn hm HA HC
  by_cases hnm : n = m
  · subst hnm
    go_enter Try.func10, Try.ntmps10
    go_wp2
    go_loopw [5] (fun i wr => ∃ k q : Nat, k ≤ n ∧ i = .int .i64 k ∧ (∀ j, j < k → A[j]? = C[j]?) ∧ Hid (wr = w.drewN q)) (fun i _ => n - (intOf i).toNat)
    case atStart => exact ⟨0, 0, Nat.zero_le _, rfl, fun j hj => by omega, rfl⟩
    case round =>
      obtain ⟨k, q, hk, rfl, hall, HQ⟩ := hrel
      have HAll : Hid (∀ j, j < k → A[j]? = C[j]?) := hall
      clear hall
      by_cases hlt : k < n
      · have h1 : k < A.length := by rw [HN.out]; exact hlt
        have h2 : k < C.length := by rw [HM.out]; exact hlt
        obtain ⟨b1, o1, rfl, c1⟩ := HA2.out k h1
        obtain ⟨b2, o2, rfl, c2⟩ := HC2.out k h2
        have d1 : wr.cell? ⟨b1, o1 + k, none⟩ = some (.int .i64 A[k]) := by rw [HQ.out]; exact c1
        have d2 : wr.cell? ⟨b2, o2 + k, none⟩ = some (.int .i64 C[k]) := by rw [HQ.out]; exact c2
        have HE1 : Hid (A[k]? = some A[k]) := List.getElem?_eq_getElem h1
        have HE2 : Hid (C[k]? = some C[k]) := List.getElem?_eq_getElem h2
        generalize A[k] = x at d1 HE1
        generalize C[k] = y at d2 HE2
        clear c1 c2 h1 h2
        have HLt : Hid (k < n) := hlt
        cases he : (x != y) with
        | true =>
          have HF : Hid (res = false) := by
            show res = false
            rw [← HR.out]
            simp only [decide_eq_false_iff_not]
            intro e
            have e1 := HE1.out
            rw [e, HE2.out] at e1
            cases e1
            simp at he
          go_wp2
          go_quiet (fail)
          go_wp2
          go_ret
          exact ⟨by rw [HF.out]; rfl, _, by rw [HQ.out]; exact (World.drewN_drewN _ _ _)⟩
        | false =>
          have HEq : Hid (∀ j, j < k + 1 → A[j]? = C[j]?) := fun j hj => by
            rcases Nat.lt_or_ge j k with h | h
            · exact HAll.out j h
            · obtain rfl : j = k := by omega
              rw [HE1.out, HE2.out]
              simp at he
              rw [he]
          go_wp2
          go_quiet (fail)
          go_wp2
          go_roundw
          case rel => exact ⟨k + 1, _, HLt.out, by go_num, HEq.out, by rw [HQ.out]; exact (World.drewN_drewN _ _ _)⟩
          case measure => have := HLt.out; simp [intOf]; omega
      · obtain rfl : k = n := by omega
        have HF : Hid (res = true) := by
          show res = true
          rw [← HR.out]
          simp only [decide_eq_true_eq]
          refine List.ext_getElem? (fun j => ?_)
          rcases Nat.lt_or_ge j k with h | h
          · exact HAll.out j h
          · rw [List.getElem?_eq_none (by rw [HN.out]; exact h), List.getElem?_eq_none (by rw [HM.out]; exact h)]
        clear hlt
        go_wp2
        go_ret
        exact ⟨by rw [HF.out]; rfl, q, HQ.out⟩
  · have HF : Hid (res = false) := by
      show res = false
      rw [← HR.out]
      simp only [decide_eq_false_iff_not]
      intro e
      apply hnm
      rw [← HN.out, ← HM.out, e]
    have hne : ¬ (n : Int) = (m : Int) := by omega
    clear hnm
    go_enter Try.func10, Try.ntmps10
    go_wp2
    go_ret
    exact ⟨by rw [HF.out]; rfl, 0, rfl⟩
end Go.Proofs.Ytipopaicehimeaa
