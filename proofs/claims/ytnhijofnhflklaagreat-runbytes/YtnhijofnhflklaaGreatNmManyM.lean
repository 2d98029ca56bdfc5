import Derived.Test.YtnhijofnhflklaaGreatNmOverM
/- NumMany: many numbers are added one behind the other. -/
namespace Go.Proofs.YtnhijofnhflklaaGreat
open Go.RowKit

/-- The sum of a list, one behind the other: the value and the error. -/
def sumF (n : Int) : List Int → Int × Int
  | [] => (n, 0)
  | x :: xs => if he (n + x) = 0 then sumF (hv (n + x)) xs else (0, 20)
theorem sumF_cons {n x : Int} {xs : List Int} (h : he (n + x) = 0) : sumF n (x :: xs) = sumF (hv (n + x)) xs := if_pos h
theorem sumF_stop {n x : Int} {xs : List Int} (h : ¬ he (n + x) = 0) : sumF n (x :: xs) = (0, 20) := if_neg h
theorem sumF_step {n : Int} {zs : List Int} {k : Nat} (hk : k < zs.length) :
    (he (n + zs.getD k 0) = 0 → sumF n (zs.drop k) = sumF (hv (n + zs.getD k 0)) (zs.drop (k + 1))) ∧ (¬ he (n + zs.getD k 0) = 0 → sumF n (zs.drop k) = (0, 20)) := by
  have e : zs.drop k = zs.getD k 0 :: zs.drop (k + 1) := by
    rw [List.drop_eq_getElem_cons hk]
    congr 1
    simp [List.getD, hk]
  rw [e]
  exact ⟨sumF_cons, sumF_stop⟩

theorem nsum_any (a : Addr) (cap : Nat) (zs : List Int) (w : World) (hl : zs.length ≤ 9223372036854775807) (hc : ∀ i, i < zs.length → w.cell? (a.add i) = some (.int .i64 (zs.getD i 0))) (hz : ∀ i, i < zs.length → N64 (zs.getD i 0)) :
    Calls Tryz.prog 244 #[.slice (some a) zs.length cap] w fun e w' => e = .returned (.tuple #[.int .i64 (sumF 0 zs).1, .int .i64 (sumF 0 zs).2]) ∧ w' = w := by
  have HC : Hid (∀ i, i < zs.length → w.cell? (a.add i) = some (.int .i64 (zs.getD i 0))) := hc
  have HZ : Hid (∀ i, i < zs.length → N64 (zs.getD i 0)) := hz
  clear hc hz
  go_enter Tryz.func244, Tryz.ntmps244
  go_wp2
  go_loop [4, 11] (fun s i => ∃ (k : Nat) (n : Int), k ≤ zs.length ∧ i = .int .i64 (k : Int) ∧ s = .int .i64 n ∧ Hid (N64 n ∧ sumF n (zs.drop k) = sumF 0 zs)) (fun _ i => zs.length - (intOf i).toNat)
  case atStart => exact ⟨0, 0, Nat.zero_le _, rfl, rfl, ⟨⟨by decide, by decide⟩, rfl⟩⟩
  case round =>
    obtain ⟨k, n, hk, rfl, rfl, HN⟩ := hrel
    by_cases hlt : k < zs.length
    · have hcell := HC.out k hlt
      have HX := HZ.out k hlt
      have HS := sumF_step (n := n) hlt
      generalize zs.getD k 0 = x at *
      obtain ⟨V, hV⟩ : ∃ V, hv (n + x) = V := ⟨_, rfl⟩
      obtain ⟨E, hE⟩ : ∃ E, he (n + x) = E := ⟨_, rfl⟩
      rw [hE, hV] at HS
      have HX' : Hid (N64 x) := HX
      clear HX
      by_cases h0 : E = 0
      · have HR : Hid _ := HS.1 h0
        have HV : Hid (N64 V) := by rw [← hV]; exact hv_bd _
        clear HS
        go_wp2_with (go_at_call 198; refine (addR HN.out.1 HX'.out).mono ?_; rintro e w1 ⟨rfl, rfl⟩; rw [hV, hE])
        go_round
        case rel => exact ⟨k + 1, V, by omega, by go_num, rfl, ⟨HV.out, HR.out.symm.trans HN.out.2⟩⟩
        case measure => simp [intOf]; omega
      · have HR : Hid (sumF 0 zs = (0, 20)) := HN.out.2.symm.trans (HS.2 h0)
        have hE20 : E = 20 := by rcases he_cases (n + x) with ⟨h, _⟩ | ⟨h, _⟩ <;> omega
        clear HS
        go_wp2_with (go_at_call 198; refine (addR HN.out.1 HX'.out).mono ?_; rintro e w1 ⟨rfl, rfl⟩; rw [hV, hE])
        go_ret2
        rw [HR.out]
        exact ⟨rfl, rfl⟩
    · have : k = zs.length := by omega
      subst this
      have HR : Hid (sumF 0 zs = (n, 0)) := by
        have := HN.out.2
        rw [List.drop_length] at this
        exact this.symm
      go_wp2
      go_ret2
      rw [HR.out]
      exact ⟨rfl, rfl⟩
end Go.Proofs.YtnhijofnhflklaaGreat
