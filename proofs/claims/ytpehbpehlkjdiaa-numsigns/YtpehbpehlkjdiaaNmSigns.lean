/- NumSigns: sums and products the other way round, and a product with one sign turned. -/
import Derived.Test.YtpehbpehlkjdiaaNmBack
namespace Go.Proofs.Ytpehbpehlkjdiaa
open Go.RowKit
theorem law_signs (a b : Int) (w : World) (ha : -9223372036854775808 ≤ a) (ha' : a ≤ 9223372036854775807) (hb : -9223372036854775808 ≤ b) (hb' : b ≤ 9223372036854775807) :
    Calls Try.prog 7 #[.int .i64 a, .int .i64 b] w fun e w' => e = .returned (.bool true) ∧ Below w.heap.size w w' := by
  have HA : Hid (I64 a) := ⟨ha, ha'⟩
  have HB : Hid (I64 b) := ⟨hb, hb'⟩
  have H0 : Hid (I64 0) := ⟨by decide, by decide⟩
  obtain ⟨X, hX⟩ : ∃ X, hv (a + b) = X := ⟨_, rfl⟩
  obtain ⟨E, hE⟩ : ∃ E, he (a + b) = E := ⟨_, rfl⟩
  have hX' : hv (b + a) = X := by rw [Int.add_comm]; exact hX
  have hE' : he (b + a) = E := by rw [Int.add_comm]; exact hE
  obtain ⟨Z, hZ⟩ : ∃ Z, hv (a * b) = Z := ⟨_, rfl⟩
  obtain ⟨G, hG⟩ : ∃ G, he (a * b) = G := ⟨_, rfl⟩
  have hZ' : hv (b * a) = Z := by rw [Int.mul_comm]; exact hZ
  have hG' : he (b * a) = G := by rw [Int.mul_comm]; exact hG
  obtain ⟨N, hN⟩ : ∃ N, hv (0 - b) = N := ⟨_, rfl⟩
  obtain ⟨I, hI⟩ : ∃ I, he (0 - b) = I := ⟨_, rfl⟩
  obtain ⟨M, hM⟩ : ∃ M, hv (a * N) = M := ⟨_, rfl⟩
  obtain ⟨J, hJ⟩ : ∃ J, he (a * N) = J := ⟨_, rfl⟩
  obtain ⟨T, hT⟩ : ∃ T, hv (0 - Z) = T := ⟨_, rfl⟩
  obtain ⟨K, hK⟩ : ∃ K, he (0 - Z) = K := ⟨_, rfl⟩
  have HZ : Hid (I64 Z) := by rw [← hZ]; exact hv_bd _
  have HN : Hid (I64 N) := by rw [← hN]; exact hv_bd _
  have f : I = 0 → G = 0 → J = 0 → K = 0 → M = T := by
    intro h1 h2 h3 h4
    rcases he_cases (0 - b) with ⟨_, e2, _⟩ | ⟨e1, _, _⟩
    · rcases he_cases (a * b) with ⟨_, e5, _⟩ | ⟨e4, _, _⟩
      · rcases he_cases (a * N) with ⟨_, e8, _⟩ | ⟨e7, _, _⟩
        · rcases he_cases (0 - Z) with ⟨_, e11, _⟩ | ⟨e10, _, _⟩
          · rw [← hM, ← hT, e8, e11, ← hN, e2, ← hZ, e5, Int.mul_sub, Int.mul_zero]
          · omega
        · omega
      · omega
    · omega
  clear ha ha' hb hb'
  by_cases h1 : I = 0
  · by_cases h2 : G = 0
    · by_cases h3 : J = 0
      · by_cases h4 : K = 0
        · have h5 := f h1 h2 h3 h4
          clear f
          go_enter Try.func7, Try.ntmps7
          go_wp2_with (first
            | (go_at_call 8; refine (addR (by first | exact HA.out | exact HB.out) (by first | exact HA.out | exact HB.out)).mono ?_; rintro e w1 ⟨rfl, rfl⟩; first | rw [hX, hE] | rw [hX', hE'])
            | (go_at_call 9; refine (subR H0.out (by first | exact HB.out | exact HZ.out)).mono ?_; rintro e w1 ⟨rfl, rfl⟩; first | rw [hN, hI] | rw [hT, hK])
            | (go_at_call 10; refine (mulR (by first | exact HA.out | exact HB.out) (by first | exact HA.out | exact HB.out | exact HN.out)).mono ?_; rintro e w1 ⟨rfl, rfl⟩; first | rw [hZ, hG] | rw [hZ', hG'] | rw [hM, hJ])
            | (go_at_call 16; refine (awake_any _).mono ?_; rintro e w3 ⟨rfl, rfl⟩))
          all_goals (go_ret; exact ⟨rfl, Below.refl _ _⟩)
        · clear f
          go_enter Try.func7, Try.ntmps7
          go_wp2_with (first
            | (go_at_call 8; refine (addR (by first | exact HA.out | exact HB.out) (by first | exact HA.out | exact HB.out)).mono ?_; rintro e w1 ⟨rfl, rfl⟩; first | rw [hX, hE] | rw [hX', hE'])
            | (go_at_call 9; refine (subR H0.out (by first | exact HB.out | exact HZ.out)).mono ?_; rintro e w1 ⟨rfl, rfl⟩; first | rw [hN, hI] | rw [hT, hK])
            | (go_at_call 10; refine (mulR (by first | exact HA.out | exact HB.out) (by first | exact HA.out | exact HB.out | exact HN.out)).mono ?_; rintro e w1 ⟨rfl, rfl⟩; first | rw [hZ, hG] | rw [hZ', hG'] | rw [hM, hJ])
            | (go_at_call 16; refine (awake_any _).mono ?_; rintro e w3 ⟨rfl, rfl⟩))
          all_goals (go_ret; exact ⟨rfl, Below.refl _ _⟩)
      · clear f
        go_enter Try.func7, Try.ntmps7
        go_wp2_with (first
          | (go_at_call 8; refine (addR (by first | exact HA.out | exact HB.out) (by first | exact HA.out | exact HB.out)).mono ?_; rintro e w1 ⟨rfl, rfl⟩; first | rw [hX, hE] | rw [hX', hE'])
          | (go_at_call 9; refine (subR H0.out (by first | exact HB.out | exact HZ.out)).mono ?_; rintro e w1 ⟨rfl, rfl⟩; first | rw [hN, hI] | rw [hT, hK])
          | (go_at_call 10; refine (mulR (by first | exact HA.out | exact HB.out) (by first | exact HA.out | exact HB.out | exact HN.out)).mono ?_; rintro e w1 ⟨rfl, rfl⟩; first | rw [hZ, hG] | rw [hZ', hG'] | rw [hM, hJ])
          | (go_at_call 16; refine (awake_any _).mono ?_; rintro e w3 ⟨rfl, rfl⟩))
        all_goals (go_ret; exact ⟨rfl, Below.refl _ _⟩)
    · clear f
      go_enter Try.func7, Try.ntmps7
      go_wp2_with (first
        | (go_at_call 8; refine (addR (by first | exact HA.out | exact HB.out) (by first | exact HA.out | exact HB.out)).mono ?_; rintro e w1 ⟨rfl, rfl⟩; first | rw [hX, hE] | rw [hX', hE'])
        | (go_at_call 9; refine (subR H0.out (by first | exact HB.out | exact HZ.out)).mono ?_; rintro e w1 ⟨rfl, rfl⟩; first | rw [hN, hI] | rw [hT, hK])
        | (go_at_call 10; refine (mulR (by first | exact HA.out | exact HB.out) (by first | exact HA.out | exact HB.out | exact HN.out)).mono ?_; rintro e w1 ⟨rfl, rfl⟩; first | rw [hZ, hG] | rw [hZ', hG'] | rw [hM, hJ])
        | (go_at_call 16; refine (awake_any _).mono ?_; rintro e w3 ⟨rfl, rfl⟩))
      all_goals (go_ret; exact ⟨rfl, Below.refl _ _⟩)
  · clear f
    go_enter Try.func7, Try.ntmps7
    go_wp2_with (first
      | (go_at_call 8; refine (addR (by first | exact HA.out | exact HB.out) (by first | exact HA.out | exact HB.out)).mono ?_; rintro e w1 ⟨rfl, rfl⟩; first | rw [hX, hE] | rw [hX', hE'])
      | (go_at_call 9; refine (subR H0.out (by first | exact HB.out | exact HZ.out)).mono ?_; rintro e w1 ⟨rfl, rfl⟩; first | rw [hN, hI] | rw [hT, hK])
      | (go_at_call 10; refine (mulR (by first | exact HA.out | exact HB.out) (by first | exact HA.out | exact HB.out | exact HN.out)).mono ?_; rintro e w1 ⟨rfl, rfl⟩; first | rw [hZ, hG] | rw [hZ', hG'] | rw [hM, hJ])
      | (go_at_call 16; refine (awake_any _).mono ?_; rintro e w3 ⟨rfl, rfl⟩))
    all_goals (go_ret; exact ⟨rfl, Below.refl _ _⟩)
end Go.Proofs.Ytpehbpehlkjdiaa
