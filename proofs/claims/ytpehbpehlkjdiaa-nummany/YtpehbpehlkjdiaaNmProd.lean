/- The reference's product, power and over. -/
import Derived.Test.YtpehbpehlkjdiaaNmBack
import Derived.BigQuiet
import Derived.Handy
import Derived.LoopN
import Derived.Deep.CutBlock
import Derived.Deep.DeepCutAuto
namespace Go.Proofs.Ytpehbpehlkjdiaa
open Go.RowKit
theorem power_any (n : Nat) (w : World) (hn : n < 64) :
    Calls Try.prog 30 #[.int .i64 (n : Int)] w fun e w' => e = .returned (.int .u64 ((2 ^ n : Nat) : Int)) ∧ w' = w := by
  go_enter Try.func30, Try.ntmps30
  go_wp2
  go_loop [3, 4] (fun c i => ∃ k : Nat, k ≤ n ∧ i = .int .i64 k ∧ c = .int .u64 ((2 ^ k : Nat) : Int)) (fun _ i => n - (intOf i).toNat)
  case atStart => exact ⟨0, Nat.zero_le _, rfl, rfl⟩
  case round =>
    obtain ⟨k, hk, rfl, rfl⟩ := hrel
    obtain ⟨p, hp⟩ : ∃ p : Int, ((2 ^ k : Nat) : Int) = p := ⟨_, rfl⟩
    by_cases hlt : k < n
    · have hp1 : 0 ≤ p ∧ p < 9223372036854775808 := by
        have : 2 ^ k < 2 ^ 63 := Nat.pow_lt_pow_right (by decide) (by omega)
        generalize 2 ^ k = z at *
        omega
      rw [hp]
      have HP : Hid (((2 ^ (k + 1) : Nat) : Int) = p * 2) := by rw [← hp, Nat.pow_succ]; exact Int.natCast_mul _ _
      clear hp
      go_wp2
      go_round
      case rel => exact ⟨k + 1, by omega, by go_num, by rw [HP.out]⟩
      case measure => simp [intOf]; omega
    · have : k = n := by omega
      subst this
      go_wp2
      go_ret
      exact ⟨rfl, rfl⟩
set_option maxRecDepth 100000 in
theorem product_walk (a b x0 x1 y0 y1 p00 p01 p10 p11 : Int) (w : World) (ha0 : 0 ≤ a) (ha : a < 18446744073709551616) (hb0 : 0 ≤ b) (hb : b < 18446744073709551616)
    (hx0 : a % 4294967296 = x0) (hx1 : a / 4294967296 = x1) (hy0 : b % 4294967296 = y0) (hy1 : b / 4294967296 = y1)
    (h00 : x0 * y0 = p00) (h01 : x0 * y1 = p01) (h10 : x1 * y0 = p10) (h11 : x1 * y1 = p11)
    (b00 : 0 ≤ p00 ∧ p00 ≤ 18446744065119617025) (b01 : 0 ≤ p01 ∧ p01 ≤ 18446744065119617025) (b10 : 0 ≤ p10 ∧ p10 ≤ 18446744065119617025) (b11 : 0 ≤ p11 ∧ p11 ≤ 18446744065119617025) :
    Calls Try.prog 24 #[.int .u64 a, .int .u64 b] w fun e w' => (∃ o0 o1 o2 o3 : Int, e = .returned (.agg #[.int .u64 o0, .int .u64 o1, .int .u64 o2, .int .u64 o3]) ∧ (0 ≤ o0 ∧ o0 < 4294967296 ∧ 0 ≤ o1 ∧ o1 < 4294967296 ∧ 0 ≤ o2 ∧ o2 < 4294967296 ∧ 0 ≤ o3 ∧ o3 < 4294967296) ∧ o0 + o1 * 4294967296 + o2 * 18446744073709551616 + o3 * 79228162514264337593543950336 = p11 * 18446744073709551616 + (p10 + p01) * 4294967296 + p00) ∧ Below w.heap.size w w' := by
  go_enter Try.func24, Try.ntmps24
  go_wp2
  refine wp_loop_rounds 3 ?_
  rw [rounds_succ]; go_wp2
  refine wp_loop_rounds 3 ?_
  rw [rounds_succ]; go_wp2
  go_region
  go_wp2
  rw [rounds_succ]; go_wp2
  go_region
  go_wp2
  rw [rounds_succ]; go_wp2
  rw [rounds_succ]; go_wp2
  refine wp_loop_rounds 3 ?_
  rw [rounds_succ]; go_wp2
  go_region
  go_wp2
  rw [rounds_succ]; go_wp2
  go_region
  go_wp2
  rw [rounds_succ]; go_wp2
  rw [rounds_succ]; go_wp2
  go_returns
  refine ⟨⟨_, _, _, _, rfl, ?_, ?_⟩, by go_grown⟩
  · clear h00 h01 h10 h11
    omega
  · clear h00 h01 h10 h11 hx0 hx1 hy0 hy1
    omega

/-- The reference's product: its four halves. -/
structure Halves (p o0 o1 o2 o3 : Nat) : Prop where
  b0 : o0 < 4294967296
  b1 : o1 < 4294967296
  b2 : o2 < 4294967296
  b3 : o3 < 4294967296
  sum : o0 + o1 * 4294967296 + o2 * 18446744073709551616 + o3 * 79228162514264337593543950336 = p
theorem product_any (a b : Nat) (w : World) (ha : a < 18446744073709551616) (hb : b < 18446744073709551616) :
    Calls Try.prog 24 #[.int .u64 (a : Int), .int .u64 (b : Int)] w fun e w' => (∃ o0 o1 o2 o3 : Nat, e = .returned (.agg #[.int .u64 (o0 : Int), .int .u64 (o1 : Int), .int .u64 (o2 : Int), .int .u64 (o3 : Int)]) ∧ Halves (a * b) o0 o1 o2 o3) ∧ Below w.heap.size w w' := by
  have hA : (a : Int) = (a : Int) / 4294967296 * 4294967296 + (a : Int) % 4294967296 := by omega
  have hB : (b : Int) = (b : Int) / 4294967296 * 4294967296 + (b : Int) % 4294967296 := by omega
  have hs : (a : Int) * (b : Int) = (a : Int) / 4294967296 * ((b : Int) / 4294967296) * 18446744073709551616 + ((a : Int) / 4294967296 * ((b : Int) % 4294967296) + (a : Int) % 4294967296 * ((b : Int) / 4294967296)) * 4294967296 + (a : Int) % 4294967296 * ((b : Int) % 4294967296) := by
    rw [← split_mul, ← hA, ← hB]
  refine (product_walk a b _ _ _ _ _ _ _ _ w (by omega) (by omega) (by omega) (by omega) rfl rfl rfl rfl rfl rfl rfl rfl
    (prod_bound _ _ (by omega) (by omega) (by omega) (by omega)) (prod_bound _ _ (by omega) (by omega) (by omega) (by omega)) (prod_bound _ _ (by omega) (by omega) (by omega) (by omega)) (prod_bound _ _ (by omega) (by omega) (by omega) (by omega))).mono ?_
  rintro e w' ⟨⟨o0, o1, o2, o3, rfl, hb, h⟩, hbel⟩
  refine ⟨⟨o0.toNat, o1.toNat, o2.toNat, o3.toNat, ?_, ?_⟩, hbel⟩
  · rw [Int.toNat_of_nonneg (by omega), Int.toNat_of_nonneg (by omega), Int.toNat_of_nonneg (by omega), Int.toNat_of_nonneg (by omega)]
  · rw [← hs, ← Int.natCast_mul] at h
    generalize a * b = p at *
    exact ⟨by omega, by omega, by omega, by omega, by omega⟩
end Go.Proofs.Ytpehbpehlkjdiaa
