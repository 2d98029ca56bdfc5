/- math/bits.Div64: a number of 128 bits over one of 64. -/
import Derived.Test.YtpehbpehlkjdiaaProg
import Derived.Test.YtpehbpehlkjdiaaNmLen
import Derived.Test.YtpehbpehlkjdiaaNmMath
import Derived.Test.YtpehbpehlkjdiaaNmBits
import Derived.WalkKit
import Derived.WalkSpells
import Derived.WalkLawsBesides
import Derived.BigQuiet
import Derived.Deep.CutBlock
import Derived.Deep.DeepCutAuto
namespace Go.Proofs.Ytpehbpehlkjdiaa
open Go.RowKit

theorem ret2' {k k' : IntKind} {a b a' b' : Int} (h : a = a') (h' : b = b') : Ending.returned (.tuple #[.int k a, .int k' b]) = .returned (.tuple #[.int k a', .int k' b']) := by rw [h, h']
set_option maxRecDepth 100000 in
theorem div64_small (lo y : Nat) (w : World) (hl : lo < 18446744073709551616) (hy0 : 0 < y) (hy : y < 18446744073709551616) :
    Calls Try.prog 27 #[.int .u64 0, .int .u64 lo, .int .u64 y] w fun e w' => (∃ r : Int, e = .returned (.tuple #[.int .u64 ((lo / y : Nat) : Int), .int .u64 r])) ∧ Below w.heap.size w w' := by
  have hq1 : lo / y ≤ lo := Nat.div_le_self _ _
  have ht : IntKind.u64.wrap ((lo : Int).tdiv (y : Int)) = ((lo / y : Nat) : Int) := by
    rw [show (lo : Int).tdiv (y : Int) = ((lo / y : Nat) : Int) from Int.ofNat_tdiv lo y]; exact m_wrap _ (by omega)
  go_enter Try.func27, Try.ntmps27
  go_wp2
  go_region
  go_wp2
  go_ret2
  exact ⟨⟨_, ret2' ht rfl⟩, (Below.refl _ _).drew⟩

/-- The digits of a division by halves: what stands ahead of the loops. -/
structure Split (hi lo y : Int) (s : Nat) (V v1 v0 U u1 u0 : Int) : Prop where
  e1 : IntKind.u64.wrap (y * 2 ^ s) = V
  e2 : bits .and .u64 V 4294967295 = v0
  e3 : V / 4294967296 = v1
  e6 : bits .or .u64 (IntKind.u64.wrap (hi * 2 ^ s)) (lo / 2 ^ (64 - s)) = U
  e7 : IntKind.u64.wrap (lo * 2 ^ s) / 4294967296 = u1
  e8 : bits .and .u64 (IntKind.u64.wrap (lo * 2 ^ s)) 4294967295 = u0
  q : IntKind.u64.wrap (U.tdiv v1) = U / v1
  r : IntKind.u64.wrap (U - IntKind.u64.wrap ((U / v1) * v1)) = U % v1
  hV : v1 * 4294967296 + v0 = V
  v1b : 2147483648 ≤ v1 ∧ v1 < 4294967296
  v0b : 0 ≤ v0 ∧ v0 < 4294967296
  u1b : 0 ≤ u1 ∧ u1 < 4294967296
  u0b : 0 ≤ u0 ∧ u0 < 4294967296
  UV : 0 ≤ U ∧ U < V
theorem Split.first {hi lo y : Int} {s : Nat} {V v1 v0 U u1 u0 : Int} (S : Split hi lo y s V v1 v0 U u1 u0) : (U / v1) * v1 + U % v1 = U ∧ (U * 4294967296 + u1) / V ≤ U / v1 ∧ (0 ≤ U / v1 ∧ U / v1 ≤ 4294967297) ∧ 0 ≤ U % v1 ∧ U % v1 < 4294967296 := by
  obtain ⟨h1, h2⟩ := S.v1b
  obtain ⟨h3, h4⟩ := S.v0b
  obtain ⟨h5, h6⟩ := S.u1b
  obtain ⟨h7, h8⟩ := S.UV
  have h := digit_first (u0 := u1) h1 h3 h4 h7 (by rw [S.hV]; exact h8) h5 h6
  rw [S.hV] at h
  have h9 := Int.emod_lt_of_pos U (show 0 < v1 by omega)
  refine ⟨by rw [Int.mul_comm]; exact Int.mul_ediv_add_emod U v1, h.1, ⟨Int.ediv_nonneg h7 (by omega), h.2⟩, Int.emod_nonneg _ (by omega), by omega⟩
theorem wrapI {x : Int} (h : 0 ≤ x) (h' : x < 18446744073709551616) : IntKind.u64.wrap x = x := by rw [IntKind.wrap_u64]; omega
theorem quoI {U v1 : Int} (hv : 0 ≤ v1) (hv' : 0 < v1) (h : 0 ≤ U) (h' : U < 18446744073709551616) : IntKind.u64.wrap (U.tdiv v1) = U / v1 ∧ IntKind.u64.wrap (U - IntKind.u64.wrap ((U / v1) * v1)) = U % v1 := by
  have h1 : 0 ≤ U / v1 := Int.ediv_nonneg h hv
  have h2 : U / v1 ≤ U := Int.ediv_le_self _ h
  have h3 := Int.mul_ediv_add_emod U v1
  have h4 := Int.emod_nonneg U (Int.ne_of_gt hv')
  rw [Int.tdiv_eq_ediv_of_nonneg h, wrapI h1 (by omega)]
  rw [Int.mul_comm] at h3
  have h5 : 0 ≤ U / v1 * v1 := Int.mul_nonneg h1 hv
  generalize U / v1 * v1 = A at *
  generalize U % v1 = R at *
  refine ⟨rfl, ?_⟩
  rw [wrapI h5 (by omega), wrapI (by omega) (by omega)]
  omega
/-- The rest of the first digit, and the second digit's first guess. -/
structure Second (V v1 v0 U u1 u0 D1 R1 : Int) : Prop where
  d : D1 = (U * 4294967296 + u1) / V
  r1 : IntKind.u64.wrap (IntKind.u64.wrap (IntKind.u64.wrap (U * 4294967296) + u1) - IntKind.u64.wrap (D1 * V)) = R1
  q : IntKind.u64.wrap (R1.tdiv v1) = R1 / v1
  r : IntKind.u64.wrap (R1 - IntKind.u64.wrap ((R1 / v1) * v1)) = R1 % v1
  rb : 0 ≤ R1 ∧ R1 < V
  first : (R1 / v1) * v1 + R1 % v1 = R1 ∧ (R1 * 4294967296 + u0) / V ≤ R1 / v1 ∧ (0 ≤ R1 / v1 ∧ R1 / v1 ≤ 4294967297) ∧ 0 ≤ R1 % v1 ∧ R1 % v1 < 4294967296
  all : IntKind.u64.wrap (IntKind.u64.wrap (D1 * 4294967296) + (R1 * 4294967296 + u0) / V) = ((U * 4294967296 + u1) * 4294967296 + u0) / V
theorem second_of {hi lo y : Int} {s : Nat} {V v1 v0 U u1 u0 : Int} (S : Split hi lo y s V v1 v0 U u1 u0) (hV : V < 18446744073709551616) :
    Second V v1 v0 U u1 u0 ((U * 4294967296 + u1) / V) ((U * 4294967296 + u1) % V) := by
  obtain ⟨h1, h2⟩ := S.v1b
  obtain ⟨h3, h4⟩ := S.v0b
  obtain ⟨h5, h6⟩ := S.u1b
  obtain ⟨h7, h8⟩ := S.UV
  obtain ⟨h9, h10⟩ := S.u0b
  have hp : 0 < V := by omega
  have hd0 : 0 ≤ (U * 4294967296 + u1) / V := Int.ediv_nonneg (by omega) (by omega)
  have hd1 := digit_lt hp h8 h6
  have e := Int.mul_ediv_add_emod (U * 4294967296 + u1) V
  have t := two_digits (U * 4294967296 + u1) u0 V hp
  have r0 := Int.emod_nonneg (U * 4294967296 + u1) (Int.ne_of_gt hp)
  have r1 := Int.emod_lt_of_pos (U * 4294967296 + u1) hp
  refine ⟨rfl, ?_, ?_, ?_, ⟨r0, r1⟩, ?_, ?_⟩
  · rw [Int.mul_comm V] at e
    clear t hd0 hd1
    generalize (U * 4294967296 + u1) / V * V = A at *
    generalize (U * 4294967296 + u1) % V = R at *
    rw [IntKind.wrap_u64, IntKind.wrap_u64, IntKind.wrap_u64, IntKind.wrap_u64]
    omega
  · exact (quoI (by omega) (by omega) r0 (by omega)).1
  · exact (quoI (by omega) (by omega) r0 (by omega)).2
  · generalize (U * 4294967296 + u1) % V = R at *
    have h := digit_first (u1 := R) (u0 := u0) h1 h3 h4 r0 (by rw [S.hV]; exact r1) h9 h10
    rw [S.hV] at h
    have h9 := Int.emod_lt_of_pos R (show 0 < v1 by omega)
    refine ⟨by rw [Int.mul_comm]; exact Int.mul_ediv_add_emod R v1, h.1, ⟨Int.ediv_nonneg r0 (by omega), h.2⟩, Int.emod_nonneg _ (by omega), by omega⟩
  · have hd2 := digit_lt (u0 := u0) hp r1 h10
    have hd3 : 0 ≤ ((U * 4294967296 + u1) % V * 4294967296 + u0) / V := Int.ediv_nonneg (by omega) (by omega)
    rw [← t]
    clear t e
    generalize ((U * 4294967296 + u1) % V * 4294967296 + u0) / V = B at *
    generalize (U * 4294967296 + u1) / V = A at *
    rw [IntKind.wrap_u64, IntKind.wrap_u64]
    omega

theorem split_of (hi lo y s p c : Nat) (hp : 2 ^ s = p) (hc : 2 ^ (64 - s) = c) (hpc : c * p = 18446744073709551616) (hy : y < c) (hy2 : c ≤ 2 * y) (hh : hi < y) (hl : lo < 18446744073709551616) (hp0 : 0 < p) :
    ∃ V v1 v0 U u1 u0 : Int, V < 18446744073709551616 ∧ Split hi lo y s V v1 v0 U u1 u0 ∧ ((U * 4294967296 + u1) * 4294967296 + u0) / V = (((hi * 18446744073709551616 + lo) / y : Nat) : Int) := by
  have hVlt : y * p < 18446744073709551616 := by rw [← hpc]; exact Nat.mul_lt_mul_of_pos_right hy hp0
  have hVge : 18446744073709551616 ≤ 2 * (y * p) := by rw [← hpc, ← Nat.mul_assoc]; exact Nat.mul_le_mul_right _ hy2
  have hH : hi * p + p ≤ y * p := by rw [← Nat.succ_mul]; exact Nat.mul_le_mul_right _ hh
  have hQ : lo / c < p := by rw [Nat.div_lt_iff_lt_mul (by omega), Nat.mul_comm, hpc]; exact hl
  have hQ2 : lo * p / 18446744073709551616 = lo / c := by rw [← hpc]; exact Nat.mul_div_mul_right lo c hp0
  have hall : (hi * 18446744073709551616 + lo) / y = (hi * p * 18446744073709551616 + lo * p) / (y * p) := by
    rw [← Nat.mul_div_mul_right _ y hp0, Nat.add_mul, Nat.mul_right_comm]
  have hpI : ((2 : Int) ^ s) = (p : Int) := by rw [← hp]; exact (Int.natCast_pow 2 s).symm
  have hcI : ((2 : Int) ^ (64 - s)) = (c : Int) := by rw [← hc]; exact (Int.natCast_pow 2 (64 - s)).symm
  have hor : bits .or .u64 ((hi * p : Nat) : Int) ((lo / c : Nat) : Int) = ((hi * p + lo / c : Nat) : Int) := by
    rw [bits_or_u64_nat _ _ (by omega) (by omega)]
    rw [← hp] at hQ ⊢
    rw [Nat.mul_comm, Nat.two_pow_add_eq_or_of_lt hQ]
  refine ⟨((y * p : Nat) : Int), ((y * p / 4294967296 : Nat) : Int), ((y * p % 4294967296 : Nat) : Int), ((hi * p + lo / c : Nat) : Int), ((lo * p % 18446744073709551616 / 4294967296 : Nat) : Int), ((lo * p % 18446744073709551616 % 4294967296 : Nat) : Int), by omega, ⟨?_, ?_, ?_, ?_, ?_, ?_, ?_, ?_, ?_, ?_, ?_, ?_, ?_, ?_⟩, ?_⟩
  · rw [hpI, m_mul, m_wrap _ hVlt]
  · exact m_mask _ hVlt
  · exact m_div _
  · rw [hpI, hcI, m_mul, m_wrap _ (by omega), show (lo : Int) / (c : Int) = ((lo / c : Nat) : Int) from rfl]; exact hor
  · rw [hpI, m_mul, m_mod]; exact m_div _
  · rw [hpI, m_mul, m_mod]; exact m_mask _ (Nat.mod_lt _ (by omega))
  · exact (quoI (by omega) (by omega) (by omega) (by omega)).1
  · exact (quoI (by omega) (by omega) (by omega) (by omega)).2
  · omega
  · omega
  · omega
  · omega
  · omega
  · omega
  · rw [hall]
    rw [← hQ2]
    generalize lo * p = X at *
    generalize hi * p = H at *
    generalize y * p = V at *
    have e : ((((H + X / 18446744073709551616 : Nat) : Int) * 4294967296 + ((X % 18446744073709551616 / 4294967296 : Nat) : Int)) * 4294967296 + ((X % 18446744073709551616 % 4294967296 : Nat) : Int)) = ((H * 18446744073709551616 + X : Nat) : Int) := by omega
    rw [e]; rfl
set_option maxRecDepth 100000 in
theorem div64_great (hi lo y : Int) (s : Nat) (V v1 v0 U u1 u0 : Int) (w : World) (hh0 : 0 < hi) (hh : hi < y) (hy : y < 18446744073709551616) (hB : 64 - bitLen y.toNat = s) (hs : s ≤ 64)
    (S : Split hi lo y s V v1 v0 U u1 u0) (D1 R1 : Int) (Z : Second V v1 v0 U u1 u0 D1 R1) :
    Calls Try.prog 27 #[.int .u64 hi, .int .u64 lo, .int .u64 y] w fun e w' => (∃ r : Int, e = .returned (.tuple #[.int .u64 (((U * 4294967296 + u1) * 4294967296 + u0) / V), .int .u64 r])) ∧ w' = w := by
  have HX : Hid (0 ≤ y ∧ y < 18446744073709551616) := ⟨by omega, by omega⟩
  have HP : Hid (0 < V) := Int.lt_of_le_of_lt S.UV.1 S.UV.2
  go_enter Try.func27, Try.ntmps27
  go_upto_block 0 with (go_at_call 29; refine (lead64_any _ _ HX.out.1 HX.out.2).mono ?_; rintro e w1 ⟨rfl, rfl⟩; rw [hB])
  · exfalso
    rename_i h
    rw [S.e1, S.e3] at h
    have := S.v1b
    omega
  simp only [S.e1, S.e2, S.e3, S.e6, S.e7, S.e8, S.q, S.r]
  go_cut [15] (fun q wx => q = .int .u64 D1 ∧ wx = w1)
  case first =>
    go_wp2_with fail
    go_loop [15, 16] (fun a b => ∃ q r : Int, a = .int .u64 q ∧ b = .int .u64 r ∧ q * v1 + r = U ∧ (U * 4294967296 + u1) / V ≤ q ∧ (0 ≤ q ∧ q ≤ 4294967297) ∧ 0 ≤ r ∧ r < 4294967296) (fun a _ => (intOf a).toNat)
    case atStart => exact ⟨_, _, rfl, rfl, S.first⟩
    case round =>
      obtain ⟨q, r, rfl, rfl, he, hd, ⟨hq0, hq⟩, hr0, hr⟩ := hrel
      have HE : Hid (q * v1 + r = U ∧ (U * 4294967296 + u1) / V ≤ q) := ⟨he, hd⟩
      have hv1 := S.v1b
      have hv0 := S.v0b
      have hu1 := S.u1b
      clear he hd
      by_cases hc : 4294967296 ≤ q
      · go_wp2
        · go_meet
          exact ⟨congrArg (Value.int .u64) (Z.d ▸ dig_break S.hV HP.out HE.out S.UV.2 S.u1b.1 S.u1b.2 hv0.1 hv0.2 hq (by assumption) (.inl hc)), rfl⟩
        · go_round
          case rel => exact ⟨_, _, rfl, rfl, (dig_dec S.hV HP.out HE.out S.UV.2 S.u1b.2 (.inl hc)).1, (dig_dec S.hV HP.out HE.out S.UV.2 S.u1b.2 (.inl hc)).2, ⟨by omega, by omega⟩, by omega, by omega⟩
          case measure => simp [intOf]; omega
      · obtain ⟨P, hP⟩ : ∃ P : Int, q * v0 = P := ⟨_, rfl⟩
        have hPb : 0 ≤ P ∧ P ≤ 18446744065119617025 := by
          rw [← hP]
          exact prod_bound q v0 hq0 (by omega) hv0.1 (by omega)
        by_cases ht : 4294967296 * r + u1 < P
        · have hq1 : 1 ≤ q := by
            by_cases h : q = 0
            · rw [h, Int.zero_mul] at hP; omega
            · omega
          have HT : Hid (4294967296 * r + u1 < q * v0) := by rw [hP]; exact ht
          go_wp2
          · go_meet
            exact ⟨congrArg (Value.int .u64) (Z.d ▸ dig_break S.hV HP.out HE.out S.UV.2 S.u1b.1 S.u1b.2 hv0.1 hv0.2 hq (by assumption) (.inr HT.out)), rfl⟩
          · go_round
            case rel => exact ⟨_, _, rfl, rfl, (dig_dec S.hV HP.out HE.out S.UV.2 S.u1b.2 (.inr HT.out)).1, (dig_dec S.hV HP.out HE.out S.UV.2 S.u1b.2 (.inr HT.out)).2, ⟨by omega, by omega⟩, by omega, by omega⟩
            case measure => simp [intOf]; omega
        · have HT : Hid (q * v0 ≤ 4294967296 * r + u1) := by rw [hP]; exact Int.not_lt.mp ht
          go_wp2
          go_meet
          exact ⟨congrArg (Value.int .u64) (Z.d ▸ dig_stop S.hV HP.out HE.out HT.out), rfl⟩
  case rest =>
    obtain ⟨rfl, rfl⟩ := hcut
    go_upto_block 2 with fail
    · exfalso
      have := S.v1b
      omega
    simp only [Z.r1, Z.q, Z.r]
    go_cut [18] (fun q wx => q = .int .u64 ((R1 * 4294967296 + u0) / V) ∧ wx = wc)
    case first =>
      go_wp2_with fail
      go_loop [18, 16] (fun a b => ∃ q r : Int, a = .int .u64 q ∧ b = .int .u64 r ∧ q * v1 + r = R1 ∧ (R1 * 4294967296 + u0) / V ≤ q ∧ (0 ≤ q ∧ q ≤ 4294967297) ∧ 0 ≤ r ∧ r < 4294967296) (fun a _ => (intOf a).toNat)
      case atStart => exact ⟨_, _, rfl, rfl, Z.first⟩
      case round =>
        obtain ⟨q, r, rfl, rfl, he, hd, ⟨hq0, hq⟩, hr0, hr⟩ := hrel
        have HE : Hid (q * v1 + r = R1 ∧ (R1 * 4294967296 + u0) / V ≤ q) := ⟨he, hd⟩
        have hv1 := S.v1b
        have hv0 := S.v0b
        have hu1 := S.u0b
        clear he hd
        by_cases hc : 4294967296 ≤ q
        · go_wp2
          · go_meet
            exact ⟨congrArg (Value.int .u64) (dig_break S.hV HP.out HE.out Z.rb.2 S.u0b.1 S.u0b.2 hv0.1 hv0.2 hq (by assumption) (.inl hc)), rfl⟩
          · go_round
            case rel => exact ⟨_, _, rfl, rfl, (dig_dec S.hV HP.out HE.out Z.rb.2 S.u0b.2 (.inl hc)).1, (dig_dec S.hV HP.out HE.out Z.rb.2 S.u0b.2 (.inl hc)).2, ⟨by omega, by omega⟩, by omega, by omega⟩
            case measure => simp [intOf]; omega
        · obtain ⟨P, hP⟩ : ∃ P : Int, q * v0 = P := ⟨_, rfl⟩
          have hPb : 0 ≤ P ∧ P ≤ 18446744065119617025 := by
            rw [← hP]
            exact prod_bound q v0 hq0 (by omega) hv0.1 (by omega)
          by_cases ht : 4294967296 * r + u0 < P
          · have hq1 : 1 ≤ q := by
              by_cases h : q = 0
              · rw [h, Int.zero_mul] at hP; omega
              · omega
            have HT : Hid (4294967296 * r + u0 < q * v0) := by rw [hP]; exact ht
            go_wp2
            · go_meet
              exact ⟨congrArg (Value.int .u64) (dig_break S.hV HP.out HE.out Z.rb.2 S.u0b.1 S.u0b.2 hv0.1 hv0.2 hq (by assumption) (.inr HT.out)), rfl⟩
            · go_round
              case rel => exact ⟨_, _, rfl, rfl, (dig_dec S.hV HP.out HE.out Z.rb.2 S.u0b.2 (.inr HT.out)).1, (dig_dec S.hV HP.out HE.out Z.rb.2 S.u0b.2 (.inr HT.out)).2, ⟨by omega, by omega⟩, by omega, by omega⟩
              case measure => simp [intOf]; omega
          · have HT : Hid (q * v0 ≤ 4294967296 * r + u0) := by rw [hP]; exact Int.not_lt.mp ht
            go_wp2
            go_meet
            exact ⟨congrArg (Value.int .u64) (dig_stop S.hV HP.out HE.out HT.out), rfl⟩
    case rest =>
      obtain ⟨rfl, rfl⟩ := hcut
      go_wp2
      go_ret2
      exact ⟨⟨_, ret2' Z.all rfl⟩, rfl⟩
theorem div64_any (hi lo y : Nat) (w : World) (hh : hi < y) (hl : lo < 18446744073709551616) (hy : y < 18446744073709551616) :
    Calls Try.prog 27 #[.int .u64 (hi : Int), .int .u64 (lo : Int), .int .u64 (y : Int)] w fun e w' => (∃ r : Int, e = .returned (.tuple #[.int .u64 (((hi * 18446744073709551616 + lo) / y : Nat) : Int), .int .u64 r])) ∧ Below w.heap.size w w' := by
  by_cases h0 : hi = 0
  · subst h0
    have := div64_small lo y w hl hh hy
    simpa using this
  · obtain ⟨h1, h2⟩ := bitLen_spec y
    have h3 := bitLen_le64 y hy
    have h4 := h2 (by omega)
    have h5 : 0 < bitLen y := by
      rcases Nat.eq_zero_or_pos (bitLen y) with h | h
      · rw [h] at h1; omega
      · exact h
    obtain ⟨V, v1, v0, U, u1, u0, hV, S, hall⟩ := split_of hi lo y (64 - bitLen y) (2 ^ (64 - bitLen y)) (2 ^ bitLen y) rfl (by congr 1; omega)
      (by rw [← Nat.pow_add, show bitLen y + (64 - bitLen y) = 64 by omega]) h1 (by
        have : 2 ^ bitLen y = 2 * 2 ^ (bitLen y - 1) := by rw [← Nat.pow_succ']; congr 1; omega
        omega) hh hl (Nat.two_pow_pos _)
    have := div64_great hi lo y (64 - bitLen y) V v1 v0 U u1 u0 w (by omega) (by omega) (by omega) (by rw [Int.toNat_natCast]) (by omega) S _ _ (second_of S hV)
    rw [hall] at this
    exact this.mono fun e w' ⟨h, h'⟩ => ⟨h, h' ▸ Below.refl _ _⟩
end Go.Proofs.Ytpehbpehlkjdiaa
