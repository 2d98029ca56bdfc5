/- The reference's over: bit by bit from the highest. -/
import Derived.Test.YtpehbpehlkjdiaaNmProd
namespace Go.Proofs.Ytpehbpehlkjdiaa
open Go.RowKit

theorem bit_low (m r : Nat) (hr : r < 32) : m % 4294967296 / 2 ^ r % 2 = m / 2 ^ r % 2 := by
  have h : (m % 2 ^ 32).testBit r = m.testBit r := by rw [Nat.testBit_mod_two_pow]; simp [hr]
  have h1 := Nat.toNat_testBit (m % 2 ^ 32) r
  have h2 := Nat.toNat_testBit m r
  rw [h] at h1
  exact h1.symm.trans h2
theorem Halves.bit {p o0 o1 o2 o3 : Nat} (h : Halves p o0 o1 o2 o3) (r : Nat) (hr : r < 32) :
    p / 2 ^ r % 2 = o0 / 2 ^ r % 2 ∧ p / 2 ^ (32 + r) % 2 = o1 / 2 ^ r % 2 ∧ p / 2 ^ (64 + r) % 2 = o2 / 2 ^ r % 2 ∧ p / 2 ^ (96 + r) % 2 = o3 / 2 ^ r % 2 := by
  obtain ⟨b0, b1, b2, b3, hs⟩ := h
  refine ⟨?_, ?_, ?_, ?_⟩
  · rw [← bit_low p r hr, show p % 4294967296 = o0 by omega]
  · rw [Nat.pow_add, ← Nat.div_div_eq_div_mul, ← bit_low _ r hr, show p / 2 ^ 32 % 4294967296 = o1 by omega]
  · rw [Nat.pow_add, ← Nat.div_div_eq_div_mul, ← bit_low _ r hr, show p / 2 ^ 64 % 4294967296 = o2 by omega]
  · rw [Nat.pow_add, ← Nat.div_div_eq_div_mul, ← bit_low _ r hr, show p / 2 ^ 96 % 4294967296 = o3 by omega]

theorem Halves.lt {p o0 o1 o2 o3 : Nat} (h : Halves p o0 o1 o2 o3) : p < 2 ^ 128 := by
  obtain ⟨b0, b1, b2, b3, hs⟩ := h
  show p < 340282366920938463463374607431768211456
  omega
theorem lt_of_block {w : World} {g : Nat} {o : Obj} (h : w.heap[g]? = some o) : g < w.heap.size := by
  rcases Nat.lt_or_ge g w.heap.size with h1 | h1
  · exact h1
  · rw [Array.getElem?_eq_none h1] at h; cases h
theorem below_drewN {B : Nat} {w w' : World} (h : Below B w w') (n : Nat) : Below B w (w'.drewN n) := ⟨h.1, h.2, h.3, h.4, h.5⟩
theorem over_next {p B : Nat} {b R O t i : Int} (hB : b = (B : Int)) (hb0 : 0 < b) (hi : 0 ≤ i) (HE : R = ((p / 2 ^ (i + 1).toNat % B : Nat) : Int) ∧ O = ((p / 2 ^ (i + 1).toNat / B : Nat) : Int)) (HT : t = ((p / 2 ^ i.toNat % 2 : Nat) : Int)) :
    (b ≤ R * 2 + t → R * 2 + t - b = ((p / 2 ^ (i - 1 + 1).toNat % B : Nat) : Int) ∧ O * 2 + 1 = ((p / 2 ^ (i - 1 + 1).toNat / B : Nat) : Int)) ∧
    (R * 2 + t < b → R * 2 + t = ((p / 2 ^ (i - 1 + 1).toNat % B : Nat) : Int) ∧ O * 2 = ((p / 2 ^ (i - 1 + 1).toNat / B : Nat) : Int)) ∧ (9223372036854775808 ≤ O → 18446744073709551616 ≤ p / B) := by
  obtain ⟨hR, hO⟩ := HE
  have e1 : (i + 1).toNat = i.toNat + 1 := by omega
  have e2 : (i - 1 + 1).toNat = i.toNat := by omega
  rw [e1] at hR hO
  rw [e2]
  have s1 := bit_step p B i.toNat (by omega)
  have s2 := bit_rest p B i.toNat (by omega)
  have g := bits_grow p B i.toNat
  generalize p / 2 ^ i.toNat % 2 = T at *
  generalize p / 2 ^ (i.toNat + 1) % B = R' at *
  generalize p / 2 ^ (i.toNat + 1) / B = O' at *
  generalize p / 2 ^ i.toNat % B = R'' at *
  generalize p / 2 ^ i.toNat / B = O'' at *
  refine ⟨?_, ?_, ?_⟩
  · intro h
    rw [if_pos (by omega)] at s1 s2
    omega
  · intro h
    rw [if_neg (by omega)] at s1 s2
    omega
  · intro h
    apply g
    split at s1 <;> omega
theorem mblk4 {w : World} {g : Nat} {t : TypeId} {a b c d : Value} (h : w.heap[g]? = some (.cells #[a, b, c, d] t (0, 0))) : w.cell? ⟨g, 0, none⟩ = some a ∧ w.cell? ⟨g, 1, none⟩ = some b ∧ w.cell? ⟨g, 2, none⟩ = some c ∧ w.cell? ⟨g, 3, none⟩ = some d := by
  simp [World.cell?, h]
set_option maxHeartbeats 2000000 in
set_option maxRecDepth 100000 in
theorem over_walk (o0 o1 o2 o3 b : Int) (p B : Nat) (w : World) (hb0 : 0 < b) (hb : b < 18446744073709551616) (HB : Hid (b = (B : Int))) (a0 : 0 ≤ o0 ∧ o0 < 4294967296) (a1 : 0 ≤ o1 ∧ o1 < 4294967296) (a2 : 0 ≤ o2 ∧ o2 < 4294967296) (a3 : 0 ≤ o3 ∧ o3 < 4294967296)
    (HO : Hid (Halves p o0.toNat o1.toNat o2.toNat o3.toNat)) :
    Calls Try.prog 28 #[.agg #[.int .u64 o0, .int .u64 o1, .int .u64 o2, .int .u64 o3], .int .u64 b] w fun e w' => (p / B < 18446744073709551616 ∧ e = .returned (.tuple #[.int .u64 ((p / B : Nat) : Int), .bool true]) ∨ 18446744073709551616 ≤ p / B ∧ e = .returned (.tuple #[.int .u64 0, .bool false])) ∧ Below w.heap.size w w' := by
  go_enter Try.func28, Try.ntmps28
  go_wp2
  go_loopw [6, 7, 8] (fun x y z wr => ∃ R O i : Int, x = .int .u64 R ∧ y = .int .u64 O ∧ z = .int .i64 i ∧ (-1 ≤ i ∧ i ≤ 127) ∧ (0 ≤ R ∧ R < b) ∧ (0 ≤ O ∧ O < 18446744073709551616) ∧ Hid (R = ((p / 2 ^ (i + 1).toNat % B : Nat) : Int) ∧ O = ((p / 2 ^ (i + 1).toNat / B : Nat) : Int)) ∧ wr.heap[w.heap.size]? = some (.cells #[.int .u64 o0, .int .u64 o1, .int .u64 o2, .int .u64 o3] 42 (0, 0)) ∧ Below w.heap.size w wr) (fun _ _ z _ => (intOf z + 1).toNat)
  case atStart =>
    refine ⟨0, 0, 127, rfl, rfl, rfl, by decide, ⟨by decide, hb0⟩, by decide, ?_, heap_alloc_new _ _, (Below.refl _ _).alloc (Nat.le_refl _) _⟩
    have := HO.out.lt
    have e : p / 2 ^ ((127 : Int) + 1).toNat = 0 := Nat.div_eq_of_lt this
    refine ⟨?_, ?_⟩
    · rw [e, Nat.zero_mod]; rfl
    · rw [e, Nat.zero_div]; rfl
  case round =>
    obtain ⟨R, O, i, rfl, rfl, rfl, hi, hR, hO, HE, hm, hbel⟩ := hrel
    obtain ⟨c0, c1, c2, c3⟩ := mblk4 hm
    by_cases hi0 : i = -1
    · have HO2 : Hid (O = ((p / B : Nat) : Int) ∧ p / B < 18446744073709551616) := by
        have := HE.out.2
        rw [hi0, show ((-1 : Int) + 1).toNat = 0 from rfl, Nat.pow_zero, Nat.div_one] at this
        exact ⟨this, by omega⟩
      subst hi0
      go_wp2
      go_ret2
      exact ⟨.inl ⟨HO2.out.2, by rw [← HO2.out.1]; rfl⟩, hbel⟩
    · have hi1 : 0 ≤ i := by omega
      obtain ⟨r, hr⟩ : ∃ r : Int, i % 32 = r := ⟨_, rfl⟩
      have hrb : 0 ≤ r ∧ r < 32 := by omega
      have HPW : Hid (∀ w, Calls Try.prog 30 #[.int .i64 r] w fun e w' => e = .returned (.int .u64 ((2 ^ r.toNat : Nat) : Int)) ∧ w' = w) := by
        intro w
        have := power_any r.toNat w (by omega)
        rw [Int.toNat_of_nonneg hrb.1] at this
        exact this
      obtain ⟨pw, hpw⟩ : ∃ pw : Int, ((2 ^ r.toNat : Nat) : Int) = pw := ⟨_, rfl⟩
      have hpwb : 1 ≤ pw ∧ pw ≤ 2147483648 := by
        have h1 : 2 ^ r.toNat ≤ 2 ^ 31 := Nat.pow_le_pow_right (by decide) (by omega)
        have h2 := Nat.two_pow_pos r.toNat
        generalize 2 ^ r.toNat = z at *
        omega
      rw [hpw] at HPW
      have htm : IntKind.i64.wrap (i.tmod 32) = r := by rw [Int.tmod_eq_emod_of_nonneg hi1, hr, IntKind.wrap_i64]; omega
      have HBT := HO.out.bit r.toNat (by omega)
      by_cases h3 : i / 32 = 3
      · have htd : IntKind.i64.wrap (i.tdiv 32) = 3 := by rw [Int.tdiv_eq_ediv_of_nonneg hi1, h3]; rfl
        obtain ⟨t, ht⟩ : ∃ t : Int, o3 / pw % 2 = t := ⟨_, rfl⟩
        have hbt : 0 ≤ o3 / pw ∧ o3 / pw ≤ o3 := ⟨Int.ediv_nonneg a3.1 (by omega), Int.ediv_le_self _ a3.1⟩
        have htb : 0 ≤ t ∧ t ≤ 1 := by omega
        have HT : Hid (t = ((p / 2 ^ i.toNat % 2 : Nat) : Int)) := by
          have e := HBT.2.2.2
          rw [show i.toNat = 96 + r.toNat by omega, e, ← ht, ← hpw]
          have : o3 = ((o3.toNat : Nat) : Int) := by omega
          rw [this]; rfl
        have NX := over_next HB.out hb0 hi1 HE.out HT.out
        by_cases hA : 9223372036854775808 ≤ O
        · have HG : Hid (18446744073709551616 ≤ p / B) := NX.2.2 hA
          clear NX HBT
          go_wp2_with fail
          go_quiet ((go_at_call 30; exact Calls.quiet_of_same (HPW.out _)))
          go_wp2
          go_ret2
          exact ⟨.inr ⟨HG.out, rfl⟩, below_drewN hbel _⟩
        · by_cases hB1 : 9223372036854775808 ≤ R
          · have hW : IntKind.u64.wrap (IntKind.u64.wrap (IntKind.u64.wrap (R * 2) + t) - b) = R * 2 + t - b := by
              rw [IntKind.wrap_u64, IntKind.wrap_u64, IntKind.wrap_u64]; omega
            have HN : Hid _ := NX.1 (by omega)
            clear NX HBT
            go_wp2_with fail
            go_quiet ((go_at_call 30; exact Calls.quiet_of_same (HPW.out _)))
            go_wp2
            go_roundw
            case rel => exact ⟨R * 2 + t - b, _, _, rfl, rfl, rfl, by omega, by omega, by omega, HN, hm, below_drewN hbel _⟩
            case measure => simp [intOf]; omega
          · by_cases hB2 : b ≤ R * 2 + t
            · have HN : Hid _ := NX.1 hB2
              clear NX HBT
              go_wp2_with fail
              go_quiet ((go_at_call 30; exact Calls.quiet_of_same (HPW.out _)))
              go_wp2
              go_roundw
              case rel => exact ⟨R * 2 + t - b, _, _, rfl, rfl, rfl, by omega, by omega, by omega, HN, hm, below_drewN hbel _⟩
              case measure => simp [intOf]; omega
            · have HN : Hid _ := NX.2.1 (by omega)
              clear NX HBT
              go_wp2_with fail
              go_quiet ((go_at_call 30; exact Calls.quiet_of_same (HPW.out _)))
              go_wp2
              go_roundw
              case rel => exact ⟨R * 2 + t, _, _, rfl, rfl, rfl, by omega, by omega, by omega, HN, hm, below_drewN hbel _⟩
              case measure => simp [intOf]; omega
      · by_cases h2 : i / 32 = 2
        · have htd : IntKind.i64.wrap (i.tdiv 32) = 2 := by rw [Int.tdiv_eq_ediv_of_nonneg hi1, h2]; rfl
          obtain ⟨t, ht⟩ : ∃ t : Int, o2 / pw % 2 = t := ⟨_, rfl⟩
          have hbt : 0 ≤ o2 / pw ∧ o2 / pw ≤ o2 := ⟨Int.ediv_nonneg a2.1 (by omega), Int.ediv_le_self _ a2.1⟩
          have htb : 0 ≤ t ∧ t ≤ 1 := by omega
          have HT : Hid (t = ((p / 2 ^ i.toNat % 2 : Nat) : Int)) := by
            have e := HBT.2.2.1
            rw [show i.toNat = 64 + r.toNat by omega, e, ← ht, ← hpw]
            have : o2 = ((o2.toNat : Nat) : Int) := by omega
            rw [this]; rfl
          have NX := over_next HB.out hb0 hi1 HE.out HT.out
          by_cases hA : 9223372036854775808 ≤ O
          · have HG : Hid (18446744073709551616 ≤ p / B) := NX.2.2 hA
            clear NX HBT
            go_wp2_with fail
            go_quiet ((go_at_call 30; exact Calls.quiet_of_same (HPW.out _)))
            go_wp2
            go_ret2
            exact ⟨.inr ⟨HG.out, rfl⟩, below_drewN hbel _⟩
          · by_cases hB1 : 9223372036854775808 ≤ R
            · have hW : IntKind.u64.wrap (IntKind.u64.wrap (IntKind.u64.wrap (R * 2) + t) - b) = R * 2 + t - b := by
                rw [IntKind.wrap_u64, IntKind.wrap_u64, IntKind.wrap_u64]; omega
              have HN : Hid _ := NX.1 (by omega)
              clear NX HBT
              go_wp2_with fail
              go_quiet ((go_at_call 30; exact Calls.quiet_of_same (HPW.out _)))
              go_wp2
              go_roundw
              case rel => exact ⟨R * 2 + t - b, _, _, rfl, rfl, rfl, by omega, by omega, by omega, HN, hm, below_drewN hbel _⟩
              case measure => simp [intOf]; omega
            · by_cases hB2 : b ≤ R * 2 + t
              · have HN : Hid _ := NX.1 hB2
                clear NX HBT
                go_wp2_with fail
                go_quiet ((go_at_call 30; exact Calls.quiet_of_same (HPW.out _)))
                go_wp2
                go_roundw
                case rel => exact ⟨R * 2 + t - b, _, _, rfl, rfl, rfl, by omega, by omega, by omega, HN, hm, below_drewN hbel _⟩
                case measure => simp [intOf]; omega
              · have HN : Hid _ := NX.2.1 (by omega)
                clear NX HBT
                go_wp2_with fail
                go_quiet ((go_at_call 30; exact Calls.quiet_of_same (HPW.out _)))
                go_wp2
                go_roundw
                case rel => exact ⟨R * 2 + t, _, _, rfl, rfl, rfl, by omega, by omega, by omega, HN, hm, below_drewN hbel _⟩
                case measure => simp [intOf]; omega
        · by_cases h1 : i / 32 = 1
          · have htd : IntKind.i64.wrap (i.tdiv 32) = 1 := by rw [Int.tdiv_eq_ediv_of_nonneg hi1, h1]; rfl
            obtain ⟨t, ht⟩ : ∃ t : Int, o1 / pw % 2 = t := ⟨_, rfl⟩
            have hbt : 0 ≤ o1 / pw ∧ o1 / pw ≤ o1 := ⟨Int.ediv_nonneg a1.1 (by omega), Int.ediv_le_self _ a1.1⟩
            have htb : 0 ≤ t ∧ t ≤ 1 := by omega
            have HT : Hid (t = ((p / 2 ^ i.toNat % 2 : Nat) : Int)) := by
              have e := HBT.2.1
              rw [show i.toNat = 32 + r.toNat by omega, e, ← ht, ← hpw]
              have : o1 = ((o1.toNat : Nat) : Int) := by omega
              rw [this]; rfl
            have NX := over_next HB.out hb0 hi1 HE.out HT.out
            by_cases hA : 9223372036854775808 ≤ O
            · have HG : Hid (18446744073709551616 ≤ p / B) := NX.2.2 hA
              clear NX HBT
              go_wp2_with fail
              go_quiet ((go_at_call 30; exact Calls.quiet_of_same (HPW.out _)))
              go_wp2
              go_ret2
              exact ⟨.inr ⟨HG.out, rfl⟩, below_drewN hbel _⟩
            · by_cases hB1 : 9223372036854775808 ≤ R
              · have hW : IntKind.u64.wrap (IntKind.u64.wrap (IntKind.u64.wrap (R * 2) + t) - b) = R * 2 + t - b := by
                  rw [IntKind.wrap_u64, IntKind.wrap_u64, IntKind.wrap_u64]; omega
                have HN : Hid _ := NX.1 (by omega)
                clear NX HBT
                go_wp2_with fail
                go_quiet ((go_at_call 30; exact Calls.quiet_of_same (HPW.out _)))
                go_wp2
                go_roundw
                case rel => exact ⟨R * 2 + t - b, _, _, rfl, rfl, rfl, by omega, by omega, by omega, HN, hm, below_drewN hbel _⟩
                case measure => simp [intOf]; omega
              · by_cases hB2 : b ≤ R * 2 + t
                · have HN : Hid _ := NX.1 hB2
                  clear NX HBT
                  go_wp2_with fail
                  go_quiet ((go_at_call 30; exact Calls.quiet_of_same (HPW.out _)))
                  go_wp2
                  go_roundw
                  case rel => exact ⟨R * 2 + t - b, _, _, rfl, rfl, rfl, by omega, by omega, by omega, HN, hm, below_drewN hbel _⟩
                  case measure => simp [intOf]; omega
                · have HN : Hid _ := NX.2.1 (by omega)
                  clear NX HBT
                  go_wp2_with fail
                  go_quiet ((go_at_call 30; exact Calls.quiet_of_same (HPW.out _)))
                  go_wp2
                  go_roundw
                  case rel => exact ⟨R * 2 + t, _, _, rfl, rfl, rfl, by omega, by omega, by omega, HN, hm, below_drewN hbel _⟩
                  case measure => simp [intOf]; omega
          · have h0 : i / 32 = 0 := by omega
            have htd : IntKind.i64.wrap (i.tdiv 32) = 0 := by rw [Int.tdiv_eq_ediv_of_nonneg hi1, h0]; rfl
            obtain ⟨t, ht⟩ : ∃ t : Int, o0 / pw % 2 = t := ⟨_, rfl⟩
            have hbt : 0 ≤ o0 / pw ∧ o0 / pw ≤ o0 := ⟨Int.ediv_nonneg a0.1 (by omega), Int.ediv_le_self _ a0.1⟩
            have htb : 0 ≤ t ∧ t ≤ 1 := by omega
            have HT : Hid (t = ((p / 2 ^ i.toNat % 2 : Nat) : Int)) := by
              have e := HBT.1
              rw [show i.toNat = r.toNat by omega, e, ← ht, ← hpw]
              have : o0 = ((o0.toNat : Nat) : Int) := by omega
              rw [this]; rfl
            have NX := over_next HB.out hb0 hi1 HE.out HT.out
            by_cases hA : 9223372036854775808 ≤ O
            · have HG : Hid (18446744073709551616 ≤ p / B) := NX.2.2 hA
              clear NX HBT
              go_wp2_with fail
              go_quiet ((go_at_call 30; exact Calls.quiet_of_same (HPW.out _)))
              go_wp2
              go_ret2
              exact ⟨.inr ⟨HG.out, rfl⟩, below_drewN hbel _⟩
            · by_cases hB1 : 9223372036854775808 ≤ R
              · have hW : IntKind.u64.wrap (IntKind.u64.wrap (IntKind.u64.wrap (R * 2) + t) - b) = R * 2 + t - b := by
                  rw [IntKind.wrap_u64, IntKind.wrap_u64, IntKind.wrap_u64]; omega
                have HN : Hid _ := NX.1 (by omega)
                clear NX HBT
                go_wp2_with fail
                go_quiet ((go_at_call 30; exact Calls.quiet_of_same (HPW.out _)))
                go_wp2
                go_roundw
                case rel => exact ⟨R * 2 + t - b, _, _, rfl, rfl, rfl, by omega, by omega, by omega, HN, hm, below_drewN hbel _⟩
                case measure => simp [intOf]; omega
              · by_cases hB2 : b ≤ R * 2 + t
                · have HN : Hid _ := NX.1 hB2
                  clear NX HBT
                  go_wp2_with fail
                  go_quiet ((go_at_call 30; exact Calls.quiet_of_same (HPW.out _)))
                  go_wp2
                  go_roundw
                  case rel => exact ⟨R * 2 + t - b, _, _, rfl, rfl, rfl, by omega, by omega, by omega, HN, hm, below_drewN hbel _⟩
                  case measure => simp [intOf]; omega
                · have HN : Hid _ := NX.2.1 (by omega)
                  clear NX HBT
                  go_wp2_with fail
                  go_quiet ((go_at_call 30; exact Calls.quiet_of_same (HPW.out _)))
                  go_wp2
                  go_roundw
                  case rel => exact ⟨R * 2 + t, _, _, rfl, rfl, rfl, by omega, by omega, by omega, HN, hm, below_drewN hbel _⟩
                  case measure => simp [intOf]; omega
end Go.Proofs.Ytpehbpehlkjdiaa
