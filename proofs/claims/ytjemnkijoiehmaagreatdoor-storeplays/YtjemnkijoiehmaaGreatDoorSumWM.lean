import Derived.Test.YtjemnkijoiehmaaGreatDoorProg
import Derived.Test.YtjemnkijoiehmaaGreatDoorCrcM
import Derived.WalkKit
import Derived.WalkSpells
import Derived.WalkLawsBesides
/- What the two sums of bytes return: the CRC of the bytes; the world stands. -/
namespace Go.Proofs.YtjemnkijoiehmaaGreatDoor
open Go.RowKit

theorem xor_byte (x : Nat) (b : UInt8) (hx : x < 4294967296) : bits .xor .u32 (x : Int) ((b.toNat : Int) % 4294967296) = ((x ^^^ b.toNat : Nat) : Int) := by
  have hb := b.toNat_lt
  have e : ((b.toNat : Int) % 4294967296) = ((b.toNat : Nat) : Int) := by omega
  rw [e]; exact u32_xor_nat x b.toNat hx (by omega)
theorem stepN_odd {x : Nat} (hx : x < 4294967296) (h : x % 2 = 1) : bits .xor .u32 (((x / 2 : Nat)) : Int) 3988292384 = ((stepN x : Nat) : Int) := by
  have := u32_xor_nat (x / 2) 3988292384 (by omega) (by decide)
  unfold stepN; rw [if_pos h]; exact this
theorem stepN_even {x : Nat} (h : ¬ x % 2 = 1) : stepN x = x / 2 := by unfold stepN; rw [if_neg h]
theorem and_one (x : Nat) (hx : x < 4294967296) : bits .and .u32 (x : Int) 1 = ((x % 2 : Nat) : Int) := by
  have := u32_and_nat x 1 hx (by decide)
  rw [nat_mask1] at this; exact this

theorem not_u32 (x : Nat) (hx : x < 4294967296) : bits .xor .u32 IntKind.u32.max (x : Int) = ((4294967295 - x : Nat) : Int) := by
  have e : IntKind.u32.max = ((4294967295 : Nat) : Int) := by decide
  rw [e, u32_xor_nat 4294967295 x (by decide) hx]
  congr 1
  apply Nat.eq_of_testBit_eq
  intro i
  rw [show 4294967295 - x = 2 ^ 32 - (x + 1) by omega, Nat.testBit_two_pow_sub_succ hx]
  rw [Nat.testBit_xor, show (4294967295 : Nat) = 2 ^ 32 - 1 by decide, Nat.testBit_two_pow_sub_one]
  by_cases hi : i < 32
  · simp [hi]
  · have : x.testBit i = false := Nat.testBit_lt_two_pow (Nat.lt_of_lt_of_le (show x < 2 ^ 32 from hx) (Nat.pow_le_pow_right (by decide) (by omega)))
    simp [hi, this]

set_option maxHeartbeats 400000 in
theorem sum_any (s : ByteArray) (w : World) (hs : s.size ≤ maxLen) :
    Calls Tryz.prog 30 #[.string s] w fun e w' => e = .returned (.int .u32 (crcN s.data.toList)) ∧ w' = w := by
  unfold maxLen at hs
  go_enter Tryz.func30, Tryz.ntmps30
  go_wp2
  go_loop [3, 8] (fun c i => ∃ k : Nat, k ≤ s.size ∧ i = .int .i64 k ∧ c = .int .u32 (crcSt (s.data.toList.take k))) (fun _ i => s.size - (intOf i).toNat)
  case atStart => exact ⟨0, Nat.zero_le _, rfl, rfl⟩
  case round =>
    obtain ⟨k, hk, rfl, rfl⟩ := hrel
    by_cases hlt : k < s.size
    · have HX : Hid (bits .xor .u32 (crcSt (s.data.toList.take k) : Int) ((s[k].toNat : Int) % 4294967296) = ((crcSt (s.data.toList.take k) ^^^ s[k].toNat : Nat) : Int)) := xor_byte _ _ (crcSt_lt _)
      have HL : Hid ((crcSt (s.data.toList.take k) ^^^ s[k].toNat : Nat) < 4294967296) := Nat.xor_lt_two_pow (n := 32) (crcSt_lt _) (by have := s[k].toNat_lt; omega)
      have HT : Hid (crcSt (s.data.toList.take (k + 1)) = stepsN 8 (crcSt (s.data.toList.take k) ^^^ s[k].toNat)) := by rw [take_snoc s k hlt, crcSt_snoc]; exact rfl
      go_wp2
      go_loop [3, 17] (fun c i => ∃ j : Nat, j ≤ 8 ∧ i = .int .i64 j ∧ c = .int .u32 (stepsN j (crcSt (s.data.toList.take k) ^^^ s[k].toNat) : Nat)) (fun _ i => 8 - (intOf i).toNat)
      case atStart => exact ⟨0, Nat.zero_le _, rfl, by rw [HX.out]; rfl⟩
      case round =>
        obtain ⟨j, hj, rfl, rfl⟩ := hrel
        by_cases hj8 : j < 8
        · have hL := stepsN_lt j HL.out
          have HS : Hid (stepsN (j + 1) (crcSt (s.data.toList.take k) ^^^ s[k].toNat) = stepN (stepsN j (crcSt (s.data.toList.take k) ^^^ s[k].toNat))) := rfl
          have ha := and_one _ hL
          by_cases hodd : stepsN j (crcSt (s.data.toList.take k) ^^^ s[k].toNat) % 2 = 1
          · have hx := stepN_odd hL hodd
            go_wp2
            go_round
            case rel => exact ⟨j + 1, by omega, by go_num, by rw [HS.out, ← hx]; rfl⟩
            case measure => simp [intOf]; omega
          · have hx := stepN_even hodd
            go_wp2
            go_round
            case rel => exact ⟨j + 1, by omega, by go_num, by rw [HS.out, hx]; go_num⟩
            case measure => simp [intOf]; omega
        · have hj : j = 8 := by omega
          subst hj
          go_wp2
          go_round
          case rel => exact ⟨k + 1, by omega, by go_num, by rw [HT.out]⟩
          case measure => simp [intOf]; omega
    · go_wp2
      go_ret
      exact ⟨ret_int (by rw [not_u32 _ (crcSt_lt _), List.take_of_length_le (by simp; omega)]; rfl), rfl⟩

end Go.Proofs.YtjemnkijoiehmaaGreatDoor
