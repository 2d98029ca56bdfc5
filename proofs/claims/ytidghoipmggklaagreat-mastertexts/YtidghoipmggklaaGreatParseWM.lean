import Derived.Test.YtidghoipmggklaaGreatProg
import Derived.Test.YtidghoipmggklaaGreatParseM
import Derived.Laws.BitsAllLaws
import Derived.WalkKit
import Derived.WalkSpells
import Derived.WalkLawsBesides
/- What parseNumber returns: the number at the front of bytes, its size, the error; the world stands. -/
namespace Go.Proofs.YtidghoipmggklaaGreat
open Go.RowKit

theorem and127 (b : UInt8) : bits .and .u8 (b.toNat : Int) 127 = ((b.toNat % 128 : Nat) : Int) := by
  have h := u8_and_nat b.toNat 127 (by have := b.toNat_lt; omega) (by decide)
  rw [nat_mask7] at h; exact h
theorem drop_cons (s : ByteArray) (k : Nat) (h : k < s.size) : s.data.toList.drop k = s[k] :: s.data.toList.drop (k + 1) := by
  rw [List.drop_eq_getElem_cons (by simpa using h)]; rfl
theorem or_shift {i acc b : Nat} (h : acc < 128 ^ i) (hi : i ≤ 9) (hx : b * 128 ^ i < 18446744073709551616) : bits .or .u64 (acc : Int) ((b * 128 ^ i : Nat) : Int) = ((acc + b * 128 ^ i : Nat) : Int) := by
  have h9 := pow_le9 hi
  rw [u64_or_nat acc (b * 128 ^ i) (by omega) hx]
  congr 1
  have e : (128 : Nat) ^ i = 2 ^ (7 * i) := by rw [Nat.pow_mul]
  rw [Nat.or_comm, nat_join (7 * i) (b * 128 ^ i) acc (by rw [e]; exact Nat.mul_mod_left _ _) (by rw [← e]; exact h), Nat.add_comm]

theorem or_sh {k acc b : Nat} (h : acc < 128 ^ k) (hk : k ≤ 9) (hx : b % 128 * 128 ^ k < 18446744073709551616) : bits .or .u64 (acc : Int) (IntKind.u64.wrap ((b : Int) % 128 * 2 ^ (7 * k))) = ((acc + b % 128 * 128 ^ k : Nat) : Int) := by
  have e : (b : Int) % 128 * 2 ^ (7 * k) = ((b % 128 * 128 ^ k : Nat) : Int) := by
    have : (128 : Nat) ^ k = 2 ^ (7 * k) := by rw [Nat.pow_mul]
    rw [this]; simp
  rw [e, IntKind.wrap_u64, Int.emod_eq_of_lt (by omega) (by omega)]
  exact or_shift h hk hx
theorem ret_p {l : List UInt8} {a b c : Nat} {x y z : Int} (h : pnum l = (a, b, c)) (hx : x = a) (hy : y = b) (hz : z = c) :
    Ending.returned (.tuple #[.int .u64 x, .int .i64 y, .int .i64 z]) = .returned (.tuple #[.int .u64 (pnum l).1, .int .i64 (pnum l).2.1, .int .i64 (pnum l).2.2]) := by rw [h, hx, hy, hz]
theorem small_sh {k b : Nat} (hk : k ≤ 8) : b % 128 * 128 ^ k < 18446744073709551616 := by
  have h := pow_le8 hk
  have : b % 128 * 128 ^ k ≤ 127 * 128 ^ k := Nat.mul_le_mul_right _ (by omega)
  omega
theorem one_sh {k b : Nat} (hk : k ≤ 9) (hb : b ≤ 1) : b % 128 * 128 ^ k < 18446744073709551616 := by
  have h := pow_le9 hk
  have : b % 128 * 128 ^ k ≤ 1 * 128 ^ k := Nat.mul_le_mul_right _ (by omega)
  omega

set_option maxRecDepth 100000 in
set_option maxHeartbeats 400000 in
theorem parse_any (s : ByteArray) (w : World) (hs : s.size ≤ maxLen) :
    Calls Tryz.prog 169 #[.string s] w fun e w' => e = .returned (.tuple #[.int .u64 (pnum s.data.toList).1, .int .i64 (pnum s.data.toList).2.1, .int .i64 (pnum s.data.toList).2.2]) ∧ w' = w := by
  unfold maxLen at hs
  go_enter Tryz.func169, Tryz.ntmps169
  go_wp2
  go_loop [5, 8] (fun c i => ∃ (k : Nat) (x : Int) (acc : Nat), k ≤ 10 ∧ k ≤ s.size ∧ i = .int .i64 k ∧ c = .int .u64 x ∧ (k ≤ 9 → x = acc) ∧ acc < 128 ^ k ∧ pgo (10 - k) k acc (s.data.toList.drop k) = pnum s.data.toList) (fun _ i => 10 - (intOf i).toNat)
  case atStart => exact ⟨0, 0, 0, by omega, by omega, rfl, rfl, fun _ => rfl, by decide, rfl⟩
  case round =>
    obtain ⟨k, x, acc, hk, hks, rfl, rfl, hx, hacc, hp⟩ := hrel
    have HP : Hid (pgo (10 - k) k acc (s.data.toList.drop k) = pnum s.data.toList) := hp
    clear hp
    by_cases h10 : k < 10
    · obtain rfl := hx (by omega)
      clear hx
      by_cases hend : k = s.size
      · have e : pnum s.data.toList = (0, 0, 4) := by
          rw [← HP.out, show 10 - k = (9 - k) + 1 by omega, List.drop_eq_nil_of_le (by simp; omega)]; rfl
        have HE : Hid (pnum s.data.toList = (0, 0, 4)) := e
        clear e
        go_wp2
        go_ret3
        exact ⟨ret_p HE.out rfl rfl rfl, rfl⟩
      · have hlt : k < s.size := by omega
        have hbl := s[k].toNat_lt
        have ha := and127 s[k]
        have HD : Hid (pgo ((9 - k) + 1) k acc (s[k] :: s.data.toList.drop (k + 1)) = pnum s.data.toList) := by
          show _ = _
          rw [← HP.out, show 10 - k = (9 - k) + 1 by omega, drop_cons s k hlt]
        by_cases hhi : 128 ≤ s[k].toNat
        · go_wp2
          go_round
          case rel => exact ⟨k + 1, _, acc + s[k].toNat % 128 * 128 ^ k, by omega, by omega, by go_num, rfl, fun h9 => or_sh hacc (by omega) (small_sh (by omega)), acc_step hacc (Nat.mod_lt _ (by decide)), by rw [← HD.out, pgo_hi hhi, show 10 - (k + 1) = 9 - k by omega]⟩
          case measure => simp [intOf]; omega
        · rcases (show (0 < k ∧ s[k].toNat = 0) ∨ (0 < k ∧ 1 < s[k].toNat ∧ 9 ≤ k) ∨ (0 < k ∧ 0 < s[k].toNat ∧ s[k].toNat ≤ 1 ∧ 9 ≤ k) ∨ (0 < k ∧ 0 < s[k].toNat ∧ k < 9) ∨ k < 1 from by omega) with ⟨c1, c2⟩ | ⟨c1, c2, c3⟩ | ⟨c1, c2, c3, c4⟩ | ⟨c1, c2, c3⟩ | c1
          · have HE : Hid (pnum s.data.toList = (0, 0, 6)) := HD.out.symm.trans (pgo_bad hhi (by omega))
            go_wp2
            go_ret3
            exact ⟨ret_p HE.out rfl rfl rfl, rfl⟩
          · have HE : Hid (pnum s.data.toList = (0, 0, 6)) := HD.out.symm.trans (pgo_bad hhi (by omega))
            go_wp2
            go_ret3
            exact ⟨ret_p HE.out rfl rfl rfl, rfl⟩
          · have HE : Hid (pnum s.data.toList = (acc + s[k].toNat * 128 ^ k, k + 1, 0)) := HD.out.symm.trans (pgo_end hhi (by omega))
            have HO : Hid _ := or_sh (b := s[k].toNat) hacc (by omega) (one_sh (by omega) c3)
            have z0 : ((s[k].toNat : Int) == 0) = false := by simp; omega
            go_wp2
            go_ret3
            exact ⟨ret_p HE.out (by rw [HO.out, Nat.mod_eq_of_lt (by omega)]) (by omega) rfl, rfl⟩
          · have HE : Hid (pnum s.data.toList = (acc + s[k].toNat * 128 ^ k, k + 1, 0)) := HD.out.symm.trans (pgo_end hhi (by omega))
            have HO : Hid _ := or_sh (b := s[k].toNat) hacc (by omega) (small_sh (by omega))
            go_wp2
            go_ret3
            exact ⟨ret_p HE.out (by rw [HO.out, Nat.mod_eq_of_lt (by omega)]) (by omega) rfl, rfl⟩
          · have HE : Hid (pnum s.data.toList = (acc + s[k].toNat * 128 ^ k, k + 1, 0)) := HD.out.symm.trans (pgo_end hhi (by omega))
            have HO : Hid _ := or_sh (b := s[k].toNat) hacc (by omega) (small_sh (by omega))
            go_wp2
            go_ret3
            exact ⟨ret_p HE.out (by rw [HO.out, Nat.mod_eq_of_lt (by omega)]) (by omega) rfl, rfl⟩
    · have HE : Hid (pnum s.data.toList = (0, 0, 6)) := by
        show _ = _
        rw [← HP.out, show 10 - k = 0 by omega]; cases List.drop k s.data.toList <;> rfl
      go_wp2
      go_ret3
      exact ⟨ret_p HE.out rfl rfl rfl, rfl⟩
end Go.Proofs.YtidghoipmggklaaGreat
