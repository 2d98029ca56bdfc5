/- What the document's reader (a value) answers to each taking. -/
import Derived.Test.YtdapapnkmicklaaReader2
import Derived.Laws.ResultCell
namespace Go.Proofs.Ytdapapnkmicklaa
open Go.RowKit

theorem b2 (w : World) (o1 o2 : Obj) : Below w.heap.size w ((w.alloc o1).alloc o2) := ((Below.refl _ _).alloc (Nat.le_refl _) _).alloc (by simp) _

set_option maxRecDepth 100000 in
theorem fbytes_any {s : ByteArray} {a : Nat} {e n : Int} (w : World) (hs : s.size ≤ maxLen) (ha : a ≤ s.size) :
    Calls Try.prog 60 #[.agg #[.string s, .int .i64 a, .int .i64 e], .int .i64 n] w fun r w' =>
      r = .returned (.tuple #[.agg #[.string s, .int .i64 (rdBytes s a e n).2.1, .int .i64 (rdBytes s a e n).2.2], .string (rdBytes s a e n).1]) ∧ Below w.heap.size w w' := by
  unfold maxLen at hs
  by_cases he : e = 0
  · subst he
    by_cases hneg : n < 0
    · have HR : Hid (rdBytes s a 0 n = (ByteArray.empty, a, 1)) := by unfold rdBytes; rw [if_pos rfl, if_pos hneg]; exact rfl
      go_enter Try.func60, Try.ntmps60
      go_wp2
      exact bodyPost_ret (v := .tuple #[.agg #[.string s, .int .i64 a, .int .i64 1], .string ByteArray.empty]) (by simp [results, Try.results60, go_sem]; rfl) rfl ⟨by rw [HR.out], b2 _ _ _⟩
    · obtain ⟨m, rfl⟩ : ∃ m : Nat, n = m := ⟨n.toNat, by omega⟩
      by_cases hmore : s.size - a < m
      · have HR : Hid (rdBytes s a 0 m = (ByteArray.empty, a, 4)) := by unfold rdBytes; rw [if_pos rfl, if_neg hneg, if_pos (by omega)]; exact rfl
        go_enter Try.func60, Try.ntmps60
        go_wp2
        exact bodyPost_ret (v := .tuple #[.agg #[.string s, .int .i64 a, .int .i64 4], .string ByteArray.empty]) (by simp [results, Try.results60, go_sem]; rfl) rfl ⟨by rw [HR.out], b2 _ _ _⟩
      · have HR : Hid (rdBytes s a 0 m = (s.extract a (a + m), a + m, 0)) := by unfold rdBytes; rw [if_pos rfl, if_neg hneg, if_neg (by omega)]; exact rfl
        go_enter Try.func60, Try.ntmps60
        go_wp2
        go_region
        all_goals go_wp2
        all_goals exact bodyPost_ret (v := .tuple #[.agg #[.string s, .int .i64 (a + m), .int .i64 0], .string (s.extract a (a + m))]) (by simp [results, Try.results60, go_sem]) rfl ⟨by rw [HR.out]; rfl, (b2 _ _ _).drew⟩
  · have HR : Hid (rdBytes s a e n = (ByteArray.empty, a, e)) := by unfold rdBytes; rw [if_neg he]; exact rfl
    have he0 : (e == 0) = false := by simp; omega
    go_enter Try.func60, Try.ntmps60
    go_wp2
    exact bodyPost_ret (v := .tuple #[.agg #[.string s, .int .i64 a, .int .i64 e], .string ByteArray.empty]) (by simp [results, Try.results60, go_sem]; rfl) rfl ⟨by rw [HR.out], b2 _ _ _⟩

theorem acc_mul {acc b X : Nat} (h : acc + b % 128 * X < 18446744073709551616) : IntKind.u64.wrap ((acc : Int) + IntKind.u64.wrap ((b : Int) % 128 * (X : Int))) = ((acc + b % 128 * X : Nat) : Int) := by
  have e : (b : Int) % 128 * (X : Int) = ((b % 128 * X : Nat) : Int) := by simp
  rw [e, IntKind.wrap_u64, IntKind.wrap_u64]
  omega

set_option maxRecDepth 100000 in
set_option maxHeartbeats 400000 in
theorem fnumber_any {s : ByteArray} {a : Nat} {e : Int} (w : World) (hs : s.size ≤ maxLen) (ha : a ≤ s.size) :
    Calls Try.prog 81 #[.agg #[.string s, .int .i64 a, .int .i64 e]] w fun r w' =>
      r = .returned (.tuple #[.agg #[.string s, .int .i64 (rdNum s a e).2.1, .int .i64 (rdNum s a e).2.2], .int .u64 (rdNum s a e).1]) ∧ Below w.heap.size w w' := by
  unfold maxLen at hs
  by_cases he : e = 0
  · subst he
    go_enter Try.func81, Try.ntmps81
    go_wp2
    go_loop [4, 5, 6] (fun n u i => ∃ (k X acc : Nat), k ≤ 9 ∧ a + k ≤ s.size ∧ i = .int .i64 k ∧ u = .int .u64 X ∧ n = .int .u64 acc ∧ Hid (X = 128 ^ k) ∧ Hid (acc < 128 ^ k) ∧ Hid (pgo (10 - k) k acc (s.data.toList.drop (a + k)) = pnum (s.data.toList.drop a))) (fun _ _ i => 10 - (intOf i).toNat)
    case atStart => exact ⟨0, 1, 0, by omega, by omega, rfl, rfl, rfl, rfl, (by decide : 0 < 128 ^ 0), rfl⟩
    case round =>
      obtain ⟨k, X, acc, hk, hak, rfl, rfl, rfl, HX, HA, HP⟩ := hrel
      by_cases hend : s.size ≤ a + k
      · have HR : Hid (rdNum s a 0 = (0, a, 4)) := by
          have : pnum (s.data.toList.drop a) = (0, 0, 4) := by
            rw [← HP.out, show 10 - k = (9 - k) + 1 by omega, List.drop_eq_nil_of_le (by simp; omega)]; rfl
          exact rd_bad this (by decide)
        go_wp2
        exact bodyPost_ret (v := .tuple #[.agg #[.string s, .int .i64 a, .int .i64 4], .int .u64 0]) (by simp [results, Try.results81, go_sem]) rfl ⟨by rw [HR.out]; rfl, b2 _ _ _⟩
      · have hlt : a + k < s.size := by omega
        have hbl := s[a + k].toNat_lt
        have HD : Hid (pgo ((9 - k) + 1) k acc (s[a + k] :: s.data.toList.drop (a + k + 1)) = pnum (s.data.toList.drop a)) := by
          show _ = _
          rw [← HP.out, show 10 - k = (9 - k) + 1 by omega, drop_cons s (a + k) hlt]
        have HM : Hid (k ≤ 8 ∨ s[a + k].toNat ≤ 1 → acc + s[a + k].toNat % 128 * X < 18446744073709551616) := by
          intro hc
          have hX := HX.out
          have hA := HA.out
          rw [hX]
          have h9 := pow_le9 hk
          rcases hc with hc | hc
          · have := acc_step hA (Nat.mod_lt s[a + k].toNat (by decide : 128 > 0))
            have := pow_le9 (i := k + 1) (by omega)
            omega
          · have : s[a + k].toNat % 128 * 128 ^ k ≤ 1 * 128 ^ k := Nat.mul_le_mul_right _ (by omega)
            omega
        rcases (show (1 < s[a + k].toNat ∧ 9 ≤ k) ∨ (0 < k ∧ s[a + k].toNat ≤ 0) ∨ (k ≤ 8 ∧ 128 ≤ s[a + k].toNat) ∨ (k ≤ 8 ∧ s[a + k].toNat < 128 ∧ 0 < k ∧ 0 < s[a + k].toNat) ∨ (k < 1 ∧ s[a + k].toNat < 128) ∨ (9 ≤ k ∧ 0 < s[a + k].toNat ∧ s[a + k].toNat ≤ 1) from by omega) with ⟨c1, c2⟩ | ⟨c1, c2⟩ | ⟨c1, c2⟩ | ⟨c1, c2, c3, c4⟩ | ⟨c1, c2⟩ | ⟨c1, c2, c3⟩
        · have HR : Hid (rdNum s a 0 = (0, a, 6)) := by
            have : pnum (s.data.toList.drop a) = (0, 0, 6) := by
              rw [← HD.out]
              by_cases hh : 128 ≤ s[a + k].toNat
              · rw [pgo_hi hh, show 9 - k = 0 by omega]; cases (s.data.toList.drop (a + k + 1)) <;> rfl
              · exact pgo_bad hh (by omega)
            exact rd_bad this (by decide)
          go_wp2
          all_goals exact bodyPost_ret (v := .tuple #[.agg #[.string s, .int .i64 a, .int .i64 6], .int .u64 0]) (by simp [results, Try.results81, go_sem]) rfl ⟨by rw [HR.out]; rfl, b2 _ _ _⟩
        · have HR : Hid (rdNum s a 0 = (0, a, 6)) := by
            have : pnum (s.data.toList.drop a) = (0, 0, 6) := by
              rw [← HD.out]
              exact pgo_bad (by omega) (by omega)
            exact rd_bad this (by decide)
          have z0 : ((s[a + k].toNat : Int) == 0) = true := by simp; omega
          go_wp2
          all_goals exact bodyPost_ret (v := .tuple #[.agg #[.string s, .int .i64 a, .int .i64 6], .int .u64 0]) (by simp [results, Try.results81, go_sem]) rfl ⟨by rw [HR.out]; rfl, b2 _ _ _⟩
        · have z0 : ((s[a + k].toNat : Int) == 0) = false := by simp; omega
          have hX := HX.out
          have HW : Hid (IntKind.u64.wrap ((X : Int) * 128) = ((X * 128 : Nat) : Int)) := by
            have := pow_le8 c1
            show _ = _
            rw [IntKind.wrap_u64]; omega
          have HV : Hid _ := acc_mul (HM.out (Or.inl c1))
          clear hX
          go_wp2
          all_goals
            go_round
            case rel => exact ⟨k + 1, X * 128, acc + s[a + k].toNat % 128 * X, by omega, by omega, by go_num, by rw [HW.out], by rw [HV.out], (by rw [HX.out, Nat.pow_succ] : X * 128 = 128 ^ (k + 1)), (by have := acc_step HA.out (Nat.mod_lt s[a + k].toNat (by decide : 128 > 0)); rw [HX.out]; exact this : acc + s[a + k].toNat % 128 * X < 128 ^ (k + 1)), (by rw [← HD.out, pgo_hi c2, HX.out, show 10 - (k + 1) = 9 - k by omega, Nat.add_assoc] : pgo (10 - (k + 1)) (k + 1) (acc + s[a + k].toNat % 128 * X) (s.data.toList.drop (a + (k + 1))) = pnum (s.data.toList.drop a))⟩
            case measure => simp [intOf]; omega
        · have z0 : ((s[a + k].toNat : Int) == 0) = false := by simp; omega
          have HR : Hid (rdNum s a 0 = (acc + s[a + k].toNat * 128 ^ k, a + (k + 1), 0)) := rd_ok (HD.out.symm.trans (pgo_end (by omega) (by omega)))
          have HV : Hid (IntKind.u64.wrap ((acc : Int) + IntKind.u64.wrap ((s[a + k].toNat : Int) % 128 * (X : Int))) = ((acc + s[a + k].toNat * 128 ^ k : Nat) : Int)) := by
            show _ = _
            rw [acc_mul (HM.out (Or.inl c1)), Nat.mod_eq_of_lt (by omega), HX.out]
          go_wp2
          all_goals exact bodyPost_ret (v := .tuple #[.agg #[.string s, .int .i64 (a + (k + 1)), .int .i64 0], .int .u64 (IntKind.u64.wrap ((acc : Int) + IntKind.u64.wrap ((s[a + k].toNat : Int) % 128 * (X : Int))))]) (by simp [results, Try.results81, go_sem]) rfl ⟨by rw [HR.out, HV.out]; rfl, b2 _ _ _⟩
        · have HR : Hid (rdNum s a 0 = (acc + s[a + k].toNat * 128 ^ k, a + (k + 1), 0)) := rd_ok (HD.out.symm.trans (pgo_end (by omega) (by omega)))
          have HV : Hid (IntKind.u64.wrap ((acc : Int) + IntKind.u64.wrap ((s[a + k].toNat : Int) % 128 * (X : Int))) = ((acc + s[a + k].toNat * 128 ^ k : Nat) : Int)) := by
            show _ = _
            rw [acc_mul (HM.out (Or.inl (by omega))), Nat.mod_eq_of_lt (by omega), HX.out]
          go_wp2
          all_goals exact bodyPost_ret (v := .tuple #[.agg #[.string s, .int .i64 (a + (k + 1)), .int .i64 0], .int .u64 (IntKind.u64.wrap ((acc : Int) + IntKind.u64.wrap ((s[a + k].toNat : Int) % 128 * (X : Int))))]) (by simp [results, Try.results81, go_sem]) rfl ⟨by rw [HR.out, HV.out]; rfl, b2 _ _ _⟩
        · have z0 : ((s[a + k].toNat : Int) == 0) = false := by simp; omega
          have HR : Hid (rdNum s a 0 = (acc + s[a + k].toNat * 128 ^ k, a + (k + 1), 0)) := rd_ok (HD.out.symm.trans (pgo_end (by omega) (by omega)))
          have HV : Hid (IntKind.u64.wrap ((acc : Int) + IntKind.u64.wrap ((s[a + k].toNat : Int) % 128 * (X : Int))) = ((acc + s[a + k].toNat * 128 ^ k : Nat) : Int)) := by
            show _ = _
            rw [acc_mul (HM.out (Or.inr c3)), Nat.mod_eq_of_lt (by omega), HX.out]
          go_wp2
          all_goals exact bodyPost_ret (v := .tuple #[.agg #[.string s, .int .i64 (a + (k + 1)), .int .i64 0], .int .u64 (IntKind.u64.wrap ((acc : Int) + IntKind.u64.wrap ((s[a + k].toNat : Int) % 128 * (X : Int))))]) (by simp [results, Try.results81, go_sem]; omega) rfl ⟨by rw [HR.out, HV.out]; rfl, b2 _ _ _⟩
  · have HR : Hid (rdNum s a e = (0, a, e)) := rd_err he
    have he0 : (e == 0) = false := by simp; omega
    go_enter Try.func81, Try.ntmps81
    go_wp2
    exact bodyPost_ret (v := .tuple #[.agg #[.string s, .int .i64 a, .int .i64 e], .int .u64 0]) (by simp [results, Try.results81, go_sem]) rfl ⟨by rw [HR.out]; rfl, b2 _ _ _⟩
end Go.Proofs.Ytdapapnkmicklaa
