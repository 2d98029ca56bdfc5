/- math/bits.Len64 and LeadingZeros64: how many bits. -/
import Derived.Test.YtpehbpehlkjdiaaProg
import Derived.Test.YtpehbpehlkjdiaaNmAdd
import Derived.WalkKit
import Derived.WalkSpells
import Derived.WalkLawsBesides
import Derived.Laws.MathBits
namespace Go.Proofs.Ytpehbpehlkjdiaa
open Go.RowKit
theorem len_close (k : Nat) {y x : Int} {v : Nat} (hv : v = bitLen y.toNat) (hk : k ≤ 56) (hy : y.toNat = x.toNat / 2 ^ k) (hs : y.toNat < 256) (hne : y.toNat ≠ 0) :
    wrap64 ((k : Int) + wrap64 (v : Int)) = (bitLen x.toNat : Int) := by
  have h := bitLen_shift x.toNat k (by rw [← hy]; exact hne)
  have l := bitLen_le8 _ hs
  rw [← hy] at h
  rw [h, ← hv]
  rw [← hv] at l
  clear h hy hs hne hv
  unfold wrap64; omega
theorem len_close0 {x : Int} {v : Nat} (hv : v = bitLen x.toNat) (hs : x.toNat < 256) : wrap64 (wrap64 (v : Int)) = (bitLen x.toNat : Int) := by
  have l := bitLen_le8 _ hs
  rw [← hv] at l ⊢
  unfold wrap64; omega
set_option maxRecDepth 1000000 in
theorem len64_any (x : Int) (w : World) (h0 : 0 ≤ x) (hx : x < 18446744073709551616) :
    Calls Try.prog 31 #[.int .u64 x] w fun e w' => e = .returned (.int .i64 (bitLen x.toNat : Int)) ∧ w' = w := by
  go_enter Try.func31, Try.ntmps31
  go_wp2
  · go_ret; exact ⟨ret_int (len_close 56 (len8tab_get _ _) (by decide) (by omega) (by omega) (by omega)), rfl⟩
  · go_ret; exact ⟨ret_int (len_close 48 (len8tab_get _ _) (by decide) (by omega) (by omega) (by omega)), rfl⟩
  · go_ret; exact ⟨ret_int (len_close 40 (len8tab_get _ _) (by decide) (by omega) (by omega) (by omega)), rfl⟩
  · go_ret; exact ⟨ret_int (len_close 32 (len8tab_get _ _) (by decide) (by omega) (by omega) (by omega)), rfl⟩
  · go_ret; exact ⟨ret_int (len_close 24 (len8tab_get _ _) (by decide) (by omega) (by omega) (by omega)), rfl⟩
  · go_ret; exact ⟨ret_int (len_close 16 (len8tab_get _ _) (by decide) (by omega) (by omega) (by omega)), rfl⟩
  · go_ret; exact ⟨ret_int (len_close 8 (len8tab_get _ _) (by decide) (by omega) (by omega) (by omega)), rfl⟩
  · go_ret; exact ⟨ret_int (len_close0 (len8tab_get _ _) (by omega)), rfl⟩

theorem bitLen_le64 (n : Nat) (h : n < 18446744073709551616) : bitLen n ≤ 64 := by
  unfold bitLen
  split
  · omega
  · rename_i h0
    have := (Nat.log2_lt h0).2 (show n < 2 ^ 64 from h)
    omega
theorem lead64_any (x : Int) (w : World) (h0 : 0 ≤ x) (hx : x < 18446744073709551616) :
    Calls Try.prog 29 #[.int .u64 x] w fun e w' => e = .returned (.int .i64 ((64 - bitLen x.toNat : Nat) : Int)) ∧ w' = w := by
  have hb := bitLen_le64 x.toNat (by omega)
  have HX : Hid (0 ≤ x ∧ x < 18446744073709551616) := ⟨h0, hx⟩
  generalize hB : bitLen x.toNat = B at *
  go_enter Try.func29, Try.ntmps29
  go_wp2_with (go_at_call 31; refine (len64_any _ _ HX.out.1 HX.out.2).mono ?_; rintro e w1 ⟨rfl, rfl⟩; rw [hB])
  go_ret
  exact ⟨ret_int (by omega), rfl⟩
end Go.Proofs.Ytpehbpehlkjdiaa
