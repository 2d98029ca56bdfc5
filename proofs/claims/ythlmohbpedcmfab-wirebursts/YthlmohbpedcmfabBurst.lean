/- Plain mathematics of CRC-32: texts of one length that differ within 32 bits side by side have unlike sums. -/
import Derived.Test.YthlmohbpedcmfabCrc
namespace Go.Proofs.Ythlmohbpedcmfab

theorem xor_half (x y : Nat) : (x ^^^ y) / 2 = x / 2 ^^^ y / 2 := by
  apply Nat.eq_of_testBit_eq
  intro i
  simp [Nat.testBit_xor, Nat.testBit_div_two]
theorem xor_par (x y : Nat) : (x ^^^ y) % 2 = (x % 2 + y % 2) % 2 := by
  have h := Nat.testBit_xor x y 0
  simp only [Nat.testBit_zero] at h
  rcases Nat.mod_two_eq_zero_or_one x with hx | hx <;> rcases Nat.mod_two_eq_zero_or_one y with hy | hy <;> rcases Nat.mod_two_eq_zero_or_one (x ^^^ y) with hz | hz <;> simp_all
theorem step_lin (x y : Nat) : stepN (x ^^^ y) = stepN x ^^^ stepN y := by
  unfold stepN
  rw [xor_half, xor_par]
  rcases Nat.mod_two_eq_zero_or_one x with hx | hx <;> rcases Nat.mod_two_eq_zero_or_one y with hy | hy <;> simp [hx, hy]
  · rw [Nat.xor_assoc]
  · rw [Nat.xor_assoc, Nat.xor_comm (y / 2), ← Nat.xor_assoc]
  · have : ∀ a b p : Nat, a ^^^ b = (a ^^^ p) ^^^ (b ^^^ p) := by
      intro a b p
      rw [Nat.xor_assoc, ← Nat.xor_assoc p b p, Nat.xor_comm p b, Nat.xor_assoc b p p, Nat.xor_self, Nat.xor_zero]
    exact this _ _ _
theorem steps_lin (k x y : Nat) : stepsN k (x ^^^ y) = stepsN k x ^^^ stepsN k y := by
  induction k with
  | zero => rfl
  | succ k ih => show stepN (stepsN k (x ^^^ y)) = _; rw [ih, step_lin]; rfl
theorem steps_add (j k x : Nat) : stepsN (j + k) x = stepsN j (stepsN k x) := by
  induction j with
  | zero => simp [stepsN]
  | succ j ih => rw [Nat.add_right_comm]; show stepN (stepsN (j + k) x) = stepN _; rw [ih]
theorem step_even (z : Nat) : stepN (2 * z) = z := by unfold stepN; rw [if_neg (by omega)]; omega
theorem steps_pow (k z : Nat) : stepsN k (2 ^ k * z) = z := by
  induction k generalizing z with
  | zero => simp [stepsN]
  | succ k ih =>
    have e : 2 ^ (k + 1) * z = 2 ^ k * (2 * z) := by rw [Nat.pow_succ, Nat.mul_assoc]
    show stepN (stepsN k (2 ^ (k + 1) * z)) = z
    rw [e, ih, step_even]
theorem step_zero {x : Nat} (h : x < 4294967296) (h0 : stepN x = 0) : x = 0 := by
  unfold stepN at h0
  split at h0
  · have : x / 2 = 3988292384 := by
      have e := congrArg (· ^^^ 3988292384) h0
      simp only [Nat.xor_assoc, Nat.xor_self, Nat.xor_zero, Nat.zero_xor] at e
      exact e
    omega
  · omega
theorem steps_zero (k : Nat) {x : Nat} (h : x < 4294967296) (h0 : stepsN k x = 0) : x = 0 := by
  induction k with
  | zero => exact h0
  | succ k ih => exact ih (step_zero (stepsN_lt k h) h0)
theorem steps_of_zero (k : Nat) : stepsN k 0 = 0 := by
  induction k with
  | zero => rfl
  | succ k ih => show stepN (stepsN k 0) = 0; rw [ih]; rfl

/-- Bytes as one number, the first one least. -/
def numL : List UInt8 → Nat
  | [] => 0
  | b :: l => b.toNat + 256 * numL l
theorem join256 (b : UInt8) (z : Nat) : b.toNat + 256 * z = b.toNat ^^^ 256 * z := by
  have hb := b.toNat_lt
  have h1 : 256 * z ||| b.toNat = 256 * z + b.toNat := nat_join 8 (256 * z) b.toNat (by simp) (by omega)
  have h2 : 256 * z ^^^ b.toNat = 256 * z ||| b.toNat := by
    apply Nat.eq_of_testBit_eq
    intro i
    rw [Nat.testBit_xor, Nat.testBit_or]
    by_cases hi : i < 8
    · have : (256 * z).testBit i = false := by
        rw [show 256 * z = 2 ^ 8 * z by rfl, Nat.testBit_two_pow_mul]; simp; omega
      simp [this]
    · have : b.toNat.testBit i = false := Nat.testBit_lt_two_pow (Nat.lt_of_lt_of_le hb (Nat.pow_le_pow_right (by decide) (by omega)))
      simp [this]
  rw [Nat.xor_comm b.toNat, h2, h1, Nat.add_comm]
def crcFrom (x : Nat) (l : List UInt8) : Nat := l.foldl (fun x b => stepsN 8 (x ^^^ b.toNat)) x
theorem crcFrom_cons (x : Nat) (b : UInt8) (l : List UInt8) : crcFrom x (b :: l) = crcFrom (stepsN 8 (x ^^^ b.toNat)) l := by unfold crcFrom; rw [List.foldl_cons]
theorem xor4 (a b c d : Nat) : (a ^^^ b) ^^^ (c ^^^ d) = (a ^^^ c) ^^^ (b ^^^ d) := by
  rw [Nat.xor_assoc, ← Nat.xor_assoc b c d, Nat.xor_comm b c, Nat.xor_assoc c b d, ← Nat.xor_assoc]
theorem mul_xor (x y : Nat) : 256 * x ^^^ 256 * y = 256 * (x ^^^ y) := by
  apply Nat.eq_of_testBit_eq
  intro i
  rw [Nat.testBit_xor, show (256 : Nat) = 2 ^ 8 by rfl, Nat.testBit_two_pow_mul, Nat.testBit_two_pow_mul, Nat.testBit_two_pow_mul, Nat.testBit_xor]
  by_cases hi : 8 ≤ i <;> simp [hi]
/-- How two sums part: as many steps as there are bits, of how the texts part. -/
theorem crc_diff : ∀ (l m : List UInt8) (x y : Nat), l.length = m.length → crcFrom x l ^^^ crcFrom y m = stepsN (8 * l.length) ((x ^^^ y) ^^^ (numL l ^^^ numL m))
  | [], [], x, y, _ => by simp [crcFrom, numL, stepsN]
  | a :: l, b :: m, x, y, h => by
    have hl : l.length = m.length := by simpa using h
    rw [crcFrom_cons, crcFrom_cons, crc_diff l m _ _ hl, List.length_cons, show 8 * (l.length + 1) = 8 * l.length + 8 by omega, steps_add]
    congr 1
    have e : (x ^^^ y) ^^^ (numL (a :: l) ^^^ numL (b :: m)) = ((x ^^^ a.toNat) ^^^ (y ^^^ b.toNat)) ^^^ 2 ^ 8 * (numL l ^^^ numL m) := by
      simp only [numL]
      rw [join256, join256, xor4 a.toNat, mul_xor, ← Nat.xor_assoc, xor4 x y]
    rw [e, steps_lin 8 _ (2 ^ 8 * _), steps_pow, steps_lin 8 (x ^^^ a.toNat) (y ^^^ b.toNat)]
  | [], _ :: _, _, _, h => by simp at h
  | _ :: _, [], _, _, h => by simp at h
theorem numL_inj : ∀ (l m : List UInt8), l.length = m.length → numL l = numL m → l = m
  | [], [], _, _ => rfl
  | a :: l, b :: m, h, e => by
    have ha := a.toNat_lt
    have hb := b.toNat_lt
    simp only [numL] at e
    have h1 : a.toNat = b.toNat := by omega
    have h2 : numL l = numL m := by omega
    rw [UInt8.toNat_inj.1 h1, numL_inj l m (by simpa using h) h2]
  | [], _ :: _, h, _ => by simp at h
  | _ :: _, [], h, _ => by simp at h
theorem crcSt_from (l : List UInt8) : crcSt l = crcFrom 4294967295 l := rfl
/-- THE BURST. -/
theorem burst_unlike {l m : List UInt8} {f c : Nat} (hl : l.length = m.length) (hf : f ≤ 8 * l.length) (hc : c < 4294967296) (hd : numL m = numL l ^^^ 2 ^ f * c) : crcN l = crcN m ↔ l = m := by
  constructor
  · intro h
    have h1 := crcSt_lt l
    have h2 := crcSt_lt m
    have he : crcSt l = crcSt m := by unfold crcN at h; omega
    have hz : crcFrom 4294967295 l ^^^ crcFrom 4294967295 m = 0 := by rw [← crcSt_from, ← crcSt_from, he, Nat.xor_self]
    rw [crc_diff l m _ _ hl, Nat.xor_self, Nat.zero_xor, hd, ← Nat.xor_assoc, Nat.xor_self, Nat.zero_xor, show 8 * l.length = (8 * l.length - f) + f by omega, steps_add, steps_pow] at hz
    have h0 := steps_zero _ hc hz
    apply numL_inj l m hl
    rw [hd, h0]; simp
  · intro h; rw [h]
/-- One bit turned. -/
theorem numL_set : ∀ (l : List UInt8) (j i : Nat) (b : UInt8) (h : j < l.length), i < 8 → b.toNat = l[j].toNat ^^^ 2 ^ i → numL (l.set j b) = numL l ^^^ 2 ^ (8 * j + i)
  | a :: l, 0, i, b, _, hi, hb => by
    simp only [List.getElem_cons_zero] at hb
    show b.toNat + 256 * numL l = (a.toNat + 256 * numL l) ^^^ _
    rw [join256, join256, hb, Nat.mul_zero, Nat.zero_add, Nat.xor_assoc, Nat.xor_assoc, Nat.xor_comm (2 ^ i)]
  | a :: l, j + 1, i, b, h, hi, hb => by
    have := numL_set l j i b (by simpa using h) hi (by simpa using hb)
    show a.toNat + 256 * numL (l.set j b) = (a.toNat + 256 * numL l) ^^^ _
    rw [join256, join256, this, Nat.xor_assoc, ← mul_xor]
    congr 2
    rw [show 8 * (j + 1) + i = 8 + (8 * j + i) by omega, Nat.pow_add 2 8]
  | [], _, _, _, h, _, _ => by simp at h
theorem pow_bit {k c : Nat} (f : Nat) (hc : c < 2 ^ k) : 2 ^ f * c ^^^ 2 ^ (f + k) = 2 ^ f * (c + 2 ^ k) ∧ c + 2 ^ k < 2 ^ (k + 1) := by
  constructor
  · have h1 : c + 2 ^ k = c ^^^ 2 ^ k := by
      have h := nat_join k (2 ^ k) c (Nat.mod_self _) hc
      rw [Nat.add_comm, ← h, Nat.xor_comm]
      apply Nat.eq_of_testBit_eq
      intro i
      rw [Nat.testBit_xor, Nat.testBit_or]
      by_cases hi : i = k
      · subst hi
        have : c.testBit i = false := Nat.testBit_lt_two_pow hc
        simp [this]
      · have : (2 ^ k).testBit i = false := by rw [Nat.testBit_two_pow]; simp; omega
        simp [this]
    rw [h1]
    apply Nat.eq_of_testBit_eq
    intro i
    rw [Nat.testBit_xor, Nat.pow_add, Nat.testBit_two_pow_mul, Nat.testBit_two_pow_mul, Nat.testBit_two_pow_mul, Nat.testBit_xor]
    by_cases hi : f ≤ i <;> simp [hi]
  · rw [Nat.pow_succ]; omega
end Go.Proofs.Ythlmohbpedcmfab
