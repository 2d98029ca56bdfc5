import Derived.Laws.BitsAllLaws
/- Plain mathematics of CRC-32 as a fold over bytes, bit by bit, on natural numbers; nothing of the program is named here. -/
namespace Go.Proofs.YtjemnkijoiehmaaGreatDoor

def stepN (x : Nat) : Nat := if x % 2 = 1 then (x / 2) ^^^ 3988292384 else x / 2
def stepsN : Nat → Nat → Nat
  | 0, x => x
  | k + 1, x => stepN (stepsN k x)
def crcSt (l : List UInt8) : Nat := l.foldl (fun x b => stepsN 8 (x ^^^ b.toNat)) 4294967295
def crcN (l : List UInt8) : Nat := 4294967295 - crcSt l

theorem stepN_lt {x : Nat} (h : x < 4294967296) : stepN x < 4294967296 := by
  unfold stepN
  split
  · exact Nat.xor_lt_two_pow (n := 32) (by omega) (by decide)
  · omega
theorem stepsN_lt (k : Nat) {x : Nat} (h : x < 4294967296) : stepsN k x < 4294967296 := by
  induction k with
  | zero => exact h
  | succ k ih => exact stepN_lt ih
theorem crcSt_snoc (l : List UInt8) (b : UInt8) : crcSt (l ++ [b]) = stepsN 8 (crcSt l ^^^ b.toNat) := by
  simp [crcSt, List.foldl_append]
theorem crcSt_lt (l : List UInt8) : crcSt l < 4294967296 := by
  have : ∀ (l : List UInt8) (x : Nat), x < 4294967296 → l.foldl (fun x b => stepsN 8 (x ^^^ b.toNat)) x < 4294967296 := by
    intro l
    induction l with
    | nil => intro x h; exact h
    | cons b l ih =>
      intro x h
      exact ih _ (stepsN_lt 8 (Nat.xor_lt_two_pow (n := 32) h (by have := b.toNat_lt; omega)))
  exact this l _ (by decide)
theorem crcN_lt (l : List UInt8) : crcN l < 4294967296 := by unfold crcN; omega
theorem take_snoc (s : ByteArray) (k : Nat) (h : k < s.size) : s.data.toList.take (k + 1) = s.data.toList.take k ++ [s[k]] := by
  rw [List.take_succ_eq_append_getElem (by simpa using h)]; rfl
theorem ret_int {k : IntKind} {a b : Int} (h : a = b) : Ending.returned (.int k a) = .returned (.int k b) := by rw [h]
end Go.Proofs.YtjemnkijoiehmaaGreatDoor
