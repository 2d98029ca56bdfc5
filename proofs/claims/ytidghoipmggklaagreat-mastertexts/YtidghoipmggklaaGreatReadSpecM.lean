import Derived.Test.YtidghoipmggklaaGreatParseM
/- Plain mathematics of a reader: what each taking answers, how many bytes are taken behind it, the error behind it; nothing of the program is named here. -/
namespace Go.Proofs.YtidghoipmggklaaGreat
/-- What follows where a number was read: else nothing is taken. -/
def rdWith {α : Type} (z : α) (s : ByteArray) (a : Nat) (e : Int) (f : Nat → Nat → α × Nat × Int) : α × Nat × Int :=
  if e = 0 then (if (pnum (s.data.toList.drop a)).2.2 = 0 then f (pnum (s.data.toList.drop a)).1 (pnum (s.data.toList.drop a)).2.1 else (z, a, (pnum (s.data.toList.drop a)).2.2)) else (z, a, e)
def rdNum (s : ByteArray) (a : Nat) (e : Int) : Nat × Nat × Int := rdWith 0 s a e fun n k => (n, a + k, 0)
def rdCount (s : ByteArray) (a : Nat) (e : Int) (most : Int) : Nat × Nat × Int := rdWith 0 s a e fun n k => if most < 0 ∨ most < n then (0, a, 5) else (n, a + k, 0)
def rdText (s : ByteArray) (a : Nat) (e : Int) : ByteArray × Nat × Int := rdWith ByteArray.empty s a e fun n k => if s.size - (a + k) < n then (ByteArray.empty, a, 4) else (s.extract (a + k) (a + k + n), a + k + n, 0)
def rdBool (s : ByteArray) (a : Nat) (e : Int) : Bool × Nat × Int := rdWith false s a e fun n k => if 1 < n then (false, a, 6) else (n == 1, a + k, 0)
def rdEnd (s : ByteArray) (a : Nat) (e : Int) : Int := if e = 0 ∧ a < s.size then 5 else e

def rdFail (e x : Int) : Int := if e = 0 then x else e
theorem rdFail_0 (x : Int) : rdFail 0 x = x := rfl
theorem rdFail_e {e : Int} (h : e ≠ 0) (x : Int) : rdFail e x = e := if_neg h
theorem rdEnd_lt {s : ByteArray} {a : Nat} (e : Int) (h : a < s.size) : rdEnd s a e = rdFail e 5 := by unfold rdEnd rdFail; simp [h]
theorem rdEnd_ge {s : ByteArray} {a : Nat} (e : Int) (h : ¬ a < s.size) : rdEnd s a e = e := by unfold rdEnd; simp [h]
theorem rd_err {α : Type} {z : α} {s : ByteArray} {a : Nat} {e : Int} {f : Nat → Nat → α × Nat × Int} (h : e ≠ 0) : rdWith z s a e f = (z, a, e) := by unfold rdWith; rw [if_neg h]
theorem rd_bad {α : Type} {z : α} {s : ByteArray} {a : Nat} {f : Nat → Nat → α × Nat × Int} {n k x : Nat} (hp : pnum (s.data.toList.drop a) = (n, k, x)) (h : x ≠ 0) : rdWith z s a 0 f = (z, a, (x : Int)) := by
  unfold rdWith; rw [if_pos rfl, hp, if_neg h]
theorem rd_ok {α : Type} {z : α} {s : ByteArray} {a : Nat} {f : Nat → Nat → α × Nat × Int} {n k : Nat} (hp : pnum (s.data.toList.drop a) = (n, k, 0)) : rdWith z s a 0 f = f n k := by
  unfold rdWith; rw [if_pos rfl, hp, if_pos rfl]
/-- The three ways of a number that is to be read. -/
theorem three (s : ByteArray) (a : Nat) (ha : a ≤ s.size) : (∃ n k, pnum (s.data.toList.drop a) = (n, k, 0) ∧ 0 < k ∧ a + k ≤ s.size ∧ k ≤ 10 ∧ n < 18446744073709551616) ∨ ∃ n k x, pnum (s.data.toList.drop a) = (n, k, x) ∧ x ≠ 0 := by
  rcases pnum_cases (s.data.toList.drop a) with ⟨n, k, h, h1, h2, h3, h4⟩ | h | h
  · left; exact ⟨n, k, h, h1, by simp at h2; omega, h3, h4⟩
  · right; exact ⟨_, _, _, h, by decide⟩
  · right; exact ⟨_, _, _, h, by decide⟩
end Go.Proofs.YtidghoipmggklaaGreat
