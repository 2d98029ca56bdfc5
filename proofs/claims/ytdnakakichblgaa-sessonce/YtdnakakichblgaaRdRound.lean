/- Numbers at a place in bytes, and what bytes were read as a number. -/
import Derived.Test.YtdnakakichblgaaGrTakeM
namespace Go.Proofs.Ytdnakakichblgaa
open Go.RowKit
theorem at_drop {l a c : List UInt8} (h : l = a ++ c) : l.drop a.length = c := by rw [h, List.drop_left]
theorem num_at {s : ByteArray} {a c : List UInt8} {n : Nat} (h : s.data.toList = a ++ (numB n ++ c)) (hn : n < 18446744073709551616) : rdNum s a.length 0 = (n, (a ++ numB n).length, 0) := by
  have : pnum (s.data.toList.drop a.length) = (n, (numB n).length, 0) := by rw [at_drop h]; exact pnum_num c hn
  rw [List.length_append]; exact rd_ok this
theorem count_at {s : ByteArray} {a c : List UInt8} {n most : Nat} (h : s.data.toList = a ++ (numB n ++ c)) (hn : n ≤ most) (hm : most < 18446744073709551616) : rdCount s a.length 0 most = (n, (a ++ numB n).length, 0) := by
  have : pnum (s.data.toList.drop a.length) = (n, (numB n).length, 0) := by rw [at_drop h]; exact pnum_num c (by omega)
  rw [List.length_append]
  exact (rd_ok this).trans (if_neg (by omega))
theorem sg_back {k : Int} (h : I64 k) : unfoldN ((foldN k).toNat : Nat) = k := by
  rw [Int.toNat_of_nonneg (fold_bd k h.1 h.2).1, unfold_fold]
theorem rdNum_only {s : ByteArray} {a n a' : Nat} {e : Int} (ha : a ≤ s.size) (h : rdNum s a e = (n, a', 0)) : s.data.toList.drop a = numB n ++ s.data.toList.drop a' := by
  have he := (rdNum_to ha h).2.2 rfl
  subst he
  rcases three s a ha with ⟨m, k, hp, h1, h2, h3, h4⟩ | ⟨m, k, x, hp, hx⟩
  · rw [show rdNum s a 0 = (m, a + k, 0) from rd_ok hp] at h
    simp only [Prod.mk.injEq] at h
    obtain ⟨rfl, rfl, _⟩ := h
    rw [← pnum_only hp, ← List.drop_drop, List.take_append_drop]
  · rw [show rdNum s a 0 = (0, a, (x : Int)) from rd_bad hp hx] at h
    simp only [Prod.mk.injEq] at h
    omega
theorem rdCount_only {s : ByteArray} {a n a' : Nat} {e : Int} {most : Nat} (ha : a ≤ s.size) (h : rdCount s a e most = (n, a', 0)) : s.data.toList.drop a = numB n ++ s.data.toList.drop a' := by
  have he := (rdCount_to ha h).2.2.1 rfl
  subst he
  rcases three s a ha with ⟨m, k, hp, h1, h2, h3, h4⟩ | ⟨m, k, x, hp, hx⟩
  · have hq : rdCount s a 0 most = if (most : Int) < 0 ∨ (most : Int) < m then (0, a, 5) else (m, a + k, 0) := rd_ok hp
    rw [hq] at h
    split at h
    · simp only [Prod.mk.injEq] at h
      omega
    · simp only [Prod.mk.injEq] at h
      obtain ⟨rfl, rfl, _⟩ := h
      rw [← pnum_only hp, ← List.drop_drop, List.take_append_drop]
  · rw [show rdCount s a 0 most = (0, a, (x : Int)) from rd_bad hp hx] at h
    simp only [Prod.mk.injEq] at h
    omega
theorem sg_num {n : Nat} : sgB (unfoldN n) = numB n := by
  unfold sgB; rw [fold_unfold _ (by omega)]; rfl
end Go.Proofs.Ytdnakakichblgaa
