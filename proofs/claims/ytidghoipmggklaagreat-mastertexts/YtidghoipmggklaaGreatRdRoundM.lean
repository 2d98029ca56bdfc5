import Derived.Test.YtidghoipmggklaaGreatGrTakeMM
/- Numbers at a place in bytes, and what bytes were read as a number. -/
namespace Go.Proofs.YtidghoipmggklaaGreat
open Go.RowKit
theorem at_drop {l a c : List UInt8} (h : l = a ++ c) : l.drop a.length = c := by rw [h, List.drop_left]
theorem num_at {s : ByteArray} {a c : List UInt8} {n : Nat} (h : s.data.toList = a ++ (numB n ++ c)) (hn : n < 18446744073709551616) : rdNum s a.length 0 = (n, (a ++ numB n).length, 0) := by
  have : pnum (s.data.toList.drop a.length) = (n, (numB n).length, 0) := by rw [at_drop h]; exact pnum_num c hn
  rw [List.length_append]; exact rd_ok this
theorem count_at {s : ByteArray} {a c : List UInt8} {n most : Nat} (h : s.data.toList = a ++ (numB n ++ c)) (hn : n ≤ most) (hm : most < 18446744073709551616) : rdCount s a.length 0 most = (n, (a ++ numB n).length, 0) := by
  have : pnum (s.data.toList.drop a.length) = (n, (numB n).length, 0) := by rw [at_drop h]; exact pnum_num c (by omega)
  rw [List.length_append]
  exact (rd_ok this).trans (if_neg (by omega))
theorem sg_back {k : Int} (h : I64 k) : unfoldN ((foldN k).toNat : Nat) = k := by
  rw [Int.toNat_of_nonneg (fold_bd k h.1 h.2).1, unfold_fold]
end Go.Proofs.YtidghoipmggklaaGreat
