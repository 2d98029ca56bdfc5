import Derived.Test.YtnhjflebaeokeaaGreatGrTakeMM
/- Numbers at a place in bytes, and what bytes were read as a number. -/
namespace Go.Proofs.YtnhjflebaeokeaaGreat
open Go.RowKit
theorem at_drop {l a c : List UInt8} (h : l = a ++ c) : l.drop a.length = c := by rw [h, List.drop_left]
theorem count_at {s : ByteArray} {a c : List UInt8} {n most : Nat} (h : s.data.toList = a ++ (numB n ++ c)) (hn : n ≤ most) (hm : most < 18446744073709551616) : rdCount s a.length 0 most = (n, (a ++ numB n).length, 0) := by
  have : pnum (s.data.toList.drop a.length) = (n, (numB n).length, 0) := by rw [at_drop h]; exact pnum_num c (by omega)
  rw [List.length_append]
  exact (rd_ok this).trans (if_neg (by omega))
end Go.Proofs.YtnhjflebaeokeaaGreat
