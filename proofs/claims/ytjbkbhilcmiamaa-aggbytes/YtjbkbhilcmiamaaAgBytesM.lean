/- An aggregate's bytes are read as that aggregate. No walk here. -/
import Derived.Test.YtjbkbhilcmiamaaAgPut
import Derived.Test.YtjbkbhilcmiamaaAgTake
import Derived.Test.YtjbkbhilcmiamaaGrRound
namespace Go.Proofs.Ytjbkbhilcmiamaa
open Go.RowKit
/-- The first so many kinds of an aggregate. -/
def cutO (o : Nat → Option Int) (k : Nat) : Nat → Option Int := fun i => if i < k then o i else none
theorem cutO_none {o : Nat → Option Int} {k : Nat} (h : o k = none) : cutO o (k + 1) = cutO o k := by
  funext i
  unfold cutO
  by_cases hi : i = k
  · subst hi; rw [if_pos (by omega), if_neg (by omega), h]
  · by_cases hl : i < k
    · rw [if_pos (by omega), if_pos hl]
    · rw [if_neg (by omega), if_neg hl]
theorem cutO_some {o : Nat → Option Int} {k : Nat} {v : Int} (h : o k = some v) : cutO o (k + 1) = upd (cutO o k) k (some v) := by
  funext i
  unfold cutO upd
  by_cases hi : i = k
  · subst hi; rw [if_pos (by omega), if_pos rfl, h]
  · rw [if_neg hi]
    show _ = if i < k then o i else none
    by_cases hl : i < k
    · rw [if_pos (by omega), if_pos hl]
    · rw [if_neg (by omega), if_neg hl]
theorem bool_at {s : ByteArray} {a c : List UInt8} {b : Bool} (h : s.data.toList = a ++ (numB b.toNat ++ c)) : rdBool s a.length 0 = (b, (a ++ numB b.toNat).length, 0) := by
  have hp : pnum (s.data.toList.drop a.length) = (b.toNat, (numB b.toNat).length, 0) := by
    rw [h, List.drop_left']
    · exact pnum_num c (by cases b <;> decide)
    · rfl
  rw [show rdBool s a.length 0 = _ from rd_ok hp]
  cases b <;> simp
theorem sg_at {s : ByteArray} {a c : List UInt8} {v : Int} (hv : I64 v) (h : s.data.toList = a ++ (sgB v ++ c)) : ∃ t, rdNum s a.length 0 = (t, (a ++ sgB v).length, 0) ∧ unfoldN t = v :=
  ⟨(foldN v).toNat, num_at h (fold_lt hv), sg_back hv⟩
theorem putK_split (o : Nat → Option Int) (k : Nat) : ∀ j, ∃ c, putK o (k + j) = putK o k ++ c
  | 0 => ⟨[], by simp⟩
  | j + 1 => by
    obtain ⟨c, hc⟩ := putK_split o k j
    exact ⟨c ++ pbit o (k + j), by rw [show k + (j + 1) = k + j + 1 by omega, putK_succ, hc, List.append_assoc]⟩
/-- So many kinds are taken off their bytes. -/
theorem tk_put {s : ByteArray} {o : Nat → Option Int} {t : List UInt8} (ho : OkO o) (h : s.data.toList = putK o 5 ++ t) : ∀ k, k ≤ 5 → tk s 0 0 k = (cutO o k, (putK o k).length, 0)
  | 0, _ => by
    show (_, _, _) = _
    congr 1
  | k + 1, hk => by
    have ih := tk_put ho h k (by omega)
    obtain ⟨c, hc⟩ := putK_split o (k + 1) (5 - (k + 1))
    rw [show k + 1 + (5 - (k + 1)) = 5 by omega] at hc
    rw [hc, putK_succ] at h
    cases e : o k with
    | none =>
      rw [pbit_none e] at h
      have hb := bool_at (b := false) (s := s) (a := putK o k) (c := c ++ t) (by rw [h]; simp [numB, numG])
      rw [tk_no ih hb, cutO_none e, putK_succ, pbit_none e]
      rfl
    | some v =>
      rw [pbit_some e] at h
      have hb := bool_at (b := true) (s := s) (a := putK o k) (c := sgB v ++ (c ++ t)) (by rw [h]; simp [numB, numG])
      obtain ⟨n, hn, hv⟩ := sg_at (s := s) (a := putK o k ++ numB true.toNat) (c := c ++ t) (v := v) (i6_i64 (ho k v e)) (by rw [h]; simp [numB, numG])
      rw [tk_yes ih hb hn, hv, cutO_some e, putK_succ, pbit_some e]
      congr 2
      simp [numB, numG]
theorem tk_all {o : Nat → Option Int} (s : ByteArray) (ho : OkO o) : (tk (str (putK o 5) ++ s) 0 0 5).2 = ((putK o 5).length, 0) ∧ AOc (takeO (str (putK o 5) ++ s) 0 0) = AOc o := by
  have h := tk_put (s := str (putK o 5) ++ s) (o := o) (t := s.data.toList) ho (by rw [ByteArray.data_append]; simp [str_list]) 5 (by decide)
  refine ⟨by rw [h], ?_⟩
  unfold takeO
  rw [h]
  rfl
theorem tk_le {s : ByteArray} {a : Nat} {e : Int} (ha : a ≤ s.size) : ∀ k, (tk s a e k).2.1 ≤ s.size
  | 0 => ha
  | k + 1 => by
    have ih := tk_le (e := e) ha k
    obtain ⟨⟨b, a1, e1⟩, hq⟩ : ∃ q, rdBool s (tk s a e k).2.1 (tk s a e k).2.2 = q := ⟨_, rfl⟩
    have h1 := rdBool_le ih hq
    cases b with
    | false => rw [tk_no (o := (tk s a e k).1) (a' := (tk s a e k).2.1) (e' := (tk s a e k).2.2) rfl hq]; exact h1
    | true =>
      obtain ⟨⟨t, a2, e2⟩, hn⟩ : ∃ q, rdNum s a1 e1 = q := ⟨_, rfl⟩
      rw [tk_yes (o := (tk s a e k).1) (a' := (tk s a e k).2.1) (e' := (tk s a e k).2.2) rfl hq hn]
      exact (rdNum_to h1 hn).1
end Go.Proofs.Ytjbkbhilcmiamaa
