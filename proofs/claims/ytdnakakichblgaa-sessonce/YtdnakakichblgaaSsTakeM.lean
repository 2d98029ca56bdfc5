/- A table off bytes, on plain data. -/
import Derived.Test.YtdnakakichblgaaSsPut
import Derived.Test.YtdnakakichblgaaRdRound
import Derived.Test.YtdnakakichblgaaReader2
namespace Go.Proofs.Ytdnakakichblgaa
open Go.RowKit
/-- Whether a request may stand behind others. -/
def follB (L : List Req) (x : Req) : Bool := decide (0 < x.n) && (match L[L.length - 1]? with | some y => decide (y.k < x.k) | none => true)
def rdReqs (s : ByteArray) : Nat → List Req → Nat → Int → List Req × Nat × Int
  | 0, L, a, e => (L, a, e)
  | m + 1, L, a, e =>
    rdReqs s m (L ++ [⟨unfoldN (rdNum s a e).1, (rdCount s (rdNum s a e).2.1 (rdNum s a e).2.2 2147483647).1, (rdText s (rdCount s (rdNum s a e).2.1 (rdNum s a e).2.2 2147483647).2.1 (rdCount s (rdNum s a e).2.1 (rdNum s a e).2.2 2147483647).2.2).1⟩])
      (rdText s (rdCount s (rdNum s a e).2.1 (rdNum s a e).2.2 2147483647).2.1 (rdCount s (rdNum s a e).2.1 (rdNum s a e).2.2 2147483647).2.2).2.1
      (if follB L ⟨unfoldN (rdNum s a e).1, (rdCount s (rdNum s a e).2.1 (rdNum s a e).2.2 2147483647).1, (rdText s (rdCount s (rdNum s a e).2.1 (rdNum s a e).2.2 2147483647).2.1 (rdCount s (rdNum s a e).2.1 (rdNum s a e).2.2 2147483647).2.2).1⟩ = true
        then (rdText s (rdCount s (rdNum s a e).2.1 (rdNum s a e).2.2 2147483647).2.1 (rdCount s (rdNum s a e).2.1 (rdNum s a e).2.2 2147483647).2.2).2.2
        else rdFail (rdText s (rdCount s (rdNum s a e).2.1 (rdNum s a e).2.2 2147483647).2.1 (rdCount s (rdNum s a e).2.1 (rdNum s a e).2.2 2147483647).2.2).2.2 6)
theorem rdReqs_step {s : ByteArray} {m : Nat} {L : List Req} {a a1 a2 a3 n1 n2 : Nat} {e e1 e2 e3 : Int} {t : ByteArray} (h1 : rdNum s a e = (n1, a1, e1)) (h2 : rdCount s a1 e1 2147483647 = (n2, a2, e2)) (h3 : rdText s a2 e2 = (t, a3, e3)) :
    rdReqs s (m + 1) L a e = rdReqs s m (L ++ [⟨unfoldN n1, n2, t⟩]) a3 (if follB L ⟨unfoldN n1, n2, t⟩ = true then e3 else rdFail e3 6) := by
  show rdReqs s m _ _ _ = _
  simp only [h1, h2, h3]
def rdTab (s : ByteArray) (a : Nat) (e : Int) : List Req × Nat × Int := rdReqs s (rdCount s a e 64).1 [] (rdCount s a e 64).2.1 (rdCount s a e 64).2.2
theorem rdReqs_len (s : ByteArray) : ∀ (m : Nat) (L : List Req) (a : Nat) (e : Int), (rdReqs s m L a e).1.length = L.length + m
  | 0, _, _, _ => rfl
  | m + 1, L, a, e => by
    show (rdReqs s m _ _ _).1.length = _
    rw [rdReqs_len s m, List.length_append]
    simp
    omega
theorem ext_listS (s : ByteArray) (i j : Nat) : (s.extract i j).data.toList = (s.data.toList.drop i).take (j - i) := by simp
theorem ba_eqS {a b : ByteArray} (h : a.data.toList = b.data.toList) : a = b := by
  cases a; cases b; simp only at h; rw [Array.toList_inj.1 h]
theorem text_atS {s t : ByteArray} {a c : List UInt8} (h : s.data.toList = a ++ (textB t.data.toList ++ c)) (ht : t.size < 18446744073709551616) : rdText s a.length 0 = (t, (a ++ textB t.data.toList).length, 0) := by
  have hl : t.data.toList.length = t.size := by simp
  have h' : s.data.toList = a ++ (numB t.size ++ (t.data.toList ++ c)) := by rw [h]; unfold textB; rw [hl]; simp
  have hs : s.size = a.length + ((numB t.size).length + (t.size + c.length)) := by
    have : s.size = s.data.toList.length := by simp
    rw [this, h']; simp
  have hL : (textB t.data.toList).length = (numB t.size).length + t.size := by unfold textB; simp
  have hp : pnum (s.data.toList.drop a.length) = (t.size, (numB t.size).length, 0) := by rw [at_drop h']; exact pnum_num _ ht
  refine (rd_ok hp).trans ?_
  rw [if_neg (by omega), List.length_append, hL]
  have h2 : s.data.toList = (a ++ numB t.size) ++ (t.data.toList ++ c) := by rw [h']; simp
  have : s.extract (a.length + (numB t.size).length) (a.length + (numB t.size).length + t.size) = t := ba_eqS (by
    rw [ext_listS, show a.length + (numB t.size).length + t.size - (a.length + (numB t.size).length) = t.data.toList.length by omega, show a.length + (numB t.size).length = (a ++ numB t.size).length by simp, at_drop h2, List.take_left])
  rw [this, Nat.add_assoc]
theorem foll_rise {A C : List Req} {x : Req} (h : RiseQ (A ++ x :: C)) (h1 : 1 ≤ x.n) : follB A x = true := by
  unfold follB
  have e1 : decide (0 < x.n) = true := by simp; omega
  rw [e1, Bool.true_and]
  cases e : A[A.length - 1]? with
  | none => rfl
  | some y =>
    have hy : y ∈ A := List.mem_of_getElem? e
    have := (List.pairwise_append.1 h).2.2 y hy x (by simp)
    simpa using this
/-- What is put is read again. -/
theorem rdReqs_enc {s : ByteArray} : ∀ (C A : List Req) (a c : List UInt8), s.data.toList = a ++ (C.flatMap reqB ++ c) → RiseQ (A ++ C) → (∀ x ∈ C, I64 x.k ∧ 1 ≤ x.n ∧ x.n ≤ 2147483647 ∧ x.s.size < 18446744073709551616) →
    rdReqs s C.length A a.length 0 = (A ++ C, (a ++ C.flatMap reqB).length, 0)
  | [], A, a, c, _, _, _ => by simp [rdReqs]
  | x :: C, A, a, c, h, hr, ho => by
    obtain ⟨g1, g2, g3, g4⟩ := ho x (by simp)
    have hb : reqB x = sgB x.k ++ numB x.n.toNat ++ textB x.s.data.toList := rfl
    rw [List.flatMap_cons, hb] at h
    have k1 := num_at (s := s) (a := a) (c := numB x.n.toNat ++ (textB x.s.data.toList ++ (C.flatMap reqB ++ c))) (n := (foldN x.k).toNat) (by rw [h]; unfold sgB; simp only [List.append_assoc]) (fold_lt g1)
    have k2 := count_at (s := s) (a := a ++ sgB x.k) (c := textB x.s.data.toList ++ (C.flatMap reqB ++ c)) (n := x.n.toNat) (most := 2147483647) (by rw [h]; simp only [List.append_assoc]) (by omega) (by decide)
    have k3 := text_atS (s := s) (t := x.s) (a := a ++ sgB x.k ++ numB x.n.toNat) (c := C.flatMap reqB ++ c) (by rw [h]; simp only [List.append_assoc]) g4
    have e0 : (unfoldN ((foldN x.k).toNat : Nat)) = x.k := sg_back g1
    have hx : (⟨unfoldN ((foldN x.k).toNat : Nat), ((x.n.toNat : Nat) : Int), x.s⟩ : Req) = x := by
      rw [e0, Int.toNat_of_nonneg (by omega)]
    rw [List.length_cons, rdReqs_step k1 k2 k3, hx, foll_rise hr g2, if_pos rfl]
    have := rdReqs_enc C (A ++ [x]) (a ++ sgB x.k ++ numB x.n.toNat ++ textB x.s.data.toList) c (by rw [h]; simp only [List.append_assoc]) (by simpa using hr) (fun y hy => ho y (List.mem_cons_of_mem _ hy))
    rw [this, List.flatMap_cons, hb]
    simp only [List.append_assoc, List.singleton_append]
theorem rdTab_enc {s : ByteArray} {L : List Req} (h : s.data.toList = tabB L) (hT : Tab L) (ho : ∀ x ∈ L, I64 x.k ∧ x.n ≤ 2147483647 ∧ x.s.size < 18446744073709551616) : rdTab s 0 0 = (L, s.size, 0) := by
  have k0 := count_at (s := s) (a := []) (c := L.flatMap reqB) (n := L.length) (most := 64) (by rw [h]; simp [tabB]) hT.few (by decide)
  have k1 := rdReqs_enc (s := s) L [] (numB L.length) [] (by rw [h]; simp [tabB]) (by simpa using hT.rise) (fun x hx => ⟨(ho x hx).1, hT.one x hx, (ho x hx).2⟩)
  unfold rdTab
  have e : rdCount s 0 0 64 = (L.length, (numB L.length).length, 0) := by simpa using k0
  rw [e]
  simp only
  rw [k1]
  have hs : s.size = (tabB L).length := by rw [← h]; rfl
  simp [hs, tabB]
end Go.Proofs.Ytdnakakichblgaa
