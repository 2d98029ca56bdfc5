import Derived.Test.YtidghoipmggklaaGreatMaPrM
import Derived.Test.YtidghoipmggklaaGreatMaPjM
import Derived.Test.YtidghoipmggklaaGreatGrRefM
import Derived.Test.YtidghoipmggklaaGreatMaTtM
section
/- An aggregate's bytes are read as that aggregate. No walk here. -/
namespace Go.Proofs.YtidghoipmggklaaGreat
open Go.RowKit
/-- The first so many kinds of an aggregate. -/
def cutO (o : Nat → Option Int) (k : Nat) : Nat → Option Int := fun i => if i < k then o i else none
theorem cutO_none {o : Nat → Option Int} {k : Nat} (h : o k = none) : cutO o (k + 1) = cutO o k := by
  funext i
  unfold cutO
  by_cases hi : i = k
  · subst hi; rw [if_pos (by omega), if_neg (by omega), h]
  · by_cases hl : i < k
    · rw [if_pos (by omega), if_pos hl]
    · rw [if_neg (by omega), if_neg hl]
theorem cutO_some {o : Nat → Option Int} {k : Nat} {v : Int} (h : o k = some v) : cutO o (k + 1) = updA (cutO o k) k (some v) := by
  funext i
  unfold cutO updA
  by_cases hi : i = k
  · subst hi; rw [if_pos (by omega), if_pos rfl, h]
  · rw [if_neg hi]
    show _ = if i < k then o i else none
    by_cases hl : i < k
    · rw [if_pos (by omega), if_pos hl]
    · rw [if_neg (by omega), if_neg hl]
theorem bool_at {s : ByteArray} {a c : List UInt8} {b : Bool} (h : s.data.toList = a ++ (numB b.toNat ++ c)) : rdBool s a.length 0 = (b, (a ++ numB b.toNat).length, 0) := by
  have hp : pnum (s.data.toList.drop a.length) = (b.toNat, (numB b.toNat).length, 0) := by
    rw [h, List.drop_left']
    · exact pnum_num c (by cases b <;> decide)
    · rfl
  rw [show rdBool s a.length 0 = _ from rd_ok hp]
  cases b <;> simp
theorem sg_at {s : ByteArray} {a c : List UInt8} {v : Int} (hv : I64 v) (h : s.data.toList = a ++ (sgB v ++ c)) : ∃ t, rdNum s a.length 0 = (t, (a ++ sgB v).length, 0) ∧ unfoldN t = v :=
  ⟨(foldN v).toNat, num_at h (fold_lt hv), sg_back hv⟩
theorem putK_split (o : Nat → Option Int) (k : Nat) : ∀ j, ∃ c, putK o (k + j) = putK o k ++ c
  | 0 => ⟨[], by simp⟩
  | j + 1 => by
    obtain ⟨c, hc⟩ := putK_split o k j
    exact ⟨c ++ pbit o (k + j), by rw [show k + (j + 1) = k + j + 1 by omega, putK_succ, hc, List.append_assoc]⟩
end Go.Proofs.YtidghoipmggklaaGreat
end

section
/- What a report's and a task's bytes are read as. No walk here. -/
namespace Go.Proofs.YtidghoipmggklaaGreat
open Go.RowKit
/-- So many kinds are taken off their bytes, wherever these stand. -/
theorem tk_putA {s : ByteArray} {o : Nat → Option Int} {a t : List UInt8} (ho : OkO o) (h : s.data.toList = a ++ (putK o 5 ++ t)) : ∀ k, k ≤ 5 → tk s a.length 0 k = (cutO o k, (a ++ putK o k).length, 0)
  | 0, _ => by
    show (_, _, _) = _
    simp [putK]
    rfl
  | k + 1, hk => by
    have ih := tk_putA ho h k (by omega)
    obtain ⟨c, hc⟩ := putK_split o (k + 1) (5 - (k + 1))
    rw [show k + 1 + (5 - (k + 1)) = 5 by omega] at hc
    rw [hc, putK_succ] at h
    cases e : o k with
    | none =>
      rw [pbit_none e] at h
      have hb := bool_at (b := false) (s := s) (a := a ++ putK o k) (c := c ++ t) (by rw [h]; simp [numB, numG])
      rw [tk_no ih hb, cutO_none e, putK_succ, pbit_none e]
      simp [numB, numG]
    | some v =>
      rw [pbit_some e] at h
      have hb := bool_at (b := true) (s := s) (a := a ++ putK o k) (c := sgB v ++ (c ++ t)) (by rw [h]; simp [numB, numG])
      obtain ⟨n, hn, hv⟩ := sg_at (s := s) (a := a ++ putK o k ++ numB true.toNat) (c := c ++ t) (v := v) (i6_i64 (ho k v e)) (by rw [h]; simp [numB, numG])
      rw [tk_yes ih hb hn, hv, cutO_some e, putK_succ, pbit_some e]
      congr 2
      simp [numB, numG]
/-- Values are read as they were put. -/
theorem vl_at : ∀ (M : List Ed) {s : ByteArray} {a c : List UInt8} {L : List Ed}, s.data.toList = a ++ (M.flatMap edB ++ c) → (∀ m ∈ M, m.ok) → rdVl s M.length a.length 0 L = (L ++ M, (a ++ M.flatMap edB).length, 0)
  | [], s, a, c, L, _, _ => by simp [rdVl]
  | m :: M, s, a, c, L, h, hok => by
    have hm := hok m (by simp)
    rw [List.flatMap_cons, show edB m = sgB m.t ++ sgB m.w from rfl] at h
    obtain ⟨n1, h1, u1⟩ := sg_at (s := s) (a := a) (c := sgB m.w ++ (M.flatMap edB ++ c)) (v := m.t) hm.t (by rw [h]; simp only [List.append_assoc])
    obtain ⟨n2, h2, u2⟩ := sg_at (s := s) (a := a ++ sgB m.t) (c := M.flatMap edB ++ c) (v := m.w) hm.w (by rw [h]; simp only [List.append_assoc])
    rw [List.length_cons, rdVl_go h1 h2, u1, u2]
    have ih := vl_at M (s := s) (a := a ++ sgB m.t ++ sgB m.w) (c := c) (L := L ++ [⟨m.t, m.w⟩]) (by rw [h]; simp only [List.append_assoc]) (fun x hx => hok x (by simp [hx]))
    rw [ih, List.flatMap_cons, show edB m = sgB m.t ++ sgB m.w from rfl]
    simp only [List.append_assoc, List.singleton_append]
/-- Numbers are read as they were put. -/
theorem ns_at : ∀ (M : List Nat) {s : ByteArray} {a c : List UInt8} {L : List Int}, s.data.toList = a ++ (nmB (M.map Int.ofNat) ++ c) → (∀ m ∈ M, m ≤ 2147483647) → rdNs s M.length a.length 0 L = (L ++ M.map Int.ofNat, (a ++ nmB (M.map Int.ofNat)).length, 0)
  | [], s, a, c, L, _, _ => by simp [rdNs, nmB]
  | m :: M, s, a, c, L, h, hok => by
    have hm := hok m (by simp)
    have e : nmB ((m :: M).map Int.ofNat) = numB m ++ nmB (M.map Int.ofNat) := by simp [nmB]
    rw [e] at h
    have h1 := count_at (s := s) (a := a) (c := nmB (M.map Int.ofNat) ++ c) (n := m) (most := 2147483647) (by rw [h]; simp only [List.append_assoc]) hm (by decide)
    rw [List.length_cons, rdNs_step h1]
    have ih := ns_at M (s := s) (a := a ++ numB m) (c := c) (L := L ++ [(m : Int)]) (by rw [h]; simp only [List.append_assoc]) (fun x hx => hok x (by simp [hx]))
    rw [ih, e]
    simp only [List.append_assoc, List.map_cons, List.singleton_append]
    rfl
/-- A report's bytes are read as that report. -/
theorem rp_back {s : ByteArray} {a c : List UInt8} {x0 x1 x2 x3 x4 x5 x6 x7 x8 : Nat} {o : Nat → Option Int} {L : List Ed} (ho : OkO o) (hok : ∀ m ∈ L, m.ok) (hl : L.length ≤ 256) (hx : ∀ x ∈ [x0, x1, x2, x3, x4, x5, x6, x7, x8], x ≤ 2147483647) (h : s.data.toList = a ++ (rpB [((x0 : Nat) : Int), ((x1 : Nat) : Int), ((x2 : Nat) : Int), ((x3 : Nat) : Int), ((x4 : Nat) : Int), ((x5 : Nat) : Int), ((x6 : Nat) : Int), ((x7 : Nat) : Int), ((x8 : Nat) : Int)] o L ++ c)) :
    ∃ a1 a2 a3 a4 a5 a6 a7 a8 a9 aa an, RpR s a.length 0 x0 x1 x2 x3 x4 x5 x6 x7 x8 a1 a2 a3 a4 a5 a6 a7 a8 a9 0 0 0 0 0 0 0 0 0 (cutO o 5) aa 0 L.length an 0 L (a ++ rpB [((x0 : Nat) : Int), ((x1 : Nat) : Int), ((x2 : Nat) : Int), ((x3 : Nat) : Int), ((x4 : Nat) : Int), ((x5 : Nat) : Int), ((x6 : Nat) : Int), ((x7 : Nat) : Int), ((x8 : Nat) : Int)] o L).length 0 := by
  have e : rpB [((x0 : Nat) : Int), ((x1 : Nat) : Int), ((x2 : Nat) : Int), ((x3 : Nat) : Int), ((x4 : Nat) : Int), ((x5 : Nat) : Int), ((x6 : Nat) : Int), ((x7 : Nat) : Int), ((x8 : Nat) : Int)] o L = numB x0 ++ (numB x1 ++ (numB x2 ++ (numB x3 ++ (numB x4 ++ (numB x5 ++ (numB x6 ++ (numB x7 ++ (numB x8 ++ (putK o 5 ++ (numB L.length ++ L.flatMap edB)))))))))) := by
    simp [rpB, nmB]
  rw [e] at h ⊢
  have h0 := count_at (s := s) (a := a) (n := x0) (most := 2147483647) (c := _) (by rw [h]; simp only [List.append_assoc]; rfl) (hx x0 (by simp)) (by decide)
  have h1 := count_at (s := s) (a := a ++ numB x0) (n := x1) (most := 2147483647) (c := _) (by rw [h]; simp only [List.append_assoc]; rfl) (hx x1 (by simp)) (by decide)
  have h2 := count_at (s := s) (a := a ++ numB x0 ++ numB x1) (n := x2) (most := 2147483647) (c := _) (by rw [h]; simp only [List.append_assoc]; rfl) (hx x2 (by simp)) (by decide)
  have h3 := count_at (s := s) (a := a ++ numB x0 ++ numB x1 ++ numB x2) (n := x3) (most := 2147483647) (c := _) (by rw [h]; simp only [List.append_assoc]; rfl) (hx x3 (by simp)) (by decide)
  have h4 := count_at (s := s) (a := a ++ numB x0 ++ numB x1 ++ numB x2 ++ numB x3) (n := x4) (most := 2147483647) (c := _) (by rw [h]; simp only [List.append_assoc]; rfl) (hx x4 (by simp)) (by decide)
  have h5 := count_at (s := s) (a := a ++ numB x0 ++ numB x1 ++ numB x2 ++ numB x3 ++ numB x4) (n := x5) (most := 2147483647) (c := _) (by rw [h]; simp only [List.append_assoc]; rfl) (hx x5 (by simp)) (by decide)
  have h6 := count_at (s := s) (a := a ++ numB x0 ++ numB x1 ++ numB x2 ++ numB x3 ++ numB x4 ++ numB x5) (n := x6) (most := 2147483647) (c := _) (by rw [h]; simp only [List.append_assoc]; rfl) (hx x6 (by simp)) (by decide)
  have h7 := count_at (s := s) (a := a ++ numB x0 ++ numB x1 ++ numB x2 ++ numB x3 ++ numB x4 ++ numB x5 ++ numB x6) (n := x7) (most := 2147483647) (c := _) (by rw [h]; simp only [List.append_assoc]; rfl) (hx x7 (by simp)) (by decide)
  have h8 := count_at (s := s) (a := a ++ numB x0 ++ numB x1 ++ numB x2 ++ numB x3 ++ numB x4 ++ numB x5 ++ numB x6 ++ numB x7) (n := x8) (most := 2147483647) (c := _) (by rw [h]; simp only [List.append_assoc]; rfl) (hx x8 (by simp)) (by decide)
  have hk := tk_putA (s := s) (o := o) (a := a ++ numB x0 ++ numB x1 ++ numB x2 ++ numB x3 ++ numB x4 ++ numB x5 ++ numB x6 ++ numB x7 ++ numB x8) (t := numB L.length ++ L.flatMap edB ++ c) ho (by rw [h]; simp only [List.append_assoc]) 5 (by decide)
  have hn := count_at (s := s) (a := a ++ numB x0 ++ numB x1 ++ numB x2 ++ numB x3 ++ numB x4 ++ numB x5 ++ numB x6 ++ numB x7 ++ numB x8 ++ putK o 5) (n := L.length) (most := 256) (c := L.flatMap edB ++ c) (by rw [h]; simp only [List.append_assoc]) hl (by decide)
  have hv := vl_at L (s := s) (a := a ++ numB x0 ++ numB x1 ++ numB x2 ++ numB x3 ++ numB x4 ++ numB x5 ++ numB x6 ++ numB x7 ++ numB x8 ++ putK o 5 ++ numB L.length) (c := c) (L := []) (by rw [h]; simp only [List.append_assoc]) hok
  refine ⟨_, _, _, _, _, _, _, _, _, _, _, ⟨h0, h1, h2, h3, h4, h5, h6, h7, h8, ?_, by rw [hk], hn, ?_⟩⟩
  · unfold takeO
    rw [hk]
    rfl
  · rw [hv]
    simp only [List.append_assoc, List.nil_append]
/-- A task's bytes are read as that task. -/
theorem ts_back {s : ByteArray} {a c : List UInt8} {x0 x1 x2 x3 x4 x5 x6 : Nat} {P A : List Nat} {kp : Bool} {o : Nat → Option Int} {t : ByteArray} {G : List Vx} {ps : List Int} {st se pa : Nat} (ho : OkO o) (hx : ∀ x ∈ [x0, x1, x2, x3, x4, x5, x6], x ≤ 2147483647) (hp : P.length ≤ 16) (hpx : ∀ x ∈ P, x ≤ 2147483647) (hq : A.length ≤ 16) (hqx : ∀ x ∈ A, x ≤ 2147483647) (hok : ∀ v ∈ G, v.ok) (hpk : ∀ x ∈ ps, I64 x) (hj : jobN t G ps st se pa = 0) (h : s.data.toList = a ++ (tsB [((x0 : Nat) : Int), ((x1 : Nat) : Int), ((x2 : Nat) : Int), ((x3 : Nat) : Int), ((x4 : Nat) : Int), ((x5 : Nat) : Int), ((x6 : Nat) : Int)] (P.map Int.ofNat) (A.map Int.ofNat) kp o t G ps st se pa ++ c)) :
    ∃ a1 a2 a3 a4 a5 a6 a7 b1 b2 b3 b4 b5 b6 j1 j2 j3 j4 j5 j6, TsR s a.length 0 x0 x1 x2 x3 x4 x5 x6 a1 a2 a3 a4 a5 a6 a7 0 0 0 0 0 0 0 P.length b1 0 (P.map Int.ofNat) b2 0 A.length b3 0 (A.map Int.ofNat) b4 0 kp b5 0 (cutO o 5) b6 0 t G ps.length ps st se pa j1 j2 j3 j4 j5 j6 (a ++ tsB [((x0 : Nat) : Int), ((x1 : Nat) : Int), ((x2 : Nat) : Int), ((x3 : Nat) : Int), ((x4 : Nat) : Int), ((x5 : Nat) : Int), ((x6 : Nat) : Int)] (P.map Int.ofNat) (A.map Int.ofNat) kp o t G ps st se pa).length 0 0 0 0 0 0 0 0 := by
  have hk := jobN_ok hj
  have e : tsB [((x0 : Nat) : Int), ((x1 : Nat) : Int), ((x2 : Nat) : Int), ((x3 : Nat) : Int), ((x4 : Nat) : Int), ((x5 : Nat) : Int), ((x6 : Nat) : Int)] (P.map Int.ofNat) (A.map Int.ofNat) kp o t G ps st se pa = numB x0 ++ (numB x1 ++ (numB x2 ++ (numB x3 ++ (numB x4 ++ (numB x5 ++ (numB x6 ++ (numB P.length ++ (nmB (P.map Int.ofNat) ++ (numB A.length ++ (nmB (A.map Int.ofNat) ++ (numB kp.toNat ++ (putK o 5 ++ (jobB t G ps st se pa))))))))))))) := by
    simp [tsB, nmB]
  rw [e] at h ⊢
  have h0 := count_at (s := s) (a := a) (n := x0) (most := 2147483647) (c := _) (by rw [h]; simp only [List.append_assoc]; rfl) (hx x0 (by simp)) (by decide)
  have h1 := count_at (s := s) (a := a ++ numB x0) (n := x1) (most := 2147483647) (c := _) (by rw [h]; simp only [List.append_assoc]; rfl) (hx x1 (by simp)) (by decide)
  have h2 := count_at (s := s) (a := a ++ numB x0 ++ numB x1) (n := x2) (most := 2147483647) (c := _) (by rw [h]; simp only [List.append_assoc]; rfl) (hx x2 (by simp)) (by decide)
  have h3 := count_at (s := s) (a := a ++ numB x0 ++ numB x1 ++ numB x2) (n := x3) (most := 2147483647) (c := _) (by rw [h]; simp only [List.append_assoc]; rfl) (hx x3 (by simp)) (by decide)
  have h4 := count_at (s := s) (a := a ++ numB x0 ++ numB x1 ++ numB x2 ++ numB x3) (n := x4) (most := 2147483647) (c := _) (by rw [h]; simp only [List.append_assoc]; rfl) (hx x4 (by simp)) (by decide)
  have h5 := count_at (s := s) (a := a ++ numB x0 ++ numB x1 ++ numB x2 ++ numB x3 ++ numB x4) (n := x5) (most := 2147483647) (c := _) (by rw [h]; simp only [List.append_assoc]; rfl) (hx x5 (by simp)) (by decide)
  have h6 := count_at (s := s) (a := a ++ numB x0 ++ numB x1 ++ numB x2 ++ numB x3 ++ numB x4 ++ numB x5) (n := x6) (most := 2147483647) (c := _) (by rw [h]; simp only [List.append_assoc]; rfl) (hx x6 (by simp)) (by decide)
  have hc1 := count_at (s := s) (a := a ++ numB x0 ++ numB x1 ++ numB x2 ++ numB x3 ++ numB x4 ++ numB x5 ++ numB x6) (n := P.length) (most := 16) (c := _) (by rw [h]; simp only [List.append_assoc]; rfl) hp (by decide)
  have hl1 := ns_at P (s := s) (a := a ++ numB x0 ++ numB x1 ++ numB x2 ++ numB x3 ++ numB x4 ++ numB x5 ++ numB x6 ++ numB P.length) (c := _) (L := []) (by rw [h]; simp only [List.append_assoc]; rfl) hpx
  have hc2 := count_at (s := s) (a := a ++ numB x0 ++ numB x1 ++ numB x2 ++ numB x3 ++ numB x4 ++ numB x5 ++ numB x6 ++ numB P.length ++ nmB (P.map Int.ofNat)) (n := A.length) (most := 16) (c := _) (by rw [h]; simp only [List.append_assoc]; rfl) hq (by decide)
  have hl2 := ns_at A (s := s) (a := a ++ numB x0 ++ numB x1 ++ numB x2 ++ numB x3 ++ numB x4 ++ numB x5 ++ numB x6 ++ numB P.length ++ nmB (P.map Int.ofNat) ++ numB A.length) (c := _) (L := []) (by rw [h]; simp only [List.append_assoc]; rfl) hqx
  have hb := bool_at (b := kp) (s := s) (a := a ++ numB x0 ++ numB x1 ++ numB x2 ++ numB x3 ++ numB x4 ++ numB x5 ++ numB x6 ++ numB P.length ++ nmB (P.map Int.ofNat) ++ numB A.length ++ nmB (A.map Int.ofNat)) (c := _) (by rw [h]; simp only [List.append_assoc]; rfl)
  have hk5 := tk_putA (s := s) (o := o) (a := a ++ numB x0 ++ numB x1 ++ numB x2 ++ numB x3 ++ numB x4 ++ numB x5 ++ numB x6 ++ numB P.length ++ nmB (P.map Int.ofNat) ++ numB A.length ++ nmB (A.map Int.ofNat) ++ numB kp.toNat) (t := jobB t G ps st se pa ++ c) ho (by rw [h]; simp only [List.append_assoc]) 5 (by decide)
  obtain ⟨j1, j2, j3, j4, j5, j6, hJ⟩ := jr_back (s := s) (a := a ++ numB x0 ++ numB x1 ++ numB x2 ++ numB x3 ++ numB x4 ++ numB x5 ++ numB x6 ++ numB P.length ++ nmB (P.map Int.ofNat) ++ numB A.length ++ nmB (A.map Int.ofNat) ++ numB kp.toNat ++ putK o 5) (c := c) (t := t) (G := G) (ps := ps) (st := st) (se := se) (pa := pa) (by rw [h]; simp only [List.append_assoc]) (by have := known_size hk.known; omega) hok hk.chk hk.len hpk (by have := hk.st; omega) (by have := hk.se; omega) (by have := hk.pa; omega)
  refine ⟨_, _, _, _, _, _, _, _, _, _, _, _, _, j1, j2, j3, j4, j5, j6, ⟨h0, h1, h2, h3, h4, h5, h6, hc1, by rw [hl1]; rfl, hc2, by rw [hl2]; rfl, hb, ?_, by rw [hk5], ?_, ?_⟩⟩
  · unfold takeO
    rw [hk5]
    rfl
  · rw [← List.length_append] at hJ
    simpa only [List.append_assoc] using hJ
  · unfold jErr
    rw [rdFail_0]
    exact hj
end Go.Proofs.YtidghoipmggklaaGreat
end

section
/- What is taken of a report's and a task's bytes that have one more byte behind. No walk here. -/
namespace Go.Proofs.YtidghoipmggklaaGreat
open Go.RowKit
/-- Values in memory, in a block that is so. -/
def VlP (w : World) (P : Nat → Prop) (ao : Option Addr) (L : List Ed) : Prop := 0 < L.length → ∃ b off, ao = some ⟨b, off, none⟩ ∧ P b ∧ ∀ j (h : j < L.length), w.cell? ⟨b, off + j * 2, none⟩ = some (.int .i64 L[j].t) ∧ w.cell? ⟨b, off + j * 2 + 1, none⟩ = some (.int .i64 L[j].w)
theorem VlP.kept {w w' : World} {P Q S : Nat → Prop} {ao : Option Addr} {L : List Ed} (h : VlP w P ao L) (f : Fr w w' S) (hQ : ∀ k, k < w.heap.size → P k → ¬ S k ∧ Q k) : VlP w' Q ao L := fun h0 => by
  obtain ⟨b, off, e, hp, hc⟩ := h h0
  have hb := hQ b (World.block_lt_of_cell? w _ (hc 0 h0).1) hp
  exact ⟨b, off, e, hb.2, fun j hj => ⟨fr_cell f hb.1 (hc j hj).1, fr_cell f hb.1 (hc j hj).2⟩⟩
theorem VlP.new {w w' : World} {P : Nat → Prop} {ao : Option Addr} {L : List Ed} (h : VlP w P ao L) (hb : Below w.heap.size w w') : VlP w' P ao L := h.kept (Fr.ofBelow hb (fun _ => False)) (fun _ _ hp => ⟨fun h => h, hp⟩)
theorem VlP.apart {w : World} {P : Nat → Prop} {ao : Option Addr} {L : List Ed} (h : VlP w P ao L) {p : Nat} {v : Value} (hP : ∀ k, P k → k ≠ p ∧ v.ownBlock ≠ some k) : VlAt w p v ao L := fun h0 => by
  obtain ⟨b, off, e, hp, hc⟩ := h h0
  exact ⟨b, off, e, (hP b hp).1, (hP b hp).2, hc⟩
theorem VO.toP {w : World} {B : Nat} {v : Value} {L : List Ed} (h : VO w B v L) : ∃ ao c, v = .slice ao L.length c ∧ VlP w (fun k => B ≤ k) ao L := by
  have hl := h.lt
  obtain ⟨ao, c, rfl, hc, hg⟩ := GO.shape h
  refine ⟨ao, c, rfl, fun h0 => ?_⟩
  obtain ⟨g, rfl⟩ := hg h0
  refine ⟨g, 0, rfl, (hl g rfl).1, fun j hj => ⟨?_, ?_⟩⟩
  · have := GO.at_ vle_len h j hj 0 (by decide) (u := .int .i64 L[j].t) rfl
    simpa using this
  · have := GO.at_ vle_len h j hj 1 (by decide) (u := .int .i64 L[j].w) rfl
    simpa using this
theorem IO_.toP {w : World} {B : Nat} {v : Value} {L : List Int} (h : IO_ w B v L) : ∃ ao c, v = .slice ao L.length c ∧ L.length ≤ c ∧ IsP w (fun k => B ≤ k) ao L := by
  have hl := h.lt
  obtain ⟨ao, c, rfl, hc, hg⟩ := GO.shape h
  refine ⟨ao, c, rfl, hc, fun h0 => ?_⟩
  obtain ⟨g, rfl⟩ := hg h0
  exact ⟨g, 0, rfl, (hl g rfl).1, fun j hj => by have := IO_.at_ h j hj; simpa using this⟩
theorem IsP.apart {w : World} {P : Nat → Prop} {ao : Option Addr} {L : List Int} (h : IsP w P ao L) {p : Nat} {v : Value} (hP : ∀ k, P k → k ≠ p ∧ v.ownBlock ≠ some k) : NmAt w p v ao L := fun h0 => by
  obtain ⟨b, off, e, hp, hc⟩ := h h0
  exact ⟨b, off, e, (hP b hp).1, (hP b hp).2, hc⟩
theorem rp_len {N : List Int} {o : Nat → Option Int} {L : List Ed} (hn : N.length = 9) (hN : ∀ x ∈ N, x ≤ 9223372036854775807) (ho : OkO o) (hok : ∀ x ∈ L, x.ok) (hl : L.length ≤ 256) : (rpB N o L).length ≤ 6000 := by
  have h1 := nm_len N hN
  have h2 := putK_len ho 5
  have h3 := numB_len10 (n := L.length) (by omega)
  have h4 := vl_len L hok
  unfold rpB
  simp only [List.length_append]
  omega
/-- A report is taken as it was put. -/
theorem take_rp {a0 a1 a2 a3 a4 a5 a6 a7 a8 : Nat} {o : Nat → Option Int} {L : List Ed} {l : List UInt8} (ho : OkO o) (hc : cutO o 5 = o) (hok : ∀ x ∈ L, x.ok) (hl : L.length ≤ 256) (hx : ∀ x ∈ [a0, a1, a2, a3, a4, a5, a6, a7, a8], x ≤ 2147483647) (hl1 : rpB [((a0 : Nat) : Int), ((a1 : Nat) : Int), ((a2 : Nat) : Int), ((a3 : Nat) : Int), ((a4 : Nat) : Int), ((a5 : Nat) : Int), ((a6 : Nat) : Int), ((a7 : Nat) : Int), ((a8 : Nat) : Int)] o L = l) (hlen : l.length ≤ 6000) {W : World} {q : Nat} (h : Rd W q (str l ++ ⟨#[120]⟩) ((0 : Nat) : Int) 0) :
    Calls Tryz.prog 39 #[.pointer (some ⟨q, 0, none⟩)] W fun r w' => (∃ ao c, r = .returned (.agg #[.int .i64 (a0 : Nat), .int .i64 (a1 : Nat), .int .i64 (a2 : Nat), .int .i64 (a3 : Nat), .int .i64 (a4 : Nat), .int .i64 (a5 : Nat), .int .i64 (a6 : Nat), .int .i64 (a7 : Nat), .int .i64 (a8 : Nat), .bool (oh o 0), .bool (oh o 1), .bool (oh o 2), .bool (oh o 3), .bool (oh o 4), .int .i64 (ov o 0), .int .i64 (ov o 1), .int .i64 (ov o 2), .int .i64 (ov o 3), .int .i64 (ov o 4), .slice ao L.length c]) ∧ VlP w' (fun k => W.heap.size ≤ k) ao L) ∧ Rd w' q (str l ++ ⟨#[120]⟩) (l.length : Nat) 0 ∧ Fr W w' (fun k => k = q) := by
  have hs : (str l ++ ⟨#[120]⟩ : ByteArray).size ≤ maxLen := by rw [ByteArray.size_append, str_size, show (⟨#[120]⟩ : ByteArray).size = 1 from rfl]; unfold maxLen; omega
  obtain ⟨b1, b2, b3, b4, b5, b6, b7, b8, b9, ba, bn, hR⟩ := rp_back (s := str l ++ ⟨#[120]⟩) (a := []) (c := [120]) ho hok hl hx (by rw [hl1]; simp [str_list])
  rw [hl1, hc] at hR
  refine (takereport_any h hs (Nat.zero_le _) hR).mono ?_
  rintro r w' ⟨h1, h2, h3⟩
  refine ⟨?_, h2, h3⟩
  rcases h1 with ⟨_, v, rfl, hv⟩ | ⟨e, _⟩
  · obtain ⟨ao, c, rfl, hV⟩ := VO.toP hv
    exact ⟨ao, c, rfl, hV⟩
  · exact absurd rfl e
theorem ts_len {N P A : List Int} {kp : Bool} {o : Nat → Option Int} {t : ByteArray} {G : List Vx} {ps : List Int} {st se pa : Nat} (hn : N.length = 7) (hN : ∀ x ∈ N, x ≤ 9223372036854775807) (hp : P.length ≤ 16) (hP : ∀ x ∈ P, x ≤ 9223372036854775807) (ha : A.length ≤ 16) (hA : ∀ x ∈ A, x ≤ 9223372036854775807) (ho : OkO o) (hok : ∀ v ∈ G, v.ok) (hpk : ∀ x ∈ ps, I64 x) (hj : jobN t G ps st se pa = 0) : (tsB N P A kp o t G ps st se pa).length ≤ 61000 := by
  have hk := jobN_ok hj
  have h1 := nm_len N hN
  have h2 := putK_len ho 5
  have h3 := numB_len10 (n := P.length) (by omega)
  have h4 := numB_len10 (n := A.length) (by omega)
  have h5 := nm_len P hP
  have h6 := nm_len A hA
  have h7 := numB_len10 (n := kp.toNat) (by cases kp <;> decide)
  have h8 := jobB_len (t := t) (known_size hk.known) hok hk.chk hk.len hpk (by have := hk.st; omega : st ≤ 1000) (by have := hk.se; omega : se ≤ 65536) (by have := hk.pa; omega : pa ≤ 16)
  unfold tsB
  simp only [List.length_append]
  omega
/-- A task is taken as it was put. -/
theorem take_ts {a0 a1 a2 a3 a4 a5 a6 : Nat} {P A : List Nat} {kp : Bool} {o : Nat → Option Int} {t : ByteArray} {G : List Vx} {ps : List Int} {st se pa : Nat} {l : List UInt8} (ho : OkO o) (hc : cutO o 5 = o) (hx : ∀ x ∈ [a0, a1, a2, a3, a4, a5, a6], x ≤ 2147483647) (hp : P.length ≤ 16) (hpx : ∀ x ∈ P, x ≤ 2147483647) (hq : A.length ≤ 16) (hqx : ∀ x ∈ A, x ≤ 2147483647) (hok : ∀ v ∈ G, v.ok) (hpk : ∀ x ∈ ps, I64 x) (hj : jobN t G ps st se pa = 0) (hl1 : tsB [((a0 : Nat) : Int), ((a1 : Nat) : Int), ((a2 : Nat) : Int), ((a3 : Nat) : Int), ((a4 : Nat) : Int), ((a5 : Nat) : Int), ((a6 : Nat) : Int)] (P.map Int.ofNat) (A.map Int.ofNat) kp o t G ps st se pa = l) (hlen : l.length ≤ 61000) {W : World} {q : Nat} (h : Rd W q (str l ++ ⟨#[120]⟩) ((0 : Nat) : Int) 0) :
    Calls Tryz.prog 41 #[.pointer (some ⟨q, 0, none⟩)] W fun r w' => (∃ ao ac bo bc go gc po pc, r = .returned (.agg #[.int .i64 (a0 : Nat), .int .i64 (a1 : Nat), .int .i64 (a2 : Nat), .int .i64 (a3 : Nat), .slice ao P.length ac, .slice bo A.length bc, .string t, .slice go G.length gc, .slice po ps.length pc, .int .i64 (st : Int), .int .i64 (se : Int), .int .i64 (pa : Int), .bool (oh o 0), .bool (oh o 1), .bool (oh o 2), .bool (oh o 3), .bool (oh o 4), .int .i64 (ov o 0), .int .i64 (ov o 1), .int .i64 (ov o 2), .int .i64 (ov o 3), .int .i64 (ov o 4), .int .i64 (a4 : Nat), .int .i64 (a5 : Nat), .int .i64 (a6 : Nat), .bool kp]) ∧ P.length ≤ ac ∧ A.length ≤ bc ∧ IsP w' (fun k => W.heap.size ≤ k) ao (P.map Int.ofNat) ∧ IsP w' (fun k => W.heap.size ≤ k) bo (A.map Int.ofNat) ∧ VxAt w' (fun k => W.heap.size ≤ k) go G ∧ IsP w' (fun k => W.heap.size ≤ k) po ps) ∧ Rd w' q (str l ++ ⟨#[120]⟩) (l.length : Nat) 0 ∧ Fr W w' (fun k => k = q) := by
  have hs : (str l ++ ⟨#[120]⟩ : ByteArray).size ≤ maxLen := by rw [ByteArray.size_append, str_size, show (⟨#[120]⟩ : ByteArray).size = 1 from rfl]; unfold maxLen; omega
  obtain ⟨b1, b2, b3, b4, b5, b6, b7, c1, c2, c3, c4, c5, c6, j1, j2, j3, j4, j5, j6, hR⟩ := ts_back (s := str l ++ ⟨#[120]⟩) (a := []) (c := [120]) ho hx hp hpx hq hqx hok hpk hj (by rw [hl1]; simp [str_list])
  rw [hl1, hc] at hR
  refine (taketask_any h hs (Nat.zero_le _) hR).mono ?_
  rintro r w' ⟨h1, h2, h3⟩
  refine ⟨?_, h2, h3⟩
  rcases h1 with ⟨_, v1, v2, go, gc, po, pc, rfl, hv1, hv2, hG, hP⟩ | ⟨e, _⟩
  · obtain ⟨ao, ac, rfl, hac, hV1⟩ := IO_.toP hv1
    obtain ⟨bo, bc, rfl, hbc, hV2⟩ := IO_.toP hv2
    rw [List.length_map] at hac hbc
    refine ⟨ao, ac, bo, bc, go, gc, po, pc, ?_, hac, hbc, hV1, hV2, hG, hP⟩
    rw [List.length_map, List.length_map]
  · exact absurd rfl e
end Go.Proofs.YtidghoipmggklaaGreat
end
