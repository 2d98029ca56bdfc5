import Derived.Test.YtnhjflebaeokeaaGreatVwTkM
/- A message's bytes and back, on plain data. -/
namespace Go.Proofs.YtnhjflebaeokeaaGreat
open Go.RowKit
theorem ba_eqV {a b : ByteArray} (h : a.data.toList = b.data.toList) : a = b := by
  cases a; cases b; simp only at h; rw [Array.toList_inj.1 h]
theorem ext_listV (s : ByteArray) (i j : Nat) : (s.extract i j).data.toList = (s.data.toList.drop i).take (j - i) := by simp
theorem text_atV {s t : ByteArray} {a c : List UInt8} (h : s.data.toList = a ++ (textB t.data.toList ++ c)) (ht : t.size < 18446744073709551616) : rdText s a.length 0 = (t, (a ++ textB t.data.toList).length, 0) := by
  have hl : t.data.toList.length = t.size := by simp
  have h' : s.data.toList = a ++ (numB t.size ++ (t.data.toList ++ c)) := by rw [h]; unfold textB; rw [hl]; simp
  have hs : s.size = a.length + ((numB t.size).length + (t.size + c.length)) := by
    have : s.size = s.data.toList.length := by simp
    rw [this, h']; simp
  have hL : (textB t.data.toList).length = (numB t.size).length + t.size := by unfold textB; simp
  have hp : pnum (s.data.toList.drop a.length) = (t.size, (numB t.size).length, 0) := by rw [at_drop h']; exact pnum_num _ ht
  refine (rd_ok hp).trans ?_
  rw [if_neg (by omega), List.length_append, hL]
  have h2 : s.data.toList = (a ++ numB t.size) ++ (t.data.toList ++ c) := by rw [h']; simp
  have : s.extract (a.length + (numB t.size).length) (a.length + (numB t.size).length + t.size) = t := ba_eqV (by
    rw [ext_listV, show a.length + (numB t.size).length + t.size - (a.length + (numB t.size).length) = t.data.toList.length by omega, show a.length + (numB t.size).length = (a ++ numB t.size).length by simp, at_drop h2, List.take_left])
  rw [this, Nat.add_assoc]
theorem rdText_leV {s x : ByteArray} {a a' : Nat} {e e' : Int} (ha : a ≤ s.size) (h : rdText s a e = (x, a', e')) : a' ≤ s.size := by
  by_cases he : e = 0
  · subst he
    rcases three s a ha with ⟨m, k, hp, h1, h2, h3, h4⟩ | ⟨m, k, x, hp, hx⟩
    · have hq : rdText s a 0 = if s.size - (a + k) < m then (ByteArray.empty, a, 4) else (s.extract (a + k) (a + k + m), a + k + m, 0) := rd_ok hp
      rw [hq] at h
      split at h <;> simp only [Prod.mk.injEq] at h <;> omega
    · rw [show rdText s a 0 = (ByteArray.empty, a, (x : Int)) from rd_bad hp hx] at h
      simp only [Prod.mk.injEq] at h; omega
  · rw [show rdText s a e = (ByteArray.empty, a, e) from rd_err he] at h
    simp only [Prod.mk.injEq] at h; omega
/-- So many entries behind others, off bytes. -/
def rdVE (s : ByteArray) : Nat → Nat → Int → List Ent → List Ent × Nat × Int
  | 0, a, e, L => (L, a, e)
  | n + 1, a, e, L => rdVE s n (rdText s (rdCount s a e 2147483647).2.1 (rdCount s a e 2147483647).2.2).2.1 (rdText s (rdCount s a e 2147483647).2.1 (rdCount s a e 2147483647).2.2).2.2 (L ++ [okE (rdCount s a e 2147483647).1 (rdText s (rdCount s a e 2147483647).2.1 (rdCount s a e 2147483647).2.2).1 (rdText s (rdCount s a e 2147483647).2.1 (rdCount s a e 2147483647).2.2).2.2])
theorem rdVE_step {s : ByteArray} {n a n1 a1 a2 : Nat} {e e1 e2 : Int} {t : ByteArray} {L : List Ent} (h1 : rdCount s a e 2147483647 = (n1, a1, e1)) (h2 : rdText s a1 e1 = (t, a2, e2)) : rdVE s (n + 1) a e L = rdVE s n a2 e2 (L ++ [okE n1 t e2]) := by
  show rdVE s n _ _ (L ++ [_]) = _
  simp only [h1, h2]
theorem rdVE_enc {s : ByteArray} : ∀ (E : List Ent) (a c : List UInt8) (L : List Ent), s.data.toList = a ++ (E.flatMap entB ++ c) → (∀ x ∈ E, 0 ≤ x.v ∧ x.v ≤ 2147483647 ∧ x.s.size < 18446744073709551616) → rdVE s E.length a.length 0 L = (L ++ E, (a ++ E.flatMap entB).length, 0)
  | [], a, c, L, h, hE => by simp [rdVE]
  | x :: E, a, c, L, h, hE => by
    obtain ⟨h0, h1, h2⟩ := hE x (List.mem_cons_self ..)
    have e : (x :: E).flatMap entB = numB x.v.toNat ++ (textB x.s.data.toList ++ E.flatMap entB) := by rw [List.flatMap_cons]; unfold entB; simp
    rw [e] at h ⊢
    have k1 := count_at (most := 2147483647) (a := a) (n := x.v.toNat) (c := textB x.s.data.toList ++ (E.flatMap entB ++ c)) (by rw [h]; simp) (by omega) (by decide)
    have k2 := text_atV (t := x.s) (a := a ++ numB x.v.toNat) (c := E.flatMap entB ++ c) (by rw [h]; simp) h2
    have k3 := rdVE_enc E (a ++ numB x.v.toNat ++ textB x.s.data.toList) c (L ++ [x]) (by rw [h]; simp) (fun y hy => hE y (List.mem_cons_of_mem _ hy))
    have ex : okE x.v.toNat x.s 0 = x := by
      unfold okE
      rw [if_pos rfl]
      obtain ⟨xv, xs⟩ := x
      simp only at h0
      show (⟨((xv.toNat : Nat) : Int), xs⟩ : Ent) = ⟨xv, xs⟩
      rw [Int.toNat_of_nonneg h0]
    rw [List.length_cons, rdVE_step k1 k2, ex, k3]
    simp
end Go.Proofs.YtnhjflebaeokeaaGreat
