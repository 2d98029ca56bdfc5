import Derived.Test.YtckjjajncgmddaaVwTkM
/- A message's bytes and back, on plain data. -/
namespace Go.Proofs.Ytckjjajncgmddaa
open Go.RowKit
theorem ba_eqV {a b : ByteArray} (h : a.data.toList = b.data.toList) : a = b := by
  cases a; cases b; simp only at h; rw [Array.toList_inj.1 h]
theorem ext_listV (s : ByteArray) (i j : Nat) : (s.extract i j).data.toList = (s.data.toList.drop i).take (j - i) := by simp
theorem text_atV {s t : ByteArray} {a c : List UInt8} (h : s.data.toList = a ++ (textB t.data.toList ++ c)) (ht : t.size < 18446744073709551616) : rdText s a.length 0 = (t, (a ++ textB t.data.toList).length, 0) := by
  have hl : t.data.toList.length = t.size := by simp
  have h' : s.data.toList = a ++ (numB t.size ++ (t.data.toList ++ c)) := by rw [h]; unfold textB; rw [hl]; simp
  have hs : s.size = a.length + ((numB t.size).length + (t.size + c.length)) := by
    have : s.size = s.data.toList.length := by simp
    rw [this, h']; simp
  have hL : (textB t.data.toList).length = (numB t.size).length + t.size := by unfold textB; simp
  have hp : pnum (s.data.toList.drop a.length) = (t.size, (numB t.size).length, 0) := by rw [at_drop h']; exact pnum_num _ ht
  refine (rd_ok hp).trans ?_
  rw [if_neg (by omega), List.length_append, hL]
  have h2 : s.data.toList = (a ++ numB t.size) ++ (t.data.toList ++ c) := by rw [h']; simp
  have : s.extract (a.length + (numB t.size).length) (a.length + (numB t.size).length + t.size) = t := ba_eqV (by
    rw [ext_listV, show a.length + (numB t.size).length + t.size - (a.length + (numB t.size).length) = t.data.toList.length by omega, show a.length + (numB t.size).length = (a ++ numB t.size).length by simp, at_drop h2, List.take_left])
  rw [this, Nat.add_assoc]
theorem rdText_leV {s x : ByteArray} {a a' : Nat} {e e' : Int} (ha : a ≤ s.size) (h : rdText s a e = (x, a', e')) : a' ≤ s.size := by
  by_cases he : e = 0
  · subst he
    rcases three s a ha with ⟨m, k, hp, h1, h2, h3, h4⟩ | ⟨m, k, x, hp, hx⟩
    · have hq : rdText s a 0 = if s.size - (a + k) < m then (ByteArray.empty, a, 4) else (s.extract (a + k) (a + k + m), a + k + m, 0) := rd_ok hp
      rw [hq] at h
      split at h <;> simp only [Prod.mk.injEq] at h <;> omega
    · rw [show rdText s a 0 = (ByteArray.empty, a, (x : Int)) from rd_bad hp hx] at h
      simp only [Prod.mk.injEq] at h; omega
  · rw [show rdText s a e = (ByteArray.empty, a, e) from rd_err he] at h
    simp only [Prod.mk.injEq] at h; omega
theorem rdText_onlyV {s x : ByteArray} {a a' : Nat} {e : Int} (ha : a ≤ s.size) (h : rdText s a e = (x, a', 0)) : e = 0 ∧ s.data.toList.drop a = textB x.data.toList ++ s.data.toList.drop a' := by
  by_cases he : e = 0
  · subst he
    refine ⟨rfl, ?_⟩
    rcases three s a ha with ⟨m, k, hp, h1, h2, h3, h4⟩ | ⟨m, k, y, hp, hx⟩
    · have hq : rdText s a 0 = if s.size - (a + k) < m then (ByteArray.empty, a, 4) else (s.extract (a + k) (a + k + m), a + k + m, 0) := rd_ok hp
      rw [hq] at h
      split at h
      · simp only [Prod.mk.injEq] at h
        omega
      · rename_i hge
        simp only [Prod.mk.injEq] at h
        obtain ⟨rfl, rfl, _⟩ := h
        have hsl : s.data.toList.length = s.size := by simp
        have hx : (s.extract (a + k) (a + k + m)).data.toList = (s.data.toList.drop (a + k)).take m := by rw [ext_listV]; congr 1; omega
        have hxl : (s.extract (a + k) (a + k + m)).data.toList.length = m := by rw [hx, List.length_take, List.length_drop]; omega
        unfold textB
        rw [hxl, hx, ← pnum_only hp, List.append_assoc]
        have e1 : s.data.toList.drop (a + k + m) = (s.data.toList.drop (a + k)).drop m := by rw [List.drop_drop]
        rw [e1, List.take_append_drop, ← List.drop_drop, List.take_append_drop]
    · rw [show rdText s a 0 = (ByteArray.empty, a, (y : Int)) from rd_bad hp hx] at h
      simp only [Prod.mk.injEq] at h
      omega
  · rw [show rdText s a e = (ByteArray.empty, a, e) from rd_err he] at h
    simp only [Prod.mk.injEq] at h
    omega
/-- So many numbers, off bytes. -/
def rdCs (s : ByteArray) : Nat → Nat → Int → List Nat × Nat × Int
  | 0, a, e => ([], a, e)
  | n + 1, a, e => ((rdCount s a e 2147483647).1 :: (rdCs s n (rdCount s a e 2147483647).2.1 (rdCount s a e 2147483647).2.2).1, (rdCs s n (rdCount s a e 2147483647).2.1 (rdCount s a e 2147483647).2.2).2)
theorem rdCs_step {s : ByteArray} {n a n1 a1 : Nat} {e e1 : Int} (h1 : rdCount s a e 2147483647 = (n1, a1, e1)) : rdCs s (n + 1) a e = (n1 :: (rdCs s n a1 e1).1, (rdCs s n a1 e1).2) := by
  show ((rdCount s a e 2147483647).1 :: _, _) = _
  simp only [h1]
theorem rdCs_enc {s : ByteArray} : ∀ (L : List Int) (a c : List UInt8), s.data.toList = a ++ (numsB L ++ c) → (∀ x ∈ L, 0 ≤ x ∧ x ≤ 2147483647) → rdCs s L.length a.length 0 = (L.map Int.toNat, (a ++ numsB L).length, 0)
  | [], a, c, h, hL => by simp [rdCs, numsB]
  | x :: L, a, c, h, hL => by
    have hx := hL x (List.mem_cons_self ..)
    have e : numsB (x :: L) = numB x.toNat ++ numsB L := by simp [numsB]
    rw [e] at h ⊢
    have h1 := count_at (most := 2147483647) (a := a) (n := x.toNat) (c := numsB L ++ c) (by rw [h]; simp) (by omega) (by decide)
    have h2 := rdCs_enc L (a ++ numB x.toNat) c (by rw [h]; simp) (fun y hy => hL y (List.mem_cons_of_mem _ hy))
    rw [List.length_cons, rdCs_step h1, h2]
    simp
theorem rdCs_only {s : ByteArray} : ∀ (n a a' : Nat) (e : Int) (L : List Nat), a ≤ s.size → rdCs s n a e = (L, a', 0) → e = 0 ∧ s.data.toList.drop a = L.flatMap numB ++ s.data.toList.drop a' ∧ a' ≤ s.size
  | 0, a, a', e, L, ha, h => by
    simp only [rdCs, Prod.mk.injEq] at h
    obtain ⟨rfl, rfl, rfl⟩ := h
    exact ⟨rfl, by simp, ha⟩
  | n + 1, a, a', e, L, ha, h => by
    obtain ⟨⟨n1, a1, e1⟩, h1⟩ : ∃ q, rdCount s a e 2147483647 = q := ⟨_, rfl⟩
    obtain ⟨⟨L2, a2, e2⟩, h2⟩ : ∃ q, rdCs s n a1 e1 = q := ⟨_, rfl⟩
    rw [rdCs_step h1, h2] at h
    simp only [Prod.mk.injEq] at h
    obtain ⟨rfl, rfl, rfl⟩ := h
    have g1 := rdCount_to (most := 2147483647) ha h1
    obtain ⟨rfl, k2, k3⟩ := rdCs_only n a1 a2 e1 L2 g1.1 h2
    have k1 := rdCount_only (most := 2147483647) ha h1
    exact ⟨g1.2.2.1 rfl, by rw [k1, k2]; simp, k3⟩
/-- So many entries behind others, off bytes. -/
def rdVE (s : ByteArray) : Nat → Nat → Int → List Ent → List Ent × Nat × Int
  | 0, a, e, L => (L, a, e)
  | n + 1, a, e, L => rdVE s n (rdText s (rdCount s a e 2147483647).2.1 (rdCount s a e 2147483647).2.2).2.1 (rdText s (rdCount s a e 2147483647).2.1 (rdCount s a e 2147483647).2.2).2.2 (L ++ [okE (rdCount s a e 2147483647).1 (rdText s (rdCount s a e 2147483647).2.1 (rdCount s a e 2147483647).2.2).1 (rdText s (rdCount s a e 2147483647).2.1 (rdCount s a e 2147483647).2.2).2.2])
theorem rdVE_step {s : ByteArray} {n a n1 a1 a2 : Nat} {e e1 e2 : Int} {t : ByteArray} {L : List Ent} (h1 : rdCount s a e 2147483647 = (n1, a1, e1)) (h2 : rdText s a1 e1 = (t, a2, e2)) : rdVE s (n + 1) a e L = rdVE s n a2 e2 (L ++ [okE n1 t e2]) := by
  show rdVE s n _ _ (L ++ [_]) = _
  simp only [h1, h2]
theorem rdVE_len (s : ByteArray) : ∀ (n a : Nat) (e : Int) (L : List Ent), (rdVE s n a e L).1.length = L.length + n
  | 0, _, _, _ => rfl
  | n + 1, a, e, L => by
    show (rdVE s n _ _ (L ++ [_])).1.length = _
    rw [rdVE_len s n]
    simp
    omega
theorem rdVE_enc {s : ByteArray} : ∀ (E : List Ent) (a c : List UInt8) (L : List Ent), s.data.toList = a ++ (E.flatMap entB ++ c) → (∀ x ∈ E, 0 ≤ x.v ∧ x.v ≤ 2147483647 ∧ x.s.size < 18446744073709551616) → rdVE s E.length a.length 0 L = (L ++ E, (a ++ E.flatMap entB).length, 0)
  | [], a, c, L, h, hE => by simp [rdVE]
  | x :: E, a, c, L, h, hE => by
    obtain ⟨h0, h1, h2⟩ := hE x (List.mem_cons_self ..)
    have e : (x :: E).flatMap entB = numB x.v.toNat ++ (textB x.s.data.toList ++ E.flatMap entB) := by rw [List.flatMap_cons]; unfold entB; simp
    rw [e] at h ⊢
    have k1 := count_at (most := 2147483647) (a := a) (n := x.v.toNat) (c := textB x.s.data.toList ++ (E.flatMap entB ++ c)) (by rw [h]; simp) (by omega) (by decide)
    have k2 := text_atV (t := x.s) (a := a ++ numB x.v.toNat) (c := E.flatMap entB ++ c) (by rw [h]; simp) h2
    have k3 := rdVE_enc E (a ++ numB x.v.toNat ++ textB x.s.data.toList) c (L ++ [x]) (by rw [h]; simp) (fun y hy => hE y (List.mem_cons_of_mem _ hy))
    have ex : okE x.v.toNat x.s 0 = x := by
      unfold okE
      rw [if_pos rfl]
      obtain ⟨xv, xs⟩ := x
      simp only at h0
      show (⟨((xv.toNat : Nat) : Int), xs⟩ : Ent) = ⟨xv, xs⟩
      rw [Int.toNat_of_nonneg h0]
    rw [List.length_cons, rdVE_step k1 k2, ex, k3]
    simp
theorem rdVE_only {s : ByteArray} : ∀ (n a a' : Nat) (e : Int) (L R : List Ent), a ≤ s.size → rdVE s n a e L = (R, a', 0) → e = 0 ∧ ∃ E, R = L ++ E ∧ s.data.toList.drop a = E.flatMap entB ++ s.data.toList.drop a' ∧ a' ≤ s.size ∧ ∀ x ∈ E, 0 ≤ x.v ∧ x.v ≤ 2147483647
  | 0, a, a', e, L, R, ha, h => by
    simp only [rdVE, Prod.mk.injEq] at h
    obtain ⟨rfl, rfl, rfl⟩ := h
    exact ⟨rfl, [], by simp, by simp, ha, fun x hx => by cases hx⟩
  | n + 1, a, a', e, L, R, ha, h => by
    obtain ⟨⟨n1, a1, e1⟩, h1⟩ : ∃ q, rdCount s a e 2147483647 = q := ⟨_, rfl⟩
    obtain ⟨⟨t, a2, e2⟩, h2⟩ : ∃ q, rdText s a1 e1 = q := ⟨_, rfl⟩
    rw [rdVE_step h1 h2] at h
    have g1 := rdCount_to (most := 2147483647) ha h1
    have g2 := rdText_leV g1.1 h2
    obtain ⟨rfl, E, rfl, k2, k3, k4⟩ := rdVE_only n a2 a' e2 _ R g2 h
    obtain ⟨rfl, k5⟩ := rdText_onlyV g1.1 h2
    have k1 := rdCount_only (most := 2147483647) ha h1
    have ex : okE n1 t 0 = ⟨n1, t⟩ := if_pos rfl
    refine ⟨g1.2.2.1 rfl, okE n1 t 0 :: E, by simp, ?_, k3, ?_⟩
    · rw [k1, k5, k2, ex, List.flatMap_cons]
      unfold entB
      simp
    · intro x hx
      rcases List.mem_cons.1 hx with rfl | hx
      · rw [ex]
        have := g1.2.1
        exact ⟨by show (0 : Int) ≤ (n1 : Int); omega, by show (n1 : Int) ≤ 2147483647; omega⟩
      · exact k4 x hx
end Go.Proofs.Ytckjjajncgmddaa
