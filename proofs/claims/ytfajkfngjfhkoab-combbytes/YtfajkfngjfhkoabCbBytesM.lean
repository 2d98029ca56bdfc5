/- Messages' bytes are read again as they were; bytes that are read as messages are just these messages'. No walk here. -/
import Derived.Test.YtfajkfngjfhkoabRdRound
import Derived.Test.YtfajkfngjfhkoabCbTake
namespace Go.Proofs.Ytfajkfngjfhkoab
open Go.RowKit
theorem rdM_enc {s : ByteArray} {m : Msg} {a c : List UInt8} (h : s.data.toList = a ++ (msB m ++ c)) (hok : m.ok) (h0 : 0 ≤ m.a) (h1 : m.a ≤ 65536) : rdM s a.length 0 = (m, (a ++ msB m).length, 0) := by
  have e1 : s.data.toList = a ++ (sgB m.f ++ (sgB m.t ++ (numB m.a.toNat ++ (sgB m.v ++ c)))) := by rw [h]; unfold msB; simp only [List.append_assoc]
  have q1 := num_at (n := (foldN m.f).toNat) e1 (fold_lt hok.f)
  have e2 : s.data.toList = (a ++ sgB m.f) ++ (sgB m.t ++ (numB m.a.toNat ++ (sgB m.v ++ c))) := by rw [e1]; simp only [List.append_assoc]
  have q2 := num_at (n := (foldN m.t).toNat) e2 (fold_lt hok.t)
  have e3 : s.data.toList = (a ++ sgB m.f ++ sgB m.t) ++ (numB m.a.toNat ++ (sgB m.v ++ c)) := by rw [e1]; simp only [List.append_assoc]
  have q3 := count_at (most := 65536) e3 (by omega) (by decide)
  have e4 : s.data.toList = (a ++ sgB m.f ++ sgB m.t ++ numB m.a.toNat) ++ (sgB m.v ++ c) := by rw [e1]; simp only [List.append_assoc]
  have q4 := num_at (n := (foldN m.v).toNat) e4 (fold_lt hok.v)
  rw [rdM_eq q1 q2 q3 q4, sg_back hok.f, sg_back hok.t, sg_back hok.v]
  have ea : ((m.a.toNat : Nat) : Int) = m.a := by omega
  rw [ea]
  have el : a ++ msB m = a ++ sgB m.f ++ sgB m.t ++ numB m.a.toNat ++ sgB m.v := by unfold msB; simp only [List.append_assoc]
  rw [el]
  rfl
theorem rdMs_enc {s : ByteArray} : ∀ (L : List Msg) (a c : List UInt8) (L0 : List Msg), s.data.toList = a ++ (L.flatMap msB ++ c) → (∀ m ∈ L, m.ok ∧ 0 ≤ m.a ∧ m.a ≤ 65536) → rdMs s L.length a.length 0 L0 = (L0 ++ L, (a ++ L.flatMap msB).length, 0)
  | [], a, c, L0, _, _ => by simp [rdMs]
  | m :: L, a, c, L0, h, hok => by
    have hm := hok m (by simp)
    have e1 : s.data.toList = a ++ (msB m ++ (L.flatMap msB ++ c)) := by rw [h]; simp only [List.flatMap_cons, List.append_assoc]
    have q := rdM_enc e1 hm.1 hm.2.1 hm.2.2
    have e2 : s.data.toList = (a ++ msB m) ++ (L.flatMap msB ++ c) := by rw [e1]; simp only [List.append_assoc]
    have ih := rdMs_enc L (a ++ msB m) c (L0 ++ [m]) e2 (fun x hx => hok x (by simp [hx]))
    show (if (rdM s a.length 0).2.2 = 0 then rdMs s L.length (rdM s a.length 0).2.1 0 (L0 ++ [(rdM s a.length 0).1]) else ([], (rdM s a.length 0).2)) = _
    rw [q]
    simp only [if_true]
    rw [ih]
    simp only [List.flatMap_cons, List.append_assoc, List.cons_append, List.nil_append]
theorem rdML_enc {s : ByteArray} {L : List Msg} {c : List UInt8} (h : s.data.toList = msgsB L ++ c) (hok : ∀ m ∈ L, m.ok ∧ 0 ≤ m.a ∧ m.a ≤ 65536) (hl : L.length ≤ 65536) : rdML s 0 0 = (L, (msgsB L).length, 0) := by
  have e1 : s.data.toList = [] ++ (numB L.length ++ (L.flatMap msB ++ c)) := by rw [h]; unfold msgsB; simp only [List.append_assoc, List.nil_append]
  have q := count_at (most := 65536) e1 hl (by decide)
  have e2 : s.data.toList = ([] ++ numB L.length) ++ (L.flatMap msB ++ c) := by rw [e1]; simp only [List.nil_append]
  have := rdMs_enc L _ c [] e2 hok
  unfold rdML
  simp only [List.length_nil] at q
  have q' : rdCount s 0 0 65536 = (L.length, ([] ++ numB L.length).length, 0) := q
  simp only [q']
  rw [this]
  unfold msgsB
  simp
theorem rdM_only {s : ByteArray} {a a' : Nat} {e : Int} {m : Msg} (ha : a ≤ s.size) (h : rdM s a e = (m, a', 0)) : e = 0 ∧ a' ≤ s.size ∧ s.data.toList.drop a = msB m ++ s.data.toList.drop a' ∧ m.ok ∧ 0 ≤ m.a ∧ m.a ≤ 65536 := by
  obtain ⟨⟨t1, a1, e1⟩, q1⟩ : ∃ q, rdNum s a e = q := ⟨_, rfl⟩
  obtain ⟨⟨t2, a2, e2⟩, q2⟩ : ∃ q, rdNum s a1 e1 = q := ⟨_, rfl⟩
  obtain ⟨⟨n3, a3, e3⟩, q3⟩ : ∃ q, rdCount s a2 e2 (65536 : Nat) = q := ⟨_, rfl⟩
  obtain ⟨⟨t4, a4, e4⟩, q4⟩ : ∃ q, rdNum s a3 e3 = q := ⟨_, rfl⟩
  have g1 := rdNum_to ha q1
  have g2 := rdNum_to g1.1 q2
  have g3 := rdCount_to g2.1 q3
  have g4 := rdNum_to g3.1 q4
  rw [rdM_eq q1 q2 q3 q4] at h
  simp only [Prod.mk.injEq] at h
  obtain ⟨rfl, rfl, rfl⟩ := h
  have z3 := g4.2.2 rfl
  subst z3
  have z2 := g3.2.2.1 rfl
  subst z2
  have z1 := g2.2.2 rfl
  subst z1
  refine ⟨g1.2.2 rfl, g4.1, ?_, ⟨unf_ok g1.2.1, unf_ok g2.2.1, ?_, unf_ok g4.2.1⟩, (by dsimp only; omega), ?_⟩
  · rw [rdNum_only ha q1, rdNum_only g1.1 q2, rdCount_only g2.1 q3, rdNum_only g3.1 q4]
    unfold msB
    dsimp only
    rw [sg_num, sg_num, sg_num, Int.toNat_natCast]
    simp only [List.append_assoc]
  · have := g3.2.1; unfold I64; dsimp only; omega
  · have := g3.2.1; dsimp only; omega
theorem rdMs_only {s : ByteArray} : ∀ (n a : Nat) (e : Int) (L0 R : List Msg) (a' : Nat), a ≤ s.size → rdMs s n a e L0 = (R, a', 0) → ∃ L, R = L0 ++ L ∧ L.length = n ∧ a' ≤ s.size ∧ s.data.toList.drop a = L.flatMap msB ++ s.data.toList.drop a' ∧ ∀ m ∈ L, m.ok ∧ 0 ≤ m.a ∧ m.a ≤ 65536
  | 0, a, e, L0, R, a', ha, h => by
    simp only [rdMs, Prod.mk.injEq] at h
    obtain ⟨rfl, rfl, _⟩ := h
    exact ⟨[], by simp, rfl, ha, by simp, fun m hm => by cases hm⟩
  | n + 1, a, e, L0, R, a', ha, h => by
    have h' : (if (rdM s a e).2.2 = 0 then rdMs s n (rdM s a e).2.1 0 (L0 ++ [(rdM s a e).1]) else ([], (rdM s a e).2)) = (R, a', 0) := h
    obtain ⟨⟨m, a1, e1⟩, q⟩ : ∃ q, rdM s a e = q := ⟨_, rfl⟩
    rw [q] at h'
    dsimp only at h'
    split at h'
    · rename_i hz
      subst hz
      obtain ⟨_, g1, g2, g3, g4⟩ := rdM_only ha q
      obtain ⟨L, rfl, hl, k1, k2, k3⟩ := rdMs_only n a1 0 _ R a' g1 h'
      refine ⟨m :: L, by simp, by simp [hl], k1, ?_, fun x hx => ?_⟩
      · rw [g2, k2, List.flatMap_cons, List.append_assoc]
      · rcases List.mem_cons.1 hx with rfl | hx
        · exact ⟨g3, g4⟩
        · exact k3 x hx
    · rename_i hz
      simp only [Prod.mk.injEq] at h'
      exact absurd h'.2.2 hz
/-- Bytes that are read as messages are just these messages'. -/
theorem rdML_only {s : ByteArray} {R : List Msg} {a' : Nat} (h : rdML s 0 0 = (R, a', 0)) : a' ≤ s.size ∧ s.data.toList.take a' = msgsB R ∧ R.length ≤ 65536 ∧ ∀ m ∈ R, m.ok ∧ 0 ≤ m.a ∧ m.a ≤ 65536 := by
  obtain ⟨⟨n, a1, e1⟩, q⟩ : ∃ q, rdCount s 0 0 (65536 : Nat) = q := ⟨_, rfl⟩
  have g := rdCount_to (Nat.zero_le _) q
  have q' : rdCount s 0 0 65536 = (n, a1, e1) := q
  unfold rdML at h
  simp only [q'] at h
  obtain ⟨L, hRL, hl, k1, k2, k3⟩ := rdMs_only n a1 e1 [] R a' g.1 h
  rw [List.nil_append] at hRL
  subst hRL
  have hz : e1 = 0 := by
    by_cases hn : 0 < n
    · exact g.2.2.2 hn
    · have : n = 0 := by omega
      subst this
      simp only [rdMs, Prod.mk.injEq] at h
      exact h.2.2
  subst hz
  have g2 := rdCount_only (Nat.zero_le _) q
  refine ⟨k1, ?_, by rw [hl]; exact g.2.1, k3⟩
  rw [k2, List.drop_zero, ← List.append_assoc] at g2
  have hb : numB n ++ R.flatMap msB = msgsB R := by unfold msgsB; rw [hl]
  rw [hb] at g2
  have hlen : (msgsB R).length = a' := by
    have e := congrArg List.length g2
    rw [List.length_append, List.length_drop] at e
    have hsz : s.data.toList.length = s.size := by simp
    omega
  rw [g2, ← hlen, List.take_left]
end Go.Proofs.Ytfajkfngjfhkoab
