/- Something done to both disks: what is then loose on both comes to the same files. -/
import Derived.Test.YthpojidkmmflhaaDkOneA
import Derived.Test.YthpojidkmmflhaaDkOneB
import Derived.Test.YthpojidkmmflhaaDkOneC
import Derived.Test.YthpojidkmmflhaaDkOneD
namespace Go.Proofs.Ythpojidkmmflhaa
open Go.RowKit Go.Maps
/-- All names are names. -/
def Nok (l : Fl) : Prop := ∀ p ∈ l, nameB p.1 = true
theorem Nok.doF {l : Fl} (h : Nok l) {c : Chg} (hn : nameB c.nm = true) (ht : c.k = 2 → nameB c.to = true) : Nok (doF l c) := by
  intro p hp
  unfold Go.Proofs.Ythpojidkmmflhaa.doF at hp
  split at hp
  · rcases mem_putF hp with rfl | hp
    · exact hn
    · exact h p hp
  · split at hp
    · rcases mem_putF hp with rfl | hp
      · exact hn
      · exact h p hp
    · split at hp
      · rename_i e
        rcases mem_putF hp with rfl | hp
        · exact ht e
        · exact h p (mem_delF hp)
      · exact h p (mem_delF hp)
structure PI (j : Nat) (A R : Dk) : Prop where
  asu : A.sure = []
  rs : R.sure = []
  ad : A.dead = false
  now : R.now = A.now
  al : A.loose.length ≤ j
  rl : R.loose.length ≤ j
  az : sz A.loose ≤ j * 140737488355328
  rz : sz R.loose ≤ j * 140737488355328
  an : A.n ≤ j
  rn : R.n ≤ j
  ok : ∀ c ∈ R.loose, c.okR
  nok : Nok A.now
theorem PI.bA {j : Nat} {A R : Dk} (h : PI j A R) (hj : j ≤ 40) : BdA A 0 :=
  ⟨fun p hp => (by rw [h.asu] at hp; cases hp), by have := h.az; omega, by have := h.al; rw [h.asu]; simp; omega, by have := h.an; omega⟩
theorem PI.bR {j : Nat} {A R : Dk} (h : PI j A R) (hj : j ≤ 40) : BdA R 0 :=
  ⟨fun p hp => (by rw [h.rs] at hp; cases hp), by have := h.rz; omega, by have := h.rl; rw [h.rs]; simp; omega, by have := h.rn; omega⟩
theorem PI.next {j : Nat} {A R : Dk} (h : PI j A R) : PI (j + 1) A R :=
  { h with
    al := Nat.le_succ_of_le h.al
    rl := Nat.le_succ_of_le h.rl
    az := Nat.le_trans h.az (by omega)
    rz := Nat.le_trans h.rz (by omega)
    an := Nat.le_succ_of_le h.an
    rn := Nat.le_succ_of_le h.rn }
theorem now_add (A : Dk) (c : Chg) : (A.add c).now = doF A.now c := doneF_snoc _ _ _
theorem PI.add {j : Nat} {A R : Dk} (h : PI j A R) {c c' : Chg} (hc : c'.okR) (he : ∀ l, doF l c = doF l c') (h1 : c.s.length ≤ 140737488355328) (h2 : c'.s.length ≤ 140737488355328) (hn : nameB c.nm = true) (ht : c.k = 2 → nameB c.to = true) : PI (j + 1) (A.add c) (R.add c') := by
  refine ⟨h.asu, h.rs, h.ad, ?_, ?_, ?_, ?_, ?_, ?_, ?_, ?_, ?_⟩
  · rw [now_add, now_add, h.now, he]
  · show (A.loose ++ [c]).length ≤ _
    have := h.al
    simp
    omega
  · show (R.loose ++ [c']).length ≤ _
    have := h.rl
    simp
    omega
  · show sz (A.loose ++ [c]) ≤ _
    rw [sz_snoc]
    have := h.az
    omega
  · show sz (R.loose ++ [c']) ≤ _
    rw [sz_snoc]
    have := h.rz
    omega
  · show A.n + 1 ≤ _
    have := h.an
    omega
  · show R.n + 1 ≤ _
    have := h.rn
    omega
  · intro x hx
    rcases List.mem_append.1 hx with hx | hx
    · exact h.ok x hx
    · rw [List.mem_singleton.1 hx]; exact hc
  · rw [now_add]
    exact h.nok.doF hn ht
section
variable {w : World} {B p : Nat} {A R : Dk} {nm tt ss : Bs} {sa la pa : Option Addr} {sm sc lm lc pn pc j : Nat} {f0 f1 f2 : Int}
theorem one_any (hD : DkAt w B p A) (hB : B ≤ w.heap.size) (hF : FlAt w (.slice sa sm sc) R.sure) (hC : ChAt w (.slice la lm lc) R.loose) (hP : PI j A R) (hj : j ≤ 39) (hm : nm.length ≤ maxLen) (ht : tt.length ≤ maxLen) (hs : ss.length ≤ 140737488355328) (k : Int) (hk : 0 ≤ k ∧ k ≤ 3) : Calls Try.prog 8 #[.pointer (some ⟨p, 0, none⟩), .agg #[.slice sa sm sc, .slice la lm lc, .int .i64 R.n, .slice none 0 0, .bool false], .agg #[.int .i64 k, .string (str nm), .string (str tt), .string (str ss), .int .i64 f0, .int .i64 f1, .int .i64 f2, .slice pa pn pc]] w fun r w' => ∃ la2 lm2 lc2 A' R', r = .returned (.tuple #[.pointer (some ⟨p, 0, none⟩), .agg #[.slice sa sm sc, .slice la2 lm2 lc2, .int .i64 R'.n, .slice none 0 0, .bool false], .bool true]) ∧ DkAt w' B p A' ∧ R'.sure = R.sure ∧ ChAt w' (.slice la2 lm2 lc2) R'.loose ∧ FrD B w w' ∧ PI (j + 1) A' R' := by
  obtain ⟨mn, ms, dlv, hDA⟩ := hD
  have hbA := hP.bA (by omega)
  have hbR := hP.bR (by omega)
  have hlA : A.loose.length ≤ 1000000 := by have := hP.al; omega
  have hlR : R.loose.length ≤ 1000000 := by have := hP.rl; omega
  have hnk : R.n ≤ 1000000 := by have := hP.rn; omega
  have hs' : ss.length ≤ 4611686018427387903 := by omega
  have noC : ∀ {r : Ending} {w' : World}, (r = .returned (.tuple #[.pointer (some ⟨p, 0, none⟩), .agg #[.slice sa sm sc, .slice la lm lc, .int .i64 R.n, .slice none 0 0, .bool false], .bool true]) ∧ DkAt w' B p A ∧ FrD B w w') → ∃ la2 lm2 lc2 A' R', r = .returned (.tuple #[.pointer (some ⟨p, 0, none⟩), .agg #[.slice sa sm sc, .slice la2 lm2 lc2, .int .i64 R'.n, .slice none 0 0, .bool false], .bool true]) ∧ DkAt w' B p A' ∧ R'.sure = R.sure ∧ ChAt w' (.slice la2 lm2 lc2) R'.loose ∧ FrD B w w' ∧ PI (j + 1) A' R' :=
    fun {r w'} ⟨h1, h2, h3⟩ => ⟨la, lm, lc, A, R, h1, h2, rfl, row_frD hC h3 (by decide) (by decide), h3, hP.next⟩
  have some' : ∀ {r : Ending} {w' : World} {c c' : Chg}, c'.okR → (∀ l, doF l c = doF l c') → c.s.length ≤ 140737488355328 → c'.s.length ≤ 140737488355328 → nameB c.nm = true → (c.k = 2 → nameB c.to = true) → (∃ la2 lm2 lc2, r = .returned (.tuple #[.pointer (some ⟨p, 0, none⟩), .agg #[.slice sa sm sc, .slice la2 lm2 lc2, .int .i64 ((R.n : Int) + 1), .slice none 0 0, .bool false], .bool true]) ∧ DkAt w' B p (A.add c) ∧ ChAt w' (.slice la2 lm2 lc2) (R.loose ++ [c']) ∧ FrD B w w') → ∃ la2 lm2 lc2 A' R', r = .returned (.tuple #[.pointer (some ⟨p, 0, none⟩), .agg #[.slice sa sm sc, .slice la2 lm2 lc2, .int .i64 R'.n, .slice none 0 0, .bool false], .bool true]) ∧ DkAt w' B p A' ∧ R'.sure = R.sure ∧ ChAt w' (.slice la2 lm2 lc2) R'.loose ∧ FrD B w w' ∧ PI (j + 1) A' R' :=
    fun {r w' c c'} a1 a2 a3 a4 a5 a6 ⟨la2, lm2, lc2, h1, h2, h3, h4⟩ => ⟨la2, lm2, lc2, A.add c, R.add c', h1.trans (by show _ = Ending.returned (.tuple #[.pointer (some ⟨p, 0, none⟩), .agg #[.slice sa sm sc, .slice la2 lm2 lc2, .int .i64 ((R.n + 1 : Nat) : Int), .slice none 0 0, .bool false], .bool true]); rw [Int.natCast_add]; rfl), h2, rfl, h3, h4, hP.add a1 a2 a3 a4 a5 a6⟩
  have hkk : k = 0 ∨ k = 1 ∨ k = 2 ∨ k = 3 := by omega
  rcases hkk with rfl | rfl | rfl | rfl
  · cases hn : nameB nm with
    | true => exact (one_0ok hDA hB hP.ad hF hC hP.ok hbR hbA hlA hP.now hlR hnk hm ht hs' hn).mono fun r w' h => some' (c := ⟨0, nm, [], ss⟩) (c' := ⟨0, nm, tt, ss⟩) (.inl rfl) (fun _ => rfl) hs hs hn (fun e => by simp at e) h
    | false => exact (one_0bad hDA hB hP.ad hF hC hP.ok hbR hbA hlA hP.now hlR hnk hm ht hs' hn).mono fun r w' h => noC h
  · cases hn : nameB nm with
    | true => exact (one_1ok hDA hB hP.ad hF hC hP.ok hbR hbA hlA hP.now hlR hnk hm ht hs' hn).mono fun r w' h => some' (c := ⟨1, nm, [], ss⟩) (c' := ⟨1, nm, tt, ss⟩) (.inr (.inl rfl)) (fun _ => rfl) hs hs hn (fun e => by simp at e) h
    | false => exact (one_1bad hDA hB hP.ad hF hC hP.ok hbR hbA hlA hP.now hlR hnk hm ht hs' hn).mono fun r w' h => noC h
  · cases hn : nameB nm with
    | false => exact (one_2bad1 hDA hB hP.ad hF hC hP.ok hbR hbA hlA hP.now hlR hnk hm ht hs' hn).mono fun r w' h => noC h
    | true =>
      cases hn2 : nameB tt with
      | false => exact (one_2bad2 hDA hB hP.ad hF hC hP.ok hbR hbA hlA hP.now hlR hnk hm ht hs' hn hn2).mono fun r w' h => noC h
      | true =>
        cases hth : (getF nm A.now).isSome with
        | false => exact (one_2none hDA hB hP.ad hF hC hP.ok hbR hbA hlA hP.now hlR hnk hm ht hs' hn hn2 hth).mono fun r w' h => noC h
        | true =>
          by_cases hne : nm = tt
          · subst hne
            exact (one_2same hDA hB hP.ad hF hC hP.ok hbR hbA hlA hP.now hlR hnk hm ht hs' hn hth).mono fun r w' h => noC h
          · exact (one_2ok hDA hB hP.ad hF hC hP.ok hbR hbA hlA hP.now hlR hnk hm ht hs' hn hn2 hth hne).mono fun r w' h => some' (c := ⟨2, nm, tt, []⟩) (c' := ⟨2, nm, tt, ss⟩) (.inr (.inr (.inl rfl))) (fun _ => rfl) (Nat.zero_le _) hs hn (fun _ => hn2) h
  · cases hn : nameB nm with
    | false => exact (one_3bad hDA hB hP.ad hF hC hP.ok hbR hbA hlA hP.now hlR hnk hm ht hs' hn).mono fun r w' h => noC h
    | true =>
      cases hth : (getF nm A.now).isSome with
      | false => exact (one_3none hDA hB hP.ad hF hC hP.ok hbR hbA hlA hP.now hlR hnk hm ht hs' hn hth).mono fun r w' h => noC h
      | true => exact (one_3ok hDA hB hP.ad hF hC hP.ok hbR hbA hlA hP.now hlR hnk hm ht hs' hn hth).mono fun r w' h => some' (c := ⟨3, nm, [], []⟩) (c' := ⟨3, nm, tt, ss⟩) (.inr (.inr (.inr rfl))) (fun _ => rfl) (Nat.zero_le _) hs hn (fun e => by simp at e) h
end
end Go.Proofs.Ythpojidkmmflhaa
