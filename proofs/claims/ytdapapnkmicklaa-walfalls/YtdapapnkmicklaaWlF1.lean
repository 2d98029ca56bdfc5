/- wal: the texts of the frames of a file. -/
import Derived.Test.YtdapapnkmicklaaWlRow
namespace Go.Proofs.Ytdapapnkmicklaa
open Go.RowKit Go.Maps
attribute [local go_sem] Oper.semAt_some
section
variable {l x : Bs} {a n : Nat}
theorem unframe_ok (w : World) (ha : a ≤ l.length) (hl : l.length ≤ maxLen) (h : unf1 (l.drop a) = some (x, n)) : Calls Try.prog 70 #[.string (str l), .int .i64 a] w fun e w' => e = .returned (.tuple #[.string (str x), .int .i64 ((a + n : Nat) : Int), .int .i64 0]) ∧ Below w.heap.size w w' := by
  have h1 := unframe_any (str l) a w ha hl
  rw [(unfr_shift l a).2 x n h] at h1
  exact h1
theorem unframe_no (ha : a ≤ l.length) (hl : l.length ≤ maxLen) (h : unf1 (l.drop a) = none) : ∃ (s : ByteArray) (y er : Int), ¬ er = 0 ∧ ∀ w, Calls Try.prog 70 #[.string (str l), .int .i64 a] w fun e w' => e = .returned (.tuple #[.string s, .int .i64 y, .int .i64 er]) ∧ Below w.heap.size w w' :=
  ⟨_, _, _, (unfr_shift l a).1 h, fun w => unframe_any (str l) a w ha hl⟩
theorem refunframe_ok (w : World) (ha : a ≤ l.length) (hl : l.length ≤ maxLen) (h : unf1 (l.drop a) = some (x, n)) : Calls Try.prog 29 #[.string (str l), .int .i64 a] w fun e w' => e = .returned (.tuple #[.string (str x), .int .i64 ((a + n : Nat) : Int), .int .i64 0]) ∧ Below w.heap.size w w' := by
  have h1 := refunframe_any (str l) a w ha hl
  rw [(unfr_shift l a).2 x n h] at h1
  exact h1
theorem refunframe_no (ha : a ≤ l.length) (hl : l.length ≤ maxLen) (h : unf1 (l.drop a) = none) : ∃ (s : ByteArray) (y er : Int), ¬ er = 0 ∧ ∀ w, Calls Try.prog 29 #[.string (str l), .int .i64 a] w fun e w' => e = .returned (.tuple #[.string s, .int .i64 y, .int .i64 er]) ∧ Below w.heap.size w w' :=
  ⟨_, _, _, (unfr_shift l a).1 h, fun w => refunframe_any (str l) a w ha hl⟩
end
theorem step_unf {l x : Bs} {a n : Nat} {R : List Bs} (h : unf1 (l.drop a) = some (x, n)) (hU : unfV l = (R ++ (unfV (l.drop a)).1, a + (unfV (l.drop a)).2)) : unfV l = ((R ++ [x]) ++ (unfV (l.drop (a + n))).1, (a + n) + (unfV (l.drop (a + n))).2) := by
  rw [hU, unfV_some h, List.drop_drop]
  simp
  omega
set_option maxRecDepth 100000 in
set_option maxHeartbeats 1600000 in
theorem unframeAll_any {l : Bs} (w : World) (hl : l.length ≤ 4611686018427387903) (hN : (unfV l).1.length ≤ 1000000) : Calls Try.prog 43 #[.string (str l)] w fun r w' => ∃ v, r = .returned (.tuple #[v, .int .i64 ((unfV l).2 : Int)]) ∧ TxO w' w.heap.size v (unfV l).1 ∧ Below w.heap.size w w' := by
  have HL : Hid (l.length ≤ maxLen) := by show _ ≤ _; unfold maxLen; omega
  have HN : Hid ((unfV l).1.length ≤ 1000000) := hN
  clear hN
  go_enter Try.func43, Try.ntmps43
  go_wp2
  go_loopw [4, 5, 6, 7, 8] (fun tx i _ _ _ wr => ∃ (ao : Option Addr) (m c : Nat) (T : List Bs) (a : Nat), tx = .slice ao m c ∧ i = .int .i64 a ∧ a ≤ l.length ∧ Hid (TxO wr w.heap.size (.slice ao m c) T) ∧ Hid (unfV l = (T ++ (unfV (l.drop a)).1, a + (unfV (l.drop a)).2)) ∧ Hid (Below w.heap.size w wr)) (fun _ i _ _ _ _ => l.length - (intOf i).toNat)
  case atStart => exact ⟨none, 0, 0, [], 0, rfl, rfl, Nat.zero_le _, TxO.nil _ _, (by show _ = _; simp), Below.refl _ _⟩
  case round =>
    obtain ⟨ao, m, c, T, a, rfl, rfl, ha, HT, HU, HB⟩ := hrel
    cases h : unf1 (l.drop a) with
    | none =>
      obtain ⟨s, y, er, her, hC⟩ := unframe_no ha HL.out h
      have hz : (er != 0) = true := by simpa using her
      have HR : Hid (unfV l = (T, a)) := by
        show _ = _
        rw [HU.out, unfV_none h]
        simp
      clear h her
      go_wp2_with (go_at_call 70; refine (hC _).mono ?_; rintro r w1 ⟨rfl, hb⟩; have HB1 : Hid (Below wr.heap.size wr w1) := hb; clear hb)
      go_ret2
      rw [HR.out]
      exact ⟨_, rfl, HT.out.new HB1.out, HB.out.trans (HB1.out.mono HB.out.size)⟩
    | some q =>
      obtain ⟨x, n⟩ := q
      have hC := unframe_ok wr ha HL.out h
      have H1 : Hid _ := unf1_some h
      have HU2 : Hid _ := step_unf h HU.out
      have HM : Hid (T.length + [x].length ≤ 2000000000) := by
        show _ ≤ _
        have h1 := HN.out
        rw [HU2.out] at h1
        simp at h1 ⊢
        omega
      clear h
      go_wp2_with (first
        | (go_at_call 70; refine hC.mono ?_; rintro r w1 ⟨rfl, hb⟩; have HB1 : Hid (Below wr.heap.size wr w1) := hb; clear hb)
        | (at_builtin; refine wpl_appT rfl rfl rfl rfl (HT.out.new (HB1.out.trans ((one_newD w1 (.cells #[.string (str x)] 9)).mono HB1.out.size))) (src1 w1 x) HM.out ?_ ?_; (have h1 := HB.out.size; have h2 := HB1.out.size; simp; omega); intro v2 w2 o2 f2 b2; have HO2 : Hid (TxO w2 w.heap.size v2 (T ++ [x])) := o2; have HF2 : Hid (Below w.heap.size (w1.alloc (.cells #[.string (str x)] 9)) w2) := HT.out.below (by have h1 := HB.out.size; have h2 := HB1.out.size; simp; omega) f2; clear o2 f2 b2; obtain ⟨ao2, c2, rfl⟩ := HO2.out.shape))
      have hb3 := HB.out.trans (HB1.out.mono HB.out.size)
      have hb4 := hb3.trans ((one_newD w1 (.cells #[.string (str x)] 9)).mono hb3.size)
      have h1 := H1.out.1
      have h2 := H1.out.2.2
      rw [List.length_drop] at h1
      refine ⟨⟨ao2, _, c2, T ++ [x], a + n, rfl, by go_num, by omega, (by have h := HO2.out; rw [List.length_append] at h; exact h), HU2, hb4.trans HF2.out⟩, by simp [intOf]; omega⟩
end Go.Proofs.Ytdapapnkmicklaa
