/- The reference's Mul and Ratio at any numbers. -/
import Derived.Test.YtpehbpehlkjdiaaNmOver
namespace Go.Proofs.Ytpehbpehlkjdiaa
open Go.RowKit

theorem over_any (o0 o1 o2 o3 p B : Nat) (w : World) (hb0 : 0 < B) (hb : B < 18446744073709551616) (h : Halves p o0 o1 o2 o3) :
    Calls Try.prog 28 #[.agg #[.int .u64 (o0 : Int), .int .u64 (o1 : Int), .int .u64 (o2 : Int), .int .u64 (o3 : Int)], .int .u64 (B : Int)] w fun e w' => (p / B < 18446744073709551616 ∧ e = .returned (.tuple #[.int .u64 ((p / B : Nat) : Int), .bool true]) ∨ 18446744073709551616 ≤ p / B ∧ e = .returned (.tuple #[.int .u64 0, .bool false])) ∧ Below w.heap.size w w' :=
  over_walk o0 o1 o2 o3 B p B w (by omega) (by omega) rfl (by have := h.b0; omega) (by have := h.b1; omega) (by have := h.b2; omega) (by have := h.b3; omega) h

theorem refmul_any (a b : Int) (w : World) (ha : -9223372036854775808 ≤ a) (ha' : a ≤ 9223372036854775807) (hb : -9223372036854775808 ≤ b) (hb' : b ≤ 9223372036854775807) :
    Calls Try.prog 14 #[.int .i64 a, .int .i64 b] w fun e w' => e = ans (a * b) ∧ Below w.heap.size w w' := by
  have HA : Hid (I64 a) := ⟨ha, ha'⟩
  have HB : Hid (I64 b) := ⟨hb, hb'⟩
  have HX : Hid (a.natAbs < 18446744073709551616 ∧ b.natAbs < 18446744073709551616) := ⟨by omega, by omega⟩
  have hS := sg_mul a b
  have HP : Hid (∀ w, Calls Try.prog 24 #[.int .u64 (a.natAbs : Int), .int .u64 (b.natAbs : Int)] w fun e w' => (∃ q0 q1 q2 q3 : Int, e = .returned (.agg #[.int .u64 q0, .int .u64 q1, .int .u64 q2, .int .u64 q3]) ∧ ((0 ≤ q0 ∧ q0 < 4294967296 ∧ 0 ≤ q1 ∧ q1 < 4294967296 ∧ 0 ≤ q2 ∧ 0 ≤ q3) ∧ Hid (q0 + q1 * 4294967296 + q2 * 18446744073709551616 + q3 * 79228162514264337593543950336 = ((a.natAbs * b.natAbs : Nat) : Int)))) ∧ Below w.heap.size w w') := by
    intro w
    refine (product_any _ _ w HX.out.1 HX.out.2).mono ?_
    rintro e w' ⟨⟨o0, o1, o2, o3, rfl, h⟩, hbel⟩
    refine ⟨⟨o0, o1, o2, o3, rfl, ?_, ?_⟩, hbel⟩
    · obtain ⟨b0, b1, b2, b3, _⟩ := h
      omega
    · have := h.sum
      show _ = _
      omega
  clear ha ha' hb hb'
  go_enter Try.func14, Try.ntmps14
  go_upto_region 2 with (first
    | (go_at_call 25; refine (refsize_any _ _ (by first | exact HA.out.1 | exact HB.out.1) (by first | exact HA.out.2 | exact HB.out.2)).mono ?_; rintro e w1 ⟨rfl, rfl⟩)
    | (go_at_call 24; refine (HP.out _).mono ?_; rintro e w2 ⟨⟨q0, q1, q2, q3, rfl, hq, HQ⟩, hb2⟩))
  by_cases hz : q2 = 0 ∧ q3 = 0
  · obtain ⟨h2, h3⟩ := hz
    have HR : Hid (0 ≤ q0 + q1 * 4294967296 ∧ q0 + q1 * 4294967296 < 18446744073709551616) := by show _ ∧ _; omega
    have HE : Hid (q0 + q1 * 4294967296 = ((a.natAbs * b.natAbs : Nat) : Int)) := by
      have := HQ.out
      rw [h2, h3] at this
      show _ = _
      omega
    subst h2 h3
    have HS : Hid (sg (q0 + q1 * 4294967296) (!(decide (a < 0) == decide (b < 0))) = a * b) := by show _ = _; rw [HE.out]; exact hS
    clear hS
    go_wp2_with (go_at_call 26; refine (refsigned_any _ _ _ HR.out.1 HR.out.2).mono ?_; rintro e w3 ⟨rfl, rfl⟩)
    go_ret2
    exact ⟨by rw [ans_def, ← HS.out]; rfl, hb2.alloc hb2.size _⟩
  · have HO : Hid (¬ (-9223372036854775808 ≤ a * b ∧ a * b ≤ 9223372036854775807)) := by
      show ¬ _
      rw [← hS]
      apply sg_out
      rw [← HQ.out]
      omega
    clear hS
    by_cases h2 : q2 = 0
    · have h3 : ¬ q3 = 0 := fun h => hz ⟨h2, h⟩
      go_wp2
      go_ret2
      exact ⟨ans_out HO.out, hb2.alloc hb2.size _⟩
    · go_wp2
      go_ret2
      exact ⟨ans_out HO.out, hb2.alloc hb2.size _⟩

theorem sg_nz (n : Int) : sg n (n != 0) = sg n true := by
  by_cases h : n = 0
  · subst h; rfl
  · have : (n != 0) = true := by simp [h]
    rw [this]
theorem sg_nz' (n : Int) : sg n (!(n == 0)) = sg n true := sg_nz n
theorem ans_of {n x : Int} (h : n = x) : Ending.returned (.tuple #[.int .i64 (hv n), .int .i64 (he n)]) = ans x := by rw [h]; rfl
set_option maxHeartbeats 1000000 in
theorem refratio_any (a b c : Int) (w : World) (ha : -9223372036854775808 ≤ a) (ha' : a ≤ 9223372036854775807) (hb : -9223372036854775808 ≤ b) (hb' : b ≤ 9223372036854775807) (hc : -9223372036854775808 ≤ c) (hc' : c ≤ 9223372036854775807) :
    Calls Try.prog 18 #[.int .i64 a, .int .i64 b, .int .i64 c] w fun e w' => e = ansz c ((a * b).tdiv c) ∧ Below w.heap.size w w' := by
  by_cases h0 : c = 0
  · subst h0
    go_enter Try.func18, Try.ntmps18
    go_wp2
    go_ret2
    exact ⟨ansz_zero _, Below.refl _ _⟩
  · rw [ansz_ne h0]
    have HA : Hid (I64 a) := ⟨ha, ha'⟩
    have HB : Hid (I64 b) := ⟨hb, hb'⟩
    have HC : Hid (I64 c) := ⟨hc, hc'⟩
    have HX : Hid (a.natAbs < 18446744073709551616 ∧ b.natAbs < 18446744073709551616) := ⟨by omega, by omega⟩
    have HCB : Hid (0 < c.natAbs ∧ c.natAbs < 18446744073709551616) := ⟨by omega, by omega⟩
    have hS := sg_ratio a b c
    obtain ⟨p, hp⟩ : ∃ p : Nat, a.natAbs * b.natAbs = p := ⟨_, rfl⟩
    have HP : Hid (∀ w, Calls Try.prog 24 #[.int .u64 (a.natAbs : Int), .int .u64 (b.natAbs : Int)] w fun e w' => (∃ o0 o1 o2 o3 : Nat, e = .returned (.agg #[.int .u64 (o0 : Int), .int .u64 (o1 : Int), .int .u64 (o2 : Int), .int .u64 (o3 : Int)]) ∧ Hid (Halves p o0 o1 o2 o3)) ∧ Below w.heap.size w w') := by
      intro w
      rw [← hp]
      exact product_any _ _ w HX.out.1 HX.out.2
    rw [hp] at hS
    obtain ⟨q, hq⟩ : ∃ q : Int, ((p / c.natAbs : Nat) : Int) = q := ⟨_, rfl⟩
    rw [hq] at hS
    clear ha ha' hb hb' hc hc' hp
    by_cases h1 : p / c.natAbs < 18446744073709551616
    · have HOV : Hid (∀ (o0 o1 o2 o3 : Nat) (w : World), Halves p o0 o1 o2 o3 → Calls Try.prog 28 #[.agg #[.int .u64 (o0 : Int), .int .u64 (o1 : Int), .int .u64 (o2 : Int), .int .u64 (o3 : Int)], .int .u64 (c.natAbs : Int)] w fun e w' => e = .returned (.tuple #[.int .u64 q, .bool true]) ∧ Below w.heap.size w w') := by
        intro o0 o1 o2 o3 w h
        refine (over_any o0 o1 o2 o3 p c.natAbs w HCB.out.1 HCB.out.2 h).mono ?_
        rintro e w' ⟨⟨_, he⟩ | ⟨h2, _⟩, hbel⟩
        · rw [hq] at he
          exact ⟨he, hbel⟩
        · exact absurd h1 (Nat.not_lt.mpr h2)
      have HQ : Hid (0 ≤ q ∧ q < 18446744073709551616) := by
        rw [← hq]
        generalize p / c.natAbs = z at *
        show _ ∧ _
        omega
      clear h1 hq
      cases ha0 : decide (a < 0) <;> cases hb0 : decide (b < 0) <;> cases hc0 : decide (c < 0)
      all_goals
        simp only [ha0, hb0, hc0] at hS
        have HS : Hid _ := hS
        clear hS
        go_enter Try.func18, Try.ntmps18
        go_wp2_with (first
          | (go_at_call 25; refine (refsize_any _ _ (by first | exact HA.out.1 | exact HB.out.1 | exact HC.out.1) (by first | exact HA.out.2 | exact HB.out.2 | exact HC.out.2)).mono ?_; rintro e w1 ⟨rfl, rfl⟩)
          | (go_at_call 24; refine (HP.out _).mono ?_; rintro e w2 ⟨⟨o0, o1, o2, o3, rfl, HH⟩, hb2⟩)
          | (go_at_call 28; refine (HOV.out _ _ _ _ _ HH.out).mono ?_; rintro e w3 ⟨rfl, hb3⟩)
          | (go_at_call 26; refine (refsigned_any _ _ _ HQ.out.1 HQ.out.2).mono ?_; rintro e w4 ⟨rfl, rfl⟩))
        go_ret2
        exact ⟨ans_of (by first | exact HS.out | exact (sg_nz q).trans HS.out | exact (sg_nz' q).trans HS.out), hb2.trans (hb3.mono hb2.size)⟩
    · have HOV : Hid (∀ (o0 o1 o2 o3 : Nat) (w : World), Halves p o0 o1 o2 o3 → Calls Try.prog 28 #[.agg #[.int .u64 (o0 : Int), .int .u64 (o1 : Int), .int .u64 (o2 : Int), .int .u64 (o3 : Int)], .int .u64 (c.natAbs : Int)] w fun e w' => e = .returned (.tuple #[.int .u64 0, .bool false]) ∧ Below w.heap.size w w') := by
        intro o0 o1 o2 o3 w h
        refine (over_any o0 o1 o2 o3 p c.natAbs w HCB.out.1 HCB.out.2 h).mono ?_
        rintro e w' ⟨⟨h2, _⟩ | ⟨_, he⟩, hbel⟩
        · exact absurd h2 h1
        · exact ⟨he, hbel⟩
      have HO : Hid (¬ (-9223372036854775808 ≤ (a * b).tdiv c ∧ (a * b).tdiv c ≤ 9223372036854775807)) := by
        show ¬ _
        rw [← hS]
        apply sg_out
        rw [← hq]
        generalize p / c.natAbs = z at *
        omega
      clear hS h1 hq
      go_enter Try.func18, Try.ntmps18
      go_wp2_with (first
        | (go_at_call 25; refine (refsize_any _ _ (by first | exact HA.out.1 | exact HB.out.1 | exact HC.out.1) (by first | exact HA.out.2 | exact HB.out.2 | exact HC.out.2)).mono ?_; rintro e w1 ⟨rfl, rfl⟩)
        | (go_at_call 24; refine (HP.out _).mono ?_; rintro e w2 ⟨⟨o0, o1, o2, o3, rfl, HH⟩, hb2⟩)
        | (go_at_call 28; refine (HOV.out _ _ _ _ _ HH.out).mono ?_; rintro e w3 ⟨rfl, hb3⟩))
      go_ret2
      exact ⟨ans_out HO.out, hb2.trans (hb3.mono hb2.size)⟩
end Go.Proofs.Ytpehbpehlkjdiaa
