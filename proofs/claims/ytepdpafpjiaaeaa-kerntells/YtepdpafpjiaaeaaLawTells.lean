/- The walk of the statement on messages and requests to all neighbours. -/
import Derived.Test.YtepdpafpjiaaeaaKnTells1
import Derived.Test.YtepdpafpjiaaeaaKnAwake3
import Derived.Test.YtepdpafpjiaaeaaKnEq
import Derived.Deep.CutBlock
namespace Go.Proofs.Ytepdpafpjiaaeaa
open Go.RowKit
set_option maxRecDepth 100000 in
set_option maxHeartbeats 2000000 in
theorem law_tells {w : World} {P : Nat → Prop} {st id va ma : Int} {eo mo po : Option Addr} {en ec mn mc pn pc : Nat} {ha u0 u1 u2 u3 u4 u5 u6 u7 u8 u9 : Value} (x : Int) (E : List Ed) (he : en = E.length) (hE : EdAt w P eo E) (hl : E.length ≤ 1048576) :
    Calls Try.prog 5 #[(.agg #[.int .i64 st, .int .i64 id, .int .i64 va, .slice eo en ec, ha, .slice mo mn mc, u0, u1, u2, u3, u4, u5, u6, u7, u8, u9, .int .i64 ma, .slice po pn pc]), .int .i64 x] w fun e w' => e = .returned (.bool true) ∧ Below w.heap.size w w' := by
  subst he
  obtain ⟨W0, hW0⟩ : ∃ W0, w.alloc (.cells #[.int .i64 st, .int .i64 id, .int .i64 va, .slice eo E.length ec, ha, .slice mo mn mc, u0, u1, u2, u3, u4, u5, u6, u7, u8, u9, .int .i64 ma, .slice po pn pc] 49) = W0 := ⟨_, rfl⟩
  have hB0 : Below w.heap.size w W0 := by rw [← hW0]; exact one_newK _ _
  have hIn : InBox W0 w.heap.size #[.int .i64 st, .int .i64 id, .int .i64 va, .slice eo E.length ec, ha, .slice mo mn mc, u0, u1, u2, u3, u4, u5, u6, u7, u8, u9, .int .i64 ma, .slice po pn pc] := by rw [← hW0]; exact InBox.made _ _
  have HIn : Hid _ := hIn
  have HE : Hid (EdAt W0 P eo E) := edNew hE hB0
  have HB0 : Hid _ := hB0
  clear hE hIn hB0
  go_enter Try.func5, Try.ntmps5
  go_upto_region 1 with fail
  refine tells_r1 (P := P) (bx := w.heap.size) (x := x) (E := E) rfl rfl rfl HIn.out rfl HE.out hl ?_
  rintro X W hb ⟨hM, hU⟩
  simp only [puts]
  obtain ⟨ao1, c1, h5⟩ := k_shape hM
  obtain ⟨ao2, c2, h6⟩ := k_shape hU
  rw [toL_len] at h5
  rw [backL_len] at h6
  have HM : Hid (W.ownsRow W0.heap.size 66 4 (.slice ao1 E.length c1) E.length ((toL id x E).flatMap msgCells)) := by have h := hM; unfold KM at h; rw [toL_len, h5] at h; exact h
  have HU : Hid (W.ownsRow W0.heap.size 70 4 (.slice ao2 E.length c2) E.length ((backL id E).flatMap muCells)) := by have h := hU; unfold KU at h; rw [backL_len, h6] at h; exact h
  rw [h5, h6]
  generalize X 9 = x9
  generalize X 10 = x10
  generalize X 11 = x11
  generalize X 12 = x12
  generalize X 13 = x13
  have HI1 : Hid _ := InBox.new HIn.out hb
  have HE1 : Hid _ := edNew HE.out hb
  have HB1 : Hid _ := HB0.out.trans (hb.mono HB0.out.size)
  obtain ⟨_, _, _, q3, _⟩ := InBox.cells HI1.out
  clear hM hU h5 h6 hb X
  go_upto_block 0 with (go_at_call 8; refine (awake7 _).mono ?_; rintro r w1 ⟨rfl, hb1⟩; have HM1 : Hid _ := k_new HM.out hb1; have HU1 : Hid _ := k_new HU.out hb1; have HI2 : Hid _ := InBox.new HI1.out hb1; have HE2 : Hid _ := edNew HE1.out hb1; have HB2 : Hid _ := HB1.out.trans (hb1.mono HB1.out.size); clear hb1)
  clear HM HU HI1 HE1 HB1 q3
  go_wp2
  go_loopw [8] (fun i wr => ∃ k : Nat, k ≤ E.length ∧ i = .int .i64 k ∧ Below w1.heap.size w1 wr) (fun i _ => E.length - (intOf i).toNat)
  case atStart => exact ⟨0, Nat.zero_le _, rfl, Below.refl _ _⟩
  case round =>
    obtain ⟨k, hk, rfl, hb⟩ := hrel
    by_cases hlt : k < E.length
    · obtain ⟨b, off, rfl, _, hc⟩ := edNew HE2.out hb (by omega)
      obtain ⟨g1, rfl, _, hc1⟩ := k_at (k_new HM1.out hb) (by omega)
      obtain ⟨g2, rfl, _, hc2⟩ := k_at (k_new HU1.out hb) (by omega)
      obtain ⟨e0, _⟩ := hc k hlt
      obtain ⟨m0, m1, m2, m3⟩ := km_get (toL id x E) k (by rw [toL_len]; exact hlt)
      obtain ⟨n0, n1, n2, n3⟩ := ku_get (backL id E) k (by rw [backL_len]; exact hlt)
      rw [toL_get id x E k hlt] at m0 m1 m2 m3
      rw [backL_get id E k hlt] at n0 n1 n2 n3
      have d0 := hc1 _ _ m0
      have d1 := hc1 _ _ m1
      have d2 := hc1 _ _ m2
      have d3 := hc1 _ _ m3
      have f0 := hc2 _ _ n0
      have f1 := hc2 _ _ n1
      have f2 := hc2 _ _ n2
      have f3 := hc2 _ _ n3
      obtain ⟨_, q1, _⟩ := InBox.cells (InBox.new HI2.out hb)
      generalize E[k] = y at e0 d1 f1
      have hq1 := fun w p q => k_guardM w p q id y.t k x id y.t k x
      have hq2 := fun w => k_neM w id y.t k x
      have hq3 := fun w p q => k_guardU w p q 4 y.t id 0 4 y.t id 0
      have hq4 := fun w => k_neU w 4 y.t id 0
      clear m0 m1 m2 m3 n0 n1 n2 n3 hc hc1 hc2
      have HB : Hid _ := hb
      clear hb
      go_upto_region 8 with fail
      go_quiet (fail)
      go_wp2
      go_roundw
      case rel => exact ⟨k + 1, by omega, by go_num, k_drewN HB.out _⟩
      case measure => simp [intOf]; omega
    · obtain rfl : k = E.length := by omega
      have HB : Hid _ := hb
      clear hb
      go_wp2
      go_ret
      exact ⟨rfl, HB2.out.trans (HB.out.mono HB2.out.size)⟩
end Go.Proofs.Ytepdpafpjiaaeaa
