import Derived.Test.YtnhijofnhflklaaGreatRnRB5M
import Derived.Deep.Cut
import Derived.Deep.DeepCutAuto
import Derived.Deep.CutBlock
import Derived.Test.YtnhijofnhflklaaGreatRnCheckM
import Derived.Test.YtnhijofnhflklaaGreatRnDegM
import Derived.Test.YtnhijofnhflklaaGreatGrDataM
import Derived.Test.YtnhijofnhflklaaGreatProg
import Derived.WalkKit
import Derived.ProofKit
import Derived.OpenShut
import Derived.Deep.Slices
import Derived.Deep.Strs
import Derived.Lib.SmallJoins
section
/- The document's own bytes of an outcome. -/
namespace Go.Proofs.YtnhijofnhflklaaGreat
open Go.RowKit
theorem rb_size (l : List UInt8) : (str l).size = l.length := by simp [str, ByteArray.size]
theorem rb_next (H : List UInt8) (L : List Ed) (j : Nat) (h : j < L.length) : str (H ++ (L.take j).flatMap edB) ++ (str (sgB L[j].t) ++ str (sgB L[j].w)) = str (H ++ (L.take (j + 1)).flatMap edB) := by
  rw [str_append, str_append, eds_snoc L j h]
  show _ = str (H ++ ((L.take j).flatMap edB ++ (sgB L[j].t ++ sgB L[j].w)))
  simp only [List.append_assoc]
set_option maxRecDepth 100000 in
set_option maxHeartbeats 2000000 in
theorem refOB_any {w : World} {P : Nat → Prop} {vo : Option Addr} {kn en sn : Nat} {L : List Ed} (vc : Nat) (hk : kn ≤ 1000) (he : en ≤ 1000) (hs : sn ≤ 1000) (hE : EdAt w P vo L) (hok : ∀ m ∈ L, m.ok) (hl : L.length ≤ 256) :
    Calls Tryz.prog 15 #[.agg #[.int .i64 (kn : Int), .int .i64 (en : Int), .int .i64 (sn : Int), .slice vo L.length vc]] w fun r w' => r = .returned (.string (str (ocB kn en sn L))) ∧ Below w.heap.size w w' := by
  obtain ⟨W0, hW0⟩ : ∃ W0, w.alloc (.cells #[.int .i64 (kn : Int), .int .i64 (en : Int), .int .i64 (sn : Int), .slice vo L.length vc] 45) = W0 := ⟨_, rfl⟩
  have hb0 : Below w.heap.size w W0 := by rw [← hW0]; exact one_new _ _
  have hB : W0.heap[w.heap.size]? = some (.cells #[.int .i64 (kn : Int), .int .i64 (en : Int), .int .i64 (sn : Int), .slice vo L.length vc] 45 (0, 0)) := by rw [← hW0]; exact heap_alloc_new _ _
  have HB : Hid _ := hB
  have HB0 : Hid (Below w.heap.size w W0) := hb0
  have HE : Hid (EdAt W0 P vo L) := hE.new hb0
  have HO : Hid (∀ m ∈ L, m.ok) := hok
  obtain ⟨N, HN⟩ : ∃ N, Hid (N = L.length) := ⟨_, rfl⟩
  have hN : N ≤ 256 := by rw [HN.out]; exact hl
  have l0 := numB_len10 (n := kn) (by omega)
  have l1 := numB_len10 (n := en) (by omega)
  have l2 := numB_len10 (n := sn) (by omega)
  have l3 := numB_len10 (n := N) (by omega)
  have HH : Hid (str (numB kn) ++ str (numB en) ++ str (numB sn) ++ str (numB N) = str (ocH kn en sn L)) := by
    show _ = _
    rw [str_append, str_append, str_append, HN.out]
    rfl
  have HHl : Hid ((ocH kn en sn L).length ≤ 40) := by
    show _ ≤ _
    unfold ocH
    rw [← HN.out]
    simp only [List.length_append, Int.toNat_natCast]
    omega
  rw [← HN.out] at HB hW0
  clear hE hok hl hb0 hB
  rw [← HN.out]
  go_enter Tryz.func15, Tryz.ntmps15
  go_upto_region 1 with (fail)
  refine rb_r1 (bx := w.heap.size) (kn := kn) (en := en) (sn := sn) (vn := N) (vc := vc) (vo := vo) (z0 := str (numB kn)) (z1 := str (numB en)) (z2 := str (numB sn)) (z3 := str (numB N)) rfl rfl HB.out (by omega) (by omega) (by omega) (by omega) rfl rfl rfl rfl (by rw [rb_size, rb_size]; omega) (by rw [rb_size, rb_size, rb_size]; omega) (by rw [rb_size, rb_size, rb_size, rb_size]; omega) ?_
  intro X W1 hb1 x3
  have HB1 : Hid (Below W0.heap.size W0 W1) := hb1
  clear hb1 l0 l1 l2 l3 hW0
  simp only [puts]
  rw [x3, HH.out]
  clear x3 HH
  generalize X 5 = x5
  generalize X 6 = x6
  generalize X 7 = x7
  generalize X 8 = x8
  generalize X 9 = x9
  generalize X 10 = x10
  generalize X 11 = x11
  generalize X 12 = x12
  generalize X 13 = x13
  generalize X 14 = x14
  generalize X 15 = x15
  generalize X 16 = x16
  generalize X 17 = x17
  generalize X 18 = x18
  generalize X 19 = x19
  generalize X 20 = x20
  generalize X 21 = x21
  generalize X 22 = x22
  generalize X 23 = x23
  generalize X 24 = x24
  simp only [Act.put, List.setIfInBounds_toArray, List.set_cons_succ, List.set_cons_zero]
  go_upto_block 0 with (fail)
  go_wp2
  go_loopw [3, 4] (fun t i wr => ∃ j : Nat, j ≤ N ∧ t = .string (str (ocH kn en sn L ++ (L.take j).flatMap edB)) ∧ i = .int .i64 j ∧ Below W0.heap.size W0 wr) (fun _ i _ => N - (intOf i).toNat)
  case atStart => exact ⟨0, Nat.zero_le _, by rw [List.take_zero, List.flatMap_nil, List.append_nil], rfl, HB1.out⟩
  case round =>
    obtain ⟨j, hj, rfl, rfl, hbj⟩ := hrel
    have c3 : wr.cell? ⟨w.heap.size, 3, none⟩ = some (.slice vo N vc) := (oc_cells ((hbj.block _ (Array.getElem?_eq_some_iff.1 HB.out).1).trans HB.out)).2.2.2
    have HBj : Hid _ := hbj
    by_cases hlt : j < N
    · have hjL : j < L.length := by rw [← HN.out]; exact hlt
      obtain ⟨b, off, rfl, hP, hc⟩ := HE.out (by omega)
      obtain ⟨d0, d1⟩ := hc j hjL
      have e0 := (hbj.cell (p := ⟨b, off + j * 2, none⟩) (lt_cell d0)).trans d0
      have e1 := (hbj.cell (p := ⟨b, off + j * 2 + 1, none⟩) (lt_cell d1)).trans d1
      have HZ : Hid (L[j].ok) := HO.out _ (List.getElem_mem hjL)
      have HX : Hid _ := rb_next (ocH kn en sn L) L j hjL
      have hlen := edsB_len (L.take j) (fun v hv => HO.out v (List.mem_of_mem_take hv))
      rw [List.length_take] at hlen
      have HZl : Hid ((ocH kn en sn L ++ (L.take j).flatMap edB).length ≤ 40 + 20 * 256) := by
        show _ ≤ _
        have := HHl.out
        rw [List.length_append]
        omega
      generalize L[j] = z at e0 e1 HZ HX
      have s1 := sgB_len HZ.out.t
      have s2 := sgB_len HZ.out.w
      clear hc d0 d1 hbj hlen
      go_upto_region 5 with (fail)
      have hzl := HZl.out
      refine rb_r5 (bx := w.heap.size) (b := b) (off := off) (j := j) (vn := N) (vc := vc) (kt := z.t) (kw := z.w) (s0 := str (ocH kn en sn L ++ (L.take j).flatMap edB)) (z0 := str (sgB z.t)) (z1 := str (sgB z.w)) rfl rfl rfl rfl c3 hlt e0 e1 HZ.out.t HZ.out.w rfl rfl (by rw [rb_size, rb_size]; omega) (by rw [rb_size, rb_size, rb_size]; omega) ?_
      intro X W2 hb2 x3
      have HB2 : Hid (Below W0.heap.size W0 W2) := HBj.out.trans (hb2.mono HBj.out.size)
      clear hb2 hzl s1 s2 e0 e1 c3
      simp only [puts]
      rw [x3, HX.out]
      clear x3
      generalize X 32 = x32
      generalize X 33 = x33
      generalize X 34 = x34
      generalize X 35 = x35
      generalize X 36 = x36
      generalize X 37 = x37
      generalize X 38 = x38
      generalize X 39 = x39
      generalize X 40 = x40
      generalize X 41 = x41
      generalize X 42 = x42
      generalize X 43 = x43
      generalize X 44 = x44
      generalize X 45 = x45
      generalize X 46 = x46
      generalize X 47 = x47
      generalize X 48 = x48
      simp only [Act.put, List.setIfInBounds_toArray, List.set_cons_succ, List.set_cons_zero]
      go_wp2
      go_roundw
      case rel => exact ⟨j + 1, by omega, rfl, by go_num, HB2.out⟩
      case measure => simp [intOf]; omega
    · obtain rfl : j = N := by omega
      have HF : Hid (ocH kn en sn L ++ (L.take j).flatMap edB = ocB kn en sn L) := by
        show _ = _
        rw [List.take_of_length_le (by rw [HN.out]; exact Nat.le_refl _)]
        rfl
      rw [HF.out]
      clear hbj
      go_wp2
      go_ret
      exact ⟨rfl, HB0.out.trans (HBj.out.mono HB0.out.size)⟩
end Go.Proofs.YtnhijofnhflklaaGreat
end

section
/- slices.Equal of values. -/
namespace Go.Proofs.YtnhijofnhflklaaGreat
open Go.RowKit
theorem run_equalV (w : World) (a b c d : Int) : (Op.equalIn 10000 101 (.agg #[.int .i64 a, .int .i64 b]) (.agg #[.int .i64 c, .int .i64 d])).run Tryz.prog w = .ok (a == c && b == d) w := by
  unfold Op.equalIn
  simp [run_underlying Tryz.underlying101, (part_at _ _ _).1, (part_at _ _ _).2, run_equal2]
  by_cases h1 : a = c <;> by_cases h2 : b = d <;> simp [h1, h2]
theorem run_neqV (w : World) (a b c d : Int) : (binOp .neq 101 (.agg #[.int .i64 a, .int .i64 b]) (.agg #[.int .i64 c, .int .i64 d])).run Tryz.prog w = .ok (.bool (!(a == c && b == d))) w := by
  simp only [binOp]
  simp [Op.equal, Op.maxDepth, run_equalV]
theorem run_guardV (w : World) (x y : Operand) (a b c d : Int) : (eqGuard .neq 101 x y (.agg #[.int .i64 a, .int .i64 b]) (.agg #[.int .i64 c, .int .i64 d])).run Tryz.prog w = .ok () w := by
  unfold eqGuard
  simp
set_option maxRecDepth 100000 in
set_option maxHeartbeats 4000000 in
theorem equalV_any {w : World} {P Q : Nat → Prop} {ao bo : Option Addr} {L M : List Ed} (ca cb : Nat) (hL : EdAt w P ao L) (hM : EdAt w Q bo M) (hl : L.length ≤ 9223372036854775807) :
    Calls Tryz.prog 52 #[.slice ao L.length ca, .slice bo M.length cb] w fun r w' => r = .returned (.bool (sameEs L M)) ∧ Below w.heap.size w w' := by
  by_cases hlen : L.length = M.length
  · go_enter Tryz.func52, Tryz.ntmps52
    go_wp2
    go_loopw [5, 13] (fun _ i wr => ∃ k : Nat, k ≤ L.length ∧ i = .int .i64 k ∧ Hid (∀ j (h : j < L.length) (h' : j < M.length), j < k → L[j] = M[j]) ∧ Below w.heap.size w wr) (fun _ i _ => L.length - (intOf i).toNat)
    case atStart => exact ⟨0, Nat.zero_le _, rfl, fun j _ _ hj => absurd hj (by omega), Below.refl _ _⟩
    case round =>
      obtain ⟨k, hk, rfl, HR, hb⟩ := hrel
      by_cases hlt : k < L.length
      · have hltM : k < M.length := by omega
        obtain ⟨b, off, rfl, hP, hc⟩ := hL (by omega)
        obtain ⟨b', off', rfl, hP', hc'⟩ := hM (by omega)
        obtain ⟨c0, c1⟩ := hc k hlt
        obtain ⟨e0, e1⟩ := hc' k hltM
        have d0 := (hb.cell (p := ⟨b, off + k * 2, none⟩) (lt_cell c0)).trans c0
        have d1 := (hb.cell (p := ⟨b, off + k * 2 + 1, none⟩) (lt_cell c0)).trans c1
        have f0 := (hb.cell (p := ⟨b', off' + k * 2, none⟩) (lt_cell e0)).trans e0
        have f1 := (hb.cell (p := ⟨b', off' + k * 2 + 1, none⟩) (lt_cell e0)).trans e1
        have HA : Hid (∀ y z, L[k] = y → M[k] = z → y = z → ∀ j (h : j < L.length) (h' : j < M.length), j < k + 1 → L[j] = M[j]) := fun y z hy hz e => step_all hlt hltM hy hz e HR.out
        have HB : Hid (∀ y z, L[k] = y → M[k] = z → y ≠ z → sameEs L M = false) := fun y z hy hz e => sameEs_at hlt hltM (by rw [hy, hz]; exact e)
        obtain ⟨y, hy⟩ : ∃ y, L[k] = y := ⟨_, rfl⟩
        obtain ⟨z, hz⟩ : ∃ z, M[k] = z := ⟨_, rfl⟩
        have HY : Hid (L[k] = y) := hy
        have HZ : Hid (M[k] = z) := hz
        rw [hy] at d0 d1
        rw [hz] at f0 f1
        clear hy hz c0 c1 e0 e1 hc hc'
        have hq1 := fun w x' y' => run_guardV w x' y' y.t y.w z.t z.w
        have hq2 := fun w => run_neqV w y.t y.w z.t z.w
        go_wp2
        go_quiet (fail)
        by_cases e : y = z
        · rw [show (!y.t == z.t || !y.w == z.w) = false by rw [e]; simp]
          go_wp2
          go_roundw
          case rel => exact ⟨k + 1, by omega, by go_num, HA.out y z HY.out HZ.out e, bel_drewN hb _⟩
          case measure => simp [intOf]; omega
        · rw [show (!y.t == z.t || !y.w == z.w) = true from ed_ne e]
          have HF : Hid (sameEs L M = false) := HB.out y z HY.out HZ.out e
          go_wp2
          go_ret
          exact ⟨by rw [HF.out]; rfl, bel_drewN hb _⟩
      · obtain rfl : k = L.length := by omega
        have HT : Hid (sameEs L M = true) := sameEs_all hlen (fun j h h' => HR.out j h h' h)
        go_wp2
        go_ret
        exact ⟨by rw [HT.out]; rfl, hb⟩
  · have HC : Hid (sameEs L M = false) := sameEs_len hlen
    have hne : ((L.length : Int) == (M.length : Int)) = false := by rw [beq_eq_false_iff_ne]; omega
    go_enter Tryz.func52, Tryz.ntmps52
    go_wp2
    go_ret
    exact ⟨by rw [HC.out]; rfl, Below.refl _ _⟩
end Go.Proofs.YtnhijofnhflklaaGreat
end

section
/- run.Same of two outcomes. -/
namespace Go.Proofs.YtnhijofnhflklaaGreat
open Go.RowKit
def sameOc (k e s : Int) (L : List Ed) (k' e' s' : Int) (M : List Ed) : Bool := k == k' && (e == e' && (s == s' && sameEs L M))
theorem sameOc_iff {k e s k' e' s' : Int} {L M : List Ed} : sameOc k e s L k' e' s' M = true ↔ k = k' ∧ e = e' ∧ s = s' ∧ L = M := by
  unfold sameOc
  simp [sameEs_iff]
set_option maxRecDepth 100000 in
set_option maxHeartbeats 1000000 in
theorem sameO_any {w : World} {P Q : Nat → Prop} {ao bo : Option Addr} {k e s k' e' s' : Int} {L M : List Ed} (ca cb : Nat) (hL : EdAt w P ao L) (hM : EdAt w Q bo M) (hl : L.length ≤ 9223372036854775807) :
    Calls Tryz.prog 18 #[.agg #[.int .i64 k, .int .i64 e, .int .i64 s, .slice ao L.length ca], .agg #[.int .i64 k', .int .i64 e', .int .i64 s', .slice bo M.length cb]] w fun r w' => r = .returned (.bool (sameOc k e s L k' e' s' M)) ∧ Below w.heap.size w w' := by
  have hb2 := fun (o1 o2 : Obj) => b2 w o1 o2
  have hE := fun (o1 o2 : Obj) => equalV_any ca cb (hL.new (hb2 o1 o2)) (hM.new (hb2 o1 o2)) hl
  by_cases h1 : k = k'
  · by_cases h2 : e = e'
    · by_cases h3 : s = s'
      · have HV : Hid (sameOc k e s L k' e' s' M = sameEs L M) := by show _ = _; unfold sameOc; rw [h1, h2, h3]; simp
        go_enter Tryz.func18, Tryz.ntmps18
        go_wp2_with (go_at_call 52; refine (hE _ _).mono ?_; rintro r w1 ⟨rfl, hb1⟩)
        go_ret
        exact ⟨by rw [HV.out]; rfl, (b2 w _ _).trans (hb1.mono (by simp; omega))⟩
      · have HV : Hid (sameOc k e s L k' e' s' M = false) := by show _ = _; unfold sameOc; simp [h3]
        have k2 : (s == s') = false := by rw [beq_eq_false_iff_ne]; exact h3
        go_enter Tryz.func18, Tryz.ntmps18
        go_wp2
        go_ret
        exact ⟨by rw [HV.out]; rfl, b2 w _ _⟩
    · have HV : Hid (sameOc k e s L k' e' s' M = false) := by show _ = _; unfold sameOc; simp [h2]
      have k2 : (e == e') = false := by rw [beq_eq_false_iff_ne]; exact h2
      go_enter Tryz.func18, Tryz.ntmps18
      go_wp2
      go_ret
      exact ⟨by rw [HV.out]; rfl, b2 w _ _⟩
  · have HV : Hid (sameOc k e s L k' e' s' M = false) := by show _ = _; unfold sameOc; simp [h1]
    have k1 : (k == k') = false := by rw [beq_eq_false_iff_ne]; exact h1
    go_enter Tryz.func18, Tryz.ntmps18
    go_wp2
    go_ret
    exact ⟨by rw [HV.out]; rfl, b2 w _ _⟩
end Go.Proofs.YtnhijofnhflklaaGreat
end

section
/- RunBytes returns true. -/
namespace Go.Proofs.YtnhijofnhflklaaGreat
open Go.RowKit
set_option linter.unusedSimpArgs false in
set_option linter.unusedVariables false in
set_option maxRecDepth 100000 in
theorem rby_bad0 {w : World} {vo : Option Addr} {k e st : Int} {n vc : Nat} {s : ByteArray}  (h0 : k < 0) :
    Calls Tryz.prog 5 #[.agg #[.int .i64 k, .int .i64 e, .int .i64 st, .slice vo n vc], .string s] w fun r w' => r = .returned (.bool true) ∧ Below w.heap.size w w' := by
  go_enter Tryz.func5, Tryz.ntmps5
  go_wp2_with (go_at_call 13; refine (rawake _).mono ?_; rintro r w1 ⟨rfl, hb1⟩)
  go_ret
  exact ⟨rfl, (one_new w _).trans (hb1.mono (by simp))⟩
set_option linter.unusedSimpArgs false in
set_option linter.unusedVariables false in
set_option maxRecDepth 100000 in
theorem rby_bad1 {w : World} {vo : Option Addr} {k e st : Int} {n vc : Nat} {s : ByteArray} (h0 : ¬ k < 0) (h1 : 2 < k) :
    Calls Tryz.prog 5 #[.agg #[.int .i64 k, .int .i64 e, .int .i64 st, .slice vo n vc], .string s] w fun r w' => r = .returned (.bool true) ∧ Below w.heap.size w w' := by
  have d0 : decide (k < 0) = false := by simpa using h0
  go_enter Tryz.func5, Tryz.ntmps5
  go_wp2_with (go_at_call 13; refine (rawake _).mono ?_; rintro r w1 ⟨rfl, hb1⟩)
  go_ret
  exact ⟨rfl, (one_new w _).trans (hb1.mono (by simp))⟩
set_option linter.unusedSimpArgs false in
set_option linter.unusedVariables false in
set_option maxRecDepth 100000 in
theorem rby_bad2 {w : World} {vo : Option Addr} {k e st : Int} {n vc : Nat} {s : ByteArray} (h0 : ¬ k < 0) (h1 : ¬ 2 < k) (h2 : e < 0) :
    Calls Tryz.prog 5 #[.agg #[.int .i64 k, .int .i64 e, .int .i64 st, .slice vo n vc], .string s] w fun r w' => r = .returned (.bool true) ∧ Below w.heap.size w w' := by
  have d0 : decide (k < 0) = false := by simpa using h0
  have d1 : decide (2 < k) = false := by simpa using h1
  go_enter Tryz.func5, Tryz.ntmps5
  go_wp2_with (go_at_call 13; refine (rawake _).mono ?_; rintro r w1 ⟨rfl, hb1⟩)
  go_ret
  exact ⟨rfl, (one_new w _).trans (hb1.mono (by simp))⟩
set_option linter.unusedSimpArgs false in
set_option linter.unusedVariables false in
set_option maxRecDepth 100000 in
theorem rby_bad3 {w : World} {vo : Option Addr} {k e st : Int} {n vc : Nat} {s : ByteArray} (h0 : ¬ k < 0) (h1 : ¬ 2 < k) (h2 : ¬ e < 0) (h3 : 1000 < e) :
    Calls Tryz.prog 5 #[.agg #[.int .i64 k, .int .i64 e, .int .i64 st, .slice vo n vc], .string s] w fun r w' => r = .returned (.bool true) ∧ Below w.heap.size w w' := by
  have d0 : decide (k < 0) = false := by simpa using h0
  have d1 : decide (2 < k) = false := by simpa using h1
  have d2 : decide (e < 0) = false := by simpa using h2
  go_enter Tryz.func5, Tryz.ntmps5
  go_wp2_with (go_at_call 13; refine (rawake _).mono ?_; rintro r w1 ⟨rfl, hb1⟩)
  go_ret
  exact ⟨rfl, (one_new w _).trans (hb1.mono (by simp))⟩
set_option linter.unusedSimpArgs false in
set_option linter.unusedVariables false in
set_option maxRecDepth 100000 in
theorem rby_bad4 {w : World} {vo : Option Addr} {k e st : Int} {n vc : Nat} {s : ByteArray} (h0 : ¬ k < 0) (h1 : ¬ 2 < k) (h2 : ¬ e < 0) (h3 : ¬ 1000 < e) (h4 : st < 0) :
    Calls Tryz.prog 5 #[.agg #[.int .i64 k, .int .i64 e, .int .i64 st, .slice vo n vc], .string s] w fun r w' => r = .returned (.bool true) ∧ Below w.heap.size w w' := by
  have d0 : decide (k < 0) = false := by simpa using h0
  have d1 : decide (2 < k) = false := by simpa using h1
  have d2 : decide (e < 0) = false := by simpa using h2
  have d3 : decide (1000 < e) = false := by simpa using h3
  go_enter Tryz.func5, Tryz.ntmps5
  go_wp2_with (go_at_call 13; refine (rawake _).mono ?_; rintro r w1 ⟨rfl, hb1⟩)
  go_ret
  exact ⟨rfl, (one_new w _).trans (hb1.mono (by simp))⟩
set_option linter.unusedSimpArgs false in
set_option linter.unusedVariables false in
set_option maxRecDepth 100000 in
theorem rby_bad5 {w : World} {vo : Option Addr} {k e st : Int} {n vc : Nat} {s : ByteArray} (h0 : ¬ k < 0) (h1 : ¬ 2 < k) (h2 : ¬ e < 0) (h3 : ¬ 1000 < e) (h4 : ¬ st < 0) (h5 : 1000 < st) :
    Calls Tryz.prog 5 #[.agg #[.int .i64 k, .int .i64 e, .int .i64 st, .slice vo n vc], .string s] w fun r w' => r = .returned (.bool true) ∧ Below w.heap.size w w' := by
  have d0 : decide (k < 0) = false := by simpa using h0
  have d1 : decide (2 < k) = false := by simpa using h1
  have d2 : decide (e < 0) = false := by simpa using h2
  have d3 : decide (1000 < e) = false := by simpa using h3
  have d4 : decide (st < 0) = false := by simpa using h4
  go_enter Tryz.func5, Tryz.ntmps5
  go_wp2_with (go_at_call 13; refine (rawake _).mono ?_; rintro r w1 ⟨rfl, hb1⟩)
  go_ret
  exact ⟨rfl, (one_new w _).trans (hb1.mono (by simp))⟩
set_option linter.unusedSimpArgs false in
set_option linter.unusedVariables false in
set_option maxRecDepth 100000 in
theorem rby_bad6 {w : World} {vo : Option Addr} {k e st : Int} {n vc : Nat} {s : ByteArray} (h0 : ¬ k < 0) (h1 : ¬ 2 < k) (h2 : ¬ e < 0) (h3 : ¬ 1000 < e) (h4 : ¬ st < 0) (h5 : ¬ 1000 < st) (h6 : 256 < (n : Int)) :
    Calls Tryz.prog 5 #[.agg #[.int .i64 k, .int .i64 e, .int .i64 st, .slice vo n vc], .string s] w fun r w' => r = .returned (.bool true) ∧ Below w.heap.size w w' := by
  have d0 : decide (k < 0) = false := by simpa using h0
  have d1 : decide (2 < k) = false := by simpa using h1
  have d2 : decide (e < 0) = false := by simpa using h2
  have d3 : decide (1000 < e) = false := by simpa using h3
  have d4 : decide (st < 0) = false := by simpa using h4
  have d5 : decide (1000 < st) = false := by simpa using h5
  go_enter Tryz.func5, Tryz.ntmps5
  go_wp2_with (go_at_call 13; refine (rawake _).mono ?_; rintro r w1 ⟨rfl, hb1⟩)
  go_ret
  exact ⟨rfl, (one_new w _).trans (hb1.mono (by simp))⟩
/-- What Decode tells of any text. -/
theorem dec_is (s : ByteArray) (hs : s.size ≤ maxLen) : ∃ (k' e' s' ee : Int) (M : List Ed), ((ee = 0 ∧ str (ocB k' e' s' M) = s ∧ k' ≤ 9223372036854775807 ∧ e' ≤ 9223372036854775807 ∧ s' ≤ 9223372036854775807) ∨ (¬ ee = 0 ∧ k' = 0 ∧ e' = 0 ∧ s' = 0 ∧ M = [])) ∧ (∀ m ∈ M, m.ok) ∧ M.length ≤ 256 ∧
    ∀ w : World, Calls Tryz.prog 30 #[.string s] w fun r w' => (∃ vo vc, r = .returned (.tuple #[.agg #[.int .i64 k', .int .i64 e', .int .i64 s', .slice vo M.length vc], .int .i64 ee]) ∧ EdAt w' (fun q => w.heap.size ≤ q) vo M) ∧ Below w.heap.size w w' := by
  obtain ⟨⟨k, a1, e1⟩, h1⟩ : ∃ q, rdCount s 0 0 2 = q := ⟨_, rfl⟩
  obtain ⟨⟨er, a2, e2⟩, h2⟩ : ∃ q, rdCount s a1 e1 1000 = q := ⟨_, rfl⟩
  obtain ⟨⟨st, a3, e3⟩, h3⟩ : ∃ q, rdCount s a2 e2 1000 = q := ⟨_, rfl⟩
  obtain ⟨⟨n, a4, e4⟩, h4⟩ : ∃ q, rdCount s a3 e3 256 = q := ⟨_, rfl⟩
  obtain ⟨⟨L, a5, e5⟩, h5⟩ : ∃ q, rdOs s n a4 e4 [] = q := ⟨_, rfl⟩
  by_cases hz : rdEnd s a5 e5 = 0
  · obtain ⟨o1, o2, o3⟩ := oc_only h1 h2 h3 h4 h5 hz
    have g1 := rdCount_to (most := 2) (Nat.zero_le _) h1
    have g2 := rdCount_to (most := 1000) g1.1 h2
    have g3 := rdCount_to (most := 1000) g2.1 h3
    refine ⟨k, er, st, 0, L, .inl ⟨rfl, o1, by omega, by omega, by omega⟩, o2, o3, fun w => (decO_any hs h1 h2 h3 h4 h5).mono ?_⟩
    rintro r w' ⟨h | h, hb⟩
    · exact ⟨h.2, hb⟩
    · exact absurd hz h.1
  · refine ⟨0, 0, 0, rdEnd s a5 e5, [], .inr ⟨hz, rfl, rfl, rfl, rfl⟩, fun m hm => (by cases hm), by simp, fun w => (decO_any hs h1 h2 h3 h4 h5).mono ?_⟩
    rintro r w' ⟨h | h, hb⟩
    · exact absurd h.1 hz
    · exact ⟨⟨none, 0, h.2, fun h => absurd h (by simp)⟩, hb⟩
theorem dec_back {kn en sn : Nat} {L : List Ed} (hk : kn ≤ 2) (he : en ≤ 1000) (hs : sn ≤ 1000) (hl : L.length ≤ 256) (hok : ∀ m ∈ L, m.ok) (hS : (str (ocB kn en sn L)).size ≤ maxLen) (w : World) :
    Calls Tryz.prog 30 #[.string (str (ocB kn en sn L))] w fun r w' => (∃ vo vc, r = .returned (.tuple #[.agg #[.int .i64 (kn : Int), .int .i64 (en : Int), .int .i64 (sn : Int), .slice vo L.length vc], .int .i64 0]) ∧ EdAt w' (fun q => w.heap.size ≤ q) vo L) ∧ Below w.heap.size w w' := by
  obtain ⟨a1, a2, a3, a4, a5, h1, h2, h3, h4, h5, h6⟩ := oc_back hk he hs hl hok
  refine (decO_any hS h1 h2 h3 h4 h5).mono ?_
  rintro r w' ⟨h | h, hb⟩
  · exact ⟨h.2, hb⟩
  · exact absurd h6 h.1
theorem oc_size {kn en sn : Nat} {L : List Ed} (hk : kn ≤ 2) (he : en ≤ 1000) (hs : sn ≤ 1000) (hl : L.length ≤ 256) (hok : ∀ m ∈ L, m.ok) : (str (ocB kn en sn L)).size ≤ maxLen := by
  rw [rb_size]
  unfold ocB
  have l0 := numB_len10 (n := kn) (by omega)
  have l1 := numB_len10 (n := en) (by omega)
  have l2 := numB_len10 (n := sn) (by omega)
  have l3 := numB_len10 (n := L.length) (by omega)
  have l4 := edsB_len L hok
  simp only [List.length_append, Int.toNat_natCast]
  unfold maxLen
  omega
set_option linter.unusedSimpArgs false in
set_option linter.unusedVariables false in
set_option maxRecDepth 100000 in
set_option maxHeartbeats 4000000 in
theorem rby_good {w : World} {P : Nat → Prop} {vo : Option Addr} {kn en sn : Nat} {L : List Ed} {vc : Nat} {s : ByteArray} (hk : kn ≤ 2) (he : en ≤ 1000) (hsn : sn ≤ 1000) (hl : L.length ≤ 256) (hok : ∀ m ∈ L, m.ok) (hE : EdAt w P vo L) (hs : s.size ≤ maxLen) :
    Calls Tryz.prog 5 #[.agg #[.int .i64 (kn : Int), .int .i64 (en : Int), .int .i64 (sn : Int), .slice vo L.length vc], .string s] w fun r w' => r = .returned (.bool true) ∧ Below w.heap.size w w' := by
  obtain ⟨k', e', s', ee, M, hcase, hMo, hMl, hD⟩ := dec_is s hs
  have HD : Hid (∀ w : World, Calls Tryz.prog 30 #[.string s] w fun r w' => (∃ vo vc, r = .returned (.tuple #[.agg #[.int .i64 k', .int .i64 e', .int .i64 s', .slice vo M.length vc], .int .i64 ee]) ∧ EdAt w' (fun q => w.heap.size ≤ q) vo M) ∧ Below w.heap.size w w') := hD
  have hB := dec_back hk he hsn hl hok (oc_size hk he hsn hl hok)
  have hEn : ∀ W, Below w.heap.size w W → Calls Tryz.prog 29 #[.agg #[.int .i64 (kn : Int), .int .i64 (en : Int), .int .i64 (sn : Int), .slice vo L.length vc]] W fun r w' => r = .returned (.string (str (ocB kn en sn L))) ∧ Below W.heap.size W w' := fun W hb => encO_any vc (by omega) (by omega) (by omega) (hE.new hb) hok hl
  have hOu : ∀ W, Below w.heap.size w W → Calls Tryz.prog 16 #[.agg #[.int .i64 (kn : Int), .int .i64 (en : Int), .int .i64 (sn : Int), .slice vo L.length vc]] W fun r w' => (∃ ao c, r = .returned (.agg #[.int .i64 (kn : Int), .int .i64 (en : Int), .int .i64 (sn : Int), .slice ao L.length c]) ∧ EdAt w' (fun q => W.heap.size ≤ q) ao L) ∧ Below W.heap.size W w' := fun W hb => outO_any vc (hE.new hb) hl
  have hRB : ∀ W ao c, EdAt W (fun _ => True) ao L → Calls Tryz.prog 15 #[.agg #[.int .i64 (kn : Int), .int .i64 (en : Int), .int .i64 (sn : Int), .slice ao L.length c]] W fun r w' => r = .returned (.string (str (ocB kn en sn L))) ∧ Below W.heap.size W w' := fun W ao c h => refOB_any c (by omega) he hsn h hok hl
  have hSm : ∀ W v2 c2, Below w.heap.size w W → EdAt W (fun _ => True) v2 L → Calls Tryz.prog 18 #[.agg #[.int .i64 (kn : Int), .int .i64 (en : Int), .int .i64 (sn : Int), .slice vo L.length vc], .agg #[.int .i64 (kn : Int), .int .i64 (en : Int), .int .i64 (sn : Int), .slice v2 L.length c2]] W fun r w' => r = .returned (.bool true) ∧ Below W.heap.size W w' := fun W v2 c2 hb h => by
    have := sameO_any (w := W) (k := kn) (e := en) (s := sn) (k' := kn) (e' := en) (s' := sn) vc c2 (hE.new hb) h (by omega)
    rw [sameOc_iff.2 ⟨rfl, rfl, rfl, rfl⟩] at this
    exact this
  have hEx : ee = 0 → ∀ W v4 c4, EdAt W (fun _ => True) v4 M → Calls Tryz.prog 29 #[.agg #[.int .i64 k', .int .i64 e', .int .i64 s', .slice v4 M.length c4]] W fun r w' => r = .returned (.string s) ∧ Below W.heap.size W w' := fun hz W v4 c4 h => by
    rcases hcase with hc | hc
    · have := encO_any (w := W) c4 hc.2.2.1 hc.2.2.2.1 hc.2.2.2.2 h hMo hMl
      rw [hc.2.1] at this
      exact this
    · exact absurd hz hc.1
  have hSx : ¬ ee = 0 → ∀ W v4 c4, EdAt W (fun _ => True) v4 M → Calls Tryz.prog 18 #[.agg #[.int .i64 k', .int .i64 e', .int .i64 s', .slice v4 M.length c4], .agg #[.int .i64 0, .int .i64 0, .int .i64 0, .slice none 0 0]] W fun r w' => r = .returned (.bool true) ∧ Below W.heap.size W w' := fun hz W v4 c4 h => by
    rcases hcase with hc | hc
    · exact absurd hc.1 hz
    · obtain ⟨_, rfl, rfl, rfl, rfl⟩ := hc
      have := sameO_any (w := W) (Q := fun _ => True) (bo := none) (k := 0) (e := 0) (s := 0) (k' := 0) (e' := 0) (s' := 0) (L := []) (M := []) c4 0 h (fun h => absurd h (by simp)) (by simp)
      rw [sameOc_iff.2 ⟨rfl, rfl, rfl, rfl⟩] at this
      exact this
  have HB : Hid (∀ w : World, Calls Tryz.prog 30 #[.string (str (ocB kn en sn L))] w fun r w' => (∃ vo vc, r = .returned (.tuple #[.agg #[.int .i64 (kn : Int), .int .i64 (en : Int), .int .i64 (sn : Int), .slice vo L.length vc], .int .i64 0]) ∧ EdAt w' (fun q => w.heap.size ≤ q) vo L) ∧ Below w.heap.size w w') := hB
  clear hB hD hE hok hcase hMo hs
  generalize str (ocB kn en sn L) = T at *
  have d0 : decide ((kn : Int) < 0) = false := by simp
  have d1 : decide (2 < (kn : Int)) = false := by simp; omega
  have d2 : decide ((en : Int) < 0) = false := by simp
  have d3 : decide (1000 < (en : Int)) = false := by simp; omega
  have d4 : decide ((sn : Int) < 0) = false := by simp
  have d5 : decide (1000 < (sn : Int)) = false := by simp; omega
  have d6 : decide (256 < (L.length : Int)) = false := by simp; omega
  obtain ⟨W0, hW0⟩ : ∃ W0, w.alloc (.cells #[.int .i64 (kn : Int), .int .i64 (en : Int), .int .i64 (sn : Int), .slice vo L.length vc] 32) = W0 := ⟨_, rfl⟩
  have hb0 : Below w.heap.size w W0 := by rw [← hW0]; exact one_new _ _
  have hx0 : OcBoxT W0 32 w.heap.size #[.int .i64 (kn : Int), .int .i64 (en : Int), .int .i64 (sn : Int), .slice vo L.length vc] := by rw [← hW0]; exact heap_alloc_new _ _
  obtain ⟨c0, c1, c2', c3⟩ := oc_cells hx0
  have HX0 : Hid (OcBoxT W0 32 w.heap.size #[.int .i64 (kn : Int), .int .i64 (en : Int), .int .i64 (sn : Int), .slice vo L.length vc]) := hx0
  have HB0 : Hid (Below w.heap.size w W0) := hb0
  clear hb0 hx0
  go_enter Tryz.func5, Tryz.ntmps5
  go_upto_region 4 with (first
    | (refine wpList_load_row rfl 32 _ rfl w.heap.size rfl 32 #[.int .i64 (kn : Int), .int .i64 (en : Int), .int .i64 (sn : Int), .slice vo L.length vc] (0, 0) _ HX0.out Tryz.underlying32 rfl size_oc ?_)
    | (go_at_call 29; refine Calls.mono (hEn _ HB0.out) ?_; rintro r w1 ⟨rfl, hb1⟩))
  have HX1 : Hid (OcBoxT w1 32 w.heap.size #[.int .i64 (kn : Int), .int .i64 (en : Int), .int .i64 (sn : Int), .slice vo L.length vc]) := oc_fr (Fr.ofBelow hb1 (fun _ => False)) (fun h => h) HX0.out
  have HB1 : Hid (Below w.heap.size w w1) := HB0.out.trans (hb1.mono HB0.out.size)
  clear hb1 c0 c1 c2' c3 HX0 HB0 hW0 d0 d1 d2 d3 d4 d5 d6 hEn
  go_upto_region 5 with (go_at_call 30; refine Calls.mono (HB.out _) ?_; rintro r w2 ⟨⟨v2, c2, rfl, hE2⟩, hb2⟩)
  have HX2 : Hid (OcBoxT w2 32 w.heap.size #[.int .i64 (kn : Int), .int .i64 (en : Int), .int .i64 (sn : Int), .slice vo L.length vc]) := oc_fr (Fr.ofBelow hb2 (fun _ => False)) (fun h => h) HX1.out
  have HB2 : Hid (Below w.heap.size w w2) := HB1.out.trans (hb2.mono HB1.out.size)
  generalize hW3 : World.alloc w2 _ = W3
  have hb3 : Below w2.heap.size w2 W3 := by rw [← hW3]; exact one_new _ _
  have HY3 : Hid (OcBoxT W3 32 w2.heap.size #[.int .i64 (kn : Int), .int .i64 (en : Int), .int .i64 (sn : Int), .slice v2 L.length c2]) := by rw [← hW3]; exact heap_alloc_new _ _
  have HX3 : Hid (OcBoxT W3 32 w.heap.size #[.int .i64 (kn : Int), .int .i64 (en : Int), .int .i64 (sn : Int), .slice vo L.length vc]) := oc_fr (Fr.ofBelow hb3 (fun _ => False)) (fun h => h) HX2.out
  have HB3 : Hid (Below w.heap.size w W3) := HB2.out.trans (hb3.mono HB2.out.size)
  have HE3 : Hid (EdAt W3 (fun _ => True) v2 L) := (hE2.new hb3).mono (fun _ _ _ => trivial)
  clear hb2 hE2 hW3 hb3 HX1 HX2 HB1 HB2 HB
  generalize w2.heap.size = y2 at *
  go_upto_region 6 with (go_at_call 30; refine Calls.mono (HD.out _) ?_; rintro r w4 ⟨⟨v4, c4, rfl, hE4⟩, hb4⟩)
  have HX4 : Hid (OcBoxT w4 32 w.heap.size #[.int .i64 (kn : Int), .int .i64 (en : Int), .int .i64 (sn : Int), .slice vo L.length vc]) := oc_fr (Fr.ofBelow hb4 (fun _ => False)) (fun h => h) HX3.out
  have HY4 : Hid (OcBoxT w4 32 y2 #[.int .i64 (kn : Int), .int .i64 (en : Int), .int .i64 (sn : Int), .slice v2 L.length c2]) := oc_fr (Fr.ofBelow hb4 (fun _ => False)) (fun h => h) HY3.out
  have HB4 : Hid (Below w.heap.size w w4) := HB3.out.trans (hb4.mono HB3.out.size)
  have HE4 : Hid (EdAt w4 (fun _ => True) v2 L) := HE3.out.new hb4
  generalize hW5 : World.alloc w4 _ = W5
  have hb5 : Below w4.heap.size w4 W5 := by rw [← hW5]; exact one_new _ _
  have HZ5 : Hid (OcBoxT W5 32 w4.heap.size #[.int .i64 k', .int .i64 e', .int .i64 s', .slice v4 M.length c4]) := by rw [← hW5]; exact heap_alloc_new _ _
  have HX5 : Hid (OcBoxT W5 32 w.heap.size #[.int .i64 (kn : Int), .int .i64 (en : Int), .int .i64 (sn : Int), .slice vo L.length vc]) := oc_fr (Fr.ofBelow hb5 (fun _ => False)) (fun h => h) HX4.out
  have HY5 : Hid (OcBoxT W5 32 y2 #[.int .i64 (kn : Int), .int .i64 (en : Int), .int .i64 (sn : Int), .slice v2 L.length c2]) := oc_fr (Fr.ofBelow hb5 (fun _ => False)) (fun h => h) HY4.out
  have HB5 : Hid (Below w.heap.size w W5) := HB4.out.trans (hb5.mono HB4.out.size)
  have HE5 : Hid (EdAt W5 (fun _ => True) v2 L) := HE4.out.new hb5
  have HF5 : Hid (EdAt W5 (fun _ => True) v4 M) := (hE4.new hb5).mono (fun _ _ _ => trivial)
  clear hb4 hE4 hW5 hb5 HX3 HX4 HY3 HY4 HB3 HB4 HE3 HE4 HD
  generalize w4.heap.size = y4 at *
  go_upto_region 8 with (first
    | (go_at_call 13; refine (rawake _).mono ?_; rintro r w6 ⟨rfl, hb6⟩; have HX6 : Hid (OcBoxT w6 32 w.heap.size #[.int .i64 (kn : Int), .int .i64 (en : Int), .int .i64 (sn : Int), .slice vo L.length vc]) := oc_fr (Fr.ofBelow hb6 (fun _ => False)) (fun h => h) HX5.out; have HB6 : Hid (Below w.heap.size w w6) := HB5.out.trans (hb6.mono HB5.out.size); have H56 : Hid (Below W5.heap.size W5 w6) := hb6; obtain ⟨p0, p1, p2, p3⟩ := oc_cells HX6.out; clear hb6)
    | (go_at_call 16; refine Calls.mono (hOu _ HB6.out) ?_; rintro r w7 ⟨⟨v7, c7, rfl, hE7⟩, hb7⟩; have H57 : Hid (Below W5.heap.size W5 w7) := H56.out.trans (hb7.mono H56.out.size); have HE7 : Hid (EdAt w7 (fun _ => True) v7 L) := hE7.mono (fun _ _ _ => trivial); clear hE7 hb7)
    | (go_at_call 15; refine Calls.mono (hRB _ _ _ HE7.out) ?_; rintro r w8 ⟨rfl, hb8⟩; have H58 : Hid (Below W5.heap.size W5 w8) := H57.out.trans (hb8.mono H57.out.size); have HX8 : Hid (OcBoxT w8 32 w.heap.size #[.int .i64 (kn : Int), .int .i64 (en : Int), .int .i64 (sn : Int), .slice vo L.length vc]) := oc_fr (Fr.ofBelow H58.out (fun _ => False)) (fun h => h) HX5.out; have HY8 : Hid (OcBoxT w8 32 y2 #[.int .i64 (kn : Int), .int .i64 (en : Int), .int .i64 (sn : Int), .slice v2 L.length c2]) := oc_fr (Fr.ofBelow H58.out (fun _ => False)) (fun h => h) HY5.out; have HB8 : Hid (Below w.heap.size w w8) := HB5.out.trans (H58.out.mono HB5.out.size); have HE8 : Hid (EdAt w8 (fun _ => True) v2 L) := HE5.out.new H58.out; clear p0 p1 p2 p3; obtain ⟨p0, p1, p2, p3⟩ := oc_cells HX8.out; obtain ⟨q0, q1, q2, q3⟩ := oc_cells HY8.out; clear hb8)
    | (go_at_call 18; refine Calls.mono (hSm _ _ _ HB8.out HE8.out) ?_; rintro r w9 ⟨rfl, hb9⟩; have H59 : Hid (Below W5.heap.size W5 w9) := H58.out.trans (hb9.mono H58.out.size); clear hb9))
  have HZ9 : Hid (OcBoxT w9 32 y4 #[.int .i64 k', .int .i64 e', .int .i64 s', .slice v4 M.length c4]) := oc_fr (Fr.ofBelow H59.out (fun _ => False)) (fun h => h) HZ5.out
  have HB9 : Hid (Below w.heap.size w w9) := HB5.out.trans (H59.out.mono HB5.out.size)
  have HF9 : Hid (EdAt w9 (fun _ => True) v4 M) := HF5.out.new H59.out
  clear p0 p1 p2 p3 q0 q1 q2 q3 HX5 HX6 HX8 HY5 HY8 HB5 HB6 HB8 HE5 HE7 HE8 H56 H57 H58 H59 HZ5 HF5 hOu hRB hSm
  by_cases hz : ee = 0
  · subst hz
    have HEx : Hid _ := hEx rfl
    clear hEx hSx
    go_wp2_with (first
      | (refine wpList_load_row rfl 32 _ rfl y4 rfl 32 #[.int .i64 k', .int .i64 e', .int .i64 s', .slice v4 M.length c4] (0, 0) _ HZ9.out Tryz.underlying32 rfl size_oc ?_)
      | (go_at_call 29; refine Calls.mono (HEx.out _ _ _ HF9.out) ?_; rintro r wA ⟨rfl, hbA⟩; have HBA : Hid (Below w.heap.size w wA) := HB9.out.trans (hbA.mono HB9.out.size); clear hbA))
    go_ret
    exact ⟨rfl, HBA.out⟩
  · have hzb : (ee != 0) = true := by simpa using hz
    have HSx : Hid _ := hSx hz
    clear hEx hSx
    go_wp2_with (first
      | (refine wpList_load_row rfl 32 _ rfl y4 rfl 32 #[.int .i64 k', .int .i64 e', .int .i64 s', .slice v4 M.length c4] (0, 0) _ HZ9.out Tryz.underlying32 rfl size_oc ?_)
      | (go_at_call 18; refine Calls.mono (HSx.out _ _ _ HF9.out) ?_; rintro r wA ⟨rfl, hbA⟩; have HBA : Hid (Below w.heap.size w wA) := HB9.out.trans (hbA.mono HB9.out.size); clear hbA))
    go_ret
    exact ⟨rfl, HBA.out⟩
theorem rbytes_law {w : World} {P : Nat → Prop} {vo : Option Addr} {k e st : Int} {L : List Ed} {vc : Nat} {s : ByteArray} (hok : ∀ m ∈ L, m.ok) (hE : EdAt w P vo L) (hs : s.size ≤ maxLen) :
    Calls Tryz.prog 5 #[.agg #[.int .i64 k, .int .i64 e, .int .i64 st, .slice vo L.length vc], .string s] w fun r w' => r = .returned (.bool true) ∧ Below w.heap.size w w' := by
  by_cases h0 : k < 0
  · exact rby_bad0 h0
  by_cases h1 : 2 < k
  · exact rby_bad1 h0 h1
  by_cases h2 : e < 0
  · exact rby_bad2 h0 h1 h2
  by_cases h3 : 1000 < e
  · exact rby_bad3 h0 h1 h2 h3
  by_cases h4 : st < 0
  · exact rby_bad4 h0 h1 h2 h3 h4
  by_cases h5 : 1000 < st
  · exact rby_bad5 h0 h1 h2 h3 h4 h5
  by_cases h6 : 256 < (L.length : Int)
  · exact rby_bad6 h0 h1 h2 h3 h4 h5 h6
  obtain ⟨kn, rfl⟩ : ∃ n : Nat, k = n := ⟨k.toNat, by omega⟩
  obtain ⟨en, rfl⟩ : ∃ n : Nat, e = n := ⟨e.toNat, by omega⟩
  obtain ⟨sn, rfl⟩ : ∃ n : Nat, st = n := ⟨st.toNat, by omega⟩
  exact rby_good (by omega) (by omega) (by omega) (by omega) hok hE hs
end Go.Proofs.YtnhijofnhflklaaGreat
end

section
/- How edges, vertices and graphs that came in are opened. -/
namespace Go.Proofs.YtnhijofnhflklaaGreat
open Go.RowKit Go.Deep Go.Joins Go.ChangeShapes
theorem cellsL : Tryz.prog.cellsOf 2 = 1 := by kernel_rfl
theorem two_of {α : Type} {l : List α} (h : l.length = 2) : ∃ a b, l = [a, b] := by
  match l, h with
  | [a, b], _ => exact ⟨a, b, rfl⟩
theorem add_none {b off : Nat} (j i : Nat) : (((⟨b, off, none⟩ : Addr).add j).add i) = ⟨b, off + j + i, none⟩ := by
  rw [add_add]
  unfold Addr.add
  split <;> simp_all <;> omega
section
variable {H : Type} {enc : TypeId × Value → H} {w : World} {base : Nat} {spare : Nat → Bool} {held : Bool}
def Ed.data (e : Ed) : DataW H := .agg [.lit (.int .i64 e.t), .lit (.int .i64 e.w)]
theorem i64_of {a : Int} (h : (Lit.int .i64 a).wf = true) : I64 a := by have := bounds_i64 h; unfold I64; omega
end
end Go.Proofs.YtnhijofnhflklaaGreat
end

section
/- How an outcome that came in is opened. -/
namespace Go.Proofs.YtnhijofnhflklaaGreat
open Go.RowKit Go.Deep Go.Joins Go.ChangeShapes
theorem cellsVa : Tryz.prog.cellsOf 101 = 2 := by kernel_rfl
theorem cellsVas : Tryz.prog.cellsOf 30 = 1 := by kernel_rfl
theorem cellsOc : Tryz.prog.cellsOf 32 = 4 := by kernel_rfl
theorem cellsErr : Tryz.prog.cellsOf 29 = 1 := by kernel_rfl
theorem cellsInt : Tryz.prog.cellsOf 3 = 1 := by kernel_rfl
theorem four_ofO {α : Type} {l : List α} (h : l.length = 4) : ∃ a b c d, l = [a, b, c, d] := by
  match l, h with
  | [a, b, c, d], _ => exact ⟨a, b, c, d, rfl⟩
section
variable {H : Type} {enc : TypeId × Value → H} {w : World} {base : Nat} {spare : Nat → Bool} {held : Bool}
theorem open_va {n : Nat} {cs : List Value} {x : DataW H × List MemPlace} (h : DataW.trod enc Tryz.prog w base spare held n 101 cs = some x) :
    ∃ y : Ed, cs = [.int .i64 y.t, .int .i64 y.w] ∧ x.1 = y.data ∧ y.ok := by
  obtain ⟨y0, y1, m, rfl, hl, h0, h1⟩ := trod_struct2 Tryz.underlying101 h
  rw [cellsVa] at hl
  obtain ⟨v0, v1, rfl⟩ := two_of hl
  simp only [cellsL] at h0 h1
  obtain ⟨a, e0, rfl, wa⟩ := DataW.trod_int Tryz.underlying2 h0
  obtain ⟨b, e1, rfl, wb⟩ := DataW.trod_int Tryz.underlying2 h1
  simp at e0 e1
  subst e0 e1
  exact ⟨⟨a, b⟩, rfl, rfl, ⟨i64_of wa, i64_of wb⟩⟩
theorem open_vas {n : Nat} {cs : List Value} {x : DataW H × List MemPlace} (h : DataW.trod enc Tryz.prog w base spare held n 30 cs = some x) :
    ∃ (ao : Option Addr) (cap : Nat) (L : List Ed), cs = [.slice ao L.length cap] ∧ (∀ y ∈ L, y.ok) ∧ L.length ≤ maxLen ∧ EdAt w (fun k => k < w.heap.size) ao L ∧ ((x.1 = .nil ∧ L = []) ∨ ∃ sp, x.1 = .slice (L.map Ed.data) sp) := by
  rcases open_slice Tryz.underlying30 h with ⟨h0, h1⟩ | ⟨a, len, cap, m, k, D, Pl, rfl, hb, hl, hm, hmm, rfl, hx⟩
  · exact ⟨none, 0, [], h0, fun y hy => (by cases hy), by simp, fun h => absurd h (by simp), Or.inl ⟨by rw [h1], rfl⟩⟩
  · have hlm : len ≤ m := by rw [hmm]; split <;> omega
    have each : ∀ i, i < len → ∃ y : Ed, w.cells? base (a.add (i * 2)) 2 = some [.int .i64 y.t, .int .i64 y.w] ∧ D i = y.data ∧ y.ok := by
      intro i hi
      obtain ⟨cs', h1, h2⟩ := hx i (by omega)
      rw [cellsVa] at h1
      obtain ⟨y, rfl, h3, h4⟩ := open_va h2
      exact ⟨y, h1, h3, h4⟩
    haveI : Inhabited Ed := ⟨⟨0, 0⟩⟩
    obtain ⟨q, hq⟩ := choose_lt each
    have hlen : ((List.range len).map q).length = len := by simp
    refine ⟨some a, cap, (List.range len).map q, by rw [hlen], ?_, by rw [hlen]; omega, ?_, Or.inr ⟨(List.range (m - len)).map fun j => D (len + j), ?_⟩⟩
    · intro y hy
      obtain ⟨i, hi, rfl⟩ := List.mem_map.1 hy
      exact (hq i (List.mem_range.1 hi)).2.2
    · intro hpos
      rw [hlen] at hpos
      obtain ⟨_, _, hc0⟩ := World.cells?_some (hq 0 hpos).1
      have hs0 := World.cell?_spot (hc0 0 (by simp))
      have hspot : a.spot = none := by simpa [Addr.add] using hs0
      obtain ⟨b, off, spot⟩ := a
      simp only at hspot
      subst hspot
      have hcell : ∀ j (_ : j < len), w.cell? ⟨b, off + j * 2, none⟩ = some (.int .i64 (q j).t) ∧ w.cell? ⟨b, off + j * 2 + 1, none⟩ = some (.int .i64 (q j).w) := by
        intro j hj
        obtain ⟨_, _, hc⟩ := World.cells?_some (hq j hj).1
        have e0 := hc 0 (by simp)
        have e1 := hc 1 (by simp)
        rw [add_none] at e0 e1
        simp at e0 e1
        exact ⟨e0, e1⟩
      refine ⟨b, off, rfl, lt_cell (hcell 0 hpos).1, ?_⟩
      intro j hj
      have hj' : j < len := by simpa using hj
      simp only [List.getElem_map, List.getElem_range]
      exact hcell j hj'
    · show DataW.slice _ _ = _
      rw [List.map_map]
      congr 1
      exact List.map_congr_left (fun i hi => (hq i (List.mem_range.1 hi)).2.1)
theorem open_oc {n : Nat} {cs : List Value} {x : DataW H × List MemPlace} (h : DataW.trod enc Tryz.prog w base spare held n 32 cs = some x) :
    ∃ (k e st : Int) (L : List Ed) (vo : Option Addr) (vc : Nat), cs = [.int .i64 k, .int .i64 e, .int .i64 st, .slice vo L.length vc] ∧ (∀ m ∈ L, m.ok) ∧ EdAt w (fun k => k < w.heap.size) vo L := by
  obtain ⟨y0, y1, y2, y3, m, rfl, hl, h0, h1, h2, h3⟩ := trod_struct4 Tryz.underlying32 h
  rw [cellsOc] at hl
  obtain ⟨v0, v1, v2, v3, rfl⟩ := four_ofO hl
  simp only [cellsInt, cellsErr, cellsVas] at h0 h1 h2 h3
  obtain ⟨a, e0, rfl, wa⟩ := DataW.trod_int Tryz.underlying3 h0
  obtain ⟨b, e1, rfl, wb⟩ := DataW.trod_int Tryz.underlying29 h1
  obtain ⟨c, e2, rfl, wc⟩ := DataW.trod_int Tryz.underlying3 h2
  obtain ⟨ao, cap, L, hcs, hok, hm, hE, hd⟩ := open_vas h3
  simp at e0 e1 e2 hcs
  subst e0 e1 e2 hcs
  exact ⟨a, b, c, L, ao, cap, rfl, hok, hE⟩
end
end Go.Proofs.YtnhijofnhflklaaGreat
end
