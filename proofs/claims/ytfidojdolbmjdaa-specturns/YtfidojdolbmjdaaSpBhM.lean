import Derived.Test.YtfidojdolbmjdaaSpIbM
import Derived.Test.YtfidojdolbmjdaaSpRowM
import Derived.Test.YtfidojdolbmjdaaSpLmM
import Derived.Shelf.Abstract
import Derived.Laws.CopyOwn
/- spec.behind: so many turns of a function that is handed in; whole rounds are left out. -/
namespace Go.Proofs.Ytfidojdolbmjdaa
open Go.RowKit Go.Shelf
attribute [local go_sem] Oper.semAt_some
theorem ri_of_ib {W : World} {m n base : Nat} {L : List Int} (h : IB W m L) (hn : L.length = n) (hb : base ≤ m) (hn6 : n ≤ 1000000) : RwI W 2 base (.slice (some ⟨m, 0, none⟩) n n) L := by
  subst hn
  refine ⟨by simp, .inr ⟨m, L.length, (L.map (Value.int .i64)).toArray, rfl, hb, h, Nat.le_refl _, by unfold maxLen; omega, by simp, ?_⟩⟩
  rw [Nat.mul_one]
  exact List.take_of_length_le (by simp)
theorem below_dnB {w w' : World} (_ : Below w.heap.size w w') (q : Nat) : Below w.heap.size w' (w'.drewN q) := ⟨rfl, rfl, rfl, Nat.le_refl _, fun _ _ => rfl⟩
set_option maxHeartbeats 2000000 in
set_option maxRecDepth 100000 in
theorem eq64_any {w : World} {b1 b2 : Nat} {v u : Value} {X Y : List Int} (hx : RwI w 2 b1 v X) (hy : RwI w 2 b2 u Y) (hl : X.length = Y.length) (hn : X.length ≤ 1000000) :
    Calls Try.prog 57 #[v, u] w fun r w' => r = .returned (.bool (X == Y)) ∧ Below w.heap.size w w' := by
  obtain ⟨ao, c, rfl⟩ := ri_shape hx
  obtain ⟨bo, d, rfl⟩ := ri_shape hy
  obtain ⟨_, hax⟩ := ri_at hx
  obtain ⟨_, hay⟩ := ri_at hy
  obtain ⟨n, hXn⟩ : ∃ n, X.length = n := ⟨_, rfl⟩
  have HX : Hid (X.length = n) := hXn
  have HY : Hid (Y.length = n) := by show _ = _; omega
  rw [← hl, hXn]
  rw [hXn] at hn
  obtain ⟨eb, heb⟩ : ∃ eb, (X == Y) = eb := ⟨_, rfl⟩
  have HEb : Hid ((X == Y) = eb) := heb
  rw [heb]
  clear heb
  by_cases h0 : n = 0
  · have e1 : X = [] := List.eq_nil_of_length_eq_zero (by have := HX.out; omega)
    have e2 : Y = [] := List.eq_nil_of_length_eq_zero (by have := HY.out; omega)
    subst e1 e2 h0
    obtain rfl : true = eb := by rw [← HEb.out]; rfl
    clear hx hy hax hay hl hXn
    go_enter Try.func57, Try.ntmps57
    go_wp2
    go_loopw [5, 13] (fun _ i wr => i = .int .i64 0 ∧ wr = w) (fun _ _ _ => 0)
    case atStart => exact ⟨rfl, rfl⟩
    case round =>
      obtain ⟨rfl, rfl⟩ := hrel
      go_wp2
      go_ret
      exact ⟨rfl, Below.refl _ _⟩
  · obtain ⟨g1, rfl, _, hc1⟩ := hax (by omega)
    obtain ⟨g2, rfl, _, hc2⟩ := hay (by omega)
    have HC1 : Hid _ := hc1
    have HC2 : Hid _ := hc2
    clear hx hy hax hay hl hXn h0 hc1 hc2
    go_enter Try.func57, Try.ntmps57
    go_wp2
    go_loopw [5, 13] (fun _ i wr => ∃ k : Nat, k ≤ n ∧ i = .int .i64 k ∧ Hid (Below w.heap.size w wr) ∧ Hid (∀ j, j < k → X.getD j 0 = Y.getD j 0)) (fun _ i _ => n - (intOf i).toNat)
    case atStart => exact ⟨0, Nat.zero_le _, rfl, Below.refl _ _, fun j hj => absurd hj (Nat.not_lt_zero _)⟩
    case round =>
      obtain ⟨k, hk, rfl, HB, HE⟩ := hrel
      by_cases hlt : k < n
      · have hkx : k < X.length := by rw [HX.out]; exact hlt
        have hky : k < Y.length := by rw [HY.out]; exact hlt
        have HK : Hid (k < n) := hlt
        have d1 := (HB.out.cell (lt_cell (HC1.out k hkx).1)).trans (HC1.out k hkx).1
        have d2 := (HB.out.cell (lt_cell (HC2.out k hky).1)).trans (HC2.out k hky).1
        have HP : Hid (X.getD k 0 = X[k] ∧ Y.getD k 0 = Y[k]) := ⟨by simp [List.getD, hkx], by simp [List.getD, hky]⟩
        have HR : Hid (∀ x ∈ [X[k]], ∀ y ∈ [Y[k]], x ≠ y → (X == Y) = false) := fun x hx y hy hne => by
          rw [List.mem_singleton.1 hx, List.mem_singleton.1 hy] at hne
          refine beq_eq_false_iff_ne.2 (fun e => hne ?_)
          subst e
          rfl
        generalize X[k] = x at d1 HP HR
        generalize Y[k] = y at d2 HP HR
        clear hkx hky
        by_cases hxy : x = y
        · subst hxy
          clear HR
          go_wp2
          go_quiet (fail)
          go_wp2
          go_roundw
          case rel =>
            refine ⟨k + 1, HK.out, by go_num, HB.out.trans (below_dnB HB.out _), fun j hj => ?_⟩
            by_cases e : j = k
            · subst e
              rw [HP.out.1, HP.out.2]
            · exact HE.out j (by omega)
          case measure => have := HK.out; simp [intOf]; omega
        · have HF : Hid ((X == Y) = false) := HR.out x (by simp) y (by simp) hxy
          clear HR
          obtain rfl : false = eb := by rw [← HEb.out, HF.out]
          go_wp2
          go_quiet (fail)
          go_wp2
          go_ret
          exact ⟨rfl, HB.out.trans (below_dnB HB.out _)⟩
      · obtain rfl : k = n := by omega
        have HF : Hid ((X == Y) = true) := by
          show _ = _
          rw [beq_iff_eq]
          refine list_ext 0 (by rw [HX.out, HY.out]) (fun i hi => HE.out i (by rw [HX.out] at hi; exact hi))
        obtain rfl : true = eb := by rw [← HEb.out, HF.out]
        go_wp2
        go_ret
        exact ⟨rfl, HB.out⟩
/-- copy of so many numbers into a block of one's own. -/
theorem run_copyI {w : World} {m n : Nat} {v : Value} {S Y : List Int} {base : Nat} (hS : IB w m S) (hSn : S.length = n) (hY : RwI w 2 base v Y) (hYn : Y.length = n) :
    ∃ w', IB w' m Y ∧ Fr w w' (fun k => k = m) ∧ (Builtin.copy_ #[36, 36] 3 #[.slice (some ⟨m, 0, none⟩) n n, v]).run Try.prog w = .ok (.int .i64 (n : Int)) w' := by
  have hu : Try.prog.underlying 36 = some (.slice 2) := Try.underlying36
  have hsz : (Try.prog.info? 2).map (·.size) = some 1 := by kernel_rfl
  obtain ⟨ao, c, rfl⟩ := ri_shape hY
  obtain ⟨_, hat⟩ := ri_at hY
  by_cases h0 : n = 0
  · have e1 : S = [] := List.eq_nil_of_length_eq_zero (by omega)
    have e2 : Y = [] := List.eq_nil_of_length_eq_zero (by omega)
    refine ⟨w, by rw [e2]; rw [e1] at hS; exact hS, Fr.refl _ _, ?_⟩
    have := run_copy_none (P := Try.prog) w 36 36 3 2 (some ⟨m, 0, none⟩) ao n n Y.length c hu hsz (by rw [hYn, h0]; rfl)
    rw [this, h0]
    rfl
  · obtain ⟨g, rfl, _, hc⟩ := hat (by omega)
    have hlen : (Y.map (Value.int .i64)).length = n := by simpa using hYn
    have hr := run_copy_row (P := Try.prog) w 36 36 3 2 m 0 n n ⟨g, 0, none⟩ Y.length c (S.map (Value.int .i64)).toArray 2 (Y.map (Value.int .i64)) hu hsz hS (by rw [hlen, hYn]; exact (Nat.min_self n).symm) (by
      intro j u hj
      rw [List.getElem?_map] at hj
      cases hq : Y[j]? with
      | none => rw [hq] at hj; cases hj
      | some y =>
        rw [hq] at hj
        cases hj
        obtain ⟨hl, rfl⟩ := List.getElem?_eq_some_iff.1 hq
        have hadd : (⟨g, 0, none⟩ : Addr).add j = ⟨g, j, none⟩ := by unfold Addr.add; split <;> simp_all
        rw [hadd]
        exact (hc j hl).1) (by simp; omega) (by simp [Value.oneCell'])
    rw [hlen] at hr
    refine ⟨_, ?_, sp_setRow _ _ _, hr⟩
    unfold IB
    rw [setRow_heap _ _ _ _ _ _ hS]
    have h3 : (S.map (Value.int .i64)).drop (0 + n) = [] := List.drop_eq_nil_of_le (by simp; omega)
    show some (Obj.cells (List.take 0 (S.map (Value.int .i64)) ++ Y.map (Value.int .i64) ++ List.drop (0 + n) (S.map (Value.int .i64))).toArray 2 (0, 0)) = _
    rw [h3, List.take_zero, List.nil_append, List.append_nil]
theorem iterT_modz {T : List Int → List Int} {a m z : Nat} {x : List Int} (h : iterT T a x = x) (hz : m % a = z) : iterT T m x = iterT T z x := by
  subst hz
  exact iterT_mod h m
theorem end_z {T : List Int → List Int} {S TY E : List Int} {a l z : Nat} (h : iterT T (a + 1) S = TY) (e : TY = S) (hl : iterT T l TY = E) (hz : l % (a + 1) = z) : iterT T z TY = E := by
  rw [← hl]
  exact (iterT_modz (by rw [e, h, e]) hz).symm
theorem left_w {l a : Nat} (hl : l ≤ 1000) : wrap64 (wrap64 ((l : Int) % ((a : Int) + 1) + 1) - 1) = ((l % (a + 1) : Nat) : Int) := by
  have h1 := Nat.mod_le l (a + 1)
  have h2 : ((l % (a + 1) : Nat) : Int) = (l : Int) % ((a : Int) + 1) := by simp
  rw [← h2]
  generalize l % (a + 1) = z at h1
  have hw1 : wrap64 ((z : Int) + 1) = (z : Int) + 1 := by unfold wrap64; omega
  rw [hw1]
  unfold wrap64
  omega
/-- A turn that is handed in. -/
structure TurnF (w0 : World) (f : FuncId) (cb : Array Value) (T : List Int → List Int) (p : List Int → Prop) : Prop where
  eg : ∀ args w, (callFunc f args).run Try.prog w = .ok (.enter f args) w
  run : ∀ W v X, Below w0.heap.size w0 W → RwI W 2 0 v X → p X → Calls Try.prog f (#[v] ++ cb) W fun r w' => ∃ u, r = .returned u ∧ RwI w' 2 W.heap.size u (T X) ∧ Below W.heap.size W w'
set_option maxRecDepth 100000 in
set_option maxHeartbeats 4000000 in
theorem behind_any {w0 : World} {f : FuncId} {cb : Array Value} {T : List Int → List Int} {p : List Int → Prop} (hT : TurnF w0 f cb T p) {v : Value} {X : List Int} {t n : Nat} (hx : RwI w0 2 0 v X) (hp : p X) (hpl : ∀ X, p X → X.length = n) (hpT : ∀ X, p X → p (T X)) (hn : n ≤ 1000) (ht : t ≤ 1000) :
    Calls Try.prog 27 #[.int .i64 t, v, .func (.func f) #[] cb] w0 fun r w' => ∃ u, r = .returned u ∧ RwI w' 2 0 u (iterT T t X) ∧ Below w0.heap.size w0 w' := by
  obtain ⟨i0, hi, hz0, hz1, hz2⟩ := info_parts infoSI
  have hmk : ∀ W : World, (Instr.makeSlice 36 (.int .i64 (n : Int)) (.int .i64 (n : Int))).run Try.prog W = .ok (.slice (some ⟨W.heap.size, 0, none⟩) n n) (W.alloc (.cells (madeCells #[.int .i64 0] n) 2)) := fun W => by
    have := run_make (P := Try.prog) W 36 2 i0 (.int .i64 0) Try.underlying36 hi hz0 .i64 .i64 n n (by omega) (by omega) (by rw [hz2]; omega) (by omega)
    simpa [hz1, Value.cells] using this
  have HL : Hid (∀ X, p X → X.length = n) := hpl
  have HT : Hid (∀ X, p X → p (T X)) := hpT
  have HP : Hid (p X) := hp
  have HRun : Hid (∀ W v X, Below w0.heap.size w0 W → RwI W 2 0 v X → p X → Calls Try.prog f (#[v] ++ cb) W fun r w' => ∃ u, r = .returned u ∧ RwI w' 2 W.heap.size u (T X) ∧ Below W.heap.size W w') := hT.run
  have eg := hT.eg
  obtain ⟨ao, c, rfl⟩ := ri_shape hx
  rw [hpl _ hp] at hx ⊢
  have HXr : Hid (RwI w0 2 0 (.slice ao n c) X) := hx
  have hu64 : Try.prog.underlying 36 = some (.slice 2) := Try.underlying36
  clear hT hx hpl hpT hp
  go_enter Try.func27, Try.ntmps27
  obtain ⟨w1, hI1, hF1, hcp⟩ := run_copyI (w := w0.alloc (.cells (madeCells #[.int .i64 0] n) 2)) (m := w0.heap.size) (n := n) (v := .slice ao n c) (S := List.replicate n 0) (Y := X) (base := 0) (IB.made _ _) (by simp) (ri_new HXr.out (one_new _ _)) (HL.out _ HP.out)
  go_upto_region 3 with (fail)
  have HI1 : Hid (IB w1 w0.heap.size X) := hI1
  have hmw : w0.heap.size < w1.heap.size := IB.lt hI1
  have HB1 : Hid (Below w0.heap.size w0 w1) := (one_new _ _).trans (hF1.below (by simp) (fun k hk => by omega))
  have HX1 : Hid (RwI w1 2 0 (.slice ao n c) X) := ri_new HXr.out HB1.out
  clear hI1 hF1 hmk hcp
  go_wp2
  go_loopw [1, 8, 9, 10] (fun nv av wv lv wr => ∃ (d a b l : Nat) (no : Option Addr) (nc : Nat) (Y S : List Int), l ≤ t ∧ d + l ≤ t ∧ b + a ≤ d + 1 ∧ 0 < b ∧ nv = .slice no n nc ∧ av = .int .i64 a ∧ wv = .int .i64 b ∧ lv = .int .i64 l ∧ Hid (p Y) ∧ Hid (S.length = n) ∧ Hid (iterT T a S = Y) ∧ Hid (iterT T l Y = iterT T t X) ∧ Hid (IB wr w0.heap.size S) ∧ Hid (RwI wr 2 0 (.slice no n nc) Y) ∧ Hid (Below w0.heap.size w0 wr)) (fun _ _ _ lv _ => (intOf lv).toNat)
  case atStart => exact ⟨0, 0, 1, t, ao, c, X, X, Nat.le_refl _, by omega, by omega, by omega, rfl, rfl, rfl, rfl, HP.out, HL.out _ HP.out, rfl, rfl, HI1.out, HX1.out, HB1.out⟩
  case round =>
    obtain ⟨d, a, b, l, no, nc, Y, S, hlt, hdl, hba, hb0, rfl, rfl, rfl, rfl, HPY, HSn, HIa, HIl, HIB, HRY, HBw⟩ := hrel
    by_cases h0 : 0 < l
    · obtain ⟨l1, rfl⟩ : ∃ l1, l = l1 + 1 := ⟨l - 1, by omega⟩
      have HY2 : Hid (p (T Y)) := HT.out _ HPY.out
      have HL2 : Hid ((T Y).length = n) := HL.out _ HY2.out
      have HCl : Hid (∀ W, Below wr.heap.size wr W → Calls Try.prog f (#[.slice no n nc] ++ cb) W fun r w' => ∃ uo uc, r = .returned (.slice uo n uc) ∧ RwI w' 2 W.heap.size (.slice uo n uc) (T Y) ∧ Below W.heap.size W w') := fun W hb => by
        refine (HRun.out W _ Y (HBw.out.trans (hb.mono HBw.out.size)) (ri_new HRY.out hb) HPY.out).mono ?_
        rintro r w' ⟨u, rfl, h1, h2⟩
        obtain ⟨uo, uc, rfl⟩ := ri_shape h1
        rw [HL2.out] at h1 ⊢
        exact ⟨uo, uc, rfl, h1, h2⟩
      go_wp2_with (first
        | (go_at_fn f; refine (HCl.out _ (Below.refl _ _)).mono ?_; rintro r w3 ⟨uo, uc, rfl, hu3, hb3⟩; have HU3 : Hid (RwI w3 2 wr.heap.size (.slice uo n uc) (T Y)) := hu3; have HB3 : Hid (Below wr.heap.size wr w3) := hb3; have HI3 : Hid (IB w3 w0.heap.size S) := IB.new HIB.out hb3; clear hu3 hb3)
        | (go_at_call 57; refine (eq64_any HU3.out (ri_of_ib HI3.out HSn.out (Nat.zero_le _) (by omega)) (by rw [HL2.out, HSn.out]) (by rw [HL2.out]; omega)).mono ?_; rintro r w4 ⟨rfl, hb4⟩; have HB4 : Hid (Below w3.heap.size w3 w4) := hb4; have HU4 : Hid (RwI w4 2 wr.heap.size (.slice uo n uc) (T Y)) := ri_new HU3.out hb4; have HI4 : Hid (IB w4 w0.heap.size S) := IB.new HI3.out hb4; obtain ⟨w5, hI5, hF5, hcp⟩ := run_copyI HI4.out HSn.out HU4.out HL2.out; have HI5 : Hid (IB w5 w0.heap.size (T Y)) := hI5; have HF5 : Hid (Fr w4 w5 (fun k => k = w0.heap.size)) := hF5; clear hb4 hI5 hF5)
        | fail)
      all_goals
        have HW4 : Hid (Below w0.heap.size w0 w4) := HBw.out.trans ((HB3.out.trans (HB4.out.mono HB3.out.size)).mono HBw.out.size)
        have HW5 : Hid (Below w0.heap.size w0 w5) := HW4.out.trans (HF5.out.below HW4.out.size (fun k hk => by omega))
        have HSs : Hid (iterT T (a + 1) S = T Y) := by show _ = _; rw [iterT_succ, HIa.out]
        have HIl2 : Hid (iterT T l1 (T Y) = iterT T t X) := HIl.out
        clear HCl hcp
      · rename_i hc1
        have hTS : T Y = S := eq_of_beq hc1
        clear hc1
        rw [left_w (show l1 ≤ 1000 by omega)]
        obtain ⟨z, hzd⟩ : ∃ z, l1 % (a + 1) = z := ⟨_, rfl⟩
        have hzl : z ≤ l1 := hzd ▸ Nat.mod_le _ _
        have HEnd : Hid (iterT T z (T Y) = iterT T t X) := end_z HSs.out hTS HIl2.out hzd
        rw [hzd]
        clear hzd
        go_roundw
        case rel => exact ⟨d + 1, a + 1, b, z, uo, uc, T Y, S, by omega, by omega, by omega, hb0, rfl, by go_num, rfl, rfl, HY2.out, HSn.out, HSs.out, HEnd.out, HI4.out, ri_low HU4.out (Nat.zero_le _), HW4.out⟩
        case measure => simp [intOf]; omega
      · rename_i hc1 hc2
        have hab : (a : Int) + 1 = (b : Int) := eq_of_beq hc2
        clear hc1 hc2
        go_roundw
        case rel => exact ⟨d + 1, 0, 2 * b, l1, uo, uc, T Y, T Y, by omega, by omega, by omega, by omega, rfl, rfl, by go_num, by go_num, HY2.out, HL2.out, rfl, HIl2.out, HI5.out, ri_fr (ri_low HU4.out (Nat.zero_le _)) HF5.out (fun k hk e => by have := (ri_lt HU4.out hk).1; have := IB.lt HIB.out; omega), HW5.out⟩
        case measure => simp [intOf]
      · go_roundw
        case rel => exact ⟨d + 1, a + 1, b, l1, uo, uc, T Y, S, by omega, by omega, by omega, hb0, rfl, by go_num, rfl, by go_num, HY2.out, HSn.out, HSs.out, HIl2.out, HI4.out, ri_low HU4.out (Nat.zero_le _), HW4.out⟩
        case measure => simp [intOf]
    · obtain rfl : l = 0 := by omega
      go_wp2
      go_ret
      refine ⟨_, rfl, ?_, HBw.out⟩
      rw [← HIl.out]
      exact HRY.out
end Go.Proofs.Ytfidojdolbmjdaa
