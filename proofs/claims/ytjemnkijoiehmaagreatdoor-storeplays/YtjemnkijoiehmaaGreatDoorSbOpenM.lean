import Derived.Test.YtjemnkijoiehmaaGreatDoorGrDataM
import Derived.Test.YtjemnkijoiehmaaGreatDoorDkNamesM
import Derived.Test.YtjemnkijoiehmaaGreatDoorRows
import Derived.ProofKit
import Derived.OpenShut
import Derived.Deep.Slices
import Derived.Deep.Strs
import Derived.Lib.SmallJoins
import Derived.ShutString
import Derived.ChangeOld
import Derived.SizedLaws
section
/- store: stage 19's awake. -/
namespace Go.Proofs.YtjemnkijoiehmaaGreatDoor
open Go.RowKit Go.Maps
attribute [local go_sem] Oper.semAt_some
def KA1 : St := (St.new 3).use 0 [97, 98]
def KA2 : St := KA1.use 1 [99, 100]
def KA3 : St := KA2.use 0 [97, 98]
theorem ka1_sp : KA1.sp = 0 := by decide +kernel
theorem ka2_sp : KA2.sp = 1 := by decide +kernel
theorem ka3_sp : KA3.sp = 2 := by decide +kernel
theorem ka2_f : KA2.f 0 = some [97, 98] := by decide +kernel
theorem ka3_f : KA3.f 1 = some [99, 100] := by decide +kernel
theorem ka3_near : ¬ (1 : Int) ∈ KA3.near := by decide +kernel
/-- The files' names: at least one. -/
theorem snames {w : World} {B q p c : Nat} {Xm : Nat → Prop} {K : St} {x : Int} {s : Bs} (h : SA Xm w B q p K c) (hc : c ≤ 900000) (hf : K.f x = some s) (hx : x ∉ K.near) : Calls Tryz.prog 17 #[.pointer (some ⟨p, 0, none⟩)] w fun r w' => ∃ ao l cp, r = .returned (.slice ao l cp) ∧ 0 < l ∧ Below w.heap.size w w' := by
  obtain ⟨A, mb, mv, h⟩ := h
  have hg := h.fl x s hf hx
  have hl := h.di.len
  obtain ⟨mn, ms, lv, hA⟩ := h.dk
  refine Calls.mono (names_any hA h.di.dead (by omega)) ?_
  rintro r w' ⟨v, rfl, hr, hb⟩
  have h0 : 0 < A.now.length := by
    cases e : A.now with
    | nil => rw [e] at hg; cases hg
    | cons a r => exact Nat.succ_pos _
  rcases hr.2 with ⟨_, h2⟩ | ⟨g, cap, cur, rfl, _⟩
  · omega
  · exact ⟨_, _, _, rfl, h0, hb⟩
set_option linter.unusedSimpArgs false in
set_option maxRecDepth 100000 in
set_option maxHeartbeats 2000000 in
theorem awake19 (w : World) : Calls Tryz.prog 6 #[] w fun r w' => r = .returned (.bool true) ∧ Below w.heap.size w w' := by
  have hN := new_any w
  go_enter Tryz.func6, Tryz.ntmps6
  go_upto_region 2 with (go_at_call 5; refine Calls.mono hN ?_; rintro r w1 ⟨rfl, e1, e2⟩; have HD1 : Hid (DkAt (fun _ => False) w1 w.heap.size w.heap.size ⟨[], [], 0, false, .slice none 0 0⟩) := ⟨_, _, _, e1⟩; have HB1 : Hid (Below w.heap.size w w1) := e2; clear e1 e2 hN)
  have hNw := snew_ok (bud := 3) HD1.out HB1.out.size (by decide) (by decide)
  obtain ⟨p, hp⟩ : ∃ p, w.heap.size = p := ⟨_, rfl⟩
  rw [hp] at HD1 hNw
  have HP : Hid (w.heap.size = p) := hp
  rw [hp]
  have hs1 : p ≤ w1.heap.size := by rw [← hp]; exact HB1.out.size
  have HS1 : Hid (p ≤ w1.heap.size) := hs1
  clear hp hs1
  go_upto_region 3 with (go_at_call 4; refine Calls.mono hNw ?_; rintro r w2 ⟨rfl, e1, e2⟩; have HA2 : Hid (SA (fun _ => False) w2 p w1.heap.size p (St.new 3) 0) := e1; have HB2 : Hid (Below w1.heap.size w1 w2) := e2; clear e1 e2 hNw)
  have HS2 : Hid (p ≤ w2.heap.size) := Nat.le_trans HS1.out HB2.out.size
  have hP0 := sput_ok (n := 0) (t := [97, 98]) HA2.out HS2.out (by decide) (by decide) (by decide) (by decide) (by decide)
  have HQ : Hid (p ≤ w1.heap.size) := HS1.out
  generalize w1.heap.size = q at HA2 HB2 hP0 HQ ⊢
  go_upto_region 4 with (first
    | (go_at_call 12; refine Calls.mono hP0 ?_; rintro r w3 ⟨rfl, e1, e2⟩; have HA3 : Hid (SA (fun _ => False) w3 p q p KA1 16) := e1; have HF3 : Hid (FrT (fun _ => False) p w2 w3) := e2; have HS3 : Hid (p ≤ w3.heap.size) := Nat.le_trans HS2.out e2.size; have hP1 := sput_ok (n := 1) (t := [99, 100]) HA3.out HS3.out (by decide) (by decide) (by decide) (by decide) (by rw [ka1_sp]; decide); clear e1 e2 hP0)
    | (go_at_call 12; refine Calls.mono hP1 ?_; rintro r w4 ⟨rfl, e1, e2⟩; have HA4 : Hid (SA (fun _ => False) w4 p q p KA2 32) := e1; have HF4 : Hid (FrT (fun _ => False) p w3 w4) := e2; have HS4 : Hid (p ≤ w4.heap.size) := Nat.le_trans HS3.out e2.size; clear e1 e2 hP1))
  have hG := sget_some HA4.out HS4.out (by decide) ka2_f (by rw [ka2_sp]; decide)
  go_upto_region 6 with (go_at_call 7; refine Calls.mono hG ?_; rintro r w5 ⟨rfl, e1, e2⟩; have HA5 : Hid (SA (fun _ => False) w5 p q p KA3 48) := e1; have HF5 : Hid (FrT (fun _ => False) p w4 w5) := e2; clear e1 e2 hG)
  have hSp := sspills HA5.out
  rw [ka3_sp] at hSp
  change Calls _ _ _ _ (fun r w' => r = .returned (.int .i64 2) ∧ w' = w5) at hSp
  have hst : (str [97, 98]).toList = [97, 98] := str_toList _
  have hNm := snames HA5.out (by decide) ka3_f ka3_near
  go_wp2_with (first
    | (go_at_call 15; refine Calls.mono hSp ?_; rintro r w6 ⟨rfl, rfl⟩)
    | (go_at_call 17; refine Calls.mono hNm ?_; rintro r w7 ⟨ao, l, cp, rfl, hl, e1⟩; have E1 : Hid _ := e1; clear e1))
  go_ret
  rw [HP.out]
  have e1 : Below p w w1 := by rw [← HP.out]; exact HB1.out
  have e2 : Below p w1 w6 := (HB2.out.mono HQ.out).trans (((HF3.out.below HS2.out).trans (HF4.out.below HS3.out)).trans (HF5.out.below HS4.out))
  exact ⟨rfl, (e1.trans e2).trans (E1.out.mono (Nat.le_trans HS4.out HF5.out.size))⟩
end Go.Proofs.YtjemnkijoiehmaaGreatDoor
end

section
/- StorePlays: the walk. -/
namespace Go.Proofs.YtjemnkijoiehmaaGreatDoor
open Go.RowKit Go.Maps
attribute [local go_sem] Oper.semAt_some
set_option linter.unusedSimpArgs false in
set_option maxRecDepth 100000 in
set_option maxHeartbeats 8000000 in
theorem plays_neg {w : World} {ao : Option Addr} {n0 cap : Nat} {bud : Int} (hneg : bud < 0) :
    Calls Tryz.prog 3 #[.int .i64 bud, .slice ao n0 cap] w fun e w' => e = .returned (.bool true) ∧ Below w.heap.size w w' := by
  have hN := new_any w
  go_enter Tryz.func3, Tryz.ntmps3
  go_upto_region 2 with (first
    | (go_at_call 5; refine Calls.mono hN ?_; rintro r w1 ⟨rfl, e1, e2⟩; have HB1 : Hid (Below w.heap.size w w1) := e2; have hNw := snew_bad (w := w1) (p := w.heap.size) hneg; clear e1 e2 hN)
    | (go_at_call 4; refine Calls.mono hNw ?_; rintro r w2 ⟨rfl, e1⟩; have HB2 : Hid (Below w.heap.size w w2) := (by rw [e1]; exact HB1.out); clear e1 hNw))
  have hAw := awake19 w2
  go_wp2_with (go_at_call 6; refine Calls.mono hAw ?_; rintro r w3 ⟨rfl, e1⟩; have HB3 : Hid (Below w2.heap.size w2 w3) := e1; clear e1 hAw)
  go_ret
  exact ⟨rfl, HB2.out.trans (HB3.out.mono HB2.out.size)⟩
/-- What the law holds behind k acts. -/
structure PlE (w : World) (qs ps bm : Nat) (bud : Int) (k : Nat) (wr : World) (K : St) : Prop where
  pl : ∃ Xm b v, PlI w qs ps bm wr Xm b v K (256 * k) K.f K.near
  bud : K.bud = bud
  sp : K.sp ≤ 16 * k
set_option linter.unusedSimpArgs false in
set_option maxRecDepth 100000 in
set_option maxHeartbeats 16000000 in
theorem plays_pos {w : World} {ao : Option Addr} {cap : Nat} {Y : List Sct} {bud : Int} (hact : 0 < Y.length → ∃ b off, ao = some ⟨b, off, none⟩ ∧ SctS w b off Y) (h0 : 0 ≤ bud) (hb : bud ≤ 9223372036854775807) :
    Calls Tryz.prog 3 #[.int .i64 bud, .slice ao Y.length cap] w fun e w' => e = .returned (.bool true) ∧ Below w.heap.size w w' := by
  have hN := new_any w
  have HA : Hid (0 < Y.length → ∃ b off, ao = some ⟨b, off, none⟩ ∧ SctS w b off Y) := hact
  obtain ⟨n0, hn0⟩ : ∃ n0, Y.length = n0 := ⟨_, rfl⟩
  have HNn : Hid (Y.length = n0) := hn0
  rw [hn0]
  clear hact hn0
  go_enter Tryz.func3, Tryz.ntmps3
  go_upto_region 2 with (first
    | (go_at_call 5; refine Calls.mono hN ?_; rintro r w1 ⟨rfl, e1, e2⟩; have HB1 : Hid (Below w.heap.size w w1) := e2; have hNw := snew_ok (Xm := fun _ => False) (w := w1) (B := w.heap.size) (p := w.heap.size) (bud := bud) ⟨_, _, _, e1⟩ e2.size h0 hb; clear e1 e2 hN)
    | (go_at_call 4; refine Calls.mono hNw ?_; rintro r w2 ⟨rfl, e1, e2⟩; have HA2 : Hid (SA (fun _ => False) w2 w.heap.size w1.heap.size w.heap.size (St.new bud) 0) := e1; have HB2 : Hid (Below w1.heap.size w1 w2) := e2; clear e1 e2 hNw))
  have HS2 : Hid (Below w.heap.size w w2) := HB1.out.trans (HB2.out.mono HB1.out.size)
  have hAw := awake19 w2
  go_upto_region 6 with (go_at_call 6; refine Calls.mono hAw ?_; rintro r w3 ⟨rfl, e1⟩; have HB3 : Hid (Below w2.heap.size w2 w3) := e1; clear e1 hAw)
  have HA3 : Hid (SA (fun _ => False) w3 w.heap.size w1.heap.size w.heap.size (St.new bud) 0) := HA2.out.new HB3.out
  have HS3 : Hid (Below w.heap.size w w3) := HS2.out.trans (HB3.out.mono HS2.out.size)
  clear HA2 HB1 HB2 HS2 HB3
  have hmm := @run_makeMap Tryz.prog
  go_upto_region 7 with (fail)
  clear hmm
  generalize hW : World.alloc _ _ = W4
  have hP0 : ∃ Xm : Nat → Prop, PlI w w1.heap.size w.heap.size (w3.heap.size + 1) W4 Xm w3.heap.size (.slice none 0 0) (St.new bud) 0 noneO [] := by
    have hb1 := gone_new w3 (.map #[] 0)
    have hb2 := gone_new (w3.alloc (.map #[] 0)) (.cells #[.map (some w3.heap.size), .slice none 0 0] 33)
    have hx := heap_alloc_new (w3.alloc (.map #[] 0)) (.cells #[.map (some w3.heap.size), .slice none 0 0] 33)
    rw [World.size_alloc] at hx
    have hb12 := hb1.trans (hb2.mono hb1.size)
    have hm : IMp lvS _ w3.heap.size noneO := (IMp.made lvS w3).new hb2
    have hsz : ((w3.alloc (.map #[] 0)).alloc (.cells #[.map (some w3.heap.size), .slice none 0 0] 33)).heap.size = w3.heap.size + 1 + 1 := by simp
    rw [hW] at hb12 hx hm hsz
    have hs3 := HS3.out.size
    exact ⟨_, HA3.out.grow (Fr.ofBelow hb12 (fun _ => False)) (fun _ f => f.elim), .inr ⟨Nat.le_refl _, by omega⟩, hx, hm, NrO.nil _ _, HS3.out.trans (hb12.mono hs3), hs3, by omega⟩
  clear hW
  obtain ⟨Xm0, hP0⟩ := hP0
  have HE0 : Hid (PlE w w1.heap.size w.heap.size (w3.heap.size + 1) bud 0 W4 (St.new bud)) := ⟨⟨Xm0, _, _, hP0⟩, rfl, Nat.zero_le _⟩
  clear hP0 HA3 HS3
  generalize w1.heap.size = qs at HE0 ⊢
  generalize w3.heap.size + 1 = bm at HE0 ⊢
  obtain ⟨B, hB⟩ : ∃ B, w.heap.size = B := ⟨_, rfl⟩
  have HBw : Hid (w.heap.size = B) := hB
  rw [hB] at HE0 ⊢
  clear hB
  go_wp2
  go_loopw [8, 9] (fun s i wr => ∃ (k : Nat) (K : St), k ≤ n0 ∧ k ≤ 80 ∧ i = .int .i64 k ∧ s = .int .i64 K.sp ∧ PlE w qs B bm bud k wr K) (fun _ i _ => 80 - (intOf i).toNat)
  case atStart => exact ⟨0, _, Nat.zero_le _, Nat.zero_le _, rfl, rfl, HE0.out⟩
  case round =>
    obtain ⟨k, K, hk, hk80, rfl, rfl, hE⟩ := hrel
    have HE : Hid (PlE w qs B bm bud k wr K) := hE
    clear hE
    by_cases hlt : k < n0
    · by_cases h80 : k < 80
      · have hkY : k < Y.length := by have := HNn.out; omega
        obtain ⟨b0, off, rfl, hcs⟩ := HA.out (by omega)
        obtain ⟨Xm, b, v, hP⟩ := HE.out.pl
        have hrow : ∃ y : Sct, wr.cell? ⟨b0, off + k * 3, none⟩ = some (.int .i64 y.k) ∧ wr.cell? ⟨b0, off + k * 3 + 1, none⟩ = some (.int .i64 y.n) ∧ wr.cell? ⟨b0, off + k * 3 + 2, none⟩ = some (.string (str y.s)) ∧ I6 y.n ∧ y.s.length ≤ 140737488351232 := by
          obtain ⟨x0, x1, x2, hin, hsl⟩ := hcs k hkY
          have hbB : b0 < w.heap.size := World.block_lt_of_cell? w _ x0
          exact ⟨Y[k]'hkY, (hP.bel.cell (p := ⟨b0, off + k * 3, none⟩) hbB).trans x0, (hP.bel.cell (p := ⟨b0, off + k * 3 + 1, none⟩) hbB).trans x1, (hP.bel.cell (p := ⟨b0, off + k * 3 + 2, none⟩) hbB).trans x2, hin, hsl⟩
        obtain ⟨⟨yk, yn, ys⟩, x0, x1, x2, hin, hsl⟩ := hrow
        simp only at x0 x1 x2 hin hsl
        clear hcs hkY
        go_upto_region 11 with (fail)
        generalize hW : World.alloc _ _ = W
        have hX : PlX w qs B bm wr.heap.size ⟨yk, yn, ys⟩ W Xm b v K (256 * k) K.f K.near := by
          rw [← hW]
          exact ⟨hP.new (gone_new _ _), heap_alloc_new _ _⟩
        clear hW x0 x1 x2 hP
        generalize wr.heap.size = ab at hX ⊢
        have HX0 : Hid (PlX w qs B bm ab ⟨yk, yn, ys⟩ W Xm b v K (256 * k) K.f K.near) := hX
        obtain ⟨d0, d1, d2, m0, m1, g0, g1⟩ := hX.cells
        have hlk := hX.look hin
        simp only at hlk d0 d1 d2
        clear hX
        obtain ⟨y, hy⟩ : ∃ y : Sct, (⟨yk, yn, ys⟩ : Sct) = y := ⟨_, rfl⟩
        have HX : Hid (PlX w qs B bm ab y W Xm b v K (256 * k) K.f K.near) := by show PlX _ _ _ _ _ _ _ _ _ _ _ _ _ _; rw [← hy]; exact HX0.out
        have HUse : Hid (∀ (V : World) (Xm : Nat → Prop) (b : Nat) (v : Value) (Kx : St) (c : Nat) (s : Bs), (SA Xm V w.heap.size qs B Kx c ∧ NrO V w.heap.size v K.near) → IMp lvS V b (setO K.f yn s) → (∀ x, lenO (setO K.f yn s) x ≤ 140737488351232) → Calls Tryz.prog 8 #[.agg #[.map (some b), v], .int .i64 yn, .int .i64 bud] V fun r w' => ∃ v', r = .returned (.tuple #[.agg #[.map (some b), v'], .int .i64 (K.go yn s : Nat)]) ∧ NrO w' V.heap.size v' (K.use yn s).near ∧ Below V.heap.size V w') := fun V Xm b v Kx c s h1 h2 h3 => by
          have hok := HX0.out.pl.sa.ok
          have hbk := HE.out.bud
          have := muse (n := yn) (bud := bud) h2 h1.2.toS hok.few (fun x hx => by have := hok.sup x (hok.sub x hx); exact i6_few this.1 this.2) hin h3 ⟨by omega, hb⟩
          rw [← hbk, (use_mgo hok).1, (use_mgo hok).2] at this
          rw [← hbk]
          exact this
        have hst0 : Hid (y = ⟨yk, yn, ys⟩) := hy.symm
        clear hy HX0
        go_cut [11] (fun x wx => x = .bool (okN yn) ∧ wx = W)
        case first =>
          by_cases r0 : 0 ≤ yn
          · by_cases r1 : yn < 16
            · go_wp2
              go_meet
              exact ⟨by simp [okN, r0, r1], rfl⟩
            · go_wp2
              go_meet
              exact ⟨by simp [okN, r0, r1], rfl⟩
          · go_wp2
            go_meet
            exact ⟨by simp [okN]; omega, rfl⟩
        case rest =>
          obtain ⟨rfl, hwc⟩ := hcut
          rw [hwc]
          clear hwc
          obtain ⟨ob, hob⟩ : ∃ ob, okN yn = ob := ⟨_, rfl⟩
          have HOb : Hid (okN yn = ob) := hob
          rw [hob]
          clear hob
          obtain ⟨tx, htx⟩ : ∃ tx, (K.f yn).getD [] = tx := ⟨_, rfl⟩
          obtain ⟨hs, hhs⟩ : ∃ hs, (K.f yn).isSome = hs := ⟨_, rfl⟩
          rw [htx, hhs] at hlk
          go_upto_block 2 with fail
          go_cut [14, 15, 16, 17] (fun g _ _ _ wx => ∃ (gn : Nat) (K2 : St) (X2 : Nat → Prop) (b2 : Nat) (v2 : Value), g = .int .i64 gn ∧ Hid (PlX w qs B bm ab y wx X2 b2 v2 K2 (256 * k + 256) K2.f K2.near) ∧ Hid (K2.sp = K.sp + gn ∧ K2.bud = bud ∧ K2.sp ≤ 16 * (k + 1)))
          case first =>
            by_cases k4 : yk = 4
            · subst k4
              cases hf : K.f yn with
              | some s =>
                obtain rfl : s = tx := by rw [← htx, hf]; rfl
                obtain rfl : true = hs := by rw [← hhs, hf]; rfl
                as_aux_lemma =>
                  have hG := sget (n := yn) HX.out.pl.sa HX.out.pl.low (by omega) hin (by have := HE.out.sp; omega)
                  rw [hf] at hG
                  change Calls _ _ _ _ (fun r w' => r = .returned (.tuple #[.string (str s), .int .i64 0]) ∧ _) at hG
                  go_upto_region 25 with (go_at_call 7; refine Calls.mono hG ?_; rintro r w6 ⟨rfl, e1⟩; have HX6 : Hid (PlX w qs B bm ab y w6 Xm b v (K.getK yn) (256 * k + 16) K.f K.near) := HX.out.call e1; clear e1 hG)
                  clear d0 d1 d2 m0 m1 g0 g1 hlk
                  have hU := HUse.out w6 Xm b v (K.getK yn) (256 * k + 16) s ⟨HX6.out.pl.sa, HX6.out.pl.row⟩
                  rw [setO_self hf] at hU
                  have hU := hU HX6.out.pl.mp (st_lenO HX.out.pl.sa.ok)
                  obtain ⟨d0, d1, d2, m0, m1, g0, g1⟩ := HX6.out.cells
                  rw [hst0.out] at d0 d1 d2
                  simp only at d0 d1 d2
                  go_upto_region 28 with (fail)
                  go_wp2_with (first
                    | (refine wpList_load_row rfl 33 _ rfl bm rfl 33 #[.map (some b), v] (0, 0) _ HX6.out.pl.bx Tryz.underlying33 rfl size_model ?_)
                    | (go_at_call 8; refine Calls.mono hU ?_; rintro r w7 ⟨v7, rfl, e1, e2⟩; obtain ⟨a7, l7, c7, rfl⟩ : ∃ a l c, v7 = .slice a l c := (by obtain ⟨a, c, e⟩ := e1.shape; exact ⟨a, _, c, e⟩); have HX7 : Hid (PlX w qs B bm ab y w7 Xm b v (K.getK yn) (256 * k + 16) K.f K.near) := HX6.out.new e2; have HR7 : Hid (NrO w7 w.heap.size (.slice a7 l7 c7) (K.use yn s).near) := e1.low HX6.out.pl.low; clear e1 e2 hU)
                    | (refine wpList_store_row rfl 33 _ _ rfl _ #[.map (some b), .slice a7 l7 c7] rfl rfl 33 #[.map (some b), v] HX7.out.pl.bx size_model rfl (by simp [Value.oneCell']) ?_))
                  clear d0 d1 d2 m0 m1 g0 g1
                  have HF : Hid (PlX w qs B bm ab y (w7.setRow bm #[.map (some b), .slice a7 l7 c7]) Xm b (.slice a7 l7 c7) (K.use yn s) (256 * k + 256) (K.use yn s).f (K.use yn s).near) := by
                    have h := (HX7.out.setR HR7.out).mono (d := 256 * k + 256) (by omega)
                    have e1 : K.getK yn = K.use yn s := by unfold St.getK; rw [hf]
                    have e2 : (K.use yn s).f = K.f := setO_self hf
                    rw [e1] at h
                    rw [e2]
                    exact h
                  have HSq : Hid ((K.use yn s).sp = K.sp + K.go yn s ∧ (K.use yn s).bud = bud ∧ (K.use yn s).sp ≤ 16 * (k + 1)) := ⟨rfl, HE.out.bud, by have h1 := HE.out.sp; have h2 := St.go_le (n := yn) (t := s) HX.out.pl.sa.ok; show K.sp + K.go yn s ≤ _; omega⟩
                  go_meet
                  exact ⟨K.go yn s, K.use yn s, Xm, b, .slice a7 l7 c7, rfl, HF, HSq⟩
              | none =>
                obtain rfl : ([] : Bs) = tx := by rw [← htx, hf]; rfl
                obtain rfl : false = hs := by rw [← hhs, hf]; rfl
                as_aux_lemma =>
                  have hG := sget (n := yn) HX.out.pl.sa HX.out.pl.low (by omega) hin (by have := HE.out.sp; omega)
                  rw [hf] at hG
                  change Calls _ _ _ _ (fun r w' => r = .returned (.tuple #[.string (str []), .int .i64 2]) ∧ _) at hG
                  have hst : (str []).toList = [] := str_toList _
                  go_upto_region 25 with (go_at_call 7; refine Calls.mono hG ?_; rintro r w6 ⟨rfl, e1⟩; have HX6 : Hid (PlX w qs B bm ab y w6 Xm b v (K.getK yn) (256 * k + 16) K.f K.near) := HX.out.call e1; clear e1 hG)
                  clear d0 d1 d2 m0 m1 g0 g1 hlk
                  have HF : Hid (PlX w qs B bm ab y w6 Xm b v K (256 * k + 256) K.f K.near) := by
                    have h := HX6.out.mono (d := 256 * k + 256) (by omega)
                    have e1 : K.getK yn = K := by unfold St.getK; rw [hf]
                    rw [e1] at h
                    exact h
                  go_wp2
                  have HSq : Hid ((K).sp = K.sp + 0 ∧ (K).bud = bud ∧ (K).sp ≤ 16 * (k + 1)) := ⟨rfl, HE.out.bud, by have h1 := HE.out.sp; omega⟩
                  go_meet
                  exact ⟨0, K, Xm, b, v, rfl, HF, HSq⟩
            · have hn4 := k4
              by_cases k5 : yk = 5
              · subst k5
                cases hf : K.f yn with
                | some s =>
                  obtain rfl : s = tx := by rw [← htx, hf]; rfl
                  obtain rfl : true = hs := by rw [← hhs, hf]; rfl
                  as_aux_lemma =>
                    have hG := sget (n := yn) HX.out.pl.sa HX.out.pl.low (by omega) hin (by have := HE.out.sp; omega)
                    rw [hf] at hG
                    change Calls _ _ _ _ (fun r w' => r = .returned (.tuple #[.string (str s), .int .i64 0]) ∧ _) at hG
                    go_upto_region 25 with (go_at_call 7; refine Calls.mono hG ?_; rintro r w6 ⟨rfl, e1⟩; have HX6 : Hid (PlX w qs B bm ab y w6 Xm b v (K.getK yn) (256 * k + 16) K.f K.near) := HX.out.call e1; clear e1 hG)
                    clear d0 d1 d2 m0 m1 g0 g1 hlk
                    have hU := HUse.out w6 Xm b v (K.getK yn) (256 * k + 16) s ⟨HX6.out.pl.sa, HX6.out.pl.row⟩
                    rw [setO_self hf] at hU
                    have hU := hU HX6.out.pl.mp (st_lenO HX.out.pl.sa.ok)
                    obtain ⟨d0, d1, d2, m0, m1, g0, g1⟩ := HX6.out.cells
                    rw [hst0.out] at d0 d1 d2
                    simp only at d0 d1 d2
                    go_upto_region 28 with (fail)
                    go_wp2_with (first
                      | (refine wpList_load_row rfl 33 _ rfl bm rfl 33 #[.map (some b), v] (0, 0) _ HX6.out.pl.bx Tryz.underlying33 rfl size_model ?_)
                      | (go_at_call 8; refine Calls.mono hU ?_; rintro r w7 ⟨v7, rfl, e1, e2⟩; obtain ⟨a7, l7, c7, rfl⟩ : ∃ a l c, v7 = .slice a l c := (by obtain ⟨a, c, e⟩ := e1.shape; exact ⟨a, _, c, e⟩); have HX7 : Hid (PlX w qs B bm ab y w7 Xm b v (K.getK yn) (256 * k + 16) K.f K.near) := HX6.out.new e2; have HR7 : Hid (NrO w7 w.heap.size (.slice a7 l7 c7) (K.use yn s).near) := e1.low HX6.out.pl.low; clear e1 e2 hU)
                      | (refine wpList_store_row rfl 33 _ _ rfl _ #[.map (some b), .slice a7 l7 c7] rfl rfl 33 #[.map (some b), v] HX7.out.pl.bx size_model rfl (by simp [Value.oneCell']) ?_))
                    clear d0 d1 d2 m0 m1 g0 g1
                    have HF : Hid (PlX w qs B bm ab y (w7.setRow bm #[.map (some b), .slice a7 l7 c7]) Xm b (.slice a7 l7 c7) (K.use yn s) (256 * k + 256) (K.use yn s).f (K.use yn s).near) := by
                      have h := (HX7.out.setR HR7.out).mono (d := 256 * k + 256) (by omega)
                      have e1 : K.getK yn = K.use yn s := by unfold St.getK; rw [hf]
                      have e2 : (K.use yn s).f = K.f := setO_self hf
                      rw [e1] at h
                      rw [e2]
                      exact h
                    have HSq : Hid ((K.use yn s).sp = K.sp + K.go yn s ∧ (K.use yn s).bud = bud ∧ (K.use yn s).sp ≤ 16 * (k + 1)) := ⟨rfl, HE.out.bud, by have h1 := HE.out.sp; have h2 := St.go_le (n := yn) (t := s) HX.out.pl.sa.ok; show K.sp + K.go yn s ≤ _; omega⟩
                    go_meet
                    exact ⟨K.go yn s, K.use yn s, Xm, b, .slice a7 l7 c7, rfl, HF, HSq⟩
                | none =>
                  obtain rfl : ([] : Bs) = tx := by rw [← htx, hf]; rfl
                  obtain rfl : false = hs := by rw [← hhs, hf]; rfl
                  as_aux_lemma =>
                    have hG := sget (n := yn) HX.out.pl.sa HX.out.pl.low (by omega) hin (by have := HE.out.sp; omega)
                    rw [hf] at hG
                    change Calls _ _ _ _ (fun r w' => r = .returned (.tuple #[.string (str []), .int .i64 2]) ∧ _) at hG
                    have hst : (str []).toList = [] := str_toList _
                    go_upto_region 25 with (go_at_call 7; refine Calls.mono hG ?_; rintro r w6 ⟨rfl, e1⟩; have HX6 : Hid (PlX w qs B bm ab y w6 Xm b v (K.getK yn) (256 * k + 16) K.f K.near) := HX.out.call e1; clear e1 hG)
                    clear d0 d1 d2 m0 m1 g0 g1 hlk
                    have HF : Hid (PlX w qs B bm ab y w6 Xm b v K (256 * k + 256) K.f K.near) := by
                      have h := HX6.out.mono (d := 256 * k + 256) (by omega)
                      have e1 : K.getK yn = K := by unfold St.getK; rw [hf]
                      rw [e1] at h
                      exact h
                    go_wp2
                    have HSq : Hid ((K).sp = K.sp + 0 ∧ (K).bud = bud ∧ (K).sp ≤ 16 * (k + 1)) := ⟨rfl, HE.out.bud, by have h1 := HE.out.sp; omega⟩
                    go_meet
                    exact ⟨0, K, Xm, b, v, rfl, HF, HSq⟩
              · have hn5 := k5
                by_cases k6 : yk = 6
                · subst k6
                  cases hf : K.f yn with
                  | some s =>
                    obtain rfl : s = tx := by rw [← htx, hf]; rfl
                    obtain rfl : true = hs := by rw [← hhs, hf]; rfl
                    as_aux_lemma =>
                      have hG := sget (n := yn) HX.out.pl.sa HX.out.pl.low (by omega) hin (by have := HE.out.sp; omega)
                      rw [hf] at hG
                      change Calls _ _ _ _ (fun r w' => r = .returned (.tuple #[.string (str s), .int .i64 0]) ∧ _) at hG
                      go_upto_region 25 with (go_at_call 7; refine Calls.mono hG ?_; rintro r w6 ⟨rfl, e1⟩; have HX6 : Hid (PlX w qs B bm ab y w6 Xm b v (K.getK yn) (256 * k + 16) K.f K.near) := HX.out.call e1; clear e1 hG)
                      clear d0 d1 d2 m0 m1 g0 g1 hlk
                      have hU := HUse.out w6 Xm b v (K.getK yn) (256 * k + 16) s ⟨HX6.out.pl.sa, HX6.out.pl.row⟩
                      rw [setO_self hf] at hU
                      have hU := hU HX6.out.pl.mp (st_lenO HX.out.pl.sa.ok)
                      obtain ⟨d0, d1, d2, m0, m1, g0, g1⟩ := HX6.out.cells
                      rw [hst0.out] at d0 d1 d2
                      simp only at d0 d1 d2
                      go_upto_region 28 with (fail)
                      go_wp2_with (first
                        | (refine wpList_load_row rfl 33 _ rfl bm rfl 33 #[.map (some b), v] (0, 0) _ HX6.out.pl.bx Tryz.underlying33 rfl size_model ?_)
                        | (go_at_call 8; refine Calls.mono hU ?_; rintro r w7 ⟨v7, rfl, e1, e2⟩; obtain ⟨a7, l7, c7, rfl⟩ : ∃ a l c, v7 = .slice a l c := (by obtain ⟨a, c, e⟩ := e1.shape; exact ⟨a, _, c, e⟩); have HX7 : Hid (PlX w qs B bm ab y w7 Xm b v (K.getK yn) (256 * k + 16) K.f K.near) := HX6.out.new e2; have HR7 : Hid (NrO w7 w.heap.size (.slice a7 l7 c7) (K.use yn s).near) := e1.low HX6.out.pl.low; clear e1 e2 hU)
                        | (refine wpList_store_row rfl 33 _ _ rfl _ #[.map (some b), .slice a7 l7 c7] rfl rfl 33 #[.map (some b), v] HX7.out.pl.bx size_model rfl (by simp [Value.oneCell']) ?_))
                      clear d0 d1 d2 m0 m1 g0 g1
                      have HF : Hid (PlX w qs B bm ab y (w7.setRow bm #[.map (some b), .slice a7 l7 c7]) Xm b (.slice a7 l7 c7) (K.use yn s) (256 * k + 256) (K.use yn s).f (K.use yn s).near) := by
                        have h := (HX7.out.setR HR7.out).mono (d := 256 * k + 256) (by omega)
                        have e1 : K.getK yn = K.use yn s := by unfold St.getK; rw [hf]
                        have e2 : (K.use yn s).f = K.f := setO_self hf
                        rw [e1] at h
                        rw [e2]
                        exact h
                      have HSq : Hid ((K.use yn s).sp = K.sp + K.go yn s ∧ (K.use yn s).bud = bud ∧ (K.use yn s).sp ≤ 16 * (k + 1)) := ⟨rfl, HE.out.bud, by have h1 := HE.out.sp; have h2 := St.go_le (n := yn) (t := s) HX.out.pl.sa.ok; show K.sp + K.go yn s ≤ _; omega⟩
                      go_meet
                      exact ⟨K.go yn s, K.use yn s, Xm, b, .slice a7 l7 c7, rfl, HF, HSq⟩
                  | none =>
                    obtain rfl : ([] : Bs) = tx := by rw [← htx, hf]; rfl
                    obtain rfl : false = hs := by rw [← hhs, hf]; rfl
                    as_aux_lemma =>
                      have hG := sget (n := yn) HX.out.pl.sa HX.out.pl.low (by omega) hin (by have := HE.out.sp; omega)
                      rw [hf] at hG
                      change Calls _ _ _ _ (fun r w' => r = .returned (.tuple #[.string (str []), .int .i64 2]) ∧ _) at hG
                      have hst : (str []).toList = [] := str_toList _
                      go_upto_region 25 with (go_at_call 7; refine Calls.mono hG ?_; rintro r w6 ⟨rfl, e1⟩; have HX6 : Hid (PlX w qs B bm ab y w6 Xm b v (K.getK yn) (256 * k + 16) K.f K.near) := HX.out.call e1; clear e1 hG)
                      clear d0 d1 d2 m0 m1 g0 g1 hlk
                      have HF : Hid (PlX w qs B bm ab y w6 Xm b v K (256 * k + 256) K.f K.near) := by
                        have h := HX6.out.mono (d := 256 * k + 256) (by omega)
                        have e1 : K.getK yn = K := by unfold St.getK; rw [hf]
                        rw [e1] at h
                        exact h
                      go_wp2
                      have HSq : Hid ((K).sp = K.sp + 0 ∧ (K).bud = bud ∧ (K).sp ≤ 16 * (k + 1)) := ⟨rfl, HE.out.bud, by have h1 := HE.out.sp; omega⟩
                      go_meet
                      exact ⟨0, K, Xm, b, v, rfl, HF, HSq⟩
                · have hn6 := k6
                  by_cases k7 : yk = 7
                  · subst k7
                    cases hf : K.f yn with
                    | some s =>
                      obtain rfl : s = tx := by rw [← htx, hf]; rfl
                      obtain rfl : true = hs := by rw [← hhs, hf]; rfl
                      as_aux_lemma =>
                        have hG := sdrop (n := yn) HX.out.pl.sa HX.out.pl.low (by omega) hin
                        rw [hf] at hG
                        change Calls _ _ _ _ (fun r w' => r = .returned (.bool true) ∧ _) at hG
                        go_upto_region 32 with (go_at_call 9; refine Calls.mono hG ?_; rintro r w6 ⟨rfl, e1⟩; have HX6 : Hid (PlX w qs B bm ab y w6 Xm b v (K.dropK yn) (256 * k + 16) K.f K.near) := HX.out.call e1; clear e1 hG)
                        clear d0 d1 d2 m0 m1 g0 g1 hlk
                        obtain ⟨w7, hrun, hm7, hf7⟩ := HX6.out.pl.mp.del mtS hin 0
                        have HX7 : Hid (PlX w qs B bm ab y w7 Xm b v (K.dropK yn) (256 * k + 16) (cutO' K.f yn) K.near) := HX6.out.upd hf7 hm7
                        obtain ⟨d0, d1, d2, m0, m1, g0, g1⟩ := HX6.out.cells
                        rw [hst0.out] at d0 d1 d2
                        simp only at d0 d1 d2
                        clear hm7 hf7
                        go_upto_region 33 with (fail)
                        clear d0 d1 d2 m0 m1 g0 g1 hrun
                        obtain ⟨d0, d1, d2, m0, m1, g0, g1⟩ := HX7.out.cells
                        rw [hst0.out] at d0 d1 d2
                        simp only at d0 d1 d2
                        have hWo := mwithout (n := yn) HX7.out.pl.row.toS (by have := HX.out.pl.sa.ok.few; omega)
                        go_wp2_with (go_at_call 10; refine Calls.mono hWo ?_; rintro r w8 ⟨v7, rfl, e1, e2⟩; obtain ⟨a7, l7, c7, rfl⟩ : ∃ a l c, v7 = .slice a l c := (by obtain ⟨a, c, e⟩ := e1.shape; exact ⟨a, _, c, e⟩); have HX8 : Hid (PlX w qs B bm ab y w8 Xm b v (K.dropK yn) (256 * k + 16) (cutO' K.f yn) K.near) := HX7.out.new e2; have HR8 : Hid (NrO w8 w.heap.size (.slice a7 l7 c7) (woI K.near yn)) := e1.low HX7.out.pl.low; obtain ⟨p0, p1, p2, p3, p4, p5, p6⟩ := HX8.out.cells; rw [hst0.out] at p0 p1 p2; simp only at p0 p1 p2; clear e1 e2 hWo)
                        clear d0 d1 d2 m0 m1 g0 g1 p0 p1 p2 p3 p4 p5 p6
                        have HF : Hid (PlX w qs B bm ab y (w8.setCell ⟨bm, 1, none⟩ (.slice a7 l7 c7)) Xm b (.slice a7 l7 c7) (K.drop yn) (256 * k + 256) (K.drop yn).f (K.drop yn).near) := by
                          have h := (HX8.out.set1 HR8.out).mono (d := 256 * k + 256) (by omega)
                          have e1 : K.dropK yn = K.drop yn := by unfold St.dropK; rw [hf]; rfl
                          rw [e1] at h
                          exact h
                        have HSq : Hid ((K.drop yn).sp = K.sp + 0 ∧ (K.drop yn).bud = bud ∧ (K.drop yn).sp ≤ 16 * (k + 1)) := ⟨rfl, HE.out.bud, by have h1 := HE.out.sp; show K.sp ≤ _; omega⟩
                        go_meet
                        exact ⟨0, K.drop yn, Xm, b, .slice a7 l7 c7, rfl, HF, HSq⟩
                    | none =>
                      obtain rfl : ([] : Bs) = tx := by rw [← htx, hf]; rfl
                      obtain rfl : false = hs := by rw [← hhs, hf]; rfl
                      as_aux_lemma =>
                        have hG := sdrop (n := yn) HX.out.pl.sa HX.out.pl.low (by omega) hin
                        rw [hf] at hG
                        change Calls _ _ _ _ (fun r w' => r = .returned (.bool false) ∧ _) at hG
                        go_upto_region 32 with (go_at_call 9; refine Calls.mono hG ?_; rintro r w6 ⟨rfl, e1⟩; have HX6 : Hid (PlX w qs B bm ab y w6 Xm b v (K.dropK yn) (256 * k + 16) K.f K.near) := HX.out.call e1; clear e1 hG)
                        clear d0 d1 d2 m0 m1 g0 g1 hlk
                        obtain ⟨w7, hrun, hm7, hf7⟩ := HX6.out.pl.mp.del mtS hin 0
                        have HX7 : Hid (PlX w qs B bm ab y w7 Xm b v (K.dropK yn) (256 * k + 16) (cutO' K.f yn) K.near) := HX6.out.upd hf7 hm7
                        obtain ⟨d0, d1, d2, m0, m1, g0, g1⟩ := HX6.out.cells
                        rw [hst0.out] at d0 d1 d2
                        simp only at d0 d1 d2
                        clear hm7 hf7
                        go_upto_region 33 with (fail)
                        clear d0 d1 d2 m0 m1 g0 g1 hrun
                        obtain ⟨d0, d1, d2, m0, m1, g0, g1⟩ := HX7.out.cells
                        rw [hst0.out] at d0 d1 d2
                        simp only at d0 d1 d2
                        have hWo := mwithout (n := yn) HX7.out.pl.row.toS (by have := HX.out.pl.sa.ok.few; omega)
                        go_wp2_with (go_at_call 10; refine Calls.mono hWo ?_; rintro r w8 ⟨v7, rfl, e1, e2⟩; obtain ⟨a7, l7, c7, rfl⟩ : ∃ a l c, v7 = .slice a l c := (by obtain ⟨a, c, e⟩ := e1.shape; exact ⟨a, _, c, e⟩); have HX8 : Hid (PlX w qs B bm ab y w8 Xm b v (K.dropK yn) (256 * k + 16) (cutO' K.f yn) K.near) := HX7.out.new e2; have HR8 : Hid (NrO w8 w.heap.size (.slice a7 l7 c7) (woI K.near yn)) := e1.low HX7.out.pl.low; obtain ⟨p0, p1, p2, p3, p4, p5, p6⟩ := HX8.out.cells; rw [hst0.out] at p0 p1 p2; simp only at p0 p1 p2; clear e1 e2 hWo)
                        clear d0 d1 d2 m0 m1 g0 g1 p0 p1 p2 p3 p4 p5 p6
                        have HF : Hid (PlX w qs B bm ab y (w8.setCell ⟨bm, 1, none⟩ (.slice a7 l7 c7)) Xm b (.slice a7 l7 c7) K (256 * k + 256) K.f K.near) := by
                          have h := (HX8.out.set1 HR8.out).mono (d := 256 * k + 256) (by omega)
                          have e1 : K.dropK yn = K := by unfold St.dropK; rw [hf]; rfl
                          have e2 : woI K.near yn = K.near := woI_id (fun hh => by have := HX.out.pl.sa.ok.sub yn hh; rw [hf] at this; cases this)
                          rw [e1, e2, cutO_self hf] at h
                          exact h
                        have HSq : Hid ((K).sp = K.sp + 0 ∧ (K).bud = bud ∧ (K).sp ≤ 16 * (k + 1)) := ⟨rfl, HE.out.bud, by have h1 := HE.out.sp; omega⟩
                        go_meet
                        exact ⟨0, K, Xm, b, .slice a7 l7 c7, rfl, HF, HSq⟩
                  · by_cases k8 : yk = 8
                    · subst k8
                      as_aux_lemma =>
                        have hG := sclear HX.out.pl.sa HX.out.pl.low (by omega)
                        go_upto_region 36 with (go_at_call 11; refine Calls.mono hG ?_; rintro r w6 ⟨rfl, e1⟩; have HX6 : Hid (PlX w qs B bm ab y w6 Xm b v K.clr (256 * k + 256) K.f K.near) := HX.out.call e1; clear e1 hG)
                        clear d0 d1 d2 m0 m1 g0 g1 hlk
                        have hmm := @run_makeMap Tryz.prog
                        have hbA : (w6.alloc (.map #[] 0)).heap[bm]? = some (.cells #[.map (some b), v] 33 (0, 0)) := ((gone_new w6 (.map #[] 0)).block bm (lt_blk HX6.out.pl.bx)).trans HX6.out.pl.bx
                        have HbA : Hid ((w6.alloc (.map #[] 0)).heap[bm]? = some (.cells #[.map (some b), v] 33 (0, 0))) := hbA
                        clear hbA
                        go_wp2_with (refine wpList_store_row rfl 33 _ _ rfl _ #[.map (some w6.heap.size), .slice none 0 0] rfl rfl 33 #[.map (some b), v] HbA.out size_model rfl (by simp [Value.oneCell']) ?_)
                        clear hmm HbA
                        obtain ⟨Xn, hF⟩ := HX6.out.anew
                        have HF : Hid (PlX w qs B bm ab y ((w6.alloc (.map #[] 0)).setRow bm #[.map (some w6.heap.size), .slice none 0 0]) Xn w6.heap.size (.slice none 0 0) K.clr (256 * k + 256) K.clr.f K.clr.near) := hF
                        clear hF
                        have HSq : Hid ((K.clr).sp = K.sp + 0 ∧ (K.clr).bud = bud ∧ (K.clr).sp ≤ 16 * (k + 1)) := ⟨rfl, HE.out.bud, by have h1 := HE.out.sp; show K.sp ≤ _; omega⟩
                        go_meet
                        exact ⟨0, K.clr, Xn, w6.heap.size, .slice none 0 0, rfl, HF, HSq⟩
                    · have hn8 := k8
                      cases ob with
                      | true =>
                        have ho : okN yn = true := HOb.out
                        have r0 := (okN_iff.1 ho).1
                        have r1 := (okN_iff.1 ho).2
                        as_aux_lemma =>
                          have hG := sput (n := yn) (t := ys) HX.out.pl.sa HX.out.pl.low (by omega) hsl (by have := HE.out.sp; omega)
                          rw [if_pos ho] at hG
                          go_upto_region 16 with (go_at_call 12; refine Calls.mono hG ?_; rintro r w6 ⟨rfl, e1⟩; have HX6 : Hid (PlX w qs B bm ab y w6 Xm b v (K.putK yn ys) (256 * k + 16) K.f K.near) := HX.out.call e1; clear e1 hG)
                          clear d0 d1 d2 m0 m1 g0 g1 hlk
                          obtain ⟨w7, hrun, hm7, hf7⟩ := HX6.out.pl.mp.put mtS r0 r1 ys
                          change (Instr.mapUpdate 30 (.map (some b)) (.int .i64 yn) (.string (str ys))).run Tryz.prog w6 = .ok () w7 at hrun
                          have HX7 : Hid (PlX w qs B bm ab y w7 Xm b v (K.putK yn ys) (256 * k + 16) (setO K.f yn ys) K.near) := HX6.out.upd hf7 hm7
                          obtain ⟨d0, d1, d2, m0, m1, g0, g1⟩ := HX6.out.cells
                          rw [hst0.out] at d0 d1 d2
                          simp only at d0 d1 d2
                          clear hm7 hf7
                          go_upto_region 20 with (fail)
                          clear d0 d1 d2 m0 m1 g0 g1 hrun
                          obtain ⟨d0, d1, d2, m0, m1, g0, g1⟩ := HX7.out.cells
                          rw [hst0.out] at d0 d1 d2
                          simp only at d0 d1 d2
                          have hU := HUse.out w7 Xm b v (K.putK yn ys) (256 * k + 16) ys
                          have hU := hU ⟨HX7.out.pl.sa, HX7.out.pl.row⟩ HX7.out.pl.mp (st_lenO (HX.out.pl.sa.ok.use r0 r1 hsl))
                          go_wp2_with (first
                            | (refine wpList_load_row rfl 33 _ rfl bm rfl 33 #[.map (some b), v] (0, 0) _ HX7.out.pl.bx Tryz.underlying33 rfl size_model ?_)
                            | (go_at_call 8; refine Calls.mono hU ?_; rintro r w8 ⟨v7, rfl, e1, e2⟩; obtain ⟨a7, l7, c7, rfl⟩ : ∃ a l c, v7 = .slice a l c := (by obtain ⟨a, c, e⟩ := e1.shape; exact ⟨a, _, c, e⟩); have HX8 : Hid (PlX w qs B bm ab y w8 Xm b v (K.putK yn ys) (256 * k + 16) (setO K.f yn ys) K.near) := HX7.out.new e2; have HR8 : Hid (NrO w8 w.heap.size (.slice a7 l7 c7) (K.use yn ys).near) := e1.low HX7.out.pl.low; clear e1 e2 hU)
                            | (refine wpList_store_row rfl 33 _ _ rfl _ #[.map (some b), .slice a7 l7 c7] rfl rfl 33 #[.map (some b), v] HX8.out.pl.bx size_model rfl (by simp [Value.oneCell']) ?_))
                          clear d0 d1 d2 m0 m1 g0 g1
                          have HF : Hid (PlX w qs B bm ab y (w8.setRow bm #[.map (some b), .slice a7 l7 c7]) Xm b (.slice a7 l7 c7) (K.use yn ys) (256 * k + 256) (K.use yn ys).f (K.use yn ys).near) := by
                            have h := (HX8.out.setR HR8.out).mono (d := 256 * k + 256) (by omega)
                            have e1 : K.putK yn ys = K.use yn ys := by unfold St.putK; rw [if_pos ho]
                            rw [e1] at h
                            exact h
                          have HSq : Hid ((K.use yn ys).sp = K.sp + K.go yn ys ∧ (K.use yn ys).bud = bud ∧ (K.use yn ys).sp ≤ 16 * (k + 1)) := ⟨rfl, HE.out.bud, by have h1 := HE.out.sp; have h2 := St.go_le (n := yn) (t := ys) HX.out.pl.sa.ok; show K.sp + K.go yn ys ≤ _; omega⟩
                          go_meet
                          exact ⟨K.go yn ys, K.use yn ys, Xm, b, .slice a7 l7 c7, rfl, HF, HSq⟩
                      | false =>
                        have ho : ¬ okN yn = true := fun h => by have := HOb.out; rw [h] at this; cases this
                        as_aux_lemma =>
                          have hG := sput (n := yn) (t := ys) HX.out.pl.sa HX.out.pl.low (by omega) hsl (by have := HE.out.sp; omega)
                          rw [if_neg ho] at hG
                          go_upto_region 16 with (go_at_call 12; refine Calls.mono hG ?_; rintro r w6 ⟨rfl, e1⟩; have HX6 : Hid (PlX w qs B bm ab y w6 Xm b v (K.putK yn ys) (256 * k + 16) K.f K.near) := HX.out.call e1; clear e1 hG)
                          clear d0 d1 d2 m0 m1 g0 g1 hlk
                          have HF : Hid (PlX w qs B bm ab y w6 Xm b v K (256 * k + 256) K.f K.near) := by
                            have h := HX6.out.mono (d := 256 * k + 256) (by omega)
                            have e1 : K.putK yn ys = K := by unfold St.putK; rw [if_neg ho]
                            rw [e1] at h
                            exact h
                          go_wp2
                          have HSq : Hid ((K).sp = K.sp + 0 ∧ (K).bud = bud ∧ (K).sp ≤ 16 * (k + 1)) := ⟨rfl, HE.out.bud, by have h1 := HE.out.sp; omega⟩
                          go_meet
                          exact ⟨0, K, Xm, b, v, rfl, HF, HSq⟩
          case rest =>
            obtain ⟨gn, K2, X2, b2, v2, rfl, HF, HSq⟩ := hcut
            clear d0 d1 d2 m0 m1 g0 g1 hlk
            have hsb : K.sp ≤ 16 * 80 := by have := HE.out.sp; omega
            have hgb : gn ≤ 16 * 81 := by have := HSq.out.1; have := HSq.out.2.2; omega
            go_upto_region 38 with (fail)
            have hE8 : (K.sp : Int) + ((gn : Nat) : Int) = ((K2.sp : Nat) : Int) := by rw [HSq.out.1]; simp
            rw [hE8]
            clear hE8 hsb hgb
            have hsp2 : K2.sp ≤ 100000 := by have := HSq.out.2.2; omega
            obtain ⟨T2, hT2⟩ : ∃ T2, totL K2.f K2.near = T2 := ⟨_, rfl⟩
            have hok2 := HF.out.pl.sa.ok
            have hby : byt (heldO K2.f K2.near) K2.near = T2 := by rw [← hT2]; exact held_tot K2.f K2.near K2.near (fun _ h => h)
            obtain ⟨Wd, hWd⟩ : ∃ Wd, wc.drew = Wd := ⟨_, rfl⟩
            have bd : Below wc.heap.size wc Wd := by rw [← hWd]; exact Below.drew (Below.refl _ _)
            have HFd : Hid (PlX w qs B bm ab y Wd X2 b2 v2 K2 (256 * k + 256) K2.f K2.near) := HF.out.new bd
            have hUd := sused HFd.out.pl.sa
            rw [hby] at hUd
            have HUm : Hid (∀ V, Below Wd.heap.size Wd V → Calls Tryz.prog 14 #[.agg #[.map (some b2), v2]] V fun r w' => r = .returned (.int .i64 T2) ∧ Below V.heap.size V w') := fun V hV => by
              have h2 := HFd.out.new hV
              have := mused h2.pl.mp h2.pl.row.toS (by have := hok2.few; omega) (fun x hx => by have := hok2.sup x (hok2.sub x hx); exact i6_few this.1 this.2) (st_lenO hok2)
              rw [hT2] at this
              exact this
            have htb : T2 ≤ 16 * 140737488351232 := by
              rw [← hT2]
              refine Nat.le_trans (totL_le K2.near (fun x _ => st_lenO hok2 x)) (Nat.mul_le_mul_right _ hok2.few)
            obtain ⟨_, _, _, q0, q1, _, _⟩ := HFd.out.cells
            have hS : Wd.cell? ⟨bm, 0, none⟩ = some (.map (some b2)) ∧ Wd.cell? ⟨bm, 1, none⟩ = some v2 := ⟨q0, q1⟩
            clear q0 q1 bd hby hT2 hok2
            refine wp_calmD ?_
            refine wp_region_L [] (fun W : World => W.cell? ⟨bm, 0, none⟩ = some (.map (some b2)) ∧ W.cell? ⟨bm, 1, none⟩ = some v2) (by kernel_rfl) ?_
            rw [hWd]
            clear hWd
            refine wpAnyL_take (i := 0) 172 (v := .pointer (some ⟨qs, 0, none⟩)) rfl rfl (by kernel_rfl) (by kernel_rfl) (by kernel_rfl) (by kernel_rfl) (by kernel_rfl) (by kernel_rfl) (fun _ _ _ h => h) hS (by rfl) (by intro w' hSw; obtain ⟨y1, y2⟩ := hSw; go_simp <;> with_reducible rfl) ?_
            simp only [Act.put, List.setIfInBounds_toArray, List.set_cons_zero, List.set_cons_succ]
            refine wpAnyL_take (i := 2) 174 (v := .agg #[.map (some b2), v2]) rfl rfl (by kernel_rfl) (by kernel_rfl) (by kernel_rfl) (by kernel_rfl) (by kernel_rfl) (by kernel_rfl) (fun _ _ _ h => h) hS (by rfl) (by intro w' hSw; obtain ⟨y1, y2⟩ := hSw; go_simp <;> with_reducible rfl) ?_
            simp only [Act.put, List.setIfInBounds_toArray, List.set_cons_zero, List.set_cons_succ]
            refine wpAnyL_one (i := 1) (by kernel_rfl) rfl (fun Ka hKa => ?_)
            go_simp
            refine Calls.mono hUd ?_
            rintro r w5 ⟨rfl, hw5⟩
            rw [hw5]
            refine hKa.out _ _ (fun _ => hS) ?_
            clear hKa Ka hw5 hUd
            try simp only [Act.put, List.setIfInBounds_toArray, List.set_cons_zero, List.set_cons_succ]
            have hUm := HUm.out Wd (Below.refl _ _)
            refine wpAnyL_one (i := 3) (by kernel_rfl) rfl (fun Ka hKa => ?_)
            go_simp
            refine Calls.mono hUm ?_
            rintro r wt ⟨rfl, et⟩
            have HFt : Hid (PlX w qs B bm ab y wt X2 b2 v2 K2 (256 * k + 256) K2.f K2.near) := HFd.out.new et
            obtain ⟨_, _, _, q0, q1, _, _⟩ := HFt.out.cells
            have hSt : wt.cell? ⟨bm, 0, none⟩ = some (.map (some b2)) ∧ wt.cell? ⟨bm, 1, none⟩ = some v2 := ⟨q0, q1⟩
            refine hKa.out _ _ (fun _ => hSt) ?_
            clear hKa Ka et hUm hS q0 q1
            try simp only [Act.put, List.setIfInBounds_toArray, List.set_cons_zero, List.set_cons_succ]
            refine wpAnyL_take (i := 4) 176 (v := .bool false) rfl rfl (by kernel_rfl) (by kernel_rfl) (by kernel_rfl) (by kernel_rfl) (by kernel_rfl) (by kernel_rfl) (fun _ _ _ h => h) hSt (by rfl) (by intro w' hSw; obtain ⟨y1, y2⟩ := hSw; go_simp <;> with_reducible rfl) ?_
            simp only [Act.put, List.setIfInBounds_toArray, List.set_cons_zero, List.set_cons_succ]
            refine wpAnyL_take (i := 5) 177 (v := .bool false) rfl rfl (by kernel_rfl) (by kernel_rfl) (by kernel_rfl) (by kernel_rfl) (by kernel_rfl) (by kernel_rfl) (fun _ _ _ h => h) hSt (by rfl) (by intro w' hSw; obtain ⟨y1, y2⟩ := hSw; go_simp <;> with_reducible rfl) ?_
            simp only [Act.put, List.setIfInBounds_toArray, List.set_cons_zero, List.set_cons_succ]
            refine wpAnyL_take (i := 6) 178 (v := .pointer (some ⟨qs, 0, none⟩)) rfl rfl (by kernel_rfl) (by kernel_rfl) (by kernel_rfl) (by kernel_rfl) (by kernel_rfl) (by kernel_rfl) (fun _ _ _ h => h) hSt (by rfl) (by intro w' hSw; obtain ⟨y1, y2⟩ := hSw; go_simp <;> with_reducible rfl) ?_
            simp only [Act.put, List.setIfInBounds_toArray, List.set_cons_zero, List.set_cons_succ]
            refine wpAnyL_take (i := 8) 180 (v := .int .i64 K2.sp) rfl rfl (by kernel_rfl) (by kernel_rfl) (by kernel_rfl) (by kernel_rfl) (by kernel_rfl) (by kernel_rfl) (fun _ _ _ h => h) hSt (by rfl) (by intro w' hSw; obtain ⟨y1, y2⟩ := hSw; go_simp <;> with_reducible rfl) ?_
            simp only [Act.put, List.setIfInBounds_toArray, List.set_cons_zero, List.set_cons_succ]
            have hSp := sspills HFt.out.pl.sa
            refine wpAnyL_one (i := 7) (by kernel_rfl) rfl (fun Ka hKa => ?_)
            go_simp
            refine Calls.mono hSp ?_
            rintro r w5 ⟨rfl, hw5⟩
            rw [hw5]
            refine hKa.out _ _ (fun _ => hSt) ?_
            clear hKa Ka hw5 hSp
            try simp only [Act.put, List.setIfInBounds_toArray, List.set_cons_zero, List.set_cons_succ]
            refine wpAnyL_take (i := 9) 181 (v := .bool false) rfl rfl (by kernel_rfl) (by kernel_rfl) (by kernel_rfl) (by kernel_rfl) (by kernel_rfl) (by kernel_rfl) (fun _ _ _ h => h) hSt (by rfl) (by intro w' hSw; obtain ⟨y1, y2⟩ := hSw; go_simp <;> with_reducible rfl) ?_
            simp only [Act.put, List.setIfInBounds_toArray, List.set_cons_zero, List.set_cons_succ]
            refine wpAnyL_take (i := 10) 182 (v := .bool false) rfl rfl (by kernel_rfl) (by kernel_rfl) (by kernel_rfl) (by kernel_rfl) (by kernel_rfl) (by kernel_rfl) (fun _ _ _ h => h) hSt (by rfl) (by intro w' hSw; obtain ⟨y1, y2⟩ := hSw; go_simp <;> with_reducible rfl) ?_
            simp only [Act.put, List.setIfInBounds_toArray, List.set_cons_zero, List.set_cons_succ]
            refine wpAnyL_done (by kernel_rfl) ?_ _
            have hNb : Calls Tryz.prog 16 #[.pointer (some ⟨qs, 0, none⟩), .agg #[.map (some b2), v2]] wt fun r w' => r = .returned (.bool true) ∧ Below wt.heap.size wt w' := lnumbers HFt.out.pl.sa HFt.out.pl.mp (by obtain ⟨a, c, e⟩ := HFt.out.pl.row.shape; exact ⟨a, _, c, e⟩)
            obtain ⟨_, _, _, q0, q1, _, _⟩ := HFt.out.cells
            clear hSt
            go_wp2_with (go_at_call 16; refine Calls.mono hNb ?_; rintro r w8 ⟨rfl, e1⟩; have HB8 : Hid (Below wt.heap.size wt w8) := e1; clear e1 hNb)
            go_roundw
            case rel => exact ⟨k + 1, K2, hlt, h80, by go_num, by rfl, ⟨⟨_, _, _, (HFt.out.new HB8.out).pl⟩, HSq.out.2.1, HSq.out.2.2⟩⟩
            case measure => simp [intOf]; omega
      · go_wp2
        go_ret
        obtain ⟨Xm, b, v, hP⟩ := HE.out.pl
        exact ⟨rfl, hP.bel⟩
    · go_wp2
      go_ret
      obtain ⟨Xm, b, v, hP⟩ := HE.out.pl
      exact ⟨rfl, hP.bel⟩
theorem plays_any {w : World} {ao : Option Addr} {cap : Nat} {Y : List Sct} {bud : Int} (hact : 0 < Y.length → ∃ b off, ao = some ⟨b, off, none⟩ ∧ SctS w b off Y) (hb : bud ≤ 9223372036854775807) :
    Calls Tryz.prog 3 #[.int .i64 bud, .slice ao Y.length cap] w fun e w' => e = .returned (.bool true) ∧ Below w.heap.size w w' := by
  by_cases h : bud < 0
  · exact plays_neg h
  · exact plays_pos hact (by omega) hb
end Go.Proofs.YtjemnkijoiehmaaGreatDoor
end

section
/- Lists of acts on a store: how a slice of them is opened, with its bulk. -/
namespace Go.Proofs.YtjemnkijoiehmaaGreatDoor
open Go.RowKit Go.Deep Go.Joins Go.ChangeShapes
theorem tcellsI : Tryz.prog.cellsOf 3 = 1 := by kernel_rfl
theorem tcellsS : Tryz.prog.cellsOf 9 = 1 := by kernel_rfl
theorem tcellsA : Tryz.prog.cellsOf 35 = 3 := by kernel_rfl
theorem three_ofT {α : Type} {l : List α} (h : l.length = 3) : ∃ a b c, l = [a, b, c] := by
  match l, h with
  | [a, b, c], _ => exact ⟨a, b, c, rfl⟩
section
variable {H : Type} {enc : TypeId × Value → H} {w : World} {base : Nat} {spare : Nat → Bool} {held : Bool}
theorem open_sct {n : Nat} {cs : List Value} {x : DataW H × List MemPlace} (h : DataW.trod enc Tryz.prog w base spare held n 35 cs = some x) (hw : ∀ m ∈ x.1.weights Tryz.prog 35, m ≤ reachBytes) :
    ∃ y : Sct, cs = [.int .i64 y.k, .int .i64 y.n, .string (str y.s)] ∧ I6 y.n ∧ y.s.length ≤ 140737488351232 ∧ y.s.length + 1 ≤ Rows.uptoBulk x.1 := by
  obtain ⟨y0, y1, y2, m, hx, hl, f0, f1, f2⟩ := trod_struct3 Tryz.underlying35 h
  rw [tcellsA] at hl
  obtain ⟨x0, x1, x2, rfl⟩ := three_ofT hl
  simp only [tcellsI, tcellsS, List.drop, List.take] at f0 f1 f2
  obtain ⟨a, e0, _, wa⟩ := DataW.trod_int Tryz.underlying3 f0
  obtain ⟨b, e1, _, wb⟩ := DataW.trod_int Tryz.underlying3 f1
  obtain ⟨s, e2, g2, _⟩ := DataW.trod_string Tryz.underlying9 f2
  simp only [List.cons.injEq, and_true] at e0 e1 e2
  subst e0 e1 e2
  have hu := Tryz.underlying35
  have hw1 := hw s.data.toList.length (by
    rw [hx]
    simp [DataW.weights, DataW.weightsEach, hu, g2])
  refine ⟨⟨a, b, s.data.toList⟩, rfl, bounds_i64 wb, ?_, ?_⟩
  · unfold reachBytes at hw1
    show s.data.toList.length ≤ _
    omega
  · rw [hx]
    simp only [Rows.uptoBulk, Rows.uptoBulkAll, g2]
    omega
theorem bulk_sum (D : Nat → DataW H) (q : Nat → Sct) : ∀ (l : List Nat), (∀ i ∈ l, (q i).s.length ≤ Rows.uptoBulk (D i)) → sumS (l.map q) ≤ Rows.uptoBulkAll (l.map D)
  | [], _ => Nat.zero_le _
  | j :: l, h => by
    have h1 := h j List.mem_cons_self
    have h2 := bulk_sum D q l (fun i hi => h i (List.mem_cons_of_mem _ hi))
    unfold sumS at h2 ⊢
    simp only [List.map_cons, Rows.uptoBulkAll, List.sum_cons]
    omega
theorem weights_memT {e : TypeId} {d : DataW H} : ∀ {l : List (DataW H)}, d ∈ l → ∀ m ∈ d.weights Tryz.prog e, m ∈ DataW.weightsAll Tryz.prog e l
  | a :: r, hd, m, hm => by
    rw [DataW.weightsAll]
    rcases List.mem_cons.1 hd with rfl | hd
    · exact List.mem_append_left _ hm
    · exact List.mem_append_right _ (weights_memT hd m hm)
theorem open_scts {n : Nat} {cs : List Value} {x : DataW H × List MemPlace} (h : DataW.trod enc Tryz.prog w base spare held n 22 cs = some x) (hw : ∀ m ∈ x.1.weights Tryz.prog 22, m ≤ reachBytes) :
    ∃ (ao : Option Addr) (cap : Nat) (Y : List Sct), cs = [.slice ao Y.length cap] ∧ (0 < Y.length → ∃ b off, ao = some ⟨b, off, none⟩ ∧ SctS w b off Y) ∧ sumS Y ≤ Rows.uptoBulk x.1 := by
  rcases open_slice Tryz.underlying22 h with ⟨h0, h1⟩ | ⟨a, len, cap, m, k, D, Pl, rfl, hb, hl, hm, hmm, rfl, hx⟩
  · exact ⟨none, 0, [], h0, fun h => absurd h (by simp), Nat.zero_le _⟩
  · have hlm : len ≤ m := by rw [hmm]; split <;> omega
    have hu := Tryz.underlying22
    have each : ∀ i, i < len → ∃ y : Sct, w.cells? base (a.add (i * 3)) 3 = some [.int .i64 y.k, .int .i64 y.n, .string (str y.s)] ∧ I6 y.n ∧ y.s.length ≤ 140737488351232 ∧ y.s.length + 1 ≤ Rows.uptoBulk (D i) := by
      intro i hi
      obtain ⟨cs', h1, h2⟩ := hx i (by omega)
      rw [tcellsA] at h1
      obtain ⟨y, rfl, h3⟩ := open_sct h2 (fun z hz => hw z (by
        simp only [DataW.weights, hu]
        refine List.mem_cons_of_mem _ (List.mem_append_left _ (weights_memT (List.mem_map.2 ⟨i, List.mem_range.2 hi, rfl⟩) z hz))))
      exact ⟨y, h1, h3⟩
    haveI : Inhabited Sct := ⟨⟨0, 0, []⟩⟩
    obtain ⟨q, hq⟩ := choose_lt each
    have hlen : ((List.range len).map q).length = len := by simp
    refine ⟨some a, cap, (List.range len).map q, by rw [hlen], ?_, ?_⟩
    · intro hpos
      rw [hlen] at hpos
      obtain ⟨_, _, hc0⟩ := World.cells?_some (hq 0 hpos).1
      have hs0 := World.cell?_spot (hc0 0 (by simp))
      have hspot : a.spot = none := by simpa [Addr.add] using hs0
      obtain ⟨b, off, spot⟩ := a
      simp only at hspot
      subst hspot
      refine ⟨b, off, rfl, fun j hj => ?_⟩
      rw [hlen] at hj
      obtain ⟨h1, h2, h3, _⟩ := hq j hj
      obtain ⟨_, _, hc⟩ := World.cells?_some h1
      have g0 := hc 0 (by simp)
      have g1 := hc 1 (by simp)
      have g2 := hc 2 (by simp)
      have e : ∀ i, (((⟨b, off, none⟩ : Addr).add (j * 3)).add i) = ⟨b, off + j * 3 + i, none⟩ := fun i => by rw [Addr.add_lit, Addr.add_lit]
      rw [e] at g0 g1 g2
      simp only [List.getElem_map, List.getElem_range]
      exact ⟨by simpa using g0, by simpa using g1, by simpa using g2, h2, h3⟩
    · have := bulk_sum D q (List.range len) (fun i hi => by have := (hq i (List.mem_range.1 hi)).2.2.2; omega)
      simp only [Rows.uptoBulk]
      omega
end
end Go.Proofs.YtjemnkijoiehmaaGreatDoor
end
