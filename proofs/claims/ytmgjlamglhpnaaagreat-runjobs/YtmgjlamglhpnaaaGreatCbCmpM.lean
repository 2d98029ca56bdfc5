/- Region 9 of turn: whether the vertex halted is laid. -/
import Derived.Test.YtmgjlamglhpnaaaGreatRnTurn5M
import Derived.Deep.Cut
import Derived.Deep.DeepCutAuto
import Derived.Test.YtmgjlamglhpnaaaGreatGrFind2M
import Derived.BigQuiet
import Derived.Shelf.SlSortCmp.NoneTotal
import Derived.Shelf.SlicesE.Clone
import Derived.Shelf.SlGeneric
import Derived.Test.YtmgjlamglhpnaaaGreatProg
import Derived.Test.YtmgjlamglhpnaaaGreatMuSetM
import Derived.Deep.RegionHeld
namespace Go.Proofs.YtmgjlamglhpnaaaGreat
set_option maxRecDepth 100000
open Go.RowKit
set_option maxHeartbeats 2000000 in
theorem turn_r9 {W0 : World} {A : Act} {p rb off ob : Nat} {id : Int} {c : Bool} {TQ : World → Prop} {Q : Exit → Act → World → Prop} (hsz : A.tmps.size = 75) (hA0 : A.eval (.tmp 0) = .pointer (some ⟨p, 0, none⟩)) (hA9 : A.eval (.tmp 9) = .pointer (some ⟨rb, off, none⟩)) (hA12 : A.eval (.tmp 12) = .pointer (some ⟨ob, 0, none⟩)) (hI : W0.cell? ⟨rb, off, none⟩ = some (.int .i64 id)) (hO : W0.cell? ⟨ob, 1, none⟩ = some (.bool c)) (hLay : ∀ W, Below W0.heap.size W0 W → Calls Tryz.prog 111 #[.pointer (some ⟨p, 0, none⟩), .int .i64 id, .bool c] W fun r w' => r = .returned (.tuple #[]) ∧ TQ w')
  (HK : ∀ X W, TQ W → Q .normal (puts A X [66, 67, 68, 69, 70, 71, 72, 73]) W) :
  Code.wp Tryz.prog ((Tryz.f85.body.bind (regionJ 9)).getD .skip) Q A W0 := by
 obtain ⟨ds, hds⟩ : ∃ ds, [66, 67, 68, 69, 70, 71, 72, 73] = ds := ⟨_, rfl⟩
 have hin : ∀ {X : Nat → Value} {k : Nat}, k ∈ [66, 67, 68, 69, 70, 71, 72, 73] → k < 75 → (puts A X ds).eval (.tmp k) = X k := fun hk hl => by rw [← hds]; exact eval_in hk (by rw [hsz]; exact hl)
 have hout : ∀ {X : Nat → Value} {k : Nat}, k ∉ [66, 67, 68, 69, 70, 71, 72, 73] → (puts A X ds).eval (.tmp k) = A.eval (.tmp k) := fun hk => by rw [← hds]; exact eval_out hk
 have g0 : ds.getD 0 0 = 66 := by rw [← hds]; rfl
 have g1 : ds.getD 1 0 = 67 := by rw [← hds]; rfl
 have g2 : ds.getD 2 0 = 68 := by rw [← hds]; rfl
 have g3 : ds.getD 3 0 = 69 := by rw [← hds]; rfl
 have g4 : ds.getD 4 0 = 70 := by rw [← hds]; rfl
 have g5 : ds.getD 5 0 = 71 := by rw [← hds]; rfl
 have g6 : ds.getD 6 0 = 72 := by rw [← hds]; rfl
 have g7 : ds.getD 7 0 = 73 := by rw [← hds]; rfl
 obtain ⟨R, hR⟩ : ∃ R : World → World → Prop, ∀ W W', R W W' = (True) := ⟨fun W W' => True, fun _ _ => rfl⟩
 obtain ⟨V, hV, e0, e1, e2, e3, e4, e5, e6, e7⟩ : ∃ V : Nat → Value → World → Prop, (∀ i v W W', V i v W → R W W' → V i v W') ∧ (∀ v W, V 0 v W = (v = .pointer (some ⟨p, 0, none⟩))) ∧ (∀ v W, V 1 v W = (v = .pointer (some ⟨rb, off, none⟩))) ∧ (∀ v W, V 2 v W = (v = .pointer (some ⟨rb, off, none⟩))) ∧ (∀ v W, V 3 v W = (v = .pointer (some ⟨rb, off, none⟩))) ∧ (∀ v W, V 4 v W = (v = .int .i64 id)) ∧ (∀ v W, V 5 v W = (v = .pointer (some ⟨ob, 1, none⟩))) ∧ (∀ v W, V 6 v W = (v = .bool c)) ∧ (∀ v W, V 7 v W = (True)) := by
  refine ⟨fun i v W => match i with
   | 0 => v = .pointer (some ⟨p, 0, none⟩)
   | 1 => v = .pointer (some ⟨rb, off, none⟩)
   | 2 => v = .pointer (some ⟨rb, off, none⟩)
   | 3 => v = .pointer (some ⟨rb, off, none⟩)
   | 4 => v = .int .i64 id
   | 5 => v = .pointer (some ⟨ob, 1, none⟩)
   | 6 => v = .bool c
   | 7 => True
   | _ => True, ?_, fun _ _ => rfl, fun _ _ => rfl, fun _ _ => rfl, fun _ _ => rfl, fun _ _ => rfl, fun _ _ => rfl, fun _ _ => rfl, fun _ _ => rfl⟩
  intro i v W W' h hb
  rw [hR] at hb
  match i, h with
  | 0, h => exact h
  | 1, h => exact h
  | 2, h => exact h
  | 3, h => exact h
  | 4, h => exact h
  | 5, h => exact h
  | 6, h => exact h
  | 7, h => exact h
  | _ + 8, _ => trivial
 obtain ⟨T, hTC, hTS, t0, t1⟩ : ∃ T : Nat → (Nat → Value) → World → Prop, (∀ m X W, T m X W → (True)) ∧ (∀ m X X' W, (∀ i, i < 8 → ([none, none, none, none, none, none, none, some 0] : List (Option Nat)).getD i none ≠ none → X (ds.getD i 0) = X' (ds.getD i 0)) → T m X W → T m X' W) ∧ (∀ X W, T 0 X W = (Below W0.heap.size W0 W)) ∧ (∀ X W, T 1 X W = (TQ W)) := by
  refine ⟨fun m X W => match m with
   | 0 => Below W0.heap.size W0 W
   | 1 => TQ W
   | _ => False, ?_, ?_, fun _ _ => rfl, fun _ _ => rfl⟩
  ·intro m X W h
   match m, h with
   | 0, h => exact trivial
   | 1, h => exact trivial
  ·intro m X X' W he h
   match m, h with
   | 0, h => exact h
   | 1, h => exact h
 conv => arg 2; whnf
 refine wp_region_T ds [none, none, none, none, none, none, none, some 0] 1 V T R (by kernel_rfl) (by kernel_rfl) (by rw [hsz]; decide) (by rw [← hds]; kernel_rfl) (by kernel_rfl) hV hTS ?_ ?_ ?_
 ·rw [t0]; exact below_drewN _ 1
 ·refine ⟨⟨?_, ?_⟩, ⟨?_, ?_⟩, ⟨?_, ?_⟩, ⟨?_, ?_⟩, ⟨?_, ?_⟩, ⟨?_, ?_⟩, ⟨?_, ?_⟩, ⟨?_, ?_⟩, trivial⟩
  ·intro _ X W m hTm hw hd hu
   have hC := hTC _ _ _ hTm
   have h0 := hout (X := X) (k := 0) (by decide)
   rw [hA0] at h0
   refine op_value (v := .pointer (some ⟨p, 0, none⟩)) (w' := W) ?_ ⟨_, rfl, by rw [e0], hTm, by rw [hR]; trivial⟩
   generalize (puts A X ds).eval = ρ at h0 ⊢
   go_simp
  ·intro m h; have h' : (none : Option Nat) = some m := h; cases h'
  ·intro _ X W m hTm hw hd hu
   have hC := hTC _ _ _ hTm
   have h0 := hout (X := X) (k := 9) (by decide)
   rw [hA9] at h0
   refine op_value (v := .pointer (some ⟨rb, off, none⟩)) (w' := W) ?_ ⟨_, rfl, by rw [e1], hTm, by rw [hR]; trivial⟩
   generalize (puts A X ds).eval = ρ at h0 ⊢
   go_simp
  ·intro m h; have h' : (none : Option Nat) = some m := h; cases h'
  ·intro _ X W m hTm hw hd hu
   have hC := hTC _ _ _ hTm
   have d0 := hd 1 (by kernel_rfl)
   rw [e1, g1] at d0
   have h0 := (hin (X := X) (k := 67) (by decide) (by decide)).trans d0
   refine op_value (v := .pointer (some ⟨rb, off, none⟩)) (w' := W) ?_ ⟨_, rfl, by rw [e2], hTm, by rw [hR]; trivial⟩
   generalize (puts A X ds).eval = ρ at h0 ⊢
   go_simp
  ·intro m h; have h' : (none : Option Nat) = some m := h; cases h'
  ·intro _ X W m hTm hw hd hu
   have hC := hTC _ _ _ hTm
   have d0 := hd 2 (by kernel_rfl)
   rw [e2, g2] at d0
   have h0 := (hin (X := X) (k := 68) (by decide) (by decide)).trans d0
   refine op_value (v := .pointer (some ⟨rb, off, none⟩)) (w' := W) ?_ ⟨_, rfl, by rw [e3], hTm, by rw [hR]; trivial⟩
   generalize (puts A X ds).eval = ρ at h0 ⊢
   go_simp
  ·intro m h; have h' : (none : Option Nat) = some m := h; cases h'
  ·intro _ X W m hTm hw hd hu
   have hC := hTC _ _ _ hTm
   have d0 := hd 3 (by kernel_rfl)
   rw [e3, g3] at d0
   have h0 := (hin (X := X) (k := 69) (by decide) (by decide)).trans d0
   have hz := hw 7 0 (by decide) rfl (by kernel_rfl)
   obtain rfl : m = 0 := by omega
   have hT0 := hTm
   rw [t0] at hT0
   have c0 := (hT0.cell (p := ⟨rb, off, none⟩) (lt_cell hI)).trans hI
   refine op_value (v := .int .i64 id) (w' := W) ?_ ⟨_, rfl, by rw [e4], hTm, by rw [hR]; trivial⟩
   generalize (puts A X ds).eval = ρ at h0 ⊢
   go_simp
  ·intro m h; have h' : (none : Option Nat) = some m := h; cases h'
  ·intro _ X W m hTm hw hd hu
   have hC := hTC _ _ _ hTm
   have h0 := hout (X := X) (k := 12) (by decide)
   rw [hA12] at h0
   refine op_value (v := .pointer (some ⟨ob, 1, none⟩)) (w' := W) ?_ ⟨_, rfl, by rw [e5], hTm, by rw [hR]; trivial⟩
   generalize (puts A X ds).eval = ρ at h0 ⊢
   go_simp
  ·intro m h; have h' : (none : Option Nat) = some m := h; cases h'
  ·intro _ X W m hTm hw hd hu
   have hC := hTC _ _ _ hTm
   have d0 := hd 5 (by kernel_rfl)
   rw [e5, g5] at d0
   have h0 := (hin (X := X) (k := 71) (by decide) (by decide)).trans d0
   have hz := hw 7 0 (by decide) rfl (by kernel_rfl)
   obtain rfl : m = 0 := by omega
   have hT0 := hTm
   rw [t0] at hT0
   have c0 := (hT0.cell (p := ⟨ob, 1, none⟩) (lt_cell hO)).trans hO
   refine op_value (v := .bool c) (w' := W) ?_ ⟨_, rfl, by rw [e6], hTm, by rw [hR]; trivial⟩
   generalize (puts A X ds).eval = ρ at h0 ⊢
   go_simp
  ·intro m h; have h' : (none : Option Nat) = some m := h; cases h'
  ·intro h; have h' : (some 0 : Option Nat) = none := h; cases h'
  ·intro m hm0 X W hTm hd hu
   have hm1 : some 0 = some m := hm0
   cases hm1
   have hC := hTC _ _ _ hTm
   have d0 := hd 0 (by kernel_rfl)
   rw [e0, g0] at d0
   have h0 := (hin (X := X) (k := 66) (by decide) (by decide)).trans d0
   have d1 := hd 4 (by kernel_rfl)
   rw [e4, g4] at d1
   have h1 := (hin (X := X) (k := 70) (by decide) (by decide)).trans d1
   have d2 := hd 6 (by kernel_rfl)
   rw [e6, g6] at d2
   have h2 := (hin (X := X) (k := 72) (by decide) (by decide)).trans d2
   have hf : (puts A X ds).eval (.func 111) = .func (.func 111) #[] #[] := rfl
   rw [t0] at hTm
   refine op_call (f := 111) (vs := #[.pointer (some ⟨p, 0, none⟩), .int .i64 id, .bool c]) ?_ ?_
   ·generalize (puts A X ds).eval = ρ at h0 h1 h2 hf ⊢
    go_simp
   ·refine (hLay W hTm).mono ?_
    rintro r W' ⟨rfl, hq⟩
    exact ⟨_, rfl, _, rfl, by rw [e7]; trivial, by rw [t1]; exact hq, by rw [hR]; trivial⟩
 ·intro X W hall hTm
  have r0 := hall 0 (by decide)
  rw [e0, g0] at r0
  have r1 := hall 1 (by decide)
  rw [e1, g1] at r1
  have r2 := hall 2 (by decide)
  rw [e2, g2] at r2
  have r3 := hall 3 (by decide)
  rw [e3, g3] at r3
  have r4 := hall 4 (by decide)
  rw [e4, g4] at r4
  have r5 := hall 5 (by decide)
  rw [e5, g5] at r5
  have r6 := hall 6 (by decide)
  rw [e6, g6] at r6
  rw [t1] at hTm
  have := HK X W hTm
  rw [hds] at this
  exact this
section
open Go.RowKit
structure CmpAt (w : World) (lb : Value) (n : Nat) (K : Nat → Nat → Int) : Prop where
 call : ∀ (m i j : Nat), i < n → j < n → Calls Tryz.prog 105 #[.int .i64 i, .int .i64 j, lb] (w.drewN m) fun r w' => r = .returned (.int .i64 (K i j)) ∧ ∃ m', w' = (w.drewN m).drewN m'
 le : ∀ i j, j ≤ i → i < n → ¬ K i j < 0
def PlAt (w : World) (b n : Nat) : Prop := ∀ q, q < n → w.cell? ⟨b, q, none⟩ = some (.int .i64 q)
set_option maxHeartbeats 1000000 in
theorem by1_any {w : World} {P : Nat → Prop} {ao : Option Addr} {G : List Vx} {cap lb : Nat} (hL : w.cell? ⟨lb, 0, none⟩ = some (.slice ao G.length cap)) (h : VxAt w P ao G) (hl : G.length ≤ 1073741824) (i j : Nat) (hi : i < G.length) (hj : j < G.length) :
  Calls Tryz.prog 105 #[.int .i64 i, .int .i64 j, .pointer (some ⟨lb, 0, none⟩)] w fun r w' => r = .returned (.int .i64 (cmpI G[i].id G[j].id)) ∧ ∃ m, w' = w.drewN m := by
 obtain ⟨b, off, rfl, hP, hc⟩ := h (by omega)
 obtain ⟨_, _, c0, -⟩ := hc i hi
 obtain ⟨_, _, d0, -⟩ := hc j hj
 generalize G[i].id = x at c0
 generalize G[j].id = y at d0
 have hi' : (i : Int) < (G.length : Int) := by omega
 have hj' : (j : Int) < (G.length : Int) := by omega
 clear hc hi hj h
 generalize G.length = n at *
 go_enter Tryz.func105, Tryz.ntmps105
 go_wp2
 go_quiet (first | (go_at_call 106; exact Calls.quiet_of_same (compare_any _ _ _)))
 go_wp2
 go_ret
 exact ⟨rfl, _, rfl⟩
theorem CmpAt.drewN {w : World} {lb : Value} {n : Nat} {K : Nat → Nat → Int} (h : CmpAt w lb n K) (q : Nat) : CmpAt (w.drewN q) lb n K := ⟨fun m i j hi hj => by rw [World.drewN_drewN]; exact h.call _ i j hi hj, h.le⟩
set_option maxHeartbeats 1000000 in
theorem insS_any {w : World} {lb : Value} {D n cap : Nat} {K : Nat → Nat → Int} (hD : PlAt w D n) (hC : CmpAt w lb n K) (hn : n ≤ 1073741824) (a b : Nat) (hab : a ≤ b) (hb : b ≤ n) :
  Calls Tryz.prog 145 #[.slice (some ⟨D, 0, none⟩) n cap, .int .i64 a, .int .i64 b, .func (.func 105) #[] #[lb]] w fun r w' => r = .returned (.tuple #[]) ∧ ∃ m, w' = w.drewN m := by
 have HD : Hid (PlAt w D n) := hD
 have HC : Hid (CmpAt w lb n K) := hC
 clear hD hC
 go_enter Tryz.func145, Tryz.ntmps145
 go_wp2
 go_loopw [8] (fun u wr => ∃ (i m : Nat), a < i ∧ (i ≤ b ∨ i = a + 1) ∧ u = .int .i64 i ∧ wr = w.drewN m) (fun u _ => b + 1 - (intOf u).toNat)
 case atStart => exact ⟨a + 1, 0, by omega, .inr rfl, by go_num, rfl⟩
 case round =>
  obtain ⟨i, m, hi, hib, rfl, hw⟩ := hrel
  have HDr : Hid (PlAt wr D n) := by rw [hw]; exact HD.out
  have HCr : Hid (CmpAt wr lb n K) := by rw [hw]; exact HC.out.drewN m
  have HW : Hid _ := hw
  clear hw HD HC
  by_cases hlt : i < b
  ·obtain ⟨i', rfl⟩ : ∃ i', i = i' + 1 := ⟨i - 1, by omega⟩
   have c0 := HDr.out (i' + 1) (by omega)
   have c1 := HDr.out i' (by omega)
   have hk := HCr.out.le (i' + 1) i' (by omega) (by omega)
   have HK : Hid (∀ m, Calls Tryz.prog 105 #[.int .i64 ((i' + 1 : Nat) : Int), .int .i64 i', lb] (wr.drewN m) fun r w' => r = .returned (.int .i64 (K (i' + 1) i')) ∧ ∃ m', w' = (wr.drewN m).drewN m') := fun m => HCr.out.call m (i' + 1) i' (by omega) (by omega)
   generalize K (i' + 1) i' = k at HK hk
   have hg : (a : Int) < (i' : Int) + 1 := by omega
   have hn1 : (i' : Int) + 1 < (n : Int) := by omega
   have hn2 : (i' : Int) < (n : Int) := by omega
   have hk0 : decide (k < 0) = false := by simpa using hk
   go_wp2
   refine wp_loop_rounds 1 ?_
   rw [rounds_succ]
   go_wp2
   go_quiet (first | (go_at_call 105; exact Calls.quiet_of (HK.out _)))
   go_wp2
   go_roundw
   case rel => exact ⟨i' + 2, _, by omega, by omega, by go_num, by rw [HW.out, World.drewN_drewN]⟩
   case measure => simp [intOf]; omega
  ·go_wp2
   go_end0
   exact ⟨rfl, m, HW.out⟩
end
section
open Go.RowKit
def SymC (D n cap : Nat) (lb : Value) (K : Nat → Nat → Int) (d : Nat) : Prop := ∀ (a m b : Nat), b - a ≤ d → a < m → m < b → b ≤ n → ∀ w, PlAt w D n → CmpAt w lb n K →
  Calls Tryz.prog 146 #[.slice (some ⟨D, 0, none⟩) n cap, .int .i64 a, .int .i64 m, .int .i64 b, .func (.func 105) #[] #[lb]] w fun r w' => r = .returned (.tuple #[]) ∧ ∃ m, w' = w.drewN m
set_option maxHeartbeats 2000000 in
theorem sym_one {D n cap : Nat} {lb : Value} {K : Nat → Nat → Int} (hn : n ≤ 1073741824) (a m b : Nat) (hm : m = a + 1) (hmb : m < b) (hb : b ≤ n) (w : World) (hD : PlAt w D n) (hC : CmpAt w lb n K) :
  Calls Tryz.prog 146 #[.slice (some ⟨D, 0, none⟩) n cap, .int .i64 a, .int .i64 m, .int .i64 b, .func (.func 105) #[] #[lb]] w fun r w' => r = .returned (.tuple #[]) ∧ ∃ m, w' = w.drewN m := by
 have HD : Hid (PlAt w D n) := hD
 have HC : Hid (CmpAt w lb n K) := hC
 have HM : Hid _ := hm
 have h1 : (m : Int) - (a : Int) = 1 := by omega
 have h2 : decide ((a : Int) < (m : Int) - 1) = false := by simp; omega
 clear hD hC hm
 go_enter Tryz.func146, Tryz.ntmps146
 go_wp2
 go_loopw [10, 11, 12] (fun u v _ wr => ∃ (j q : Nat), m ≤ j ∧ j ≤ b ∧ u = .int .i64 m ∧ v = .int .i64 j ∧ wr = w.drewN q) (fun _ v _ _ => (intOf v).toNat)
 case atStart => exact ⟨b, 0, by omega, Nat.le_refl _, rfl, rfl, rfl⟩
 case round =>
  obtain ⟨j, q, hmj, hjb, rfl, rfl, hw⟩ := hrel
  have HDr : Hid (PlAt wr D n) := by rw [hw]; exact HD.out
  have HCr : Hid (CmpAt wr lb n K) := by rw [hw]; exact HC.out.drewN q
  have HW : Hid _ := hw
  clear hw HD HC
  by_cases hlt : m < j
  ·obtain ⟨c, HM2⟩ : ∃ c : Nat, Hid (c = (m + j) / 2) := ⟨_, rfl⟩
   have hdv : ((m : Int) + (j : Int)) / 2 = c := by have := HM2.out; omega
   have hcm : m ≤ c := by have := HM2.out; omega
   have hcj : c < j := by have := HM2.out; omega
   have hcn : (c : Int) < (n : Int) := by omega
   have han : (a : Int) < (n : Int) := by have := HM.out; omega
   have c0 := HDr.out c (by omega)
   have c1 := HDr.out a (by omega)
   have hk := HCr.out.le c a (by have := HM.out; omega) (by omega)
   have HK : Hid (∀ m, Calls Tryz.prog 105 #[.int .i64 c, .int .i64 a, lb] (wr.drewN m) fun r w' => r = .returned (.int .i64 (K c a)) ∧ ∃ m', w' = (wr.drewN m).drewN m') := fun m => HCr.out.call m c a (by omega) (by omega)
   generalize K c a = k at HK hk
   have hk0 : decide (k < 0) = false := by simpa using hk
   go_wp2
   go_quiet (first | (go_at_call 105; exact Calls.quiet_of (HK.out _)))
   go_wp2
   go_roundw
   case rel => exact ⟨c, _, hcm, by omega, rfl, rfl, by rw [HW.out, World.drewN_drewN]⟩
   case measure => simp [intOf]; omega
  ·go_wp2
   refine wp_loop_rounds 1 ?_
   rw [rounds_succ]
   go_wp2
   refine bodyPost_ret (v := .tuple #[]) (results_none Tryz.results146 _ _ _) rfl ?_
   exact ⟨rfl, q, HW.out⟩
set_option maxHeartbeats 2000000 in
theorem sym_last {D n cap : Nat} {lb : Value} {K : Nat → Nat → Int} (hn : n ≤ 1073741824) (a m b : Nat) (hm : ¬ m = a + 1) (ham : a < m) (hmb : b = m + 1) (hb : b ≤ n) (w : World) (hD : PlAt w D n) (hC : CmpAt w lb n K) :
  Calls Tryz.prog 146 #[.slice (some ⟨D, 0, none⟩) n cap, .int .i64 a, .int .i64 m, .int .i64 b, .func (.func 105) #[] #[lb]] w fun r w' => r = .returned (.tuple #[]) ∧ ∃ m, w' = w.drewN m := by
 have HD : Hid (PlAt w D n) := hD
 have HC : Hid (CmpAt w lb n K) := hC
 have HM : Hid _ := hmb
 have h1 : ((m : Int) - (a : Int) == 1) = false := by simp; omega
 have h2 : (b : Int) - (m : Int) = 1 := by omega
 clear hD hC hm hmb
 go_enter Tryz.func146, Tryz.ntmps146
 go_wp2
 go_loopw [14, 15, 16] (fun u v _ wr => ∃ (j q : Nat), a ≤ j ∧ j ≤ m ∧ u = .int .i64 j ∧ v = .int .i64 m ∧ wr = w.drewN q) (fun u _ _ _ => m - (intOf u).toNat)
 case atStart => exact ⟨a, 0, Nat.le_refl _, by omega, rfl, rfl, rfl⟩
 case round =>
  obtain ⟨j, q, haj, hjm, rfl, rfl, hw⟩ := hrel
  have HDr : Hid (PlAt wr D n) := by rw [hw]; exact HD.out
  have HCr : Hid (CmpAt wr lb n K) := by rw [hw]; exact HC.out.drewN q
  have HW : Hid _ := hw
  clear hw HD HC
  by_cases hlt : j < m
  ·obtain ⟨c, HM2⟩ : ∃ c : Nat, Hid (c = (j + m) / 2) := ⟨_, rfl⟩
   have hdv : ((j : Int) + (m : Int)) / 2 = c := by have := HM2.out; omega
   have hcm : c < m := by have := HM2.out; omega
   have hcj : j ≤ c := by have := HM2.out; omega
   have hcn : (c : Int) < (n : Int) := by have := HM.out; omega
   have hmn : (m : Int) < (n : Int) := by have := HM.out; omega
   have c0 := HDr.out c (by omega)
   have c1 := HDr.out m (by omega)
   have hk := HCr.out.le m c (by omega) (by omega)
   have HK : Hid (∀ q, Calls Tryz.prog 105 #[.int .i64 m, .int .i64 c, lb] (wr.drewN q) fun r w' => r = .returned (.int .i64 (K m c)) ∧ ∃ m', w' = (wr.drewN q).drewN m') := fun q => HCr.out.call q m c (by omega) (by omega)
   generalize K m c = k at HK hk
   have hk0 : decide (k < 0) = false := by simpa using hk
   go_wp2
   go_quiet (first | (go_at_call 105; exact Calls.quiet_of (HK.out _)))
   go_wp2
   go_roundw
   case rel => exact ⟨c + 1, _, by omega, by omega, by go_num, rfl, by rw [HW.out, World.drewN_drewN]⟩
   case measure => simp [intOf]; omega
  ·obtain rfl : j = m := by omega
   go_wp2
   refine wp_loop_rounds 1 ?_
   rw [rounds_succ]
   go_wp2
   refine bodyPost_ret (v := .tuple #[]) (results_none Tryz.results146 _ _ _) rfl ?_
   exact ⟨rfl, q, HW.out⟩
set_option maxHeartbeats 4000000 in
theorem sym_hi {D n cap : Nat} {lb : Value} {K : Nat → Nat → Int} (hn : n ≤ 1073741824) (d a m b : Nat) (ih : SymC D n cap lb K d) (hd : b - a ≤ d + 1) (hm1 : a + 2 ≤ m) (hm2 : m + 2 ≤ b) (hb : b ≤ n) (mid : Nat) (hmid : mid = (a + b) / 2) (hlt : mid < m) (w : World) (hD : PlAt w D n) (hC : CmpAt w lb n K) :
  Calls Tryz.prog 146 #[.slice (some ⟨D, 0, none⟩) n cap, .int .i64 a, .int .i64 m, .int .i64 b, .func (.func 105) #[] #[lb]] w fun r w' => r = .returned (.tuple #[]) ∧ ∃ m, w' = w.drewN m := by
 have HD : Hid (PlAt w D n) := hD
 have HC : Hid (CmpAt w lb n K) := hC
 have HI : Hid (∀ w, PlAt w D n → CmpAt w lb n K → Calls Tryz.prog 146 #[.slice (some ⟨D, 0, none⟩) n cap, .int .i64 mid, .int .i64 m, .int .i64 b, .func (.func 105) #[] #[lb]] w fun r w' => r = .returned (.tuple #[]) ∧ ∃ m, w' = w.drewN m) := fun w h1 h2 => ih mid m b (by omega) (by omega) (by omega) hb w h1 h2
 have h1 : ((m : Int) - (a : Int) == 1) = false := by simp; omega
 have h2 : ((b : Int) - (m : Int) == 1) = false := by simp; omega
 have hdv : ((a : Int) + (b : Int)) / 2 = mid := by omega
 obtain ⟨st, HS⟩ : ∃ st : Nat, Hid (st + b = mid + m) := ⟨mid + m - b, by show _ = _; omega⟩
 have hst : (mid : Int) + (m : Int) - (b : Int) = st := by have := HS.out; omega
 have hsm : st ≤ mid := by have := HS.out; omega
 have hab : a < mid := by omega
 have hmb : mid < b := by omega
 have e1 : (mid : Int) + (m : Int) - (mid : Int) = m := by omega
 clear hD hC ih hmid
 go_enter Tryz.func146, Tryz.ntmps146
 go_wp2
 go_loopw [20, 21, 23] (fun u v _ wr => ∃ (j q : Nat), st ≤ j ∧ j ≤ mid ∧ u = .int .i64 j ∧ v = .int .i64 mid ∧ wr = w.drewN q) (fun u _ _ _ => mid - (intOf u).toNat)
 case atStart => exact ⟨st, 0, Nat.le_refl _, hsm, rfl, rfl, rfl⟩
 case round =>
  obtain ⟨j, q, haj, hjm, rfl, rfl, hw⟩ := hrel
  have HDr : Hid (PlAt wr D n) := by rw [hw]; exact HD.out
  have HCr : Hid (CmpAt wr lb n K) := by rw [hw]; exact HC.out.drewN q
  have HW : Hid _ := hw
  clear hw HD HC
  by_cases hlt : j < mid
  ·obtain ⟨c, HM2⟩ : ∃ c : Nat, Hid (c = (j + mid) / 2) := ⟨_, rfl⟩
   have hdv2 : ((j : Int) + (mid : Int)) / 2 = c := by have := HM2.out; omega
   have hcm : c < mid := by have := HM2.out; omega
   have hcj : j ≤ c := by have := HM2.out; omega
   obtain ⟨p, HP⟩ : ∃ p : Nat, Hid (p + c + 1 = mid + m) := ⟨mid + m - 1 - c, by show _ = _; omega⟩
   have hp : (mid : Int) + (m : Int) - 1 - (c : Int) = p := by have := HP.out; omega
   have hpb : p < b := by have := HP.out; have := HS.out; omega
   have hpc : c ≤ p := by have := HP.out; omega
   have hcn : (c : Int) < (n : Int) := by omega
   have hpn : (p : Int) < (n : Int) := by omega
   have c0 := HDr.out c (by omega)
   have c1 := HDr.out p (by omega)
   have hk := HCr.out.le p c (by omega) (by omega)
   have HK : Hid (∀ q, Calls Tryz.prog 105 #[.int .i64 p, .int .i64 c, lb] (wr.drewN q) fun r w' => r = .returned (.int .i64 (K p c)) ∧ ∃ m', w' = (wr.drewN q).drewN m') := fun q => HCr.out.call q p c (by omega) (by omega)
   generalize K p c = k at HK hk
   have hk0 : decide (k < 0) = false := by simpa using hk
   go_wp2
   go_quiet (first | (go_at_call 105; exact Calls.quiet_of (HK.out _)))
   go_wp2
   go_roundw
   case rel => exact ⟨c + 1, _, by omega, by omega, by go_num, rfl, by rw [HW.out, World.drewN_drewN]⟩
   case measure => simp [intOf]; omega
  ·obtain rfl : j = mid := by omega
   go_wp2_with (go_at_call 146; refine (HI.out _ HDr.out HCr.out).mono ?_; rintro r w1 ⟨rfl, q1, rfl⟩)
   go_end0
   exact ⟨rfl, _, by rw [HW.out, World.drewN_drewN]⟩
set_option maxHeartbeats 4000000 in
theorem sym_lo {D n cap : Nat} {lb : Value} {K : Nat → Nat → Int} (hn : n ≤ 1073741824) (d a m b : Nat) (ih : SymC D n cap lb K d) (hd : b - a ≤ d + 1) (hm1 : a + 2 ≤ m) (hm2 : m + 2 ≤ b) (hb : b ≤ n) (mid : Nat) (hmid : mid = (a + b) / 2) (hlt : m ≤ mid) (w : World) (hD : PlAt w D n) (hC : CmpAt w lb n K) :
  Calls Tryz.prog 146 #[.slice (some ⟨D, 0, none⟩) n cap, .int .i64 a, .int .i64 m, .int .i64 b, .func (.func 105) #[] #[lb]] w fun r w' => r = .returned (.tuple #[]) ∧ ∃ m, w' = w.drewN m := by
 have HD : Hid (PlAt w D n) := hD
 have HC : Hid (CmpAt w lb n K) := hC
 have HI : Hid (m < mid → ∀ w, PlAt w D n → CmpAt w lb n K → Calls Tryz.prog 146 #[.slice (some ⟨D, 0, none⟩) n cap, .int .i64 a, .int .i64 m, .int .i64 mid, .func (.func 105) #[] #[lb]] w fun r w' => r = .returned (.tuple #[]) ∧ ∃ m, w' = w.drewN m) := fun h0 w h1 h2 => ih a m mid (by omega) (by omega) (by omega) (by omega) w h1 h2
 have h1 : ((m : Int) - (a : Int) == 1) = false := by simp; omega
 have h2 : ((b : Int) - (m : Int) == 1) = false := by simp; omega
 have hdv : ((a : Int) + (b : Int)) / 2 = mid := by omega
 have hab : a < mid := by omega
 have hmb : mid < b := by omega
 have e1 : (mid : Int) + (m : Int) - (m : Int) = mid := by omega
 have h3 : ¬ mid < m := by omega
 have h4 : decide (mid < m) = false := by simp; omega
 have HMd : Hid (mid + mid ≤ a + b) := by show _ ≤ _; omega
 clear hD hC ih hmid
 go_enter Tryz.func146, Tryz.ntmps146
 go_wp2
 go_loopw [20, 21, 23] (fun u v _ wr => ∃ (j q : Nat), a ≤ j ∧ j ≤ m ∧ u = .int .i64 j ∧ v = .int .i64 m ∧ wr = w.drewN q) (fun u _ _ _ => m - (intOf u).toNat)
 case atStart => exact ⟨a, 0, Nat.le_refl _, by omega, rfl, rfl, rfl⟩
 case round =>
  obtain ⟨j, q, haj, hjm, rfl, rfl, hw⟩ := hrel
  have HDr : Hid (PlAt wr D n) := by rw [hw]; exact HD.out
  have HCr : Hid (CmpAt wr lb n K) := by rw [hw]; exact HC.out.drewN q
  have HW : Hid _ := hw
  clear hw HD HC
  by_cases hjlt : j < m
  ·obtain ⟨c, HM2⟩ : ∃ c : Nat, Hid (c = (j + m) / 2) := ⟨_, rfl⟩
   have hdv2 : ((j : Int) + (m : Int)) / 2 = c := by have := HM2.out; omega
   have hcm : c < m := by have := HM2.out; omega
   have hcj : j ≤ c := by have := HM2.out; omega
   obtain ⟨p, HP⟩ : ∃ p : Nat, Hid (p + c + 1 = mid + m) := ⟨mid + m - 1 - c, by show _ = _; omega⟩
   have hp : (mid : Int) + (m : Int) - 1 - (c : Int) = p := by have := HP.out; omega
   have hpb : p < b := by have := HP.out; have := HMd.out; omega
   have hpc : c ≤ p := by have := HP.out; omega
   have hcn : (c : Int) < (n : Int) := by omega
   have hpn : (p : Int) < (n : Int) := by omega
   have c0 := HDr.out c (by omega)
   have c1 := HDr.out p (by omega)
   have hk := HCr.out.le p c (by omega) (by omega)
   have HK : Hid (∀ q, Calls Tryz.prog 105 #[.int .i64 p, .int .i64 c, lb] (wr.drewN q) fun r w' => r = .returned (.int .i64 (K p c)) ∧ ∃ m', w' = (wr.drewN q).drewN m') := fun q => HCr.out.call q p c (by omega) (by omega)
   generalize K p c = k at HK hk
   have hk0 : decide (k < 0) = false := by simpa using hk
   go_wp2
   go_quiet (first | (go_at_call 105; exact Calls.quiet_of (HK.out _)))
   go_wp2
   go_roundw
   case rel => exact ⟨c + 1, _, by omega, by omega, by go_num, rfl, by rw [HW.out, World.drewN_drewN]⟩
   case measure => simp [intOf]; omega
  ·obtain rfl : j = m := by omega
   by_cases hj : j < mid
   ·have HI' : Hid _ := HI.out hj
    go_wp2_with (go_at_call 146; refine (HI'.out _ HDr.out HCr.out).mono ?_; rintro r w1 ⟨rfl, q1, rfl⟩)
    go_end0
    exact ⟨rfl, _, by rw [HW.out, World.drewN_drewN]⟩
   ·have e2 : decide ((j : Int) < (mid : Int)) = false := by simp; omega
    go_wp2
    go_end0
    exact ⟨rfl, q, HW.out⟩
theorem sym_any {D n cap : Nat} {lb : Value} {K : Nat → Nat → Int} (hn : n ≤ 1073741824) : ∀ d, SymC D n cap lb K d
 | 0 => fun a m b h1 h2 h3 _ _ _ _ => by omega
 | d + 1 => fun a m b h1 h2 h3 hb w hD hC => by
  by_cases e1 : m = a + 1
  ·exact sym_one hn a m b e1 h3 hb w hD hC
  ·by_cases e2 : b = m + 1
   ·exact sym_last hn a m b e1 h2 e2 hb w hD hC
   ·by_cases e3 : (a + b) / 2 < m
    ·exact sym_hi hn d a m b (sym_any hn d) h1 (by omega) (by omega) hb _ rfl e3 w hD hC
    ·exact sym_lo hn d a m b (sym_any hn d) h1 (by omega) (by omega) hb _ rfl (by omega) w hD hC
end
section
open Go.RowKit
set_option maxHeartbeats 2000000 in
theorem stable_any {w : World} {lb : Value} {D n cap : Nat} {K : Nat → Nat → Int} (hD : PlAt w D n) (hC : CmpAt w lb n K) (hn : n ≤ 1073741824) :
  Calls Tryz.prog 123 #[.slice (some ⟨D, 0, none⟩) n cap, .int .i64 n, .func (.func 105) #[] #[lb]] w fun r w' => r = .returned (.tuple #[]) ∧ ∃ m, w' = w.drewN m := by
 have HD : Hid (PlAt w D n) := hD
 have HC : Hid (CmpAt w lb n K) := hC
 clear hD hC
 go_enter Tryz.func123, Tryz.ntmps123
 go_wp2
 go_loopw [7, 8] (fun u v wr => ∃ (a q : Nat), a ≤ n ∧ u = .int .i64 a ∧ v = .int .i64 ((a + 20 : Nat) : Int) ∧ wr = w.drewN q) (fun u _ _ => n - (intOf u).toNat)
 case atStart => exact ⟨0, 0, Nat.zero_le _, rfl, rfl, rfl⟩
 case round =>
  obtain ⟨a, q, han, rfl, rfl, hw⟩ := hrel
  have HDr : Hid (PlAt wr D n) := by rw [hw]; exact HD.out
  have HCr : Hid (CmpAt wr lb n K) := by rw [hw]; exact HC.out.drewN q
  have HW : Hid _ := hw
  clear hw
  by_cases hlt : a + 20 ≤ n
  ·go_wp2_with (go_at_call 145; refine (insS_any HDr.out HCr.out hn a (a + 20) (by omega) hlt).mono ?_; rintro r w1 ⟨rfl, q1, rfl⟩)
   go_roundw
   case rel => exact ⟨a + 20, _, hlt, rfl, by go_num, by rw [HW.out, World.drewN_drewN]⟩
   case measure => simp [intOf]; omega
  ·go_wp2_with (go_at_call 145; refine (insS_any HDr.out HCr.out hn a n han (Nat.le_refl _)).mono ?_; rintro r w1 ⟨rfl, q1, rfl⟩)
   go_loopw [6, 7, 8, 9] (fun z _ _ _ wr => ∃ (s q : Nat), 0 < s ∧ s ≤ 2147483648 ∧ z = .int .i64 s ∧ wr = w.drewN q) (fun z _ _ _ _ => n - (intOf z).toNat)
   case atStart => exact ⟨20, _, by omega, by omega, rfl, by rw [HW.out, World.drewN_drewN]⟩
   case round =>
    obtain ⟨s, q, hs0, hs1, rfl, hw⟩ := hrel
    clear HDr HCr HW
    have HDr : Hid (PlAt wr D n) := by rw [hw]; exact HD.out
    have HCr : Hid (CmpAt wr lb n K) := by rw [hw]; exact HC.out.drewN q
    have HW : Hid _ := hw
    clear hw
    by_cases hsn : s < n
    ·go_wp2
     go_loopw [7, 8] (fun u v wr => ∃ (a q : Nat), a ≤ n ∧ u = .int .i64 a ∧ v = .int .i64 ((a : Int) + 2 * (s : Int)) ∧ wr = w.drewN q) (fun u _ _ => n - (intOf u).toNat)
     case atStart => exact ⟨0, q, Nat.zero_le _, rfl, by simp, HW.out⟩
     case round =>
      obtain ⟨a, q, han, rfl, rfl, hw⟩ := hrel
      clear HDr HCr HW
      have HDr : Hid (PlAt wr D n) := by rw [hw]; exact HD.out
      have HCr : Hid (CmpAt wr lb n K) := by rw [hw]; exact HC.out.drewN q
      have HW : Hid _ := hw
      clear hw
      by_cases hlt : a + 2 * s ≤ n
      ·have HY : Hid (Calls Tryz.prog 146 #[.slice (some ⟨D, 0, none⟩) n cap, .int .i64 a, .int .i64 ((a : Int) + (s : Int)), .int .i64 ((a : Int) + 2 * (s : Int)), .func (.func 105) #[] #[lb]] wr fun r w' => r = .returned (.tuple #[]) ∧ ∃ m, w' = wr.drewN m) := by
        show Calls _ _ _ _ _
        rw [show ((a : Int) + (s : Int)) = ((a + s : Nat) : Int) by omega, show ((a : Int) + 2 * (s : Int)) = ((a + 2 * s : Nat) : Int) by omega]
        exact sym_any (cap := cap) hn _ a (a + s) (a + 2 * s) (Nat.le_refl _) (by omega) (by omega) hlt _ HDr.out HCr.out
       go_wp2_with (go_at_call 146; refine Calls.mono HY.out ?_; rintro r w1 ⟨rfl, q1, rfl⟩)
       go_roundw
       case rel => exact ⟨a + 2 * s, _, hlt, by go_num, by go_num, by rw [HW.out, World.drewN_drewN]⟩
       case measure => simp [intOf]; omega
      ·by_cases hm : a + s < n
       ·have HY : Hid (Calls Tryz.prog 146 #[.slice (some ⟨D, 0, none⟩) n cap, .int .i64 a, .int .i64 ((a : Int) + (s : Int)), .int .i64 n, .func (.func 105) #[] #[lb]] wr fun r w' => r = .returned (.tuple #[]) ∧ ∃ m, w' = wr.drewN m) := by
         show Calls _ _ _ _ _
         rw [show ((a : Int) + (s : Int)) = ((a + s : Nat) : Int) by omega]
         exact sym_any (cap := cap) hn _ a (a + s) n (Nat.le_refl _) (by omega) hm (Nat.le_refl _) _ HDr.out HCr.out
        go_wp2_with (go_at_call 146; refine Calls.mono HY.out ?_; rintro r w1 ⟨rfl, q1, rfl⟩)
        go_roundw
        case rel => exact ⟨2 * s, _, by omega, by omega, by go_num, by rw [HW.out, World.drewN_drewN]⟩
        case measure => simp [intOf]; omega
       ·go_wp2
        go_roundw
        case rel => exact ⟨2 * s, _, by omega, by omega, by go_num, HW.out⟩
        case measure => simp [intOf]; omega
    ·go_wp2
     go_end0
     exact ⟨rfl, q, HW.out⟩
theorem sortStable_any {w : World} {lb : Value} {D n cap : Nat} {K : Nat → Nat → Int} (hD : PlAt w D n) (hC : CmpAt w lb n K) (hn : n ≤ 1073741824) :
  Calls Tryz.prog 104 #[.slice (some ⟨D, 0, none⟩) n cap, .func (.func 105) #[] #[lb]] w fun r w' => r = .returned (.tuple #[]) ∧ ∃ m, w' = w.drewN m := by
 have HS : Hid _ := stable_any (cap := cap) hD hC hn
 clear hD hC
 go_enter Tryz.func104, Tryz.ntmps104
 go_wp2_with (go_at_call 123; refine Calls.mono HS.out ?_; rintro r w1 ⟨rfl, q1, rfl⟩)
 go_end0
 exact ⟨rfl, q1, rfl⟩
theorem sortStable_nil {w : World} {lb : Value} : Calls Tryz.prog 104 #[.slice none 0 0, .func (.func 105) #[] #[lb]] w fun r w' => r = .returned (.tuple #[]) ∧ ∃ m, w' = w.drewN m := by
 have hI : ∀ w, Calls Tryz.prog 145 #[.slice none 0 0, .int .i64 0, .int .i64 0, .func (.func 105) #[] #[lb]] w fun r w' => r = .returned (.tuple #[]) ∧ w' = w := by
  intro w
  go_enter Tryz.func145, Tryz.ntmps145
  go_wp2
  refine wp_loop_rounds 1 ?_
  rw [rounds_succ]
  go_wp2
  go_end0
  exact ⟨rfl, rfl⟩
 have hS : ∀ w, Calls Tryz.prog 123 #[.slice none 0 0, .int .i64 0, .func (.func 105) #[] #[lb]] w fun r w' => r = .returned (.tuple #[]) ∧ w' = w := by
  intro w
  go_enter Tryz.func123, Tryz.ntmps123
  go_wp2
  refine wp_loop_rounds 1 ?_
  rw [rounds_succ]
  go_wp2_with (go_at_call 145; refine (hI _).mono ?_; rintro r w1 ⟨rfl, rfl⟩)
  refine wp_loop_rounds 1 ?_
  rw [rounds_succ]
  go_wp2
  go_end0
  exact ⟨rfl, rfl⟩
 go_enter Tryz.func104, Tryz.ntmps104
 go_wp2_with (go_at_call 123; refine (hS _).mono ?_; rintro r w1 ⟨rfl, rfl⟩)
 go_end0
 exact ⟨rfl, 0, rfl⟩
end
section
open Go.Shelf Go.Proofs
def layClone_ren : Go.Shelf.Ren := ⟨fun | 41 => 125 | n => n, fun | 22 => 116 | 23 => 201 | 4 => 4 | n => n, fun | n => n⟩
theorem layClone : Go.Proofs.SlLaysE0.n41 Tryz.prog layClone_ren := {
 mixed := by kernel_rfl,
 f41 := ⟨Tryz.f125.name, by decide, Tryz.func125.trans (congrArg some (by kernel_rfl))⟩,
 t4 := Tryz.underlying4,
 a4 := Tryz.isAgg4,
 z4 := Tryz.sizeOf4,
 v4 := Tryz.zeroValue4,
 t22 := Tryz.underlying116,
 a22 := Tryz.isAgg116,
 z22 := Tryz.sizeOf116,
 v22 := Tryz.zeroValue116 }
def laySort_ren : Go.Shelf.Ren := ⟨fun | 6 => 148 | 14 => 180 | 15 => 171 | 20 => 214 | 21 => 215 | 22 => 216 | 23 => 217 | 24 => 218 | 25 => 219 | 26 => 220 | 27 => 221 | 28 => 205 | 29 => 206 | 46 => 233 | 47 => 227 | 48 => 228 | 49 => 234 | 50 => 235 | 57 => 242 | n => n, fun | 22 => 116 | 24 => 201 | 25 => 227 | 3 => 3 | 39 => 164 | 0 => 0 | 53 => 265 | 55 => 85 | 4 => 4 | 46 => 259 | 45 => 258 | 50 => 106 | 5 => 5 | 9 => 9 | 66 => 280 | 70 => 283 | 76 => 292 | 77 => 293 | n => n, fun | n => n⟩
theorem laySort : Go.Proofs.SlLaysF0.n6 Tryz.prog laySort_ren := {
 mixed := by kernel_rfl,
 f6 := ⟨Tryz.f148.name, by decide, Tryz.func148.trans (congrArg some (by kernel_rfl))⟩,
 f14 := ⟨Tryz.f180.name, by decide, Tryz.func180.trans (congrArg some (by kernel_rfl))⟩,
 f15 := Tryz.func171.trans (congrArg some (by kernel_rfl)),
 f20 := ⟨Tryz.f214.name, by decide, Tryz.func214.trans (congrArg some (by kernel_rfl))⟩,
 f21 := ⟨Tryz.f215.name, by decide, Tryz.func215.trans (congrArg some (by kernel_rfl))⟩,
 f22 := ⟨Tryz.f216.name, by decide, Tryz.func216.trans (congrArg some (by kernel_rfl))⟩,
 f23 := ⟨Tryz.f217.name, by decide, Tryz.func217.trans (congrArg some (by kernel_rfl))⟩,
 f24 := ⟨Tryz.f218.name, by decide, Tryz.func218.trans (congrArg some (by kernel_rfl))⟩,
 f25 := ⟨Tryz.f219.name, by decide, Tryz.func219.trans (congrArg some (by kernel_rfl))⟩,
 f26 := ⟨Tryz.f220.name, by decide, Tryz.func220.trans (congrArg some (by kernel_rfl))⟩,
 f27 := ⟨Tryz.f221.name, by decide, Tryz.func221.trans (congrArg some (by kernel_rfl))⟩,
 f28 := Tryz.func205.trans (congrArg some (by kernel_rfl)),
 f29 := Tryz.func206.trans (congrArg some (by kernel_rfl)),
 f46 := ⟨Tryz.f233.name, by decide, Tryz.func233.trans (congrArg some (by kernel_rfl))⟩,
 f47 := Tryz.func227.trans (congrArg some (by kernel_rfl)),
 f48 := Tryz.func228.trans (congrArg some (by kernel_rfl)),
 f49 := ⟨Tryz.f234.name, by decide, Tryz.func234.trans (congrArg some (by kernel_rfl))⟩,
 f50 := ⟨Tryz.f235.name, by decide, Tryz.func235.trans (congrArg some (by kernel_rfl))⟩,
 f57 := ⟨Tryz.f242.name, by decide, Tryz.func242.trans (congrArg some (by kernel_rfl))⟩,
 t0 := Tryz.underlying0,
 a0 := Tryz.isAgg0,
 z0 := Tryz.sizeOf0,
 v0 := Tryz.zeroValue0,
 t3 := Tryz.underlying3,
 a3 := Tryz.isAgg3,
 z3 := Tryz.sizeOf3,
 v3 := Tryz.zeroValue3,
 t4 := Tryz.underlying4,
 a4 := Tryz.isAgg4,
 z4 := Tryz.sizeOf4,
 v4 := Tryz.zeroValue4,
 t5 := Tryz.underlying5,
 a5 := Tryz.isAgg5,
 z5 := Tryz.sizeOf5,
 v5 := Tryz.zeroValue5,
 t9 := Tryz.underlying9,
 a9 := Tryz.isAgg9,
 z9 := Tryz.sizeOf9,
 v9 := Tryz.zeroValue9,
 t22 := Tryz.underlying116,
 a22 := Tryz.isAgg116,
 z22 := Tryz.sizeOf116,
 v22 := Tryz.zeroValue116,
 t25 := Tryz.underlying227,
 a25 := Tryz.isAgg227,
 z25 := Tryz.sizeOf227,
 v25 := Tryz.zeroValue227,
 t39 := Tryz.underlying164,
 a39 := Tryz.isAgg164,
 z39 := Tryz.sizeOf164,
 v39 := Tryz.zeroValue164,
 t45 := Tryz.underlying258,
 a45 := Tryz.isAgg258,
 z45 := Tryz.sizeOf258,
 v45 := Tryz.zeroValue258,
 t46 := Tryz.underlying259,
 a46 := Tryz.isAgg259,
 z46 := Tryz.sizeOf259,
 v46 := Tryz.zeroValue259,
 t50 := Tryz.underlying106,
 a50 := Tryz.isAgg106,
 z50 := Tryz.sizeOf106,
 v50 := Tryz.zeroValue106,
 t53 := Tryz.underlying265,
 a53 := Tryz.isAgg265,
 z53 := Tryz.sizeOf265,
 v53 := Tryz.zeroValue265,
 t55 := Tryz.underlying85,
 a55 := Tryz.isAgg85,
 z55 := Tryz.sizeOf85,
 v55 := Tryz.zeroValue85,
 t66 := Tryz.underlying280,
 a66 := Tryz.isAgg280,
 z66 := Tryz.sizeOf280,
 v66 := Tryz.zeroValue280,
 t70 := Tryz.underlying283,
 a70 := Tryz.isAgg283,
 z70 := Tryz.sizeOf283,
 v70 := Tryz.zeroValue283,
 t76 := Tryz.underlying292,
 a76 := Tryz.isAgg292,
 z76 := Tryz.sizeOf292,
 v76 := Tryz.zeroValue292,
 t77 := Tryz.underlying293,
 a77 := Tryz.isAgg293,
 z77 := Tryz.sizeOf293,
 v77 := Tryz.zeroValue293 }
end
section
open Go.RowKit
theorem nan64 (x : Int) (w : World) : Calls Tryz.prog 124 #[.int .i64 x] w fun e w' => e = .returned (.bool false) ∧ w' = w := by
 have hx : (x != x) = false := by simp
 go_enter Tryz.func124, Tryz.ntmps124
 go_wp2
 go_ret
 exact ⟨by simp, rfl⟩
theorem nanI (x : Int) (w : World) : Calls Tryz.prog 207 #[.int .i64 x] w fun e w' => e = .returned (.bool false) ∧ w' = w := by
 have hx : (x != x) = false := by simp
 go_enter Tryz.func207, Tryz.ntmps207
 go_wp2
 go_ret
 exact ⟨by simp, rfl⟩
theorem cmp64 (x y : Int) (w : World) : Calls Tryz.prog 106 #[.int .i64 x, .int .i64 y] w fun e w' => e = .returned (.int .i64 (c3 x y)) ∧ w' = w := by
 by_cases h : x < y
 ·have e : c3 x y = -1 := by unfold c3; rw [if_pos h]
  rw [e]
  go_enter Tryz.func106, Tryz.ntmps106
  go_wp2_with (go_at_call 124; refine (nan64 _ _).mono ?_; rintro r w1 ⟨rfl, rfl⟩)
  go_ret
  exact ⟨rfl, rfl⟩
 ·by_cases h' : y < x
  ·have e : c3 x y = 1 := by unfold c3; rw [if_neg h, if_pos h']
   rw [e]
   go_enter Tryz.func106, Tryz.ntmps106
   go_wp2_with (go_at_call 124; refine (nan64 _ _).mono ?_; rintro r w1 ⟨rfl, rfl⟩)
   go_ret
   exact ⟨rfl, rfl⟩
  ·have e : c3 x y = 0 := by unfold c3; rw [if_neg h, if_neg h']
   rw [e]
   go_enter Tryz.func106, Tryz.ntmps106
   go_wp2_with (go_at_call 124; refine (nan64 _ _).mono ?_; rintro r w1 ⟨rfl, rfl⟩)
   go_ret
   exact ⟨rfl, rfl⟩
theorem cmpInt (x y : Int) (w : World) : Calls Tryz.prog 173 #[.int .i64 x, .int .i64 y] w fun e w' => e = .returned (.int .i64 (c3 x y)) ∧ w' = w := by
 by_cases h : x < y
 ·have e : c3 x y = -1 := by unfold c3; rw [if_pos h]
  rw [e]
  go_enter Tryz.func173, Tryz.ntmps173
  go_wp2_with (go_at_call 207; refine (nanI _ _).mono ?_; rintro r w1 ⟨rfl, rfl⟩)
  go_ret
  exact ⟨rfl, rfl⟩
 ·by_cases h' : y < x
  ·have e : c3 x y = 1 := by unfold c3; rw [if_neg h, if_pos h']
   rw [e]
   go_enter Tryz.func173, Tryz.ntmps173
   go_wp2_with (go_at_call 207; refine (nanI _ _).mono ?_; rintro r w1 ⟨rfl, rfl⟩)
   go_ret
   exact ⟨rfl, rfl⟩
  ·have e : c3 x y = 0 := by unfold c3; rw [if_neg h, if_neg h']
   rw [e]
   go_enter Tryz.func173, Tryz.ntmps173
   go_wp2_with (go_at_call 207; refine (nanI _ _).mono ?_; rintro r w1 ⟨rfl, rfl⟩)
   go_ret
   exact ⟨rfl, rfl⟩
def orV (a b c d : Int) : Int := if a ≠ 0 then a else if b ≠ 0 then b else if c ≠ 0 then c else d
theorem or4 {w : World} {g : Nat} {a b c d : Int} (h : w.heap[g]? = some (.cells #[.int .i64 a, .int .i64 b, .int .i64 c, .int .i64 d] 3 (0, 0))) : Calls Tryz.prog 172 #[.slice (some ⟨g, 0, none⟩) 4 4] w fun e w' => e = .returned (.int .i64 (orV a b c d)) ∧ w' = w := by
 obtain ⟨k0, k1, k2, k3⟩ := m_cells h
 by_cases h0 : a = 0
 ·subst h0
  by_cases h1 : b = 0
  ·subst h1
   by_cases h2 : c = 0
   ·subst h2
    by_cases h3 : d = 0
    ·subst h3
     go_enter Tryz.func172, Tryz.ntmps172
     go_wp2
     refine wp_loop_rounds 5 ?_
     rw [rounds_succ]
     go_wp2
     rw [rounds_succ]
     go_wp2
     rw [rounds_succ]
     go_wp2
     rw [rounds_succ]
     go_wp2
     rw [rounds_succ]
     go_wp2
     go_ret
     exact ⟨rfl, rfl⟩
    ·have e3 : (d != 0) = true := by simpa using h3
     go_enter Tryz.func172, Tryz.ntmps172
     go_wp2
     refine wp_loop_rounds 5 ?_
     rw [rounds_succ]
     go_wp2
     rw [rounds_succ]
     go_wp2
     rw [rounds_succ]
     go_wp2
     rw [rounds_succ]
     go_wp2
     go_ret
     exact ⟨rfl, rfl⟩
   ·have e2 : (c != 0) = true := by simpa using h2
    go_enter Tryz.func172, Tryz.ntmps172
    go_wp2
    refine wp_loop_rounds 5 ?_
    rw [rounds_succ]
    go_wp2
    rw [rounds_succ]
    go_wp2
    rw [rounds_succ]
    go_wp2
    go_ret
    exact ⟨by simp [orV, h2], rfl⟩
  ·have e1 : (b != 0) = true := by simpa using h1
   go_enter Tryz.func172, Tryz.ntmps172
   go_wp2
   refine wp_loop_rounds 5 ?_
   rw [rounds_succ]
   go_wp2
   rw [rounds_succ]
   go_wp2
   go_ret
   exact ⟨by simp [orV, h1], rfl⟩
 ·have e0 : (a != 0) = true := by simpa using h0
  go_enter Tryz.func172, Tryz.ntmps172
  go_wp2
  refine wp_loop_rounds 5 ?_
  rw [rounds_succ]
  go_wp2
  go_ret
  exact ⟨by simp [orV, h0], rfl⟩
theorem m_eight {W : World} {p q : Nat} {x y : Msg} (hp : W.heap[p]? = some (.cells #[.int .i64 x.f, .int .i64 x.t, .int .i64 x.a, .int .i64 x.v] 201 (0, 0))) (hq : W.heap[q]? = some (.cells #[.int .i64 y.f, .int .i64 y.t, .int .i64 y.a, .int .i64 y.v] 201 (0, 0))) :
  (W.cell? ⟨p, 0, none⟩ = some (.int .i64 x.f) ∧ W.cell? ⟨p, 1, none⟩ = some (.int .i64 x.t) ∧ W.cell? ⟨p, 2, none⟩ = some (.int .i64 x.a) ∧ W.cell? ⟨p, 3, none⟩ = some (.int .i64 x.v)) ∧ W.cell? ⟨q, 0, none⟩ = some (.int .i64 y.f) ∧ W.cell? ⟨q, 1, none⟩ = some (.int .i64 y.t) ∧ W.cell? ⟨q, 2, none⟩ = some (.int .i64 y.a) ∧ W.cell? ⟨q, 3, none⟩ = some (.int .i64 y.v) := ⟨m_cells hp, m_cells hq⟩
set_option maxHeartbeats 1000000 in
theorem compare_msg (x y : Msg) (w : World) : Calls Tryz.prog 149 #[.agg #[.int .i64 x.f, .int .i64 x.t, .int .i64 x.a, .int .i64 x.v], .agg #[.int .i64 y.f, .int .i64 y.t, .int .i64 y.a, .int .i64 y.v]] w fun e w' => e = .returned (.int .i64 (cmpM x y)) ∧ ∃ q os, w' = Sort.grow (w.drewN q) os := by
 go_enter Tryz.func149, Tryz.ntmps149
 go_upto_region 1 with (fail)
 have hp := (Below.heap_alloc (w.alloc (.cells #[.int .i64 x.f, .int .i64 x.t, .int .i64 x.a, .int .i64 x.v] 201)) (.cells #[.int .i64 y.f, .int .i64 y.t, .int .i64 y.a, .int .i64 y.v] 201) w.heap.size (by simp)).trans (heap_alloc_new w (.cells #[.int .i64 x.f, .int .i64 x.t, .int .i64 x.a, .int .i64 x.v] 201))
 have hq := heap_alloc_new (w.alloc (.cells #[.int .i64 x.f, .int .i64 x.t, .int .i64 x.a, .int .i64 x.v] 201)) (.cells #[.int .i64 y.f, .int .i64 y.t, .int .i64 y.a, .int .i64 y.v] 201)
 have hW : (w.alloc (.cells #[.int .i64 x.f, .int .i64 x.t, .int .i64 x.a, .int .i64 x.v] 201)).alloc (.cells #[.int .i64 y.f, .int .i64 y.t, .int .i64 y.a, .int .i64 y.v] 201) = Sort.grow w #[(.cells #[.int .i64 x.f, .int .i64 x.t, .int .i64 x.a, .int .i64 x.v] 201), (.cells #[.int .i64 y.f, .int .i64 y.t, .int .i64 y.a, .int .i64 y.v] 201)] := by rw [Sort.alloc_eq_grow, Sort.alloc_eq_grow, Sort.grow_grow]; rfl
 rw [World.size_alloc] at hq
 rw [hW] at hp hq
 have HW : Hid _ := hW
 simp only [hW]
 clear hW
 generalize hWW : Sort.grow w #[(.cells #[.int .i64 x.f, .int .i64 x.t, .int .i64 x.a, .int .i64 x.v] 201), (.cells #[.int .i64 y.f, .int .i64 y.t, .int .i64 y.a, .int .i64 y.v] 201)] = W at hp hq HW ⊢
 have HWW : Hid _ := hWW
 clear hWW HW
 generalize w.heap.size + 1 = q at hq ⊢
 generalize w.heap.size = p at hp ⊢
 have x0 := m_eight hp hq
 have HX : Hid _ := x0
 have x1 := fun o => m_eight ((Below.heap_alloc W o p (m_lt hp)).trans hp) ((Below.heap_alloc W o q (m_lt hq)).trans hq)
 clear hp hq
 go_region_held (fun w' => (w'.cell? ⟨p, 0, none⟩ = some (.int .i64 x.f) ∧ w'.cell? ⟨p, 1, none⟩ = some (.int .i64 x.t) ∧ w'.cell? ⟨p, 2, none⟩ = some (.int .i64 x.a) ∧ w'.cell? ⟨p, 3, none⟩ = some (.int .i64 x.v)) ∧ w'.cell? ⟨q, 0, none⟩ = some (.int .i64 y.f) ∧ w'.cell? ⟨q, 1, none⟩ = some (.int .i64 y.t) ∧ w'.cell? ⟨q, 2, none⟩ = some (.int .i64 y.a) ∧ w'.cell? ⟨q, 3, none⟩ = some (.int .i64 y.v)) (first | exact x1 _ | exact x0)
  (first
  | (go_at_call 106; refine (cmp64 _ _ _).mono ?_; rintro e w1 ⟨rfl, rfl⟩)
  | (go_at_call 173; refine (cmpInt _ _ _).mono ?_; rintro e w1 ⟨rfl, rfl⟩)
  | (go_at_call 172; refine (or4 (w := (W.alloc (.cells #[.int .i64 (c3 x.t y.t), .int .i64 (c3 x.f y.f), .int .i64 (c3 x.a y.a), .int .i64 (c3 x.v y.v)] 3)).drew) (g := W.heap.size) (heap_alloc_new W _)).mono ?_; rintro e w1 ⟨rfl, rfl⟩))
 all_goals
  clear x0 x1 HX
  go_wp2
  go_ret
  refine ⟨rfl, 1, #[(.cells #[.int .i64 x.f, .int .i64 x.t, .int .i64 x.a, .int .i64 x.v] 201), (.cells #[.int .i64 y.f, .int .i64 y.t, .int .i64 y.a, .int .i64 y.v] 201)] ++ #[.cells #[.int .i64 (c3 x.t y.t), .int .i64 (c3 x.f y.f), .int .i64 (c3 x.a y.a), .int .i64 (c3 x.v y.v)] 3], ?_⟩
  rw [← HWW.out, Sort.alloc_eq_grow, Sort.grow_grow, Sort.drew_grow]
  rfl
end
end Go.Proofs.YtmgjlamglhpnaaaGreat
