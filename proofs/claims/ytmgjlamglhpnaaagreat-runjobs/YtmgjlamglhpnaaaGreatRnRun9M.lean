/- Close: requests are done, then messages come. -/
import Derived.Test.YtmgjlamglhpnaaaGreatRnBringM
import Derived.Test.YtmgjlamglhpnaaaGreatCbCombM
import Derived.Test.YtmgjlamglhpnaaaGreatMuApplyM
import Derived.Maps.AppendAt
import Derived.Deep.Cut
import Derived.Deep.DeepCutAuto
import Derived.Test.YtmgjlamglhpnaaaGreatRnTurn5M
import Derived.Test.YtmgjlamglhpnaaaGreatRnStep12M
namespace Go.Proofs.YtmgjlamglhpnaaaGreat
set_option maxRecDepth 100000
section
open Go.RowKit
section
variable {w : World} {S : Nat → Prop} {p n : Nat} {s : St} {sv : Value} {M : List (Vx × Value)} {hm bx : Nat} {SB : Nat → Prop}
theorem PA.graphed (h : PA w S p n s sv M hm bx SB) {B : Nat} {sv' : Value} {M' : List (Vx × Value)} {G' : List Vx} (hg : GW w B sv' M') (hG : M'.map (·.1) = G') (hB : ∀ k, S k → k < B) :
  PA (w.setCell ⟨p, 0, none⟩ sv') (fun k => S k ∨ B ≤ k) p n ⟨G', s.H, s.B⟩ sv' M' hm bx SB := by
 have fs : Fr w (w.setCell ⟨p, 0, none⟩ sv') (fun k => k = p) := Fr.setCell (S := fun k => k = p) w ⟨p, 0, none⟩ _ rfl
 have hp := hB p h.inP
 have hh := hB hm h.inH
 have hgb : ∀ k, GB sv' M' k → B ≤ k := fun k hk => (hg.gb hk).1
 refine { blk := set_heap h.blk 0 _, gw := (hg.low (Nat.zero_le _)).keepS fs (fun k hk e => by have := hgb k hk; omega), gs := hG, hal := h.hal.same (fs.block hm h.hal.lt (fun e => h.ph e.symm)), box := h.box.kept fs (fun k hk e => h.pb (e ▸ hk)), lt := fun k hk => Nat.lt_of_lt_of_le (h.lt k hk) fs.size, inP := .inl h.inP, inH := .inl h.inH, inB := fun k hk => .inl (h.inB k hk), inG := fun k hk => .inr (hgb k hk), ph := h.ph, pb := h.pb, hb := h.hb, gp := fun k hk => ⟨fun e => by have := hgb k hk; omega, fun e => by have := hgb k hk; omega, fun e => by have := hgb k hk; have := hB k (h.inB k e); omega⟩ }
set_option maxHeartbeats 2000000 in
theorem close_any (h : PA w S p n s sv M hm bx SB) (hokG : ∀ v ∈ s.G, v.ok) (hf : Fine s.G) {Nu : Nat} (hu : Up Nu s.G) {L : List Msg} {lo : Option Addr} {lc : Nat} (hL : MsAt w (fun k => ¬ S k) lo L) (hok : ∀ m ∈ L, m.ok) (hl : L.length ≤ 1073741824) (hn : n + L.length ≤ 4611686018427387904) (hB : (s.B.length + L.length) * 32 ≤ 140737488355328)
  {U : List Mu} {uo : Option Addr} {uc : Nat} (hU : UsAt w (fun k => ¬ S k) uo U) (hUk : ∀ m ∈ U, 1 ≤ m.k ∧ m.k ≤ 4) (hUo : ∀ m ∈ U, m.ok) (hN : Nu + U.length ≤ 1073741824) :
  Calls Tryz.prog 54 #[.pointer (some ⟨p, 0, none⟩), .slice lo L.length lc, .slice uo U.length uc] w fun r w' => r = .returned (.int .i64 (appG s.G U).2) ∧ (∃ sv' M' SB', PA w' (fun k => S k ∨ w.heap.size ≤ k) p (n + L.length) (closeP s L U) sv' M' hm bx SB') ∧ Fr w w' S := by
 obtain ⟨svo, scap, rfl, hvx⟩ := h.at_
 obtain ⟨c0, c1, c2⟩ := h.cells
 have h' := h.mono (T := fun k => S k ∧ k < w.heap.size) (fun k hk hs => ⟨hs, hk⟩)
 have HAp : Hid _ := apply_any (bo := uo) s.G scap U uc hvx hokG hf hu hN hU hUk
 have HP : Hid (PA w (fun k => S k ∧ k < w.heap.size) p n s (.slice svo s.G.length scap) M hm bx SB) := h'
 have HLs : Hid (MsAt w (fun k => ¬ S k) lo L) := hL
 have HUs : Hid (UsAt w (fun k => ¬ S k) uo U) := hU
 have HOk : Hid (∀ m ∈ L, m.ok) := hok
 have HUo : Hid (∀ m ∈ U, m.ok) := hUo
 have HGo : Hid (∀ y ∈ (appG s.G U).1, y.ok) := appG_okk hf hu hokG hUo (by omega)
 have HGl : Hid ((appG s.G U).1.length ≤ 1073741824) := by
  have := appG_up hf hu U
  show _ ≤ _
  have := this.1
  omega
 have HBb : Hid _ := hB
 obtain ⟨ln, HLn⟩ : ∃ ln, Hid (ln = L.length) := ⟨_, rfl⟩
 obtain ⟨un, HUn⟩ : ∃ un, Hid (un = U.length) := ⟨_, rfl⟩
 rw [← HUn.out] at HAp
 rw [← HLn.out, ← HUn.out]
 clear h h' hvx hokG hf hu hL hok hU hUk hUo hB
 go_enter Tryz.func54, Tryz.ntmps54
 go_upto_region 4 with (go_at_call 88; refine Calls.mono HAp.out ?_; rintro r w1 ⟨sv', M', rfl, hM', hgw, hb1⟩; obtain ⟨so', sm', sc', rfl⟩ := own_any hgw.row; have HM : Hid _ := hM'; have HG : Hid _ := hgw; have HB1 : Hid _ := hb1; clear hM' hgw hb1)
 generalize hW2 : World.alloc w1 _ = W2
 have hb2 : Below w1.heap.size w1 W2 := by rw [← hW2]; exact one_newK _ _
 have q0 : W2.cell? ⟨w1.heap.size, 0, none⟩ = some (.slice so' sm' sc') := by rw [← hW2]; simp
 have hbw : Below w.heap.size w W2 := HB1.out.trans (hb2.mono HB1.out.size)
 have hP2 := HP.out.new hbw
 obtain ⟨d0, d1, d2⟩ := hP2.cells
 have hfz : W2.frozen? ⟨p, 0, none⟩ = false := by
  have := hP2.blk
  simp [World.frozen?, this]
 have hP3 := hP2.graphed (B := w.heap.size) (HG.out.new hb2) HM.out (fun k hk => hk.2)
 have HP3 : Hid _ := hP3
 have HF3 : Hid (Fr w (W2.setCell ⟨p, 0, none⟩ (.slice so' sm' sc')) S) := (Fr.ofBelow hbw S).trans (Fr.setCell (S := S) W2 ⟨p, 0, none⟩ _ HP.out.inP.1) (fun _ _ h => h)
 have HW3 : Hid (w.heap.size ≤ (W2.setCell ⟨p, 0, none⟩ (.slice so' sm' sc')).heap.size) := by have := HF3.out.size; exact this
 clear hW2 hb2 hbw hP2 hP3 c0 c1 c2 HG HB1
 go_upto_region 5 with (fail)
 generalize hW3 : World.setCell W2 _ _ = W3 at HP3 HF3 HW3 ⊢
 have HUs3 : Hid (UsAt W3 (fun k => ¬ ((S k ∧ k < w.heap.size) ∨ w.heap.size ≤ k)) uo U) := UsAt.kept HUs.out HF3.out (fun k hk hs => ⟨hs, fun h => by rcases h with h | h; exact hs h.1; omega⟩)
 have HLs3 : Hid (MsAt W3 (fun k => ¬ ((S k ∧ k < w.heap.size) ∨ w.heap.size ≤ k)) lo L) := MsAt.kept HLs.out HF3.out (fun k hk hs => ⟨hs, fun h => by rcases h with h | h; exact hs h.1; omega⟩)
 clear hW3 d0 d1 d2 hfz q0 HAp
 have HFo : Hid _ := forget_any (lc := uc) HP3.out HUs3.out HUo.out (by omega)
 rw [← HUn.out] at HFo
 go_upto_region 6 with (go_at_call 89; refine Calls.mono HFo.out ?_; rintro r w4 ⟨rfl, hP4, hf4⟩; have HP4 : Hid _ := hP4; have HF4 : Hid _ := hf4; clear hP4 hf4)
 have hmS : S hm ∧ hm < w.heap.size := HP.out.inH
 have HLs4 : Hid (MsAt w4 (fun k => ¬ ((S k ∧ k < w.heap.size) ∨ w.heap.size ≤ k)) lo L) := MsAt.kept HLs3.out HF4.out (fun k hk hs => ⟨fun e => hs (.inl (e ▸ hmS)), hs⟩)
 have HBr : Hid _ := bring_any (lc := lc) HP4.out (s := ⟨(appG s.G U).1, forgetH s.H U, s.B⟩) HGo.out HGl.out HLs4.out HOk.out hl hn HBb.out
 rw [← HLn.out] at HBr
 go_wp2_with (go_at_call 90; refine Calls.mono HBr.out ?_; rintro r w5 ⟨rfl, hP5, hf5⟩; have HP5 : Hid _ := hP5; have HF5 : Hid _ := hf5; clear hP5 hf5)
 go_ret
 obtain ⟨SB', hP5⟩ := HP5.out
 refine ⟨rfl, ⟨.slice so' sm' sc', M', SB', ?_⟩, ?_⟩
 ·exact PA.mono (T := fun k => S k ∨ w.heap.size ≤ k) hP5 (fun k _ hk => by
   rcases hk with (hk | hk) | hk
   ·exact Or.inl hk.1
   ·exact Or.inr hk
   ·exact Or.inr (by have := HF4.out.size; have := HF3.out.size; omega))
 ·refine (HF3.out.trans HF4.out (fun k _ e => by rw [e]; exact hmS.1)).trans HF5.out (fun k hk h => ?_)
  rcases h with h | h
  ·exact h.1
  ·omega
end
end
section
open Go.RowKit
set_option maxHeartbeats 1000000 in
theorem newPart_any {w : World} {P : Nat → Prop} {ao : Option Addr} (G : List Vx) (cap : Nat) (h : VxAt w P ao G) (hok : ∀ v ∈ G, v.ok) (hl : G.length ≤ 1073741824) :
  Calls Tryz.prog 50 #[.agg #[.slice ao G.length cap]] w fun r w' => ∃ p sv M hm bx SB, r = .returned (.pointer (some ⟨p, 0, none⟩)) ∧ PA w' (fun k => w.heap.size ≤ k) p 0 ⟨G, fun _ => false, []⟩ sv M hm bx SB ∧ Below w.heap.size w w' := by
 obtain ⟨W0, hW0⟩ : ∃ W0, w.alloc (.cells #[.slice ao G.length cap] 24) = W0 := ⟨_, rfl⟩
 have hb0 : Below w.heap.size w W0 := by rw [← hW0]; exact one_newK _ _
 have q0 : W0.cell? ⟨w.heap.size, 0, none⟩ = some (.slice ao G.length cap) := by rw [← hW0]; simp
 have HC : Hid _ := cloneW_any (w := W0) G cap (h.new hb0) hok (by omega)
 have HB0 : Hid _ := hb0
 have hmm := @run_makeMap Tryz.prog
 clear h hok hb0
 go_enter Tryz.func50, Tryz.ntmps50
 go_wp2_with (first
  | (go_at_call 80; refine Calls.mono HC.out ?_; rintro r w1 ⟨sv, M, rfl, hM, hgw, hb1⟩; obtain ⟨so, sm, sc, rfl⟩ := own_any hgw.row; have HM : Hid _ := hM; have HG : Hid _ := hgw; have HB1 : Hid _ := hb1; clear hM hgw hb1)
  | (go_at_call 81; refine (new_box _).mono ?_; rintro r w2 ⟨rfl, rfl⟩))
 go_ret
 have hbw1 : Below w.heap.size w w1 := HB0.out.trans (HB1.out.mono HB0.out.size)
 have hs1 := hbw1.size
 have k1 := one_newK w1 (.map #[] 0)
 have k2 := one_newK (w1.alloc (.map #[] 0)) (.cells #[.map none] 179)
 have k3 := one_newK ((w1.alloc (.map #[] 0)).alloc (.cells #[.map none] 179)) (.cells #[.slice so sm sc, .map (some w1.heap.size), .pointer (some ⟨w1.heap.size + 1, 0, none⟩)] 123)
 have hb3 : Below w1.heap.size w1 (((w1.alloc (.map #[] 0)).alloc (.cells #[.map none] 179)).alloc (.cells #[.slice so sm sc, .map (some w1.heap.size), .pointer (some ⟨w1.heap.size + 1, 0, none⟩)] 123)) := k1.trans ((k2.mono (by simp)).trans (k3.mono (by simp only [World.size_alloc]; omega)))
 refine ⟨_, .slice so sm sc, M, w1.heap.size, w1.heap.size + 1, fun k => k = w1.heap.size + 1, rfl, ?_, hbw1.trans (hb3.mono hs1)⟩
 have hgw : GW w1 W0.heap.size (.slice so sm sc) M := HG.out
 have hgb : ∀ k, GB (.slice so sm sc) M k → w.heap.size ≤ k ∧ k < w1.heap.size := fun k hk => ⟨by have := (hgw.gb hk).1; have := HB0.out.size; omega, (hgw.gb hk).2⟩
 refine { blk := ?_, gw := (hgw.new hb3).low (Nat.zero_le _), gs := HM.out, hal := ?_, box := ?_, lt := ?_, inP := ?_, inH := hs1, inB := ?_, inG := fun k hk => (hgb k hk).1, ph := ?_, pb := ?_, hb := ?_, gp := ?_ }
 ·have := heap_alloc_new ((w1.alloc (.map #[] 0)).alloc (.cells #[.map none] 179)) (.cells #[.slice so sm sc, .map (some w1.heap.size), .pointer (some ⟨w1.heap.size + 1, 0, none⟩)] 123)
  simp only [World.size_alloc] at this
  exact this
 ·exact (BMap.made w1).new (k2.trans (k3.mono (by simp)))
 ·have := BX.made (w1.alloc (.map #[] 0)) (S := fun k => k = w1.heap.size + 1) (by simp)
  rw [World.size_alloc] at this
  exact this.new k3
 ·intro k hk; simp only [World.size_alloc]; omega
 ·show w.heap.size ≤ w1.heap.size + 1 + 1
  omega
 ·intro k hk; show w.heap.size ≤ k; omega
 ·omega
 ·omega
 ·omega
 ·intro k hk
  have := hgb k hk
  omega
def valsOf (G : List Vx) : List Ed := G.map fun v => ⟨v.id, v.val⟩
theorem valsOf_len (G : List Vx) : (valsOf G).length = G.length := List.length_map _
def KV (w : World) (base : Nat) (v : Value) (L : List Ed) : Prop := w.ownsRow base 67 2 v L.length (ecs L)
theorem infoV : (Tryz.prog.info? 67).map (fun i => (i.zero, i.size, i.bytes)) = some (some (.agg #[.int .i64 0, .int .i64 0]), 2, 16) := by kernel_rfl
theorem k_two {W : World} {b : Nat} {t : TypeId} {f : Nat × Nat} {x y : Value} (h : W.heap[b]? = some (.cells #[x, y] t f)) : ∀ (j : Nat) (u : Value), [x, y][j]? = some u → W.cell? ((⟨b, 0, none⟩ : Addr).add j) = some u := by
 intro j u hu
 rw [Addr.add_lit, Nat.zero_add]
 simp [World.cell?, h]
 simpa using hu
theorem valsOf_snoc (G : List Vx) (j : Nat) (h : j < G.length) : (valsOf G).take (j + 1) = (valsOf G).take j ++ [⟨G[j].id, G[j].val⟩] := by
 rw [List.take_succ_eq_append_getElem (by rw [valsOf_len]; exact h)]
 unfold valsOf
 rw [List.getElem_map]
section
variable {w : World} {S : Nat → Prop} {p n : Nat} {s : St} {sv : Value} {M : List (Vx × Value)} {hm bx : Nat} {SB : Nat → Prop}
set_option maxHeartbeats 2000000 in
theorem values_any (h : PA w S p n s sv M hm bx SB) (hr : Rise (ids s.G)) (hl : s.G.length ≤ 1073741824) :
  Calls Tryz.prog 55 #[.pointer (some ⟨p, 0, none⟩)] w fun r w' => ∃ vo vc, r = .returned (.slice vo s.G.length vc) ∧ KV w' w.heap.size (.slice vo s.G.length vc) (valsOf s.G) ∧ Below w.heap.size w w' := by
 obtain ⟨i0, hi, hz0, hz1, hz2⟩ := info_parts infoV
 obtain ⟨N, HN⟩ : ∃ N, Hid (N = s.G.length) := ⟨_, rfl⟩
 have hN : N ≤ 1073741824 := by rw [HN.out]; exact hl
 obtain ⟨svo, scap, hsv, _⟩ := h.at_
 rw [← HN.out] at hsv
 subst hsv
 have HBy : Hid _ := byNumber_any h hr hl
 have HP : Hid _ := h
 rw [← HN.out] at HBy ⊢
 clear h hr hl
 go_enter Tryz.func55, Tryz.ntmps55
 go_wp2_with (go_at_call 84; refine Calls.mono HBy.out ?_; rintro r w2 ⟨pv, rfl, hkn, hb2⟩; obtain ⟨pvo, pvc, rfl⟩ := k_shape hkn; have HKN : Hid _ := hkn; have HB2 : Hid _ := hb2; clear hkn hb2)
 go_loopw [3, 5, 6, 10] (fun u _ _ ix wr => ∃ (j : Nat) (ro : Option Addr) (c : Nat), j ≤ N ∧ ix = .int .i64 j ∧ u = .slice ro j c ∧ wr.ownsRow w2.heap.size 67 2 (.slice ro j c) j (ecs ((valsOf s.G).take j)) ∧ Below w2.heap.size w2 wr) (fun _ _ _ ix _ => N - (intOf ix).toNat)
 case atStart => exact ⟨0, none, 0, Nat.zero_le _, rfl, rfl, World.ownsRow_nil _ _ _ _, Below.refl _ _⟩
 case round =>
  obtain ⟨j, ro, c, hj, rfl, rfl, hR, hb⟩ := hrel
  by_cases hlt : j < N
  ·have hjG : j < s.G.length := by rw [← HN.out]; exact hlt
   obtain ⟨g, rfl, hg1, hpl⟩ := KN.at_ HKN.out (by omega)
   have p0 := (hb.cell (p := ⟨g, j, none⟩) (lt_cell (hpl j hlt))).trans (hpl j hlt)
   have hPr := (HP.out.new HB2.out).new hb
   obtain ⟨c0, c1, c2⟩ := hPr.cells
   obtain ⟨svo', scap', e1, hvx⟩ := hPr.at_
   rw [← HN.out] at e1
   cases e1
   obtain ⟨vb, voff, rfl, _, hc⟩ := hvx (by omega)
   obtain ⟨eo, ec, d0, d1, d2, -⟩ := hc j hjG
   have HT : Hid _ := valsOf_snoc s.G j hjG
   generalize s.G[j] = y at d0 d1 d2 HT
   have hjN : (j : Int) < (N : Int) := by omega
   have HR : Hid _ := hR
   have HB : Hid _ := hb
   clear hR hb hc hvx hPr hpl
   go_upto_region 6 with (fail)
   generalize hW : World.alloc wr _ = W1
   have hb1 : Below wr.heap.size wr W1 := by rw [← hW]; exact one_newK _ _
   have hbx : W1.heap[wr.heap.size]? = some (.cells #[.int .i64 y.id, .int .i64 y.val, .slice eo y.es.length ec] 65 (0, 0)) := by rw [← hW]; exact heap_alloc_new _ _
   obtain ⟨q0, q1⟩ : W1.cell? ⟨wr.heap.size, 0, none⟩ = some (.int .i64 y.id) ∧ W1.cell? ⟨wr.heap.size, 1, none⟩ = some (.int .i64 y.val) := by simp [World.cell?, hbx]
   have HR1 : Hid _ := k_new HR.out hb1
   have HB1 : Hid (Below w2.heap.size w2 W1) := HB.out.trans (hb1.mono HB.out.size)
   clear hW hb1 hbx HR HB c0 c1 c2 d0 d1 d2 p0
   go_wp2_with (at_builtin; refine wpList_append_own_at _ rfl _ _ 56 rfl w2.heap.size 67 i0 (.agg #[.int .i64 0, .int .i64 0]) 2 16 Tryz.underlying56 hi hz0 hz1 hz2 rfl (by decide) (.slice ro j c) j (ecs ((valsOf s.G).take j)) rfl (k_new HR1.out (one_newK _ _)) ⟨W1.heap.size, 0, none⟩ 1 1 [.int .i64 y.id, .int .i64 y.val] rfl rfl (k_two (heap_alloc_new W1 (.cells #[.int .i64 y.id, .int .i64 y.val] 67))) (by intro u hu; simp at hu; rcases hu with rfl | rfl <;> rfl) (by unfold maxLen; omega) (by omega) (by have := HB1.out.size; simp; omega) ?_)
   intro v' w4 hown hgrow hne hat
   have hM4 : w4.ownsRow w2.heap.size 67 2 v' (j + 1) (ecs ((valsOf s.G).take (j + 1))) := by
    rw [HT.out, ecs_app]
    exact hown
   have hB3 : Below w2.heap.size w2 (W1.alloc (.cells #[.int .i64 y.id, .int .i64 y.val] 67)) := HB1.out.alloc HB1.out.size _
   have hB4 : Below w2.heap.size w2 w4 := hB3.trans ((Fr.grown hgrow (S := fun k => w2.heap.size ≤ k) (fun k hk => (World.ownsRow.lt HR1.out k hk).1)).below hB3.size (fun k hk => hk))
   obtain ⟨ro', c', rfl⟩ := k_shape hM4
   have HM4 : Hid _ := hM4
   have HB4 : Hid _ := hB4
   clear hM4 hB3 hB4 hown hgrow hne hat
   go_wp2
   go_roundw
   case rel => exact ⟨j + 1, ro', c', by omega, by go_num, rfl, HM4.out, HB4.out⟩
   case measure => simp [intOf]; omega
  ·obtain rfl : j = N := by omega
   rw [HN.out, List.take_of_length_le (by rw [valsOf_len]; exact Nat.le_refl _), ← HN.out] at hR
   have HR : Hid _ := hR
   have HB : Hid _ := hb
   clear hR hb
   go_wp2
   go_ret
   exact ⟨_, _, rfl, by unfold KV; rw [valsOf_len, ← HN.out]; exact k_low HR.out HB2.out.size, HB2.out.trans (HB.out.mono HB2.out.size)⟩
end
theorem size_oc : (Tryz.prog.info? 58).map (·.size) = some 4 := by kernel_rfl
theorem failed_any (e d : Int) (w : World) : Calls Tryz.prog 52 #[.int .i64 e, .int .i64 d] w fun r w' => r = .returned (.agg #[.int .i64 2, .int .i64 e, .int .i64 d, .slice none 0 0]) ∧ Below w.heap.size w w' := by
 go_enter Tryz.func52, Tryz.ntmps52
 go_wp2
 refine bodyPost_ret (v := .agg #[.int .i64 2, .int .i64 e, .int .i64 d, .slice none 0 0]) (results_cell_row Tryz.results52 _ _ w.heap.size 58 _ (0, 0) _ rfl (heap_alloc_new _ _) Tryz.underlying58 rfl size_oc) rfl ?_
 exact ⟨rfl, one_newK _ _⟩
end
section
open Go Go.RowKit
section
variable {P : Program} {Q : Exit → Act → World → Prop} {md : Region.Mode}
def StepsX (P : Program) (md : Region.Mode) (Q : Exit → Act → World → Prop) (A : Act) (ds : List Nat) (all : List Oper) (tl : List (Option Nat)) (V : Nat → (Nat → Value) → Value → World → Prop) (T : Nat → (Nat → Value) → World → Prop) (R : World → World → Prop) : Nat → List Oper → Prop
 | _, [] => True
 | i, o :: os => ((tl.getD i none = none → ∀ X W m, T m X W → (∀ j q, j < all.length → tl.getD j none = some q → waitsB md all all.length j i = true → m ≤ q) → (∀ k, needs md o k = true → V k X (X (ds.getD k 0)) W) → (∀ k, k < all.length → waitsB md all all.length k i = true → X (ds.getD k 0) = A.eval (.tmp (ds.getD k 0))) → o.wp P (puts A X ds) W (fun a' W' => ∃ v, a' = (puts A X ds).put o.dst v ∧ V i X v W' ∧ T m X W' ∧ R W W') Q) ∧
   (∀ m, tl.getD i none = some m → ∀ X W, T m X W → (∀ k, needs md o k = true → V k X (X (ds.getD k 0)) W) → (∀ k, k < all.length → waitsB md all all.length k i = true → X (ds.getD k 0) = A.eval (.tmp (ds.getD k 0))) → o.wp P (puts A X ds) W (fun a' W' => ∃ v, a' = (puts A X ds).put o.dst v ∧ V i X v W' ∧ T (m + 1) (upd X (ds.getD i 0) v) W' ∧ R W W') Q)) ∧ StepsX P md Q A ds all tl V T R (i + 1) os
structure JX (md : Region.Mode) (A : Act) (ds : List Nat) (all : List Oper) (tl : List (Option Nat)) (M : Nat) (V : Nat → (Nat → Value) → Value → World → Prop) (T : Nat → (Nat → Value) → World → Prop) (on : Nat → Prop) (X : Nat → Value) (W : World) : Prop where
 vals : ∀ k, k < all.length → on k → V k X (X (ds.getD k 0)) W
 bound : ∀ k, on k → k < all.length
 closed : ∀ k o, all[k]? = some o → on k → ∀ m, needs md o m = true → on m
 tail : ∃ m, m ≤ M ∧ T m X W ∧ ∀ i j, i < all.length → tl.getD i none = some j → (on i ↔ j < m)
theorem steps_of_X {A : Act} {ds : List Nat} {V : Nat → (Nat → Value) → Value → World → Prop} {T : Nat → (Nat → Value) → World → Prop} {R : World → World → Prop} {all : List Oper} {tl : List (Option Nat)} {M : Nat} (hsz : A.tmps.size ≤ 1000000) (hds : dstsT ds all = true) (htl : Tails md all tl M)
  (hV : ∀ i X v W W', V i X v W → R W W' → V i X v W') (hX : ∀ i o X X' v W, all[i]? = some o → (∀ k, needs md o k = true → X (ds.getD k 0) = X' (ds.getD k 0)) → V i X v W → V i X' v W) (hT : ∀ m X X' W, (∀ i, i < all.length → tl.getD i none ≠ none → X (ds.getD i 0) = X' (ds.getD i 0)) → T m X W → T m X' W) :
  ∀ {os : List Oper} {i : Nat}, (∀ j o, os[j]? = some o → all[i + j]? = some o) → StepsX P md Q A ds all tl V T R i os → Steps P md Q A ds (fun on X W => JX md A ds all tl M V T on X W ∧ ∀ k, k < all.length → ¬ on k → X (ds.getD k 0) = A.eval (.tmp (ds.getD k 0))) i os
 | [], _, _, _ => trivial
 | o :: os, i, hall, h => by
  have hoi := hall 0 o rfl
  rw [Nat.add_zero] at hoi
  have hil : i < all.length := (List.getElem?_eq_some_iff.1 hoi).1
  obtain ⟨hd1, hd2⟩ := dstsT_at hds hoi
  refine ⟨?_, steps_of_X hsz hds htl hV hX hT (fun j o' e => by have := hall (j + 1) o' (by simpa using e); rwa [show i + 1 + j = i + (j + 1) by omega]) h.2⟩
  rintro on X W ⟨⟨h1, h2, h4, m, hmM, hTm, hon⟩, h5⟩ hn hk
  have hput : ∀ v, (puts A X ds).put o.dst v = puts A (upd X (ds.getD i 0) v) ds := by
   intro v
   rcases hd1 with e | ⟨e, e'⟩
   ·rw [e]; exact puts_put v hd2
   ·rw [e, puts_far v (by omega)]; rfl
  have hne : ∀ k, k < all.length → k ≠ i → ds.getD k 0 ≠ ds.getD i 0 := fun k hkl hki => dstsT_ne hds (by rw [dstsT_len hds]; exact hkl) (by rw [dstsT_len hds]; exact hil) hki
  have hold : ∀ k, k < all.length → waitsB md all all.length k i = true → X (ds.getD k 0) = A.eval (.tmp (ds.getD k 0)) := fun k hkl hw => h5 k hkl (fun hon => hn (waits_on h4 _ _ _ hw hon))
  have hneed : ∀ k, needs md o k = true → V k X (X (ds.getD k 0)) W := fun k hk' => h1 k (h2 k (hk k hk')) (hk k hk')
  have fin : ∀ (v : Value) (W' : World) (m' : Nat), V i X v W' → R W W' → m' ≤ M → T m' (upd X (ds.getD i 0) v) W' → (∀ i' j, i' < all.length → tl.getD i' none = some j → ((i' = i ∨ on i') ↔ j < m')) →
    (JX md A ds all tl M V T (fun k => k = i ∨ on k) (upd X (ds.getD i 0) v) W' ∧ ∀ k, k < all.length → ¬ (k = i ∨ on k) → upd X (ds.getD i 0) v (ds.getD k 0) = A.eval (.tmp (ds.getD k 0))) := by
   intro v W' m' hv hR hm' hT' hon'
   have hlast : ∀ k, k < all.length → ¬ (k = i ∨ on k) → upd X (ds.getD i 0) v (ds.getD k 0) = A.eval (.tmp (ds.getD k 0)) := by
    intro k hkl hk'
    simp only [upd, hne k hkl (fun e => hk' (Or.inl e)), if_false]
    exact h5 k hkl (fun hon => hk' (Or.inr hon))
   refine ⟨⟨?_, ?_, ?_, ⟨m', hm', hT', hon'⟩⟩, hlast⟩
   ·rintro k hkl (rfl | hk')
    ·have e : upd X (ds.getD k 0) v (ds.getD k 0) = v := if_pos rfl
     rw [e]
     refine hX k o X _ v W' hoi (fun q hq => ?_) hv
     have hqo := hk q hq
     unfold upd
     rw [if_neg (hne q (h2 q hqo) (fun e => hn (e ▸ hqo)))]
    ·have e : upd X (ds.getD i 0) v (ds.getD k 0) = X (ds.getD k 0) := if_neg (hne k hkl (fun e => hn (e ▸ hk')))
     rw [e]
     obtain ⟨ok, hok⟩ : ∃ ok, all[k]? = some ok := ⟨_, List.getElem?_eq_getElem hkl⟩
     refine hX k ok X _ _ W' hok (fun q hq => ?_) (hV _ _ _ _ _ (h1 k hkl hk') hR)
     have hqo := h4 k ok hok hk' q hq
     unfold upd
     rw [if_neg (hne q (h2 q hqo) (fun e => hn (e ▸ hqo)))]
   ·rintro k (rfl | hk')
    ·exact hil
    ·exact h2 k hk'
   ·rintro k o' ho' (rfl | hk') m hm
    ·rw [hoi] at ho'
     cases ho'
     exact Or.inr (hk m hm)
    ·exact Or.inr (h4 k o' ho' hk' m hm)
  cases ht : tl.getD i none with
  | none =>
   refine Oper.wp_mono ?_ (h.1.1 ht X W m hTm (fun j q hj e hw => by
    rcases Nat.lt_or_ge q m with h' | h'
    ·exact absurd (waits_on h4 _ _ _ hw ((hon j q hj e).2 h')) hn
    ·exact h') hneed hold)
   rintro a' W' ⟨v, rfl, hv, hT', hR⟩
   refine ⟨_, hput v, fin v W' m hv hR hmM (hT m X _ W' (fun k hkl hkt => ?_) hT') (fun i' j hi' e => ?_)⟩
   ·have : k ≠ i := fun e => hkt (e ▸ ht)
    unfold upd
    rw [if_neg (hne k hkl this)]
   ·rw [← hon i' j hi' e]
    constructor
    ·rintro (rfl | h') <;> first | exact h' | (rw [ht] at e; cases e)
    ·exact Or.inr
  | some j =>
   have hmj : m = j := by
    have h6 : ¬ j < m := fun hlt => hn ((hon i j hil ht).2 hlt)
    rcases Nat.lt_or_ge m j with h7 | h7
    ·exfalso
     obtain ⟨j', rfl⟩ : ∃ j', j = j' + 1 := ⟨j - 1, by omega⟩
     obtain ⟨q, hq, hqt, hw⟩ := htl.prev i j' hil ht
     have hqon : on q := by
      obtain ⟨f, hf⟩ : ∃ f, all.length = f + 1 := ⟨all.length - 1, by omega⟩
      rw [hf] at hw
      unfold waitsB at hw
      rw [hoi] at hw
      obtain ⟨e, he, h8⟩ := Array.any_eq_true'.1 hw
      rw [Bool.and_eq_true, Bool.or_eq_true] at h8
      have hm8 : on e.on := hk e.on (Array.any_eq_true'.2 ⟨e, he, by rw [h8.1]; simp⟩)
      rcases h8.2 with h9 | h9
      ·rw [← show e.on = q by simpa using h9]; exact hm8
      ·exact waits_on h4 _ _ _ h9 hm8
     have := (hon q j' hq hqt).1 hqon
     omega
    ·omega
   subst hmj
   refine Oper.wp_mono ?_ (h.1.2 m ht X W hTm hneed hold)
   rintro a' W' ⟨v, rfl, hv, hT', hR⟩
   refine ⟨_, hput v, fin v W' (m + 1) hv hR (htl.lt i m hil ht) hT' (fun i' j hi' e => ?_)⟩
   constructor
   ·rintro (rfl | h')
    ·rw [ht] at e; cases e; omega
    ·have := (hon i' j hi' e).1 h'; omega
   ·intro hj
    by_cases hjm : j = m
    ·subst hjm; exact Or.inl (htl.one i' i j hi' hil e ht)
    ·exact Or.inr ((hon i' j hi' e).2 (by omega))
theorem wp_region_X {id : Nat} {ops : List Oper} {a : Act} {w : World} (ds : List Nat) (tl : List (Option Nat)) (M : Nat) (V : Nat → (Nat → Value) → Value → World → Prop) (T : Nat → (Nat → Value) → World → Prop) (R : World → World → Prop) (hm : P.follows .mixedOrders = true) (hp : plainB .any ops = true) (hsz : a.tmps.size ≤ 1000000) (hds : dstsT ds ops = true) (htl : tailB .any ops tl M = true)
  (hV : ∀ i X v W W', V i X v W → R W W' → V i X v W') (hX : ∀ i o X X' v W, ops[i]? = some o → (∀ k, needs .any o k = true → X (ds.getD k 0) = X' (ds.getD k 0)) → V i X v W → V i X' v W) (hT : ∀ m X X' W, (∀ i, i < ops.length → tl.getD i none ≠ none → X (ds.getD i 0) = X' (ds.getD i 0)) → T m X W → T m X' W)
  (h0 : T 0 (fun k => a.tmps.getD k undef) w.drew) (hst : StepsX P .any Q a ds ops tl V T R 0 ops)
  (hdone : ∀ X W, (∀ i, i < ops.length → V i X (X (ds.getD i 0)) W) → T M X W → Q .normal (puts a X ds) W) : (Code.region id ops.toArray true).wp P Q a w := by
 have htl' := tailB_at htl
 refine wp_region_J ds _ hm hp ?_ (steps_of_X hsz hds htl' hV hX hT (all := ops) (i := 0) (fun j o e => by rwa [Nat.zero_add]) hst) ?_
 ·exact ⟨⟨fun _ _ h => h.elim, fun _ h => h.elim, fun _ _ _ h => h.elim, 0, Nat.zero_le _, h0, fun i j _ _ => ⟨fun h => h.elim, fun h => absurd h (by omega)⟩⟩, fun _ _ _ => rfl⟩
 ·rintro on X W ⟨⟨h1, _, _, m, hmM, hTm, hon⟩, _⟩ hall
  have : m = M := by
   rcases Nat.lt_or_ge m M with h | h
   ·obtain ⟨i, hi, e⟩ := htl'.ex m h
    have := (hon i m hi e).1 (hall i hi)
    omega
   ·omega
  subst this
  exact hdone X W (fun i hi => h1 i hi (hall i hi)) hTm
end
end
section
open Go.RowKit
theorem upd_atX (X : Nat → Value) (d : Nat) (v : Value) : upd X d v d = v := if_pos rfl
theorem upd_neX (X : Nat → Value) {d k : Nat} (v : Value) (h : k ≠ d) : upd X d v k = X k := if_neg h
set_option maxHeartbeats 2000000 in
theorem run_r9 {W0 : World} {A : Act} {p jb ab sn scap : Nat} {svo : Option Addr} {d : Int} {jc ac : Array Value} {TQ : Value → Value → Array Value → Int → World → Prop} {K : Act → World → Prop} {Q' : Exit → Act → World → Prop} (hsz : A.tmps.size = 70) (hA1 : A.eval (.tmp 1) = .pointer (some ⟨jb, 0, none⟩)) (hA5 : A.eval (.tmp 5) = .pointer (some ⟨p, 0, none⟩)) (hA6 : A.eval (.tmp 6) = .pointer (some ⟨ab, 0, none⟩)) (hA7 : A.eval (.tmp 7) = .int .i64 d) (hJ : W0.heap[jb]? = some (.cells jc 27 (0, 0))) (hjs : (Tryz.prog.info? 27).map (·.size) = some jc.size) (hB : W0.heap[ab]? = some (.cells ac 114 (0, 0))) (has : (Tryz.prog.info? 114).map (·.size) = some ac.size) (has10 : (Tryz.prog.info? 114).map (·.size) = some 10) (hP : W0.cell? ⟨p, 0, none⟩ = some (.slice svo sn scap)) (hSt : ∀ W, Below W0.heap.size W0 W → Calls Tryz.prog 53 #[.pointer (some ⟨p, 0, none⟩), .agg jc, .int .i64 d, .int .i64 sn, .agg ac] W fun r W' => ∃ tv uv rc e, r = .returned (.tuple #[tv, uv, .agg rc, .int .i64 e]) ∧ (TQ tv uv rc e W' ∧ W0.heap.size ≤ W'.heap.size) ∧ (∀ q, W0.heap.size ≤ q → ∀ c, W.heap[q]? = some (.cells c 114 (0, 0)) → ∃ c', W'.heap[q]? = some (.cells c' 114 (0, 0)) ∧ c'.size = c.size)) (hrs : ∀ tv uv rc e W, TQ tv uv rc e W → rc.size = 10 ∧ rc.all (·.oneCell') = true) (hTn : ∀ tv uv rc e W q c, W0.heap.size ≤ q → TQ tv uv rc e W → W.heap[q]? = some (.cells c 114 (0, 0)) → ∀ W', Fr W W' (fun k => k = q) → TQ tv uv rc e W') (hTa : ∀ tv uv rc e W W', TQ tv uv rc e W → Below W.heap.size W W' → TQ tv uv rc e W')
  (HK : ∀ X W, (∃ tv uv rc e q, X 8 = tv ∧ X 9 = uv ∧ X 11 = .int .i64 e ∧ X 10 = .pointer (some ⟨q, 0, none⟩) ∧ TQ tv uv rc e W ∧ W0.heap.size ≤ q ∧ W.heap[q]? = some (.cells rc 114 (0, 0))) → K (puts A X [34, 35, 36, 37, 38, 39, 40, 41, 42, 43, 44, 33, 45, 46, 47, 48, 10, 8, 9, 1000019, 11]) W) :
  Code.wp Tryz.prog ((Tryz.f22.body.bind (regionJ 9)).getD .skip) (Exit.then K Q') A W0 := by
 obtain ⟨ds, hds⟩ : ∃ ds, [34, 35, 36, 37, 38, 39, 40, 41, 42, 43, 44, 33, 45, 46, 47, 48, 10, 8, 9, 1000019, 11] = ds := ⟨_, rfl⟩
 have hin : ∀ {X : Nat → Value} {k : Nat}, k ∈ [34, 35, 36, 37, 38, 39, 40, 41, 42, 43, 44, 33, 45, 46, 47, 48, 10, 8, 9, 1000019, 11] → k < 70 → (puts A X ds).eval (.tmp k) = X k := fun hk hl => by rw [← hds]; exact eval_in hk (by rw [hsz]; exact hl)
 have hout : ∀ {X : Nat → Value} {k : Nat}, k ∉ [34, 35, 36, 37, 38, 39, 40, 41, 42, 43, 44, 33, 45, 46, 47, 48, 10, 8, 9, 1000019, 11] → (puts A X ds).eval (.tmp k) = A.eval (.tmp k) := fun hk => by rw [← hds]; exact eval_out hk
 have g0 : ds.getD 0 0 = 34 := by rw [← hds]; rfl
 have g1 : ds.getD 1 0 = 35 := by rw [← hds]; rfl
 have g2 : ds.getD 2 0 = 36 := by rw [← hds]; rfl
 have g3 : ds.getD 3 0 = 37 := by rw [← hds]; rfl
 have g4 : ds.getD 4 0 = 38 := by rw [← hds]; rfl
 have g5 : ds.getD 5 0 = 39 := by rw [← hds]; rfl
 have g6 : ds.getD 6 0 = 40 := by rw [← hds]; rfl
 have g7 : ds.getD 7 0 = 41 := by rw [← hds]; rfl
 have g8 : ds.getD 8 0 = 42 := by rw [← hds]; rfl
 have g9 : ds.getD 9 0 = 43 := by rw [← hds]; rfl
 have g10 : ds.getD 10 0 = 44 := by rw [← hds]; rfl
 have g11 : ds.getD 11 0 = 33 := by rw [← hds]; rfl
 have g12 : ds.getD 12 0 = 45 := by rw [← hds]; rfl
 have g13 : ds.getD 13 0 = 46 := by rw [← hds]; rfl
 have g14 : ds.getD 14 0 = 47 := by rw [← hds]; rfl
 have g15 : ds.getD 15 0 = 48 := by rw [← hds]; rfl
 have g16 : ds.getD 16 0 = 10 := by rw [← hds]; rfl
 have g17 : ds.getD 17 0 = 8 := by rw [← hds]; rfl
 have g18 : ds.getD 18 0 = 9 := by rw [← hds]; rfl
 have g19 : ds.getD 19 0 = 1000019 := by rw [← hds]; rfl
 have g20 : ds.getD 20 0 = 11 := by rw [← hds]; rfl
 obtain ⟨R, hR⟩ : ∃ R : World → World → Prop, ∀ W W', R W W' = (∀ q, W0.heap.size ≤ q → ∀ c, W.heap[q]? = some (.cells c 114 (0, 0)) → ∃ c', W'.heap[q]? = some (.cells c' 114 (0, 0)) ∧ c'.size = c.size) := ⟨fun W W' => ∀ q, W0.heap.size ≤ q → ∀ c, W.heap[q]? = some (.cells c 114 (0, 0)) → ∃ c', W'.heap[q]? = some (.cells c' 114 (0, 0)) ∧ c'.size = c.size, fun _ _ => rfl⟩
 obtain ⟨V, hV, e0, e1, e2, e3, e4, e5, e6, e7, e8, e9, e10, e11, e12, e13, e14, e15, e16, e17, e18, e19, e20⟩ : ∃ V : Nat → (Nat → Value) → Value → World → Prop, (∀ i X v W W', V i X v W → R W W' → V i X v W') ∧ (∀ X v W, V 0 X v W = (v = .pointer (some ⟨p, 0, none⟩))) ∧ (∀ X v W, V 1 X v W = (v = .agg jc)) ∧ (∀ X v W, V 2 X v W = (v = .int .i64 d)) ∧ (∀ X v W, V 3 X v W = (v = .pointer (some ⟨p, 0, none⟩))) ∧ (∀ X v W, V 4 X v W = (v = .pointer (some ⟨p, 0, none⟩))) ∧ (∀ X v W, V 5 X v W = (v = .pointer (some ⟨p, 0, none⟩))) ∧ (∀ X v W, V 6 X v W = (v = .pointer (some ⟨p, 0, none⟩))) ∧ (∀ X v W, V 7 X v W = (v = .slice svo sn scap)) ∧ (∀ X v W, V 8 X v W = (v = .int .i64 sn)) ∧ (∀ X v W, V 9 X v W = (v = .agg ac)) ∧ (∀ X v W, V 10 X v W = (∃ tv uv rc e, v = .tuple #[tv, uv, .agg rc, .int .i64 e])) ∧ (∀ X v W, V 11 X v W = ((∃ tv uv rc e, v = .tuple #[tv, uv, .agg rc, .int .i64 e]) ∧ v = X 44)) ∧ (∀ X v W, V 12 X v W = (∃ tv uv rc e, X 33 = .tuple #[tv, uv, .agg rc, .int .i64 e] ∧ v = tv)) ∧ (∀ X v W, V 13 X v W = (∃ tv uv rc e, X 33 = .tuple #[tv, uv, .agg rc, .int .i64 e] ∧ v = uv)) ∧ (∀ X v W, V 14 X v W = (∃ tv uv rc e, X 33 = .tuple #[tv, uv, .agg rc, .int .i64 e] ∧ v = .agg rc)) ∧ (∀ X v W, V 15 X v W = (∃ tv uv rc e, X 33 = .tuple #[tv, uv, .agg rc, .int .i64 e] ∧ v = .int .i64 e)) ∧ (∀ X v W, V 16 X v W = (∃ q c, v = .pointer (some ⟨q, 0, none⟩) ∧ W0.heap.size ≤ q ∧ W.heap[q]? = some (.cells c 114 (0, 0)) ∧ c.size = 10)) ∧ (∀ X v W, V 17 X v W = (v = X 45)) ∧ (∀ X v W, V 18 X v W = (v = X 46)) ∧ (∀ X v W, V 19 X v W = (v = X 10)) ∧ (∀ X v W, V 20 X v W = (v = X 48)) := by
  refine ⟨fun i X v W => match i with
   | 0 => v = .pointer (some ⟨p, 0, none⟩)
   | 1 => v = .agg jc
   | 2 => v = .int .i64 d
   | 3 => v = .pointer (some ⟨p, 0, none⟩)
   | 4 => v = .pointer (some ⟨p, 0, none⟩)
   | 5 => v = .pointer (some ⟨p, 0, none⟩)
   | 6 => v = .pointer (some ⟨p, 0, none⟩)
   | 7 => v = .slice svo sn scap
   | 8 => v = .int .i64 sn
   | 9 => v = .agg ac
   | 10 => ∃ tv uv rc e, v = .tuple #[tv, uv, .agg rc, .int .i64 e]
   | 11 => (∃ tv uv rc e, v = .tuple #[tv, uv, .agg rc, .int .i64 e]) ∧ v = X 44
   | 12 => ∃ tv uv rc e, X 33 = .tuple #[tv, uv, .agg rc, .int .i64 e] ∧ v = tv
   | 13 => ∃ tv uv rc e, X 33 = .tuple #[tv, uv, .agg rc, .int .i64 e] ∧ v = uv
   | 14 => ∃ tv uv rc e, X 33 = .tuple #[tv, uv, .agg rc, .int .i64 e] ∧ v = .agg rc
   | 15 => ∃ tv uv rc e, X 33 = .tuple #[tv, uv, .agg rc, .int .i64 e] ∧ v = .int .i64 e
   | 16 => ∃ q c, v = .pointer (some ⟨q, 0, none⟩) ∧ W0.heap.size ≤ q ∧ W.heap[q]? = some (.cells c 114 (0, 0)) ∧ c.size = 10
   | 17 => v = X 45
   | 18 => v = X 46
   | 19 => v = X 10
   | 20 => v = X 48
   | _ => True, ?_, fun _ _ _ => rfl, fun _ _ _ => rfl, fun _ _ _ => rfl, fun _ _ _ => rfl, fun _ _ _ => rfl, fun _ _ _ => rfl, fun _ _ _ => rfl, fun _ _ _ => rfl, fun _ _ _ => rfl, fun _ _ _ => rfl, fun _ _ _ => rfl, fun _ _ _ => rfl, fun _ _ _ => rfl, fun _ _ _ => rfl, fun _ _ _ => rfl, fun _ _ _ => rfl, fun _ _ _ => rfl, fun _ _ _ => rfl, fun _ _ _ => rfl, fun _ _ _ => rfl, fun _ _ _ => rfl⟩
  intro i X v W W' h hb
  rw [hR] at hb
  match i, h with
  | 0, h => exact h
  | 1, h => exact h
  | 2, h => exact h
  | 3, h => exact h
  | 4, h => exact h
  | 5, h => exact h
  | 6, h => exact h
  | 7, h => exact h
  | 8, h => exact h
  | 9, h => exact h
  | 10, h => exact h
  | 11, h => exact h
  | 12, h => exact h
  | 13, h => exact h
  | 14, h => exact h
  | 15, h => exact h
  | 16, h => exact (by obtain ⟨q, c, h1, h2, h3, h4⟩ := h; obtain ⟨c', h5, h6⟩ := hb q h2 c h3; exact ⟨q, c', h1, h2, h5, by rw [h6, h4]⟩)
  | 17, h => exact h
  | 18, h => exact h
  | 19, h => exact h
  | 20, h => exact h
  | _ + 21, _ => trivial
 obtain ⟨T, hTC, hTS, t0, t1, t2⟩ : ∃ T : Nat → (Nat → Value) → World → Prop, (∀ m X W, T m X W → (True)) ∧ (∀ m X X' W, (∀ i, i < 21 → ([none, none, none, none, none, none, none, none, none, none, some 0, none, none, none, none, none, none, none, none, some 1, none] : List (Option Nat)).getD i none ≠ none → X (ds.getD i 0) = X' (ds.getD i 0)) → T m X W → T m X' W) ∧ (∀ X W, T 0 X W = (Below W0.heap.size W0 W)) ∧ (∀ X W, T 1 X W = (∃ tv uv rc e, X 44 = .tuple #[tv, uv, .agg rc, .int .i64 e] ∧ TQ tv uv rc e W ∧ W0.heap.size ≤ W.heap.size)) ∧ (∀ X W, T 2 X W = (∃ tv uv rc e q, X 44 = .tuple #[tv, uv, .agg rc, .int .i64 e] ∧ TQ tv uv rc e W ∧ X 1000019 = .pointer (some ⟨q, 0, none⟩) ∧ W0.heap.size ≤ q ∧ W.heap[q]? = some (.cells rc 114 (0, 0)))) := by
  refine ⟨fun m X W => match m with
   | 0 => Below W0.heap.size W0 W
   | 1 => ∃ tv uv rc e, X 44 = .tuple #[tv, uv, .agg rc, .int .i64 e] ∧ TQ tv uv rc e W ∧ W0.heap.size ≤ W.heap.size
   | 2 => ∃ tv uv rc e q, X 44 = .tuple #[tv, uv, .agg rc, .int .i64 e] ∧ TQ tv uv rc e W ∧ X 1000019 = .pointer (some ⟨q, 0, none⟩) ∧ W0.heap.size ≤ q ∧ W.heap[q]? = some (.cells rc 114 (0, 0))
   | _ => False, ?_, ?_, fun _ _ => rfl, fun _ _ => rfl, fun _ _ => rfl⟩
  ·intro m X W h
   match m, h with
   | 0, h => exact trivial
   | 1, h => exact trivial
   | 2, h => exact trivial
  ·intro m X X' W he h
   have q10 := he 10 (by decide) (by decide)
   rw [g10] at q10
   have q19 := he 19 (by decide) (by decide)
   rw [g19] at q19
   match m, h with
   | 0, h => exact h
   | 1, h => 
    have h2 : ∃ tv uv rc e, X 44 = .tuple #[tv, uv, .agg rc, .int .i64 e] ∧ TQ tv uv rc e W ∧ W0.heap.size ≤ W.heap.size := h
    show ∃ tv uv rc e, X' 44 = .tuple #[tv, uv, .agg rc, .int .i64 e] ∧ TQ tv uv rc e W ∧ W0.heap.size ≤ W.heap.size
    rw [← q10]
    exact h2
   | 2, h => 
    have h2 : ∃ tv uv rc e q, X 44 = .tuple #[tv, uv, .agg rc, .int .i64 e] ∧ TQ tv uv rc e W ∧ X 1000019 = .pointer (some ⟨q, 0, none⟩) ∧ W0.heap.size ≤ q ∧ W.heap[q]? = some (.cells rc 114 (0, 0)) := h
    show ∃ tv uv rc e q, X' 44 = .tuple #[tv, uv, .agg rc, .int .i64 e] ∧ TQ tv uv rc e W ∧ X' 1000019 = .pointer (some ⟨q, 0, none⟩) ∧ W0.heap.size ≤ q ∧ W.heap[q]? = some (.cells rc 114 (0, 0))
    rw [← q10, ← q19]
    exact h2
 have hRefl : ∀ W : World, ∀ q, W0.heap.size ≤ q → ∀ c, W.heap[q]? = some (.cells c 114 (0, 0)) → ∃ c', W.heap[q]? = some (.cells c' 114 (0, 0)) ∧ c'.size = c.size := fun W q _ c h => ⟨c, h, rfl⟩
 conv => arg 2; whnf
 refine wp_region_X ds [none, none, none, none, none, none, none, none, none, none, some 0, none, none, none, none, none, none, none, none, some 1, none] 2 V T R (by kernel_rfl) (by kernel_rfl) (by rw [hsz]; decide) (by rw [← hds]; kernel_rfl) (by kernel_rfl) hV ?_ hTS ?_ ?_ ?_
 ·intro i o X X' v W ho hn h
  match i, ho, h with
  | 0, ho, h => rw [e0] at h ⊢; exact h
  | 1, ho, h => rw [e1] at h ⊢; exact h
  | 2, ho, h => rw [e2] at h ⊢; exact h
  | 3, ho, h => rw [e3] at h ⊢; exact h
  | 4, ho, h => rw [e4] at h ⊢; exact h
  | 5, ho, h => rw [e5] at h ⊢; exact h
  | 6, ho, h => rw [e6] at h ⊢; exact h
  | 7, ho, h => rw [e7] at h ⊢; exact h
  | 8, ho, h => rw [e8] at h ⊢; exact h
  | 9, ho, h => rw [e9] at h ⊢; exact h
  | 10, ho, h => rw [e10] at h ⊢; exact h
  | 11, ho, h =>
   cases ho
   rw [e11] at h ⊢
   have q10 := hn 10 (by kernel_rfl)
   rw [g10] at q10
   rw [← q10]
   exact h
  | 12, ho, h =>
   cases ho
   rw [e12] at h ⊢
   have q11 := hn 11 (by kernel_rfl)
   rw [g11] at q11
   rw [← q11]
   exact h
  | 13, ho, h =>
   cases ho
   rw [e13] at h ⊢
   have q11 := hn 11 (by kernel_rfl)
   rw [g11] at q11
   rw [← q11]
   exact h
  | 14, ho, h =>
   cases ho
   rw [e14] at h ⊢
   have q11 := hn 11 (by kernel_rfl)
   rw [g11] at q11
   rw [← q11]
   exact h
  | 15, ho, h =>
   cases ho
   rw [e15] at h ⊢
   have q11 := hn 11 (by kernel_rfl)
   rw [g11] at q11
   rw [← q11]
   exact h
  | 16, ho, h => rw [e16] at h ⊢; exact h
  | 17, ho, h =>
   cases ho
   rw [e17] at h ⊢
   have q12 := hn 12 (by kernel_rfl)
   rw [g12] at q12
   rw [← q12]
   exact h
  | 18, ho, h =>
   cases ho
   rw [e18] at h ⊢
   have q13 := hn 13 (by kernel_rfl)
   rw [g13] at q13
   rw [← q13]
   exact h
  | 19, ho, h =>
   cases ho
   rw [e19] at h ⊢
   have q16 := hn 16 (by kernel_rfl)
   rw [g16] at q16
   rw [← q16]
   exact h
  | 20, ho, h =>
   cases ho
   rw [e20] at h ⊢
   have q15 := hn 15 (by kernel_rfl)
   rw [g15] at q15
   rw [← q15]
   exact h
  | _ + 21, ho, h => cases ho
 ·rw [t0]; exact below_drewK _
 ·refine ⟨⟨?_, ?_⟩, ⟨?_, ?_⟩, ⟨?_, ?_⟩, ⟨?_, ?_⟩, ⟨?_, ?_⟩, ⟨?_, ?_⟩, ⟨?_, ?_⟩, ⟨?_, ?_⟩, ⟨?_, ?_⟩, ⟨?_, ?_⟩, ⟨?_, ?_⟩, ⟨?_, ?_⟩, ⟨?_, ?_⟩, ⟨?_, ?_⟩, ⟨?_, ?_⟩, ⟨?_, ?_⟩, ⟨?_, ?_⟩, ⟨?_, ?_⟩, ⟨?_, ?_⟩, ⟨?_, ?_⟩, ⟨?_, ?_⟩, trivial⟩
  ·intro _ X W m hTm hw hd hu
   have hC := hTC _ _ _ hTm
   have h0 := hout (X := X) (k := 5) (by decide)
   rw [hA5] at h0
   refine op_value (v := .pointer (some ⟨p, 0, none⟩)) (w' := W) ?_ ⟨_, rfl, by rw [e0], hTm, by rw [hR]; exact hRefl W⟩
   generalize (puts A X ds).eval = ρ at h0 ⊢
   go_simp
  ·intro m h; have h' : (none : Option Nat) = some m := h; cases h'
  ·intro _ X W m hTm hw hd hu
   have hC := hTC _ _ _ hTm
   have h0 := hout (X := X) (k := 1) (by decide)
   rw [hA1] at h0
   have hz := hw 10 0 (by decide) rfl (by kernel_rfl)
   obtain rfl : m = 0 := by omega
   have hT0 := hTm
   rw [t0] at hT0
   exact wp_load_row 27 _ rfl jb h0 27 jc (0, 0) _ ((hT0.block jb (Array.getElem?_eq_some_iff.1 hJ).1).trans hJ) Tryz.underlying27 rfl hjs ⟨_, rfl, by rw [e1], hTm, by rw [hR]; exact hRefl W⟩
  ·intro m h; have h' : (none : Option Nat) = some m := h; cases h'
  ·intro _ X W m hTm hw hd hu
   have hC := hTC _ _ _ hTm
   have h0 := hout (X := X) (k := 7) (by decide)
   rw [hA7] at h0
   refine op_value (v := .int .i64 d) (w' := W) ?_ ⟨_, rfl, by rw [e2], hTm, by rw [hR]; exact hRefl W⟩
   generalize (puts A X ds).eval = ρ at h0 ⊢
   go_simp
  ·intro m h; have h' : (none : Option Nat) = some m := h; cases h'
  ·intro _ X W m hTm hw hd hu
   have hC := hTC _ _ _ hTm
   have h0 := hout (X := X) (k := 5) (by decide)
   rw [hA5] at h0
   refine op_value (v := .pointer (some ⟨p, 0, none⟩)) (w' := W) ?_ ⟨_, rfl, by rw [e3], hTm, by rw [hR]; exact hRefl W⟩
   generalize (puts A X ds).eval = ρ at h0 ⊢
   go_simp
  ·intro m h; have h' : (none : Option Nat) = some m := h; cases h'
  ·intro _ X W m hTm hw hd hu
   have hC := hTC _ _ _ hTm
   have d0 := hd 3 (by kernel_rfl)
   rw [e3, g3] at d0
   have h0 := (hin (X := X) (k := 37) (by decide) (by decide)).trans d0
   refine op_value (v := .pointer (some ⟨p, 0, none⟩)) (w' := W) ?_ ⟨_, rfl, by rw [e4], hTm, by rw [hR]; exact hRefl W⟩
   generalize (puts A X ds).eval = ρ at h0 ⊢
   go_simp
  ·intro m h; have h' : (none : Option Nat) = some m := h; cases h'
  ·intro _ X W m hTm hw hd hu
   have hC := hTC _ _ _ hTm
   have d0 := hd 4 (by kernel_rfl)
   rw [e4, g4] at d0
   have h0 := (hin (X := X) (k := 38) (by decide) (by decide)).trans d0
   refine op_value (v := .pointer (some ⟨p, 0, none⟩)) (w' := W) ?_ ⟨_, rfl, by rw [e5], hTm, by rw [hR]; exact hRefl W⟩
   generalize (puts A X ds).eval = ρ at h0 ⊢
   go_simp
  ·intro m h; have h' : (none : Option Nat) = some m := h; cases h'
  ·intro _ X W m hTm hw hd hu
   have hC := hTC _ _ _ hTm
   have d0 := hd 5 (by kernel_rfl)
   rw [e5, g5] at d0
   have h0 := (hin (X := X) (k := 39) (by decide) (by decide)).trans d0
   refine op_value (v := .pointer (some ⟨p, 0, none⟩)) (w' := W) ?_ ⟨_, rfl, by rw [e6], hTm, by rw [hR]; exact hRefl W⟩
   generalize (puts A X ds).eval = ρ at h0 ⊢
   go_simp
  ·intro m h; have h' : (none : Option Nat) = some m := h; cases h'
  ·intro _ X W m hTm hw hd hu
   have hC := hTC _ _ _ hTm
   have d0 := hd 6 (by kernel_rfl)
   rw [e6, g6] at d0
   have h0 := (hin (X := X) (k := 40) (by decide) (by decide)).trans d0
   have hz := hw 10 0 (by decide) rfl (by kernel_rfl)
   obtain rfl : m = 0 := by omega
   have hT0 := hTm
   rw [t0] at hT0
   have c0 := (hT0.cell (p := ⟨p, 0, none⟩) (lt_cell hP)).trans hP
   refine op_value (v := .slice svo sn scap) (w' := W) ?_ ⟨_, rfl, by rw [e7], hTm, by rw [hR]; exact hRefl W⟩
   generalize (puts A X ds).eval = ρ at h0 ⊢
   go_simp
  ·intro m h; have h' : (none : Option Nat) = some m := h; cases h'
  ·intro _ X W m hTm hw hd hu
   have hC := hTC _ _ _ hTm
   have d0 := hd 7 (by kernel_rfl)
   rw [e7, g7] at d0
   have h0 := (hin (X := X) (k := 41) (by decide) (by decide)).trans d0
   refine op_value (v := .int .i64 sn) (w' := W) ?_ ⟨_, rfl, by rw [e8], hTm, by rw [hR]; exact hRefl W⟩
   generalize (puts A X ds).eval = ρ at h0 ⊢
   go_simp
  ·intro m h; have h' : (none : Option Nat) = some m := h; cases h'
  ·intro _ X W m hTm hw hd hu
   have hC := hTC _ _ _ hTm
   have h0 := hout (X := X) (k := 6) (by decide)
   rw [hA6] at h0
   have hz := hw 10 0 (by decide) rfl (by kernel_rfl)
   obtain rfl : m = 0 := by omega
   have hT0 := hTm
   rw [t0] at hT0
   exact wp_load_row 114 _ rfl ab h0 114 ac (0, 0) _ ((hT0.block ab (Array.getElem?_eq_some_iff.1 hB).1).trans hB) Tryz.underlying114 rfl has ⟨_, rfl, by rw [e9], hTm, by rw [hR]; exact hRefl W⟩
  ·intro m h; have h' : (none : Option Nat) = some m := h; cases h'
  ·intro h; have h' : (some 0 : Option Nat) = none := h; cases h'
  ·intro m hm0 X W hTm hd hu
   have hm1 : some 0 = some m := hm0
   cases hm1
   have hC := hTC _ _ _ hTm
   have d0 := hd 0 (by kernel_rfl)
   rw [e0, g0] at d0
   have h0 := (hin (X := X) (k := 34) (by decide) (by decide)).trans d0
   have d1 := hd 1 (by kernel_rfl)
   rw [e1, g1] at d1
   have h1 := (hin (X := X) (k := 35) (by decide) (by decide)).trans d1
   have d2 := hd 2 (by kernel_rfl)
   rw [e2, g2] at d2
   have h2 := (hin (X := X) (k := 36) (by decide) (by decide)).trans d2
   have d3 := hd 8 (by kernel_rfl)
   rw [e8, g8] at d3
   have h3 := (hin (X := X) (k := 42) (by decide) (by decide)).trans d3
   have d4 := hd 9 (by kernel_rfl)
   rw [e9, g9] at d4
   have h4 := (hin (X := X) (k := 43) (by decide) (by decide)).trans d4
   rw [t0] at hTm
   have hf : (puts A X ds).eval (.func 53) = .func (.func 53) #[] #[] := rfl
   refine op_call (f := 53) (vs := #[.pointer (some ⟨p, 0, none⟩), .agg jc, .int .i64 d, .int .i64 sn, .agg ac]) ?_ ?_
   ·generalize (puts A X ds).eval = ρ at h0 h1 h2 h3 h4 hf ⊢
    go_simp
   ·refine (hSt W hTm).mono ?_
    rintro r W' ⟨tv, uv, rc, e, rfl, hq, hfr⟩
    exact ⟨_, rfl, _, rfl, by rw [e10]; exact ⟨tv, uv, rc, e, rfl⟩, by rw [t1, g10, upd_atX]; exact ⟨tv, uv, rc, e, rfl, hq.1, hq.2⟩, by rw [hR]; exact hfr⟩
  ·intro _ X W m hTm hw hd hu
   have hC := hTC _ _ _ hTm
   have d0 := hd 10 (by kernel_rfl)
   rw [e10, g10] at d0
   have h0 := hin (X := X) (k := 44) (by decide) (by decide)
   refine op_value (v := X 44) (w' := W) ?_ ⟨_, rfl, by rw [e11]; exact ⟨d0, rfl⟩, hTm, by rw [hR]; exact hRefl W⟩
   generalize (puts A X ds).eval = ρ at h0 ⊢
   go_simp
  ·intro m h; have h' : (none : Option Nat) = some m := h; cases h'
  ·intro _ X W m hTm hw hd hu
   have hC := hTC _ _ _ hTm
   have d0 := hd 11 (by kernel_rfl)
   rw [e11, g11] at d0
   have h0 := hin (X := X) (k := 33) (by decide) (by decide)
   obtain ⟨⟨tv, uv, rc, e, hv⟩, hx⟩ := d0
   rw [hv] at h0
   refine op_value (v := tv) (w' := W) ?_ ⟨_, rfl, by rw [e12]; exact ⟨tv, uv, rc, e, hv, rfl⟩, hTm, by rw [hR]; exact hRefl W⟩
   generalize (puts A X ds).eval = ρ at h0 ⊢
   go_simp
  ·intro m h; have h' : (none : Option Nat) = some m := h; cases h'
  ·intro _ X W m hTm hw hd hu
   have hC := hTC _ _ _ hTm
   have d0 := hd 11 (by kernel_rfl)
   rw [e11, g11] at d0
   have h0 := hin (X := X) (k := 33) (by decide) (by decide)
   obtain ⟨⟨tv, uv, rc, e, hv⟩, hx⟩ := d0
   rw [hv] at h0
   refine op_value (v := uv) (w' := W) ?_ ⟨_, rfl, by rw [e13]; exact ⟨tv, uv, rc, e, hv, rfl⟩, hTm, by rw [hR]; exact hRefl W⟩
   generalize (puts A X ds).eval = ρ at h0 ⊢
   go_simp
  ·intro m h; have h' : (none : Option Nat) = some m := h; cases h'
  ·intro _ X W m hTm hw hd hu
   have hC := hTC _ _ _ hTm
   have d0 := hd 11 (by kernel_rfl)
   rw [e11, g11] at d0
   have h0 := hin (X := X) (k := 33) (by decide) (by decide)
   obtain ⟨⟨tv, uv, rc, e, hv⟩, hx⟩ := d0
   rw [hv] at h0
   refine op_value (v := .agg rc) (w' := W) ?_ ⟨_, rfl, by rw [e14]; exact ⟨tv, uv, rc, e, hv, rfl⟩, hTm, by rw [hR]; exact hRefl W⟩
   generalize (puts A X ds).eval = ρ at h0 ⊢
   go_simp
  ·intro m h; have h' : (none : Option Nat) = some m := h; cases h'
  ·intro _ X W m hTm hw hd hu
   have hC := hTC _ _ _ hTm
   have d0 := hd 11 (by kernel_rfl)
   rw [e11, g11] at d0
   have h0 := hin (X := X) (k := 33) (by decide) (by decide)
   obtain ⟨⟨tv, uv, rc, e, hv⟩, hx⟩ := d0
   rw [hv] at h0
   refine op_value (v := .int .i64 e) (w' := W) ?_ ⟨_, rfl, by rw [e15]; exact ⟨tv, uv, rc, e, hv, rfl⟩, hTm, by rw [hR]; exact hRefl W⟩
   generalize (puts A X ds).eval = ρ at h0 ⊢
   go_simp
  ·intro m h; have h' : (none : Option Nat) = some m := h; cases h'
  ·intro _ X W m hTm hw hd hu
   have hC := hTC _ _ _ hTm
   have hz := hw 19 1 (by decide) rfl (by kernel_rfl)
   have hsz0 : W0.heap.size ≤ W.heap.size := by
    rcases (show m = 0 ∨ m = 1 by omega) with rfl | rfl
    ·rw [t0] at hTm; exact hTm.size
    ·rw [t1] at hTm; obtain ⟨_, _, _, _, _, _, h⟩ := hTm; exact h
   have hT1 : T m X (W.alloc (.cells #[.bool false, .bool false, .bool false, .bool false, .bool false, .int .i64 0, .int .i64 0, .int .i64 0, .int .i64 0, .int .i64 0] 114)) := by
    rcases (show m = 0 ∨ m = 1 by omega) with rfl | rfl
    ·rw [t0] at hTm ⊢; exact hTm.trans ((one_newK W _).mono hTm.size)
    ·rw [t1] at hTm ⊢; obtain ⟨tv, uv, rc, e, h1, h2, h3⟩ := hTm; exact ⟨tv, uv, rc, e, h1, hTa _ _ _ _ _ _ h2 (one_newK W _), by simp; omega⟩
   refine op_value (v := .pointer (some ⟨W.heap.size, 0, none⟩)) (w' := W.alloc (.cells #[.bool false, .bool false, .bool false, .bool false, .bool false, .int .i64 0, .int .i64 0, .int .i64 0, .int .i64 0, .int .i64 0] 114)) ?_ ⟨_, rfl, by rw [e16]; exact ⟨_, _, rfl, hsz0, heap_alloc_new _ _, rfl⟩, hT1, by rw [hR]; exact fun q _ c hc => ⟨c, ((one_newK W _).block q (Array.getElem?_eq_some_iff.1 hc).1).trans hc, rfl⟩⟩
   generalize (puts A X ds).eval = ρ
   go_simp
  ·intro m h; have h' : (none : Option Nat) = some m := h; cases h'
  ·intro _ X W m hTm hw hd hu
   have hC := hTC _ _ _ hTm
   have d0 := hd 12 (by kernel_rfl)
   rw [e12, g12] at d0
   have h0 := hin (X := X) (k := 45) (by decide) (by decide)
   refine op_value (v := X 45) (w' := W) ?_ ⟨_, rfl, by rw [e17], hTm, by rw [hR]; exact hRefl W⟩
   generalize (puts A X ds).eval = ρ at h0 ⊢
   go_simp
  ·intro m h; have h' : (none : Option Nat) = some m := h; cases h'
  ·intro _ X W m hTm hw hd hu
   have hC := hTC _ _ _ hTm
   have d0 := hd 13 (by kernel_rfl)
   rw [e13, g13] at d0
   have h0 := hin (X := X) (k := 46) (by decide) (by decide)
   refine op_value (v := X 46) (w' := W) ?_ ⟨_, rfl, by rw [e18], hTm, by rw [hR]; exact hRefl W⟩
   generalize (puts A X ds).eval = ρ at h0 ⊢
   go_simp
  ·intro m h; have h' : (none : Option Nat) = some m := h; cases h'
  ·intro h; have h' : (some 1 : Option Nat) = none := h; cases h'
  ·intro m hm0 X W hTm hd hu
   have hm1 : some 1 = some m := hm0
   cases hm1
   have hC := hTC _ _ _ hTm
   have d0 := hd 16 (by kernel_rfl)
   rw [e16, g16] at d0
   have h0 := hin (X := X) (k := 10) (by decide) (by decide)
   have d1 := hd 14 (by kernel_rfl)
   rw [e14, g14] at d1
   have h1 := hin (X := X) (k := 47) (by decide) (by decide)
   rw [t1] at hTm
   obtain ⟨q, c, hv, hq1, hq2, hq3⟩ := d0
   rw [hv] at h0
   obtain ⟨tv, uv, rc, e, hx33, hx47⟩ := d1
   rw [hx47] at h1
   obtain ⟨tv', uv', rc', e', hx44, htq, hsz1⟩ := hTm
   have h33 := hd 11 (by kernel_rfl)
   rw [e11, g11] at h33
   have hee := h33.2
   rw [hx33, hx44] at hee
   cases hee
   have hrc := hrs _ _ _ _ _ htq
   refine wp_store_row 114 _ _ rfl q rc h0 h1 114 c hq2 (by rw [hrc.1]; exact has10) (by rw [hrc.1, hq3]) hrc.2 ⟨X 10, rfl, by rw [e19], ?_, ?_⟩
   ·rw [t2, g19, upd_atX, upd_neX _ _ (by decide)]
    exact ⟨tv, uv, rc, e, q, hx44, hTn _ _ _ _ _ q c hq1 htq hq2 _ (fr_setRow W q rc), hv, hq1, setRow_heap _ _ _ _ _ _ hq2⟩
   ·rw [hR]
    intro q' _ c' hc'
    by_cases e : q' = q
    ·subst e
     rw [hq2] at hc'
     cases hc'
     exact ⟨rc, setRow_heap _ _ _ _ _ _ hq2, by rw [hrc.1, hq3]⟩
    ·exact ⟨c', (setRow_other W q q' rc e).trans hc', rfl⟩
  ·intro _ X W m hTm hw hd hu
   have hC := hTC _ _ _ hTm
   have d0 := hd 15 (by kernel_rfl)
   rw [e15, g15] at d0
   have h0 := hin (X := X) (k := 48) (by decide) (by decide)
   refine op_value (v := X 48) (w' := W) ?_ ⟨_, rfl, by rw [e20], hTm, by rw [hR]; exact hRefl W⟩
   generalize (puts A X ds).eval = ρ at h0 ⊢
   go_simp
  ·intro m h; have h' : (none : Option Nat) = some m := h; cases h'
 ·intro X W hall hTm
  have r0 := hall 0 (by decide)
  rw [e0, g0] at r0
  have r1 := hall 1 (by decide)
  rw [e1, g1] at r1
  have r2 := hall 2 (by decide)
  rw [e2, g2] at r2
  have r3 := hall 3 (by decide)
  rw [e3, g3] at r3
  have r4 := hall 4 (by decide)
  rw [e4, g4] at r4
  have r5 := hall 5 (by decide)
  rw [e5, g5] at r5
  have r6 := hall 6 (by decide)
  rw [e6, g6] at r6
  have r7 := hall 7 (by decide)
  rw [e7, g7] at r7
  have r8 := hall 8 (by decide)
  rw [e8, g8] at r8
  have r9 := hall 9 (by decide)
  rw [e9, g9] at r9
  have r10 := hall 10 (by decide)
  rw [e10, g10] at r10
  have r11 := hall 11 (by decide)
  rw [e11, g11] at r11
  have r12 := hall 12 (by decide)
  rw [e12, g12] at r12
  have r13 := hall 13 (by decide)
  rw [e13, g13] at r13
  have r14 := hall 14 (by decide)
  rw [e14, g14] at r14
  have r15 := hall 15 (by decide)
  rw [e15, g15] at r15
  have r16 := hall 16 (by decide)
  rw [e16, g16] at r16
  have r17 := hall 17 (by decide)
  rw [e17, g17] at r17
  have r18 := hall 18 (by decide)
  rw [e18, g18] at r18
  have r19 := hall 19 (by decide)
  rw [e19, g19] at r19
  have r20 := hall 20 (by decide)
  rw [e20, g20] at r20
  rw [t2] at hTm
  have := HK X W (by
   obtain ⟨tv, uv, rc, e, q, h44, htq, h19, hq1, hq2⟩ := hTm
   obtain ⟨a1, a2, a3, a4, b1, b2⟩ := r12
   obtain ⟨c1, c2, c3, c4, d1, d2⟩ := r13
   obtain ⟨f1, f2, f3, f4, i1, i2⟩ := r15
   have h33 := r11.2
   rw [h44] at h33
   rw [h33] at b1 d1 i1
   cases b1
   cases d1
   cases i1
   exact ⟨tv, uv, rc, e, q, r17.trans b2, r18.trans d2, r20.trans i2, r19.symm.trans h19, htq, hq1, hq2⟩)
  rw [hds] at this
  exact this
end
end Go.Proofs.YtmgjlamglhpnaaaGreat
