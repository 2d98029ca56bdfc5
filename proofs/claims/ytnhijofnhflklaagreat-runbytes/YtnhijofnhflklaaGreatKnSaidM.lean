import Derived.Test.YtnhijofnhflklaaGreatMoOthM
import Derived.Test.YtnhijofnhflklaaGreatMsRowM
import Derived.Test.YtnhijofnhflklaaGreatMoGivenM
import Derived.Test.YtnhijofnhflklaaGreatNmManyM
/- What messages say; a number that is given to two kinds; their sum. -/
namespace Go.Proofs.YtnhijofnhflklaaGreat
open Go.RowKit
def sayL (L : List Msg) : List Int := L.map (fun m => m.v)
theorem sayL_len (L : List Msg) : (sayL L).length = L.length := List.length_map _
theorem sayL_snoc (L : List Msg) (j : Nat) (h : j < L.length) : (sayL L).take (j + 1) = (sayL L).take j ++ [L[j].v] := by
  rw [List.take_succ_eq_append_getElem (by rw [sayL_len]; exact h)]
  unfold sayL
  rw [List.getElem_map]
set_option maxRecDepth 100000 in
set_option maxHeartbeats 1000000 in
theorem said_any {w : World} {P : Nat → Prop} {st id va ma : Int} {eo mo po : Option Addr} {en ec mn mc pn pc : Nat} {ha ag0 ag1 ag2 ag3 ag4 ag5 ag6 ag7 ag8 ag9 : Value} (L : List Msg) (hn : mn = L.length) (hL : MsAt w P mo L) (hl : L.length ≤ 1048576) :
    Calls Tryz.prog 245 #[(.agg #[.int .i64 st, .int .i64 id, .int .i64 va, .slice eo en ec, ha, .slice mo mn mc, ag0, ag1, ag2, ag3, ag4, ag5, ag6, ag7, ag8, ag9, .int .i64 ma, .slice po pn pc])] w fun r w' => ∃ ao c, r = .returned (.slice ao L.length c) ∧ KI w' w.heap.size (.slice ao L.length c) (sayL L) ∧ Below w.heap.size w w' := by
  obtain ⟨i0, hi, hz0, hz1, hz2⟩ := info_parts infoKI
  subst hn
  obtain ⟨W0, hW0⟩ : ∃ W0, w.alloc (.cells #[.int .i64 st, .int .i64 id, .int .i64 va, .slice eo en ec, ha, .slice mo L.length mc, ag0, ag1, ag2, ag3, ag4, ag5, ag6, ag7, ag8, ag9, .int .i64 ma, .slice po pn pc] 177) = W0 := ⟨_, rfl⟩
  have hB0 : Below w.heap.size w W0 := by rw [← hW0]; exact one_newK _ _
  have hc := InBox.made w #[.int .i64 st, .int .i64 id, .int .i64 va, .slice eo en ec, ha, .slice mo L.length mc, ag0, ag1, ag2, ag3, ag4, ag5, ag6, ag7, ag8, ag9, .int .i64 ma, .slice po pn pc]
  rw [hW0] at hc
  obtain ⟨_, _, _, _, _, k5, _⟩ := hc.cells
  have HL : Hid (MsAt W0 P mo L) := hL.new hB0
  have HB0 : Hid _ := hB0
  clear hL hc hB0
  go_enter Tryz.func245, Tryz.ntmps245
  go_wp2
  go_loopw [3, 5, 9] (fun u _ i wr => ∃ (j : Nat) (ao : Option Addr) (c : Nat), j ≤ L.length ∧ u = .slice ao j c ∧ i = .int .i64 j ∧ wr.ownsRow W0.heap.size 2 1 (.slice ao j c) j (((sayL L).take j).map (Value.int .i64)) ∧ Below W0.heap.size W0 wr) (fun _ _ i _ => L.length - (intOf i).toNat)
  case atStart => exact ⟨0, none, 0, Nat.zero_le _, rfl, rfl, World.ownsRow_nil _ _ _ _, Below.refl _ _⟩
  case round =>
    obtain ⟨j, ao, c, hj, rfl, rfl, hR, hb⟩ := hrel
    by_cases hlt : j < L.length
    · obtain ⟨b, off, rfl, hP, hc⟩ := HL.out (by omega)
      obtain ⟨e0, e1, e2, e3⟩ := hc j hlt
      have d0 := (hb.cell (p := ⟨b, off + j * 4, none⟩) (lt_cell e0)).trans e0
      have d1 := (hb.cell (p := ⟨b, off + j * 4 + 1, none⟩) (lt_cell e0)).trans e1
      have d2 := (hb.cell (p := ⟨b, off + j * 4 + 2, none⟩) (lt_cell e0)).trans e2
      have d3 := (hb.cell (p := ⟨b, off + j * 4 + 3, none⟩) (lt_cell e0)).trans e3
      have HS : Hid _ := sayL_snoc L j hlt
      have HLg : Hid (j = ((sayL L).take j).length) := by show _ = _; rw [List.length_take, sayL_len]; omega
      generalize L[j] = y at d0 d1 d2 d3 HS
      have HR : Hid _ := hR
      have HB : Hid _ := hb
      clear e0 e1 e2 e3 hc hR hb
      go_wp2_with (at_builtin; refine wpList_append_own_at _ rfl _ _ 25 rfl W0.heap.size 2 i0 (.int .i64 0) 1 8 Tryz.underlying25 hi hz0 hz1 hz2 rfl (by decide) (.slice ao j c) j (((sayL L).take j).map (Value.int .i64)) rfl (k_new (k_new HR.out (one_newK _ _)) (one_newK _ _)) ⟨wr.heap.size + 1, 0, none⟩ 1 1 [.int .i64 y.v] rfl rfl (k_one1 (by have := heap_alloc_new (wr.alloc (.cells #[.int .i64 y.f, .int .i64 y.t, .int .i64 y.a, .int .i64 y.v] 93)) (.cells #[.int .i64 y.v] 2); rw [World.size_alloc] at this; exact this)) (k_oneI _) (by unfold maxLen; omega) (by omega) (by have := HB.out.size; simp; omega) ?_)
      intro v' w4 hown hgrow hne hat
      have hM4 : KI w4 W0.heap.size v' ((sayL L).take (j + 1)) := by rw [HS.out]; exact ki_snoc HLg.out (by rw [List.map_take]; exact hown)
      have hB3 : Below W0.heap.size W0 ((wr.alloc (.cells #[.int .i64 y.f, .int .i64 y.t, .int .i64 y.a, .int .i64 y.v] 93)).alloc (.cells #[.int .i64 y.v] 2)) := (HB.out.alloc HB.out.size _).alloc (by have := HB.out.size; simp; omega) _
      have hB4 : Below W0.heap.size W0 w4 := hB3.trans ((Fr.grown hgrow (S := fun k => W0.heap.size ≤ k) (fun k hk => (World.ownsRow.lt HR.out k hk).1)).below hB3.size (fun k hk => hk))
      obtain ⟨ao', c', rfl⟩ := k_shape hM4
      have e1 : ((sayL L).take (j + 1)).length = j + 1 := by rw [HS.out, List.length_append, ← HLg.out]; rfl
      unfold KI at hM4
      rw [e1] at hM4 ⊢
      have HM4 : Hid _ := hM4
      have HB4 : Hid _ := hB4
      clear hM4 hB3 hB4 hown hgrow hne hat e1
      go_wp2
      go_roundw
      case rel => exact ⟨j + 1, ao', c', by omega, rfl, by go_num, HM4.out, HB4.out⟩
      case measure => simp [intOf]; omega
    · obtain rfl : j = L.length := by omega
      rw [List.take_of_length_le (by rw [sayL_len]; exact Nat.le_refl _)] at hR
      have HR : Hid _ := hR
      have HB : Hid _ := hb
      clear hR hb
      go_wp2
      go_ret
      exact ⟨_, _, rfl, by unfold KI; rw [sayL_len]; exact k_low HR.out HB0.out.size, HB0.out.trans (HB.out.mono HB0.out.size)⟩
set_option maxRecDepth 100000 in
theorem sum_is {lo : Option Addr} {n c : Nat} (zs : List Int) (w : World) (hn : n = zs.length) (hl : zs.length ≤ 1048576) (hL : IsAt w lo zs) (hz : ∀ z ∈ zs, I64 z) :
    Calls Tryz.prog 244 #[.slice lo n c] w fun e w' => e = .returned (.tuple #[.int .i64 (sumF 0 zs).1, .int .i64 (sumF 0 zs).2]) ∧ w' = w := by
  subst hn
  by_cases h0 : 0 < zs.length
  · obtain ⟨b, off, rfl, hc⟩ := hL h0
    refine nsum_any ⟨b, off, none⟩ c zs w (by omega) (fun i hi => ?_) (fun i hi => ?_)
    · rw [Addr.add_lit, hc i hi]
      simp [List.getD, hi]
    · have : zs.getD i 0 = zs[i] := by simp [List.getD, hi]
      rw [this]
      exact hz _ (List.getElem_mem hi)
  · obtain rfl : zs = [] := by cases zs; rfl; simp at h0
    clear h0 hL hz
    go_enter Tryz.func244, Tryz.ntmps244
    go_wp2
    go_loop [4, 11] (fun s i => s = .int .i64 0 ∧ i = .int .i64 0) (fun _ _ => 0)
    case atStart => exact ⟨rfl, rfl⟩
    case round =>
      obtain ⟨rfl, rfl⟩ := hrel
      go_wp2
      go_ret2
      exact ⟨rfl, rfl⟩
end Go.Proofs.YtnhijofnhflklaaGreat
