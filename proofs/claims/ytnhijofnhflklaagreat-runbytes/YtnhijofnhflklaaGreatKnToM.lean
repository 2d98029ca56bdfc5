import Derived.Test.YtnhijofnhflklaaGreatKnDataM
/- To and Back: a message along each edge, a request for each edge back. -/
namespace Go.Proofs.YtnhijofnhflklaaGreat
open Go.RowKit
set_option maxRecDepth 100000 in
set_option maxHeartbeats 1000000 in
theorem to_any {w : World} {P : Nat → Prop} {st id va ma : Int} {eo mo po : Option Addr} {en ec mn mc pn pc : Nat} {ha u0 u1 u2 u3 u4 u5 u6 u7 u8 u9 : Value} (v : Int) (E : List Ed) (he : en = E.length) (hE : EdAt w P eo E) (hl : E.length ≤ 1048576) :
    Calls Tryz.prog 211 #[(.agg #[.int .i64 st, .int .i64 id, .int .i64 va, .slice eo en ec, ha, .slice mo mn mc, u0, u1, u2, u3, u4, u5, u6, u7, u8, u9, .int .i64 ma, .slice po pn pc]), .int .i64 v] w fun r w' => ∃ tv, r = .returned tv ∧ KM w' w.heap.size tv (toL id v E) ∧ Below w.heap.size w w' := by
  obtain ⟨i0, hi, hz0, hz1, hz2⟩ := info_parts infoKM
  subst he
  obtain ⟨W0, hW0⟩ : ∃ W0, w.alloc (.cells #[.int .i64 st, .int .i64 id, .int .i64 va, .slice eo E.length ec, ha, .slice mo mn mc, u0, u1, u2, u3, u4, u5, u6, u7, u8, u9, .int .i64 ma, .slice po pn pc] 177) = W0 := ⟨_, rfl⟩
  have hB0 : Below w.heap.size w W0 := by rw [← hW0]; exact one_newK _ _
  have hc := InBox.made w #[.int .i64 st, .int .i64 id, .int .i64 va, .slice eo E.length ec, ha, .slice mo mn mc, u0, u1, u2, u3, u4, u5, u6, u7, u8, u9, .int .i64 ma, .slice po pn pc]
  rw [hW0] at hc
  have HC : Hid _ := hc
  obtain ⟨_, _, _, k3, _⟩ := hc.cells
  have HE : Hid (EdAt W0 P eo E) := hE.kept (Fr.ofBelow hB0 (fun _ => False)) (fun k hk hp => ⟨fun h => h, hp⟩)
  have HB0 : Hid _ := hB0
  clear hE hc hB0
  go_enter Tryz.func211, Tryz.ntmps211
  go_wp2
  go_loopw [5, 6, 7, 12] (fun u _ _ i wr => ∃ (j : Nat) (ao : Option Addr) (c : Nat), j ≤ E.length ∧ u = .slice ao j c ∧ i = .int .i64 j ∧ KM wr W0.heap.size (.slice ao j c) ((toL id v E).take j) ∧ Below W0.heap.size W0 wr) (fun _ _ _ i _ => E.length - (intOf i).toNat)
  case atStart => exact ⟨0, none, 0, Nat.zero_le _, rfl, rfl, World.ownsRow_nil _ _ _ _, Below.refl _ _⟩
  case round =>
    obtain ⟨j, ao, c, hj, rfl, rfl, hR, hb⟩ := hrel
    by_cases hlt : j < E.length
    · obtain ⟨b, off, rfl, hP, hc⟩ := HE.out (by omega)
      obtain ⟨e0, e1⟩ := hc j hlt
      have d0 := (hb.cell (p := ⟨b, off + j * 2, none⟩) (lt_cell e0)).trans e0
      have d1 := (hb.cell (p := ⟨b, off + j * 2 + 1, none⟩) (lt_cell e0)).trans e1
      have HS : Hid _ := toL_snoc id v E j hlt
      have HLg : Hid (((toL id v E).take j).length = j) := by show _ = _; rw [List.length_take, toL_len]; omega
      generalize E[j] = y at d0 d1 HS
      obtain ⟨_, q1, _⟩ := InBox.cells (InBox.new (InBox.new HC.out hb) (one_newK wr (.cells #[.int .i64 y.t, .int .i64 y.w] 106)))
      have HR : Hid (wr.ownsRow W0.heap.size 93 4 (.slice ao j c) j (((toL id v E).take j).flatMap msgCells)) := by have h := hR; unfold KM at h; rw [HLg.out] at h; exact h
      have HB : Hid _ := hb
      clear e0 e1 hc hR hb
      go_wp2_with (at_builtin; refine wpList_append_own_at _ rfl _ _ 87 rfl W0.heap.size 93 i0 (.agg #[.int .i64 0, .int .i64 0, .int .i64 0, .int .i64 0]) 4 32 Tryz.underlying87 hi hz0 hz1 hz2 rfl (by decide) (.slice ao j c) j (((toL id v E).take j).flatMap msgCells) rfl (k_new (k_new HR.out (one_newK _ _)) (one_newK _ _)) ⟨wr.heap.size + 1, 0, none⟩ 1 1 (msgCells ⟨id, y.t, j, v⟩) rfl rfl (k_four (by have := heap_alloc_new (wr.alloc (.cells #[.int .i64 y.t, .int .i64 y.w] 106)) (.cells #[.int .i64 id, .int .i64 y.t, .int .i64 j, .int .i64 v] 93); rw [World.size_alloc] at this; exact this)) (k_oneM _) (by unfold maxLen; omega) (by omega) (by have := HB.out.size; simp; omega) ?_)
      intro v' w4 hown hgrow hne hat
      have hM4 : KM w4 W0.heap.size v' ((toL id v E).take (j + 1)) := by rw [HS.out]; exact km_snoc (by rw [HLg.out]; exact hown)
      have hB3 : Below W0.heap.size W0 ((wr.alloc (.cells #[.int .i64 y.t, .int .i64 y.w] 106)).alloc (.cells #[.int .i64 id, .int .i64 y.t, .int .i64 j, .int .i64 v] 93)) := (HB.out.alloc HB.out.size _).alloc (by have := HB.out.size; simp; omega) _
      have hB4 : Below W0.heap.size W0 w4 := hB3.trans ((Fr.grown hgrow (S := fun k => W0.heap.size ≤ k) (fun k hk => (World.ownsRow.lt HR.out k hk).1)).below hB3.size (fun k hk => hk))
      obtain ⟨ao', c', rfl⟩ := k_shape hM4
      have e1 : ((toL id v E).take (j + 1)).length = j + 1 := by rw [HS.out, List.length_append, HLg.out]; rfl
      rw [e1] at hM4 ⊢
      have HM4 : Hid _ := hM4
      have HB4 : Hid _ := hB4
      clear hM4 hB3 hB4 hown hgrow hne hat e1
      go_wp2
      go_roundw
      case rel => exact ⟨j + 1, ao', c', by omega, rfl, by go_num, HM4.out, HB4.out⟩
      case measure => simp [intOf]; omega
    · obtain rfl : j = E.length := by omega
      rw [List.take_of_length_le (by rw [toL_len]; exact Nat.le_refl _)] at hR
      have HR : Hid _ := hR
      have HB : Hid _ := hb
      clear hR hb
      go_wp2
      go_ret
      exact ⟨_, rfl, k_low HR.out HB0.out.size, HB0.out.trans (HB.out.mono HB0.out.size)⟩
end Go.Proofs.YtnhijofnhflklaaGreat
