/- The ends of a vertex's edges but itself; a message to each of some vertices. -/
import Derived.Test.YtnijacbfcffnpaaKnData
import Derived.Test.YtnijacbfcffnpaaKcSmall
namespace Go.Proofs.Ytnijacbfcffnpaa
open Go.RowKit
/-- The ends of a vertex's edges but itself. -/
def othL (id : Int) (E : List Ed) : List Int := (E.filter (fun e => e.t != id)).map (fun e => e.t)
/-- A message to each of some vertices. -/
def tellL (id v : Int) (L : List Int) : List Msg := L.mapIdx fun i t => ⟨id, t, i, v⟩
theorem tellL_len (id v : Int) (L : List Int) : (tellL id v L).length = L.length := List.length_mapIdx
theorem tellL_get (id v : Int) (L : List Int) (k : Nat) (h : k < L.length) : (tellL id v L)[k]'(by rw [tellL_len]; exact h) = ⟨id, L[k], k, v⟩ := by
  unfold tellL; rw [List.getElem_mapIdx]
theorem tellL_snoc (id v : Int) (L : List Int) (k : Nat) (h : k < L.length) : (tellL id v L).take (k + 1) = (tellL id v L).take k ++ [⟨id, L[k], k, v⟩] := by
  rw [List.take_succ_eq_append_getElem (by rw [tellL_len]; exact h), tellL_get]
theorem oth_same {id : Int} {E : List Ed} {j : Nat} (h : j < E.length) (he : E[j].t = id) : othL id (E.take (j + 1)) = othL id (E.take j) := by
  unfold othL
  rw [List.take_succ_eq_append_getElem h, List.filter_append]
  simp [he]
theorem oth_other {id : Int} {E : List Ed} {j : Nat} (h : j < E.length) (he : E[j].t ≠ id) : othL id (E.take (j + 1)) = othL id (E.take j) ++ [E[j].t] := by
  unfold othL
  rw [List.take_succ_eq_append_getElem h, List.filter_append]
  simp [he]
theorem oth_len (id : Int) (E : List Ed) : (othL id E).length ≤ E.length := by
  unfold othL
  rw [List.length_map]
  exact List.length_filter_le _ _
/-- A row of numbers of one's own. -/
def KI (w : World) (base : Nat) (v : Value) (L : List Int) : Prop := w.ownsRow base 2 1 v L.length (L.map (Value.int .i64))
theorem infoKI : (Try.prog.info? 2).map (fun i => (i.zero, i.size, i.bytes)) = some (some (.int .i64 0), 1, 8) := by kernel_rfl
theorem ki_snoc {w : World} {base n : Nat} {v : Value} {L : List Int} {x : Int} (hn : n = L.length) (h : w.ownsRow base 2 1 v (n + 1) (L.map (Value.int .i64) ++ [.int .i64 x])) : KI w base v (L ++ [x]) := by
  subst hn
  unfold KI
  rw [List.length_append, List.map_append]
  simpa using h
theorem KI.at_ {w : World} {base : Nat} {ao : Option Addr} {n c : Nat} {L : List Int} (h : KI w base (.slice ao n c) L) : IsAt w ao L := by
  intro hl
  have hn : n = L.length := by obtain ⟨_, _, e⟩ := k_shape h; cases e; rfl
  subst hn
  obtain ⟨g, rfl, _, hc⟩ := k_at h hl
  refine ⟨g, 0, rfl, fun j hj => ?_⟩
  rw [Nat.zero_add]
  exact hc j _ (by simp [hj])
theorem k_one1 {W : World} {b : Nat} {t : TypeId} {f : Nat × Nat} {x : Value} (h : W.heap[b]? = some (.cells #[x] t f)) : ∀ (j : Nat) (u : Value), [x][j]? = some u → W.cell? ((⟨b, 0, none⟩ : Addr).add j) = some u := by
  intro j u hu
  rw [Addr.add_lit, Nat.zero_add]
  simp [World.cell?, h]
  simpa using hu
theorem k_oneI (x : Int) : ∀ u ∈ [Value.int .i64 x], u.oneCell' = true := by
  intro u hu
  simp at hu
  subst hu
  rfl
set_option maxRecDepth 100000 in
set_option maxHeartbeats 1000000 in
theorem others_any {w : World} {P : Nat → Prop} {st id va ma : Int} {eo mo po : Option Addr} {en ec mn mc pn pc : Nat} {ha ag0 ag1 ag2 ag3 ag4 ag5 ag6 ag7 ag8 ag9 : Value} (E : List Ed) (he : en = E.length) (hE : EdAt w P eo E) (hl : E.length ≤ 1048576) :
    Calls Try.prog 77 #[(.agg #[.int .i64 st, .int .i64 id, .int .i64 va, .slice eo en ec, ha, .slice mo mn mc, ag0, ag1, ag2, ag3, ag4, ag5, ag6, ag7, ag8, ag9, .int .i64 ma, .slice po pn pc])] w fun r w' => ∃ ao c, r = .returned (.slice ao (othL id E).length c) ∧ KI w' w.heap.size (.slice ao (othL id E).length c) (othL id E) ∧ Below w.heap.size w w' := by
  obtain ⟨i0, hi, hz0, hz1, hz2⟩ := info_parts infoKI
  subst he
  obtain ⟨W0, hW0⟩ : ∃ W0, w.alloc (.cells #[.int .i64 st, .int .i64 id, .int .i64 va, .slice eo E.length ec, ha, .slice mo mn mc, ag0, ag1, ag2, ag3, ag4, ag5, ag6, ag7, ag8, ag9, .int .i64 ma, .slice po pn pc] 79) = W0 := ⟨_, rfl⟩
  have hB0 : Below w.heap.size w W0 := by rw [← hW0]; exact one_newK _ _
  have hc := InBox.made w #[.int .i64 st, .int .i64 id, .int .i64 va, .slice eo E.length ec, ha, .slice mo mn mc, ag0, ag1, ag2, ag3, ag4, ag5, ag6, ag7, ag8, ag9, .int .i64 ma, .slice po pn pc]
  rw [hW0] at hc
  have HC : Hid _ := hc
  obtain ⟨_, _, _, k3, _⟩ := hc.cells
  have HE : Hid (EdAt W0 P eo E) := hE.kept (Fr.ofBelow hB0 (fun _ => False)) (fun k hk hp => ⟨fun h => h, hp⟩)
  have HB0 : Hid _ := hB0
  clear hE hc hB0
  go_enter Try.func77, Try.ntmps77
  go_wp2
  go_loopw [3, 5, 10] (fun u _ i wr => ∃ (j m : Nat) (ao : Option Addr) (c : Nat), j ≤ E.length ∧ m ≤ j ∧ Hid (m = (othL id (E.take j)).length) ∧ u = .slice ao m c ∧ i = .int .i64 j ∧ wr.ownsRow W0.heap.size 2 1 (.slice ao m c) m ((othL id (E.take j)).map (Value.int .i64)) ∧ Below W0.heap.size W0 wr) (fun _ _ i _ => E.length - (intOf i).toNat)
  case atStart => exact ⟨0, 0, none, 0, Nat.zero_le _, Nat.le_refl _, rfl, rfl, rfl, World.ownsRow_nil _ _ _ _, Below.refl _ _⟩
  case round =>
    obtain ⟨j, m, ao, c, hj, hmj, HM, rfl, rfl, hR, hb⟩ := hrel
    by_cases hlt : j < E.length
    · obtain ⟨b, off, rfl, hP, hc⟩ := HE.out (by omega)
      obtain ⟨e0, e1⟩ := hc j hlt
      have d0 := (hb.cell (p := ⟨b, off + j * 2, none⟩) (lt_cell e0)).trans e0
      have d1 := (hb.cell (p := ⟨b, off + j * 2 + 1, none⟩) (lt_cell e0)).trans e1
      have HS1 : Hid (E[j].t = id → othL id (E.take (j + 1)) = othL id (E.take j)) := fun h => oth_same hlt h
      have HS2 : Hid (E[j].t ≠ id → othL id (E.take (j + 1)) = othL id (E.take j) ++ [E[j].t]) := fun h => oth_other hlt h
      generalize E[j] = y at d0 d1 HS1 HS2
      obtain ⟨_, q1, _⟩ := InBox.cells (InBox.new (InBox.new HC.out hb) (one_newK wr (.cells #[.int .i64 y.t, .int .i64 y.w] 50)))
      have HR : Hid _ := hR
      have HB : Hid _ := hb
      clear e0 e1 hc hR hb
      by_cases hy : y.t = id
      · have hs := HS1.out hy
        have HS : Hid _ := hs
        clear hs HS1 HS2
        obtain ⟨yt, yw⟩ := y
        obtain rfl : yt = id := hy
        simp only at d0 d1 q1
        go_wp2
        go_roundw
        case rel => exact ⟨j + 1, m, ao, c, by omega, by omega, HM.out.trans (by rw [HS.out]), rfl, by go_num, by rw [HS.out]; exact k_new HR.out (one_newK _ _), HB.out.alloc HB.out.size _⟩
        case measure => simp [intOf]; omega
      · have hs := HS2.out hy
        have HS : Hid _ := hs
        have hyb : (y.t != id) = true := by simp [hy]
        clear hs HS1 HS2
        go_wp2_with (at_builtin; refine wpList_append_own_at _ rfl _ _ 35 rfl W0.heap.size 2 i0 (.int .i64 0) 1 8 Try.underlying35 hi hz0 hz1 hz2 rfl (by decide) (.slice ao m c) m ((othL id (E.take j)).map (Value.int .i64)) rfl (k_new (k_new HR.out (one_newK _ _)) (one_newK _ _)) ⟨wr.heap.size + 1, 0, none⟩ 1 1 [.int .i64 y.t] rfl rfl (k_one1 (by have := heap_alloc_new (wr.alloc (.cells #[.int .i64 y.t, .int .i64 y.w] 50)) (.cells #[.int .i64 y.t] 2); rw [World.size_alloc] at this; exact this)) (k_oneI _) (by unfold maxLen; omega) (by omega) (by have := HB.out.size; simp; omega) ?_)
        intro v' w4 hown hgrow hne hat
        have hM4 : KI w4 W0.heap.size v' (othL id (E.take (j + 1))) := by rw [HS.out]; exact ki_snoc HM.out hown
        have hB3 : Below W0.heap.size W0 ((wr.alloc (.cells #[.int .i64 y.t, .int .i64 y.w] 50)).alloc (.cells #[.int .i64 y.t] 2)) := (HB.out.alloc HB.out.size _).alloc (by have := HB.out.size; simp; omega) _
        have hB4 : Below W0.heap.size W0 w4 := hB3.trans ((Fr.grown hgrow (S := fun k => W0.heap.size ≤ k) (fun k hk => (World.ownsRow.lt HR.out k hk).1)).below hB3.size (fun k hk => hk))
        obtain ⟨ao', c', rfl⟩ := k_shape hM4
        have e1 : (othL id (E.take (j + 1))).length = m + 1 := by rw [HS.out, List.length_append, ← HM.out]; rfl
        unfold KI at hM4
        rw [e1] at hM4 ⊢
        have HM4 : Hid _ := hM4
        have HB4 : Hid _ := hB4
        have HE1 : Hid _ := e1
        clear hM4 hB3 hB4 hown hgrow hne hat e1
        go_wp2
        go_roundw
        case rel => exact ⟨j + 1, m + 1, ao', c', by omega, by omega, HE1.out.symm, rfl, by go_num, HM4.out, HB4.out⟩
        case measure => simp [intOf]; omega
    · obtain rfl : j = E.length := by omega
      rw [List.take_length] at hR HM
      have HR : Hid _ := hR
      have HB : Hid _ := hb
      clear hR hb
      go_wp2
      go_ret
      have hm := HM.out
      subst hm
      exact ⟨_, _, rfl, k_low HR.out HB0.out.size, HB0.out.trans (HB.out.mono HB0.out.size)⟩
set_option maxRecDepth 100000 in
set_option maxHeartbeats 1000000 in
theorem tell_any {w : World} {st id va ma : Int} {eo mo po : Option Addr} {en ec mn mc pn pc : Nat} {ha ag0 ag1 ag2 ag3 ag4 ag5 ag6 ag7 ag8 ag9 : Value} {lo : Option Addr} {ln lc : Nat} (v : Int) (L : List Int) (hn : ln = L.length) (hL : IsAt w lo L) (hl : L.length ≤ 1048576) :
    Calls Try.prog 74 #[(.agg #[.int .i64 st, .int .i64 id, .int .i64 va, .slice eo en ec, ha, .slice mo mn mc, ag0, ag1, ag2, ag3, ag4, ag5, ag6, ag7, ag8, ag9, .int .i64 ma, .slice po pn pc]), .int .i64 v, .slice lo ln lc] w fun r w' => ∃ tv, r = .returned tv ∧ KM w' w.heap.size tv (tellL id v L) ∧ Below w.heap.size w w' := by
  obtain ⟨i0, hi, hz0, hz1, hz2⟩ := info_parts infoKM
  subst hn
  obtain ⟨W0, hW0⟩ : ∃ W0, w.alloc (.cells #[.int .i64 st, .int .i64 id, .int .i64 va, .slice eo en ec, ha, .slice mo mn mc, ag0, ag1, ag2, ag3, ag4, ag5, ag6, ag7, ag8, ag9, .int .i64 ma, .slice po pn pc] 79) = W0 := ⟨_, rfl⟩
  have hB0 : Below w.heap.size w W0 := by rw [← hW0]; exact one_newK _ _
  have hc := InBox.made w #[.int .i64 st, .int .i64 id, .int .i64 va, .slice eo en ec, ha, .slice mo mn mc, ag0, ag1, ag2, ag3, ag4, ag5, ag6, ag7, ag8, ag9, .int .i64 ma, .slice po pn pc]
  rw [hW0] at hc
  have HC : Hid _ := hc
  have HL : Hid (IsAt W0 lo L) := hL.new hB0
  have HB0 : Hid _ := hB0
  clear hL hc hB0
  go_enter Try.func74, Try.ntmps74
  go_wp2
  go_loopw [7, 8, 9, 12] (fun u _ _ i wr => ∃ (j : Nat) (ao : Option Addr) (c : Nat), j ≤ L.length ∧ u = .slice ao j c ∧ i = .int .i64 j ∧ KM wr W0.heap.size (.slice ao j c) ((tellL id v L).take j) ∧ Below W0.heap.size W0 wr) (fun _ _ _ i _ => L.length - (intOf i).toNat)
  case atStart => exact ⟨0, none, 0, Nat.zero_le _, rfl, rfl, World.ownsRow_nil _ _ _ _, Below.refl _ _⟩
  case round =>
    obtain ⟨j, ao, c, hj, rfl, rfl, hR, hb⟩ := hrel
    by_cases hlt : j < L.length
    · obtain ⟨b, off, rfl, hc⟩ := HL.out (by omega)
      have d0 := (hb.cell (p := ⟨b, off + j, none⟩) (lt_cell (hc j hlt))).trans (hc j hlt)
      have HS : Hid _ := tellL_snoc id v L j hlt
      have HLg : Hid (((tellL id v L).take j).length = j) := by show _ = _; rw [List.length_take, tellL_len]; omega
      generalize L[j] = y at d0 HS
      obtain ⟨_, q1, _⟩ := InBox.cells (InBox.new HC.out hb)
      have HR : Hid (wr.ownsRow W0.heap.size 77 4 (.slice ao j c) j (((tellL id v L).take j).flatMap msgCells)) := by have h := hR; unfold KM at h; rw [HLg.out] at h; exact h
      have HB : Hid _ := hb
      clear hc hR hb
      go_wp2_with (at_builtin; refine wpList_append_own_at _ rfl _ _ 67 rfl W0.heap.size 77 i0 (.agg #[.int .i64 0, .int .i64 0, .int .i64 0, .int .i64 0]) 4 32 Try.underlying67 hi hz0 hz1 hz2 rfl (by decide) (.slice ao j c) j (((tellL id v L).take j).flatMap msgCells) rfl (k_new HR.out (one_newK _ _)) ⟨wr.heap.size, 0, none⟩ 1 1 (msgCells ⟨id, y, j, v⟩) rfl rfl (k_four (by exact heap_alloc_new wr (.cells #[.int .i64 id, .int .i64 y, .int .i64 j, .int .i64 v] 77))) (k_oneM _) (by unfold maxLen; omega) (by omega) (by have := HB.out.size; simp; omega) ?_)
      intro v' w4 hown hgrow hne hat
      have hM4 : KM w4 W0.heap.size v' ((tellL id v L).take (j + 1)) := by rw [HS.out]; exact km_snoc (by rw [HLg.out]; exact hown)
      have hB3 : Below W0.heap.size W0 (wr.alloc (.cells #[.int .i64 id, .int .i64 y, .int .i64 j, .int .i64 v] 77)) := HB.out.alloc HB.out.size _
      have hB4 : Below W0.heap.size W0 w4 := hB3.trans ((Fr.grown hgrow (S := fun k => W0.heap.size ≤ k) (fun k hk => (World.ownsRow.lt HR.out k hk).1)).below hB3.size (fun k hk => hk))
      obtain ⟨ao', c', rfl⟩ := k_shape hM4
      have e1 : ((tellL id v L).take (j + 1)).length = j + 1 := by rw [HS.out, List.length_append, HLg.out]; rfl
      rw [e1] at hM4 ⊢
      have HM4 : Hid _ := hM4
      have HB4 : Hid _ := hB4
      clear hM4 hB3 hB4 hown hgrow hne hat e1
      go_wp2
      go_roundw
      case rel => exact ⟨j + 1, ao', c', by omega, rfl, by go_num, HM4.out, HB4.out⟩
      case measure => simp [intOf]; omega
    · obtain rfl : j = L.length := by omega
      rw [List.take_of_length_le (by rw [tellL_len]; exact Nat.le_refl _)] at hR
      have HR : Hid _ := hR
      have HB : Hid _ := hb
      clear hR hb
      go_wp2
      go_ret
      exact ⟨_, rfl, k_low HR.out HB0.out.size, HB0.out.trans (HB.out.mono HB0.out.size)⟩
end Go.Proofs.Ytnijacbfcffnpaa
