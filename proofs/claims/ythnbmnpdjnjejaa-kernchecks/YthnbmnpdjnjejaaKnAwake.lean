/- The document's awake of layer 7. -/
import Derived.Test.YthnbmnpdjnjejaaKnTo
import Derived.Test.YthnbmnpdjnjejaaNmAdd
import Derived.Laws.Tables
import Derived.Laws.OwnMore
namespace Go.Proofs.Ythnbmnpdjnjejaa
open Go.RowKit
set_option maxRecDepth 100000 in
theorem one_any {w : World} (t x : Int) : Calls Try.prog 74 #[.agg #[.int .i64 t, .int .i64 x]] w fun r w' => r = .returned (.int .i64 1) ∧ Below w.heap.size w w' := by
  go_enter Try.func74, Try.ntmps74
  go_wp2
  go_ret
  exact ⟨rfl, one_newK _ _⟩
set_option maxRecDepth 100000 in
theorem param_any {w : World} {st id va ma : Int} {eo mo po : Option Addr} {en ec mn mc pn pc : Nat} {ha u0 u1 u2 u3 u4 u5 u6 u7 u8 u9 : Value} {b off : Nat} {p : Int} (hp : po = some ⟨b, off, none⟩) (hn : 0 < pn) (hc : w.cell? ⟨b, off, none⟩ = some (.int .i64 p)) : Calls Try.prog 85 #[(.agg #[.int .i64 st, .int .i64 id, .int .i64 va, .slice eo en ec, ha, .slice mo mn mc, u0, u1, u2, u3, u4, u5, u6, u7, u8, u9, .int .i64 ma, .slice po pn pc])] w fun r w' => r = .returned (.int .i64 p) ∧ Below w.heap.size w w' := by
  subst hp
  have hlt := lt_cell hc
  go_enter Try.func85, Try.ntmps85
  go_wp2
  go_ret
  exact ⟨rfl, one_newK _ _⟩
/-- An Input's box and an Output's box, side by side. -/
theorem two_boxes (w : World) (c : Array Value) {W0 : World} (h : (w.alloc (.cells c 82)).alloc (.cells #[.int .i64 0, .bool false, .slice none 0 0, .slice none 0 0, .bool false, .bool false, .bool false, .bool false, .bool false, .int .i64 0, .int .i64 0, .int .i64 0, .int .i64 0, .int .i64 0, .int .i64 0] 79) = W0) : InBox W0 w.heap.size c ∧ OutBox W0 (w.heap.size + 1) #[.int .i64 0, .bool false, .slice none 0 0, .slice none 0 0, .bool false, .bool false, .bool false, .bool false, .bool false, .int .i64 0, .int .i64 0, .int .i64 0, .int .i64 0, .int .i64 0, .int .i64 0] ∧ Below w.heap.size w W0 ∧ W0.heap.size = w.heap.size + 2 := by
  rw [← h]
  have h1 := OutBox.made (w.alloc (.cells c 82)) #[.int .i64 0, .bool false, .slice none 0 0, .slice none 0 0, .bool false, .bool false, .bool false, .bool false, .bool false, .int .i64 0, .int .i64 0, .int .i64 0, .int .i64 0, .int .i64 0, .int .i64 0]
  rw [World.size_alloc] at h1
  exact ⟨(InBox.made w c).new (one_newK _ _), h1, (one_newK _ _).trans ((one_newK _ _).mono (by simp)), by simp⟩
theorem row_set {w : World} {base g n c : Nat} {L : List Msg} {j : Nat} {x : Int} (h : w.ownsRow base 84 4 (.slice (some ⟨g, 0, none⟩) n c) n (L.flatMap msgCells)) (hn : n = L.length) (hj : j < L.length) :
    (w.setCell ⟨g, j * 4 + 3, none⟩ (.int .i64 x)).ownsRow base 84 4 (.slice (some ⟨g, 0, none⟩) n c) n ((L.set j ⟨L[j].f, L[j].t, L[j].a, x⟩).flatMap msgCells) := by
  subst hn
  have h1 := World.ownsRow.stored h (j * 4 + 3) (.int .i64 x)
  have e : (L.flatMap msgCells).set (j * 4 + 3) (.int .i64 x) = (L.set j ⟨L[j].f, L[j].t, L[j].a, x⟩).flatMap msgCells := by
    have e0 : L = L.take j ++ L[j] :: L.drop (j + 1) := by rw [← List.drop_eq_getElem_cons hj, List.take_append_drop]
    have hl : ((L.take j).flatMap msgCells).length = j * 4 := by rw [km_len, List.length_take]; omega
    have e1 : L.set j ⟨L[j].f, L[j].t, L[j].a, x⟩ = L.take j ++ ⟨L[j].f, L[j].t, L[j].a, x⟩ :: L.drop (j + 1) := by rw [List.set_eq_take_append_cons_drop, if_pos hj]
    rw [e1]
    generalize L[j] = y at e0
    conv => lhs; rw [e0]
    rw [List.flatMap_append, List.flatMap_cons, List.flatMap_append, List.flatMap_cons, List.set_append_right _ _ (by omega), hl, show j * 4 + 3 - j * 4 = 3 by omega]
    simp [msgCells]
  rw [e] at h1
  exact h1.1
/-- Some of the messages have their new numbers. -/
def mixL (id v x : Int) (E : List Ed) (j : Nat) : List Msg := (toL id x E).take j ++ (toL id v E).drop j
theorem mix_len (id v x : Int) (E : List Ed) (j : Nat) : (mixL id v x E j).length = E.length := by
  unfold mixL; rw [List.length_append, List.length_take, List.length_drop, toL_len, toL_len]; omega
theorem mix_next (id v x : Int) (E : List Ed) (j : Nat) (h : j < E.length) (hm : j < (mixL id v x E j).length) : (mixL id v x E j).set j ⟨(mixL id v x E j)[j].f, (mixL id v x E j)[j].t, (mixL id v x E j)[j].a, x⟩ = mixL id v x E (j + 1) := by
  have hl : ((toL id x E).take j).length = j := by rw [List.length_take, toL_len]; omega
  have hd : (toL id v E).drop j = ⟨id, E[j].t, j, v⟩ :: (toL id v E).drop (j + 1) := by rw [List.drop_eq_getElem_cons (by rw [toL_len]; exact h), toL_get]
  have hg0 : (mixL id v x E j)[j]? = some ⟨id, E[j].t, j, v⟩ := by
    unfold mixL
    rw [List.getElem?_append_right (by omega), hl, Nat.sub_self, hd]
    rfl
  have hg := (List.getElem?_eq_some_iff.1 hg0).2
  rw [hg]
  unfold mixL
  rw [hd, List.set_append_right _ _ (by omega), hl, Nat.sub_self, List.set_cons_zero, toL_snoc id x E j h]
  simp
theorem mix_end (id v x : Int) (E : List Ed) : mixL id v x E E.length = toL id x E := by
  unfold mixL
  rw [List.take_of_length_le (by rw [toL_len]; exact Nat.le_refl _), List.drop_of_length_le (by rw [toL_len]; exact Nat.le_refl _), List.append_nil]
theorem mix_start (id v x : Int) (E : List Ed) : mixL id v x E 0 = toL id v E := by unfold mixL; simp
set_option maxRecDepth 100000 in
set_option maxHeartbeats 1000000 in
theorem spread_one {w : World} {P : Nat → Prop} {st id va ma : Int} {eo mo po : Option Addr} {en ec mn mc pn pc : Nat} {ha u0 u1 u2 u3 u4 u5 u6 u7 u8 u9 : Value} (v : Int) (E : List Ed) (he : en = E.length) (hE : EdAt w P eo E) (hl : E.length ≤ 1048576) (hv : -9223372036854775808 ≤ v) (hv2 : v + 1 ≤ 9223372036854775807) :
    Calls Try.prog 75 #[(.agg #[.int .i64 st, .int .i64 id, .int .i64 va, .slice eo en ec, ha, .slice mo mn mc, u0, u1, u2, u3, u4, u5, u6, u7, u8, u9, .int .i64 ma, .slice po pn pc]), .int .i64 v, .func (.func 74) #[] #[]] w fun r w' => ∃ tv, r = .returned (.agg #[.int .i64 v, .bool true, tv, .slice none 0 0, .bool false, .bool false, .bool false, .bool false, .bool false, .int .i64 0, .int .i64 0, .int .i64 0, .int .i64 0, .int .i64 0, .int .i64 0]) ∧ KM w' w.heap.size tv (toL id (v + 1) E) ∧ Below w.heap.size w w' := by
  subst he
  obtain ⟨W0, hW0⟩ : ∃ W0, (w.alloc (.cells #[.int .i64 st, .int .i64 id, .int .i64 va, .slice eo E.length ec, ha, .slice mo mn mc, u0, u1, u2, u3, u4, u5, u6, u7, u8, u9, .int .i64 ma, .slice po pn pc] 82)).alloc (.cells #[.int .i64 0, .bool false, .slice none 0 0, .slice none 0 0, .bool false, .bool false, .bool false, .bool false, .bool false, .int .i64 0, .int .i64 0, .int .i64 0, .int .i64 0, .int .i64 0, .int .i64 0] 79) = W0 := ⟨_, rfl⟩
  obtain ⟨hIn, hOut, hB0, hs0⟩ := two_boxes w _ hW0
  have HIn : Hid _ := hIn
  have HOut : Hid _ := hOut
  have HE : Hid (EdAt W0 P eo E) := hE.kept (Fr.ofBelow hB0 (fun _ => False)) (fun k hk hp => ⟨fun h => h, hp⟩)
  have HB0 : Hid _ := hB0
  have HS0 : Hid _ := hs0
  clear hIn hOut hE hB0 hs0
  go_enter Try.func75, Try.ntmps75
  go_upto_region 2 with (first | (refine wpList_load_row rfl 82 _ rfl w.heap.size rfl 82 #[.int .i64 st, .int .i64 id, .int .i64 va, .slice eo E.length ec, ha, .slice mo mn mc, u0, u1, u2, u3, u4, u5, u6, u7, u8, u9, .int .i64 ma, .slice po pn pc] (0, 0) _ HIn.out Try.underlying82 rfl size_in ?_) | (go_at_call 78; refine (to_any v E rfl HE.out hl).mono ?_; rintro r w1 ⟨tv, rfl, hK, hb1⟩))
  obtain ⟨ao, c, rfl⟩ := k_shape hK
  rw [toL_len]
  have HK : Hid (w1.ownsRow W0.heap.size 84 4 (.slice ao E.length c) E.length ((mixL id v (v + 1) E 0).flatMap msgCells)) := by have h := hK; unfold KM at h; rw [toL_len] at h; rw [mix_start]; exact h
  have HB1 : Hid _ := hb1
  obtain ⟨_, _, _, m3, _⟩ := InBox.cells (InBox.new HIn.out hb1)
  clear hK hb1
  go_wp2
  go_loopw [8, 9, 10, 11, 19] (fun _ _ _ _ i wr => ∃ j : Nat, j ≤ E.length ∧ i = .int .i64 j ∧ wr.ownsRow W0.heap.size 84 4 (.slice ao E.length c) E.length ((mixL id v (v + 1) E j).flatMap msgCells) ∧ Below W0.heap.size W0 wr) (fun _ _ _ _ i _ => E.length - (intOf i).toNat)
  case atStart => exact ⟨0, Nat.zero_le _, rfl, HK.out, HB1.out⟩
  case round =>
    obtain ⟨j, hj, rfl, hR, hb⟩ := hrel
    by_cases hlt : j < E.length
    · obtain ⟨b, off, rfl, hP, hc⟩ := HE.out (by omega)
      obtain ⟨g, rfl, hg, _⟩ := k_at hR (by omega)
      obtain ⟨e0, e1⟩ := hc j hlt
      have d0 := (hb.cell (p := ⟨b, off + j * 2, none⟩) (lt_cell e0)).trans e0
      have d1 := (hb.cell (p := ⟨b, off + j * 2 + 1, none⟩) (lt_cell e0)).trans e1
      have hm : j < (mixL id v (v + 1) E j).length := by rw [mix_len]; exact hlt
      have HN : Hid _ := mix_next id v (v + 1) E j hlt hm
      have HM : Hid _ := hm
      have HA : Hid (ans (v + 1) = .returned (.tuple #[.int .i64 (v + 1), .int .i64 0])) := (ans_in ⟨by omega, hv2⟩).symm
      generalize E[j] = y at d0 d1
      have HR : Hid _ := hR
      have HB : Hid _ := hb
      clear e0 e1 hc hR hb
      go_wp2_with (first
        | (go_at_call 74; refine (one_any y.t y.w).mono ?_; rintro r w2 ⟨rfl, hb2⟩; have r2 := k_new HR.out ((one_newK wr (.cells #[.int .i64 y.t, .int .i64 y.w] 55)).trans (hb2.mono (by simp))); have q3 := World.ownsRow.cellAt r2 (j * 4 + 3) (by omega); have f3 := World.ownsRow.frozenAt r2 (j * 4 + 3); have HR2 : Hid _ := r2; have HB2 : Hid _ := HB.out.trans (((one_newK wr (.cells #[.int .i64 y.t, .int .i64 y.w] 55)).trans (hb2.mono (by simp))).mono HB.out.size); rw [(km_get _ j HM.out).2.2.2] at q3; clear r2 hb2)
        | (go_at_call 83; refine (add_any v 1 _ hv (by omega) (by decide) (by decide)).mono ?_; rintro r w3 ⟨rfl, rfl⟩; rw [HA.out]))
      go_roundw
      case rel =>
        have r3 := row_set (x := v + 1) HR2.out (mix_len id v (v + 1) E j).symm HM.out
        rw [HN.out] at r3
        exact ⟨j + 1, by omega, by go_num, r3, HB2.out.setCell (p := ⟨g, j * 4 + 3, none⟩) hg _⟩
      case measure => simp [intOf]; omega
    · obtain rfl : j = E.length := by omega
      rw [mix_end] at hR
      have HR : Hid _ := hR
      have HB : Hid _ := hb
      have HO : Hid _ := OutBox.new HOut.out hb
      clear hR hb
      go_wp2_with (refine wpList_store_row rfl 79 _ _ rfl (w.heap.size + 1) #[.int .i64 v, .bool true, (.slice ao E.length c), .slice none 0 0, .bool false, .bool false, .bool false, .bool false, .bool false, .int .i64 0, .int .i64 0, .int .i64 0, .int .i64 0, .int .i64 0, .int .i64 0] rfl rfl 79 #[.int .i64 0, .bool false, .slice none 0 0, .slice none 0 0, .bool false, .bool false, .bool false, .bool false, .bool false, .int .i64 0, .int .i64 0, .int .i64 0, .int .i64 0, .int .i64 0, .int .i64 0] HO.out size_out rfl (by simp [Value.oneCell']) ?_)
      refine bodyPost_ret (v := .agg #[.int .i64 v, .bool true, (.slice ao E.length c), .slice none 0 0, .bool false, .bool false, .bool false, .bool false, .bool false, .int .i64 0, .int .i64 0, .int .i64 0, .int .i64 0, .int .i64 0, .int .i64 0]) (results_cell_row Try.results75 _ _ (w.heap.size + 1) 79 _ (0, 0) _ rfl (setRow_heap _ _ _ _ _ _ HO.out) Try.underlying79 rfl size_out) rfl ?_
      have hB1 : Below w.heap.size w wr := HB0.out.trans (HB.out.mono HB0.out.size)
      refine ⟨_, rfl, ?_, k_setRow hB1 (by omega) _⟩
      unfold KM
      rw [toL_len]
      exact k_low (k_fr HR.out (fr_setRow _ _ _) (fun k hk => by have := HS0.out; omega)) HB0.out.size
end Go.Proofs.Ythnbmnpdjnjejaa
