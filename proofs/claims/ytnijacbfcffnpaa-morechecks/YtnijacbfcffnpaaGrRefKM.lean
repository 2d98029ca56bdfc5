import Derived.Test.YtnijacbfcffnpaaKnToM
import Derived.Test.YtnijacbfcffnpaaNmAdd
import Derived.Laws.Tables
import Derived.Laws.OwnMore
import Derived.Deep.MidRow
import Derived.Deep.Cut
import Derived.Deep.DeepCutAuto
import Derived.Test.YtnijacbfcffnpaaGrRefC
import Derived.Test.YtnijacbfcffnpaaGrThere
section
/- The document's awake of layer 7. -/
namespace Go.Proofs.Ytnijacbfcffnpaa
open Go.RowKit
set_option maxRecDepth 100000 in
theorem one_any {w : World} (t x : Int) : Calls Try.prog 111 #[.agg #[.int .i64 t, .int .i64 x]] w fun r w' => r = .returned (.int .i64 1) ∧ Below w.heap.size w w' := by
  go_enter Try.func111, Try.ntmps111
  go_wp2
  go_ret
  exact ⟨rfl, one_newK _ _⟩
set_option maxRecDepth 100000 in
theorem param_any {w : World} {st id va ma : Int} {eo mo po : Option Addr} {en ec mn mc pn pc : Nat} {ha u0 u1 u2 u3 u4 u5 u6 u7 u8 u9 : Value} {b off : Nat} {p : Int} (hp : po = some ⟨b, off, none⟩) (hn : 0 < pn) (hc : w.cell? ⟨b, off, none⟩ = some (.int .i64 p)) : Calls Try.prog 120 #[(.agg #[.int .i64 st, .int .i64 id, .int .i64 va, .slice eo en ec, ha, .slice mo mn mc, u0, u1, u2, u3, u4, u5, u6, u7, u8, u9, .int .i64 ma, .slice po pn pc])] w fun r w' => r = .returned (.int .i64 p) ∧ Below w.heap.size w w' := by
  subst hp
  have hlt := lt_cell hc
  go_enter Try.func120, Try.ntmps120
  go_wp2
  go_ret
  exact ⟨rfl, one_newK _ _⟩
/-- An Input's box and an Output's box, side by side. -/
theorem two_boxes (w : World) (c : Array Value) {W0 : World} (h : (w.alloc (.cells c 79)).alloc (.cells #[.int .i64 0, .bool false, .slice none 0 0, .slice none 0 0, .bool false, .bool false, .bool false, .bool false, .bool false, .int .i64 0, .int .i64 0, .int .i64 0, .int .i64 0, .int .i64 0, .int .i64 0] 74) = W0) : InBox W0 w.heap.size c ∧ OutBox W0 (w.heap.size + 1) #[.int .i64 0, .bool false, .slice none 0 0, .slice none 0 0, .bool false, .bool false, .bool false, .bool false, .bool false, .int .i64 0, .int .i64 0, .int .i64 0, .int .i64 0, .int .i64 0, .int .i64 0] ∧ Below w.heap.size w W0 ∧ W0.heap.size = w.heap.size + 2 := by
  rw [← h]
  have h1 := OutBox.made (w.alloc (.cells c 79)) #[.int .i64 0, .bool false, .slice none 0 0, .slice none 0 0, .bool false, .bool false, .bool false, .bool false, .bool false, .int .i64 0, .int .i64 0, .int .i64 0, .int .i64 0, .int .i64 0, .int .i64 0]
  rw [World.size_alloc] at h1
  exact ⟨(InBox.made w c).new (one_newK _ _), h1, (one_newK _ _).trans ((one_newK _ _).mono (by simp)), by simp⟩
theorem row_set {w : World} {base g n c : Nat} {L : List Msg} {j : Nat} {x : Int} (h : w.ownsRow base 77 4 (.slice (some ⟨g, 0, none⟩) n c) n (L.flatMap msgCells)) (hn : n = L.length) (hj : j < L.length) :
    (w.setCell ⟨g, j * 4 + 3, none⟩ (.int .i64 x)).ownsRow base 77 4 (.slice (some ⟨g, 0, none⟩) n c) n ((L.set j ⟨L[j].f, L[j].t, L[j].a, x⟩).flatMap msgCells) := by
  subst hn
  have h1 := World.ownsRow.stored h (j * 4 + 3) (.int .i64 x)
  have e : (L.flatMap msgCells).set (j * 4 + 3) (.int .i64 x) = (L.set j ⟨L[j].f, L[j].t, L[j].a, x⟩).flatMap msgCells := by
    have e0 : L = L.take j ++ L[j] :: L.drop (j + 1) := by rw [← List.drop_eq_getElem_cons hj, List.take_append_drop]
    have hl : ((L.take j).flatMap msgCells).length = j * 4 := by rw [km_len, List.length_take]; omega
    have e1 : L.set j ⟨L[j].f, L[j].t, L[j].a, x⟩ = L.take j ++ ⟨L[j].f, L[j].t, L[j].a, x⟩ :: L.drop (j + 1) := by rw [List.set_eq_take_append_cons_drop, if_pos hj]
    rw [e1]
    generalize L[j] = y at e0
    conv => lhs; rw [e0]
    rw [List.flatMap_append, List.flatMap_cons, List.flatMap_append, List.flatMap_cons, List.set_append_right _ _ (by omega), hl, show j * 4 + 3 - j * 4 = 3 by omega]
    simp [msgCells]
  rw [e] at h1
  exact h1.1
/-- Some of the messages have their new numbers. -/
def mixL (id v x : Int) (E : List Ed) (j : Nat) : List Msg := (toL id x E).take j ++ (toL id v E).drop j
theorem mix_len (id v x : Int) (E : List Ed) (j : Nat) : (mixL id v x E j).length = E.length := by
  unfold mixL; rw [List.length_append, List.length_take, List.length_drop, toL_len, toL_len]; omega
theorem mix_next (id v x : Int) (E : List Ed) (j : Nat) (h : j < E.length) (hm : j < (mixL id v x E j).length) : (mixL id v x E j).set j ⟨(mixL id v x E j)[j].f, (mixL id v x E j)[j].t, (mixL id v x E j)[j].a, x⟩ = mixL id v x E (j + 1) := by
  have hl : ((toL id x E).take j).length = j := by rw [List.length_take, toL_len]; omega
  have hd : (toL id v E).drop j = ⟨id, E[j].t, j, v⟩ :: (toL id v E).drop (j + 1) := by rw [List.drop_eq_getElem_cons (by rw [toL_len]; exact h), toL_get]
  have hg0 : (mixL id v x E j)[j]? = some ⟨id, E[j].t, j, v⟩ := by
    unfold mixL
    rw [List.getElem?_append_right (by omega), hl, Nat.sub_self, hd]
    rfl
  have hg := (List.getElem?_eq_some_iff.1 hg0).2
  rw [hg]
  unfold mixL
  rw [hd, List.set_append_right _ _ (by omega), hl, Nat.sub_self, List.set_cons_zero, toL_snoc id x E j h]
  simp
theorem mix_end (id v x : Int) (E : List Ed) : mixL id v x E E.length = toL id x E := by
  unfold mixL
  rw [List.take_of_length_le (by rw [toL_len]; exact Nat.le_refl _), List.drop_of_length_le (by rw [toL_len]; exact Nat.le_refl _), List.append_nil]
theorem mix_start (id v x : Int) (E : List Ed) : mixL id v x E 0 = toL id v E := by unfold mixL; simp
set_option maxRecDepth 100000 in
set_option maxHeartbeats 1000000 in
theorem spread_one {w : World} {P : Nat → Prop} {st id va ma : Int} {eo mo po : Option Addr} {en ec mn mc pn pc : Nat} {ha u0 u1 u2 u3 u4 u5 u6 u7 u8 u9 : Value} (v : Int) (E : List Ed) (he : en = E.length) (hE : EdAt w P eo E) (hl : E.length ≤ 1048576) (hv : -9223372036854775808 ≤ v) (hv2 : v + 1 ≤ 9223372036854775807) :
    Calls Try.prog 112 #[(.agg #[.int .i64 st, .int .i64 id, .int .i64 va, .slice eo en ec, ha, .slice mo mn mc, u0, u1, u2, u3, u4, u5, u6, u7, u8, u9, .int .i64 ma, .slice po pn pc]), .int .i64 v, .func (.func 111) #[] #[]] w fun r w' => ∃ tv, r = .returned (.agg #[.int .i64 v, .bool true, tv, .slice none 0 0, .bool false, .bool false, .bool false, .bool false, .bool false, .int .i64 0, .int .i64 0, .int .i64 0, .int .i64 0, .int .i64 0, .int .i64 0]) ∧ KM w' w.heap.size tv (toL id (v + 1) E) ∧ Below w.heap.size w w' := by
  subst he
  obtain ⟨W0, hW0⟩ : ∃ W0, (w.alloc (.cells #[.int .i64 st, .int .i64 id, .int .i64 va, .slice eo E.length ec, ha, .slice mo mn mc, u0, u1, u2, u3, u4, u5, u6, u7, u8, u9, .int .i64 ma, .slice po pn pc] 79)).alloc (.cells #[.int .i64 0, .bool false, .slice none 0 0, .slice none 0 0, .bool false, .bool false, .bool false, .bool false, .bool false, .int .i64 0, .int .i64 0, .int .i64 0, .int .i64 0, .int .i64 0, .int .i64 0] 74) = W0 := ⟨_, rfl⟩
  obtain ⟨hIn, hOut, hB0, hs0⟩ := two_boxes w _ hW0
  have HIn : Hid _ := hIn
  have HOut : Hid _ := hOut
  have HE : Hid (EdAt W0 P eo E) := hE.kept (Fr.ofBelow hB0 (fun _ => False)) (fun k hk hp => ⟨fun h => h, hp⟩)
  have HB0 : Hid _ := hB0
  have HS0 : Hid _ := hs0
  clear hIn hOut hE hB0 hs0
  go_enter Try.func112, Try.ntmps112
  go_upto_region 2 with (first | (refine wpList_load_row rfl 79 _ rfl w.heap.size rfl 79 #[.int .i64 st, .int .i64 id, .int .i64 va, .slice eo E.length ec, ha, .slice mo mn mc, u0, u1, u2, u3, u4, u5, u6, u7, u8, u9, .int .i64 ma, .slice po pn pc] (0, 0) _ HIn.out Try.underlying79 rfl size_in ?_) | (go_at_call 82; refine (to_any v E rfl HE.out hl).mono ?_; rintro r w1 ⟨tv, rfl, hK, hb1⟩))
  obtain ⟨ao, c, rfl⟩ := k_shape hK
  rw [toL_len]
  have HK : Hid (w1.ownsRow W0.heap.size 77 4 (.slice ao E.length c) E.length ((mixL id v (v + 1) E 0).flatMap msgCells)) := by have h := hK; unfold KM at h; rw [toL_len] at h; rw [mix_start]; exact h
  have HB1 : Hid _ := hb1
  obtain ⟨_, _, _, m3, _⟩ := InBox.cells (InBox.new HIn.out hb1)
  clear hK hb1
  go_wp2
  go_loopw [8, 9, 10, 11, 19] (fun _ _ _ _ i wr => ∃ j : Nat, j ≤ E.length ∧ i = .int .i64 j ∧ wr.ownsRow W0.heap.size 77 4 (.slice ao E.length c) E.length ((mixL id v (v + 1) E j).flatMap msgCells) ∧ Below W0.heap.size W0 wr) (fun _ _ _ _ i _ => E.length - (intOf i).toNat)
  case atStart => exact ⟨0, Nat.zero_le _, rfl, HK.out, HB1.out⟩
  case round =>
    obtain ⟨j, hj, rfl, hR, hb⟩ := hrel
    by_cases hlt : j < E.length
    · obtain ⟨b, off, rfl, hP, hc⟩ := HE.out (by omega)
      obtain ⟨g, rfl, hg, _⟩ := k_at hR (by omega)
      obtain ⟨e0, e1⟩ := hc j hlt
      have d0 := (hb.cell (p := ⟨b, off + j * 2, none⟩) (lt_cell e0)).trans e0
      have d1 := (hb.cell (p := ⟨b, off + j * 2 + 1, none⟩) (lt_cell e0)).trans e1
      have hm : j < (mixL id v (v + 1) E j).length := by rw [mix_len]; exact hlt
      have HN : Hid _ := mix_next id v (v + 1) E j hlt hm
      have HM : Hid _ := hm
      have HA : Hid (ans (v + 1) = .returned (.tuple #[.int .i64 (v + 1), .int .i64 0])) := (ans_in ⟨by omega, hv2⟩).symm
      generalize E[j] = y at d0 d1
      have HR : Hid _ := hR
      have HB : Hid _ := hb
      clear e0 e1 hc hR hb
      go_wp2_with (first
        | (go_at_call 111; refine (one_any y.t y.w).mono ?_; rintro r w2 ⟨rfl, hb2⟩; have r2 := k_new HR.out ((one_newK wr (.cells #[.int .i64 y.t, .int .i64 y.w] 50)).trans (hb2.mono (by simp))); have q3 := World.ownsRow.cellAt r2 (j * 4 + 3) (by omega); have f3 := World.ownsRow.frozenAt r2 (j * 4 + 3); have HR2 : Hid _ := r2; have HB2 : Hid _ := HB.out.trans (((one_newK wr (.cells #[.int .i64 y.t, .int .i64 y.w] 50)).trans (hb2.mono (by simp))).mono HB.out.size); rw [(km_get _ j HM.out).2.2.2] at q3; clear r2 hb2)
        | (go_at_call 118; refine (add_any v 1 _ hv (by omega) (by decide) (by decide)).mono ?_; rintro r w3 ⟨rfl, rfl⟩; rw [HA.out]))
      go_roundw
      case rel =>
        have r3 := row_set (x := v + 1) HR2.out (mix_len id v (v + 1) E j).symm HM.out
        rw [HN.out] at r3
        exact ⟨j + 1, by omega, by go_num, r3, HB2.out.setCell (p := ⟨g, j * 4 + 3, none⟩) hg _⟩
      case measure => simp [intOf]; omega
    · obtain rfl : j = E.length := by omega
      rw [mix_end] at hR
      have HR : Hid _ := hR
      have HB : Hid _ := hb
      have HO : Hid _ := OutBox.new HOut.out hb
      clear hR hb
      go_wp2_with (refine wpList_store_row rfl 74 _ _ rfl (w.heap.size + 1) #[.int .i64 v, .bool true, (.slice ao E.length c), .slice none 0 0, .bool false, .bool false, .bool false, .bool false, .bool false, .int .i64 0, .int .i64 0, .int .i64 0, .int .i64 0, .int .i64 0, .int .i64 0] rfl rfl 74 #[.int .i64 0, .bool false, .slice none 0 0, .slice none 0 0, .bool false, .bool false, .bool false, .bool false, .bool false, .int .i64 0, .int .i64 0, .int .i64 0, .int .i64 0, .int .i64 0, .int .i64 0] HO.out size_out rfl (by simp [Value.oneCell']) ?_)
      refine bodyPost_ret (v := .agg #[.int .i64 v, .bool true, (.slice ao E.length c), .slice none 0 0, .bool false, .bool false, .bool false, .bool false, .bool false, .int .i64 0, .int .i64 0, .int .i64 0, .int .i64 0, .int .i64 0, .int .i64 0]) (results_cell_row Try.results112 _ _ (w.heap.size + 1) 74 _ (0, 0) _ rfl (setRow_heap _ _ _ _ _ _ HO.out) Try.underlying74 rfl size_out) rfl ?_
      have hB1 : Below w.heap.size w wr := HB0.out.trans (HB.out.mono HB0.out.size)
      refine ⟨_, rfl, ?_, k_setRow hB1 (by omega) _⟩
      unfold KM
      rw [toL_len]
      exact k_low (k_fr HR.out (fr_setRow _ _ _) (fun k hk => by have := HS0.out; omega)) HB0.out.size
end Go.Proofs.Ytnijacbfcffnpaa
end

section
/- What colors does in superstep 1; the document's awake of layer 8. -/
namespace Go.Proofs.Ytnijacbfcffnpaa
open Go.RowKit
theorem InBox.before {W : World} {b : Nat} {a0 a1 a2 a3 a4 a5 a6 a7 a8 a9 a10 a11 a12 a13 a14 a15 a16 a17 : Value} (h : InBox W b #[a0, a1, a2, a3, a4, a5, a6, a7, a8, a9, a10, a11, a12, a13, a14, a15, a16, a17]) : W.rangeAt b 6 [a6, a7, a8, a9, a10, a11, a12, a13, a14, a15] := by
  intro j v hv
  unfold InBox at h
  match j, hv with
  | 0, hv => simp [World.cell?, h]; simpa using hv
  | 1, hv => simp [World.cell?, h]; simpa using hv
  | 2, hv => simp [World.cell?, h]; simpa using hv
  | 3, hv => simp [World.cell?, h]; simpa using hv
  | 4, hv => simp [World.cell?, h]; simpa using hv
  | 5, hv => simp [World.cell?, h]; simpa using hv
  | 6, hv => simp [World.cell?, h]; simpa using hv
  | 7, hv => simp [World.cell?, h]; simpa using hv
  | 8, hv => simp [World.cell?, h]; simpa using hv
  | 9, hv => simp [World.cell?, h]; simpa using hv
  | j + 10, hv => simp at hv
/-- The end of a function behind a drawn region: an Output's box is told. -/
theorem out_ret {fn : Func} {p : Nat} {A : Act} {X : Nat → Value} {W : World} {post : Ending → World → Prop} {ds : List Nat} {bo : Nat} {cs : Array Value} (hr : fn.results = #[.cell p 74]) (h2 : p ∉ ds) (hA2 : A.eval (.tmp p) = .pointer (some ⟨bo, 0, none⟩)) (hd : A.defers = []) (hO : OutBox W bo cs) (hsz : (Try.prog.info? 74).map (·.size) = some cs.size) (hp : post (.returned (.agg cs)) W) : Code.wp Try.prog Code.ret (bodyPost Try.prog fn post) (puts A X ds) W :=
  wp_ret (bodyPost_ret (v := .agg cs) (results_cell_row hr _ _ bo 74 cs (0, 0) _ ((eval_out (A := A) (X := X) h2).trans hA2) hO Try.underlying74 rfl hsz) ((puts_defers A X ds).trans hd) hp)
set_option maxRecDepth 100000 in
set_option maxHeartbeats 1000000 in
theorem colors_1 {w : World} {P : Nat → Prop} {id va ma : Int} {eo mo po : Option Addr} {en ec mn mc pn pc : Nat} {ha : Value} {ob : Nat → Option Int} (L : List Msg) (hn : mn = L.length) (hL : MsAt w P mo L) (hok : ∀ m ∈ L, m.ok) (hl : L.length ≤ 1048576) (AB : List Int) (hab : AB.length ≤ 1048576)
    (hAb : ∀ W, Below w.heap.size w W → Calls Try.prog 75 #[.agg #[.int .i64 1, .int .i64 id, .int .i64 va, .slice eo en ec, ha, .slice mo mn mc, .bool (oh ob 0), .bool (oh ob 1), .bool (oh ob 2), .bool (oh ob 3), .bool (oh ob 4), .int .i64 (ov ob 0), .int .i64 (ov ob 1), .int .i64 (ov ob 2), .int .i64 (ov ob 3), .int .i64 (ov ob 4), .int .i64 ma, .slice po pn pc]] W fun r w' => ∃ ao cc, r = .returned (.slice ao AB.length cc) ∧ IsAt w' ao AB ∧ Below W.heap.size W w') :
    Calls Try.prog 50 #[.agg #[.int .i64 1, .int .i64 id, .int .i64 va, .slice eo en ec, ha, .slice mo mn mc, .bool (oh ob 0), .bool (oh ob 1), .bool (oh ob 2), .bool (oh ob 3), .bool (oh ob 4), .int .i64 (ov ob 0), .int .i64 (ov ob 1), .int .i64 (ov ob 2), .int .i64 (ov ob 3), .int .i64 (ov ob 4), .int .i64 ma, .slice po pn pc]] w fun r w' => ∃ (k : Nat) (ao : Option Addr) (cc : Nat), r = .returned (.agg #[.int .i64 k, .bool false, .slice ao AB.length cc, .slice none 0 0, .bool false, .bool false, .bool false, .bool false, .bool true, .int .i64 0, .int .i64 0, .int .i64 0, .int .i64 0, .int .i64 1, .int .i64 0]) ∧ LeastUn L k ∧ KM w' w.heap.size (.slice ao AB.length cc) (tellL id k AB) ∧ Below w.heap.size w w' := by
  obtain ⟨W0, hW0⟩ : ∃ W0, (w.alloc (.cells #[.int .i64 1, .int .i64 id, .int .i64 va, .slice eo en ec, ha, .slice mo mn mc, .bool (oh ob 0), .bool (oh ob 1), .bool (oh ob 2), .bool (oh ob 3), .bool (oh ob 4), .int .i64 (ov ob 0), .int .i64 (ov ob 1), .int .i64 (ov ob 2), .int .i64 (ov ob 3), .int .i64 (ov ob 4), .int .i64 ma, .slice po pn pc] 79)).alloc (.cells #[.int .i64 0, .bool false, .slice none 0 0, .slice none 0 0, .bool false, .bool false, .bool false, .bool false, .bool false, .int .i64 0, .int .i64 0, .int .i64 0, .int .i64 0, .int .i64 0, .int .i64 0] 74) = W0 := ⟨_, rfl⟩
  obtain ⟨hIn, hOut, hB0, hs0⟩ := two_boxes w _ hW0
  obtain ⟨c0, _⟩ := hIn.cells
  have HIn : Hid _ := hIn
  have HOut : Hid _ := hOut
  have HL : Hid (MsAt W0 P mo L) := hL.new hB0
  have HB0 : Hid _ := hB0
  have HS0 : Hid _ := hs0
  have HN : Hid _ := hn
  have HOk : Hid _ := hok
  have HAb : Hid (∀ W, Below W0.heap.size W0 W → Calls Try.prog 75 #[.agg #[.int .i64 1, .int .i64 id, .int .i64 va, .slice eo en ec, ha, .slice mo mn mc, .bool (oh ob 0), .bool (oh ob 1), .bool (oh ob 2), .bool (oh ob 3), .bool (oh ob 4), .int .i64 (ov ob 0), .int .i64 (ov ob 1), .int .i64 (ov ob 2), .int .i64 (ov ob 3), .int .i64 (ov ob 4), .int .i64 ma, .slice po pn pc]] W fun r w' => ∃ ao cc, r = .returned (.slice ao AB.length cc) ∧ IsAt w' ao AB ∧ Below W.heap.size W w') := fun W hb => hAb W (hB0.trans (hb.mono hB0.size))
  clear hIn hOut hL hB0 hs0 hn hok hAb
  go_enter Try.func50, Try.ntmps50
  go_upto_region 4 with (first
    | (refine wpList_load_row rfl 79 _ rfl w.heap.size rfl 79 #[.int .i64 1, .int .i64 id, .int .i64 va, .slice eo en ec, ha, .slice mo mn mc, .bool (oh ob 0), .bool (oh ob 1), .bool (oh ob 2), .bool (oh ob 3), .bool (oh ob 4), .int .i64 (ov ob 0), .int .i64 (ov ob 1), .int .i64 (ov ob 2), .int .i64 (ov ob 3), .int .i64 (ov ob 4), .int .i64 ma, .slice po pn pc] (0, 0) _ HIn.out Try.underlying79 rfl size_in ?_)
    | (go_at_call 72; refine (unsaid_any L HN.out HL.out HOk.out hl).mono ?_; rintro r w1 ⟨k, rfl, hk, hb1⟩; have HK : Hid (LeastUn L k) := hk; have HI1 : Hid _ := InBox.new HIn.out hb1; have HO1 : Hid _ := OutBox.new HOut.out hb1; have HB1 : Hid _ := hb1; clear hk hb1))
  clear c0 HIn HOut HL
  go_upto_region 5 with (first
    | (refine wpList_load_mid rfl 72 _ rfl w.heap.size 6 rfl [.bool (oh ob 0), .bool (oh ob 1), .bool (oh ob 2), .bool (oh ob 3), .bool (oh ob 4), .int .i64 (ov ob 0), .int .i64 (ov ob 1), .int .i64 (ov ob 2), .int .i64 (ov ob 3), .int .i64 (ov ob 4)] _ (InBox.before HI1.out) Try.underlying72 rfl size_ag ?_)
    | (go_at_call 73; refine (get_any ob 4 _).mono ?_; rintro r w2 ⟨rfl, hb2⟩; have HI2 : Hid _ := InBox.new HI1.out hb2; have HO2 : Hid _ := OutBox.new HO1.out hb2; have HB2 : Hid _ := HB1.out.trans (hb2.mono HB1.out.size); clear hb2))
  obtain ⟨d0, _⟩ := InBox.cells HI2.out
  clear HI1 HO1 HB1
  generalize getO ob 4 = g4
  go_upto_region 10 with fail
  refine colors_r10 (bx := w.heap.size) (bo := w.heap.size + 1) (c := k) (ch := 1) (AB := AB) rfl rfl rfl rfl rfl HI2.out HO2.out ⟨by decide, by decide⟩ hab (fun W hb => HAb.out W (HB2.out.trans (hb.mono HB2.out.size))) ?_
  intro X W W1 ao cc hb hW1 hK
  subst hW1
  have hbw := HB2.out.trans (hb.mono HB2.out.size)
  have hO := OutBox.new HO2.out hb
  rename_i hKK
  refine hKK _ _ (out_ret (p := 2) (bo := w.heap.size + 1) Try.results50 (by decide) rfl rfl (setRow_heap _ _ _ _ _ _ hO) size_out ?_)
  refine ⟨k, ao, cc, rfl, HK.out, ?_, k_setRow (HB0.out.trans (hbw.mono HB0.out.size)) (by omega) _⟩
  exact k_low (k_fr hK (fr_setRow _ _ _) (fun j hj => by have := HB2.out.size; have := HS0.out; omega)) (Nat.le_trans HB0.out.size HB2.out.size)
end Go.Proofs.Ytnijacbfcffnpaa
end

section
/- The document's awake of layer 8. -/
namespace Go.Proofs.Ytnijacbfcffnpaa
open Go.RowKit
set_option maxRecDepth 100000 in
theorem idx_nil {ao : Option Addr} {c : Nat} (f : Value) (w : World) : Calls Try.prog 129 #[.slice ao 0 c, f] w fun r w' => r = .returned (.int .i64 (-1)) ∧ w' = w := by
  go_enter Try.func129, Try.ntmps129
  go_wp2
  go_loopw [5, 8] (fun _ i wr => i = .int .i64 0 ∧ wr = w) (fun _ _ _ => 0)
  case atStart => exact ⟨rfl, rfl⟩
  case round =>
    obtain ⟨rfl, rfl⟩ := hrel
    go_wp2
    go_ret
    exact ⟨rfl, rfl⟩
set_option maxRecDepth 100000 in
theorem del_nil {ao : Option Addr} {c : Nat} (f : Value) (w : World) : Calls Try.prog 105 #[.slice ao 0 c, f] w fun r w' => r = .returned (.slice ao 0 c) ∧ w' = w := by
  go_enter Try.func105, Try.ntmps105
  go_wp2_with (go_at_call 129; refine (idx_nil f _).mono ?_; rintro r w1 ⟨rfl, rfl⟩)
  go_ret
  exact ⟨rfl, rfl⟩
set_option maxRecDepth 100000 in
theorem above_nil {w : World} {st id va ma : Int} {eo mo po : Option Addr} {en ec mn mc pn pc : Nat} {ha ag0 ag1 ag2 ag3 ag4 ag5 ag6 ag7 ag8 ag9 : Value} (he : en = 0) : Calls Try.prog 75 #[(.agg #[.int .i64 st, .int .i64 id, .int .i64 va, .slice eo en ec, ha, .slice mo mn mc, ag0, ag1, ag2, ag3, ag4, ag5, ag6, ag7, ag8, ag9, .int .i64 ma, .slice po pn pc])] w fun r w' => ∃ ao cc, r = .returned (.slice ao ([] : List Int).length cc) ∧ IsAt w' ao [] ∧ Below w.heap.size w w' := by
  obtain ⟨W0, hW0⟩ : ∃ W0, w.alloc (.cells #[.int .i64 st, .int .i64 id, .int .i64 va, .slice eo en ec, ha, .slice mo mn mc, ag0, ag1, ag2, ag3, ag4, ag5, ag6, ag7, ag8, ag9, .int .i64 ma, .slice po pn pc] 79) = W0 := ⟨_, rfl⟩
  have hB0 : Below w.heap.size w W0 := by rw [← hW0]; exact one_newK _ _
  have hc := InBox.made w #[.int .i64 st, .int .i64 id, .int .i64 va, .slice eo en ec, ha, .slice mo mn mc, ag0, ag1, ag2, ag3, ag4, ag5, ag6, ag7, ag8, ag9, .int .i64 ma, .slice po pn pc]
  rw [hW0] at hc
  have HC : Hid _ := hc
  have HB0 : Hid _ := hB0
  have HE : Hid _ := he
  clear hc hB0 he
  go_enter Try.func75, Try.ntmps75
  go_wp2_with (first
    | (refine wpList_load_row rfl 79 _ rfl w.heap.size rfl 79 #[.int .i64 st, .int .i64 id, .int .i64 va, .slice eo en ec, ha, .slice mo mn mc, ag0, ag1, ag2, ag3, ag4, ag5, ag6, ag7, ag8, ag9, .int .i64 ma, .slice po pn pc] (0, 0) _ HC.out Try.underlying79 rfl size_in ?_)
    | (go_at_call 77; refine (others_any (P := fun _ => True) ([] : List Ed) HE.out (fun h => absurd h (by decide)) (by decide)).mono ?_; rintro r w1 ⟨ao, cc, rfl, hK, hb1⟩; have HB1 : Hid _ := hb1; clear hb1 hK)
    | (go_at_call 105; refine (del_nil _ _).mono ?_; rintro r w2 ⟨rfl, rfl⟩))
  go_ret
  exact ⟨_, _, rfl, fun h => absurd h (by decide), HB0.out.trans (HB1.out.mono HB0.out.size)⟩
set_option maxRecDepth 100000 in
set_option maxHeartbeats 1000000 in
/-- Step of colors is what colors does. -/
theorem mstep_col {w : World} {cs : Array Value} (hcs : (Try.prog.info? 79).map (·.size) = some cs.size) {F : Array Value → World → Nat → Prop}
    (hC : ∀ W, Below w.heap.size w W → Calls Try.prog 50 #[.agg cs] W fun r w' => ∃ out : Array Value, r = .returned (.agg out) ∧ out.size = 15 ∧ out.all (·.oneCell') = true ∧ F out w' W.heap.size ∧ Below W.heap.size W w')
    (hF : ∀ out w' w'' b b', F out w' b → Fr w' w'' (fun k => k < b) → b' ≤ b → F out w'' b') :
    Calls Try.prog 28 #[.string ⟨#[99, 111, 108, 111, 114, 115]⟩, .agg cs] w fun r w' => ∃ out : Array Value, r = .returned (.agg out) ∧ F out w' w.heap.size ∧ Below w.heap.size w w' := by
  obtain ⟨W0, hW0⟩ : ∃ W0, (w.alloc (.cells cs 79)).alloc (.cells #[.int .i64 0, .bool false, .slice none 0 0, .slice none 0 0, .bool false, .bool false, .bool false, .bool false, .bool false, .int .i64 0, .int .i64 0, .int .i64 0, .int .i64 0, .int .i64 0, .int .i64 0] 74) = W0 := ⟨_, rfl⟩
  obtain ⟨hIn, hOut, hB0, hs0⟩ := two_boxes w _ hW0
  have HIn : Hid _ := hIn
  have HOut : Hid _ := hOut
  have HB0 : Hid _ := hB0
  have HS0 : Hid _ := hs0
  have HC : Hid (Calls Try.prog 50 #[.agg cs] W0 fun r w' => ∃ out : Array Value, r = .returned (.agg out) ∧ out.size = 15 ∧ out.all (·.oneCell') = true ∧ F out w' W0.heap.size ∧ Below W0.heap.size W0 w') := hC W0 hB0
  have HF : Hid _ := hF
  clear hIn hOut hB0 hs0 hC hF
  go_enter Try.func28, Try.ntmps28
  go_wp2_with (first
    | (refine wpList_load_row rfl 79 _ rfl w.heap.size rfl 79 cs (0, 0) _ HIn.out Try.underlying79 rfl hcs ?_)
    | (go_at_call 50; refine HC.out.mono ?_; rintro r w1 ⟨out, rfl, h15, h1c, hf, hb1⟩; have H15 : Hid (out.size = 15) := h15; have H1c : Hid (out.all (·.oneCell') = true) := h1c; have Hf : Hid (F out w1 W0.heap.size) := hf; have HO1 : Hid _ := OutBox.new HOut.out hb1; have HB1 : Hid _ := hb1; clear h15 h1c hf hb1)
    | (refine wpList_store_row rfl 74 _ _ rfl (w.heap.size + 1) out rfl rfl 74 #[.int .i64 0, .bool false, .slice none 0 0, .slice none 0 0, .bool false, .bool false, .bool false, .bool false, .bool false, .int .i64 0, .int .i64 0, .int .i64 0, .int .i64 0, .int .i64 0, .int .i64 0] HO1.out (by rw [H15.out]; exact size_out) (by rw [H15.out]; rfl) H1c.out ?_))
  refine bodyPost_ret (v := .agg out) (results_cell_row Try.results28 _ _ (w.heap.size + 1) 74 _ (0, 0) _ rfl (setRow_heap _ _ _ _ _ _ HO1.out) Try.underlying74 rfl (by rw [H15.out]; exact size_out)) rfl ?_
  exact ⟨out, rfl, HF.out _ _ _ _ _ Hf.out ((fr_setRow _ _ _).mono (fun k _ e => by have := HS0.out; omega)) HB0.out.size, k_setRow (HB0.out.trans (HB1.out.mono HB0.out.size)) (by omega) _⟩
theorem awL (k : Nat) (h : LeastUn [⟨0, 0, 0, 0⟩, ⟨0, 0, 0, 2⟩] k) : k = 1 := by
  refine h.one ⟨fun i hi => ?_, rfl⟩
  obtain rfl : i = 0 := by omega
  rfl
set_option maxRecDepth 100000 in
set_option maxHeartbeats 1000000 in
theorem awake8 (w : World) : Calls Try.prog 11 #[] w fun e w' => e = .returned (.bool true) ∧ Below w.heap.size w w' := by
  obtain ⟨W0, hW0⟩ : ∃ W0, w.alloc (.cells #[.int .i64 0, .int .i64 0, .int .i64 0, .int .i64 0, .int .i64 0, .int .i64 0, .int .i64 0, .int .i64 2] 77) = W0 := ⟨_, rfl⟩
  have hB0 : Below w.heap.size w W0 := by rw [← hW0]; exact one_newK _ _
  have hM : MsAt W0 (fun _ => True) (some ⟨w.heap.size, 0, none⟩) [⟨0, 0, 0, 0⟩, ⟨0, 0, 0, 2⟩] := by
    intro _
    have hh : W0.heap[w.heap.size]? = some (.cells #[.int .i64 0, .int .i64 0, .int .i64 0, .int .i64 0, .int .i64 0, .int .i64 0, .int .i64 0, .int .i64 2] 77 (0, 0)) := by rw [← hW0]; exact heap_alloc_new _ _
    refine ⟨_, _, rfl, trivial, fun j hj => ?_⟩
    rcases (show j = 0 ∨ j = 1 by simp at hj; omega) with rfl | rfl <;> simp [World.cell?, hh]
  have hA : ∀ W, Below W0.heap.size W0 W → Calls Try.prog 50 #[.agg #[.int .i64 1, .int .i64 1, .int .i64 0, .slice none 0 0, .bool false, .slice (some ⟨w.heap.size, 0, none⟩) 2 2, .bool false, .bool false, .bool false, .bool false, .bool false, .int .i64 0, .int .i64 0, .int .i64 0, .int .i64 0, .int .i64 0, .int .i64 0, .slice none 0 0]] W fun r w' => ∃ out : Array Value, r = .returned (.agg out) ∧ out.size = 15 ∧ out.all (·.oneCell') = true ∧ (∃ ao cc, out = #[.int .i64 1, .bool false, .slice ao 0 cc, .slice none 0 0, .bool false, .bool false, .bool false, .bool false, .bool true, .int .i64 0, .int .i64 0, .int .i64 0, .int .i64 0, .int .i64 1, .int .i64 0]) ∧ Below W.heap.size W w' := fun W hb => by
    refine (colors_1 (P := fun _ => True) (ob := fun _ => none) [⟨0, 0, 0, 0⟩, ⟨0, 0, 0, 2⟩] rfl (hM.new hb) (fun m hm => ?_) (by decide) [] (by decide) (fun W' hb' => above_nil rfl)).mono ?_
    · simp at hm
      rcases hm with rfl | rfl <;> exact ⟨by unfold I64; decide, by unfold I64; decide, by unfold I64; decide, by unfold I64; decide⟩
    · rintro r w' ⟨k, ao, cc, rfl, hk, _, hb'⟩
      obtain rfl := awL k hk
      exact ⟨_, rfl, rfl, by simp [Value.oneCell'], ⟨ao, cc, rfl⟩, hb'⟩
  have HB0 : Hid _ := hB0
  have HS := mstep_col (w := W0) (cs := #[.int .i64 1, .int .i64 1, .int .i64 0, .slice none 0 0, .bool false, .slice (some ⟨w.heap.size, 0, none⟩) 2 2, .bool false, .bool false, .bool false, .bool false, .bool false, .int .i64 0, .int .i64 0, .int .i64 0, .int .i64 0, .int .i64 0, .int .i64 0, .slice none 0 0]) (F := fun out _ _ => ∃ ao cc, out = #[.int .i64 1, .bool false, .slice ao 0 cc, .slice none 0 0, .bool false, .bool false, .bool false, .bool false, .bool true, .int .i64 0, .int .i64 0, .int .i64 0, .int .i64 0, .int .i64 1, .int .i64 0]) (by exact size_in) hA (fun _ _ _ _ _ h _ _ => h)
  have HSt : Hid _ := HS
  clear hM hA hB0 HS
  go_enter Try.func11, Try.ntmps11
  go_upto_region 2 with (first
    | (go_at_call 28; refine Calls.mono HSt.out ?_; rintro r w1 ⟨out, rfl, ⟨ao, cc, rfl⟩, hb1⟩; have HB1 : Hid _ := hb1; clear hb1)
    | (refine wpList_store_row rfl 74 _ _ rfl w1.heap.size #[.int .i64 1, .bool false, .slice ao 0 cc, .slice none 0 0, .bool false, .bool false, .bool false, .bool false, .bool true, .int .i64 0, .int .i64 0, .int .i64 0, .int .i64 0, .int .i64 1, .int .i64 0] rfl rfl 74 #[.int .i64 0, .bool false, .slice none 0 0, .slice none 0 0, .bool false, .bool false, .bool false, .bool false, .bool false, .int .i64 0, .int .i64 0, .int .i64 0, .int .i64 0, .int .i64 0, .int .i64 0] (heap_alloc_new _ _) size_out rfl (by simp [Value.oneCell']) ?_))
  generalize hW : World.setRow _ _ _ = W
  have hO : OutBox W w1.heap.size #[.int .i64 1, .bool false, .slice ao 0 cc, .slice none 0 0, .bool false, .bool false, .bool false, .bool false, .bool true, .int .i64 0, .int .i64 0, .int .i64 0, .int .i64 0, .int .i64 1, .int .i64 0] := by rw [← hW]; exact setRow_heap _ _ _ _ _ _ (heap_alloc_new _ _)
  have hb2 : Below w1.heap.size w1 W := by rw [← hW]; exact ag_setRow (one_newK _ _) (Nat.le_refl _) _
  have HB2 : Hid (Below w.heap.size w W) := (HB0.out.trans (HB1.out.mono HB0.out.size)).trans (hb2.mono (HB0.out.trans (HB1.out.mono HB0.out.size)).size)
  obtain ⟨q0, q1, _, _, _, _, _, _, _, _, _, _, _, _, q14⟩ := hO.cells
  clear hW hO hb2 HB1
  go_wp2
  go_ret
  exact ⟨rfl, HB2.out⟩
end Go.Proofs.Ytnijacbfcffnpaa
end

section
/- What the document's Check returns. -/
namespace Go.Proofs.Ytnijacbfcffnpaa
open Go.RowKit
/-- A vertex's edges rise, and their ends are there. -/
def GoodE (G : List Vx) (L : List Ed) (n : Nat) : Prop := (∀ j (h : j < L.length), j < n → (ids G).contains L[j].t = true) ∧ ∀ j (h : j + 1 < L.length), j + 1 < n → L[j].t < L[j + 1].t
theorem good_all {G : List Vx} (H : ∀ j (h : j < G.length), GoodE G G[j].es G[j].es.length) : risesE G = true ∧ thereE G = true := by
  constructor
  · refine risesE_all (fun j hj => (riseB_iff _).2 (fun i hi => ?_))
    have := (H j hj).2 i (by rw [ends_len] at hi; exact hi) (by rw [ends_len] at hi; exact hi)
    rw [ends_get _ _ (by rw [ends_len] at hi; omega), ends_get _ _ (by rw [ends_len] at hi; exact hi)]
    exact this
  · unfold thereE
    rw [List.all_eq_true]
    intro v hv
    obtain ⟨j, hj, rfl⟩ := List.getElem_of_mem hv
    rw [List.all_eq_true]
    intro e he
    obtain ⟨i, hi, rfl⟩ := List.getElem_of_mem he
    exact (H j hj).1 i hi hi
theorem bad_there {G : List Vx} {j i : Nat} (hj : j < G.length) (hi : i < G[j].es.length) (h : (ids G).contains G[j].es[i].t = false) : thereE G = false := by
  unfold thereE
  rw [Bool.eq_false_iff]
  intro ha
  rw [List.all_eq_true] at ha
  have h1 := ha _ (List.getElem_mem hj)
  rw [List.all_eq_true] at h1
  have h2 := h1 _ (List.getElem_mem hi)
  rw [h] at h2
  cases h2
theorem bad_rise {G : List Vx} {j i : Nat} (hj : j < G.length) (hi : i + 1 < G[j].es.length) (h : ¬ G[j].es[i].t < G[j].es[i + 1].t) : risesE G = false := by
  refine risesE_at hj (rise_false (j := i) (by rw [ends_len]; exact hi) ?_)
  rw [ends_get _ _ (by omega), ends_get _ _ hi]
  exact h

set_option maxRecDepth 100000 in
set_option maxHeartbeats 2000000 in
theorem refcheck_any {w : World} {P : Nat → Prop} {ao : Option Addr} {G : List Vx} (cap : Nat) (h : VxAt w P ao G) (hl : G.length ≤ 9223372036854775807) (hok : ∀ v ∈ G, v.ok) :
    Calls Try.prog 10 #[.slice ao G.length cap] w fun r w' => r = .returned (.int .i64 (chk G)) ∧ Below w.heap.size w w' := by
  by_cases hlen : 256 < G.length
  · have HC : Hid (chk G = 30) := if_pos (Or.inl hlen)
    go_enter Try.func10, Try.ntmps10
    go_wp2
    go_ret
    exact ⟨by rw [HC.out]; rfl, Below.refl _ _⟩
  · have HV : Hid (VxAt w P ao G) := h
    have HO : Hid (∀ v ∈ G, v.ok) := hok
    clear h hok
    go_enter Try.func10, Try.ntmps10
    go_wp2
    go_loopw [3] (fun i wr => ∃ (k : Nat), 1 ≤ k ∧ k ≤ max G.length 1 ∧ i = .int .i64 k ∧ Hid (∀ j (h : j + 1 < (ids G).length), j + 1 < k → (ids G)[j] < (ids G)[j + 1]) ∧ Below w.heap.size w wr) (fun i _ => G.length - (intOf i).toNat)
    case atStart => exact ⟨1, Nat.le_refl _, by omega, rfl, fun j _ hj => absurd hj (by omega), Below.refl _ _⟩
    case round =>
      obtain ⟨k, hk1, hk, rfl, HR, hb⟩ := hrel
      by_cases hlt : k < G.length
      · obtain ⟨b, off, rfl, hP, hc⟩ := HV.out (by omega)
        obtain ⟨m, HK⟩ : ∃ m, Hid (k = m + 1) := ⟨k - 1, (by omega : k = k - 1 + 1)⟩
        have hmk : k = m + 1 := HK.out
        have hm0 : m < G.length := by omega
        obtain ⟨eo, ec, c0, _, _, _⟩ := hc m hm0
        obtain ⟨fo, fc, f0, _, _, _⟩ := hc k hlt
        have hbb := lt_cell c0
        have d0 := (hb.cell (p := ⟨b, off + m * 3, none⟩) hbb).trans c0
        have g0 := (hb.cell (p := ⟨b, off + k * 3, none⟩) hbb).trans f0
        have HM : Hid ((ids G)[m]'(by rw [ids_len]; omega) = G[m].id) := ids_get G m hm0
        have HN : Hid ((ids G)[k]'(by rw [ids_len]; omega) = G[k].id) := ids_get G k hlt
        have hm1 : IntKind.i64.wrap ((k : Int) - 1) = m := by rw [IntKind.wrap_i64]; omega
        have hm2 : wrap64 ((k : Int) - 1) = m := by unfold wrap64; omega
        clear c0 f0 hc hmk
        generalize G[m] = y at d0 HM
        generalize G[k] = z at g0 HN
        go_wp2
        go_quiet (fail)
        by_cases hr : z.id ≤ y.id
        · have HC : Hid (chk G = 30) := if_pos (Or.inr (rise_at HK.out (by rw [ids_len]; exact hlt) HM.out HN.out hr))
          go_wp2
          go_ret
          exact ⟨by rw [HC.out]; rfl, bel_drewN hb _⟩
        · go_wp2
          go_roundw
          case rel => exact ⟨k + 1, by omega, by omega, by go_num, rise_step HK.out (by rw [ids_len]; exact hlt) HM.out HN.out (by omega) HR.out, bel_drewN hb _⟩
          case measure => simp [intOf]; omega
      · have HRi : Hid (Rise (ids G)) := fun j hj => HR.out j hj (by rw [ids_len] at hj; omega)
        have HRb : Hid (riseB (ids G) = true) := (riseB_iff _).2 HRi.out
        have HC : Hid (chk G = if 2048 < sumE G ∨ risesE G = false ∨ thereE G = false then 31 else 0) := if_neg (by rw [HRb.out]; simp; omega)
        have HVr : Hid (VxAt wr P ao G) := HV.out.new hb
        have hE := refedges_any cap HVr.out hl
        by_cases hs : 2048 < sumE G
        · go_wp2_with (go_at_call 26; refine hE.mono ?_; rintro r w1 ⟨rfl, hb1⟩)
          go_ret
          exact ⟨by rw [HC.out, if_pos (Or.inl hs)]; rfl, hb.trans (hb1.mono hb.size)⟩
        · go_wp2_with (go_at_call 26; refine hE.mono ?_; rintro r w1 ⟨rfl, hb1⟩)
          have hbA : Below w.heap.size w w1 := hb.trans (hb1.mono hb.size)
          have HVA : Hid (VxAt w1 P ao G) := HVr.out.new hb1
          clear hE hb1
          go_loopw [4, 5, 6, 7, 8] (fun i _ _ _ _ wx => ∃ (j : Nat), j ≤ G.length ∧ i = .int .i64 j ∧ Hid (∀ q (h : q < G.length), q < j → GoodE G G[q].es G[q].es.length) ∧ Below w.heap.size w wx) (fun i _ _ _ _ _ => G.length - (intOf i).toNat)
          case atStart => exact ⟨0, Nat.zero_le _, rfl, fun q _ hq => absurd hq (by omega), hbA⟩
          case round =>
            obtain ⟨j, hj, rfl, HQ, hbx⟩ := hrel
            by_cases hjl : j < G.length
            · obtain ⟨b, off, rfl, hP, hc⟩ := HV.out (by omega)
              obtain ⟨eo, ec, e0, e1, e2, e3⟩ := hc j hjl
              have hbb := lt_cell e0
              have d2 := (hbx.cell (p := ⟨b, off + j * 3 + 2, none⟩) hbb).trans e2
              have HE : Hid (EdAt w P eo G[j].es) := e3
              have hel : G[j].es.length ≤ 9223372036854775807 := Nat.le_trans (HO.out _ (List.getElem_mem hjl)).len (by decide)
              have HB1 : Hid (∀ y, G[j] = y → ∀ i (h : i < y.es.length), (ids G).contains y.es[i].t = false → thereE G = false) := fun y e i hi hcn => by subst e; exact bad_there hjl hi hcn
              have HB2 : Hid (∀ y, G[j] = y → ∀ i (h : i + 1 < y.es.length), ¬ y.es[i].t < y.es[i + 1].t → risesE G = false) := fun y e i hi hcn => by subst e; exact bad_rise hjl hi hcn
              have HB3 : Hid (∀ y, G[j] = y → GoodE G y.es y.es.length → ∀ q (h : q < G.length), q < j + 1 → GoodE G G[q].es G[q].es.length) := fun y e hg q hq hqj => by
                by_cases eq : q = j
                · subst eq; rw [e]; exact hg
                · exact HQ.out q hq (by omega)
              obtain ⟨y, hy⟩ : ∃ y, G[j] = y := ⟨_, rfl⟩
              have HY : Hid (G[j] = y) := hy
              rw [hy] at d2 HE hel
              clear hy e0 e1 e2 e3 hc
              go_wp2
              go_loopw [6, 7, 8] (fun i _ _ wx => ∃ (k : Nat), k ≤ y.es.length ∧ i = .int .i64 k ∧ Hid (GoodE G y.es k) ∧ Below w.heap.size w wx) (fun i _ _ _ => y.es.length - (intOf i).toNat)
              case atStart => exact ⟨0, Nat.zero_le _, rfl, ⟨fun q _ hq => absurd hq (by omega), fun q _ hq => absurd hq (by omega)⟩, hbx⟩
              case round =>
                obtain ⟨k, hk, rfl, HD, hby⟩ := hrel
                by_cases hkl : k < y.es.length
                · obtain ⟨eb, eoff, rfl, hPe, hce⟩ := HE.out (by omega)
                  have f0 := (hby.cell (p := ⟨eb, eoff + k * 2, none⟩) (lt_cell (hce k hkl).1)).trans (hce k hkl).1
                  have hF := reffind_any cap y.es[k].t (HV.out.new hby) hl
                  have HP1 : Hid (foundB (ids G) y.es[k].t = (ids G).contains y.es[k].t) := foundB_iff HRi.out _
                  have HN : Hid (∀ z, y.es[k] = z → (ids G).contains z.t = false → thereE G = false) := fun z e hcn => HB1.out y HY.out k hkl (by rw [e]; exact hcn)
                  cases hfb : foundB (ids G) y.es[k].t with
                  | false =>
                    rw [hfb] at hF HP1
                    have HT : Hid (thereE G = false) := HB1.out y HY.out k hkl HP1.out.symm
                    clear hfb hce
                    generalize y.es[k] = z at f0 hF
                    go_wp2_with (go_at_call 27; refine hF.mono ?_; rintro r w2 ⟨rfl, hb2⟩)
                    go_quiet (fail)
                    go_wp2
                    go_ret
                    exact ⟨by rw [HC.out, if_pos (Or.inr (Or.inr HT.out))]; rfl, bel_drewN (hby.trans (hb2.mono hby.size)) _⟩
                  | true =>
                    rw [hfb] at hF HP1
                    by_cases hk0 : k = 0
                    · have HG : Hid (GoodE G y.es (k + 1)) := ⟨fun q hq hqk => by
                        obtain rfl : q = k := by omega
                        exact HP1.out.symm, fun q _ hq => absurd hq (by omega)⟩
                      have hd : decide (0 < k) = false := by rw [decide_eq_false_iff_not]; omega
                      clear hfb hce hk0
                      generalize y.es[k] = z at f0 hF
                      go_wp2_with (go_at_call 27; refine hF.mono ?_; rintro r w2 ⟨rfl, hb2⟩)
                      go_quiet (fail)
                      go_wp2
                      go_roundw
                      case rel => exact ⟨k + 1, by omega, by go_num, HG.out, bel_drewN (hby.trans (hb2.mono hby.size)) _⟩
                      case measure => simp [intOf]; omega
                    · obtain ⟨m, HK⟩ : ∃ m, Hid (k = m + 1) := ⟨k - 1, (by omega : k = k - 1 + 1)⟩
                      have hmk : k = m + 1 := HK.out
                      have hm0 : m < y.es.length := by omega
                      have g0 := (hby.cell (p := ⟨eb, eoff + m * 2, none⟩) (lt_cell (hce m hm0).1)).trans (hce m hm0).1
                      have hm1 : IntKind.i64.wrap ((k : Int) - 1) = m := by rw [IntKind.wrap_i64]; omega
                      have hm2 : wrap64 ((k : Int) - 1) = m := by unfold wrap64; omega
                      have hpos : decide (0 < k) = true := by rw [decide_eq_true_iff]; omega
                      have hebw : eb < w.heap.size := lt_cell (hce k hkl).1
                      have HG : Hid (∀ u z, y.es[m] = u → y.es[k] = z → u.t < z.t → GoodE G y.es (k + 1)) := fun u z hu hz hlt2 => ⟨fun q hq hqk => by
                        by_cases e : q = k
                        · subst e; exact HP1.out.symm
                        · exact HD.out.1 q hq (by omega), fun q hq hqk => by
                        by_cases e : q = m
                        · subst e; subst hmk; rw [hu, hz]; exact hlt2
                        · exact HD.out.2 q hq (by omega)⟩
                      have HX : Hid (∀ u z, y.es[m] = u → y.es[k] = z → ¬ u.t < z.t → risesE G = false) := fun u z hu hz hn => HB2.out y HY.out m (by omega) (by subst hmk; rw [hu, hz]; omega)
                      obtain ⟨u, hu⟩ : ∃ u, y.es[m] = u := ⟨_, rfl⟩
                      obtain ⟨z, hz⟩ : ∃ z, y.es[k] = z := ⟨_, rfl⟩
                      have HU : Hid (y.es[m] = u) := hu
                      have HZ : Hid (y.es[k] = z) := hz
                      rw [hu] at g0
                      rw [hz] at f0 hF
                      clear hfb hce hk0 hu hz hmk
                      go_wp2_with (go_at_call 27; refine hF.mono ?_; rintro r w2 ⟨rfl, hb2⟩; have f1 := (hb2.cell (p := ⟨eb, eoff + k * 2, none⟩) (Nat.lt_of_lt_of_le hebw hby.size)).trans f0; have g1 := (hb2.cell (p := ⟨eb, eoff + m * 2, none⟩) (Nat.lt_of_lt_of_le hebw hby.size)).trans g0)
                      go_quiet (fail)
                      by_cases hr : z.t ≤ u.t
                      · have HT : Hid (risesE G = false) := HX.out u z HU.out HZ.out (by omega)
                        go_wp2
                        go_ret
                        exact ⟨by rw [HC.out, if_pos (Or.inr (Or.inl HT.out))]; rfl, bel_drewN (hby.trans (hb2.mono hby.size)) _⟩
                      · go_wp2
                        go_roundw
                        case rel => exact ⟨k + 1, by omega, by go_num, HG.out u z HU.out HZ.out (by omega), bel_drewN (hby.trans (hb2.mono hby.size)) _⟩
                        case measure => simp [intOf]; omega
                · obtain rfl : k = y.es.length := by omega
                  go_wp2
                  go_roundw
                  case rel => exact ⟨j + 1, by omega, by go_num, HB3.out y HY.out HD.out, hby⟩
                  case measure => simp [intOf]; omega
            · have HT := good_all (fun q hq => HQ.out q hq (by omega))
              have HE0 : Hid (chk G = 0) := HC.out.trans (if_neg (by rw [HT.1, HT.2]; simp; omega))
              clear HT
              go_wp2
              go_ret
              exact ⟨by rw [HE0.out]; rfl, hbx⟩
theorem rise_of {G : List Vx} (h : chk G = 0) : G.length ≤ 256 ∧ Rise (ids G) := by
  unfold chk at h
  split at h
  · cases h
  · rename_i hn
    refine ⟨by omega, (riseB_iff _).1 ?_⟩
    cases hb : riseB (ids G) with
    | true => rfl
    | false => exact absurd (Or.inr hb) hn
end Go.Proofs.Ytnijacbfcffnpaa
end
