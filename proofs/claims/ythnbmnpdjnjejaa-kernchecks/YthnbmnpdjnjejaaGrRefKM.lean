import Derived.Test.YthnbmnpdjnjejaaKnAwake2
import Derived.Test.YthnbmnpdjnjejaaGrRefC
import Derived.Test.YthnbmnpdjnjejaaGrThere
section
/- The document's awake of layer 7. -/
namespace Go.Proofs.Ythnbmnpdjnjejaa
open Go.RowKit
set_option maxRecDepth 100000 in
set_option maxHeartbeats 1000000 in
theorem from_one {w : World} {P : Nat → Prop} {st id va ma : Int} {eo mo po : Option Addr} {en ec mn mc pn pc : Nat} {ha u0 u1 u2 u3 u4 u5 u6 u7 u8 u9 : Value} (E : List Ed) (he : en = E.length) (hE : EdAt w P eo E) (hl : E.length ≤ 1048576) {b off : Nat} (hp : po = some ⟨b, off, none⟩) (hn : 0 < pn) (hc : w.cell? ⟨b, off, none⟩ = some (.int .i64 id)) :
    Calls Try.prog 73 #[(.agg #[.int .i64 st, .int .i64 id, .int .i64 va, .slice eo en ec, ha, .slice mo mn mc, u0, u1, u2, u3, u4, u5, u6, u7, u8, u9, .int .i64 ma, .slice po pn pc]), .func (.func 74) #[] #[]] w fun r w' => ∃ tv, r = .returned (.agg #[.int .i64 0, .bool true, tv, .slice none 0 0, .bool false, .bool false, .bool false, .bool false, .bool false, .int .i64 0, .int .i64 0, .int .i64 0, .int .i64 0, .int .i64 0, .int .i64 0]) ∧ KM w' w.heap.size tv (toL id 1 E) ∧ Below w.heap.size w w' := by
  obtain ⟨W0, hW0⟩ : ∃ W0, (w.alloc (.cells #[.int .i64 st, .int .i64 id, .int .i64 va, .slice eo en ec, ha, .slice mo mn mc, u0, u1, u2, u3, u4, u5, u6, u7, u8, u9, .int .i64 ma, .slice po pn pc] 82)).alloc (.cells #[.int .i64 0, .bool false, .slice none 0 0, .slice none 0 0, .bool false, .bool false, .bool false, .bool false, .bool false, .int .i64 0, .int .i64 0, .int .i64 0, .int .i64 0, .int .i64 0, .int .i64 0] 79) = W0 := ⟨_, rfl⟩
  obtain ⟨hIn, hOut, hB0, hs0⟩ := two_boxes w _ hW0
  have HIn : Hid _ := hIn
  have HOut : Hid _ := hOut
  have HE : Hid (∀ W, Below w.heap.size w W → EdAt W P eo E) := fun W hb => hE.kept (Fr.ofBelow hb (fun _ => False)) (fun k hk hp => ⟨fun h => h, hp⟩)
  have HB0 : Hid _ := hB0
  have HS0 : Hid _ := hs0
  have HC : Hid (W0.cell? ⟨b, off, none⟩ = some (.int .i64 id)) := (hB0.cell (p := ⟨b, off, none⟩) (lt_cell hc)).trans hc
  have HP : Hid _ := hp
  have HEn : Hid (en = E.length) := he
  clear hIn hOut hE hB0 hs0 hc hp he
  go_enter Try.func73, Try.ntmps73
  go_upto_region 1 with fail
  refine from_r1 (bx := w.heap.size) (b := b) (off := off) (p := id) rfl rfl HIn.out HP.out hn HC.out ?_
  intro X W hb h10
  simp only [puts]
  rw [h10, beq_self_eq_true]
  generalize X 5 = x5
  generalize X 6 = x6
  generalize X 7 = x7
  generalize X 8 = x8
  generalize X 9 = x9
  have HI2 : Hid _ := InBox.new HIn.out hb
  have HO2 : Hid _ := OutBox.new HOut.out hb
  have hB2 : Below w.heap.size w W := HB0.out.trans (hb.mono HB0.out.size)
  have HB2 : Hid _ := hB2
  clear hB2 h10 hb
  go_wp2_with (first
    | (refine wpList_load_row rfl 82 _ rfl w.heap.size rfl 82 #[.int .i64 st, .int .i64 id, .int .i64 va, .slice eo en ec, ha, .slice mo mn mc, u0, u1, u2, u3, u4, u5, u6, u7, u8, u9, .int .i64 ma, .slice po pn pc] (0, 0) _ HI2.out Try.underlying82 rfl size_in ?_)
    | (go_at_call 75; refine (spread_one 0 E HEn.out (HE.out _ HB2.out) hl (by decide) (by decide)).mono ?_; rintro r w1 ⟨tv, rfl, hK, hb1⟩; obtain ⟨ao1, c1, rfl⟩ := k_shape hK; rw [toL_len]; have HK : Hid _ := hK; have HO3 : Hid _ := OutBox.new HO2.out hb1; have HB3 : Hid _ := HB2.out.trans (hb1.mono HB2.out.size); clear hK hb1)
    | (refine wpList_store_row rfl 79 _ _ rfl (w.heap.size + 1) #[.int .i64 0, .bool true, (.slice ao1 E.length c1), .slice none 0 0, .bool false, .bool false, .bool false, .bool false, .bool false, .int .i64 0, .int .i64 0, .int .i64 0, .int .i64 0, .int .i64 0, .int .i64 0] rfl rfl 79 #[.int .i64 0, .bool false, .slice none 0 0, .slice none 0 0, .bool false, .bool false, .bool false, .bool false, .bool false, .int .i64 0, .int .i64 0, .int .i64 0, .int .i64 0, .int .i64 0, .int .i64 0] HO3.out size_out rfl (by simp [Value.oneCell']) ?_))
  refine bodyPost_ret (v := .agg #[.int .i64 0, .bool true, (.slice ao1 E.length c1), .slice none 0 0, .bool false, .bool false, .bool false, .bool false, .bool false, .int .i64 0, .int .i64 0, .int .i64 0, .int .i64 0, .int .i64 0, .int .i64 0]) (results_cell_row Try.results73 _ _ (w.heap.size + 1) 79 _ (0, 0) _ rfl (setRow_heap _ _ _ _ _ _ HO3.out) Try.underlying79 rfl size_out) rfl ?_
  refine ⟨_, rfl, ?_, k_setRow HB3.out (by omega) _⟩
  have hK := HK.out
  unfold KM at hK ⊢
  rw [toL_len] at hK ⊢
  exact k_low (k_fr hK (fr_setRow _ _ _) (fun k hk => by have := HS0.out; have := HB2.out.size; have h3 := (Array.getElem?_eq_some_iff.1 HO2.out).1; omega)) HB2.out.size
set_option maxRecDepth 100000 in
set_option maxHeartbeats 1000000 in
theorem hops_one {w : World} {P : Nat → Prop} {st id va ma : Int} {eo mo po : Option Addr} {en ec mn mc pn pc : Nat} {ha u0 u1 u2 u3 u4 u5 u6 u7 u8 u9 : Value} (E : List Ed) (hst : st = 0) (he : en = E.length) (hE : EdAt w P eo E) (hl : E.length ≤ 1048576) {b off : Nat} (hp : po = some ⟨b, off, none⟩) (hn : 0 < pn) (hc : w.cell? ⟨b, off, none⟩ = some (.int .i64 id)) :
    Calls Try.prog 51 #[(.agg #[.int .i64 st, .int .i64 id, .int .i64 va, .slice eo en ec, ha, .slice mo mn mc, u0, u1, u2, u3, u4, u5, u6, u7, u8, u9, .int .i64 ma, .slice po pn pc])] w fun r w' => ∃ tv, r = .returned (.agg #[.int .i64 0, .bool true, tv, .slice none 0 0, .bool false, .bool false, .bool false, .bool false, .bool false, .int .i64 0, .int .i64 0, .int .i64 0, .int .i64 0, .int .i64 0, .int .i64 0]) ∧ KM w' w.heap.size tv (toL id 1 E) ∧ Below w.heap.size w w' := by
  subst hst
  obtain ⟨W0, hW0⟩ : ∃ W0, (w.alloc (.cells #[.int .i64 0, .int .i64 id, .int .i64 va, .slice eo en ec, ha, .slice mo mn mc, u0, u1, u2, u3, u4, u5, u6, u7, u8, u9, .int .i64 ma, .slice po pn pc] 82)).alloc (.cells #[.int .i64 0, .bool false, .slice none 0 0, .slice none 0 0, .bool false, .bool false, .bool false, .bool false, .bool false, .int .i64 0, .int .i64 0, .int .i64 0, .int .i64 0, .int .i64 0, .int .i64 0] 79) = W0 := ⟨_, rfl⟩
  obtain ⟨hIn, hOut, hB0, hs0⟩ := two_boxes w _ hW0
  obtain ⟨c0, _⟩ := hIn.cells
  have HIn : Hid _ := hIn
  have HOut : Hid _ := hOut
  have HE : Hid (EdAt W0 P eo E) := hE.kept (Fr.ofBelow hB0 (fun _ => False)) (fun k hk hp => ⟨fun h => h, hp⟩)
  have HB0 : Hid _ := hB0
  have HS0 : Hid _ := hs0
  have HC : Hid (W0.cell? ⟨b, off, none⟩ = some (.int .i64 id)) := (hB0.cell (p := ⟨b, off, none⟩) (lt_cell hc)).trans hc
  have HP : Hid _ := hp
  have HEn : Hid (en = E.length) := he
  clear hIn hOut hE hB0 hs0 hc hp he
  go_enter Try.func51, Try.ntmps51
  go_wp2_with (first
    | (refine wpList_load_row rfl 82 _ rfl w.heap.size rfl 82 #[.int .i64 0, .int .i64 id, .int .i64 va, .slice eo en ec, ha, .slice mo mn mc, u0, u1, u2, u3, u4, u5, u6, u7, u8, u9, .int .i64 ma, .slice po pn pc] (0, 0) _ HIn.out Try.underlying82 rfl size_in ?_)
    | (go_at_call 73; refine (from_one E HEn.out HE.out hl HP.out hn HC.out).mono ?_; rintro r w1 ⟨tv, rfl, hK, hb1⟩; obtain ⟨ao1, c1, rfl⟩ := k_shape hK; rw [toL_len]; have HK : Hid _ := hK; have HO3 : Hid _ := OutBox.new HOut.out hb1; have HB3 : Hid _ := HB0.out.trans (hb1.mono HB0.out.size); clear hK hb1)
    | (refine wpList_store_row rfl 79 _ _ rfl (w.heap.size + 1) #[.int .i64 0, .bool true, (.slice ao1 E.length c1), .slice none 0 0, .bool false, .bool false, .bool false, .bool false, .bool false, .int .i64 0, .int .i64 0, .int .i64 0, .int .i64 0, .int .i64 0, .int .i64 0] rfl rfl 79 #[.int .i64 0, .bool false, .slice none 0 0, .slice none 0 0, .bool false, .bool false, .bool false, .bool false, .bool false, .int .i64 0, .int .i64 0, .int .i64 0, .int .i64 0, .int .i64 0, .int .i64 0] HO3.out size_out rfl (by simp [Value.oneCell']) ?_))
  refine bodyPost_ret (v := .agg #[.int .i64 0, .bool true, (.slice ao1 E.length c1), .slice none 0 0, .bool false, .bool false, .bool false, .bool false, .bool false, .int .i64 0, .int .i64 0, .int .i64 0, .int .i64 0, .int .i64 0, .int .i64 0]) (results_cell_row Try.results51 _ _ (w.heap.size + 1) 79 _ (0, 0) _ rfl (setRow_heap _ _ _ _ _ _ HO3.out) Try.underlying79 rfl size_out) rfl ?_
  refine ⟨_, rfl, ?_, k_setRow HB3.out (by omega) _⟩
  have hK := HK.out
  unfold KM at hK ⊢
  rw [toL_len] at hK ⊢
  exact k_low (k_fr hK (fr_setRow _ _ _) (fun k hk => by have := HS0.out; omega)) HB0.out.size
/-- Step's boxes: what it was given, what it tells, what it has. -/
theorem three_boxes (w : World) (c z : Array Value) {W0 : World} (h : ((w.alloc (.cells c 82)).alloc (.cells #[.int .i64 0, .bool false, .slice none 0 0, .slice none 0 0, .bool false, .bool false, .bool false, .bool false, .bool false, .int .i64 0, .int .i64 0, .int .i64 0, .int .i64 0, .int .i64 0, .int .i64 0] 79)).alloc (.cells z 79) = W0) : InBox W0 w.heap.size c ∧ OutBox W0 (w.heap.size + 1) #[.int .i64 0, .bool false, .slice none 0 0, .slice none 0 0, .bool false, .bool false, .bool false, .bool false, .bool false, .int .i64 0, .int .i64 0, .int .i64 0, .int .i64 0, .int .i64 0, .int .i64 0] ∧ OutBox W0 (w.heap.size + 2) z ∧ Below w.heap.size w W0 ∧ W0.heap.size = w.heap.size + 3 := by
  obtain ⟨W1, hW1⟩ : ∃ W1, (w.alloc (.cells c 82)).alloc (.cells #[.int .i64 0, .bool false, .slice none 0 0, .slice none 0 0, .bool false, .bool false, .bool false, .bool false, .bool false, .int .i64 0, .int .i64 0, .int .i64 0, .int .i64 0, .int .i64 0, .int .i64 0] 79) = W1 := ⟨_, rfl⟩
  obtain ⟨a1, a2, a3, a4⟩ := two_boxes w c hW1
  rw [hW1] at h
  rw [← h]
  have h1 := OutBox.made W1 z
  rw [a4] at h1
  exact ⟨a1.new (one_newK _ _), a2.new (one_newK _ _), h1, a3.trans ((one_newK _ _).mono (by omega)), by simp [a4]⟩
set_option maxRecDepth 100000 in
set_option maxHeartbeats 1000000 in
theorem step_bfs0 {w : World} {P : Nat → Prop} {st id va ma : Int} {eo mo po : Option Addr} {en ec mn mc pn pc : Nat} {ha u0 u1 u2 u3 u4 u5 u6 u7 u8 u9 : Value} (E : List Ed) (hst : st = 0) (he : en = E.length) (hE : EdAt w P eo E) (hl : E.length ≤ 1048576) {b off : Nat} (hp : po = some ⟨b, off, none⟩) (hn : 0 < pn) (hc : w.cell? ⟨b, off, none⟩ = some (.int .i64 id)) :
    Calls Try.prog 33 #[.string ⟨#[98, 102, 115]⟩, (.agg #[.int .i64 st, .int .i64 id, .int .i64 va, .slice eo en ec, ha, .slice mo mn mc, u0, u1, u2, u3, u4, u5, u6, u7, u8, u9, .int .i64 ma, .slice po pn pc])] w fun r w' => ∃ tv, r = .returned (.agg #[.int .i64 0, .bool true, tv, .slice none 0 0, .bool false, .bool false, .bool false, .bool false, .bool false, .int .i64 0, .int .i64 0, .int .i64 0, .int .i64 0, .int .i64 0, .int .i64 0]) ∧ KM w' w.heap.size tv (toL id 1 E) ∧ Below w.heap.size w w' := by
  obtain ⟨W0, hW0⟩ : ∃ W0, ((w.alloc (.cells #[.int .i64 st, .int .i64 id, .int .i64 va, .slice eo en ec, ha, .slice mo mn mc, u0, u1, u2, u3, u4, u5, u6, u7, u8, u9, .int .i64 ma, .slice po pn pc] 82)).alloc (.cells #[.int .i64 0, .bool false, .slice none 0 0, .slice none 0 0, .bool false, .bool false, .bool false, .bool false, .bool false, .int .i64 0, .int .i64 0, .int .i64 0, .int .i64 0, .int .i64 0, .int .i64 0] 79)).alloc (.cells #[.int .i64 0, .bool false, .slice none 0 0, .slice none 0 0, .bool false, .bool false, .bool false, .bool false, .bool false, .int .i64 0, .int .i64 0, .int .i64 0, .int .i64 0, .int .i64 0, .int .i64 70] 79) = W0 := ⟨_, rfl⟩
  obtain ⟨hIn, hOut, hOwn, hB0, hs0⟩ := three_boxes w _ _ hW0
  have HIn : Hid _ := hIn
  have HOut : Hid _ := hOut
  have HOwn : Hid _ := hOwn
  have HE : Hid (EdAt W0 P eo E) := hE.kept (Fr.ofBelow hB0 (fun _ => False)) (fun k hk hp => ⟨fun h => h, hp⟩)
  have HB0 : Hid _ := hB0
  have HS0 : Hid _ := hs0
  have HC : Hid (W0.cell? ⟨b, off, none⟩ = some (.int .i64 id)) := (hB0.cell (p := ⟨b, off, none⟩) (lt_cell hc)).trans hc
  have HP : Hid _ := hp
  have HEn : Hid (en = E.length) := he
  have HSt : Hid (st = 0) := hst
  have tk1 : Hid True := trivial
  clear hIn hOut hOwn hE hB0 hs0 hc hp he hst
  go_enter Try.func33, Try.ntmps33
  go_upto_region 13 with (first
    | (refine wpList_load_row rfl 82 _ rfl w.heap.size rfl 82 #[.int .i64 st, .int .i64 id, .int .i64 va, .slice eo en ec, ha, .slice mo mn mc, u0, u1, u2, u3, u4, u5, u6, u7, u8, u9, .int .i64 ma, .slice po pn pc] (0, 0) _ HIn.out Try.underlying82 rfl size_in ?_)
    | (go_at_call 51; refine (hops_one E HSt.out HEn.out HE.out hl HP.out hn HC.out).mono ?_; rintro r w1 ⟨tv, rfl, hK, hb1⟩; obtain ⟨ao1, c1, rfl⟩ := k_shape hK; rw [toL_len]; have HK : Hid _ := hK; have HO3 : Hid _ := OutBox.new HOut.out hb1; have HW3 : Hid _ := OutBox.new HOwn.out hb1; have HB3 : Hid _ := HB0.out.trans (hb1.mono HB0.out.size); clear hK hb1)
    | (have _t := tk1; refine wpList_store_row rfl 79 _ _ rfl (w.heap.size + 2) #[.int .i64 0, .bool true, (.slice ao1 E.length c1), .slice none 0 0, .bool false, .bool false, .bool false, .bool false, .bool false, .int .i64 0, .int .i64 0, .int .i64 0, .int .i64 0, .int .i64 0, .int .i64 0] rfl rfl 79 #[.int .i64 0, .bool false, .slice none 0 0, .slice none 0 0, .bool false, .bool false, .bool false, .bool false, .bool false, .int .i64 0, .int .i64 0, .int .i64 0, .int .i64 0, .int .i64 0, .int .i64 70] HW3.out size_out rfl (by simp [Value.oneCell']) ?_; clear tk1))
  generalize hW : World.setRow _ _ _ = W
  have hO4 : OutBox W (w.heap.size + 2) #[.int .i64 0, .bool true, (.slice ao1 E.length c1), .slice none 0 0, .bool false, .bool false, .bool false, .bool false, .bool false, .int .i64 0, .int .i64 0, .int .i64 0, .int .i64 0, .int .i64 0, .int .i64 0] := by rw [← hW]; exact setRow_heap _ _ _ _ _ _ HW3.out
  have HO5 : Hid (OutBox W (w.heap.size + 1) #[.int .i64 0, .bool false, .slice none 0 0, .slice none 0 0, .bool false, .bool false, .bool false, .bool false, .bool false, .int .i64 0, .int .i64 0, .int .i64 0, .int .i64 0, .int .i64 0, .int .i64 0]) := by rw [← hW]; exact (setRow_other _ _ _ _ (by omega)).trans HO3.out
  have HB4 : Hid (Below w.heap.size w W) := by rw [← hW]; exact k_setRow HB3.out (by omega) _
  have HK4 : Hid (KM W W0.heap.size (.slice ao1 E.length c1) (toL id 1 E)) := by
    rw [← hW]
    have hK := HK.out
    unfold KM at hK ⊢
    rw [toL_len] at hK ⊢
    exact k_fr hK (fr_setRow _ _ _) (fun k hk => by have := HS0.out; omega)
  obtain ⟨_, _, _, _, _, _, _, _, _, _, _, _, _, _, q14⟩ := hO4.cells
  have HO4 : Hid _ := hO4
  clear hW hO4 HK HB3 HO3 HW3
  go_wp2_with (first
    | (refine wpList_load_row rfl 79 _ rfl (w.heap.size + 2) rfl 79 #[.int .i64 0, .bool true, (.slice ao1 E.length c1), .slice none 0 0, .bool false, .bool false, .bool false, .bool false, .bool false, .int .i64 0, .int .i64 0, .int .i64 0, .int .i64 0, .int .i64 0, .int .i64 0] (0, 0) _ HO4.out Try.underlying79 rfl size_out ?_)
    | (refine wpList_store_row rfl 79 _ _ rfl (w.heap.size + 1) #[.int .i64 0, .bool true, (.slice ao1 E.length c1), .slice none 0 0, .bool false, .bool false, .bool false, .bool false, .bool false, .int .i64 0, .int .i64 0, .int .i64 0, .int .i64 0, .int .i64 0, .int .i64 0] rfl rfl 79 #[.int .i64 0, .bool false, .slice none 0 0, .slice none 0 0, .bool false, .bool false, .bool false, .bool false, .bool false, .int .i64 0, .int .i64 0, .int .i64 0, .int .i64 0, .int .i64 0, .int .i64 0] HO5.out size_out rfl (by simp [Value.oneCell']) ?_))
  refine bodyPost_ret (v := .agg #[.int .i64 0, .bool true, (.slice ao1 E.length c1), .slice none 0 0, .bool false, .bool false, .bool false, .bool false, .bool false, .int .i64 0, .int .i64 0, .int .i64 0, .int .i64 0, .int .i64 0, .int .i64 0]) (results_cell_row Try.results33 _ _ (w.heap.size + 1) 79 _ (0, 0) _ rfl (setRow_heap _ _ _ _ _ _ HO5.out) Try.underlying79 rfl size_out) rfl ?_
  refine ⟨_, rfl, ?_, k_setRow HB4.out (by omega) _⟩
  have hK := HK4.out
  unfold KM at hK ⊢
  rw [toL_len] at hK ⊢
  exact k_low (k_fr hK (fr_setRow _ _ _) (fun k hk => by have := HS0.out; omega)) HB0.out.size
theorem infoEd7 : (Try.prog.info? 55).map (fun i => (i.zero, i.size, i.bytes)) = some (some (.agg #[.int .i64 0, .int .i64 0]), 2, 16) := by kernel_rfl
set_option maxRecDepth 100000 in
set_option maxHeartbeats 1000000 in
theorem awake7 (w : World) : Calls Try.prog 11 #[] w fun e w' => e = .returned (.bool true) ∧ Below w.heap.size w w' := by
  obtain ⟨W0, hW0⟩ : ∃ W0, (w.alloc (.cells #[.int .i64 2, .int .i64 0] 55)).alloc (.cells #[.int .i64 1] 2) = W0 := ⟨_, rfl⟩
  have hB0 : Below w.heap.size w W0 := by rw [← hW0]; exact (one_newK _ _).trans ((one_newK _ _).mono (by simp))
  have hE : EdAt W0 (fun _ => True) (some ⟨w.heap.size, 0, none⟩) [⟨2, 0⟩] := by
    intro _
    refine ⟨_, _, rfl, trivial, fun j hj => ?_⟩
    obtain rfl : j = 0 := by simpa using hj
    have hh : W0.heap[w.heap.size]? = some (.cells #[.int .i64 2, .int .i64 0] 55 (0, 0)) := by rw [← hW0]; exact ((one_newK _ _).block _ (by simp)).trans (heap_alloc_new _ _)
    simp [World.cell?, hh]
  have hP : W0.cell? ⟨w.heap.size + 1, 0, none⟩ = some (.int .i64 1) := by
    have hh : W0.heap[w.heap.size + 1]? = some (.cells #[.int .i64 1] 2 (0, 0)) := by rw [← hW0]; have := heap_alloc_new (w.alloc (.cells #[.int .i64 2, .int .i64 0] 55)) (.cells #[.int .i64 1] 2); rw [World.size_alloc] at this; exact this
    simp [World.cell?, hh]
  have HE : Hid _ := hE
  have HP : Hid _ := hP
  have HB0 : Hid _ := hB0
  clear hE hP hB0
  go_enter Try.func11, Try.ntmps11
  go_upto_region 2 with (go_at_call 33; refine (step_bfs0 (b := w.heap.size + 1) (off := 0) [⟨2, 0⟩] rfl rfl HE.out (by decide) rfl (by decide) HP.out).mono ?_; rintro r w1 ⟨tv, rfl, hK, hb1⟩; obtain ⟨ao1, c1, rfl⟩ := k_shape hK; have HK : Hid _ := hK; have HB1 : Hid _ := hb1; clear hK hb1)
  have hl1 : (toL 1 1 [⟨2, 0⟩]).length = 1 := rfl
  have hk := HK.out
  unfold KM at hk
  rw [hl1] at hk ⊢
  generalize hW : World.alloc _ _ = W
  have hO : OutBox W w1.heap.size #[.int .i64 0, .bool true, .slice ao1 1 c1, .slice none 0 0, .bool false, .bool false, .bool false, .bool false, .bool false, .int .i64 0, .int .i64 0, .int .i64 0, .int .i64 0, .int .i64 0, .int .i64 0] := by rw [← hW]; exact OutBox.made _ _
  have hb2 : Below w1.heap.size w1 W := by rw [← hW]; exact one_newK _ _
  have HB2 : Hid (Below w.heap.size w W) := (HB0.out.trans (HB1.out.mono HB0.out.size)).trans (hb2.mono (HB0.out.trans (HB1.out.mono HB0.out.size)).size)
  have hk2 := k_new hk hb2
  obtain ⟨g, rfl, hg, hc⟩ := k_at hk2 (by decide)
  have c1' := hc 1 (.int .i64 2) rfl
  have c3' := hc 3 (.int .i64 1) rfl
  obtain ⟨q0, q1, q2, _, _, _, _, _, _, _, _, _, _, _, q14⟩ := hO.cells
  clear hW hO hb2 hk hk2 hc HK HB1
  go_wp2
  go_ret
  exact ⟨rfl, HB2.out⟩
end Go.Proofs.Ythnbmnpdjnjejaa
end

section
/- What the document's Check returns. -/
namespace Go.Proofs.Ythnbmnpdjnjejaa
open Go.RowKit
/-- A vertex's edges rise, and their ends are there. -/
def GoodE (G : List Vx) (L : List Ed) (n : Nat) : Prop := (∀ j (h : j < L.length), j < n → (ids G).contains L[j].t = true) ∧ ∀ j (h : j + 1 < L.length), j + 1 < n → L[j].t < L[j + 1].t
theorem good_all {G : List Vx} (H : ∀ j (h : j < G.length), GoodE G G[j].es G[j].es.length) : risesE G = true ∧ thereE G = true := by
  constructor
  · refine risesE_all (fun j hj => (riseB_iff _).2 (fun i hi => ?_))
    have := (H j hj).2 i (by rw [ends_len] at hi; exact hi) (by rw [ends_len] at hi; exact hi)
    rw [ends_get _ _ (by rw [ends_len] at hi; omega), ends_get _ _ (by rw [ends_len] at hi; exact hi)]
    exact this
  · unfold thereE
    rw [List.all_eq_true]
    intro v hv
    obtain ⟨j, hj, rfl⟩ := List.getElem_of_mem hv
    rw [List.all_eq_true]
    intro e he
    obtain ⟨i, hi, rfl⟩ := List.getElem_of_mem he
    exact (H j hj).1 i hi hi
theorem bad_there {G : List Vx} {j i : Nat} (hj : j < G.length) (hi : i < G[j].es.length) (h : (ids G).contains G[j].es[i].t = false) : thereE G = false := by
  unfold thereE
  rw [Bool.eq_false_iff]
  intro ha
  rw [List.all_eq_true] at ha
  have h1 := ha _ (List.getElem_mem hj)
  rw [List.all_eq_true] at h1
  have h2 := h1 _ (List.getElem_mem hi)
  rw [h] at h2
  cases h2
theorem bad_rise {G : List Vx} {j i : Nat} (hj : j < G.length) (hi : i + 1 < G[j].es.length) (h : ¬ G[j].es[i].t < G[j].es[i + 1].t) : risesE G = false := by
  refine risesE_at hj (rise_false (j := i) (by rw [ends_len]; exact hi) ?_)
  rw [ends_get _ _ (by omega), ends_get _ _ hi]
  exact h

set_option maxRecDepth 100000 in
set_option maxHeartbeats 2000000 in
theorem refcheck_any {w : World} {P : Nat → Prop} {ao : Option Addr} {G : List Vx} (cap : Nat) (h : VxAt w P ao G) (hl : G.length ≤ 9223372036854775807) (hok : ∀ v ∈ G, v.ok) :
    Calls Try.prog 10 #[.slice ao G.length cap] w fun r w' => r = .returned (.int .i64 (chk G)) ∧ Below w.heap.size w w' := by
  by_cases hlen : 256 < G.length
  · have HC : Hid (chk G = 30) := if_pos (Or.inl hlen)
    go_enter Try.func10, Try.ntmps10
    go_wp2
    go_ret
    exact ⟨by rw [HC.out]; rfl, Below.refl _ _⟩
  · have HV : Hid (VxAt w P ao G) := h
    have HO : Hid (∀ v ∈ G, v.ok) := hok
    clear h hok
    go_enter Try.func10, Try.ntmps10
    go_wp2
    go_loopw [3] (fun i wr => ∃ (k : Nat), 1 ≤ k ∧ k ≤ max G.length 1 ∧ i = .int .i64 k ∧ Hid (∀ j (h : j + 1 < (ids G).length), j + 1 < k → (ids G)[j] < (ids G)[j + 1]) ∧ Below w.heap.size w wr) (fun i _ => G.length - (intOf i).toNat)
    case atStart => exact ⟨1, Nat.le_refl _, by omega, rfl, fun j _ hj => absurd hj (by omega), Below.refl _ _⟩
    case round =>
      obtain ⟨k, hk1, hk, rfl, HR, hb⟩ := hrel
      by_cases hlt : k < G.length
      · obtain ⟨b, off, rfl, hP, hc⟩ := HV.out (by omega)
        obtain ⟨m, HK⟩ : ∃ m, Hid (k = m + 1) := ⟨k - 1, (by omega : k = k - 1 + 1)⟩
        have hmk : k = m + 1 := HK.out
        have hm0 : m < G.length := by omega
        obtain ⟨eo, ec, c0, _, _, _⟩ := hc m hm0
        obtain ⟨fo, fc, f0, _, _, _⟩ := hc k hlt
        have hbb := lt_cell c0
        have d0 := (hb.cell (p := ⟨b, off + m * 3, none⟩) hbb).trans c0
        have g0 := (hb.cell (p := ⟨b, off + k * 3, none⟩) hbb).trans f0
        have HM : Hid ((ids G)[m]'(by rw [ids_len]; omega) = G[m].id) := ids_get G m hm0
        have HN : Hid ((ids G)[k]'(by rw [ids_len]; omega) = G[k].id) := ids_get G k hlt
        have hm1 : IntKind.i64.wrap ((k : Int) - 1) = m := by rw [IntKind.wrap_i64]; omega
        have hm2 : wrap64 ((k : Int) - 1) = m := by unfold wrap64; omega
        clear c0 f0 hc hmk
        generalize G[m] = y at d0 HM
        generalize G[k] = z at g0 HN
        go_wp2
        go_quiet (fail)
        by_cases hr : z.id ≤ y.id
        · have HC : Hid (chk G = 30) := if_pos (Or.inr (rise_at HK.out (by rw [ids_len]; exact hlt) HM.out HN.out hr))
          go_wp2
          go_ret
          exact ⟨by rw [HC.out]; rfl, bel_drewN hb _⟩
        · go_wp2
          go_roundw
          case rel => exact ⟨k + 1, by omega, by omega, by go_num, rise_step HK.out (by rw [ids_len]; exact hlt) HM.out HN.out (by omega) HR.out, bel_drewN hb _⟩
          case measure => simp [intOf]; omega
      · have HRi : Hid (Rise (ids G)) := fun j hj => HR.out j hj (by rw [ids_len] at hj; omega)
        have HRb : Hid (riseB (ids G) = true) := (riseB_iff _).2 HRi.out
        have HC : Hid (chk G = if 2048 < sumE G ∨ risesE G = false ∨ thereE G = false then 31 else 0) := if_neg (by rw [HRb.out]; simp; omega)
        have HVr : Hid (VxAt wr P ao G) := HV.out.new hb
        have hE := refedges_any cap HVr.out hl
        by_cases hs : 2048 < sumE G
        · go_wp2_with (go_at_call 31; refine hE.mono ?_; rintro r w1 ⟨rfl, hb1⟩)
          go_ret
          exact ⟨by rw [HC.out, if_pos (Or.inl hs)]; rfl, hb.trans (hb1.mono hb.size)⟩
        · go_wp2_with (go_at_call 31; refine hE.mono ?_; rintro r w1 ⟨rfl, hb1⟩)
          have hbA : Below w.heap.size w w1 := hb.trans (hb1.mono hb.size)
          have HVA : Hid (VxAt w1 P ao G) := HVr.out.new hb1
          clear hE hb1
          go_loopw [4, 5, 6, 7, 8] (fun i _ _ _ _ wx => ∃ (j : Nat), j ≤ G.length ∧ i = .int .i64 j ∧ Hid (∀ q (h : q < G.length), q < j → GoodE G G[q].es G[q].es.length) ∧ Below w.heap.size w wx) (fun i _ _ _ _ _ => G.length - (intOf i).toNat)
          case atStart => exact ⟨0, Nat.zero_le _, rfl, fun q _ hq => absurd hq (by omega), hbA⟩
          case round =>
            obtain ⟨j, hj, rfl, HQ, hbx⟩ := hrel
            by_cases hjl : j < G.length
            · obtain ⟨b, off, rfl, hP, hc⟩ := HV.out (by omega)
              obtain ⟨eo, ec, e0, e1, e2, e3⟩ := hc j hjl
              have hbb := lt_cell e0
              have d2 := (hbx.cell (p := ⟨b, off + j * 3 + 2, none⟩) hbb).trans e2
              have HE : Hid (EdAt w P eo G[j].es) := e3
              have hel : G[j].es.length ≤ 9223372036854775807 := Nat.le_trans (HO.out _ (List.getElem_mem hjl)).len (by decide)
              have HB1 : Hid (∀ y, G[j] = y → ∀ i (h : i < y.es.length), (ids G).contains y.es[i].t = false → thereE G = false) := fun y e i hi hcn => by subst e; exact bad_there hjl hi hcn
              have HB2 : Hid (∀ y, G[j] = y → ∀ i (h : i + 1 < y.es.length), ¬ y.es[i].t < y.es[i + 1].t → risesE G = false) := fun y e i hi hcn => by subst e; exact bad_rise hjl hi hcn
              have HB3 : Hid (∀ y, G[j] = y → GoodE G y.es y.es.length → ∀ q (h : q < G.length), q < j + 1 → GoodE G G[q].es G[q].es.length) := fun y e hg q hq hqj => by
                by_cases eq : q = j
                · subst eq; rw [e]; exact hg
                · exact HQ.out q hq (by omega)
              obtain ⟨y, hy⟩ : ∃ y, G[j] = y := ⟨_, rfl⟩
              have HY : Hid (G[j] = y) := hy
              rw [hy] at d2 HE hel
              clear hy e0 e1 e2 e3 hc
              go_wp2
              go_loopw [6, 7, 8] (fun i _ _ wx => ∃ (k : Nat), k ≤ y.es.length ∧ i = .int .i64 k ∧ Hid (GoodE G y.es k) ∧ Below w.heap.size w wx) (fun i _ _ _ => y.es.length - (intOf i).toNat)
              case atStart => exact ⟨0, Nat.zero_le _, rfl, ⟨fun q _ hq => absurd hq (by omega), fun q _ hq => absurd hq (by omega)⟩, hbx⟩
              case round =>
                obtain ⟨k, hk, rfl, HD, hby⟩ := hrel
                by_cases hkl : k < y.es.length
                · obtain ⟨eb, eoff, rfl, hPe, hce⟩ := HE.out (by omega)
                  have f0 := (hby.cell (p := ⟨eb, eoff + k * 2, none⟩) (lt_cell (hce k hkl).1)).trans (hce k hkl).1
                  have hF := reffind_any cap y.es[k].t (HV.out.new hby) hl
                  have HP1 : Hid (foundB (ids G) y.es[k].t = (ids G).contains y.es[k].t) := foundB_iff HRi.out _
                  have HN : Hid (∀ z, y.es[k] = z → (ids G).contains z.t = false → thereE G = false) := fun z e hcn => HB1.out y HY.out k hkl (by rw [e]; exact hcn)
                  cases hfb : foundB (ids G) y.es[k].t with
                  | false =>
                    rw [hfb] at hF HP1
                    have HT : Hid (thereE G = false) := HB1.out y HY.out k hkl HP1.out.symm
                    clear hfb hce
                    generalize y.es[k] = z at f0 hF
                    go_wp2_with (go_at_call 32; refine hF.mono ?_; rintro r w2 ⟨rfl, hb2⟩)
                    go_quiet (fail)
                    go_wp2
                    go_ret
                    exact ⟨by rw [HC.out, if_pos (Or.inr (Or.inr HT.out))]; rfl, bel_drewN (hby.trans (hb2.mono hby.size)) _⟩
                  | true =>
                    rw [hfb] at hF HP1
                    by_cases hk0 : k = 0
                    · have HG : Hid (GoodE G y.es (k + 1)) := ⟨fun q hq hqk => by
                        obtain rfl : q = k := by omega
                        exact HP1.out.symm, fun q _ hq => absurd hq (by omega)⟩
                      have hd : decide (0 < k) = false := by rw [decide_eq_false_iff_not]; omega
                      clear hfb hce hk0
                      generalize y.es[k] = z at f0 hF
                      go_wp2_with (go_at_call 32; refine hF.mono ?_; rintro r w2 ⟨rfl, hb2⟩)
                      go_quiet (fail)
                      go_wp2
                      go_roundw
                      case rel => exact ⟨k + 1, by omega, by go_num, HG.out, bel_drewN (hby.trans (hb2.mono hby.size)) _⟩
                      case measure => simp [intOf]; omega
                    · obtain ⟨m, HK⟩ : ∃ m, Hid (k = m + 1) := ⟨k - 1, (by omega : k = k - 1 + 1)⟩
                      have hmk : k = m + 1 := HK.out
                      have hm0 : m < y.es.length := by omega
                      have g0 := (hby.cell (p := ⟨eb, eoff + m * 2, none⟩) (lt_cell (hce m hm0).1)).trans (hce m hm0).1
                      have hm1 : IntKind.i64.wrap ((k : Int) - 1) = m := by rw [IntKind.wrap_i64]; omega
                      have hm2 : wrap64 ((k : Int) - 1) = m := by unfold wrap64; omega
                      have hpos : decide (0 < k) = true := by rw [decide_eq_true_iff]; omega
                      have hebw : eb < w.heap.size := lt_cell (hce k hkl).1
                      have HG : Hid (∀ u z, y.es[m] = u → y.es[k] = z → u.t < z.t → GoodE G y.es (k + 1)) := fun u z hu hz hlt2 => ⟨fun q hq hqk => by
                        by_cases e : q = k
                        · subst e; exact HP1.out.symm
                        · exact HD.out.1 q hq (by omega), fun q hq hqk => by
                        by_cases e : q = m
                        · subst e; subst hmk; rw [hu, hz]; exact hlt2
                        · exact HD.out.2 q hq (by omega)⟩
                      have HX : Hid (∀ u z, y.es[m] = u → y.es[k] = z → ¬ u.t < z.t → risesE G = false) := fun u z hu hz hn => HB2.out y HY.out m (by omega) (by subst hmk; rw [hu, hz]; omega)
                      obtain ⟨u, hu⟩ : ∃ u, y.es[m] = u := ⟨_, rfl⟩
                      obtain ⟨z, hz⟩ : ∃ z, y.es[k] = z := ⟨_, rfl⟩
                      have HU : Hid (y.es[m] = u) := hu
                      have HZ : Hid (y.es[k] = z) := hz
                      rw [hu] at g0
                      rw [hz] at f0 hF
                      clear hfb hce hk0 hu hz hmk
                      go_wp2_with (go_at_call 32; refine hF.mono ?_; rintro r w2 ⟨rfl, hb2⟩; have f1 := (hb2.cell (p := ⟨eb, eoff + k * 2, none⟩) (Nat.lt_of_lt_of_le hebw hby.size)).trans f0; have g1 := (hb2.cell (p := ⟨eb, eoff + m * 2, none⟩) (Nat.lt_of_lt_of_le hebw hby.size)).trans g0)
                      go_quiet (fail)
                      by_cases hr : z.t ≤ u.t
                      · have HT : Hid (risesE G = false) := HX.out u z HU.out HZ.out (by omega)
                        go_wp2
                        go_ret
                        exact ⟨by rw [HC.out, if_pos (Or.inr (Or.inl HT.out))]; rfl, bel_drewN (hby.trans (hb2.mono hby.size)) _⟩
                      · go_wp2
                        go_roundw
                        case rel => exact ⟨k + 1, by omega, by go_num, HG.out u z HU.out HZ.out (by omega), bel_drewN (hby.trans (hb2.mono hby.size)) _⟩
                        case measure => simp [intOf]; omega
                · obtain rfl : k = y.es.length := by omega
                  go_wp2
                  go_roundw
                  case rel => exact ⟨j + 1, by omega, by go_num, HB3.out y HY.out HD.out, hby⟩
                  case measure => simp [intOf]; omega
            · have HT := good_all (fun q hq => HQ.out q hq (by omega))
              have HE0 : Hid (chk G = 0) := HC.out.trans (if_neg (by rw [HT.1, HT.2]; simp; omega))
              clear HT
              go_wp2
              go_ret
              exact ⟨by rw [HE0.out]; rfl, hbx⟩
theorem rise_of {G : List Vx} (h : chk G = 0) : G.length ≤ 256 ∧ Rise (ids G) := by
  unfold chk at h
  split at h
  · cases h
  · rename_i hn
    refine ⟨by omega, (riseB_iff _).1 ?_⟩
    cases hb : riseB (ids G) with
    | true => rfl
    | false => exact absurd (Or.inr hb) hn
end Go.Proofs.Ythnbmnpdjnjejaa
end
