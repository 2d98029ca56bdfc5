/- The document's awake of layer 7. -/
import Derived.Test.YtepdpafpjiaaeaaKnAwake2
namespace Go.Proofs.Ytepdpafpjiaaeaa
open Go.RowKit
set_option maxRecDepth 100000 in
set_option maxHeartbeats 1000000 in
theorem from_one {w : World} {P : Nat → Prop} {st id va ma : Int} {eo mo po : Option Addr} {en ec mn mc pn pc : Nat} {ha u0 u1 u2 u3 u4 u5 u6 u7 u8 u9 : Value} (E : List Ed) (he : en = E.length) (hE : EdAt w P eo E) (hl : E.length ≤ 1048576) {b off : Nat} (hp : po = some ⟨b, off, none⟩) (hn : 0 < pn) (hc : w.cell? ⟨b, off, none⟩ = some (.int .i64 id)) :
    Calls Try.prog 39 #[(.agg #[.int .i64 st, .int .i64 id, .int .i64 va, .slice eo en ec, ha, .slice mo mn mc, u0, u1, u2, u3, u4, u5, u6, u7, u8, u9, .int .i64 ma, .slice po pn pc]), .func (.func 40) #[] #[]] w fun r w' => ∃ tv, r = .returned (.agg #[.int .i64 0, .bool true, tv, .slice none 0 0, .bool false, .bool false, .bool false, .bool false, .bool false, .int .i64 0, .int .i64 0, .int .i64 0, .int .i64 0, .int .i64 0, .int .i64 0]) ∧ KM w' w.heap.size tv (toL id 1 E) ∧ Below w.heap.size w w' := by
  obtain ⟨W0, hW0⟩ : ∃ W0, (w.alloc (.cells #[.int .i64 st, .int .i64 id, .int .i64 va, .slice eo en ec, ha, .slice mo mn mc, u0, u1, u2, u3, u4, u5, u6, u7, u8, u9, .int .i64 ma, .slice po pn pc] 49)).alloc (.cells #[.int .i64 0, .bool false, .slice none 0 0, .slice none 0 0, .bool false, .bool false, .bool false, .bool false, .bool false, .int .i64 0, .int .i64 0, .int .i64 0, .int .i64 0, .int .i64 0, .int .i64 0] 52) = W0 := ⟨_, rfl⟩
  obtain ⟨hIn, hOut, hB0, hs0⟩ := two_boxes w _ hW0
  have HIn : Hid _ := hIn
  have HOut : Hid _ := hOut
  have HE : Hid (∀ W, Below w.heap.size w W → EdAt W P eo E) := fun W hb => hE.kept (Fr.ofBelow hb (fun _ => False)) (fun k hk hp => ⟨fun h => h, hp⟩)
  have HB0 : Hid _ := hB0
  have HS0 : Hid _ := hs0
  have HC : Hid (W0.cell? ⟨b, off, none⟩ = some (.int .i64 id)) := (hB0.cell (p := ⟨b, off, none⟩) (lt_cell hc)).trans hc
  have HP : Hid _ := hp
  have HEn : Hid (en = E.length) := he
  clear hIn hOut hE hB0 hs0 hc hp he
  go_enter Try.func39, Try.ntmps39
  go_upto_region 1 with fail
  refine from_r1 (bx := w.heap.size) (b := b) (off := off) (p := id) rfl rfl HIn.out HP.out hn HC.out ?_
  intro X W hb h10
  simp only [puts]
  rw [h10, beq_self_eq_true]
  generalize X 5 = x5
  generalize X 6 = x6
  generalize X 7 = x7
  generalize X 8 = x8
  generalize X 9 = x9
  have HI2 : Hid _ := InBox.new HIn.out hb
  have HO2 : Hid _ := OutBox.new HOut.out hb
  have hB2 : Below w.heap.size w W := HB0.out.trans (hb.mono HB0.out.size)
  have HB2 : Hid _ := hB2
  clear hB2 h10 hb
  go_wp2_with (first
    | (refine wpList_load_row rfl 49 _ rfl w.heap.size rfl 49 #[.int .i64 st, .int .i64 id, .int .i64 va, .slice eo en ec, ha, .slice mo mn mc, u0, u1, u2, u3, u4, u5, u6, u7, u8, u9, .int .i64 ma, .slice po pn pc] (0, 0) _ HI2.out Try.underlying49 rfl size_in ?_)
    | (go_at_call 41; refine (spread_one 0 E HEn.out (HE.out _ HB2.out) hl (by decide) (by decide)).mono ?_; rintro r w1 ⟨tv, rfl, hK, hb1⟩; obtain ⟨ao1, c1, rfl⟩ := k_shape hK; rw [toL_len]; have HK : Hid _ := hK; have HO3 : Hid _ := OutBox.new HO2.out hb1; have HB3 : Hid _ := HB2.out.trans (hb1.mono HB2.out.size); clear hK hb1)
    | (refine wpList_store_row rfl 52 _ _ rfl (w.heap.size + 1) #[.int .i64 0, .bool true, (.slice ao1 E.length c1), .slice none 0 0, .bool false, .bool false, .bool false, .bool false, .bool false, .int .i64 0, .int .i64 0, .int .i64 0, .int .i64 0, .int .i64 0, .int .i64 0] rfl rfl 52 #[.int .i64 0, .bool false, .slice none 0 0, .slice none 0 0, .bool false, .bool false, .bool false, .bool false, .bool false, .int .i64 0, .int .i64 0, .int .i64 0, .int .i64 0, .int .i64 0, .int .i64 0] HO3.out size_out rfl (by simp [Value.oneCell']) ?_))
  refine bodyPost_ret (v := .agg #[.int .i64 0, .bool true, (.slice ao1 E.length c1), .slice none 0 0, .bool false, .bool false, .bool false, .bool false, .bool false, .int .i64 0, .int .i64 0, .int .i64 0, .int .i64 0, .int .i64 0, .int .i64 0]) (results_cell_row Try.results39 _ _ (w.heap.size + 1) 52 _ (0, 0) _ rfl (setRow_heap _ _ _ _ _ _ HO3.out) Try.underlying52 rfl size_out) rfl ?_
  refine ⟨_, rfl, ?_, k_setRow HB3.out (by omega) _⟩
  have hK := HK.out
  unfold KM at hK ⊢
  rw [toL_len] at hK ⊢
  exact k_low (k_fr hK (fr_setRow _ _ _) (fun k hk => by have := HS0.out; have := HB2.out.size; have h3 := (Array.getElem?_eq_some_iff.1 HO2.out).1; omega)) HB2.out.size
set_option maxRecDepth 100000 in
set_option maxHeartbeats 1000000 in
theorem hops_one {w : World} {P : Nat → Prop} {st id va ma : Int} {eo mo po : Option Addr} {en ec mn mc pn pc : Nat} {ha u0 u1 u2 u3 u4 u5 u6 u7 u8 u9 : Value} (E : List Ed) (hst : st = 0) (he : en = E.length) (hE : EdAt w P eo E) (hl : E.length ≤ 1048576) {b off : Nat} (hp : po = some ⟨b, off, none⟩) (hn : 0 < pn) (hc : w.cell? ⟨b, off, none⟩ = some (.int .i64 id)) :
    Calls Try.prog 30 #[(.agg #[.int .i64 st, .int .i64 id, .int .i64 va, .slice eo en ec, ha, .slice mo mn mc, u0, u1, u2, u3, u4, u5, u6, u7, u8, u9, .int .i64 ma, .slice po pn pc])] w fun r w' => ∃ tv, r = .returned (.agg #[.int .i64 0, .bool true, tv, .slice none 0 0, .bool false, .bool false, .bool false, .bool false, .bool false, .int .i64 0, .int .i64 0, .int .i64 0, .int .i64 0, .int .i64 0, .int .i64 0]) ∧ KM w' w.heap.size tv (toL id 1 E) ∧ Below w.heap.size w w' := by
  subst hst
  obtain ⟨W0, hW0⟩ : ∃ W0, (w.alloc (.cells #[.int .i64 0, .int .i64 id, .int .i64 va, .slice eo en ec, ha, .slice mo mn mc, u0, u1, u2, u3, u4, u5, u6, u7, u8, u9, .int .i64 ma, .slice po pn pc] 49)).alloc (.cells #[.int .i64 0, .bool false, .slice none 0 0, .slice none 0 0, .bool false, .bool false, .bool false, .bool false, .bool false, .int .i64 0, .int .i64 0, .int .i64 0, .int .i64 0, .int .i64 0, .int .i64 0] 52) = W0 := ⟨_, rfl⟩
  obtain ⟨hIn, hOut, hB0, hs0⟩ := two_boxes w _ hW0
  obtain ⟨c0, _⟩ := hIn.cells
  have HIn : Hid _ := hIn
  have HOut : Hid _ := hOut
  have HE : Hid (EdAt W0 P eo E) := hE.kept (Fr.ofBelow hB0 (fun _ => False)) (fun k hk hp => ⟨fun h => h, hp⟩)
  have HB0 : Hid _ := hB0
  have HS0 : Hid _ := hs0
  have HC : Hid (W0.cell? ⟨b, off, none⟩ = some (.int .i64 id)) := (hB0.cell (p := ⟨b, off, none⟩) (lt_cell hc)).trans hc
  have HP : Hid _ := hp
  have HEn : Hid (en = E.length) := he
  clear hIn hOut hE hB0 hs0 hc hp he
  go_enter Try.func30, Try.ntmps30
  go_wp2_with (first
    | (refine wpList_load_row rfl 49 _ rfl w.heap.size rfl 49 #[.int .i64 0, .int .i64 id, .int .i64 va, .slice eo en ec, ha, .slice mo mn mc, u0, u1, u2, u3, u4, u5, u6, u7, u8, u9, .int .i64 ma, .slice po pn pc] (0, 0) _ HIn.out Try.underlying49 rfl size_in ?_)
    | (go_at_call 39; refine (from_one E HEn.out HE.out hl HP.out hn HC.out).mono ?_; rintro r w1 ⟨tv, rfl, hK, hb1⟩; obtain ⟨ao1, c1, rfl⟩ := k_shape hK; rw [toL_len]; have HK : Hid _ := hK; have HO3 : Hid _ := OutBox.new HOut.out hb1; have HB3 : Hid _ := HB0.out.trans (hb1.mono HB0.out.size); clear hK hb1)
    | (refine wpList_store_row rfl 52 _ _ rfl (w.heap.size + 1) #[.int .i64 0, .bool true, (.slice ao1 E.length c1), .slice none 0 0, .bool false, .bool false, .bool false, .bool false, .bool false, .int .i64 0, .int .i64 0, .int .i64 0, .int .i64 0, .int .i64 0, .int .i64 0] rfl rfl 52 #[.int .i64 0, .bool false, .slice none 0 0, .slice none 0 0, .bool false, .bool false, .bool false, .bool false, .bool false, .int .i64 0, .int .i64 0, .int .i64 0, .int .i64 0, .int .i64 0, .int .i64 0] HO3.out size_out rfl (by simp [Value.oneCell']) ?_))
  refine bodyPost_ret (v := .agg #[.int .i64 0, .bool true, (.slice ao1 E.length c1), .slice none 0 0, .bool false, .bool false, .bool false, .bool false, .bool false, .int .i64 0, .int .i64 0, .int .i64 0, .int .i64 0, .int .i64 0, .int .i64 0]) (results_cell_row Try.results30 _ _ (w.heap.size + 1) 52 _ (0, 0) _ rfl (setRow_heap _ _ _ _ _ _ HO3.out) Try.underlying52 rfl size_out) rfl ?_
  refine ⟨_, rfl, ?_, k_setRow HB3.out (by omega) _⟩
  have hK := HK.out
  unfold KM at hK ⊢
  rw [toL_len] at hK ⊢
  exact k_low (k_fr hK (fr_setRow _ _ _) (fun k hk => by have := HS0.out; omega)) HB0.out.size
/-- Step's boxes: what it was given, what it tells, what it has. -/
theorem three_boxes (w : World) (c z : Array Value) {W0 : World} (h : ((w.alloc (.cells c 49)).alloc (.cells #[.int .i64 0, .bool false, .slice none 0 0, .slice none 0 0, .bool false, .bool false, .bool false, .bool false, .bool false, .int .i64 0, .int .i64 0, .int .i64 0, .int .i64 0, .int .i64 0, .int .i64 0] 52)).alloc (.cells z 52) = W0) : InBox W0 w.heap.size c ∧ OutBox W0 (w.heap.size + 1) #[.int .i64 0, .bool false, .slice none 0 0, .slice none 0 0, .bool false, .bool false, .bool false, .bool false, .bool false, .int .i64 0, .int .i64 0, .int .i64 0, .int .i64 0, .int .i64 0, .int .i64 0] ∧ OutBox W0 (w.heap.size + 2) z ∧ Below w.heap.size w W0 ∧ W0.heap.size = w.heap.size + 3 := by
  obtain ⟨W1, hW1⟩ : ∃ W1, (w.alloc (.cells c 49)).alloc (.cells #[.int .i64 0, .bool false, .slice none 0 0, .slice none 0 0, .bool false, .bool false, .bool false, .bool false, .bool false, .int .i64 0, .int .i64 0, .int .i64 0, .int .i64 0, .int .i64 0, .int .i64 0] 52) = W1 := ⟨_, rfl⟩
  obtain ⟨a1, a2, a3, a4⟩ := two_boxes w c hW1
  rw [hW1] at h
  rw [← h]
  have h1 := OutBox.made W1 z
  rw [a4] at h1
  exact ⟨a1.new (one_newK _ _), a2.new (one_newK _ _), h1, a3.trans ((one_newK _ _).mono (by omega)), by simp [a4]⟩
set_option maxRecDepth 100000 in
set_option maxHeartbeats 1000000 in
theorem step_bfs0 {w : World} {P : Nat → Prop} {st id va ma : Int} {eo mo po : Option Addr} {en ec mn mc pn pc : Nat} {ha u0 u1 u2 u3 u4 u5 u6 u7 u8 u9 : Value} (E : List Ed) (hst : st = 0) (he : en = E.length) (hE : EdAt w P eo E) (hl : E.length ≤ 1048576) {b off : Nat} (hp : po = some ⟨b, off, none⟩) (hn : 0 < pn) (hc : w.cell? ⟨b, off, none⟩ = some (.int .i64 id)) :
    Calls Try.prog 20 #[.string ⟨#[98, 102, 115]⟩, (.agg #[.int .i64 st, .int .i64 id, .int .i64 va, .slice eo en ec, ha, .slice mo mn mc, u0, u1, u2, u3, u4, u5, u6, u7, u8, u9, .int .i64 ma, .slice po pn pc])] w fun r w' => ∃ tv, r = .returned (.agg #[.int .i64 0, .bool true, tv, .slice none 0 0, .bool false, .bool false, .bool false, .bool false, .bool false, .int .i64 0, .int .i64 0, .int .i64 0, .int .i64 0, .int .i64 0, .int .i64 0]) ∧ KM w' w.heap.size tv (toL id 1 E) ∧ Below w.heap.size w w' := by
  obtain ⟨W0, hW0⟩ : ∃ W0, ((w.alloc (.cells #[.int .i64 st, .int .i64 id, .int .i64 va, .slice eo en ec, ha, .slice mo mn mc, u0, u1, u2, u3, u4, u5, u6, u7, u8, u9, .int .i64 ma, .slice po pn pc] 49)).alloc (.cells #[.int .i64 0, .bool false, .slice none 0 0, .slice none 0 0, .bool false, .bool false, .bool false, .bool false, .bool false, .int .i64 0, .int .i64 0, .int .i64 0, .int .i64 0, .int .i64 0, .int .i64 0] 52)).alloc (.cells #[.int .i64 0, .bool false, .slice none 0 0, .slice none 0 0, .bool false, .bool false, .bool false, .bool false, .bool false, .int .i64 0, .int .i64 0, .int .i64 0, .int .i64 0, .int .i64 0, .int .i64 70] 52) = W0 := ⟨_, rfl⟩
  obtain ⟨hIn, hOut, hOwn, hB0, hs0⟩ := three_boxes w _ _ hW0
  have HIn : Hid _ := hIn
  have HOut : Hid _ := hOut
  have HOwn : Hid _ := hOwn
  have HE : Hid (EdAt W0 P eo E) := hE.kept (Fr.ofBelow hB0 (fun _ => False)) (fun k hk hp => ⟨fun h => h, hp⟩)
  have HB0 : Hid _ := hB0
  have HS0 : Hid _ := hs0
  have HC : Hid (W0.cell? ⟨b, off, none⟩ = some (.int .i64 id)) := (hB0.cell (p := ⟨b, off, none⟩) (lt_cell hc)).trans hc
  have HP : Hid _ := hp
  have HEn : Hid (en = E.length) := he
  have HSt : Hid (st = 0) := hst
  have tk1 : Hid True := trivial
  clear hIn hOut hOwn hE hB0 hs0 hc hp he hst
  go_enter Try.func20, Try.ntmps20
  go_upto_region 13 with (first
    | (refine wpList_load_row rfl 49 _ rfl w.heap.size rfl 49 #[.int .i64 st, .int .i64 id, .int .i64 va, .slice eo en ec, ha, .slice mo mn mc, u0, u1, u2, u3, u4, u5, u6, u7, u8, u9, .int .i64 ma, .slice po pn pc] (0, 0) _ HIn.out Try.underlying49 rfl size_in ?_)
    | (go_at_call 30; refine (hops_one E HSt.out HEn.out HE.out hl HP.out hn HC.out).mono ?_; rintro r w1 ⟨tv, rfl, hK, hb1⟩; obtain ⟨ao1, c1, rfl⟩ := k_shape hK; rw [toL_len]; have HK : Hid _ := hK; have HO3 : Hid _ := OutBox.new HOut.out hb1; have HW3 : Hid _ := OutBox.new HOwn.out hb1; have HB3 : Hid _ := HB0.out.trans (hb1.mono HB0.out.size); clear hK hb1)
    | (have _t := tk1; refine wpList_store_row rfl 52 _ _ rfl (w.heap.size + 2) #[.int .i64 0, .bool true, (.slice ao1 E.length c1), .slice none 0 0, .bool false, .bool false, .bool false, .bool false, .bool false, .int .i64 0, .int .i64 0, .int .i64 0, .int .i64 0, .int .i64 0, .int .i64 0] rfl rfl 52 #[.int .i64 0, .bool false, .slice none 0 0, .slice none 0 0, .bool false, .bool false, .bool false, .bool false, .bool false, .int .i64 0, .int .i64 0, .int .i64 0, .int .i64 0, .int .i64 0, .int .i64 70] HW3.out size_out rfl (by simp [Value.oneCell']) ?_; clear tk1))
  generalize hW : World.setRow _ _ _ = W
  have hO4 : OutBox W (w.heap.size + 2) #[.int .i64 0, .bool true, (.slice ao1 E.length c1), .slice none 0 0, .bool false, .bool false, .bool false, .bool false, .bool false, .int .i64 0, .int .i64 0, .int .i64 0, .int .i64 0, .int .i64 0, .int .i64 0] := by rw [← hW]; exact setRow_heap _ _ _ _ _ _ HW3.out
  have HO5 : Hid (OutBox W (w.heap.size + 1) #[.int .i64 0, .bool false, .slice none 0 0, .slice none 0 0, .bool false, .bool false, .bool false, .bool false, .bool false, .int .i64 0, .int .i64 0, .int .i64 0, .int .i64 0, .int .i64 0, .int .i64 0]) := by rw [← hW]; exact (setRow_other _ _ _ _ (by omega)).trans HO3.out
  have HB4 : Hid (Below w.heap.size w W) := by rw [← hW]; exact k_setRow HB3.out (by omega) _
  have HK4 : Hid (KM W W0.heap.size (.slice ao1 E.length c1) (toL id 1 E)) := by
    rw [← hW]
    have hK := HK.out
    unfold KM at hK ⊢
    rw [toL_len] at hK ⊢
    exact k_fr hK (fr_setRow _ _ _) (fun k hk => by have := HS0.out; omega)
  obtain ⟨_, _, _, _, _, _, _, _, _, _, _, _, _, _, q14⟩ := hO4.cells
  have HO4 : Hid _ := hO4
  clear hW hO4 HK HB3 HO3 HW3
  go_wp2_with (first
    | (refine wpList_load_row rfl 52 _ rfl (w.heap.size + 2) rfl 52 #[.int .i64 0, .bool true, (.slice ao1 E.length c1), .slice none 0 0, .bool false, .bool false, .bool false, .bool false, .bool false, .int .i64 0, .int .i64 0, .int .i64 0, .int .i64 0, .int .i64 0, .int .i64 0] (0, 0) _ HO4.out Try.underlying52 rfl size_out ?_)
    | (refine wpList_store_row rfl 52 _ _ rfl (w.heap.size + 1) #[.int .i64 0, .bool true, (.slice ao1 E.length c1), .slice none 0 0, .bool false, .bool false, .bool false, .bool false, .bool false, .int .i64 0, .int .i64 0, .int .i64 0, .int .i64 0, .int .i64 0, .int .i64 0] rfl rfl 52 #[.int .i64 0, .bool false, .slice none 0 0, .slice none 0 0, .bool false, .bool false, .bool false, .bool false, .bool false, .int .i64 0, .int .i64 0, .int .i64 0, .int .i64 0, .int .i64 0, .int .i64 0] HO5.out size_out rfl (by simp [Value.oneCell']) ?_))
  refine bodyPost_ret (v := .agg #[.int .i64 0, .bool true, (.slice ao1 E.length c1), .slice none 0 0, .bool false, .bool false, .bool false, .bool false, .bool false, .int .i64 0, .int .i64 0, .int .i64 0, .int .i64 0, .int .i64 0, .int .i64 0]) (results_cell_row Try.results20 _ _ (w.heap.size + 1) 52 _ (0, 0) _ rfl (setRow_heap _ _ _ _ _ _ HO5.out) Try.underlying52 rfl size_out) rfl ?_
  refine ⟨_, rfl, ?_, k_setRow HB4.out (by omega) _⟩
  have hK := HK4.out
  unfold KM at hK ⊢
  rw [toL_len] at hK ⊢
  exact k_low (k_fr hK (fr_setRow _ _ _) (fun k hk => by have := HS0.out; omega)) HB0.out.size
theorem infoEd7 : (Try.prog.info? 68).map (fun i => (i.zero, i.size, i.bytes)) = some (some (.agg #[.int .i64 0, .int .i64 0]), 2, 16) := by kernel_rfl
set_option maxRecDepth 100000 in
set_option maxHeartbeats 1000000 in
theorem awake7 (w : World) : Calls Try.prog 8 #[] w fun e w' => e = .returned (.bool true) ∧ Below w.heap.size w w' := by
  obtain ⟨W0, hW0⟩ : ∃ W0, (w.alloc (.cells #[.int .i64 2, .int .i64 0] 68)).alloc (.cells #[.int .i64 1] 2) = W0 := ⟨_, rfl⟩
  have hB0 : Below w.heap.size w W0 := by rw [← hW0]; exact (one_newK _ _).trans ((one_newK _ _).mono (by simp))
  have hE : EdAt W0 (fun _ => True) (some ⟨w.heap.size, 0, none⟩) [⟨2, 0⟩] := by
    intro _
    refine ⟨_, _, rfl, trivial, fun j hj => ?_⟩
    obtain rfl : j = 0 := by simpa using hj
    have hh : W0.heap[w.heap.size]? = some (.cells #[.int .i64 2, .int .i64 0] 68 (0, 0)) := by rw [← hW0]; exact ((one_newK _ _).block _ (by simp)).trans (heap_alloc_new _ _)
    simp [World.cell?, hh]
  have hP : W0.cell? ⟨w.heap.size + 1, 0, none⟩ = some (.int .i64 1) := by
    have hh : W0.heap[w.heap.size + 1]? = some (.cells #[.int .i64 1] 2 (0, 0)) := by rw [← hW0]; have := heap_alloc_new (w.alloc (.cells #[.int .i64 2, .int .i64 0] 68)) (.cells #[.int .i64 1] 2); rw [World.size_alloc] at this; exact this
    simp [World.cell?, hh]
  have HE : Hid _ := hE
  have HP : Hid _ := hP
  have HB0 : Hid _ := hB0
  clear hE hP hB0
  go_enter Try.func8, Try.ntmps8
  go_upto_region 2 with (go_at_call 20; refine (step_bfs0 (b := w.heap.size + 1) (off := 0) [⟨2, 0⟩] rfl rfl HE.out (by decide) rfl (by decide) HP.out).mono ?_; rintro r w1 ⟨tv, rfl, hK, hb1⟩; obtain ⟨ao1, c1, rfl⟩ := k_shape hK; have HK : Hid _ := hK; have HB1 : Hid _ := hb1; clear hK hb1)
  have hl1 : (toL 1 1 [⟨2, 0⟩]).length = 1 := rfl
  have hk := HK.out
  unfold KM at hk
  rw [hl1] at hk ⊢
  generalize hW : World.alloc _ _ = W
  have hO : OutBox W w1.heap.size #[.int .i64 0, .bool true, .slice ao1 1 c1, .slice none 0 0, .bool false, .bool false, .bool false, .bool false, .bool false, .int .i64 0, .int .i64 0, .int .i64 0, .int .i64 0, .int .i64 0, .int .i64 0] := by rw [← hW]; exact OutBox.made _ _
  have hb2 : Below w1.heap.size w1 W := by rw [← hW]; exact one_newK _ _
  have HB2 : Hid (Below w.heap.size w W) := (HB0.out.trans (HB1.out.mono HB0.out.size)).trans (hb2.mono (HB0.out.trans (HB1.out.mono HB0.out.size)).size)
  have hk2 := k_new hk hb2
  obtain ⟨g, rfl, hg, hc⟩ := k_at hk2 (by decide)
  have c1' := hc 1 (.int .i64 2) rfl
  have c3' := hc 3 (.int .i64 1) rfl
  obtain ⟨q0, q1, q2, _, _, _, _, _, _, _, _, _, _, _, q14⟩ := hO.cells
  clear hW hO hb2 hk hk2 hc HK HB1
  go_wp2
  go_ret
  exact ⟨rfl, HB2.out⟩
end Go.Proofs.Ytepdpafpjiaaeaa
