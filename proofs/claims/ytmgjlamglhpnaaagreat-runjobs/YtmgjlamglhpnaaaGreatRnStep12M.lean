/- What degree does. -/
import Derived.Test.YtmgjlamglhpnaaaGreatKnSaidM
import Derived.Test.YtmgjlamglhpnaaaGreatKnToM
import Derived.Test.YtmgjlamglhpnaaaGreatRnTurn5M
import Derived.Test.YtmgjlamglhpnaaaGreatJbMM
import Derived.Maps.AppendAt
import Derived.Deep.Cut
import Derived.Deep.DeepCutAuto
namespace Go.Proofs.YtmgjlamglhpnaaaGreat
set_option maxRecDepth 100000
open Go.RowKit
def gvA (x : Int) (j : Nat) : Array Value := if j = 0 then #[.bool false, .bool false, .bool false, .bool false, .bool false, .int .i64 0, .int .i64 0, .int .i64 0, .int .i64 0, .int .i64 0] else if j = 1 then #[.bool true, .bool false, .bool false, .bool false, .bool false, .int .i64 x, .int .i64 0, .int .i64 0, .int .i64 0, .int .i64 0] else #[.bool true, .bool false, .bool true, .bool false, .bool false, .int .i64 x, .int .i64 0, .int .i64 x, .int .i64 0, .int .i64 0]
def AgBox (W : World) (b : Nat) (c : Array Value) : Prop := W.heap[b]? = some (.cells c 114 (0, 0))
theorem AgBox.new {W W' : World} {b : Nat} {c : Array Value} (h : AgBox W b c) (hb : Below W.heap.size W W') : AgBox W' b c := (hb.block _ (Array.getElem?_eq_some_iff.1 h).1).trans h
set_option maxHeartbeats 1000000 in
theorem kgiven02 (x : Int) (w : World) (b : Nat) (hx : I64 x) (h0 : w.cell? ⟨b, 0, none⟩ = some (.int .i64 0)) (h1 : w.cell? ⟨b, 1, none⟩ = some (.int .i64 2)) : Calls Tryz.prog 191 #[.int .i64 x, .slice (some ⟨b, 0, none⟩) 2 2] w fun r w' => r = .returned (.agg #[.bool true, .bool false, .bool true, .bool false, .bool false, .int .i64 x, .int .i64 0, .int .i64 x, .int .i64 0, .int .i64 0]) ∧ Below w.heap.size w w' := by
 have HA0 : Hid (∀ W, Calls Tryz.prog 113 #[.agg #[.bool false, .bool false, .bool false, .bool false, .bool false, .int .i64 0, .int .i64 0, .int .i64 0, .int .i64 0, .int .i64 0], .int .i64 0, .int .i64 x] W fun r w' => r = .returned (.tuple #[.agg #[.bool true, .bool false, .bool false, .bool false, .bool false, .int .i64 x, .int .i64 0, .int .i64 0, .int .i64 0, .int .i64 0], .int .i64 0]) ∧ Below W.heap.size W w') := fun W => (aAdd_any (fun _ => none) 0 x W (fun i y h => by cases h) hx).mono (fun r w' h => ⟨h.1.trans rfl, h.2⟩)
 have HA1 : Hid (∀ W, Calls Tryz.prog 113 #[.agg #[.bool true, .bool false, .bool false, .bool false, .bool false, .int .i64 x, .int .i64 0, .int .i64 0, .int .i64 0, .int .i64 0], .int .i64 2, .int .i64 x] W fun r w' => r = .returned (.tuple #[.agg #[.bool true, .bool false, .bool true, .bool false, .bool false, .int .i64 x, .int .i64 0, .int .i64 x, .int .i64 0, .int .i64 0], .int .i64 0]) ∧ Below W.heap.size W w') := fun W => (aAdd_any (updA (fun _ => none) 0 (some x)) 2 x W (fun i y h => by
  unfold updA at h
  split at h
  ·cases h; exact hx
  ·cases h) hx).mono (fun r w' h => ⟨h.1.trans rfl, h.2⟩)
 obtain ⟨W0, hW0⟩ : ∃ W0, (w.alloc (.cells #[.bool false, .bool false, .bool false, .bool false, .bool false, .int .i64 0, .int .i64 0, .int .i64 0, .int .i64 0, .int .i64 0] 114)).alloc (.cells #[.bool false, .bool false, .bool false, .bool false, .bool false, .int .i64 0, .int .i64 0, .int .i64 0, .int .i64 0, .int .i64 0] 114) = W0 := ⟨_, rfl⟩
 have hB0 : Below w.heap.size w W0 := by rw [← hW0]; exact (one_newK _ _).trans ((one_newK _ _).mono (by simp))
 have hc4 : AgBox W0 w.heap.size #[.bool false, .bool false, .bool false, .bool false, .bool false, .int .i64 0, .int .i64 0, .int .i64 0, .int .i64 0, .int .i64 0] := by rw [← hW0]; exact ((one_newK _ _).block _ (by simp)).trans (heap_alloc_new _ _)
 have hc5 : AgBox W0 (w.heap.size + 1) #[.bool false, .bool false, .bool false, .bool false, .bool false, .int .i64 0, .int .i64 0, .int .i64 0, .int .i64 0, .int .i64 0] := by
  rw [← hW0]
  have := heap_alloc_new (w.alloc (.cells #[.bool false, .bool false, .bool false, .bool false, .bool false, .int .i64 0, .int .i64 0, .int .i64 0, .int .i64 0, .int .i64 0] 114)) (.cells #[.bool false, .bool false, .bool false, .bool false, .bool false, .int .i64 0, .int .i64 0, .int .i64 0, .int .i64 0, .int .i64 0] 114)
  rw [World.size_alloc] at this
  exact this
 have HC4 : Hid _ := hc4
 have HC5 : Hid _ := hc5
 have HB0 : Hid _ := hB0
 have HS0 : Hid (W0.heap.size = w.heap.size + 2) := by show _ = _; rw [← hW0]; simp
 have hbw := lt_cell h0
 have HX0 : Hid (W0.cell? ⟨b, 0, none⟩ = some (.int .i64 0)) := (hB0.cell (p := ⟨b, 0, none⟩) hbw).trans h0
 have HX1 : Hid (W0.cell? ⟨b, 1, none⟩ = some (.int .i64 2)) := (hB0.cell (p := ⟨b, 1, none⟩) hbw).trans h1
 have HBw : Hid (b < w.heap.size) := hbw
 clear hc4 hc5 hB0 h0 h1 hbw
 go_enter Tryz.func191, Tryz.ntmps191
 go_wp2_with (refine wpList_store_row rfl 114 _ _ rfl (w.heap.size + 1) #[.bool false, .bool false, .bool false, .bool false, .bool false, .int .i64 0, .int .i64 0, .int .i64 0, .int .i64 0, .int .i64 0] rfl rfl 114 #[.bool false, .bool false, .bool false, .bool false, .bool false, .int .i64 0, .int .i64 0, .int .i64 0, .int .i64 0, .int .i64 0] HC5.out size_agm rfl (by simp [Value.oneCell']) ?_)
 generalize hW : World.setRow _ _ _ = W
 have HD5 : Hid (AgBox W (w.heap.size + 1) #[.bool false, .bool false, .bool false, .bool false, .bool false, .int .i64 0, .int .i64 0, .int .i64 0, .int .i64 0, .int .i64 0]) := by rw [← hW]; exact setRow_heap _ _ _ _ _ _ HC5.out
 have HF : Hid (Fr W0 W (fun k => k = w.heap.size + 1)) := by rw [← hW]; exact fr_setRow _ _ _
 clear hW
 go_loopw [7, 11] (fun _ i wr => ∃ j : Nat, j ≤ 2 ∧ i = .int .i64 j ∧ AgBox wr (w.heap.size + 1) (gvA x j) ∧ Fr W0 wr (fun k => k = w.heap.size + 1)) (fun _ i _ => 2 - (intOf i).toNat)
 case atStart => exact ⟨0, by decide, rfl, HD5.out, HF.out⟩
 case round =>
  obtain ⟨j, hj, rfl, hbx, hf⟩ := hrel
  have hne : b ≠ w.heap.size + 1 := by have := HBw.out; omega
  rcases (show j = 0 ∨ j = 1 ∨ j = 2 by omega) with rfl | rfl | rfl
  ·have c0 := fr_cell hf hne HX0.out
   have HBx : Hid (AgBox wr (w.heap.size + 1) #[.bool false, .bool false, .bool false, .bool false, .bool false, .int .i64 0, .int .i64 0, .int .i64 0, .int .i64 0, .int .i64 0]) := hbx
   have HFr : Hid _ := hf
   clear hbx hf
   go_wp2_with (first
    | (refine wpList_load_row rfl 114 _ rfl (w.heap.size + 1) rfl 114 #[.bool false, .bool false, .bool false, .bool false, .bool false, .int .i64 0, .int .i64 0, .int .i64 0, .int .i64 0, .int .i64 0] (0, 0) _ HBx.out Tryz.underlying114 rfl size_agm ?_)
    | (go_at_call 113; refine (HA0.out _).mono ?_; rintro r w1 ⟨rfl, hb1⟩; have HBy : Hid _ := AgBox.new HBx.out hb1; have HFy : Hid _ := HFr.out.trans (Fr.ofBelow hb1 (fun _ => False)) (fun _ _ h => h.elim); clear hb1)
    | (refine wpList_store_row rfl 114 _ _ rfl (w.heap.size + 1) #[.bool true, .bool false, .bool false, .bool false, .bool false, .int .i64 x, .int .i64 0, .int .i64 0, .int .i64 0, .int .i64 0] rfl rfl 114 #[.bool false, .bool false, .bool false, .bool false, .bool false, .int .i64 0, .int .i64 0, .int .i64 0, .int .i64 0, .int .i64 0] HBy.out size_agm rfl (by simp [Value.oneCell']) ?_))
   go_roundw
   case rel => exact ⟨1, by decide, by go_num, setRow_heap _ _ _ _ _ _ HBy.out, HFy.out.trans (fr_setRow _ _ _) (fun _ _ h => h)⟩
   case measure => simp [intOf]
  ·have c1 := fr_cell hf hne HX1.out
   have HBx : Hid (AgBox wr (w.heap.size + 1) #[.bool true, .bool false, .bool false, .bool false, .bool false, .int .i64 x, .int .i64 0, .int .i64 0, .int .i64 0, .int .i64 0]) := hbx
   have HFr : Hid _ := hf
   clear hbx hf
   go_wp2_with (first
    | (refine wpList_load_row rfl 114 _ rfl (w.heap.size + 1) rfl 114 #[.bool true, .bool false, .bool false, .bool false, .bool false, .int .i64 x, .int .i64 0, .int .i64 0, .int .i64 0, .int .i64 0] (0, 0) _ HBx.out Tryz.underlying114 rfl size_agm ?_)
    | (go_at_call 113; refine (HA1.out _).mono ?_; rintro r w1 ⟨rfl, hb1⟩; have HBy : Hid _ := AgBox.new HBx.out hb1; have HFy : Hid _ := HFr.out.trans (Fr.ofBelow hb1 (fun _ => False)) (fun _ _ h => h.elim); clear hb1)
    | (refine wpList_store_row rfl 114 _ _ rfl (w.heap.size + 1) #[.bool true, .bool false, .bool true, .bool false, .bool false, .int .i64 x, .int .i64 0, .int .i64 x, .int .i64 0, .int .i64 0] rfl rfl 114 #[.bool true, .bool false, .bool false, .bool false, .bool false, .int .i64 x, .int .i64 0, .int .i64 0, .int .i64 0, .int .i64 0] HBy.out size_agm rfl (by simp [Value.oneCell']) ?_))
   go_roundw
   case rel => exact ⟨2, by decide, by go_num, setRow_heap _ _ _ _ _ _ HBy.out, HFy.out.trans (fr_setRow _ _ _) (fun _ _ h => h)⟩
   case measure => simp [intOf]
  ·have HBx : Hid (AgBox wr (w.heap.size + 1) #[.bool true, .bool false, .bool true, .bool false, .bool false, .int .i64 x, .int .i64 0, .int .i64 x, .int .i64 0, .int .i64 0]) := hbx
   have HB4 : Hid (AgBox wr w.heap.size #[.bool false, .bool false, .bool false, .bool false, .bool false, .int .i64 0, .int .i64 0, .int .i64 0, .int .i64 0, .int .i64 0]) := (hf.block _ (by have := HS0.out; omega) (by omega)).trans HC4.out
   have HFr : Hid (Below w.heap.size w wr) := HB0.out.trans (hf.below HB0.out.size (fun k hk => by omega))
   clear hbx hf
   go_wp2_with (first
    | (refine wpList_load_row rfl 114 _ rfl (w.heap.size + 1) rfl 114 #[.bool true, .bool false, .bool true, .bool false, .bool false, .int .i64 x, .int .i64 0, .int .i64 x, .int .i64 0, .int .i64 0] (0, 0) _ HBx.out Tryz.underlying114 rfl size_agm ?_)
    | (refine wpList_store_row rfl 114 _ _ rfl w.heap.size #[.bool true, .bool false, .bool true, .bool false, .bool false, .int .i64 x, .int .i64 0, .int .i64 x, .int .i64 0, .int .i64 0] rfl rfl 114 #[.bool false, .bool false, .bool false, .bool false, .bool false, .int .i64 0, .int .i64 0, .int .i64 0, .int .i64 0, .int .i64 0] HB4.out size_agm rfl (by simp [Value.oneCell']) ?_))
   refine bodyPost_ret (v := .agg #[.bool true, .bool false, .bool true, .bool false, .bool false, .int .i64 x, .int .i64 0, .int .i64 x, .int .i64 0, .int .i64 0]) (results_cell_row Tryz.results191 _ _ w.heap.size 114 _ (0, 0) _ rfl (setRow_heap _ _ _ _ _ _ HB4.out) Tryz.underlying114 rfl size_agm) rfl ?_
   exact ⟨rfl, ag_setRow HFr.out (Nat.le_refl _) _⟩
theorem two_ints (w : World) (a b : Value) (t : TypeId) : (w.alloc (.cells #[a, b] t)).cell? ⟨w.heap.size, 0, none⟩ = some a ∧ (w.alloc (.cells #[a, b] t)).cell? ⟨w.heap.size, 1, none⟩ = some b := by
 have hh := heap_alloc_new w (.cells #[a, b] t)
 generalize w.alloc (.cells #[a, b] t) = W at hh
 constructor <;> simp [World.cell?, hh]
set_option maxHeartbeats 1000000 in
theorem degrees_0 {w : World} {P : Nat → Prop} {st id va ma : Int} {eo mo po : Option Addr} {en ec mn mc pn pc : Nat} {ha ag0 ag1 ag2 ag3 ag4 ag5 ag6 ag7 ag8 ag9 : Value} (E : List Ed) (hst : st = 0) (he : en = E.length) (hE : EdAt w P eo E) (hl : E.length ≤ 1048576) :
  Calls Tryz.prog 167 #[(.agg #[.int .i64 st, .int .i64 id, .int .i64 va, .slice eo en ec, ha, .slice mo mn mc, ag0, ag1, ag2, ag3, ag4, ag5, ag6, ag7, ag8, ag9, .int .i64 ma, .slice po pn pc])] w fun r w' => ∃ ao1 c1, r = .returned (.agg #[.int .i64 E.length, .bool true, .slice ao1 E.length c1, .slice none 0 0, .bool true, .bool false, .bool true, .bool false, .bool false, .int .i64 E.length, .int .i64 0, .int .i64 E.length, .int .i64 0, .int .i64 0, .int .i64 0]) ∧ KM w' w.heap.size (.slice ao1 E.length c1) (toL id 1 E) ∧ Below w.heap.size w w' := by
 subst hst
 subst he
 obtain ⟨W0, hW0⟩ : ∃ W0, (w.alloc (.cells #[.int .i64 0, .int .i64 id, .int .i64 va, .slice eo E.length ec, ha, .slice mo mn mc, ag0, ag1, ag2, ag3, ag4, ag5, ag6, ag7, ag8, ag9, .int .i64 ma, .slice po pn pc] 156)).alloc (.cells #[.int .i64 0, .bool false, .slice none 0 0, .slice none 0 0, .bool false, .bool false, .bool false, .bool false, .bool false, .int .i64 0, .int .i64 0, .int .i64 0, .int .i64 0, .int .i64 0, .int .i64 0] 153) = W0 := ⟨_, rfl⟩
 obtain ⟨hIn, hOut, hB0, hs0⟩ := two_boxes w _ hW0
 obtain ⟨c0, _, _, c3, _⟩ := hIn.cells
 have HIn : Hid _ := hIn
 have HOut : Hid _ := hOut
 have HE : Hid (EdAt W0 P eo E) := hE.kept (Fr.ofBelow hB0 (fun _ => False)) (fun k hk hp => ⟨fun h => h, hp⟩)
 have HB0 : Hid _ := hB0
 have HS0 : Hid _ := hs0
 clear hIn hOut hE hB0 hs0
 go_enter Tryz.func167, Tryz.ntmps167
 go_wp2_with (first
  | (refine wpList_load_row rfl 156 _ rfl w.heap.size rfl 156 #[.int .i64 0, .int .i64 id, .int .i64 va, .slice eo E.length ec, ha, .slice mo mn mc, ag0, ag1, ag2, ag3, ag4, ag5, ag6, ag7, ag8, ag9, .int .i64 ma, .slice po pn pc] (0, 0) _ HIn.out Tryz.underlying156 rfl size_in ?_)
  | (go_at_call 160; refine (to_any 1 E rfl HE.out hl).mono ?_; rintro r w1 ⟨tv, rfl, hK, hb1⟩; obtain ⟨ao1, c1, rfl⟩ := k_shape hK; rw [toL_len] at hK ⊢; have HK : Hid (KM w1 W0.heap.size (.slice ao1 E.length c1) (toL id 1 E)) := hK; have HO1 : Hid _ := OutBox.new HOut.out hb1; have HB1 : Hid _ := hb1; clear hK hb1)
  | (go_at_call 191; refine (kgiven02 E.length _ w1.heap.size ⟨by omega, by omega⟩ (two_ints _ _ _ _).1 (two_ints _ _ _ _).2).mono ?_; rintro r w2 ⟨rfl, hb2⟩; have hb3 := (one_newK w1 (.cells #[.int .i64 0, .int .i64 2] 3)).trans (hb2.mono (by simp)); have HK2 : Hid (KM w2 W0.heap.size (.slice ao1 E.length c1) (toL id 1 E)) := k_new HK.out hb3; have HO2 : Hid _ := OutBox.new HO1.out hb3; have HB2 : Hid _ := HB1.out.trans (hb3.mono HB1.out.size); clear hb2 hb3)
  | (refine wpList_store_row rfl 153 _ _ rfl (w.heap.size + 1) #[.int .i64 E.length, .bool true, .slice ao1 E.length c1, .slice none 0 0, .bool true, .bool false, .bool true, .bool false, .bool false, .int .i64 E.length, .int .i64 0, .int .i64 E.length, .int .i64 0, .int .i64 0, .int .i64 0] rfl rfl 153 #[.int .i64 0, .bool false, .slice none 0 0, .slice none 0 0, .bool false, .bool false, .bool false, .bool false, .bool false, .int .i64 0, .int .i64 0, .int .i64 0, .int .i64 0, .int .i64 0, .int .i64 0] HO2.out size_out rfl (by simp [Value.oneCell']) ?_))
 refine bodyPost_ret (v := .agg #[.int .i64 E.length, .bool true, .slice ao1 E.length c1, .slice none 0 0, .bool true, .bool false, .bool true, .bool false, .bool false, .int .i64 E.length, .int .i64 0, .int .i64 E.length, .int .i64 0, .int .i64 0, .int .i64 0]) (results_cell_row Tryz.results167 _ _ (w.heap.size + 1) 153 _ (0, 0) _ rfl (setRow_heap _ _ _ _ _ _ HO2.out) Tryz.underlying153 rfl size_out) rfl ?_
 refine ⟨_, _, rfl, ?_, k_setRow (HB0.out.trans (HB2.out.mono HB0.out.size)) (by omega) _⟩
 exact k_low (k_fr HK2.out (fr_setRow _ _ _) (fun k hk => by have := HS0.out; omega)) HB0.out.size
set_option maxHeartbeats 1000000 in
theorem degrees_1 {w : World} {P : Nat → Prop} {st id va ma : Int} {eo mo po : Option Addr} {en ec mn mc pn pc : Nat} {ha ag0 ag1 ag2 ag3 ag4 ag5 ag6 ag7 ag8 ag9 : Value} (L : List Msg) (hst : ¬ st = 0) (hn : mn = L.length) (hL : MsAt w P mo L) (hok : ∀ m ∈ L, m.ok) (hl : L.length ≤ 1048576) (hva : I64 va) {s v : Int} (hs : sumF 0 (sayL L) = (s, 0)) (hsv : I64 s) (hv1 : hv (va + s) = v) (hv0 : he (va + s) = 0) :
  Calls Tryz.prog 167 #[(.agg #[.int .i64 st, .int .i64 id, .int .i64 va, .slice eo en ec, ha, .slice mo mn mc, ag0, ag1, ag2, ag3, ag4, ag5, ag6, ag7, ag8, ag9, .int .i64 ma, .slice po pn pc])] w fun r w' => r = .returned (.agg #[.int .i64 v, .bool true, .slice none 0 0, .slice none 0 0, .bool false, .bool false, .bool false, .bool false, .bool false, .int .i64 0, .int .i64 0, .int .i64 0, .int .i64 0, .int .i64 0, .int .i64 0]) ∧ Below w.heap.size w w' := by
 obtain ⟨W0, hW0⟩ : ∃ W0, (w.alloc (.cells #[.int .i64 st, .int .i64 id, .int .i64 va, .slice eo en ec, ha, .slice mo mn mc, ag0, ag1, ag2, ag3, ag4, ag5, ag6, ag7, ag8, ag9, .int .i64 ma, .slice po pn pc] 156)).alloc (.cells #[.int .i64 0, .bool false, .slice none 0 0, .slice none 0 0, .bool false, .bool false, .bool false, .bool false, .bool false, .int .i64 0, .int .i64 0, .int .i64 0, .int .i64 0, .int .i64 0, .int .i64 0] 153) = W0 := ⟨_, rfl⟩
 obtain ⟨hIn, hOut, hB0, hs0⟩ := two_boxes w _ hW0
 obtain ⟨c0, _⟩ := hIn.cells
 have HIn : Hid _ := hIn
 have HOut : Hid _ := hOut
 have HL : Hid (MsAt W0 P mo L) := hL.new hB0
 have HB0 : Hid _ := hB0
 have HN : Hid _ := hn
 have HOk : Hid (∀ z ∈ sayL L, I64 z) := fun z hz => by
  obtain ⟨m, hm, rfl⟩ := List.mem_map.1 hz
  exact (hok m hm).v
 have HVa : Hid (I64 va) := hva
 have HSs : Hid _ := hs
 have HSv : Hid (I64 s) := hsv
 have HV1 : Hid _ := hv1
 have HV0 : Hid _ := hv0
 have hsb : (st == 0) = false := by simpa using hst
 clear hIn hOut hL hB0 hs0 hn hok hst hva hs hsv hv1 hv0
 go_enter Tryz.func167, Tryz.ntmps167
 go_upto_region 7 with (first
  | (refine wpList_load_row rfl 156 _ rfl w.heap.size rfl 156 #[.int .i64 st, .int .i64 id, .int .i64 va, .slice eo en ec, ha, .slice mo mn mc, ag0, ag1, ag2, ag3, ag4, ag5, ag6, ag7, ag8, ag9, .int .i64 ma, .slice po pn pc] (0, 0) _ HIn.out Tryz.underlying156 rfl size_in ?_)
  | (go_at_call 193; refine (said_any L HN.out HL.out hl).mono ?_; rintro r w1 ⟨ao1, c1, rfl, hK, hb1⟩; have HK : Hid (IsAt w1 ao1 (sayL L)) := KI.at_ hK; have HO1 : Hid _ := OutBox.new HOut.out hb1; have HI1 : Hid _ := InBox.new HIn.out hb1; have HB1 : Hid _ := hb1; clear hK hb1)
  | (go_at_call 192; refine (sum_is (sayL L) _ (sayL_len L).symm (by rw [sayL_len]; exact hl) HK.out HOk.out).mono ?_; rintro r w2 ⟨rfl, rfl⟩; rw [HSs.out]))
 obtain ⟨_, _, q2, _⟩ := InBox.cells HI1.out
 go_wp2_with (first
  | (go_at_call 147; refine (addR HVa.out HSv.out).mono ?_; rintro r w3 ⟨rfl, rfl⟩; rw [HV1.out, HV0.out])
  | (refine wpList_store_row rfl 153 _ _ rfl (w.heap.size + 1) #[.int .i64 v, .bool true, .slice none 0 0, .slice none 0 0, .bool false, .bool false, .bool false, .bool false, .bool false, .int .i64 0, .int .i64 0, .int .i64 0, .int .i64 0, .int .i64 0, .int .i64 0] rfl rfl 153 #[.int .i64 0, .bool false, .slice none 0 0, .slice none 0 0, .bool false, .bool false, .bool false, .bool false, .bool false, .int .i64 0, .int .i64 0, .int .i64 0, .int .i64 0, .int .i64 0, .int .i64 0] HO1.out size_out rfl (by simp [Value.oneCell']) ?_))
 refine bodyPost_ret (v := .agg #[.int .i64 v, .bool true, .slice none 0 0, .slice none 0 0, .bool false, .bool false, .bool false, .bool false, .bool false, .int .i64 0, .int .i64 0, .int .i64 0, .int .i64 0, .int .i64 0, .int .i64 0]) (results_cell_row Tryz.results167 _ _ (w.heap.size + 1) 153 _ (0, 0) _ rfl (setRow_heap _ _ _ _ _ _ HO1.out) Tryz.underlying153 rfl size_out) rfl ?_
 exact ⟨rfl, k_setRow (HB0.out.trans (HB1.out.mono HB0.out.size)) (by omega) _⟩
theorem run_append_no {P : Program} (w : World) (t ty e : TypeId) (i : TypeInfo) (ht : P.underlying t = some (.slice e)) (hi : P.info? e = some i) (base bo : Option Addr) (n c c2 : Nat) (hle : n ≤ c) :
  (Builtin.append_ #[t, t] ty #[.slice base n c, .slice bo 0 c2]).run P w = .ok (.slice base n c) w := by
 cases base <;> cases bo <;> simp [Builtin.append_, run_underlying ht, sizeOf, typeInfo, hi, hle, storeCells, loadCells, loadCellsFrom, Builtin.lenOf, Builtin.firstCells]
theorem op_appendR {P : Program} {o : Oper} {a : Act} {w : World} {K : Act → World → Prop} {Q : Exit → Act → World → Prop} {s x : Operand} (t e : TypeId) (hop : o.op = .call { callee := .builtin .append, args := #[s, x], argTypes := #[t, t] })
  (i0 : TypeInfo) (z : Value) (size bytes : Nat) (ht : P.underlying t = some (.slice e)) (hi : P.info? e = some i0) (hz0 : i0.zero = some z) (hz1 : i0.size = size) (hz2 : i0.bytes = bytes) (hzs : z.cells.size = size) (hsz : 0 < size)
  (base : Nat) (v : Value) (n : Nat) (xs : List Value) (hs : a.eval s = v) (hown : w.ownsRow base e size v n xs) {base2 : Nat} {bo : Option Addr} {m c : Nat} {news : List Value} (hx : a.eval x = .slice bo m c) (hE : w.ownsRow base2 e size (.slice bo m c) m news) (hnl : news.length = m * size) (h1 : ∀ u ∈ news, u.oneCell' = true) (h63 : n + m ≤ maxLen) (hby : (n + m) * bytes ≤ 140737488355328) (hbase : base ≤ w.heap.size)
  (h : ∀ v' w', w'.ownsRow base e size v' (n + m) (xs ++ news) → w.grownBy w' v.ownBlock → (v'.ownBlock = v.ownBlock ∨ v'.ownBlock = some w.heap.size) → K (a.put o.dst v') w') : o.wp P a w K Q := by
 by_cases hl : 0 < m
 ·obtain ⟨g, rfl, _, hc⟩ := k_at hE hl
  obtain ⟨v', w', hr, h2, h3, _, h5⟩ := run_append_own_at (P := P) w base t o.type e i0 z size bytes ht hi hz0 hz1 hz2 hzs hsz v n xs hown ⟨g, 0, none⟩ m c news hnl (fun j u hu => by rw [Addr.add_lit, Nat.zero_add]; exact hc j u hu) h1 h63 hby hbase
  unfold Oper.wp execOp
  simp only [hop, resolve, invoke, builtin, Sem.run_bind, Sem.run_pure, Result.andThen_ok, List.map_toArray, List.map_cons, List.map_nil, hs, hx, hr]
  exact h v' w' h2 h3 h5
 ·obtain rfl : m = 0 := by omega
  have e0 : news = [] := List.length_eq_zero_iff.1 (by omega)
  subst e0
  have hle : ∃ so nn cc, v = .slice so nn cc ∧ nn ≤ cc := by
   rcases hown.2 with ⟨h1, _⟩ | ⟨g, cap, cur, h1, _, _, hn, _⟩
   ·exact ⟨_, _, _, h1, Nat.le_refl _⟩
   ·exact ⟨_, _, _, h1, hn⟩
  obtain ⟨so, nn, cc, rfl, hle⟩ := hle
  have hr := run_append_no (P := P) w t o.type e i0 ht hi so bo nn cc c hle
  unfold Oper.wp execOp
  simp only [hop, resolve, invoke, builtin, Sem.run_bind, Sem.run_pure, Result.andThen_ok, List.map_toArray, List.map_cons, List.map_nil, hs, hx, hr]
  refine h _ _ ?_ (World.grownBy.refl _ _) (.inl rfl)
  rw [List.append_nil]
  exact hown
theorem msgsOne (L : List Msg) : ∀ u ∈ L.flatMap msgCells, u.oneCell' = true := by
 intro u hu
 obtain ⟨y, _, h⟩ := List.mem_flatMap.1 hu
 exact k_oneM y u h
theorem musOneK (L : List Mu) : ∀ u ∈ L.flatMap muCells, u.oneCell' = true := by
 intro u hu
 obtain ⟨y, _, h⟩ := List.mem_flatMap.1 hu
 exact k_oneU y u h
theorem upd_at (X : Nat → Value) (d : Nat) (v : Value) : upd X d v d = v := if_pos rfl
theorem upd_ne (X : Nat → Value) {d k : Nat} (v : Value) (h : k ≠ d) : upd X d v k = X k := if_neg h
theorem k_keep {w w' : World} {base : Nat} {e : TypeId} {size : Nat} {v : Value} {n : Nat} {xs : List Value} (h : w.ownsRow base e size v n xs) {S : Nat → Prop} (f : Fr w w' S) (hs : ∀ k, v.ownBlock = some k → ¬ S k) : w'.ownsRow base e size v n xs := by
 refine ⟨h.1, ?_⟩
 rcases h.2 with h2 | ⟨g, cap, cur, rfl, h3, h4, h5⟩
 ·exact Or.inl h2
 ·exact Or.inr ⟨g, cap, cur, rfl, h3, (f.block g (Array.getElem?_eq_some_iff.1 h4).1 (hs g rfl)).trans h4, h5⟩
theorem km_app {w : World} {base : Nat} {v : Value} {A B : List Msg} (h : w.ownsRow base 201 4 v (A.length + B.length) (A.flatMap msgCells ++ B.flatMap msgCells)) : KM w base v (A ++ B) := by
 unfold KM; rw [List.length_append, List.flatMap_append]; exact h
theorem ku_app {w : World} {base : Nat} {v : Value} {A B : List Mu} (h : w.ownsRow base 195 4 v (A.length + B.length) (A.flatMap muCells ++ B.flatMap muCells)) : KU w base v (A ++ B) := by
 unfold KU; rw [List.length_append, List.flatMap_append]; exact h
theorem below_drewK (w : World) : Below w.heap.size w w.drew := ⟨rfl, rfl, rfl, Nat.le_refl _, fun _ _ => rfl⟩
theorem agb_fr {W W' : World} {b : Nat} {c : Array Value} {S : Nat → Prop} (f : Fr W W' S) (hb : ¬ S b) (h : AgBox W b c) : AgBox W' b c := (f.block b (Array.getElem?_eq_some_iff.1 h).1 hb).trans h
set_option maxHeartbeats 2000000 in
theorem step_r12 {W0 : World} {A : Act} {sv av : Value} {gb ob bb base b2 on an sc ac : Nat} {so ao : Option Addr} {sent osent : List Msg} {asked oasked : List Mu} {bc gc : Array Value} {Q : Exit → Act → World → Prop} (hsz : A.tmps.size = 83) (hA14 : A.eval (.tmp 14) = sv) (hA15 : A.eval (.tmp 15) = av) (hA16 : A.eval (.tmp 16) = .pointer (some ⟨gb, 0, none⟩)) (hA19 : A.eval (.tmp 19) = .pointer (some ⟨ob, 0, none⟩)) (hA20 : A.eval (.tmp 20) = .pointer (some ⟨bb, 0, none⟩)) (hKM : KM W0 base sv sent) (hKU : KU W0 base av asked) (hOM : W0.ownsRow b2 201 4 (.slice so on sc) on (osent.flatMap msgCells)) (hOU : W0.ownsRow b2 195 4 (.slice ao an ac) an (oasked.flatMap muCells)) (hon : on = osent.length) (han : an = oasked.length) (hlen : sent.length + on ≤ 2147483648) (hlen2 : asked.length + an ≤ 2147483648) (hbase : base ≤ W0.heap.size) (hlo : ∀ k, (sv.ownBlock = some k ∨ av.ownBlock = some k ∨ k = gb) → k < b2) (hne : ∀ k, sv.ownBlock = some k → ¬ av.ownBlock = some k) (hgs : ¬ sv.ownBlock = some gb) (hga : ¬ av.ownBlock = some gb) (hob : ¬ (sv.ownBlock = some ob ∨ av.ownBlock = some ob ∨ ob = gb)) (hbb : ¬ (sv.ownBlock = some bb ∨ av.ownBlock = some bb ∨ bb = gb)) (hBB : AgBox W0 bb bc) (hGB : AgBox W0 gb gc) (hbs : (Tryz.prog.info? 114).map (·.size) = some bc.size) (hgc : gc.size = bc.size) (hb1 : bc.all (·.oneCell') = true) (hO2 : W0.cell? ⟨ob, 2, none⟩ = some (.slice so on sc)) (hO3 : W0.cell? ⟨ob, 3, none⟩ = some (.slice ao an ac))
  (HK : ∀ X W, KM W base (X 72) (sent ++ osent) ∧ (∀ k, (X 72).ownBlock = some k → sv.ownBlock = some k ∨ W0.heap.size ≤ k) ∧ KU W base (X 76) (asked ++ oasked) ∧ (∀ k, (X 76).ownBlock = some k → av.ownBlock = some k ∨ W0.heap.size ≤ k) ∧ AgBox W gb bc ∧ Fr W0 W (fun k => sv.ownBlock = some k ∨ av.ownBlock = some k ∨ k = gb) ∧ X 14 = X 72 ∧ X 15 = X 76 → Q .normal (puts A X [68, 69, 70, 71, 72, 73, 74, 75, 76, 1000009, 14, 15]) W) :
  Code.wp Tryz.prog ((Tryz.f53.body.bind (regionJ 12)).getD .skip) Q A W0 := by
 obtain ⟨ds, hds⟩ : ∃ ds, [68, 69, 70, 71, 72, 73, 74, 75, 76, 1000009, 14, 15] = ds := ⟨_, rfl⟩
 have hin : ∀ {X : Nat → Value} {k : Nat}, k ∈ [68, 69, 70, 71, 72, 73, 74, 75, 76, 1000009, 14, 15] → k < 83 → (puts A X ds).eval (.tmp k) = X k := fun hk hl => by rw [← hds]; exact eval_in hk (by rw [hsz]; exact hl)
 have hout : ∀ {X : Nat → Value} {k : Nat}, k ∉ [68, 69, 70, 71, 72, 73, 74, 75, 76, 1000009, 14, 15] → (puts A X ds).eval (.tmp k) = A.eval (.tmp k) := fun hk => by rw [← hds]; exact eval_out hk
 have g0 : ds.getD 0 0 = 68 := by rw [← hds]; rfl
 have g1 : ds.getD 1 0 = 69 := by rw [← hds]; rfl
 have g2 : ds.getD 2 0 = 70 := by rw [← hds]; rfl
 have g3 : ds.getD 3 0 = 71 := by rw [← hds]; rfl
 have g4 : ds.getD 4 0 = 72 := by rw [← hds]; rfl
 have g5 : ds.getD 5 0 = 73 := by rw [← hds]; rfl
 have g6 : ds.getD 6 0 = 74 := by rw [← hds]; rfl
 have g7 : ds.getD 7 0 = 75 := by rw [← hds]; rfl
 have g8 : ds.getD 8 0 = 76 := by rw [← hds]; rfl
 have g9 : ds.getD 9 0 = 1000009 := by rw [← hds]; rfl
 have g10 : ds.getD 10 0 = 14 := by rw [← hds]; rfl
 have g11 : ds.getD 11 0 = 15 := by rw [← hds]; rfl
 obtain ⟨R, hR⟩ : ∃ R : World → World → Prop, ∀ W W', R W W' = (True) := ⟨fun W W' => True, fun _ _ => rfl⟩
 obtain ⟨V, hV, e0, e1, e2, e3, e4, e5, e6, e7, e8, e9, e10, e11⟩ : ∃ V : Nat → Value → World → Prop, (∀ i v W W', V i v W → R W W' → V i v W') ∧ (∀ v W, V 0 v W = (v = .agg bc)) ∧ (∀ v W, V 1 v W = (v = sv)) ∧ (∀ v W, V 2 v W = (v = .pointer (some ⟨ob, 2, none⟩))) ∧ (∀ v W, V 3 v W = (v = .slice so on sc)) ∧ (∀ v W, V 4 v W = (True)) ∧ (∀ v W, V 5 v W = (v = av)) ∧ (∀ v W, V 6 v W = (v = .pointer (some ⟨ob, 3, none⟩))) ∧ (∀ v W, V 7 v W = (v = .slice ao an ac)) ∧ (∀ v W, V 8 v W = (True)) ∧ (∀ v W, V 9 v W = (True)) ∧ (∀ v W, V 10 v W = (True)) ∧ (∀ v W, V 11 v W = (True)) := by
  refine ⟨fun i v W => match i with
   | 0 => v = .agg bc
   | 1 => v = sv
   | 2 => v = .pointer (some ⟨ob, 2, none⟩)
   | 3 => v = .slice so on sc
   | 4 => True
   | 5 => v = av
   | 6 => v = .pointer (some ⟨ob, 3, none⟩)
   | 7 => v = .slice ao an ac
   | 8 => True
   | 9 => True
   | 10 => True
   | 11 => True
   | _ => True, ?_, fun _ _ => rfl, fun _ _ => rfl, fun _ _ => rfl, fun _ _ => rfl, fun _ _ => rfl, fun _ _ => rfl, fun _ _ => rfl, fun _ _ => rfl, fun _ _ => rfl, fun _ _ => rfl, fun _ _ => rfl, fun _ _ => rfl⟩
  intro i v W W' h hb
  rw [hR] at hb
  match i, h with
  | 0, h => exact h
  | 1, h => exact h
  | 2, h => exact h
  | 3, h => exact h
  | 4, h => exact h
  | 5, h => exact h
  | 6, h => exact h
  | 7, h => exact h
  | 8, h => exact h
  | 9, h => exact h
  | 10, h => exact h
  | 11, h => exact h
  | _ + 12, _ => trivial
 obtain ⟨T, hTC, hTS, t0, t1, t2, t3, t4, t5⟩ : ∃ T : Nat → (Nat → Value) → World → Prop, (∀ m X W, T m X W → (Fr W0 W (fun k => sv.ownBlock = some k ∨ av.ownBlock = some k ∨ k = gb))) ∧ (∀ m X X' W, (∀ i, i < 12 → ([none, none, none, none, some 0, none, none, none, some 1, some 2, some 3, some 4] : List (Option Nat)).getD i none ≠ none → X (ds.getD i 0) = X' (ds.getD i 0)) → T m X W → T m X' W) ∧ (∀ X W, T 0 X W = (Below W0.heap.size W0 W)) ∧ (∀ X W, T 1 X W = (KM W base (X 72) (sent ++ osent) ∧ (∀ k, (X 72).ownBlock = some k → sv.ownBlock = some k ∨ W0.heap.size ≤ k) ∧ Fr W0 W (fun k => sv.ownBlock = some k))) ∧ (∀ X W, T 2 X W = (KM W base (X 72) (sent ++ osent) ∧ (∀ k, (X 72).ownBlock = some k → sv.ownBlock = some k ∨ W0.heap.size ≤ k) ∧ KU W base (X 76) (asked ++ oasked) ∧ (∀ k, (X 76).ownBlock = some k → av.ownBlock = some k ∨ W0.heap.size ≤ k) ∧ Fr W0 W (fun k => sv.ownBlock = some k ∨ av.ownBlock = some k))) ∧ (∀ X W, T 3 X W = (KM W base (X 72) (sent ++ osent) ∧ (∀ k, (X 72).ownBlock = some k → sv.ownBlock = some k ∨ W0.heap.size ≤ k) ∧ KU W base (X 76) (asked ++ oasked) ∧ (∀ k, (X 76).ownBlock = some k → av.ownBlock = some k ∨ W0.heap.size ≤ k) ∧ AgBox W gb bc ∧ Fr W0 W (fun k => sv.ownBlock = some k ∨ av.ownBlock = some k ∨ k = gb))) ∧ (∀ X W, T 4 X W = (KM W base (X 72) (sent ++ osent) ∧ (∀ k, (X 72).ownBlock = some k → sv.ownBlock = some k ∨ W0.heap.size ≤ k) ∧ KU W base (X 76) (asked ++ oasked) ∧ (∀ k, (X 76).ownBlock = some k → av.ownBlock = some k ∨ W0.heap.size ≤ k) ∧ AgBox W gb bc ∧ Fr W0 W (fun k => sv.ownBlock = some k ∨ av.ownBlock = some k ∨ k = gb) ∧ X 14 = X 72)) ∧ (∀ X W, T 5 X W = (KM W base (X 72) (sent ++ osent) ∧ (∀ k, (X 72).ownBlock = some k → sv.ownBlock = some k ∨ W0.heap.size ≤ k) ∧ KU W base (X 76) (asked ++ oasked) ∧ (∀ k, (X 76).ownBlock = some k → av.ownBlock = some k ∨ W0.heap.size ≤ k) ∧ AgBox W gb bc ∧ Fr W0 W (fun k => sv.ownBlock = some k ∨ av.ownBlock = some k ∨ k = gb) ∧ X 14 = X 72 ∧ X 15 = X 76)) := by
  refine ⟨fun m X W => match m with
   | 0 => Below W0.heap.size W0 W
   | 1 => KM W base (X 72) (sent ++ osent) ∧ (∀ k, (X 72).ownBlock = some k → sv.ownBlock = some k ∨ W0.heap.size ≤ k) ∧ Fr W0 W (fun k => sv.ownBlock = some k)
   | 2 => KM W base (X 72) (sent ++ osent) ∧ (∀ k, (X 72).ownBlock = some k → sv.ownBlock = some k ∨ W0.heap.size ≤ k) ∧ KU W base (X 76) (asked ++ oasked) ∧ (∀ k, (X 76).ownBlock = some k → av.ownBlock = some k ∨ W0.heap.size ≤ k) ∧ Fr W0 W (fun k => sv.ownBlock = some k ∨ av.ownBlock = some k)
   | 3 => KM W base (X 72) (sent ++ osent) ∧ (∀ k, (X 72).ownBlock = some k → sv.ownBlock = some k ∨ W0.heap.size ≤ k) ∧ KU W base (X 76) (asked ++ oasked) ∧ (∀ k, (X 76).ownBlock = some k → av.ownBlock = some k ∨ W0.heap.size ≤ k) ∧ AgBox W gb bc ∧ Fr W0 W (fun k => sv.ownBlock = some k ∨ av.ownBlock = some k ∨ k = gb)
   | 4 => KM W base (X 72) (sent ++ osent) ∧ (∀ k, (X 72).ownBlock = some k → sv.ownBlock = some k ∨ W0.heap.size ≤ k) ∧ KU W base (X 76) (asked ++ oasked) ∧ (∀ k, (X 76).ownBlock = some k → av.ownBlock = some k ∨ W0.heap.size ≤ k) ∧ AgBox W gb bc ∧ Fr W0 W (fun k => sv.ownBlock = some k ∨ av.ownBlock = some k ∨ k = gb) ∧ X 14 = X 72
   | 5 => KM W base (X 72) (sent ++ osent) ∧ (∀ k, (X 72).ownBlock = some k → sv.ownBlock = some k ∨ W0.heap.size ≤ k) ∧ KU W base (X 76) (asked ++ oasked) ∧ (∀ k, (X 76).ownBlock = some k → av.ownBlock = some k ∨ W0.heap.size ≤ k) ∧ AgBox W gb bc ∧ Fr W0 W (fun k => sv.ownBlock = some k ∨ av.ownBlock = some k ∨ k = gb) ∧ X 14 = X 72 ∧ X 15 = X 76
   | _ => False, ?_, ?_, fun _ _ => rfl, fun _ _ => rfl, fun _ _ => rfl, fun _ _ => rfl, fun _ _ => rfl, fun _ _ => rfl⟩
  ·intro m X W h
   match m, h with
   | 0, h => exact Fr.ofBelow h _
   | 1, h => exact h.2.2.mono (fun _ _ h => .inl h)
   | 2, h => exact h.2.2.2.2.mono (fun _ _ h => by rcases h with h | h; exact .inl h; exact .inr (.inl h))
   | 3, h => exact h.2.2.2.2.2
   | 4, h => exact h.2.2.2.2.2.1
   | 5, h => exact h.2.2.2.2.2.1
  ·intro m X X' W he h
   have q4 := he 4 (by decide) (by decide)
   rw [g4] at q4
   have q8 := he 8 (by decide) (by decide)
   rw [g8] at q8
   have q10 := he 10 (by decide) (by decide)
   rw [g10] at q10
   have q11 := he 11 (by decide) (by decide)
   rw [g11] at q11
   match m, h with
   | 0, h => exact h
   | 1, h => 
    have h2 : KM W base (X 72) (sent ++ osent) ∧ (∀ k, (X 72).ownBlock = some k → sv.ownBlock = some k ∨ W0.heap.size ≤ k) ∧ Fr W0 W (fun k => sv.ownBlock = some k) := h
    show KM W base (X' 72) (sent ++ osent) ∧ (∀ k, (X' 72).ownBlock = some k → sv.ownBlock = some k ∨ W0.heap.size ≤ k) ∧ Fr W0 W (fun k => sv.ownBlock = some k)
    rw [← q4]
    exact h2
   | 2, h => 
    have h2 : KM W base (X 72) (sent ++ osent) ∧ (∀ k, (X 72).ownBlock = some k → sv.ownBlock = some k ∨ W0.heap.size ≤ k) ∧ KU W base (X 76) (asked ++ oasked) ∧ (∀ k, (X 76).ownBlock = some k → av.ownBlock = some k ∨ W0.heap.size ≤ k) ∧ Fr W0 W (fun k => sv.ownBlock = some k ∨ av.ownBlock = some k) := h
    show KM W base (X' 72) (sent ++ osent) ∧ (∀ k, (X' 72).ownBlock = some k → sv.ownBlock = some k ∨ W0.heap.size ≤ k) ∧ KU W base (X' 76) (asked ++ oasked) ∧ (∀ k, (X' 76).ownBlock = some k → av.ownBlock = some k ∨ W0.heap.size ≤ k) ∧ Fr W0 W (fun k => sv.ownBlock = some k ∨ av.ownBlock = some k)
    rw [← q4, ← q8]
    exact h2
   | 3, h => 
    have h2 : KM W base (X 72) (sent ++ osent) ∧ (∀ k, (X 72).ownBlock = some k → sv.ownBlock = some k ∨ W0.heap.size ≤ k) ∧ KU W base (X 76) (asked ++ oasked) ∧ (∀ k, (X 76).ownBlock = some k → av.ownBlock = some k ∨ W0.heap.size ≤ k) ∧ AgBox W gb bc ∧ Fr W0 W (fun k => sv.ownBlock = some k ∨ av.ownBlock = some k ∨ k = gb) := h
    show KM W base (X' 72) (sent ++ osent) ∧ (∀ k, (X' 72).ownBlock = some k → sv.ownBlock = some k ∨ W0.heap.size ≤ k) ∧ KU W base (X' 76) (asked ++ oasked) ∧ (∀ k, (X' 76).ownBlock = some k → av.ownBlock = some k ∨ W0.heap.size ≤ k) ∧ AgBox W gb bc ∧ Fr W0 W (fun k => sv.ownBlock = some k ∨ av.ownBlock = some k ∨ k = gb)
    rw [← q4, ← q8]
    exact h2
   | 4, h => 
    have h2 : KM W base (X 72) (sent ++ osent) ∧ (∀ k, (X 72).ownBlock = some k → sv.ownBlock = some k ∨ W0.heap.size ≤ k) ∧ KU W base (X 76) (asked ++ oasked) ∧ (∀ k, (X 76).ownBlock = some k → av.ownBlock = some k ∨ W0.heap.size ≤ k) ∧ AgBox W gb bc ∧ Fr W0 W (fun k => sv.ownBlock = some k ∨ av.ownBlock = some k ∨ k = gb) ∧ X 14 = X 72 := h
    show KM W base (X' 72) (sent ++ osent) ∧ (∀ k, (X' 72).ownBlock = some k → sv.ownBlock = some k ∨ W0.heap.size ≤ k) ∧ KU W base (X' 76) (asked ++ oasked) ∧ (∀ k, (X' 76).ownBlock = some k → av.ownBlock = some k ∨ W0.heap.size ≤ k) ∧ AgBox W gb bc ∧ Fr W0 W (fun k => sv.ownBlock = some k ∨ av.ownBlock = some k ∨ k = gb) ∧ X' 14 = X' 72
    rw [← q4, ← q8, ← q10]
    exact h2
   | 5, h => 
    have h2 : KM W base (X 72) (sent ++ osent) ∧ (∀ k, (X 72).ownBlock = some k → sv.ownBlock = some k ∨ W0.heap.size ≤ k) ∧ KU W base (X 76) (asked ++ oasked) ∧ (∀ k, (X 76).ownBlock = some k → av.ownBlock = some k ∨ W0.heap.size ≤ k) ∧ AgBox W gb bc ∧ Fr W0 W (fun k => sv.ownBlock = some k ∨ av.ownBlock = some k ∨ k = gb) ∧ X 14 = X 72 ∧ X 15 = X 76 := h
    show KM W base (X' 72) (sent ++ osent) ∧ (∀ k, (X' 72).ownBlock = some k → sv.ownBlock = some k ∨ W0.heap.size ≤ k) ∧ KU W base (X' 76) (asked ++ oasked) ∧ (∀ k, (X' 76).ownBlock = some k → av.ownBlock = some k ∨ W0.heap.size ≤ k) ∧ AgBox W gb bc ∧ Fr W0 W (fun k => sv.ownBlock = some k ∨ av.ownBlock = some k ∨ k = gb) ∧ X' 14 = X' 72 ∧ X' 15 = X' 76
    rw [← q4, ← q8, ← q10, ← q11]
    exact h2
 conv => arg 2; whnf
 refine wp_region_T ds [none, none, none, none, some 0, none, none, none, some 1, some 2, some 3, some 4] 5 V T R (by kernel_rfl) (by kernel_rfl) (by rw [hsz]; decide) (by rw [← hds]; kernel_rfl) (by kernel_rfl) hV hTS ?_ ?_ ?_
 ·rw [t0]; exact below_drewK _
 ·refine ⟨⟨?_, ?_⟩, ⟨?_, ?_⟩, ⟨?_, ?_⟩, ⟨?_, ?_⟩, ⟨?_, ?_⟩, ⟨?_, ?_⟩, ⟨?_, ?_⟩, ⟨?_, ?_⟩, ⟨?_, ?_⟩, ⟨?_, ?_⟩, ⟨?_, ?_⟩, ⟨?_, ?_⟩, trivial⟩
  ·intro _ X W m hTm hw hd hu
   have hC := hTC _ _ _ hTm
   have h0 := hout (X := X) (k := 20) (by decide)
   rw [hA20] at h0
   exact wp_load_row 114 _ rfl bb h0 114 bc (0, 0) _ (agb_fr hC hbb hBB) Tryz.underlying114 rfl hbs ⟨_, rfl, by rw [e0], hTm, by rw [hR]; trivial⟩
  ·intro m h; have h' : (none : Option Nat) = some m := h; cases h'
  ·intro _ X W m hTm hw hd hu
   have hC := hTC _ _ _ hTm
   have o0 := hu 10 (by decide) (by kernel_rfl)
   rw [g10, hA14] at o0
   have h0 := (hin (X := X) (k := 14) (by decide) (by decide)).trans o0
   refine op_value (v := sv) (w' := W) ?_ ⟨_, rfl, by rw [e1], hTm, by rw [hR]; trivial⟩
   generalize (puts A X ds).eval = ρ at h0 ⊢
   go_simp
  ·intro m h; have h' : (none : Option Nat) = some m := h; cases h'
  ·intro _ X W m hTm hw hd hu
   have hC := hTC _ _ _ hTm
   have h0 := hout (X := X) (k := 19) (by decide)
   rw [hA19] at h0
   refine op_value (v := .pointer (some ⟨ob, 2, none⟩)) (w' := W) ?_ ⟨_, rfl, by rw [e2], hTm, by rw [hR]; trivial⟩
   generalize (puts A X ds).eval = ρ at h0 ⊢
   go_simp
  ·intro m h; have h' : (none : Option Nat) = some m := h; cases h'
  ·intro _ X W m hTm hw hd hu
   have hC := hTC _ _ _ hTm
   have d0 := hd 2 (by kernel_rfl)
   rw [e2, g2] at d0
   have h0 := (hin (X := X) (k := 70) (by decide) (by decide)).trans d0
   have c0 := fr_cell hC hob hO2
   refine op_value (v := .slice so on sc) (w' := W) ?_ ⟨_, rfl, by rw [e3], hTm, by rw [hR]; trivial⟩
   generalize (puts A X ds).eval = ρ at h0 ⊢
   go_simp
  ·intro m h; have h' : (none : Option Nat) = some m := h; cases h'
  ·intro h; have h' : (some 0 : Option Nat) = none := h; cases h'
  ·intro m hm0 X W hTm hd hu
   have hm1 : some 0 = some m := hm0
   cases hm1
   have hC := hTC _ _ _ hTm
   have d0 := hd 1 (by kernel_rfl)
   rw [e1, g1] at d0
   have h0 := (hin (X := X) (k := 69) (by decide) (by decide)).trans d0
   have d1 := hd 3 (by kernel_rfl)
   rw [e3, g3] at d1
   have h1 := (hin (X := X) (k := 71) (by decide) (by decide)).trans d1
   rw [t0] at hTm
   obtain ⟨i0, hi, hz0, hz1, hz2⟩ := info_parts infoKM
   refine op_appendR 116 201 rfl i0 _ 4 32 Tryz.underlying116 hi hz0 hz1 hz2 rfl (by decide) base sv sent.length (sent.flatMap msgCells) h0 (k_new hKM hTm) h1 (k_new hOM hTm) (by rw [km_len, hon]) (msgsOne _) (by unfold maxLen; omega) (by omega) (Nat.le_trans hbase hTm.size) ?_
   intro v' W' hown hgr hat
   refine ⟨v', rfl, by rw [e4]; trivial, ?_, by rw [hR]; trivial⟩
   rw [t1, g4, upd_at]
   refine ⟨km_app (by rw [← hon]; exact hown), fun k hk => ?_, (Fr.ofBelow hTm _).trans (Fr.grown hgr (S := fun k => sv.ownBlock = some k) (fun k hk => hk)) (fun _ _ h => h)⟩
   rcases hat with e | e
   ·rw [e] at hk; exact .inl hk
   ·rw [e] at hk; cases hk; exact .inr hTm.size
  ·intro _ X W m hTm hw hd hu
   have hC := hTC _ _ _ hTm
   have o0 := hu 11 (by decide) (by kernel_rfl)
   rw [g11, hA15] at o0
   have h0 := (hin (X := X) (k := 15) (by decide) (by decide)).trans o0
   refine op_value (v := av) (w' := W) ?_ ⟨_, rfl, by rw [e5], hTm, by rw [hR]; trivial⟩
   generalize (puts A X ds).eval = ρ at h0 ⊢
   go_simp
  ·intro m h; have h' : (none : Option Nat) = some m := h; cases h'
  ·intro _ X W m hTm hw hd hu
   have hC := hTC _ _ _ hTm
   have h0 := hout (X := X) (k := 19) (by decide)
   rw [hA19] at h0
   refine op_value (v := .pointer (some ⟨ob, 3, none⟩)) (w' := W) ?_ ⟨_, rfl, by rw [e6], hTm, by rw [hR]; trivial⟩
   generalize (puts A X ds).eval = ρ at h0 ⊢
   go_simp
  ·intro m h; have h' : (none : Option Nat) = some m := h; cases h'
  ·intro _ X W m hTm hw hd hu
   have hC := hTC _ _ _ hTm
   have d0 := hd 6 (by kernel_rfl)
   rw [e6, g6] at d0
   have h0 := (hin (X := X) (k := 74) (by decide) (by decide)).trans d0
   have c0 := fr_cell hC hob hO3
   refine op_value (v := .slice ao an ac) (w' := W) ?_ ⟨_, rfl, by rw [e7], hTm, by rw [hR]; trivial⟩
   generalize (puts A X ds).eval = ρ at h0 ⊢
   go_simp
  ·intro m h; have h' : (none : Option Nat) = some m := h; cases h'
  ·intro h; have h' : (some 1 : Option Nat) = none := h; cases h'
  ·intro m hm0 X W hTm hd hu
   have hm1 : some 1 = some m := hm0
   cases hm1
   have hC := hTC _ _ _ hTm
   have d0 := hd 5 (by kernel_rfl)
   rw [e5, g5] at d0
   have h0 := (hin (X := X) (k := 73) (by decide) (by decide)).trans d0
   have d1 := hd 7 (by kernel_rfl)
   rw [e7, g7] at d1
   have h1 := (hin (X := X) (k := 75) (by decide) (by decide)).trans d1
   rw [t1] at hTm
   obtain ⟨hk1, hl1, hf1⟩ := hTm
   obtain ⟨i0, hi, hz0, hz1, hz2⟩ := info_parts infoKU
   refine op_appendR 117 195 rfl i0 _ 4 32 Tryz.underlying117 hi hz0 hz1 hz2 rfl (by decide) base av asked.length (asked.flatMap muCells) h0 (k_keep hKU hf1 (fun k hk e => hne k e hk)) h1 (k_fr hOU hf1 (fun k hk e => by have := hlo k (.inl e); omega)) (by rw [ku_len, han]) (musOneK _) (by unfold maxLen; omega) (by omega) (Nat.le_trans hbase hf1.size) ?_
   intro v' W' hown hgr hat
   have hfr := Fr.grown hgr (S := fun k => av.ownBlock = some k) (fun k hk => hk)
   refine ⟨v', rfl, by rw [e8]; trivial, ?_, by rw [hR]; trivial⟩
   rw [t2, g8, upd_at, upd_ne _ _ (by decide)]
   refine ⟨k_keep hk1 hfr (fun k hk e => ?_), hl1, ku_app (by rw [← han]; exact hown), fun k hk => ?_, (hf1.mono (fun _ _ h => .inl h)).trans hfr (fun _ _ h => .inr h)⟩
   ·rcases hl1 k hk with h | h
    ·exact hne k h e
    ·have := (World.ownsRow.lt hKU k e).2; omega
   ·rcases hat with e | e
    ·rw [e] at hk; exact .inl hk
    ·rw [e] at hk; cases hk; exact .inr hf1.size
  ·intro h; have h' : (some 2 : Option Nat) = none := h; cases h'
  ·intro m hm0 X W hTm hd hu
   have hm1 : some 2 = some m := hm0
   cases hm1
   have hC := hTC _ _ _ hTm
   have h0 := hout (X := X) (k := 16) (by decide)
   rw [hA16] at h0
   have d1 := hd 0 (by kernel_rfl)
   rw [e0, g0] at d1
   have h1 := (hin (X := X) (k := 68) (by decide) (by decide)).trans d1
   rw [t2] at hTm
   obtain ⟨hk1, hl1, hk2, hl2, hf2⟩ := hTm
   have hgl := (Array.getElem?_eq_some_iff.1 hGB).1
   have hGW : AgBox W gb gc := (hf2.block gb hgl (fun e => by rcases e with e | e; exact hgs e; exact hga e)).trans hGB
   refine wp_store_row 114 _ _ rfl gb bc h0 h1 114 gc hGW hbs hgc hb1 ?_
   have hfr := fr_setRow W gb bc
   refine ⟨_, rfl, by rw [e9]; trivial, ?_, by rw [hR]; trivial⟩
   rw [t3, g9, upd_ne _ _ (by decide), upd_ne _ _ (by decide)]
   refine ⟨k_keep hk1 hfr (fun k hk e => ?_), hl1, k_keep hk2 hfr (fun k hk e => ?_), hl2, setRow_heap _ _ _ _ _ _ hGW, (hf2.mono (fun _ _ h => by rcases h with h | h; exact .inl h; exact .inr (.inl h))).trans hfr (fun _ _ h => .inr (.inr h))⟩
   ·rcases hl1 k hk with h | h
    ·exact hgs (e ▸ h)
    ·omega
   ·rcases hl2 k hk with h | h
    ·exact hga (e ▸ h)
    ·omega
  ·intro h; have h' : (some 3 : Option Nat) = none := h; cases h'
  ·intro m hm0 X W hTm hd hu
   have hm1 : some 3 = some m := hm0
   cases hm1
   have hC := hTC _ _ _ hTm
   have h0 := hin (X := X) (k := 72) (by decide) (by decide)
   rw [t3] at hTm
   refine op_value (v := X 72) (w' := W) ?_ ⟨_, rfl, by rw [e10]; trivial, ?_, by rw [hR]; trivial⟩
   ·generalize (puts A X ds).eval = ρ at h0 ⊢
    go_simp
   ·rw [t4, g10, upd_at, upd_ne _ _ (by decide), upd_ne _ _ (by decide)]
    obtain ⟨x1, x2, x3, x4, x5, x6⟩ := hTm
    exact ⟨x1, x2, x3, x4, x5, x6, rfl⟩
  ·intro h; have h' : (some 4 : Option Nat) = none := h; cases h'
  ·intro m hm0 X W hTm hd hu
   have hm1 : some 4 = some m := hm0
   cases hm1
   have hC := hTC _ _ _ hTm
   have h0 := hin (X := X) (k := 76) (by decide) (by decide)
   rw [t4] at hTm
   refine op_value (v := X 76) (w' := W) ?_ ⟨_, rfl, by rw [e11]; trivial, ?_, by rw [hR]; trivial⟩
   ·generalize (puts A X ds).eval = ρ at h0 ⊢
    go_simp
   ·rw [t5, g11, upd_at, upd_ne _ _ (by decide), upd_ne _ _ (by decide), upd_ne _ _ (by decide)]
    obtain ⟨x1, x2, x3, x4, x5, x6, x7⟩ := hTm
    exact ⟨x1, x2, x3, x4, x5, x6, x7, rfl⟩
 ·intro X W hall hTm
  have r0 := hall 0 (by decide)
  rw [e0, g0] at r0
  have r1 := hall 1 (by decide)
  rw [e1, g1] at r1
  have r2 := hall 2 (by decide)
  rw [e2, g2] at r2
  have r3 := hall 3 (by decide)
  rw [e3, g3] at r3
  have r5 := hall 5 (by decide)
  rw [e5, g5] at r5
  have r6 := hall 6 (by decide)
  rw [e6, g6] at r6
  have r7 := hall 7 (by decide)
  rw [e7, g7] at r7
  rw [t5] at hTm
  have := HK X W hTm
  rw [hds] at this
  exact this
set_option maxHeartbeats 2000000 in
theorem step_r15 {W0 : World} {A : Act} {sv av : Value} {gb rb : Nat} {bc rc : Array Value} {K : Act → World → Prop} {Q' : Exit → Act → World → Prop} (hsz : A.tmps.size = 83) (hA12 : A.eval (.tmp 12) = .pointer (some ⟨rb, 0, none⟩)) (hA14 : A.eval (.tmp 14) = sv) (hA15 : A.eval (.tmp 15) = av) (hA16 : A.eval (.tmp 16) = .pointer (some ⟨gb, 0, none⟩)) (hGB : AgBox W0 gb bc) (hRB : AgBox W0 rb rc) (hbb : ¬ gb = rb) (hbs : (Tryz.prog.info? 114).map (·.size) = some bc.size) (hrc : rc.size = bc.size) (hb1 : bc.all (·.oneCell') = true)
  (HK : ∀ X W, X 10 = sv ∧ X 11 = av ∧ X 13 = .int .i64 0 ∧ AgBox W rb bc ∧ Fr W0 W (fun k => k = rb) → K (puts A X [80, 81, 82, 10, 11, 1000005, 13]) W) :
  Code.wp Tryz.prog ((Tryz.f53.body.bind (regionJ 15)).getD .skip) (Exit.then K Q') A W0 := by
 obtain ⟨ds, hds⟩ : ∃ ds, [80, 81, 82, 10, 11, 1000005, 13] = ds := ⟨_, rfl⟩
 have hin : ∀ {X : Nat → Value} {k : Nat}, k ∈ [80, 81, 82, 10, 11, 1000005, 13] → k < 83 → (puts A X ds).eval (.tmp k) = X k := fun hk hl => by rw [← hds]; exact eval_in hk (by rw [hsz]; exact hl)
 have hout : ∀ {X : Nat → Value} {k : Nat}, k ∉ [80, 81, 82, 10, 11, 1000005, 13] → (puts A X ds).eval (.tmp k) = A.eval (.tmp k) := fun hk => by rw [← hds]; exact eval_out hk
 have g0 : ds.getD 0 0 = 80 := by rw [← hds]; rfl
 have g1 : ds.getD 1 0 = 81 := by rw [← hds]; rfl
 have g2 : ds.getD 2 0 = 82 := by rw [← hds]; rfl
 have g3 : ds.getD 3 0 = 10 := by rw [← hds]; rfl
 have g4 : ds.getD 4 0 = 11 := by rw [← hds]; rfl
 have g5 : ds.getD 5 0 = 1000005 := by rw [← hds]; rfl
 have g6 : ds.getD 6 0 = 13 := by rw [← hds]; rfl
 obtain ⟨R, hR⟩ : ∃ R : World → World → Prop, ∀ W W', R W W' = (True) := ⟨fun W W' => True, fun _ _ => rfl⟩
 obtain ⟨V, hV, e0, e1, e2, e3, e4, e5, e6⟩ : ∃ V : Nat → Value → World → Prop, (∀ i v W W', V i v W → R W W' → V i v W') ∧ (∀ v W, V 0 v W = (v = sv)) ∧ (∀ v W, V 1 v W = (v = av)) ∧ (∀ v W, V 2 v W = (v = .agg bc)) ∧ (∀ v W, V 3 v W = (v = sv)) ∧ (∀ v W, V 4 v W = (v = av)) ∧ (∀ v W, V 5 v W = (True)) ∧ (∀ v W, V 6 v W = (v = .int .i64 0)) := by
  refine ⟨fun i v W => match i with
   | 0 => v = sv
   | 1 => v = av
   | 2 => v = .agg bc
   | 3 => v = sv
   | 4 => v = av
   | 5 => True
   | 6 => v = .int .i64 0
   | _ => True, ?_, fun _ _ => rfl, fun _ _ => rfl, fun _ _ => rfl, fun _ _ => rfl, fun _ _ => rfl, fun _ _ => rfl, fun _ _ => rfl⟩
  intro i v W W' h hb
  rw [hR] at hb
  match i, h with
  | 0, h => exact h
  | 1, h => exact h
  | 2, h => exact h
  | 3, h => exact h
  | 4, h => exact h
  | 5, h => exact h
  | 6, h => exact h
  | _ + 7, _ => trivial
 obtain ⟨T, hTC, hTS, t0, t1⟩ : ∃ T : Nat → (Nat → Value) → World → Prop, (∀ m X W, T m X W → (Fr W0 W (fun k => k = rb))) ∧ (∀ m X X' W, (∀ i, i < 7 → ([none, none, none, none, none, some 0, none] : List (Option Nat)).getD i none ≠ none → X (ds.getD i 0) = X' (ds.getD i 0)) → T m X W → T m X' W) ∧ (∀ X W, T 0 X W = (Below W0.heap.size W0 W)) ∧ (∀ X W, T 1 X W = (AgBox W rb bc ∧ Fr W0 W (fun k => k = rb))) := by
  refine ⟨fun m X W => match m with
   | 0 => Below W0.heap.size W0 W
   | 1 => AgBox W rb bc ∧ Fr W0 W (fun k => k = rb)
   | _ => False, ?_, ?_, fun _ _ => rfl, fun _ _ => rfl⟩
  ·intro m X W h
   match m, h with
   | 0, h => exact Fr.ofBelow h _
   | 1, h => exact h.2
  ·intro m X X' W he h
   match m, h with
   | 0, h => exact h
   | 1, h => exact h
 conv => arg 2; whnf
 refine wp_region_T ds [none, none, none, none, none, some 0, none] 1 V T R (by kernel_rfl) (by kernel_rfl) (by rw [hsz]; decide) (by rw [← hds]; kernel_rfl) (by kernel_rfl) hV hTS ?_ ?_ ?_
 ·rw [t0]; exact below_drewK _
 ·refine ⟨⟨?_, ?_⟩, ⟨?_, ?_⟩, ⟨?_, ?_⟩, ⟨?_, ?_⟩, ⟨?_, ?_⟩, ⟨?_, ?_⟩, ⟨?_, ?_⟩, trivial⟩
  ·intro _ X W m hTm hw hd hu
   have hC := hTC _ _ _ hTm
   have h0 := hout (X := X) (k := 14) (by decide)
   rw [hA14] at h0
   refine op_value (v := sv) (w' := W) ?_ ⟨_, rfl, by rw [e0], hTm, by rw [hR]; trivial⟩
   generalize (puts A X ds).eval = ρ at h0 ⊢
   go_simp
  ·intro m h; have h' : (none : Option Nat) = some m := h; cases h'
  ·intro _ X W m hTm hw hd hu
   have hC := hTC _ _ _ hTm
   have h0 := hout (X := X) (k := 15) (by decide)
   rw [hA15] at h0
   refine op_value (v := av) (w' := W) ?_ ⟨_, rfl, by rw [e1], hTm, by rw [hR]; trivial⟩
   generalize (puts A X ds).eval = ρ at h0 ⊢
   go_simp
  ·intro m h; have h' : (none : Option Nat) = some m := h; cases h'
  ·intro _ X W m hTm hw hd hu
   have hC := hTC _ _ _ hTm
   have h0 := hout (X := X) (k := 16) (by decide)
   rw [hA16] at h0
   exact wp_load_row 114 _ rfl gb h0 114 bc (0, 0) _ (agb_fr hC hbb hGB) Tryz.underlying114 rfl hbs ⟨_, rfl, by rw [e2], hTm, by rw [hR]; trivial⟩
  ·intro m h; have h' : (none : Option Nat) = some m := h; cases h'
  ·intro _ X W m hTm hw hd hu
   have hC := hTC _ _ _ hTm
   have d0 := hd 0 (by kernel_rfl)
   rw [e0, g0] at d0
   have h0 := (hin (X := X) (k := 80) (by decide) (by decide)).trans d0
   refine op_value (v := sv) (w' := W) ?_ ⟨_, rfl, by rw [e3], hTm, by rw [hR]; trivial⟩
   generalize (puts A X ds).eval = ρ at h0 ⊢
   go_simp
  ·intro m h; have h' : (none : Option Nat) = some m := h; cases h'
  ·intro _ X W m hTm hw hd hu
   have hC := hTC _ _ _ hTm
   have d0 := hd 1 (by kernel_rfl)
   rw [e1, g1] at d0
   have h0 := (hin (X := X) (k := 81) (by decide) (by decide)).trans d0
   refine op_value (v := av) (w' := W) ?_ ⟨_, rfl, by rw [e4], hTm, by rw [hR]; trivial⟩
   generalize (puts A X ds).eval = ρ at h0 ⊢
   go_simp
  ·intro m h; have h' : (none : Option Nat) = some m := h; cases h'
  ·intro h; have h' : (some 0 : Option Nat) = none := h; cases h'
  ·intro m hm0 X W hTm hd hu
   have hm1 : some 0 = some m := hm0
   cases hm1
   have hC := hTC _ _ _ hTm
   have h0 := hout (X := X) (k := 12) (by decide)
   rw [hA12] at h0
   have d1 := hd 2 (by kernel_rfl)
   rw [e2, g2] at d1
   have h1 := (hin (X := X) (k := 82) (by decide) (by decide)).trans d1
   rw [t0] at hTm
   have hGW : AgBox W rb rc := agb_fr (Fr.ofBelow hTm (fun _ => False)) (fun h => h) hRB
   refine wp_store_row 114 _ _ rfl rb bc h0 h1 114 rc hGW hbs hrc hb1 ?_
   refine ⟨_, rfl, by rw [e5]; trivial, ?_, by rw [hR]; trivial⟩
   rw [t1]
   exact ⟨setRow_heap _ _ _ _ _ _ hGW, (Fr.ofBelow hTm _).trans (fr_setRow W rb bc) (fun _ _ h => h)⟩
  ·intro _ X W m hTm hw hd hu
   have hC := hTC _ _ _ hTm
   have h0 : (puts A X ds).eval (.const (.int .i64 0)) = .int .i64 0 := rfl
   refine op_value (v := .int .i64 0) (w' := W) ?_ ⟨_, rfl, by rw [e6], hTm, by rw [hR]; trivial⟩
   generalize (puts A X ds).eval = ρ at h0 ⊢
   go_simp
  ·intro m h; have h' : (none : Option Nat) = some m := h; cases h'
 ·intro X W hall hTm
  have r0 := hall 0 (by decide)
  rw [e0, g0] at r0
  have r1 := hall 1 (by decide)
  rw [e1, g1] at r1
  have r2 := hall 2 (by decide)
  rw [e2, g2] at r2
  have r3 := hall 3 (by decide)
  rw [e3, g3] at r3
  have r4 := hall 4 (by decide)
  rw [e4, g4] at r4
  have r6 := hall 6 (by decide)
  rw [e6, g6] at r6
  rw [t1] at hTm
  have := HK X W ⟨r3, r4, r6, hTm.1, hTm.2⟩
  rw [hds] at this
  exact this
end Go.Proofs.YtmgjlamglhpnaaaGreat
