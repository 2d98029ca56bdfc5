import Derived.Test.YtnhijofnhflklaaGreatKnSaidM
import Derived.Test.YtnhijofnhflklaaGreatKnToM
import Derived.Test.YtnhijofnhflklaaGreatKnAwakeM
/- What degree does. -/
namespace Go.Proofs.YtnhijofnhflklaaGreat
open Go.RowKit
/-- The aggregate that given makes, kind by kind. -/
def gvA (x : Int) (j : Nat) : Array Value := if j = 0 then #[.bool false, .bool false, .bool false, .bool false, .bool false, .int .i64 0, .int .i64 0, .int .i64 0, .int .i64 0, .int .i64 0] else if j = 1 then #[.bool true, .bool false, .bool false, .bool false, .bool false, .int .i64 x, .int .i64 0, .int .i64 0, .int .i64 0, .int .i64 0] else #[.bool true, .bool false, .bool true, .bool false, .bool false, .int .i64 x, .int .i64 0, .int .i64 x, .int .i64 0, .int .i64 0]
def AgBox (W : World) (b : Nat) (c : Array Value) : Prop := W.heap[b]? = some (.cells c 89 (0, 0))
theorem AgBox.new {W W' : World} {b : Nat} {c : Array Value} (h : AgBox W b c) (hb : Below W.heap.size W W') : AgBox W' b c := (hb.block _ (Array.getElem?_eq_some_iff.1 h).1).trans h
set_option maxRecDepth 100000 in
set_option maxHeartbeats 1000000 in
theorem kgiven02 (x : Int) (w : World) (b : Nat) (hx : I64 x) (h0 : w.cell? ⟨b, 0, none⟩ = some (.int .i64 0)) (h1 : w.cell? ⟨b, 1, none⟩ = some (.int .i64 2)) : Calls Tryz.prog 243 #[.int .i64 x, .slice (some ⟨b, 0, none⟩) 2 2] w fun r w' => r = .returned (.agg #[.bool true, .bool false, .bool true, .bool false, .bool false, .int .i64 x, .int .i64 0, .int .i64 x, .int .i64 0, .int .i64 0]) ∧ Below w.heap.size w w' := by
  have HA0 : Hid (∀ W, Calls Tryz.prog 141 #[.agg #[.bool false, .bool false, .bool false, .bool false, .bool false, .int .i64 0, .int .i64 0, .int .i64 0, .int .i64 0, .int .i64 0], .int .i64 0, .int .i64 x] W fun r w' => r = .returned (.tuple #[.agg #[.bool true, .bool false, .bool false, .bool false, .bool false, .int .i64 x, .int .i64 0, .int .i64 0, .int .i64 0, .int .i64 0], .int .i64 0]) ∧ Below W.heap.size W w') := fun W => (aAdd_any (fun _ => none) 0 x W (fun i y h => by cases h) hx).mono (fun r w' h => ⟨h.1.trans rfl, h.2⟩)
  have HA1 : Hid (∀ W, Calls Tryz.prog 141 #[.agg #[.bool true, .bool false, .bool false, .bool false, .bool false, .int .i64 x, .int .i64 0, .int .i64 0, .int .i64 0, .int .i64 0], .int .i64 2, .int .i64 x] W fun r w' => r = .returned (.tuple #[.agg #[.bool true, .bool false, .bool true, .bool false, .bool false, .int .i64 x, .int .i64 0, .int .i64 x, .int .i64 0, .int .i64 0], .int .i64 0]) ∧ Below W.heap.size W w') := fun W => (aAdd_any (updA (fun _ => none) 0 (some x)) 2 x W (fun i y h => by
    unfold updA at h
    split at h
    · cases h; exact hx
    · cases h) hx).mono (fun r w' h => ⟨h.1.trans rfl, h.2⟩)
  obtain ⟨W0, hW0⟩ : ∃ W0, (w.alloc (.cells #[.bool false, .bool false, .bool false, .bool false, .bool false, .int .i64 0, .int .i64 0, .int .i64 0, .int .i64 0, .int .i64 0] 89)).alloc (.cells #[.bool false, .bool false, .bool false, .bool false, .bool false, .int .i64 0, .int .i64 0, .int .i64 0, .int .i64 0, .int .i64 0] 89) = W0 := ⟨_, rfl⟩
  have hB0 : Below w.heap.size w W0 := by rw [← hW0]; exact (one_newK _ _).trans ((one_newK _ _).mono (by simp))
  have hc4 : AgBox W0 w.heap.size #[.bool false, .bool false, .bool false, .bool false, .bool false, .int .i64 0, .int .i64 0, .int .i64 0, .int .i64 0, .int .i64 0] := by rw [← hW0]; exact ((one_newK _ _).block _ (by simp)).trans (heap_alloc_new _ _)
  have hc5 : AgBox W0 (w.heap.size + 1) #[.bool false, .bool false, .bool false, .bool false, .bool false, .int .i64 0, .int .i64 0, .int .i64 0, .int .i64 0, .int .i64 0] := by
    rw [← hW0]
    have := heap_alloc_new (w.alloc (.cells #[.bool false, .bool false, .bool false, .bool false, .bool false, .int .i64 0, .int .i64 0, .int .i64 0, .int .i64 0, .int .i64 0] 89)) (.cells #[.bool false, .bool false, .bool false, .bool false, .bool false, .int .i64 0, .int .i64 0, .int .i64 0, .int .i64 0, .int .i64 0] 89)
    rw [World.size_alloc] at this
    exact this
  have HC4 : Hid _ := hc4
  have HC5 : Hid _ := hc5
  have HB0 : Hid _ := hB0
  have HS0 : Hid (W0.heap.size = w.heap.size + 2) := by show _ = _; rw [← hW0]; simp
  have hbw := lt_cell h0
  have HX0 : Hid (W0.cell? ⟨b, 0, none⟩ = some (.int .i64 0)) := (hB0.cell (p := ⟨b, 0, none⟩) hbw).trans h0
  have HX1 : Hid (W0.cell? ⟨b, 1, none⟩ = some (.int .i64 2)) := (hB0.cell (p := ⟨b, 1, none⟩) hbw).trans h1
  have HBw : Hid (b < w.heap.size) := hbw
  clear hc4 hc5 hB0 h0 h1 hbw
  go_enter Tryz.func243, Tryz.ntmps243
  go_wp2_with (refine wpList_store_row rfl 89 _ _ rfl (w.heap.size + 1) #[.bool false, .bool false, .bool false, .bool false, .bool false, .int .i64 0, .int .i64 0, .int .i64 0, .int .i64 0, .int .i64 0] rfl rfl 89 #[.bool false, .bool false, .bool false, .bool false, .bool false, .int .i64 0, .int .i64 0, .int .i64 0, .int .i64 0, .int .i64 0] HC5.out size_agm rfl (by simp [Value.oneCell']) ?_)
  generalize hW : World.setRow _ _ _ = W
  have HD5 : Hid (AgBox W (w.heap.size + 1) #[.bool false, .bool false, .bool false, .bool false, .bool false, .int .i64 0, .int .i64 0, .int .i64 0, .int .i64 0, .int .i64 0]) := by rw [← hW]; exact setRow_heap _ _ _ _ _ _ HC5.out
  have HF : Hid (Fr W0 W (fun k => k = w.heap.size + 1)) := by rw [← hW]; exact fr_setRow _ _ _
  clear hW
  go_loopw [7, 11] (fun _ i wr => ∃ j : Nat, j ≤ 2 ∧ i = .int .i64 j ∧ AgBox wr (w.heap.size + 1) (gvA x j) ∧ Fr W0 wr (fun k => k = w.heap.size + 1)) (fun _ i _ => 2 - (intOf i).toNat)
  case atStart => exact ⟨0, by decide, rfl, HD5.out, HF.out⟩
  case round =>
    obtain ⟨j, hj, rfl, hbx, hf⟩ := hrel
    have hne : b ≠ w.heap.size + 1 := by have := HBw.out; omega
    rcases (show j = 0 ∨ j = 1 ∨ j = 2 by omega) with rfl | rfl | rfl
    · have c0 := fr_cell hf hne HX0.out
      have HBx : Hid (AgBox wr (w.heap.size + 1) #[.bool false, .bool false, .bool false, .bool false, .bool false, .int .i64 0, .int .i64 0, .int .i64 0, .int .i64 0, .int .i64 0]) := hbx
      have HFr : Hid _ := hf
      clear hbx hf
      go_wp2_with (first
        | (refine wpList_load_row rfl 89 _ rfl (w.heap.size + 1) rfl 89 #[.bool false, .bool false, .bool false, .bool false, .bool false, .int .i64 0, .int .i64 0, .int .i64 0, .int .i64 0, .int .i64 0] (0, 0) _ HBx.out Tryz.underlying89 rfl size_agm ?_)
        | (go_at_call 141; refine (HA0.out _).mono ?_; rintro r w1 ⟨rfl, hb1⟩; have HBy : Hid _ := AgBox.new HBx.out hb1; have HFy : Hid _ := HFr.out.trans (Fr.ofBelow hb1 (fun _ => False)) (fun _ _ h => h.elim); clear hb1)
        | (refine wpList_store_row rfl 89 _ _ rfl (w.heap.size + 1) #[.bool true, .bool false, .bool false, .bool false, .bool false, .int .i64 x, .int .i64 0, .int .i64 0, .int .i64 0, .int .i64 0] rfl rfl 89 #[.bool false, .bool false, .bool false, .bool false, .bool false, .int .i64 0, .int .i64 0, .int .i64 0, .int .i64 0, .int .i64 0] HBy.out size_agm rfl (by simp [Value.oneCell']) ?_))
      go_roundw
      case rel => exact ⟨1, by decide, by go_num, setRow_heap _ _ _ _ _ _ HBy.out, HFy.out.trans (fr_setRow _ _ _) (fun _ _ h => h)⟩
      case measure => simp [intOf]
    · have c1 := fr_cell hf hne HX1.out
      have HBx : Hid (AgBox wr (w.heap.size + 1) #[.bool true, .bool false, .bool false, .bool false, .bool false, .int .i64 x, .int .i64 0, .int .i64 0, .int .i64 0, .int .i64 0]) := hbx
      have HFr : Hid _ := hf
      clear hbx hf
      go_wp2_with (first
        | (refine wpList_load_row rfl 89 _ rfl (w.heap.size + 1) rfl 89 #[.bool true, .bool false, .bool false, .bool false, .bool false, .int .i64 x, .int .i64 0, .int .i64 0, .int .i64 0, .int .i64 0] (0, 0) _ HBx.out Tryz.underlying89 rfl size_agm ?_)
        | (go_at_call 141; refine (HA1.out _).mono ?_; rintro r w1 ⟨rfl, hb1⟩; have HBy : Hid _ := AgBox.new HBx.out hb1; have HFy : Hid _ := HFr.out.trans (Fr.ofBelow hb1 (fun _ => False)) (fun _ _ h => h.elim); clear hb1)
        | (refine wpList_store_row rfl 89 _ _ rfl (w.heap.size + 1) #[.bool true, .bool false, .bool true, .bool false, .bool false, .int .i64 x, .int .i64 0, .int .i64 x, .int .i64 0, .int .i64 0] rfl rfl 89 #[.bool true, .bool false, .bool false, .bool false, .bool false, .int .i64 x, .int .i64 0, .int .i64 0, .int .i64 0, .int .i64 0] HBy.out size_agm rfl (by simp [Value.oneCell']) ?_))
      go_roundw
      case rel => exact ⟨2, by decide, by go_num, setRow_heap _ _ _ _ _ _ HBy.out, HFy.out.trans (fr_setRow _ _ _) (fun _ _ h => h)⟩
      case measure => simp [intOf]
    · have HBx : Hid (AgBox wr (w.heap.size + 1) #[.bool true, .bool false, .bool true, .bool false, .bool false, .int .i64 x, .int .i64 0, .int .i64 x, .int .i64 0, .int .i64 0]) := hbx
      have HB4 : Hid (AgBox wr w.heap.size #[.bool false, .bool false, .bool false, .bool false, .bool false, .int .i64 0, .int .i64 0, .int .i64 0, .int .i64 0, .int .i64 0]) := (hf.block _ (by have := HS0.out; omega) (by omega)).trans HC4.out
      have HFr : Hid (Below w.heap.size w wr) := HB0.out.trans (hf.below HB0.out.size (fun k hk => by omega))
      clear hbx hf
      go_wp2_with (first
        | (refine wpList_load_row rfl 89 _ rfl (w.heap.size + 1) rfl 89 #[.bool true, .bool false, .bool true, .bool false, .bool false, .int .i64 x, .int .i64 0, .int .i64 x, .int .i64 0, .int .i64 0] (0, 0) _ HBx.out Tryz.underlying89 rfl size_agm ?_)
        | (refine wpList_store_row rfl 89 _ _ rfl w.heap.size #[.bool true, .bool false, .bool true, .bool false, .bool false, .int .i64 x, .int .i64 0, .int .i64 x, .int .i64 0, .int .i64 0] rfl rfl 89 #[.bool false, .bool false, .bool false, .bool false, .bool false, .int .i64 0, .int .i64 0, .int .i64 0, .int .i64 0, .int .i64 0] HB4.out size_agm rfl (by simp [Value.oneCell']) ?_))
      refine bodyPost_ret (v := .agg #[.bool true, .bool false, .bool true, .bool false, .bool false, .int .i64 x, .int .i64 0, .int .i64 x, .int .i64 0, .int .i64 0]) (results_cell_row Tryz.results243 _ _ w.heap.size 89 _ (0, 0) _ rfl (setRow_heap _ _ _ _ _ _ HB4.out) Tryz.underlying89 rfl size_agm) rfl ?_
      exact ⟨rfl, ag_setRow HFr.out (Nat.le_refl _) _⟩
theorem two_ints (w : World) (a b : Value) (t : TypeId) : (w.alloc (.cells #[a, b] t)).cell? ⟨w.heap.size, 0, none⟩ = some a ∧ (w.alloc (.cells #[a, b] t)).cell? ⟨w.heap.size, 1, none⟩ = some b := by
  have hh := heap_alloc_new w (.cells #[a, b] t)
  generalize w.alloc (.cells #[a, b] t) = W at hh
  constructor <;> simp [World.cell?, hh]
set_option maxRecDepth 100000 in
set_option maxHeartbeats 1000000 in
theorem degrees_0 {w : World} {P : Nat → Prop} {st id va ma : Int} {eo mo po : Option Addr} {en ec mn mc pn pc : Nat} {ha ag0 ag1 ag2 ag3 ag4 ag5 ag6 ag7 ag8 ag9 : Value} (E : List Ed) (hst : st = 0) (he : en = E.length) (hE : EdAt w P eo E) (hl : E.length ≤ 1048576) :
    Calls Tryz.prog 218 #[(.agg #[.int .i64 st, .int .i64 id, .int .i64 va, .slice eo en ec, ha, .slice mo mn mc, ag0, ag1, ag2, ag3, ag4, ag5, ag6, ag7, ag8, ag9, .int .i64 ma, .slice po pn pc])] w fun r w' => ∃ ao1 c1, r = .returned (.agg #[.int .i64 E.length, .bool true, .slice ao1 E.length c1, .slice none 0 0, .bool true, .bool false, .bool true, .bool false, .bool false, .int .i64 E.length, .int .i64 0, .int .i64 E.length, .int .i64 0, .int .i64 0, .int .i64 0]) ∧ KM w' w.heap.size (.slice ao1 E.length c1) (toL id 1 E) ∧ Below w.heap.size w w' := by
  subst hst
  subst he
  obtain ⟨W0, hW0⟩ : ∃ W0, (w.alloc (.cells #[.int .i64 0, .int .i64 id, .int .i64 va, .slice eo E.length ec, ha, .slice mo mn mc, ag0, ag1, ag2, ag3, ag4, ag5, ag6, ag7, ag8, ag9, .int .i64 ma, .slice po pn pc] 177)).alloc (.cells #[.int .i64 0, .bool false, .slice none 0 0, .slice none 0 0, .bool false, .bool false, .bool false, .bool false, .bool false, .int .i64 0, .int .i64 0, .int .i64 0, .int .i64 0, .int .i64 0, .int .i64 0] 174) = W0 := ⟨_, rfl⟩
  obtain ⟨hIn, hOut, hB0, hs0⟩ := two_boxes w _ hW0
  obtain ⟨c0, _, _, c3, _⟩ := hIn.cells
  have HIn : Hid _ := hIn
  have HOut : Hid _ := hOut
  have HE : Hid (EdAt W0 P eo E) := hE.kept (Fr.ofBelow hB0 (fun _ => False)) (fun k hk hp => ⟨fun h => h, hp⟩)
  have HB0 : Hid _ := hB0
  have HS0 : Hid _ := hs0
  clear hIn hOut hE hB0 hs0
  go_enter Tryz.func218, Tryz.ntmps218
  go_wp2_with (first
    | (refine wpList_load_row rfl 177 _ rfl w.heap.size rfl 177 #[.int .i64 0, .int .i64 id, .int .i64 va, .slice eo E.length ec, ha, .slice mo mn mc, ag0, ag1, ag2, ag3, ag4, ag5, ag6, ag7, ag8, ag9, .int .i64 ma, .slice po pn pc] (0, 0) _ HIn.out Tryz.underlying177 rfl size_in ?_)
    | (go_at_call 211; refine (to_any 1 E rfl HE.out hl).mono ?_; rintro r w1 ⟨tv, rfl, hK, hb1⟩; obtain ⟨ao1, c1, rfl⟩ := k_shape hK; rw [toL_len] at hK ⊢; have HK : Hid (KM w1 W0.heap.size (.slice ao1 E.length c1) (toL id 1 E)) := hK; have HO1 : Hid _ := OutBox.new HOut.out hb1; have HB1 : Hid _ := hb1; clear hK hb1)
    | (go_at_call 243; refine (kgiven02 E.length _ w1.heap.size ⟨by omega, by omega⟩ (two_ints _ _ _ _).1 (two_ints _ _ _ _).2).mono ?_; rintro r w2 ⟨rfl, hb2⟩; have hb3 := (one_newK w1 (.cells #[.int .i64 0, .int .i64 2] 3)).trans (hb2.mono (by simp)); have HK2 : Hid (KM w2 W0.heap.size (.slice ao1 E.length c1) (toL id 1 E)) := k_new HK.out hb3; have HO2 : Hid _ := OutBox.new HO1.out hb3; have HB2 : Hid _ := HB1.out.trans (hb3.mono HB1.out.size); clear hb2 hb3)
    | (refine wpList_store_row rfl 174 _ _ rfl (w.heap.size + 1) #[.int .i64 E.length, .bool true, .slice ao1 E.length c1, .slice none 0 0, .bool true, .bool false, .bool true, .bool false, .bool false, .int .i64 E.length, .int .i64 0, .int .i64 E.length, .int .i64 0, .int .i64 0, .int .i64 0] rfl rfl 174 #[.int .i64 0, .bool false, .slice none 0 0, .slice none 0 0, .bool false, .bool false, .bool false, .bool false, .bool false, .int .i64 0, .int .i64 0, .int .i64 0, .int .i64 0, .int .i64 0, .int .i64 0] HO2.out size_out rfl (by simp [Value.oneCell']) ?_))
  refine bodyPost_ret (v := .agg #[.int .i64 E.length, .bool true, .slice ao1 E.length c1, .slice none 0 0, .bool true, .bool false, .bool true, .bool false, .bool false, .int .i64 E.length, .int .i64 0, .int .i64 E.length, .int .i64 0, .int .i64 0, .int .i64 0]) (results_cell_row Tryz.results218 _ _ (w.heap.size + 1) 174 _ (0, 0) _ rfl (setRow_heap _ _ _ _ _ _ HO2.out) Tryz.underlying174 rfl size_out) rfl ?_
  refine ⟨_, _, rfl, ?_, k_setRow (HB0.out.trans (HB2.out.mono HB0.out.size)) (by omega) _⟩
  exact k_low (k_fr HK2.out (fr_setRow _ _ _) (fun k hk => by have := HS0.out; omega)) HB0.out.size
set_option maxRecDepth 100000 in
set_option maxHeartbeats 1000000 in
/-- Later, where there is room. -/
theorem degrees_1 {w : World} {P : Nat → Prop} {st id va ma : Int} {eo mo po : Option Addr} {en ec mn mc pn pc : Nat} {ha ag0 ag1 ag2 ag3 ag4 ag5 ag6 ag7 ag8 ag9 : Value} (L : List Msg) (hst : ¬ st = 0) (hn : mn = L.length) (hL : MsAt w P mo L) (hok : ∀ m ∈ L, m.ok) (hl : L.length ≤ 1048576) (hva : I64 va) {s v : Int} (hs : sumF 0 (sayL L) = (s, 0)) (hsv : I64 s) (hv1 : hv (va + s) = v) (hv0 : he (va + s) = 0) :
    Calls Tryz.prog 218 #[(.agg #[.int .i64 st, .int .i64 id, .int .i64 va, .slice eo en ec, ha, .slice mo mn mc, ag0, ag1, ag2, ag3, ag4, ag5, ag6, ag7, ag8, ag9, .int .i64 ma, .slice po pn pc])] w fun r w' => r = .returned (.agg #[.int .i64 v, .bool true, .slice none 0 0, .slice none 0 0, .bool false, .bool false, .bool false, .bool false, .bool false, .int .i64 0, .int .i64 0, .int .i64 0, .int .i64 0, .int .i64 0, .int .i64 0]) ∧ Below w.heap.size w w' := by
  obtain ⟨W0, hW0⟩ : ∃ W0, (w.alloc (.cells #[.int .i64 st, .int .i64 id, .int .i64 va, .slice eo en ec, ha, .slice mo mn mc, ag0, ag1, ag2, ag3, ag4, ag5, ag6, ag7, ag8, ag9, .int .i64 ma, .slice po pn pc] 177)).alloc (.cells #[.int .i64 0, .bool false, .slice none 0 0, .slice none 0 0, .bool false, .bool false, .bool false, .bool false, .bool false, .int .i64 0, .int .i64 0, .int .i64 0, .int .i64 0, .int .i64 0, .int .i64 0] 174) = W0 := ⟨_, rfl⟩
  obtain ⟨hIn, hOut, hB0, hs0⟩ := two_boxes w _ hW0
  obtain ⟨c0, _⟩ := hIn.cells
  have HIn : Hid _ := hIn
  have HOut : Hid _ := hOut
  have HL : Hid (MsAt W0 P mo L) := hL.new hB0
  have HB0 : Hid _ := hB0
  have HN : Hid _ := hn
  have HOk : Hid (∀ z ∈ sayL L, I64 z) := fun z hz => by
    obtain ⟨m, hm, rfl⟩ := List.mem_map.1 hz
    exact (hok m hm).v
  have HVa : Hid (I64 va) := hva
  have HSs : Hid _ := hs
  have HSv : Hid (I64 s) := hsv
  have HV1 : Hid _ := hv1
  have HV0 : Hid _ := hv0
  have hsb : (st == 0) = false := by simpa using hst
  clear hIn hOut hL hB0 hs0 hn hok hst hva hs hsv hv1 hv0
  go_enter Tryz.func218, Tryz.ntmps218
  go_upto_region 7 with (first
    | (refine wpList_load_row rfl 177 _ rfl w.heap.size rfl 177 #[.int .i64 st, .int .i64 id, .int .i64 va, .slice eo en ec, ha, .slice mo mn mc, ag0, ag1, ag2, ag3, ag4, ag5, ag6, ag7, ag8, ag9, .int .i64 ma, .slice po pn pc] (0, 0) _ HIn.out Tryz.underlying177 rfl size_in ?_)
    | (go_at_call 245; refine (said_any L HN.out HL.out hl).mono ?_; rintro r w1 ⟨ao1, c1, rfl, hK, hb1⟩; have HK : Hid (IsAt w1 ao1 (sayL L)) := KI.at_ hK; have HO1 : Hid _ := OutBox.new HOut.out hb1; have HI1 : Hid _ := InBox.new HIn.out hb1; have HB1 : Hid _ := hb1; clear hK hb1)
    | (go_at_call 244; refine (sum_is (sayL L) _ (sayL_len L).symm (by rw [sayL_len]; exact hl) HK.out HOk.out).mono ?_; rintro r w2 ⟨rfl, rfl⟩; rw [HSs.out]))
  obtain ⟨_, _, q2, _⟩ := InBox.cells HI1.out
  go_wp2_with (first
    | (go_at_call 198; refine (addR HVa.out HSv.out).mono ?_; rintro r w3 ⟨rfl, rfl⟩; rw [HV1.out, HV0.out])
    | (refine wpList_store_row rfl 174 _ _ rfl (w.heap.size + 1) #[.int .i64 v, .bool true, .slice none 0 0, .slice none 0 0, .bool false, .bool false, .bool false, .bool false, .bool false, .int .i64 0, .int .i64 0, .int .i64 0, .int .i64 0, .int .i64 0, .int .i64 0] rfl rfl 174 #[.int .i64 0, .bool false, .slice none 0 0, .slice none 0 0, .bool false, .bool false, .bool false, .bool false, .bool false, .int .i64 0, .int .i64 0, .int .i64 0, .int .i64 0, .int .i64 0, .int .i64 0] HO1.out size_out rfl (by simp [Value.oneCell']) ?_))
  refine bodyPost_ret (v := .agg #[.int .i64 v, .bool true, .slice none 0 0, .slice none 0 0, .bool false, .bool false, .bool false, .bool false, .bool false, .int .i64 0, .int .i64 0, .int .i64 0, .int .i64 0, .int .i64 0, .int .i64 0]) (results_cell_row Tryz.results218 _ _ (w.heap.size + 1) 174 _ (0, 0) _ rfl (setRow_heap _ _ _ _ _ _ HO1.out) Tryz.underlying174 rfl size_out) rfl ?_
  exact ⟨rfl, k_setRow (HB0.out.trans (HB1.out.mono HB0.out.size)) (by omega) _⟩
end Go.Proofs.YtnhijofnhflklaaGreat
