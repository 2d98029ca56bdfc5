/- Step of each of kern's programs is what that program's function does. -/
import Derived.Test.YtmgjlamglhpnaaaGreatKnSaidM
import Derived.Laws.Tables
import Derived.Laws.OwnMore
import Derived.Deep.Cut
import Derived.Deep.DeepCutAuto
import Derived.Test.YtmgjlamglhpnaaaGreatRnStep12M
import Derived.Test.YtmgjlamglhpnaaaGreatRnRunM
import Derived.Test.YtmgjlamglhpnaaaGreatJbMM
namespace Go.Proofs.YtmgjlamglhpnaaaGreat
set_option maxRecDepth 100000
open Go.RowKit
set_option maxHeartbeats 1000000 in
theorem kstep_deg {w : World} {cs : Array Value} (hcs : (Tryz.prog.info? 156).map (·.size) = some cs.size) {F : Array Value → World → Nat → Prop} {e : Int} (he : e = 0)
  (hC : ∀ W, Below w.heap.size w W → Calls Tryz.prog 167 #[.agg cs] W fun r w' => ∃ out : Array Value, r = .returned (.agg out) ∧ out.size = 15 ∧ out.all (·.oneCell') = true ∧ out[14]? = some (.int .i64 e) ∧ F out w' W.heap.size ∧ Below W.heap.size W w') (hF : ∀ out w' w'' b b', F out w' b → Fr w' w'' (fun k => k < b) → b' ≤ b → F out w'' b') :
  Calls Tryz.prog 133 #[.string ⟨#[100, 101, 103, 114, 101, 101]⟩, .agg cs] w fun r w' => ∃ out : Array Value, r = .returned (.agg out) ∧ out.size = 15 ∧ out.all (·.oneCell') = true ∧ F out w' w.heap.size ∧ Below w.heap.size w w' := by
 obtain ⟨W0, hW0⟩ : ∃ W0, ((w.alloc (.cells cs 156)).alloc (.cells #[.int .i64 0, .bool false, .slice none 0 0, .slice none 0 0, .bool false, .bool false, .bool false, .bool false, .bool false, .int .i64 0, .int .i64 0, .int .i64 0, .int .i64 0, .int .i64 0, .int .i64 0] 153)).alloc (.cells #[.int .i64 0, .bool false, .slice none 0 0, .slice none 0 0, .bool false, .bool false, .bool false, .bool false, .bool false, .int .i64 0, .int .i64 0, .int .i64 0, .int .i64 0, .int .i64 0, .int .i64 70] 153) = W0 := ⟨_, rfl⟩
 obtain ⟨hIn, hOut, hOwn, hB0, hs0⟩ := three_boxes w _ _ hW0
 have HIn : Hid _ := hIn
 have HOut : Hid _ := hOut
 have HOwn : Hid _ := hOwn
 have HB0 : Hid _ := hB0
 have HS0 : Hid _ := hs0
 have HC : Hid (Calls Tryz.prog 167 #[.agg cs] W0 fun r w' => ∃ out : Array Value, r = .returned (.agg out) ∧ out.size = 15 ∧ out.all (·.oneCell') = true ∧ out[14]? = some (.int .i64 e) ∧ F out w' W0.heap.size ∧ Below W0.heap.size W0 w') := hC W0 hB0
 have HF : Hid _ := hF
 have tk1 : Hid True := trivial
 clear hIn hOut hOwn hB0 hs0 hC hF
 go_enter Tryz.func133, Tryz.ntmps133
 go_upto_region 13 with (first
  | (refine wpList_load_row rfl 156 _ rfl w.heap.size rfl 156 cs (0, 0) _ HIn.out Tryz.underlying156 rfl hcs ?_)
  | (go_at_call 167; refine HC.out.mono ?_; rintro r w1 ⟨out, rfl, h15, h1c, h14, hf, hb1⟩; have H15 : Hid (out.size = 15) := h15; have H1c : Hid (out.all (·.oneCell') = true) := h1c; have H14 : Hid (out[14]? = some (.int .i64 e)) := h14; have Hf : Hid (F out w1 W0.heap.size) := hf; have HO1 : Hid _ := OutBox.new HOut.out hb1; have HW1 : Hid _ := OutBox.new HOwn.out hb1; have HB1 : Hid _ := hb1; clear h15 h1c h14 hf hb1)
  | (have _t := tk1; refine wpList_store_row rfl 153 _ _ rfl (w.heap.size + 2) out rfl rfl 153 #[.int .i64 0, .bool false, .slice none 0 0, .slice none 0 0, .bool false, .bool false, .bool false, .bool false, .bool false, .int .i64 0, .int .i64 0, .int .i64 0, .int .i64 0, .int .i64 0, .int .i64 70] HW1.out (by rw [H15.out]; exact size_out) (by rw [H15.out]; rfl) H1c.out ?_; clear tk1))
 generalize hW : World.setRow _ _ _ = W
 have hO4 : OutBox W (w.heap.size + 2) out := by rw [← hW]; exact setRow_heap _ _ _ _ _ _ HW1.out
 have HO5 : Hid (OutBox W (w.heap.size + 1) #[.int .i64 0, .bool false, .slice none 0 0, .slice none 0 0, .bool false, .bool false, .bool false, .bool false, .bool false, .int .i64 0, .int .i64 0, .int .i64 0, .int .i64 0, .int .i64 0, .int .i64 0]) := by rw [← hW]; exact (setRow_other _ _ _ _ (by omega)).trans HO1.out
 have HB4 : Hid (Below w.heap.size w W) := by rw [← hW]; exact k_setRow (HB0.out.trans (HB1.out.mono HB0.out.size)) (by omega) _
 have HFr : Hid (Fr w1 W (fun k => k < W0.heap.size)) := by rw [← hW]; exact (fr_setRow _ _ _).mono (fun k _ e => by have := HS0.out; omega)
 have q14 : W.cell? ⟨w.heap.size + 2, 14, none⟩ = some (.int .i64 e) := by
  unfold OutBox at hO4
  simp only [World.cell?, hO4]
  exact H14.out
 have HO4 : Hid _ := hO4
 clear hW hO4 HO1 HW1
 subst he
 go_wp2_with (first
  | (refine wpList_load_row rfl 153 _ rfl (w.heap.size + 2) rfl 153 out (0, 0) _ HO4.out Tryz.underlying153 rfl (by rw [H15.out]; exact size_out) ?_)
  | (refine wpList_store_row rfl 153 _ _ rfl (w.heap.size + 1) out rfl rfl 153 #[.int .i64 0, .bool false, .slice none 0 0, .slice none 0 0, .bool false, .bool false, .bool false, .bool false, .bool false, .int .i64 0, .int .i64 0, .int .i64 0, .int .i64 0, .int .i64 0, .int .i64 0] HO5.out (by rw [H15.out]; exact size_out) (by rw [H15.out]; rfl) H1c.out ?_))
 refine bodyPost_ret (v := .agg out) (results_cell_row Tryz.results133 _ _ (w.heap.size + 1) 153 _ (0, 0) _ rfl (setRow_heap _ _ _ _ _ _ HO5.out) Tryz.underlying153 rfl (by rw [H15.out]; exact size_out)) rfl ?_
 exact ⟨out, rfl, H15.out, H1c.out, HF.out _ _ _ _ _ Hf.out (HFr.out.trans ((fr_setRow _ _ _).mono (S := fun k => k = w.heap.size + 1) (T := fun k => k < W0.heap.size) (fun k _ e => by have := HS0.out; omega)) (fun _ _ h => h)) HB0.out.size, k_setRow HB4.out (by omega) _⟩
set_option maxHeartbeats 1000000 in
theorem mstep_deg {w : World} {cs : Array Value} (hcs : (Tryz.prog.info? 156).map (·.size) = some cs.size) {F : Array Value → World → Nat → Prop}
  (hC : ∀ W, Below w.heap.size w W → Calls Tryz.prog 133 #[.string ⟨#[100, 101, 103, 114, 101, 101]⟩, .agg cs] W fun r w' => ∃ out : Array Value, r = .returned (.agg out) ∧ out.size = 15 ∧ out.all (·.oneCell') = true ∧ F out w' W.heap.size ∧ Below W.heap.size W w') (hF : ∀ out w' w'' b b', F out w' b → Fr w' w'' (fun k => k < b) → b' ≤ b → F out w'' b') :
  Calls Tryz.prog 110 #[.string ⟨#[100, 101, 103, 114, 101, 101]⟩, .agg cs] w fun r w' => ∃ out : Array Value, r = .returned (.agg out) ∧ out.size = 15 ∧ out.all (·.oneCell') = true ∧ F out w' w.heap.size ∧ Below w.heap.size w w' := by
 obtain ⟨W0, hW0⟩ : ∃ W0, (w.alloc (.cells cs 156)).alloc (.cells #[.int .i64 0, .bool false, .slice none 0 0, .slice none 0 0, .bool false, .bool false, .bool false, .bool false, .bool false, .int .i64 0, .int .i64 0, .int .i64 0, .int .i64 0, .int .i64 0, .int .i64 0] 153) = W0 := ⟨_, rfl⟩
 obtain ⟨hIn, hOut, hB0, hs0⟩ := two_boxes w _ hW0
 have HIn : Hid _ := hIn
 have HOut : Hid _ := hOut
 have HB0 : Hid _ := hB0
 have HS0 : Hid _ := hs0
 have HC : Hid (Calls Tryz.prog 133 #[.string ⟨#[100, 101, 103, 114, 101, 101]⟩, .agg cs] W0 fun r w' => ∃ out : Array Value, r = .returned (.agg out) ∧ out.size = 15 ∧ out.all (·.oneCell') = true ∧ F out w' W0.heap.size ∧ Below W0.heap.size W0 w') := hC W0 hB0
 have HF : Hid _ := hF
 clear hIn hOut hB0 hs0 hC hF
 go_enter Tryz.func110, Tryz.ntmps110
 go_wp2_with (first
  | (refine wpList_load_row rfl 156 _ rfl w.heap.size rfl 156 cs (0, 0) _ HIn.out Tryz.underlying156 rfl hcs ?_)
  | (go_at_call 133; refine HC.out.mono ?_; rintro r w1 ⟨out, rfl, h15, h1c, hf, hb1⟩; have H15 : Hid (out.size = 15) := h15; have H1c : Hid (out.all (·.oneCell') = true) := h1c; have Hf : Hid (F out w1 W0.heap.size) := hf; have HO1 : Hid _ := OutBox.new HOut.out hb1; have HB1 : Hid _ := hb1; clear h15 h1c hf hb1)
  | (refine wpList_store_row rfl 153 _ _ rfl (w.heap.size + 1) out rfl rfl 153 #[.int .i64 0, .bool false, .slice none 0 0, .slice none 0 0, .bool false, .bool false, .bool false, .bool false, .bool false, .int .i64 0, .int .i64 0, .int .i64 0, .int .i64 0, .int .i64 0, .int .i64 0] HO1.out (by rw [H15.out]; exact size_out) (by rw [H15.out]; rfl) H1c.out ?_))
 refine bodyPost_ret (v := .agg out) (results_cell_row Tryz.results110 _ _ (w.heap.size + 1) 153 _ (0, 0) _ rfl (setRow_heap _ _ _ _ _ _ HO1.out) Tryz.underlying153 rfl (by rw [H15.out]; exact size_out)) rfl ?_
 exact ⟨out, rfl, H15.out, H1c.out, HF.out _ _ _ _ _ Hf.out ((fr_setRow _ _ _).mono (fun k _ e => by have := HS0.out; omega)) HB0.out.size, k_setRow (HB0.out.trans (HB1.out.mono HB0.out.size)) (by omega) _⟩
def degF : PStep := fun step v l _ _ => if step = 0 then some ⟨v.es.length, true, toL v.id 1 v.es, [], updA (updA (fun _ => none) 0 (some (v.es.length : Int))) 2 (some (v.es.length : Int))⟩ else some ⟨v.val + (sumF 0 (sayL l)).1, true, [], [], fun _ => none⟩
def OutF (o : POut) (out : Array Value) (w' : World) (b : Nat) : Prop := ∃ so sc ao ac, out = #[.int .i64 o.v, .bool o.halt, .slice so o.sent.length sc, .slice ao o.asked.length ac, .bool (oh o.agg 0), .bool (oh o.agg 1), .bool (oh o.agg 2), .bool (oh o.agg 3), .bool (oh o.agg 4), .int .i64 (ov o.agg 0), .int .i64 (ov o.agg 1), .int .i64 (ov o.agg 2), .int .i64 (ov o.agg 3), .int .i64 (ov o.agg 4), .int .i64 0] ∧ KM w' b (.slice so o.sent.length sc) o.sent ∧ KU w' b (.slice ao o.asked.length ac) o.asked
theorem OutF.low {o : POut} {out : Array Value} {w' w'' : World} {b b' : Nat} (h : OutF o out w' b) (f : Fr w' w'' (fun k => k < b)) (hb : b' ≤ b) : OutF o out w'' b' := by
 obtain ⟨so, sc, ao, ac, h1, h2, h3⟩ := h
 exact ⟨so, sc, ao, ac, h1, k_low (k_fr h2 f (fun k hk e => by omega)) hb, k_low (k_fr h3 f (fun k hk e => by omega)) hb⟩
theorem OutF.size {o : POut} {out : Array Value} {w' : World} {b : Nat} (h : OutF o out w' b) : out.size = 15 ∧ out.all (·.oneCell') = true ∧ out[14]? = some (.int .i64 0) := by
 obtain ⟨so, sc, ao, ac, rfl, _, _⟩ := h
 exact ⟨rfl, by simp [Value.oneCell'], rfl⟩
theorem deg_stepC {ps : List Int} {d mny : Int} {bef : Nat → Option Int} {v : Vx} {l : List Msg} {o : POut} (ho : degF d v l bef mny = some o)
  (hC : ∀ (W : World) (eo : Option Addr) (ec : Nat) (ha : Bool) (mo : Option Addr) (mc : Nat) (po : Option Addr) (pn pc : Nat), EdAt W (fun _ => True) eo v.es → MsAt W (fun _ => True) mo l → Calls Tryz.prog 167 #[.agg #[.int .i64 d, .int .i64 v.id, .int .i64 v.val, .slice eo v.es.length ec, .bool ha, .slice mo l.length mc, .bool (oh bef 0), .bool (oh bef 1), .bool (oh bef 2), .bool (oh bef 3), .bool (oh bef 4), .int .i64 (ov bef 0), .int .i64 (ov bef 1), .int .i64 (ov bef 2), .int .i64 (ov bef 3), .int .i64 (ov bef 4), .int .i64 mny, .slice po pn pc]] W fun r w' => ∃ out, r = .returned (.agg out) ∧ OutF o out w' W.heap.size ∧ Below W.heap.size W w') : StepC (.string ⟨#[100, 101, 103, 114, 101, 101]⟩) degF ps d bef mny v l := by
 intro W eo ec ha mo mc po pn pc _ hE hM _
 rw [ho]
 have h := mstep_deg (w := W) (cs := #[.int .i64 d, .int .i64 v.id, .int .i64 v.val, .slice eo v.es.length ec, .bool ha, .slice mo l.length mc, .bool (oh bef 0), .bool (oh bef 1), .bool (oh bef 2), .bool (oh bef 3), .bool (oh bef 4), .int .i64 (ov bef 0), .int .i64 (ov bef 1), .int .i64 (ov bef 2), .int .i64 (ov bef 3), .int .i64 (ov bef 4), .int .i64 mny, .slice po pn pc]) size_in (F := OutF o) (fun W1 hb1 => kstep_deg (w := W1) (cs := #[.int .i64 d, .int .i64 v.id, .int .i64 v.val, .slice eo v.es.length ec, .bool ha, .slice mo l.length mc, .bool (oh bef 0), .bool (oh bef 1), .bool (oh bef 2), .bool (oh bef 3), .bool (oh bef 4), .int .i64 (ov bef 0), .int .i64 (ov bef 1), .int .i64 (ov bef 2), .int .i64 (ov bef 3), .int .i64 (ov bef 4), .int .i64 mny, .slice po pn pc]) size_in (F := OutF o) rfl (fun W2 hb2 => ?_) (fun _ _ _ _ _ h f hb => h.low f hb)) (fun _ _ _ _ _ h f hb => h.low f hb)
 ·refine h.mono ?_
  rintro r w' ⟨out, rfl, _, _, ⟨so, sc, ao, ac, rfl, h1, h2⟩, hb⟩
  exact ⟨⟨so, sc, ao, ac, rfl, h1, h2⟩, hb⟩
 ·refine (hC W2 eo ec ha mo mc po pn pc ((hE.new hb1).new hb2) ((hM.new hb1).new hb2)).mono ?_
  rintro r w' ⟨out, rfl, hO, hb⟩
  obtain ⟨s1, s2, s3⟩ := hO.size
  exact ⟨out, rfl, s1, s2, s3, hO, hb⟩
theorem deg_0 {ps : List Int} {mny : Int} {bef : Nat → Option Int} {v : Vx} {l : List Msg} (hl : v.es.length ≤ 1048576) : StepC (.string ⟨#[100, 101, 103, 114, 101, 101]⟩) degF ps 0 bef mny v l := by
 refine deg_stepC (o := ⟨v.es.length, true, toL v.id 1 v.es, [], updA (updA (fun _ => none) 0 (some (v.es.length : Int))) 2 (some (v.es.length : Int))⟩) (by unfold degF; rw [if_pos rfl]) ?_
 intro W eo ec ha mo mc po pn pc hE hM
 refine (degrees_0 v.es rfl rfl hE hl).mono ?_
 rintro r w' ⟨ao1, c1, rfl, hK, hb⟩
 refine ⟨_, rfl, ⟨ao1, c1, none, 0, ?_, ?_, World.ownsRow_nil _ _ _ _⟩, hb⟩
 ·show _ = #[_, _, Value.slice ao1 (toL v.id 1 v.es).length c1, _, _, _, _, _, _, _, _, _, _, _, _]
  rw [toL_len]
  rfl
 ·show KM _ _ (.slice ao1 (toL v.id 1 v.es).length c1) _
  rw [toL_len]
  exact hK
theorem deg_1 {ps : List Int} {d mny : Int} {bef : Nat → Option Int} {v : Vx} {l : List Msg} (hd : ¬ d = 0) (hok : ∀ m ∈ l, m.ok) (hl : l.length ≤ 1048576) (hva : I64 v.val) {s : Int} (hs : sumF 0 (sayL l) = (s, 0)) (hsv : I64 s) (hv1 : hv (v.val + s) = v.val + s) (hv0 : he (v.val + s) = 0) : StepC (.string ⟨#[100, 101, 103, 114, 101, 101]⟩) degF ps d bef mny v l := by
 refine deg_stepC (o := ⟨v.val + s, true, [], [], fun _ => none⟩) (by unfold degF; rw [if_neg hd, hs]) ?_
 intro W eo ec ha mo mc po pn pc hE hM
 refine (degrees_1 l hd rfl hM hok hl hva hs hsv hv1 hv0).mono ?_
 rintro r w' ⟨rfl, hb⟩
 exact ⟨_, rfl, ⟨none, 0, none, 0, rfl, World.ownsRow_nil _ _ _ _, World.ownsRow_nil _ _ _ _⟩, hb⟩
theorem combiner_deg (W : World) : Calls Tryz.prog 108 #[.string ⟨#[100, 101, 103, 114, 101, 101]⟩] W fun r w' => r = .returned (.int .i64 1) ∧ w' = W := by
 go_enter Tryz.func108, Tryz.ntmps108
 go_wp2
 go_ret
 exact ⟨rfl, rfl⟩
theorem sortM_nil : sortM [] = [] := by simp [sortM]
theorem sortM_one (m : Msg) : sortM [m] = [m] := by simp [sortM]
theorem turn_e {f : PStep} {k step mny : Int} {bef : Nat → Option Int} {B : List Msg} {v : Vx} (h : toV B v.id = []) : turnP f k step bef mny B v = f step v [] bef mny := by
 unfold turnP
 rw [h, sortM_nil]
 rfl
theorem turn_s {f : PStep} {step mny : Int} {bef : Nat → Option Int} {B : List Msg} {v : Vx} {m : Msg} (h : toV B v.id = [m]) : turnP f 1 step bef mny B v = f step v [m] bef mny := by
 unfold turnP
 rw [h, sortM_one]
 rfl
theorem stepV_act {f : PStep} {k step mny : Int} {bef : Nat → Option Int} {s : St} {a : Acc} {i : Nat} {v : Vx} {o : POut} (hv : s.G[i]? = some v) (ha : act s v.id = true) (ht : turnP f k step bef mny s.B v = some o) (hm : mergeE a.gave o.agg = 0) :
  stepV f k step bef mny s a i = some ⟨⟨a.s.G.set i ⟨v.id, o.v, v.es⟩, fun y => if y = v.id then o.halt else a.s.H y, a.s.B⟩, mergeO a.gave o.agg, a.sent ++ o.sent, a.asked ++ o.asked⟩ := by
 unfold stepV
 rw [hv]
 show (if act s v.id = true then _ else _) = _
 rw [if_pos ha, ht]
 show (if mergeE a.gave o.agg = 0 then _ else _) = _
 rw [if_pos hm]
theorem stepV_not {f : PStep} {k step mny : Int} {bef : Nat → Option Int} {s : St} {a : Acc} {i : Nat} {v : Vx} (hv : s.G[i]? = some v) (ha : act s v.id = false) : stepV f k step bef mny s a i = some a := by
 unfold stepV
 rw [hv]
 show (if act s v.id = true then _ else _) = _
 rw [if_neg (by rw [ha]; decide)]
theorem runP_step {f : PStep} {k st se : Int} {n d : Nat} {s : St} {bef : Nat → Option Int} {a : Acc} (h1 : ¬ many s = 0) (h2 : ¬ (d : Int) = st) (h3 : stepsP f k d bef s.G.length s s.G.length = some a) (h4 : ¬ se < a.sent.length) :
  runP f k st se (n + 1) d s bef = runP f k st se n (d + 1) (closeP ⟨a.s.G, a.s.H, []⟩ a.sent a.asked) a.gave := by
 rw [runP, if_neg h1, if_neg h2, h3]
 show (if _ then _ else _) = _
 rw [if_neg h4]
theorem runP_done {f : PStep} {k st se : Int} {n d : Nat} {s : St} {bef : Nat → Option Int} (h1 : many s = 0) : runP f k st se (n + 1) d s bef = ⟨1, 0, d, valsOf s.G⟩ := by
 rw [runP, if_pos h1]
def awG (x y : Int) : List Vx := [⟨1, x, [⟨2, 0⟩]⟩, ⟨2, y, []⟩]
def awB : List Msg := [⟨1, 2, 0, 1⟩]
def awH : Int → Bool := fun y => if y = 2 then true else if y = 1 then true else false
def awO (n : Int) : Nat → Option Int := updA (updA (fun _ => none) 0 (some n)) 2 (some n)
def aw0 : Acc := ⟨⟨awG 1 0, awH, []⟩, mergeO (mergeO (fun _ => none) (awO 1)) (awO 0), awB, []⟩
theorem raw_st0 {mny : Int} {bef : Nat → Option Int} : stepsP degF 1 0 bef mny ⟨awG 0 0, fun _ => false, []⟩ 2 = some aw0 := by
 have e1 : stepsP degF 1 0 bef mny ⟨awG 0 0, fun _ => false, []⟩ 1 = some ⟨⟨awG 1 0, fun y => if y = 1 then true else false, []⟩, mergeO (fun _ => none) (awO 1), awB, []⟩ := by
  show stepV degF 1 0 bef mny ⟨awG 0 0, fun _ => false, []⟩ ⟨⟨awG 0 0, fun _ => false, []⟩, fun _ => none, [], []⟩ 0 = _
  rw [stepV_act (v := ⟨1, 0, [⟨2, 0⟩]⟩) (o := ⟨1, true, awB, [], awO 1⟩) rfl rfl (turn_e rfl) (by decide +kernel)]
  rfl
 show (stepsP degF 1 0 bef mny ⟨awG 0 0, fun _ => false, []⟩ 1).bind _ = _
 rw [e1]
 show stepV degF 1 0 bef mny ⟨awG 0 0, fun _ => false, []⟩ _ 1 = _
 rw [stepV_act (v := ⟨2, 0, []⟩) (o := ⟨0, true, [], [], awO 0⟩) rfl rfl (turn_e rfl) (by decide +kernel)]
 rfl
theorem raw_st1 {mny : Int} {bef : Nat → Option Int} {s : St} (h1 : s.G = awG 1 0) (h2 : s.B = awB) (h3 : s.H 1 = true) (h4 : s.H 2 = true) : stepsP degF 1 1 bef mny s 2 = some ⟨⟨awG 1 1, fun y => if y = 2 then true else s.H y, awB⟩, mergeO (fun _ => none) (fun _ => none), [], []⟩ := by
 obtain ⟨G, H, B⟩ := s
 cases h1
 cases h2
 replace h3 : H 1 = true := h3
 replace h4 : H 2 = true := h4
 have e1 : stepsP degF 1 1 bef mny ⟨awG 1 0, H, awB⟩ 1 = some ⟨⟨awG 1 0, H, awB⟩, fun _ => none, [], []⟩ := by
  show stepV degF 1 1 bef mny ⟨awG 1 0, H, awB⟩ _ 0 = _
  rw [stepV_not (v := ⟨1, 1, [⟨2, 0⟩]⟩) rfl (by unfold act; show (!H 1 || _) = false; rw [h3]; rfl)]
 show (stepsP degF 1 1 bef mny ⟨awG 1 0, H, awB⟩ 1).bind _ = _
 rw [e1]
 show stepV degF 1 1 bef mny ⟨awG 1 0, H, awB⟩ _ 1 = _
 rw [stepV_act (v := ⟨2, 0, []⟩) (o := ⟨1, true, [], [], fun _ => none⟩) rfl (by unfold act; show (!H 2 || _) = true; rw [h4]; rfl) (turn_s (m := ⟨1, 2, 0, 1⟩) rfl) (show mergeE (fun _ => none) (fun _ => none) = 0 by decide +kernel)]
 rfl
theorem thatC_nil : thatC [] = [] := by simp [thatC, sortU, dd]
theorem appG_nil (G : List Vx) : appG G [] = (G, 0) := by unfold appG; rw [thatC_nil]; rfl
theorem close_nil (s : St) (l : List Msg) : closeP s l [] = ⟨s.G, s.H, s.B ++ l.filter fun m => (ids s.G).contains m.t⟩ := by
 unfold closeP
 rw [appG_nil]
 have : forgetH s.H [] = s.H := by funext x; unfold forgetH; simp
 rw [this]
def AwI (d : Nat) (s : St) (_ : Nat → Option Int) : Prop := (d = 0 ∧ s = ⟨awG 0 0, fun _ => false, []⟩) ∨ (d = 1 ∧ s.G = awG 1 0 ∧ s.B = awB ∧ s.H 1 = true ∧ s.H 2 = true) ∨ (2 ≤ d ∧ s.G = awG 1 1 ∧ s.B = [] ∧ s.H 1 = true ∧ s.H 2 = true)
theorem AwI.gr {d : Nat} {s : St} {bef : Nat → Option Int} (h : AwI d s bef) : ∃ x y, I64 x ∧ I64 y ∧ s.G = awG x y := by
 rcases h with ⟨_, rfl⟩ | ⟨_, h, _⟩ | ⟨_, h, _⟩
 ·exact ⟨0, 0, by unfold I64; decide, by unfold I64; decide, rfl⟩
 ·exact ⟨1, 0, by unfold I64; decide, by unfold I64; decide, h⟩
 ·exact ⟨1, 1, by unfold I64; decide, by unfold I64; decide, h⟩
theorem raw_ok {x y : Int} (hx : I64 x) (hy : I64 y) : ∀ v ∈ awG x y, v.ok := by
 intro v hv
 simp only [awG, List.mem_cons, List.not_mem_nil, or_false] at hv
 rcases hv with rfl | rfl
 ·refine ⟨show I64 1 by unfold I64; decide, hx, fun e he => ?_, by simp⟩
  simp only [List.mem_cons, List.not_mem_nil, or_false] at he
  subst he
  exact ⟨by unfold I64; decide, by unfold I64; decide⟩
 ·exact ⟨show I64 2 by unfold I64; decide, hy, fun e he => (by cases he), by simp⟩
theorem raw_fine (x y : Int) : Fine (awG x y) := by
 refine ⟨?_, fun v hv => ?_⟩
 ·show List.Pairwise (· < ·) [(1 : Int), 2]
  simp
 ·simp only [awG, List.mem_cons, List.not_mem_nil, or_false] at hv
  rcases hv with rfl | rfl
  ·show List.Pairwise (· < ·) [(2 : Int)]
   simp
  ·show List.Pairwise (· < ·) ([] : List Int)
   simp
theorem raw_up (x y : Int) : Up 1048576 (awG x y) := by
 refine ⟨by simp [awG], fun v hv => ?_⟩
 simp only [awG, List.mem_cons, List.not_mem_nil, or_false] at hv
 rcases hv with rfl | rfl <;> simp
theorem awB_ok : ∀ m ∈ awB, m.ok := by
 intro m hm
 simp only [awB, List.mem_cons, List.not_mem_nil, or_false] at hm
 subst hm
 exact ⟨by unfold I64; decide, by unfold I64; decide, by unfold I64; decide, by unfold I64; decide⟩
theorem raw_deg {d : Nat} {s : St} {bef : Nat → Option Int} (h : AwI d s bef) {v : Vx} (hv : v ∈ s.G) (ha : act s v.id = true) : d = 0 ∧ v.es.length ≤ 1 ∨ d = 1 ∧ v = ⟨2, 0, []⟩ ∧ s.B = awB := by
 rcases h with ⟨h0, rfl⟩ | ⟨h0, h1, h2, h3, h4⟩ | ⟨h0, h1, h2, h3, h4⟩
 ·left
  refine ⟨h0, ?_⟩
  simp only [awG, List.mem_cons, List.not_mem_nil, or_false] at hv
  rcases hv with rfl | rfl <;> simp
 ·right
  refine ⟨h0, ?_, h2⟩
  rw [h1] at hv
  simp only [awG, List.mem_cons, List.not_mem_nil, or_false] at hv
  rcases hv with rfl | rfl
  ·exfalso
   unfold act at ha
   rw [h2, h3] at ha
   exact absurd ha (by decide)
  ·rfl
 ·exfalso
  rw [h1] at hv
  simp only [awG, List.mem_cons, List.not_mem_nil, or_false] at hv
  rcases hv with rfl | rfl
  ·unfold act at ha
   rw [h2, h3] at ha
   exact absurd ha (by decide)
  ·unfold act at ha
   rw [h2, h4] at ha
   exact absurd ha (by decide)
theorem okO_awO {n : Int} (h : 0 ≤ n ∧ n ≤ 1) : OkO (awO n) := by
 intro i y e
 unfold awO updA at e
 split at e
 ·cases e; unfold I6; omega
 ·split at e
  ·cases e; unfold I6; omega
  ·cases e
theorem okO_none : OkO (fun _ => none) := fun i y e => by cases e
theorem raw_runI : RunI (.string ⟨#[100, 101, 103, 114, 101, 101]⟩) degF 1 [] 9 AwI := by
 refine ⟨fun d s bef h => ?_, fun d s bef h => ?_, fun d s bef h => ?_, fun d s bef h => ?_, fun d s bef h => ?_, fun d s bef h v hv ha l hl => ?_, fun d s bef h a e hs => ?_⟩
 ·obtain ⟨x, y, hx, hy, e⟩ := h.gr; rw [e]; exact raw_ok hx hy
 ·obtain ⟨x, y, hx, hy, e⟩ := h.gr; rw [e]; exact raw_fine x y
 ·obtain ⟨x, y, hx, hy, e⟩ := h.gr; rw [e]; simp [awG]
 ·rcases h with ⟨_, rfl⟩ | ⟨_, _, h, _⟩ | ⟨_, _, h, _⟩
  ·exact fun m hm => (by cases hm)
  ·rw [h]; exact awB_ok
  ·rw [h]; exact fun m hm => (by cases hm)
 ·rcases h with ⟨_, rfl⟩ | ⟨_, _, h, _⟩ | ⟨_, _, h, _⟩
  ·simp
  ·rw [h]; simp [awB]
  ·rw [h]; simp
 ·rcases raw_deg h hv ha with ⟨rfl, h1⟩ | ⟨rfl, rfl, hB⟩
  ·refine ⟨deg_0 (by omega), fun o ho => ?_⟩
   have e := ho
   unfold degF at e
   rw [if_pos (show ((0 : Nat) : Int) = 0 from rfl)] at e
   cases e
   refine ⟨?_, by simp, ?_⟩
   ·show (toL v.id 1 v.es).length ≤ _
    rw [toL_len]; omega
   ·exact okO_awO ⟨by omega, by omega⟩
  ·have hl' : l = awB := by
    rw [hB] at hl
    have : toV awB (2 : Int) = [⟨1, 2, 0, 1⟩] := rfl
    rw [show (Vx.mk 2 0 []).id = 2 from rfl, this, sortM_one] at hl
    cases hl
    rfl
   subst hl'
   refine ⟨deg_1 (s := 1) (by decide) awB_ok (by simp [awB]) (by unfold I64; decide) (by decide +kernel) (by unfold I64; decide) (by decide +kernel) (by decide +kernel), fun o ho => ?_⟩
   have e := ho
   unfold degF at e
   rw [if_neg (by decide)] at e
   cases e
   exact ⟨by simp, by simp, okO_none⟩
 ·have hlen : s.G.length = 2 := by obtain ⟨x, y, hx, hy, e⟩ := h.gr; rw [e]; rfl
  rw [hlen] at e
  rcases h with ⟨rfl, rfl⟩ | ⟨rfl, h1, h2, h3, h4⟩ | ⟨h0, h1, h2, h3, h4⟩
  ·rw [show ((0 : Nat) : Int) = 0 from rfl, raw_st0] at e
   cases e
   refine ⟨raw_ok (by unfold I64; decide) (by unfold I64; decide), raw_fine _ _, raw_up _ _, awB_ok, fun m hm => (by cases hm), fun m hm => (by cases hm), by simp [aw0], .inr (.inl ⟨rfl, ?_, ?_, ?_, ?_⟩)⟩
   all_goals (show _ = _; unfold aw0; rw [close_nil]; try rfl)
  ·rw [show ((1 : Nat) : Int) = 1 from rfl, raw_st1 h1 h2 h3 h4] at e
   cases e
   refine ⟨raw_ok (by unfold I64; decide) (by unfold I64; decide), raw_fine _ _, raw_up _ _, fun m hm => (by cases hm), fun m hm => (by cases hm), fun m hm => (by cases hm), by simp, .inr (.inr ⟨by omega, ?_, ?_, ?_, ?_⟩)⟩
   ·rw [close_nil]
   ·rw [close_nil]; rfl
   ·rw [close_nil]; exact h3
   ·rw [close_nil]; rfl
  ·have e1 : ∀ (b : Nat → Option Int) (n m : Int), stepsP degF 1 n b m s 2 = some ⟨s, fun _ => none, [], []⟩ := by
    intro b n m
    obtain ⟨G, H, B⟩ := s
    cases h1
    cases h2
    replace h3 : H 1 = true := h3
    replace h4 : H 2 = true := h4
    have f1 : stepsP degF 1 n b m ⟨awG 1 1, H, []⟩ 1 = some ⟨⟨awG 1 1, H, []⟩, fun _ => none, [], []⟩ := by
     show stepV degF 1 n b m ⟨awG 1 1, H, []⟩ _ 0 = _
     rw [stepV_not (v := ⟨1, 1, [⟨2, 0⟩]⟩) rfl (by unfold act; show (!H 1 || _) = false; rw [h3]; rfl)]
    show (stepsP degF 1 n b m ⟨awG 1 1, H, []⟩ 1).bind _ = _
    rw [f1]
    show stepV degF 1 n b m ⟨awG 1 1, H, []⟩ _ 1 = _
    rw [stepV_not (v := ⟨2, 1, []⟩) rfl (by unfold act; show (!H 2 || _) = false; rw [h4]; rfl)]
    rfl
   rw [e1] at e
   cases e
   refine ⟨?_, ?_, ?_, fun m hm => (by cases hm), fun m hm => (by cases hm), fun m hm => (by cases hm), by simp, .inr (.inr ⟨by omega, ?_, ?_, ?_, ?_⟩)⟩
   ·show ∀ v ∈ s.G, v.ok
    rw [h1]; exact raw_ok (by unfold I64; decide) (by unfold I64; decide)
   ·show Fine s.G
    rw [h1]; exact raw_fine _ _
   ·show Up _ s.G
    rw [h1]; exact raw_up _ _
   ·rw [close_nil]; exact h1
   ·rw [close_nil]; rfl
   ·rw [close_nil]; exact h3
   ·rw [close_nil]; exact h4
theorem raw_run : runP degF 1 9 9 1001 0 ⟨awG 0 0, fun _ => false, []⟩ (fun _ => none) = ⟨1, 0, 2, [⟨1, 1⟩, ⟨2, 1⟩]⟩ := by
 rw [show (1001 : Nat) = 1000 + 1 from rfl, runP_step (a := aw0) (by decide) (by decide) raw_st0 (by decide)]
 have c1 : closeP ⟨aw0.s.G, aw0.s.H, []⟩ aw0.sent aw0.asked = ⟨awG 1 0, awH, awB⟩ := by unfold aw0; rw [close_nil]; rfl
 rw [c1, show (1000 : Nat) = 999 + 1 from rfl, runP_step (by decide) (by decide) (raw_st1 rfl rfl rfl rfl) (by decide), close_nil, show (999 : Nat) = 998 + 1 from rfl, runP_done (by decide)]
 rfl
theorem raw_chk : jobN ⟨#[100, 101, 103, 114, 101, 101]⟩ (awG 0 0) [] 9 9 1 = 0 := by decide +kernel
theorem raw_at (w : World) : VxAt ((w.alloc (.cells #[.int .i64 2, .int .i64 0] 62)).alloc (.cells #[.int .i64 1, .int .i64 0, .slice (some ⟨w.heap.size, 0, none⟩) 1 1, .int .i64 2, .int .i64 0, .slice none 0 0] 65)) (fun _ => True) (some ⟨w.heap.size + 1, 0, none⟩) (awG 0 0) := by
 have e1 : ((w.alloc (.cells #[.int .i64 2, .int .i64 0] 62)).alloc (.cells #[.int .i64 1, .int .i64 0, .slice (some ⟨w.heap.size, 0, none⟩) 1 1, .int .i64 2, .int .i64 0, .slice none 0 0] 65)).heap[w.heap.size]? = some (.cells #[.int .i64 2, .int .i64 0] 62 (0, 0)) :=
  (Below.heap_alloc _ _ _ (by simp)).trans (heap_alloc_new _ _)
 have e2 : ((w.alloc (.cells #[.int .i64 2, .int .i64 0] 62)).alloc (.cells #[.int .i64 1, .int .i64 0, .slice (some ⟨w.heap.size, 0, none⟩) 1 1, .int .i64 2, .int .i64 0, .slice none 0 0] 65)).heap[w.heap.size + 1]? = some (.cells #[.int .i64 1, .int .i64 0, .slice (some ⟨w.heap.size, 0, none⟩) 1 1, .int .i64 2, .int .i64 0, .slice none 0 0] 65 (0, 0)) := by
  have := heap_alloc_new (w.alloc (.cells #[.int .i64 2, .int .i64 0] 62)) (.cells #[.int .i64 1, .int .i64 0, .slice (some ⟨w.heap.size, 0, none⟩) 1 1, .int .i64 2, .int .i64 0, .slice none 0 0] 65)
  rw [World.size_alloc] at this
  exact this
 generalize ((w.alloc (.cells #[.int .i64 2, .int .i64 0] 62)).alloc (.cells #[.int .i64 1, .int .i64 0, .slice (some ⟨w.heap.size, 0, none⟩) 1 1, .int .i64 2, .int .i64 0, .slice none 0 0] 65)) = W at e1 e2
 intro _
 refine ⟨w.heap.size + 1, 0, rfl, trivial, fun j hj => ?_⟩
 match j, hj with
 | 0, _ =>
  refine ⟨some ⟨w.heap.size, 0, none⟩, 1, by simp [World.cell?, e2, awG], by simp [World.cell?, e2, awG], by simp [World.cell?, e2, awG], fun _ => ⟨w.heap.size, 0, rfl, trivial, fun i hi => ?_⟩⟩
  match i, hi with
  | 0, _ => exact ⟨by simp [World.cell?, e1, awG], by simp [World.cell?, e1, awG]⟩
 | 1, _ => exact ⟨none, 0, by simp [World.cell?, e2, awG], by simp [World.cell?, e2, awG], by simp [World.cell?, e2, awG], fun h => absurd h (by simp [awG])⟩
theorem raw_runs {W : World} {ao : Option Addr} (h : VxAt W (fun _ => True) ao (awG 0 0)) : Calls Tryz.prog 22 #[.agg #[.string ⟨#[100, 101, 103, 114, 101, 101]⟩, .slice ao 2 2, .slice none 0 0, .int .i64 9, .int .i64 9, .int .i64 1]] W fun r w' => ∃ b vc, r = .returned (.tuple #[.agg #[.int .i64 1, .int .i64 0, .int .i64 2, .slice (some ⟨b, 0, none⟩) 2 vc], .int .i64 0]) ∧ w'.cell? ⟨b, 1, none⟩ = some (.int .i64 1) ∧ w'.cell? ⟨b, 3, none⟩ = some (.int .i64 1) ∧ Below W.heap.size W w' := by
 have hl : (awG 0 0).length ≤ 9223372036854775807 := by decide
 have hCk : ∀ W1, Below W.heap.size W W1 → Calls Tryz.prog 17 #[.agg #[.string ⟨#[100, 101, 103, 114, 101, 101]⟩, .slice ao 2 2, .slice none 0 0, .int .i64 9, .int .i64 9, .int .i64 1]] W1 fun r w' => r = .returned (.int .i64 0) ∧ Below W1.heap.size W1 w' := by
  intro W1 hb
  have := checkJ_any (w := W1) (P := fun _ => True) (go := ao) (po := none) (gn := 2) (gc := 2) (pn := 0) (pc := 0) (s := ⟨#[100, 101, 103, 114, 101, 101]⟩) (G := awG 0 0) (ps := []) (st := 9) (se := 9) (pa := 1) rfl rfl (h.new hb) (raw_ok (by unfold I64; decide) (by unfold I64; decide)) hl (fun e => absurd e (by simp)) (by simp)
  rw [raw_chk] at this
  exact this
 have hR := run_any (w := W) (P := fun _ => True) (go := ao) (po := none) (G := awG 0 0) (gn := 2) (gc := 2) (pn := 0) (pc := 0) (pr := .string ⟨#[100, 101, 103, 114, 101, 101]⟩) (ps := []) (st := 9) (se := 9) (pa := 1) (k := 1) (f := degF) (I := AwI) hCk rfl h rfl (fun e => absurd e (by simp)) (by decide) (by decide) combiner_deg raw_runI (.inl ⟨rfl, rfl⟩)
 refine hR.mono ?_
 rw [raw_run]
 rintro r w' ⟨⟨vo, vc, rfl, hK⟩, hb⟩
 obtain ⟨_, hE⟩ := own_eds hK
 obtain ⟨b, off, rfl, hP, hc⟩ := hE (by simp)
 obtain ⟨⟨hP1, hP2⟩, hP3⟩ : (W.heap.size ≤ b ∧ (Value.slice (some ⟨b, off, none⟩) 2 vc).ownBlock = some b) ∧ True := ⟨hP, trivial⟩
 have h0 : off = 0 := by
  rcases hK.2 with ⟨h1, _⟩ | ⟨g, cap, cur, h1, _⟩
  ·cases h1
  ·cases h1; rfl
 subst h0
 exact ⟨b, vc, rfl, (hc 0 (by simp)).2, (hc 1 (by simp)).2, hb⟩
set_option maxHeartbeats 800000 in
theorem rawake (w : World) : Calls Tryz.prog 7 #[] w fun r w' => r = .returned (.bool true) ∧ Below w.heap.size w w' := by
 have HR : Hid _ := raw_runs (raw_at w)
 go_enter Tryz.func7, Tryz.ntmps7
 go_upto_region 2 with (go_at_call 22; refine Calls.mono HR.out ?_; rintro r w1 ⟨b, vc, rfl, c1, c3, hb1⟩)
 have k1 : Below w.heap.size w w1 := ((one_new w _).alloc (by simp) _).trans (hb1.mono (by simp; omega))
 clear HR hb1
 have hk1 := k1.size
 generalize hW2 : World.alloc w1 _ = W2
 have hb2 : Below w1.heap.size w1 W2 := by rw [← hW2]; exact one_new _ _
 have hg : W2.heap[w1.heap.size]? = some (.cells #[.int .i64 1, .int .i64 0, .int .i64 2, .slice (some ⟨b, 0, none⟩) 2 vc] 58 (0, 0)) := by rw [← hW2]; exact heap_alloc_new _ _
 have d0 : W2.cell? ⟨w1.heap.size, 0, none⟩ = some (.int .i64 1) := by simp [World.cell?, hg]
 have d2 : W2.cell? ⟨w1.heap.size, 2, none⟩ = some (.int .i64 2) := by simp [World.cell?, hg]
 have d3 : W2.cell? ⟨w1.heap.size, 3, none⟩ = some (.slice (some ⟨b, 0, none⟩) 2 vc) := by simp [World.cell?, hg]
 have e1 : W2.cell? ⟨b, 1, none⟩ = some (.int .i64 1) := (hb2.cell (p := ⟨b, 1, none⟩) (lt_cell c1)).trans c1
 have e3 : W2.cell? ⟨b, 3, none⟩ = some (.int .i64 1) := (hb2.cell (p := ⟨b, 3, none⟩) (lt_cell c3)).trans c3
 have k2 : Below w.heap.size w W2 := k1.trans (hb2.mono k1.size)
 clear hW2 hb2 hg c1 c3 k1 hk1
 generalize w1.heap.size = g at *
 go_wp2
 go_ret
 exact ⟨rfl, k2⟩
end Go.Proofs.YtmgjlamglhpnaaaGreat
