/- RunJobs returns true. -/
import Derived.Test.YtmgjlamglhpnaaaGreatJbR19M
import Derived.Test.YtmgjlamglhpnaaaGreatJbDecM
import Derived.Test.YtmgjlamglhpnaaaGreatJbFDecM
import Derived.Test.YtmgjlamglhpnaaaGreatRnAwakeM
import Derived.Deep.Cut
import Derived.Deep.DeepCutAuto
import Derived.BigQuiet
import Derived.Test.YtmgjlamglhpnaaaGreatGrDataM
import Derived.Test.YtmgjlamglhpnaaaGreatProg
import Derived.WalkKit
import Derived.ProofKit
import Derived.OpenShut
import Derived.Deep.Slices
import Derived.Deep.Strs
import Derived.Lib.SmallJoins
import Derived.SizedLaws
import Derived.Test.YtmgjlamglhpnaaaGreatJbMM
import Derived.ChangeSlices
import Derived.Test.YtmgjlamglhpnaaaGreatGrClone2M
namespace Go.Proofs.YtmgjlamglhpnaaaGreat
set_option maxRecDepth 100000
open Go.RowKit
theorem both_dec (s : ByteArray) (hs : s.size ≤ maxLen) : (∃ ez : Int, ¬ ez = 0 ∧ (∀ w : World, Calls Tryz.prog 8 #[.string s] w fun r w' => r = .returned (.tuple #[.agg #[.string ByteArray.empty, .slice none 0 0, .slice none 0 0, .int .i64 0, .int .i64 0, .int .i64 0], .int .i64 ez]) ∧ Below w.heap.size w w') ∧ (∀ w : World, Calls Tryz.prog 16 #[.string s] w fun r w' => r = .returned (.tuple #[.agg #[.string ByteArray.empty, .slice none 0 0, .slice none 0 0, .int .i64 0, .int .i64 0, .int .i64 0], .int .i64 ez]) ∧ Below w.heap.size w w')) ∨
  (∃ (t : ByteArray) (G : List Vx) (ps : List Int) (st se pa : Nat), jobN t G ps st se pa = 0 ∧ (∀ v ∈ G, v.ok) ∧ (∀ x ∈ ps, I64 x) ∧
   (∀ w : World, Calls Tryz.prog 8 #[.string s] w fun r w' => (∃ go gc po pc, r = .returned (.tuple #[.agg #[.string t, .slice go G.length gc, .slice po ps.length pc, .int .i64 (st : Int), .int .i64 (se : Int), .int .i64 (pa : Int)], .int .i64 0]) ∧ VxAt w' (fun k => w.heap.size ≤ k) go G ∧ IsP w' (fun k => w.heap.size ≤ k) po ps) ∧ Below w.heap.size w w') ∧
   (∀ w : World, Calls Tryz.prog 16 #[.string s] w fun r w' => (∃ go gc po pc, r = .returned (.tuple #[.agg #[.string t, .slice go G.length gc, .slice po ps.length pc, .int .i64 (st : Int), .int .i64 (se : Int), .int .i64 (pa : Int)], .int .i64 0]) ∧ VxAt w' (fun k => w.heap.size ≤ k) go G ∧ IsP w' (fun k => w.heap.size ≤ k) po ps) ∧ Below w.heap.size w w')) := by
 obtain ⟨t, G, n, ps, st, se, pa, a1, a2, a3, a4, a5, a6, a7, e1, e2, e3, e4, e5, e6, e7, hJ⟩ := jr_any s 0 0
 obtain ⟨ee, he⟩ : ∃ ee, jErr e7 t G ps st se pa = ee := ⟨_, rfl⟩
 obtain ⟨ez, hz⟩ : ∃ ez, rdEnd s a7 ee = ez := ⟨_, rfl⟩
 have hT := hJ.to (Nat.zero_le _)
 by_cases h0 : ez = 0
 ·right
  subst h0
  have hee : ee = 0 := end_0 hz
  subst hee
  have h7 : e7 = 0 := by
   unfold jErr at he
   by_cases h : e7 = 0
   ·exact h
   ·rw [rdFail_e h] at he; exact he
  have hj : jobN t G ps st se pa = 0 := by unfold jErr at he; rw [h7, rdFail_0] at he; exact he
  refine ⟨t, G, ps, st, se, pa, hj, hT.gok, hT.pok, fun w => decj_good hs hJ he hz, fun w => (fdj_any hs rfl rfl hJ he hz).mono ?_⟩
  rintro r w' ⟨⟨_, h1⟩ | ⟨h1, _⟩, h2⟩
  ·exact ⟨h1, h2⟩
  ·exact absurd rfl h1
 ·left
  refine ⟨ez, h0, fun w => decj_bad hs hJ he hz h0, fun w => (fdj_any hs rfl rfl hJ he hz).mono ?_⟩
  rintro r w' ⟨⟨h1, _⟩ | ⟨_, h1⟩, h2⟩
  ·exact absurd h1 h0
  ·exact ⟨h1, h2⟩
theorem refbytes_j {W : World} {P : Nat → Prop} {go po : Option Addr} {gc pc : Nat} {t : ByteArray} {G : List Vx} {ps : List Int} {st se pa : Nat} (hG : VxAt W P go G) (hP : IsAt W po ps) (hok : ∀ v ∈ G, v.ok) (hpk : ∀ x ∈ ps, I64 x) (hj : jobN t G ps st se pa = 0) :
  Calls Tryz.prog 14 #[.agg #[.string t, .slice go G.length gc, .slice po ps.length pc, .int .i64 (st : Int), .int .i64 (se : Int), .int .i64 (pa : Int)]] W fun r w' => r = .returned (.string (str (jobB t G ps st se pa))) ∧ Below W.heap.size W w' := by
 have hk := jobN_ok hj
 exact jobbytes_any rfl rfl hG hP (known_size hk.known) hok hk.chk hk.len hpk (by have := hk.st; omega) (by have := hk.se; omega) (by have := hk.pa; omega)
theorem refjob_j {W : World} {P : Nat → Prop} {go po : Option Addr} {gc pc : Nat} {t : ByteArray} {G : List Vx} {ps : List Int} {st se pa : Nat} (hG : VxAt W P go G) (hP : IsAt W po ps) (hok : ∀ v ∈ G, v.ok) (hpk : ∀ x ∈ ps, I64 x) (hj : jobN t G ps st se pa = 0) :
  Calls Tryz.prog 6 #[.agg #[.string t, .slice go G.length gc, .slice po ps.length pc, .int .i64 (st : Int), .int .i64 (se : Int), .int .i64 (pa : Int)]] W fun r w' => (∃ v1, r = .returned v1 ∧ ∀ W', Below w'.heap.size w' W' → Calls Tryz.prog 14 #[v1] W' fun r w2 => r = .returned (.string (str (jobB t G ps st se pa))) ∧ Below W'.heap.size W' w2) ∧ Below W.heap.size W w' := by
 have hk := jobN_ok hj
 have hl := (chk_ok hk.chk).1
 refine (jref_any rfl hG hok (by omega)).mono ?_
 rintro r w' ⟨⟨ho, hc, rfl, hV⟩, hb⟩
 exact ⟨⟨_, rfl, fun W' hb' => refbytes_j (hV.new hb') ((hP.new hb).new hb') hok hpk hj⟩, hb⟩
set_option maxHeartbeats 8000000 in
theorem rj_bad {w : World} {P : Nat → Prop} {go po : Option Addr} {gn gc pn pc : Nat} {t s : ByteArray} {G : List Vx} {ps : List Int} {st se pa jn : Int} (hs : s.size ≤ maxLen) (hn : gn = G.length) (hp : pn = ps.length) (hG : VxAt w P go G) (hok : ∀ v ∈ G, v.ok) (hl : G.length * 40 ≤ 140737488355328) (hL : IsAt w po ps) (hpl : ps.length ≤ 9223372036854775807) (hj : jobN t G ps st se pa = jn) (h0 : ¬ jn = 0) :
  Calls Tryz.prog 3 #[.agg #[.string t, .slice go gn gc, .slice po pn pc, .int .i64 st, .int .i64 se, .int .i64 pa], .string s] w fun r w' => r = .returned (.bool true) ∧ Below w.heap.size w w' := by
 obtain ⟨W0, hW0⟩ : ∃ W0, w.alloc (.cells #[.string t, .slice go gn gc, .slice po pn pc, .int .i64 st, .int .i64 se, .int .i64 pa] 27) = W0 := ⟨_, rfl⟩
 have hb0 : Below w.heap.size w W0 := by rw [← hW0]; exact one_new _ _
 have HJ0 : Hid (JobBoxC W0 w.heap.size #[.string t, .slice go gn gc, .slice po pn pc, .int .i64 st, .int .i64 se, .int .i64 pa]) := by rw [← hW0]; exact heap_alloc_new _ _
 have hE := encj_bad (gc := gc) (pc := pc) hn hp (hG.new hb0) hok (by omega) (hL.new hb0) hpl hj h0
 have HE : Hid _ := hE
 have HRf : Hid (∀ W, Below w.heap.size w W → Calls Tryz.prog 6 #[.agg #[.string t, .slice go gn gc, .slice po pn pc, .int .i64 st, .int .i64 se, .int .i64 pa]] W fun r w' => (∃ ho hc, r = .returned (.agg #[.string t, .slice ho G.length hc, .slice po pn pc, .int .i64 st, .int .i64 se, .int .i64 pa]) ∧ VxAt w' (fun k => W.heap.size ≤ k) ho G) ∧ Below W.heap.size W w') := fun W hb => jref_any hn (hG.new hb) hok hl
 have HCk : Hid (∀ W ho hc Q, Below w.heap.size w W → VxAt W Q ho G → Calls Tryz.prog 5 #[.agg #[.string t, .slice ho G.length hc, .slice po pn pc, .int .i64 st, .int .i64 se, .int .i64 pa]] W fun r w' => r = .returned (.int .i64 jn) ∧ Below W.heap.size W w') := fun W ho hc Q hb hV => rjcheck_any rfl hp hV hok (by omega) (hL.new hb) hpl hj
 have HB0 : Hid _ := hb0
 have HBo : Hid _ := both_dec s hs
 have h0b : (jn == 0) = false := by simpa using h0
 clear hn hp hG hok hl hL hpl hj hE hb0
 go_enter Tryz.func3, Tryz.ntmps3
 go_upto_region 15 with (first
  | (refine wpList_load_row rfl 27 _ rfl w.heap.size rfl 27 #[.string t, .slice go gn gc, .slice po pn pc, .int .i64 st, .int .i64 se, .int .i64 pa] (0, 0) _ (by first | exact HJ1.out | exact HJ0.out) Tryz.underlying27 rfl size_jobJ ?_)
  | (go_at_call 4; refine Calls.mono HE.out ?_; rintro r w1 ⟨rfl, hb1⟩; have HB1 : Hid (Below w.heap.size w w1) := HB0.out.trans (hb1.mono HB0.out.size); have HJ1 : Hid (JobBoxC w1 w.heap.size #[.string t, .slice go gn gc, .slice po pn pc, .int .i64 st, .int .i64 se, .int .i64 pa]) := jb_fr (Fr.ofBelow hb1 (fun _ => False)) (fun h => h) HJ0.out; clear hb1)
  | (go_at_call 6; refine Calls.mono (HRf.out _ HB1.out) ?_; rintro r w2 ⟨⟨ho, hc, rfl, hV2⟩, hb2⟩; have HB2 : Hid (Below w.heap.size w w2) := HB1.out.trans (hb2.mono HB1.out.size); have HV2 : Hid _ := hV2; clear hb2 hV2)
  | (go_at_call 5; refine Calls.mono (HCk.out _ _ _ _ HB2.out HV2.out) ?_; rintro r w3 ⟨rfl, hb3⟩; have HB3 : Hid (Below w.heap.size w w3) := HB2.out.trans (hb3.mono HB2.out.size); clear hb3)
  | (go_at_call 7; refine (rawake _).mono ?_; rintro r w4 ⟨rfl, hb4⟩; have HB4 : Hid (Below w.heap.size w w4) := HB3.out.trans (hb4.mono HB3.out.size); clear hb4))
 clear HE HRf HCk HJ0 HJ1 HB0 HB1 HB2 HB3 HV2
 rcases HBo.out with ⟨ez, hz, hD, hR⟩ | ⟨t', G', ps', st', se', pa', hj', hok', hpk', hD, hR⟩
 ·have hzb : (ez != 0) = true := by simpa using hz
  have HD : Hid _ := hD
  have HR : Hid _ := hR
  clear hD hR HBo
  go_upto_region 16 with (go_at_call 8; refine Calls.mono (HD.out _) ?_; rintro r x1 ⟨rfl, hb1⟩; have HB1 : Hid (Below w.heap.size w x1) := HB4.out.trans (hb1.mono HB4.out.size); clear hb1)
  generalize hX2 : World.alloc x1 _ = X2
  have HB2 : Hid (Below w.heap.size w X2) := by rw [← hX2]; exact HB1.out.trans ((one_new _ _).mono HB1.out.size)
  have HK2 : Hid (JobBoxC X2 x1.heap.size #[.string ByteArray.empty, .slice none 0 0, .slice none 0 0, .int .i64 0, .int .i64 0, .int .i64 0]) := by rw [← hX2]; exact heap_alloc_new _ _
  clear hX2 HB1
  generalize x1.heap.size = bk at *
  go_upto_region 19 with (go_at_call 16; refine Calls.mono (HR.out _) ?_; rintro r x3 ⟨rfl, hb3⟩; have HB3 : Hid (Below w.heap.size w x3) := HB2.out.trans (hb3.mono HB2.out.size); have HK3 : Hid (JobBoxC x3 bk #[.string ByteArray.empty, .slice none 0 0, .slice none 0 0, .int .i64 0, .int .i64 0, .int .i64 0]) := jb_fr (Fr.ofBelow hb3 (fun _ => False)) (fun h => h) HK2.out; clear hb3)
  generalize hX4 : World.alloc x3 _ = X4
  have hb4 : Below x3.heap.size x3 X4 := by rw [← hX4]; exact one_new _ _
  have HBx : Hid (Below w.heap.size w X4) := HB3.out.trans (hb4.mono HB3.out.size)
  obtain ⟨q0, q1, q2, q3, q4, q5⟩ := job_cells (jb_fr (Fr.ofBelow hb4 (fun _ => False)) (fun h => h) HK3.out)
  have hu : undef = Value.tuple #[] := rfl
  clear hX4 hb4 HK2 HK3 HB2 HB3
  go_quiet (fail)
  all_goals
   go_wp2
   go_ret
   exact ⟨rfl, by first | exact HBx.out | exact bel_drewN HBx.out _ | exact HBx.out.drew⟩
 ·have HD : Hid _ := hD
  have HR : Hid _ := hR
  have HJ' : Hid _ := hj'
  have HO' : Hid (∀ v ∈ G', v.ok) := hok'
  have HP' : Hid (∀ x ∈ ps', I64 x) := hpk'
  clear hD hR HBo hj' hok' hpk'
  go_upto_region 16 with (go_at_call 8; refine Calls.mono (HD.out _) ?_; rintro r x1 ⟨⟨ko, kc, lo, lc, rfl, hV1, hP1⟩, hb1⟩; have HB1 : Hid (Below w.heap.size w x1) := HB4.out.trans (hb1.mono HB4.out.size); have HV1 : Hid _ := hV1; have HP1 : Hid _ := hP1; clear hb1 hV1 hP1)
  generalize hX2 : World.alloc x1 _ = X2
  have hb2 : Below x1.heap.size x1 X2 := by rw [← hX2]; exact one_new _ _
  have HB2 : Hid (Below w.heap.size w X2) := HB1.out.trans (hb2.mono HB1.out.size)
  have HK2 : Hid (JobBoxC X2 x1.heap.size #[.string t', .slice ko G'.length kc, .slice lo ps'.length lc, .int .i64 (st' : Int), .int .i64 (se' : Int), .int .i64 (pa' : Int)]) := by rw [← hX2]; exact heap_alloc_new _ _
  have HV2 : Hid _ := VxAt.new HV1.out hb2
  have HP2 : Hid _ := IsP.new HP1.out hb2
  clear hX2 HB1 hb2 HV1 HP1
  generalize x1.heap.size = bk at *
  go_upto_region 19 with (go_at_call 16; refine Calls.mono (HR.out _) ?_; rintro r x3 ⟨⟨mo, mc, no, nc, rfl, hV3, hP3⟩, hb3⟩; have HB3 : Hid (Below X2.heap.size X2 x3) := hb3; have HV3 : Hid _ := hV3; have HP3 : Hid _ := hP3; clear hb3 hV3 hP3)
  generalize hX4 : World.alloc x3 _ = X4
  have hb4 : Below x3.heap.size x3 X4 := by rw [← hX4]; exact one_new _ _
  have hb24 : Below X2.heap.size X2 X4 := HB3.out.trans (hb4.mono HB3.out.size)
  have HBx : Hid (Below w.heap.size w X4) := HB2.out.trans (hb24.mono HB2.out.size)
  have hK4 := jb_fr (Fr.ofBelow hb24 (fun _ => False)) (fun h => h) HK2.out
  have hX4' : JobBoxR X4 x3.heap.size #[.string t', .slice mo G'.length mc, .slice no ps'.length nc, .int .i64 (st' : Int), .int .i64 (se' : Int), .int .i64 (pa' : Int)] := by rw [← hX4]; exact heap_alloc_new _ _
  have HV4 : Hid _ := VxAt.new HV2.out hb24
  have HP4 : Hid _ := IsP.new HP2.out hb24
  have HV5 : Hid _ := VxAt.new HV3.out hb4
  have HP5 : Hid _ := IsP.new HP3.out hb4
  refine rj_r19 (bk := bk) (bx := x3.heap.size) (z0 := str (jobB t' G' ps' st' se' pa')) rfl rfl rfl rfl hK4 hX4' (fun V hV => refjob_j (VxAt.new HV4.out hV) (IsP.at (IsP.new HP4.out hV)) HO'.out HP'.out HJ'.out) (fun V hV => refbytes_j (VxAt.new HV5.out hV) (IsP.at (IsP.new HP5.out hV)) HO'.out HP'.out HJ'.out) ?_
  intro X W9 hb9 y4
  have HB9 : Hid (Below w.heap.size w W9) := HBx.out.trans (hb9.mono HBx.out.size)
  clear hX4 hb4 hb24 hK4 hX4' hb9 HV2 HV3 HV4 HV5 HP2 HP3 HP4 HP5 HB2 HB3 HBx HK2 HO' HP' HJ' HD HR
  simp only [puts]
  rw [y4]
  simp only [Act.put, List.setIfInBounds_toArray, List.set_cons_succ, List.set_cons_zero]
  go_wp2
  go_ret
  exact ⟨rfl, HB9.out⟩
structure RJ (w wr : World) (bj bk bx p q : Nat) (v : Value) (l : List UInt8) (S : ByteArray) (a : Nat) (cj ck cx : Array Value) (ko lo mo no : Option Addr) (G : List Vx) (ps : List Int) : Prop where
 low : Below w.heap.size w wr
 jb : JobBoxC wr bj cj
 kb : JobBoxC wr bk ck
 xb : JobBoxC wr bx cx
 wt : Wr wr (p + 1) p v l
 rd : Rd wr q S a 0
 kg : VxAt wr (fun _ => True) ko G
 kp : IsAt wr lo ps
 xg : VxAt wr (fun _ => True) mo G
 xp : IsAt wr no ps
theorem RJ.new {w wr w1 : World} {bj bk bx p q : Nat} {v : Value} {l : List UInt8} {S : ByteArray} {a : Nat} {cj ck cx : Array Value} {ko lo mo no : Option Addr} {G : List Vx} {ps : List Int} (h : RJ w wr bj bk bx p q v l S a cj ck cx ko lo mo no G ps) (hb : Below wr.heap.size wr w1) : RJ w w1 bj bk bx p q v l S a cj ck cx ko lo mo no G ps :=
 have f := Fr.ofBelow hb (fun _ => False)
 ⟨h.low.trans (hb.mono h.low.size), jb_fr f (fun h => h) h.jb, jb_fr f (fun h => h) h.kb, jb_fr f (fun h => h) h.xb, h.wt.kept f (fun h => h) (fun _ _ h => h), h.rd.below hb, h.kg.new hb, h.kp.new hb, h.xg.new hb, h.xp.new hb⟩
set_option maxHeartbeats 8000000 in
theorem rj_good {w : World} {P : Nat → Prop} {go po : Option Addr} {gc pc : Nat} {t s : ByteArray} {G : List Vx} {ps : List Int} {st se pa : Nat} (hs : s.size ≤ maxLen) (hG : VxAt w P go G) (hok : ∀ v ∈ G, v.ok) (hl : G.length * 40 ≤ 140737488355328) (hL : IsAt w po ps) (hpk : ∀ x ∈ ps, I64 x) (hj : jobN t G ps st se pa = 0) :
  Calls Tryz.prog 3 #[.agg #[.string t, .slice go G.length gc, .slice po ps.length pc, .int .i64 (st : Int), .int .i64 (se : Int), .int .i64 (pa : Int)], .string s] w fun r w' => r = .returned (.bool true) ∧ Below w.heap.size w w' := by
 have hk := jobN_ok hj
 obtain ⟨W0, hW0⟩ : ∃ W0, w.alloc (.cells #[.string t, .slice go G.length gc, .slice po ps.length pc, .int .i64 (st : Int), .int .i64 (se : Int), .int .i64 (pa : Int)] 27) = W0 := ⟨_, rfl⟩
 have hb0 : Below w.heap.size w W0 := by rw [← hW0]; exact one_new _ _
 have HJ0 : Hid (JobBoxC W0 w.heap.size #[.string t, .slice go G.length gc, .slice po ps.length pc, .int .i64 (st : Int), .int .i64 (se : Int), .int .i64 (pa : Int)]) := by rw [← hW0]; exact heap_alloc_new _ _
 have HZ0 : Hid (W0.heap.size = w.heap.size + 1) := by show _ = _; rw [← hW0]; simp
 obtain ⟨B, hB⟩ : ∃ B, jobB t G ps st se pa = B := ⟨_, rfl⟩
 have hBl : B.length ≤ 60000 := by rw [← hB]; exact jobB_len (known_size hk.known) hok hk.chk hk.len hpk (by have := hk.st; omega) (by have := hk.se; omega) (by have := hk.pa; omega)
 have hE := encj_good (gc := gc) (pc := pc) rfl rfl (hG.new hb0) hok (hL.new hb0) hpk hj
 rw [hB] at hE
 have HE : Hid _ := hE
 have HRf : Hid (∀ W, Below w.heap.size w W → Calls Tryz.prog 6 #[.agg #[.string t, .slice go G.length gc, .slice po ps.length pc, .int .i64 (st : Int), .int .i64 (se : Int), .int .i64 (pa : Int)]] W fun r w' => (∃ ho hc, r = .returned (.agg #[.string t, .slice ho G.length hc, .slice po ps.length pc, .int .i64 (st : Int), .int .i64 (se : Int), .int .i64 (pa : Int)]) ∧ VxAt w' (fun k => W.heap.size ≤ k) ho G) ∧ Below W.heap.size W w') := fun W hb => jref_any rfl (hG.new hb) hok hl
 have HCk : Hid (∀ W ho hc Q, Below w.heap.size w W → VxAt W Q ho G → Calls Tryz.prog 5 #[.agg #[.string t, .slice ho G.length hc, .slice po ps.length pc, .int .i64 (st : Int), .int .i64 (se : Int), .int .i64 (pa : Int)]] W fun r w' => r = .returned (.int .i64 0) ∧ Below W.heap.size W w') := fun W ho hc Q hb hV => rjcheck_any rfl rfl hV hok (by omega) (hL.new hb) (by have := hk.len; omega) hj
 have HRb : Hid (∀ W po' go' gc' pc', VxAt W (fun _ => True) go' G → IsAt W po' ps → Calls Tryz.prog 6 #[.agg #[.string t, .slice go' G.length gc', .slice po' ps.length pc', .int .i64 (st : Int), .int .i64 (se : Int), .int .i64 (pa : Int)]] W fun r w' => (∃ v1, r = .returned v1 ∧ ∀ W', Below w'.heap.size w' W' → Calls Tryz.prog 14 #[v1] W' fun r w2 => r = .returned (.string (str B)) ∧ Below W'.heap.size W' w2) ∧ Below W.heap.size W w') := fun W po' go' gc' pc' h1 h2 => by rw [← hB]; exact refjob_j h1 h2 hok hpk hj
 have HDec : Hid (∀ W : World, Calls Tryz.prog 8 #[.string (str B)] W fun r w' => (∃ go gc po pc, r = .returned (.tuple #[.agg #[.string t, .slice go G.length gc, .slice po ps.length pc, .int .i64 (st : Int), .int .i64 (se : Int), .int .i64 (pa : Int)], .int .i64 0]) ∧ VxAt w' (fun k => W.heap.size ≤ k) go G ∧ IsP w' (fun k => W.heap.size ≤ k) po ps) ∧ Below W.heap.size W w') := fun W => by
  obtain ⟨a1, a2, a3, a4, a5, a6, hJ⟩ := jr_back (s := str B) (a := []) (c := []) (t := t) (G := G) (ps := ps) (st := st) (se := se) (pa := pa) (by rw [hB]; simp [str_list]) (by have := known_size hk.known; omega) hok hk.chk hk.len hpk (by have := hk.st; omega) (by have := hk.se; omega) (by have := hk.pa; omega)
  refine decj_good (by rw [str_size]; unfold maxLen; omega) hJ (by unfold jErr; rw [rdFail_0]; exact hj) ?_
  unfold rdEnd
  rw [if_neg]
  rintro ⟨_, h⟩
  rw [str_size, hB] at h
  simp at h
 have HTk : Hid (∀ (W : World) (q : Nat) (X : ByteArray), X.size = 1 → Rd W q (str B ++ X) ((0 : Nat) : Int) 0 → Calls Tryz.prog 13 #[.pointer (some ⟨q, 0, none⟩)] W fun r w' => (∃ go gc po pc, r = .returned (.agg #[.string t, .slice go G.length gc, .slice po ps.length pc, .int .i64 (st : Int), .int .i64 (se : Int), .int .i64 (pa : Int)]) ∧ VxAt w' (fun k => W.heap.size ≤ k) go G ∧ IsP w' (fun k => W.heap.size ≤ k) po ps) ∧ Rd w' q (str B ++ X) B.length 0 ∧ Fr W w' (fun k => k = q)) := fun W q X hX hR => by
  obtain ⟨a1, a2, a3, a4, a5, a6, hJ⟩ := jr_back (s := str B ++ X) (a := []) (c := X.data.toList) (t := t) (G := G) (ps := ps) (st := st) (se := se) (pa := pa) (by rw [hB, ByteArray.data_append]; simp [str_list]) (by have := known_size hk.known; omega) hok hk.chk hk.len hpk (by have := hk.st; omega) (by have := hk.se; omega) (by have := hk.pa; omega)
  have := takej_good hR (by rw [ByteArray.size_append, str_size]; unfold maxLen; omega) (Nat.zero_le _) hJ (by unfold jErr; rw [rdFail_0]; exact hj)
  rw [hB] at this
  simpa using this
 have HPut : Hid (∀ w1 p, Below w.heap.size w w1 → w.heap.size ≤ p → Wr w1 (p + 1) p (.slice none 0 0) [] → Calls Tryz.prog 10 #[.pointer (some ⟨p, 0, none⟩), .agg #[.string t, .slice go G.length gc, .slice po ps.length pc, .int .i64 (st : Int), .int .i64 (se : Int), .int .i64 (pa : Int)]] w1 fun r w' => r = .returned (.tuple #[]) ∧ WTo w1 w' (p + 1) p (.slice none 0 0) B) := fun w1 p hb hle hw => by
  rw [← hB]
  exact putj_any rfl rfl hw (((hG.mono (Q := fun k => k < w.heap.size) (fun _ h _ => h)).new hb).mono (fun k _ h => by omega)) ((hL.toP.new hb).mono (fun k _ h => by omega)) (known_size hk.known) hok hk.chk hk.len hpk (by have := hk.st; omega) (by have := hk.se; omega) (by have := hk.pa; omega)
 have HGw : Hid (∀ W, Below w.heap.size w W → VxAt W (fun _ => True) go G ∧ IsAt W po ps) := fun W hb => ⟨(hG.new hb).mono (fun _ _ _ => trivial), hL.new hb⟩
 have HB0 : Hid _ := hb0
 have HBo : Hid _ := both_dec s hs
 have HBl : Hid _ := hBl
 clear hG hok hl hL hj hE hb0 hk hpk hB hBl
 go_enter Tryz.func3, Tryz.ntmps3
 go_upto_region 6 with (first
  | (refine wpList_load_row rfl 27 _ rfl w.heap.size rfl 27 #[.string t, .slice go G.length gc, .slice po ps.length pc, .int .i64 (st : Int), .int .i64 (se : Int), .int .i64 (pa : Int)] (0, 0) _ (by first | exact HJ1.out | exact HJ0.out) Tryz.underlying27 rfl size_jobJ ?_)
  | (go_at_call 4; refine Calls.mono HE.out ?_; rintro r w1 ⟨rfl, hb1⟩; have HB1 : Hid (Below w.heap.size w w1) := HB0.out.trans (hb1.mono HB0.out.size); have HJ1 : Hid (JobBoxC w1 w.heap.size #[.string t, .slice go G.length gc, .slice po ps.length pc, .int .i64 (st : Int), .int .i64 (se : Int), .int .i64 (pa : Int)]) := jb_fr (Fr.ofBelow hb1 (fun _ => False)) (fun h => h) HJ0.out; clear hb1)
  | (go_at_call 6; refine Calls.mono (HRf.out _ HB1.out) ?_; rintro r w2 ⟨⟨ho, hc, rfl, hV2⟩, hb2⟩; have HB2 : Hid (Below w.heap.size w w2) := HB1.out.trans (hb2.mono HB1.out.size); have HJ2 : Hid (JobBoxC w2 w.heap.size #[.string t, .slice go G.length gc, .slice po ps.length pc, .int .i64 (st : Int), .int .i64 (se : Int), .int .i64 (pa : Int)]) := jb_fr (Fr.ofBelow hb2 (fun _ => False)) (fun h => h) HJ1.out; have HV2 : Hid _ := hV2; clear hb2 hV2)
  | (go_at_call 5; refine Calls.mono (HCk.out _ _ _ _ HB2.out HV2.out) ?_; rintro r w3 ⟨rfl, hb3⟩; have HB3 : Hid (Below w.heap.size w w3) := HB2.out.trans (hb3.mono HB2.out.size); have HJ3 : Hid (JobBoxC w3 w.heap.size #[.string t, .slice go G.length gc, .slice po ps.length pc, .int .i64 (st : Int), .int .i64 (se : Int), .int .i64 (pa : Int)]) := jb_fr (Fr.ofBelow hb3 (fun _ => False)) (fun h => h) HJ2.out; clear hb3)
  | (go_at_call 7; refine (rawake _).mono ?_; rintro r w4 ⟨rfl, hb4⟩; have HB4 : Hid (Below w.heap.size w w4) := HB3.out.trans (hb4.mono HB3.out.size); have HJ4 : Hid (JobBoxC w4 w.heap.size #[.string t, .slice go G.length gc, .slice po ps.length pc, .int .i64 (st : Int), .int .i64 (se : Int), .int .i64 (pa : Int)]) := jb_fr (Fr.ofBelow hb4 (fun _ => False)) (fun h => h) HJ3.out; clear hb4))
 clear HE HRf HCk HJ0 HJ1 HJ2 HJ3 HB0 HB1 HB2 HB3 HV2 hW0
 go_upto_region 7 with (go_at_call 8; refine Calls.mono (HDec.out _) ?_; rintro r w5 ⟨⟨ko, kc, lo, lc, rfl, hV5, hP5⟩, hb5⟩; have HB5 : Hid (Below w4.heap.size w4 w5) := hb5; have HV5 : Hid _ := hV5; have HP5 : Hid _ := hP5; clear hb5 hV5 hP5)
 generalize hW6 : World.alloc w5 _ = W6
 have hb6 : Below w5.heap.size w5 W6 := by rw [← hW6]; exact one_new _ _
 have hb46 : Below w4.heap.size w4 W6 := HB5.out.trans (hb6.mono HB5.out.size)
 have HB6 : Hid (Below w.heap.size w W6) := HB4.out.trans (hb46.mono HB4.out.size)
 have HJ6 : Hid (JobBoxC W6 w.heap.size #[.string t, .slice go G.length gc, .slice po ps.length pc, .int .i64 (st : Int), .int .i64 (se : Int), .int .i64 (pa : Int)]) := jb_fr (Fr.ofBelow hb46 (fun _ => False)) (fun h => h) HJ4.out
 have HK6 : Hid (JobBoxC W6 w5.heap.size #[.string t, .slice ko G.length kc, .slice lo ps.length lc, .int .i64 (st : Int), .int .i64 (se : Int), .int .i64 (pa : Int)]) := by rw [← hW6]; exact heap_alloc_new _ _
 have HV6 : Hid (VxAt W6 (fun k => k < w5.heap.size) ko G) := VxAt.new (VxAt.mono HV5.out (fun k hk _ => hk)) hb6
 have HP6 : Hid (IsP W6 (fun k => k < w5.heap.size) lo ps) := IsP.new (IsP.mono HP5.out (fun k hk _ => hk)) hb6
 have HZ6 : Hid (w.heap.size < w5.heap.size ∧ w5.heap.size < W6.heap.size) := by
  have h1 := (Array.getElem?_eq_some_iff.1 HJ4.out).1
  have h2 := HB5.out.size
  have h3 := (Array.getElem?_eq_some_iff.1 HK6.out).1
  exact ⟨by omega, h3⟩
 clear hW6 hb6 hb46 HB4 HJ4 HB5 HV5 HP5 HDec HZ0
 generalize w5.heap.size = bk at *
 go_upto_region 8 with (go_at_call 9; refine (newwriter_any _).mono ?_; rintro r w7 ⟨rfl, hw7, hb7⟩; have HB7 : Hid (Below w.heap.size w w7) := HB6.out.trans (hb7.mono HB6.out.size); have HB67 : Hid (Below W6.heap.size W6 w7) := hb7; have HW7 : Hid (Wr w7 (W6.heap.size + 1) W6.heap.size (.slice none 0 0) []) := hw7; have HJ7 : Hid (JobBoxC w7 w.heap.size #[.string t, .slice go G.length gc, .slice po ps.length pc, .int .i64 (st : Int), .int .i64 (se : Int), .int .i64 (pa : Int)]) := jb_fr (Fr.ofBelow hb7 (fun _ => False)) (fun h => h) HJ6.out; clear hw7 hb7)
 go_upto_region 9 with (first
  | (refine wpList_load_row rfl 27 _ rfl w.heap.size rfl 27 #[.string t, .slice go G.length gc, .slice po ps.length pc, .int .i64 (st : Int), .int .i64 (se : Int), .int .i64 (pa : Int)] (0, 0) _ HJ7.out Tryz.underlying27 rfl size_jobJ ?_)
  | (go_at_call 10; refine Calls.mono (HPut.out _ _ HB7.out HB6.out.size HW7.out) ?_; rintro r w8 ⟨rfl, hT8⟩; have HT8 : Hid _ := hT8; clear hT8))
 obtain ⟨v5, hw8, hf8, hr8⟩ := HT8.out
 have hb8 : Below w.heap.size w w8 := WTo.new HB7.out HW7.out HT8.out HB6.out.size (Nat.le_succ_of_le HB6.out.size)
 have hfp : Fr W6 w8 (fun k => k = W6.heap.size) := (Fr.ofBelow HB67.out (fun k => k = W6.heap.size)).trans hf8 (fun k _ h => by
  rcases h with h | h
  ·exact h
  ·simp [Value.ownBlock] at h)
 have HW8 : Hid (Wr w8 (W6.heap.size + 1) W6.heap.size v5 B) := hw8
 have HB8 : Hid _ := hb8
 have HF8 : Hid _ := hfp
 clear hw8 hf8 hr8 hb8 hfp HT8 HW7 HB7 HB67 HJ7 HPut
 have hcat : ¬ 9223372036854775807 < (str B).size + (ByteArray.mk #[120]).size := by rw [str_size]; have := HBl.out; have : (ByteArray.mk #[120]).size = 1 := rfl; omega
 go_upto_region 10 with (first
  | (go_at_call 12; refine (wall_any HW8.out).mono ?_; rintro r w9 ⟨rfl, hw9⟩; subst hw9)
  | (go_at_call 11; refine (newreader_any _ _).mono ?_; rintro r wA ⟨rfl, hrA, hbA⟩; have HRA : Hid _ := hrA; have HBA : Hid _ := hbA; clear hrA hbA))
 clear hcat
 have HRA : Hid (Rd wA w9.heap.size (str B ++ ⟨#[120]⟩) ((0 : Nat) : Int) 0) := HRA.out
 go_upto_region 11 with (go_at_call 13; refine Calls.mono (HTk.out _ _ _ rfl HRA.out) ?_; rintro r wB ⟨⟨mo, mc, no, nc, rfl, hVB, hPB⟩, hrB, hfB⟩; have HRB : Hid (Rd wB w9.heap.size (str B ++ ⟨#[120]⟩) B.length 0) := hrB; have HFB : Hid _ := hfB; have HVB : Hid _ := hVB; have HPB : Hid _ := hPB; clear hrB hfB hVB hPB)
 generalize hWC : World.alloc wB _ = WC
 obtain ⟨p, hp⟩ : ∃ p, W6.heap.size = p := ⟨_, rfl⟩
 obtain ⟨q, hq⟩ : ∃ q, w9.heap.size = q := ⟨_, rfl⟩
 obtain ⟨S, hS⟩ : ∃ S, str B ++ ⟨#[120]⟩ = S := ⟨_, rfl⟩
 obtain ⟨bx, hx⟩ : ∃ bx, wB.heap.size = bx := ⟨_, rfl⟩
 have hSz : S.size = B.length + 1 := by rw [← hS, ByteArray.size_append, str_size]; rfl
 have HRC : Hid (RJ w WC w.heap.size bk bx p q v5 B S B.length #[.string t, .slice go G.length gc, .slice po ps.length pc, .int .i64 (st : Int), .int .i64 (se : Int), .int .i64 (pa : Int)] #[.string t, .slice ko G.length kc, .slice lo ps.length lc, .int .i64 (st : Int), .int .i64 (se : Int), .int .i64 (pa : Int)] #[.string t, .slice mo G.length mc, .slice no ps.length nc, .int .i64 (st : Int), .int .i64 (se : Int), .int .i64 (pa : Int)] ko lo mo no G ps) := by
  have z6 := HZ6.out
  have hbA : Below w9.heap.size w9 wA := HBA.out
  have hbC : Below wB.heap.size wB WC := by rw [← hWC]; exact one_new _ _
  have fC := Fr.ofBelow hbC (fun _ => False)
  have fA := Fr.ofBelow hbA (fun _ => False)
  have fB : Fr wA wB (fun k => k = w9.heap.size) := HFB.out
  have fp : Fr W6 w9 (fun k => k = W6.heap.size) := HF8.out
  have s1 := fp.size
  have s2 := HW8.out.lt
  have s3 := hbA.size
  have s4 := fB.size
  have kept : ∀ b c, b < W6.heap.size → JobBoxC W6 b c → JobBoxC WC b c := fun b c hb h => jb_fr fC (fun h => h) (jb_fr fB (by omega) (jb_fr fA (fun h => h) (jb_fr fp (by omega) h)))
  have hlow : Below w.heap.size w WC := by
   have h1 := HB8.out.trans (hbA.mono HB8.out.size)
   have h2 := h1.trans (fB.below h1.size (fun k hk => by have := HB6.out.size; omega))
   exact h2.trans (hbC.mono h2.size)
  refine ⟨hlow, kept _ _ (by omega) HJ6.out, kept _ _ (by omega) HK6.out, by rw [← hx, ← hWC]; exact heap_alloc_new _ _, ?_, ?_, ?_, ?_, ?_, ?_⟩
  ·rw [← hp]
   have h1 := HW8.out.kept fA (fun h => h) (fun _ _ h => h)
   have h2 := h1.kept fB (by omega) (fun k hk => by have := HW8.out.olt k hk; omega)
   exact h2.kept fC (fun h => h) (fun _ _ h => h)
  ·rw [← hq, ← hS]
   exact (HRB.out).below hbC
  ·exact (((HV6.out.kept fp (Q := fun k => k < W6.heap.size) (fun k hk hk2 => ⟨by omega, by omega⟩)).kept fA (Q := fun k => k < W6.heap.size) (fun k _ hk => ⟨fun h => h, hk⟩)).kept fB (Q := fun _ => True) (fun k _ hk => ⟨by omega, trivial⟩)).new hbC
  ·exact IsP.at ((((HP6.out.kept fp (Q := fun k => k < W6.heap.size) (fun k hk hk2 => ⟨by omega, by omega⟩)).kept fA (Q := fun k => k < W6.heap.size) (fun k _ hk => ⟨fun h => h, hk⟩)).kept fB (Q := fun _ => True) (fun k _ hk => ⟨by omega, trivial⟩)).new hbC)
  ·exact (VxAt.mono HVB.out (fun _ _ _ => trivial)).new hbC
  ·exact (IsP.at HPB.out).new hbC
 rw [hp, hq, hx]
 clear hWC hp hq hx hS HRA HBA HRB HFB HVB HPB HW8 HB8 HF8 HJ6 HK6 HV6 HP6 HZ6 HB6 HTk
 have HSz : Hid _ := hSz
 clear hSz
 obtain ⟨g0, g1, g2, g3, g4, g5⟩ := job_cells HRC.out.jb
 have tk1 : Hid True := trivial
 go_upto_region 15 with (first
  | (refine wpList_load_row rfl 27 _ rfl w.heap.size rfl 27 #[.string t, .slice go G.length gc, .slice po ps.length pc, .int .i64 (st : Int), .int .i64 (se : Int), .int .i64 (pa : Int)] (0, 0) _ HRC.out.jb Tryz.underlying27 rfl size_jobJ ?_)
  | (go_at_call 6; first
   | (have _t := tk1; refine Calls.mono (HRb.out _ _ _ _ _ (HGw.out _ HRC.out.low).1 (HGw.out _ HRC.out.low).2) ?_; rintro r wD ⟨⟨z1, rfl, hJ1⟩, hbD⟩; have HRD : Hid (RJ w wD w.heap.size bk bx p q v5 B S B.length #[.string t, .slice go G.length gc, .slice po ps.length pc, .int .i64 (st : Int), .int .i64 (se : Int), .int .i64 (pa : Int)] #[.string t, .slice ko G.length kc, .slice lo ps.length lc, .int .i64 (st : Int), .int .i64 (se : Int), .int .i64 (pa : Int)] #[.string t, .slice mo G.length mc, .slice no ps.length nc, .int .i64 (st : Int), .int .i64 (se : Int), .int .i64 (pa : Int)] ko lo mo no G ps) := HRC.out.new hbD; have HJD : Hid _ := hJ1; clear tk1 hbD hJ1; have tk2 : Hid True := trivial)
   | (have _t := tk2; refine Calls.mono (HRb.out _ _ _ _ _ HRE.out.kg HRE.out.kp) ?_; rintro r wF ⟨⟨z2, rfl, hJ2⟩, hbF⟩; have HRF : Hid (RJ w wF w.heap.size bk bx p q v5 B S B.length #[.string t, .slice go G.length gc, .slice po ps.length pc, .int .i64 (st : Int), .int .i64 (se : Int), .int .i64 (pa : Int)] #[.string t, .slice ko G.length kc, .slice lo ps.length lc, .int .i64 (st : Int), .int .i64 (se : Int), .int .i64 (pa : Int)] #[.string t, .slice mo G.length mc, .slice no ps.length nc, .int .i64 (st : Int), .int .i64 (se : Int), .int .i64 (pa : Int)] ko lo mo no G ps) := HRE.out.new hbF; have HJF : Hid _ := hJ2; clear tk2 hbF hJ2; have tk3 : Hid True := trivial)
   | (refine Calls.mono (HRb.out _ _ _ _ _ HRG.out.xg HRG.out.xp) ?_; rintro r wH ⟨⟨z3, rfl, hJ3⟩, hbH⟩; have HRH : Hid (RJ w wH w.heap.size bk bx p q v5 B S B.length #[.string t, .slice go G.length gc, .slice po ps.length pc, .int .i64 (st : Int), .int .i64 (se : Int), .int .i64 (pa : Int)] #[.string t, .slice ko G.length kc, .slice lo ps.length lc, .int .i64 (st : Int), .int .i64 (se : Int), .int .i64 (pa : Int)] #[.string t, .slice mo G.length mc, .slice no ps.length nc, .int .i64 (st : Int), .int .i64 (se : Int), .int .i64 (pa : Int)] ko lo mo no G ps) := HRG.out.new hbH; have HJH : Hid _ := hJ3; clear hbH hJ3))
  | (go_at_call 14; first
   | (have _t := tk3; first
    | (refine Calls.mono (HJH.out _ (Below.refl _ _)) ?_; rintro r wI ⟨rfl, hbI⟩; have HRI : Hid (RJ w wI w.heap.size bk bx p q v5 B S B.length #[.string t, .slice go G.length gc, .slice po ps.length pc, .int .i64 (st : Int), .int .i64 (se : Int), .int .i64 (pa : Int)] #[.string t, .slice ko G.length kc, .slice lo ps.length lc, .int .i64 (st : Int), .int .i64 (se : Int), .int .i64 (pa : Int)] #[.string t, .slice mo G.length mc, .slice no ps.length nc, .int .i64 (st : Int), .int .i64 (se : Int), .int .i64 (pa : Int)] ko lo mo no G ps) := HRH.out.new hbI; have hLe := left_any HRI.out.rd (by rw [HSz.out]; have := HBl.out; unfold maxLen; omega) (by rw [HSz.out]; omega); rw [show ((S.size : Int) - (B.length : Int)) = 1 by rw [HSz.out]; omega] at hLe; have HLe : Hid _ := hLe; clear hbI hLe)
    | (refine Calls.mono (HJF.out _ (Below.refl _ _)) ?_; rintro r wG ⟨rfl, hbG⟩; have HRG : Hid (RJ w wG w.heap.size bk bx p q v5 B S B.length #[.string t, .slice go G.length gc, .slice po ps.length pc, .int .i64 (st : Int), .int .i64 (se : Int), .int .i64 (pa : Int)] #[.string t, .slice ko G.length kc, .slice lo ps.length lc, .int .i64 (st : Int), .int .i64 (se : Int), .int .i64 (pa : Int)] #[.string t, .slice mo G.length mc, .slice no ps.length nc, .int .i64 (st : Int), .int .i64 (se : Int), .int .i64 (pa : Int)] ko lo mo no G ps) := HRF.out.new hbG; clear hbG; obtain ⟨i0, i1, i2, i3, i4, i5⟩ := job_cells HRG.out.xb))
   | (refine Calls.mono (HJD.out _ (Below.refl _ _)) ?_; rintro r wE ⟨rfl, hbE⟩; have HRE : Hid (RJ w wE w.heap.size bk bx p q v5 B S B.length #[.string t, .slice go G.length gc, .slice po ps.length pc, .int .i64 (st : Int), .int .i64 (se : Int), .int .i64 (pa : Int)] #[.string t, .slice ko G.length kc, .slice lo ps.length lc, .int .i64 (st : Int), .int .i64 (se : Int), .int .i64 (pa : Int)] #[.string t, .slice mo G.length mc, .slice no ps.length nc, .int .i64 (st : Int), .int .i64 (se : Int), .int .i64 (pa : Int)] ko lo mo no G ps) := HRD.out.new hbE; clear hbE; obtain ⟨k0, k1, k2, k3, k4, k5⟩ := job_cells HRE.out.kb))
  | (go_at_call 12; refine (wall_any HRG.out.wt).mono ?_; rintro r wJ ⟨rfl, hwJ⟩; subst hwJ)
  | (go_at_call 15; refine Calls.mono HLe.out ?_; rintro r wK ⟨rfl, q9, hq9⟩; have HRK : Hid (RJ w wK w.heap.size bk bx p q v5 B S B.length #[.string t, .slice go G.length gc, .slice po ps.length pc, .int .i64 (st : Int), .int .i64 (se : Int), .int .i64 (pa : Int)] #[.string t, .slice ko G.length kc, .slice lo ps.length lc, .int .i64 (st : Int), .int .i64 (se : Int), .int .i64 (pa : Int)] #[.string t, .slice mo G.length mc, .slice no ps.length nc, .int .i64 (st : Int), .int .i64 (se : Int), .int .i64 (pa : Int)] ko lo mo no G ps) := HRI.out.new (hq9 ▸ bel_drewN (Below.refl _ _) q9); clear hq9))
 have HB4 : Hid (Below w.heap.size w wK) := HRK.out.low
 clear g0 g1 g2 g3 g4 g5 k0 k1 k2 k3 k4 k5 i0 i1 i2 i3 i4 i5 HRb HGw HRC HRD HRE HRF HRG HRH HRI HRK HJD HJF HJH HLe HSz HBl
 rcases HBo.out with ⟨ez, hz, hD, hR⟩ | ⟨t', G', ps', st', se', pa', hj', hok', hpk', hD, hR⟩
 ·have hzb : (ez != 0) = true := by simpa using hz
  have HD : Hid _ := hD
  have HR : Hid _ := hR
  clear hD hR HBo
  go_upto_region 16 with (go_at_call 8; refine Calls.mono (HD.out _) ?_; rintro r x1 ⟨rfl, hb1⟩; have HB1 : Hid (Below w.heap.size w x1) := HB4.out.trans (hb1.mono HB4.out.size); clear hb1)
  generalize hX2 : World.alloc x1 _ = X2
  have HB2 : Hid (Below w.heap.size w X2) := by rw [← hX2]; exact HB1.out.trans ((one_new _ _).mono HB1.out.size)
  have HK2 : Hid (JobBoxC X2 x1.heap.size #[.string ByteArray.empty, .slice none 0 0, .slice none 0 0, .int .i64 0, .int .i64 0, .int .i64 0]) := by rw [← hX2]; exact heap_alloc_new _ _
  clear hX2 HB1
  generalize x1.heap.size = bk at *
  go_upto_region 19 with (go_at_call 16; refine Calls.mono (HR.out _) ?_; rintro r x3 ⟨rfl, hb3⟩; have HB3 : Hid (Below w.heap.size w x3) := HB2.out.trans (hb3.mono HB2.out.size); have HK3 : Hid (JobBoxC x3 bk #[.string ByteArray.empty, .slice none 0 0, .slice none 0 0, .int .i64 0, .int .i64 0, .int .i64 0]) := jb_fr (Fr.ofBelow hb3 (fun _ => False)) (fun h => h) HK2.out; clear hb3)
  generalize hX4 : World.alloc x3 _ = X4
  have hb4 : Below x3.heap.size x3 X4 := by rw [← hX4]; exact one_new _ _
  have HBx : Hid (Below w.heap.size w X4) := HB3.out.trans (hb4.mono HB3.out.size)
  obtain ⟨q0, q1, q2, q3, q4, q5⟩ := job_cells (jb_fr (Fr.ofBelow hb4 (fun _ => False)) (fun h => h) HK3.out)
  have hu : undef = Value.tuple #[] := rfl
  clear hX4 hb4 HK2 HK3 HB2 HB3
  go_quiet (fail)
  all_goals
   go_wp2
   go_ret
   exact ⟨rfl, by first | exact HBx.out | exact bel_drewN HBx.out _ | exact HBx.out.drew⟩
 ·have HD : Hid _ := hD
  have HR : Hid _ := hR
  have HJ' : Hid _ := hj'
  have HO' : Hid (∀ v ∈ G', v.ok) := hok'
  have HP' : Hid (∀ x ∈ ps', I64 x) := hpk'
  clear hD hR HBo hj' hok' hpk'
  go_upto_region 16 with (go_at_call 8; refine Calls.mono (HD.out _) ?_; rintro r x1 ⟨⟨ko, kc, lo, lc, rfl, hV1, hP1⟩, hb1⟩; have HB1 : Hid (Below w.heap.size w x1) := HB4.out.trans (hb1.mono HB4.out.size); have HV1 : Hid _ := hV1; have HP1 : Hid _ := hP1; clear hb1 hV1 hP1)
  generalize hX2 : World.alloc x1 _ = X2
  have hb2 : Below x1.heap.size x1 X2 := by rw [← hX2]; exact one_new _ _
  have HB2 : Hid (Below w.heap.size w X2) := HB1.out.trans (hb2.mono HB1.out.size)
  have HK2 : Hid (JobBoxC X2 x1.heap.size #[.string t', .slice ko G'.length kc, .slice lo ps'.length lc, .int .i64 (st' : Int), .int .i64 (se' : Int), .int .i64 (pa' : Int)]) := by rw [← hX2]; exact heap_alloc_new _ _
  have HV2 : Hid _ := VxAt.new HV1.out hb2
  have HP2 : Hid _ := IsP.new HP1.out hb2
  clear hX2 HB1 hb2 HV1 HP1
  generalize x1.heap.size = bk at *
  go_upto_region 19 with (go_at_call 16; refine Calls.mono (HR.out _) ?_; rintro r x3 ⟨⟨mo, mc, no, nc, rfl, hV3, hP3⟩, hb3⟩; have HB3 : Hid (Below X2.heap.size X2 x3) := hb3; have HV3 : Hid _ := hV3; have HP3 : Hid _ := hP3; clear hb3 hV3 hP3)
  generalize hX4 : World.alloc x3 _ = X4
  have hb4 : Below x3.heap.size x3 X4 := by rw [← hX4]; exact one_new _ _
  have hb24 : Below X2.heap.size X2 X4 := HB3.out.trans (hb4.mono HB3.out.size)
  have HBx : Hid (Below w.heap.size w X4) := HB2.out.trans (hb24.mono HB2.out.size)
  have hK4 := jb_fr (Fr.ofBelow hb24 (fun _ => False)) (fun h => h) HK2.out
  have hX4' : JobBoxR X4 x3.heap.size #[.string t', .slice mo G'.length mc, .slice no ps'.length nc, .int .i64 (st' : Int), .int .i64 (se' : Int), .int .i64 (pa' : Int)] := by rw [← hX4]; exact heap_alloc_new _ _
  have HV4 : Hid _ := VxAt.new HV2.out hb24
  have HP4 : Hid _ := IsP.new HP2.out hb24
  have HV5 : Hid _ := VxAt.new HV3.out hb4
  have HP5 : Hid _ := IsP.new HP3.out hb4
  refine rj_r19 (bk := bk) (bx := x3.heap.size) (z0 := str (jobB t' G' ps' st' se' pa')) rfl rfl rfl rfl hK4 hX4' (fun V hV => refjob_j (VxAt.new HV4.out hV) (IsP.at (IsP.new HP4.out hV)) HO'.out HP'.out HJ'.out) (fun V hV => refbytes_j (VxAt.new HV5.out hV) (IsP.at (IsP.new HP5.out hV)) HO'.out HP'.out HJ'.out) ?_
  intro X W9 hb9 y4
  have HB9 : Hid (Below w.heap.size w W9) := HBx.out.trans (hb9.mono HBx.out.size)
  clear hX4 hb4 hb24 hK4 hX4' hb9 HV2 HV3 HV4 HV5 HP2 HP3 HP4 HP5 HB2 HB3 HBx HK2 HO' HP' HJ' HD HR
  simp only [puts]
  rw [y4]
  simp only [Act.put, List.setIfInBounds_toArray, List.set_cons_succ, List.set_cons_zero]
  go_wp2
  go_ret
  exact ⟨rfl, HB9.out⟩
theorem rjobs_law {w : World} {P : Nat → Prop} {go po : Option Addr} {gn gc pn pc : Nat} {t s : ByteArray} {G : List Vx} {ps : List Int} {st se pa : Int} (hs : s.size ≤ maxLen) (hn : gn = G.length) (hp : pn = ps.length) (hG : VxAt w P go G) (hok : ∀ v ∈ G, v.ok) (hl : G.length * 40 ≤ 140737488355328) (hL : IsAt w po ps) (hpk : ∀ x ∈ ps, I64 x) (hpl : ps.length ≤ 9223372036854775807) :
  Calls Tryz.prog 3 #[.agg #[.string t, .slice go gn gc, .slice po pn pc, .int .i64 st, .int .i64 se, .int .i64 pa], .string s] w fun r w' => r = .returned (.bool true) ∧ Below w.heap.size w w' := by
 by_cases h0 : jobN t G ps st se pa = 0
 ·have hk := jobN_ok h0
  obtain ⟨sn, rfl⟩ : ∃ n : Nat, st = n := ⟨st.toNat, by have := hk.st; omega⟩
  obtain ⟨en, rfl⟩ : ∃ n : Nat, se = n := ⟨se.toNat, by have := hk.se; omega⟩
  obtain ⟨an, rfl⟩ : ∃ n : Nat, pa = n := ⟨pa.toNat, by have := hk.pa; omega⟩
  subst hn
  subst hp
  exact rj_good hs hG hok hl hL hpk h0
 ·exact rj_bad hs hn hp hG hok hl hL hpl rfl h0
section
open Go.RowKit Go.Deep Go.Joins Go.ChangeShapes
theorem cellsL : Tryz.prog.cellsOf 2 = 1 := by kernel_rfl
theorem cellsEs : Tryz.prog.cellsOf 63 = 1 := by kernel_rfl
theorem cellsVs : Tryz.prog.cellsOf 22 = 1 := by kernel_rfl
theorem cellsEd : Tryz.prog.cellsOf 62 = 2 := by kernel_rfl
theorem cellsVx : Tryz.prog.cellsOf 65 = 3 := by kernel_rfl
theorem cellsGr : Tryz.prog.cellsOf 24 = 1 := by kernel_rfl
theorem two_of {α : Type} {l : List α} (h : l.length = 2) : ∃ a b, l = [a, b] := by
 match l, h with
 | [a, b], _ => exact ⟨a, b, rfl⟩
theorem three_of {α : Type} {l : List α} (h : l.length = 3) : ∃ a b c, l = [a, b, c] := by
 match l, h with
 | [a, b, c], _ => exact ⟨a, b, c, rfl⟩
theorem add_none {b off : Nat} (j i : Nat) : (((⟨b, off, none⟩ : Addr).add j).add i) = ⟨b, off + j + i, none⟩ := by
 rw [add_add]
 unfold Addr.add
 split <;> simp_all <;> omega
section
variable {H : Type} {enc : TypeId × Value → H} {w : World} {base : Nat} {spare : Nat → Bool} {held : Bool}
def Ed.data (e : Ed) : DataW H := .agg [.lit (.int .i64 e.t), .lit (.int .i64 e.w)]
theorem i64_of {a : Int} (h : (Lit.int .i64 a).wf = true) : I64 a := by have := bounds_i64 h; unfold I64; omega
theorem open_ed {n : Nat} {cs : List Value} {x : DataW H × List MemPlace} (h : DataW.trod enc Tryz.prog w base spare held n 62 cs = some x) :
  ∃ y : Ed, cs = [.int .i64 y.t, .int .i64 y.w] ∧ x.1 = y.data ∧ y.ok := by
 obtain ⟨y0, y1, m, rfl, hl, h0, h1⟩ := trod_struct2 Tryz.underlying62 h
 rw [cellsEd] at hl
 obtain ⟨v0, v1, rfl⟩ := two_of hl
 simp only [cellsL] at h0 h1
 obtain ⟨a, e0, rfl, wa⟩ := DataW.trod_int Tryz.underlying2 h0
 obtain ⟨b, e1, rfl, wb⟩ := DataW.trod_int Tryz.underlying2 h1
 simp at e0 e1
 subst e0 e1
 exact ⟨⟨a, b⟩, rfl, rfl, ⟨i64_of wa, i64_of wb⟩⟩
theorem open_eds {n : Nat} {cs : List Value} {x : DataW H × List MemPlace} (h : DataW.trod enc Tryz.prog w base spare held n 63 cs = some x) :
  ∃ (ao : Option Addr) (cap : Nat) (L : List Ed), cs = [.slice ao L.length cap] ∧ (∀ y ∈ L, y.ok) ∧ L.length ≤ maxLen ∧ EdAt w (fun k => k < w.heap.size) ao L ∧ ((x.1 = .nil ∧ L = []) ∨ ∃ sp, x.1 = .slice (L.map Ed.data) sp) := by
 rcases open_slice Tryz.underlying63 h with ⟨h0, h1⟩ | ⟨a, len, cap, m, k, D, Pl, rfl, hb, hl, hm, hmm, rfl, hx⟩
 ·exact ⟨none, 0, [], h0, fun y hy => (by cases hy), by simp, fun h => absurd h (by simp), Or.inl ⟨by rw [h1], rfl⟩⟩
 ·have hlm : len ≤ m := by rw [hmm]; split <;> omega
  have each : ∀ i, i < len → ∃ y : Ed, w.cells? base (a.add (i * 2)) 2 = some [.int .i64 y.t, .int .i64 y.w] ∧ D i = y.data ∧ y.ok := by
   intro i hi
   obtain ⟨cs', h1, h2⟩ := hx i (by omega)
   rw [cellsEd] at h1
   obtain ⟨y, rfl, h3, h4⟩ := open_ed h2
   exact ⟨y, h1, h3, h4⟩
  haveI : Inhabited Ed := ⟨⟨0, 0⟩⟩
  obtain ⟨q, hq⟩ := choose_lt each
  have hlen : ((List.range len).map q).length = len := by simp
  refine ⟨some a, cap, (List.range len).map q, by rw [hlen], ?_, by rw [hlen]; omega, ?_, Or.inr ⟨(List.range (m - len)).map fun j => D (len + j), ?_⟩⟩
  ·intro y hy
   obtain ⟨i, hi, rfl⟩ := List.mem_map.1 hy
   exact (hq i (List.mem_range.1 hi)).2.2
  ·intro hpos
   rw [hlen] at hpos
   obtain ⟨_, _, hc0⟩ := World.cells?_some (hq 0 hpos).1
   have hs0 := World.cell?_spot (hc0 0 (by simp))
   have hspot : a.spot = none := by simpa [Addr.add] using hs0
   obtain ⟨b, off, spot⟩ := a
   simp only at hspot
   subst hspot
   have hcell : ∀ j (_ : j < len), w.cell? ⟨b, off + j * 2, none⟩ = some (.int .i64 (q j).t) ∧ w.cell? ⟨b, off + j * 2 + 1, none⟩ = some (.int .i64 (q j).w) := by
    intro j hj
    obtain ⟨_, _, hc⟩ := World.cells?_some (hq j hj).1
    have e0 := hc 0 (by simp)
    have e1 := hc 1 (by simp)
    rw [add_none] at e0 e1
    simp at e0 e1
    exact ⟨e0, e1⟩
   refine ⟨b, off, rfl, lt_cell (hcell 0 hpos).1, ?_⟩
   intro j hj
   have hj' : j < len := by simpa using hj
   simp only [List.getElem_map, List.getElem_range]
   exact hcell j hj'
  ·show DataW.slice _ _ = _
   rw [List.map_map]
   congr 1
   exact List.map_congr_left (fun i hi => (hq i (List.mem_range.1 hi)).2.1)
theorem open_vx {n : Nat} {cs : List Value} {x : DataW H × List MemPlace} (h : DataW.trod enc Tryz.prog w base spare held n 65 cs = some x) :
  ∃ (y : Vx) (eo : Option Addr) (ec : Nat) (dx : DataW H), cs = [.int .i64 y.id, .int .i64 y.val, .slice eo y.es.length ec] ∧ I64 y.id ∧ I64 y.val ∧ (∀ e ∈ y.es, e.ok) ∧ y.es.length ≤ maxLen ∧ EdAt w (fun k => k < w.heap.size) eo y.es ∧ x.1 = .agg [.lit (.int .i64 y.id), .lit (.int .i64 y.val), dx] ∧ ((dx = .nil ∧ y.es = []) ∨ ∃ sp, dx = .slice (y.es.map Ed.data) sp) := by
 obtain ⟨y0, y1, y2, m, rfl, hl, h0, h1, h2⟩ := trod_struct3 Tryz.underlying65 h
 rw [cellsVx] at hl
 obtain ⟨v0, v1, v2, rfl⟩ := three_of hl
 simp only [cellsL, cellsEs] at h0 h1 h2
 obtain ⟨a, e0, rfl, wa⟩ := DataW.trod_int Tryz.underlying2 h0
 obtain ⟨b, e1, rfl, wb⟩ := DataW.trod_int Tryz.underlying2 h1
 obtain ⟨ao, cap, L, hcs, hok, hm, hE, hd⟩ := open_eds h2
 simp at e0 e1 hcs
 subst e0 e1 hcs
 exact ⟨⟨a, b, L⟩, ao, cap, y2.1, rfl, i64_of wa, i64_of wb, hok, hm, hE, rfl, hd⟩
end
end
section
open Go.RowKit Go.Deep Go.Joins Go.ChangeShapes
theorem bytesEd : Tryz.prog.bytesOf 62 = 16 := by kernel_rfl
theorem bytesVx : Tryz.prog.bytesOf 65 = 40 := by kernel_rfl
theorem mem_weightsAll {H : Type} {P : Program} {e : TypeId} : ∀ {ds : List (DataW H)} {d : DataW H} {n : Nat}, d ∈ ds → n ∈ d.weights P e → n ∈ DataW.weightsAll P e ds
 | [], _, _, h, _ => by cases h
 | d0 :: ds, d, n, h, hn => by
  simp only [DataW.weightsAll, List.mem_append]
  rcases List.mem_cons.1 h with rfl | h
  ·exact Or.inl hn
  ·exact Or.inr (mem_weightsAll h hn)
section
variable {H : Type} {enc : TypeId × Value → H} {w : World} {base : Nat} {spare : Nat → Bool} {held : Bool}
theorem vx_weight {y : Vx} {dx : DataW H} (hd : (dx = .nil ∧ y.es = []) ∨ ∃ sp, dx = .slice (y.es.map Ed.data) sp) (hw : ∀ m ∈ (DataW.agg [.lit (.int .i64 y.id), .lit (.int .i64 y.val), dx] : DataW H).weights Tryz.prog 65, m ≤ reachBytes) : y.es.length ≤ 8796093022208 := by
 rcases hd with ⟨_, h⟩ | ⟨sp, rfl⟩
 ·rw [h]; simp
 ·have := hw ((y.es.length + sp.length) * 16) (by
   have hu := Tryz.underlying65
   have hv := Tryz.underlying63
   simp [DataW.weights, DataW.weightsEach, hu, hv, bytesEd])
  unfold reachBytes at this
  omega
theorem open_vs {n : Nat} {cs : List Value} {x : DataW H × List MemPlace} (h : DataW.trod enc Tryz.prog w base spare held n 22 cs = some x) (hw : ∀ m ∈ x.1.weights Tryz.prog 22, m ≤ reachBytes) :
  ∃ (ao : Option Addr) (cap : Nat) (G : List Vx), cs = [.slice ao G.length cap] ∧ (∀ y ∈ G, y.ok) ∧ G.length * 40 ≤ 140737488355328 ∧ VxAt w (fun k => k < w.heap.size) ao G := by
 rcases open_slice Tryz.underlying22 h with ⟨h0, h1⟩ | ⟨a, len, cap, m, k, D, Pl, rfl, hb, hl, hm, hmm, rfl, hx⟩
 ·exact ⟨none, 0, [], h0, fun y hy => (by cases hy), by simp, fun h => absurd h (by simp)⟩
 ·have hlm : len ≤ m := by rw [hmm]; split <;> omega
  have hv := Tryz.underlying22
  have hlen40 : len * 40 ≤ 140737488355328 := by
   have := hw ((((List.range len).map D).length + ((List.range (m - len)).map fun j => D (len + j)).length) * 40) (by simp [DataW.weights, hv, bytesVx])
   unfold reachBytes at this
   simp only [List.length_map, List.length_range] at this
   omega
  have each : ∀ i, i < len → ∃ y : Vx, (∃ eo ec, w.cells? base (a.add (i * 3)) 3 = some [.int .i64 y.id, .int .i64 y.val, .slice eo y.es.length ec] ∧ EdAt w (fun k => k < w.heap.size) eo y.es) ∧ y.ok := by
   intro i hi
   obtain ⟨cs', h1, h2⟩ := hx i (by omega)
   rw [cellsVx] at h1
   obtain ⟨y, eo, ec, dx, rfl, hid, hvl, hes, _, hE, hD, hd⟩ := open_vx h2
   refine ⟨y, ⟨eo, ec, h1, hE⟩, hid, hvl, hes, vx_weight hd (fun m hm => hw m ?_)⟩
   simp only [DataW.weights, hv]
   refine List.mem_cons_of_mem _ (List.mem_append_left _ (mem_weightsAll (d := D i) (List.mem_map.2 ⟨i, List.mem_range.2 hi, rfl⟩) ?_))
   have hD' : D i = _ := hD
   rw [hD']
   exact hm
  haveI : Inhabited Vx := ⟨⟨0, 0, []⟩⟩
  obtain ⟨q, hq⟩ := choose_lt each
  have hlen : ((List.range len).map q).length = len := by simp
  refine ⟨some a, cap, (List.range len).map q, by rw [hlen], ?_, by rw [hlen]; exact hlen40, ?_⟩
  ·intro y hy
   obtain ⟨i, hi, rfl⟩ := List.mem_map.1 hy
   exact (hq i (List.mem_range.1 hi)).2
  ·intro hpos
   rw [hlen] at hpos
   obtain ⟨eo0, ec0, hq0, _⟩ := (hq 0 hpos).1
   obtain ⟨_, _, hc0⟩ := World.cells?_some hq0
   have hs0 := World.cell?_spot (hc0 0 (by simp))
   have hspot : a.spot = none := by simpa [Addr.add] using hs0
   obtain ⟨b, off, spot⟩ := a
   simp only at hspot
   subst hspot
   have hcell : ∀ j (_ : j < len), VxCell w (fun k => k < w.heap.size) b (off + j * 3) (q j) := by
    intro j hj
    obtain ⟨eo, ec, hqj, hE⟩ := (hq j hj).1
    obtain ⟨_, _, hc⟩ := World.cells?_some hqj
    have e0 := hc 0 (by simp)
    have e1 := hc 1 (by simp)
    have e2 := hc 2 (by simp)
    rw [add_none] at e0 e1 e2
    simp at e0 e1 e2
    exact ⟨eo, ec, e0, e1, e2, hE⟩
   refine ⟨b, off, rfl, ?_, ?_⟩
   ·obtain ⟨_, _, e0, _⟩ := hcell 0 hpos
    exact lt_cell e0
   ·intro j hj
    have hj' : j < len := by simpa using hj
    simp only [List.getElem_map, List.getElem_range]
    exact hcell j hj'
theorem open_gr {n : Nat} {cs : List Value} {x : DataW H × List MemPlace} (h : DataW.trod enc Tryz.prog w base spare held n 24 cs = some x) (hw : ∀ m ∈ x.1.weights Tryz.prog 24, m ≤ reachBytes) :
  ∃ (ao : Option Addr) (cap : Nat) (G : List Vx), cs = [.slice ao G.length cap] ∧ (∀ y ∈ G, y.ok) ∧ G.length * 40 ≤ 140737488355328 ∧ VxAt w (fun k => k < w.heap.size) ao G := by
 obtain ⟨y0, m, rfl, hl, h0⟩ := trod_struct1 Tryz.underlying24 h
 rw [cellsGr] at hl
 obtain ⟨v0, rfl⟩ : ∃ v, cs = [v] := List.length_eq_one_iff.1 hl
 simp only [cellsVs] at h0
 refine open_vs (x := y0) (by simpa using h0) (fun k hk => hw k ?_)
 have hu := Tryz.underlying24
 simp [DataW.weights, DataW.weightsEach, hu]
 exact hk
end
end
section
open Go.RowKit Go.Deep Go.Joins Go.ChangeShapes
def KsAt (w : World) (P : Nat → Prop) (ao : Option Addr) (L : List Msg) : Prop :=
 0 < L.length → ∃ b off, ao = some ⟨b, off, none⟩ ∧ P b ∧ ∀ j (h : j < L.length), w.cell? ⟨b, off + j * 4, none⟩ = some (.int .i64 L[j].f) ∧ w.cell? ⟨b, off + j * 4 + 1, none⟩ = some (.int .i64 L[j].t) ∧ w.cell? ⟨b, off + j * 4 + 2, none⟩ = some (.int .i64 L[j].a) ∧ w.cell? ⟨b, off + j * 4 + 3, none⟩ = some (.int .i64 L[j].v)
theorem KsAt.new {w w' : World} {P : Nat → Prop} {ao : Option Addr} {L : List Msg} (h : KsAt w P ao L) (hb : Below w.heap.size w w') : KsAt w' P ao L := by
 intro hl
 obtain ⟨b, off, e, hP, hc⟩ := h hl
 exact ⟨b, off, e, hP, fun j hj => by
  obtain ⟨c0, c1, c2, c3⟩ := hc j hj
  exact ⟨(hb.cell (p := ⟨b, _, none⟩) (lt_cell c0)).trans c0, (hb.cell (p := ⟨b, _, none⟩) (lt_cell c0)).trans c1, (hb.cell (p := ⟨b, _, none⟩) (lt_cell c0)).trans c2, (hb.cell (p := ⟨b, _, none⟩) (lt_cell c0)).trans c3⟩⟩
theorem k_cellsI6 : Tryz.prog.cellsOf 2 = 1 := by kernel_rfl
section
variable {H : Type} {enc : TypeId × Value → H} {w : World} {base : Nat} {spare : Nat → Bool} {held : Bool}
theorem k_i64_of {a : Int} (h : (Lit.int .i64 a).wf = true) : I64 a := by have := bounds_i64 h; unfold I64; omega
theorem openK_ints {n : Nat} {cs : List Value} {x : DataW H × List MemPlace} (h : DataW.trod enc Tryz.prog w base spare held n 25 cs = some x) :
  ∃ (ao : Option Addr) (cap : Nat) (L : List Int), cs = [.slice ao L.length cap] ∧ (∀ y ∈ L, I64 y) ∧ (0 < L.length → ∃ b off, ao = some ⟨b, off, none⟩ ∧ ∀ j (h : j < L.length), w.cell? ⟨b, off + j, none⟩ = some (.int .i64 L[j])) := by
 rcases open_ints Tryz.underlying25 Tryz.underlying2 k_cellsI6 h with ⟨hcs, _⟩ | ⟨a, len, cap, zs, hcs, _, hl, _, hz, _, hcell, hwz⟩
 ·exact ⟨none, 0, [], hcs, fun y hy => (by cases hy), fun h => absurd h (by simp)⟩
 ·have hlen : len ≤ zs.length := by rw [hz]; split <;> omega
  have e : (zs.take len).length = len := by rw [List.length_take]; omega
  refine ⟨some a, cap, zs.take len, by rw [e]; exact hcs, fun y hy => k_i64_of (hwz y (List.mem_of_mem_take hy)), fun hp => ?_⟩
  rw [e] at hp
  have c0 := hcell 0 (by omega)
  have hspot : a.spot = none := by simpa [Addr.add] using World.cell?_spot c0
  obtain ⟨b, off, spot⟩ := a
  simp only at hspot
  subst hspot
  refine ⟨b, off, rfl, fun j hj => ?_⟩
  rw [e] at hj
  have := hcell j (by omega)
  rw [Addr.add_lit] at this
  rw [this, List.getElem_take]
  simp [List.getD, show j < zs.length by omega]
end
end
section
open Go.RowKit Go.Deep Go.Joins Go.ChangeShapes
theorem cellsJob : Tryz.prog.cellsOf 27 = 6 := by kernel_rfl
theorem cellsStrJ : Tryz.prog.cellsOf 9 = 1 := by kernel_rfl
theorem cellsGrJ : Tryz.prog.cellsOf 24 = 1 := by kernel_rfl
theorem cellsPsJ : Tryz.prog.cellsOf 25 = 1 := by kernel_rfl
theorem cellsIntJ : Tryz.prog.cellsOf 3 = 1 := by kernel_rfl
theorem six_ofJ {α : Type} {l : List α} (h : l.length = 6) : ∃ a b c d e f, l = [a, b, c, d, e, f] := by
 match l, h with
 | [a, b, c, d, e, f], _ => exact ⟨a, b, c, d, e, f, rfl⟩
section
variable {H : Type} {enc : TypeId × Value → H} {w : World} {base : Nat} {spare : Nat → Bool} {held : Bool}
theorem j_struct6 {t : TypeId} {f0 f1 f2 f3 f4 f5 : Field} {fuel : Nat} {cs : List Value} {x : DataW H × List MemPlace} (ht : Tryz.prog.underlying t = some (.struct #[f0, f1, f2, f3, f4, f5])) (h : DataW.trod enc Tryz.prog w base spare held fuel t cs = some x) :
  ∃ y0 y1 y2 y3 y4 y5 n, x.1 = .agg [y0.1, y1.1, y2.1, y3.1, y4.1, y5.1] ∧ cs.length = Tryz.prog.cellsOf t ∧ DataW.trod enc Tryz.prog w base spare held n f0.type ((cs.drop f0.offset).take (Tryz.prog.cellsOf f0.type)) = some y0 ∧ DataW.trod enc Tryz.prog w base spare held n f1.type ((cs.drop f1.offset).take (Tryz.prog.cellsOf f1.type)) = some y1 ∧ DataW.trod enc Tryz.prog w base spare held n f2.type ((cs.drop f2.offset).take (Tryz.prog.cellsOf f2.type)) = some y2 ∧ DataW.trod enc Tryz.prog w base spare held n f3.type ((cs.drop f3.offset).take (Tryz.prog.cellsOf f3.type)) = some y3 ∧ DataW.trod enc Tryz.prog w base spare held n f4.type ((cs.drop f4.offset).take (Tryz.prog.cellsOf f4.type)) = some y4 ∧ DataW.trod enc Tryz.prog w base spare held n f5.type ((cs.drop f5.offset).take (Tryz.prog.cellsOf f5.type)) = some y5 := by
 obtain ⟨xs, n, _, rfl, hl, hlen, hf⟩ := DataW.trod_struct ht h
 match xs, hlen with
 | [y0, y1, y2, y3, y4, y5], _ => exact ⟨y0, y1, y2, y3, y4, y5, n, by simp, hl, by simpa using hf 0 f0 rfl, by simpa using hf 1 f1 rfl, by simpa using hf 2 f2 rfl, by simpa using hf 3 f3 rfl, by simpa using hf 4 f4 rfl, by simpa using hf 5 f5 rfl⟩
theorem openJ_ints {n : Nat} {cs : List Value} {x : DataW H × List MemPlace} (h : DataW.trod enc Tryz.prog w base spare held n 25 cs = some x) :
  ∃ (ao : Option Addr) (cap : Nat) (L : List Int), cs = [.slice ao L.length cap] ∧ (∀ y ∈ L, I64 y) ∧ L.length ≤ maxLen ∧ (0 < L.length → ∃ b off, ao = some ⟨b, off, none⟩ ∧ ∀ j (h : j < L.length), w.cell? ⟨b, off + j, none⟩ = some (.int .i64 L[j])) := by
 obtain ⟨ao, cap, L, hcs, h1, h2⟩ := openK_ints h
 refine ⟨ao, cap, L, hcs, h1, ?_, h2⟩
 rcases open_ints Tryz.underlying25 Tryz.underlying2 k_cellsI6 h with ⟨hcs', _⟩ | ⟨a, len, cap', zs, hcs', _, hl, hm, _⟩
 ·rw [hcs] at hcs'
  simp at hcs'
  rw [hcs'.2.1]
  simp
 ·rw [hcs] at hcs'
  simp at hcs'
  omega
theorem open_job {n : Nat} {cs : List Value} {x : DataW H × List MemPlace} (h : DataW.trod enc Tryz.prog w base spare held n 27 cs = some x) (hw : ∀ m ∈ x.1.weights Tryz.prog 27, m ≤ reachBytes) :
  ∃ (t : ByteArray) (go po : Option Addr) (gc pc : Nat) (G : List Vx) (ps : List Int) (st se pa : Int), cs = [.string t, .slice go G.length gc, .slice po ps.length pc, .int .i64 st, .int .i64 se, .int .i64 pa] ∧ (∀ y ∈ G, y.ok) ∧ G.length * 40 ≤ 140737488355328 ∧ VxAt w (fun k => k < w.heap.size) go G ∧ (∀ y ∈ ps, I64 y) ∧ ps.length ≤ maxLen ∧ IsAt w po ps := by
 obtain ⟨y0, y1, y2, y3, y4, y5, m, hx, hl, f0, f1, f2, f3, f4, f5⟩ := j_struct6 Tryz.underlying27 h
 rw [cellsJob] at hl
 obtain ⟨x0, x1, x2, x3, x4, x5, rfl⟩ := six_ofJ hl
 simp only [cellsStrJ, cellsGrJ, cellsPsJ, cellsIntJ, List.drop, List.take] at f0 f1 f2 f3 f4 f5
 obtain ⟨t, e0, _, _⟩ := DataW.trod_string Tryz.underlying9 f0
 obtain ⟨go, gc, G, e1, hok, hlen, hG⟩ := open_gr f1 (fun k hk => hw k (by
  have hu := Tryz.underlying27
  rw [hx]
  simp [DataW.weights, DataW.weightsEach, hu]
  exact Or.inr (Or.inl hk)))
 obtain ⟨po, pc, ps, e2, hpk, hpl, hP⟩ := openJ_ints f2
 obtain ⟨st, e3, _, _⟩ := DataW.trod_int Tryz.underlying3 f3
 obtain ⟨se, e4, _, _⟩ := DataW.trod_int Tryz.underlying3 f4
 obtain ⟨pa, e5, _, _⟩ := DataW.trod_int Tryz.underlying3 f5
 simp only [List.cons.injEq, and_true] at e0 e1 e2 e3 e4 e5
 subst e0 e1 e2 e3 e4 e5
 exact ⟨t, go, po, gc, pc, G, ps, st, se, pa, rfl, hok, hlen, hG, hpk, hpl, hP⟩
end
end
end Go.Proofs.YtmgjlamglhpnaaaGreat
