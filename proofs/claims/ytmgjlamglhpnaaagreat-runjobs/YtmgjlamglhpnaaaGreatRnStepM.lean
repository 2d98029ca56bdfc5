/- What Step does: a superstep of a part. -/
import Derived.Test.YtmgjlamglhpnaaaGreatKnSaidM
import Derived.Test.YtmgjlamglhpnaaaGreatRnStep12M
import Derived.Deep.Cut
import Derived.Deep.DeepCutAuto
namespace Go.Proofs.YtmgjlamglhpnaaaGreat
open Go.RowKit
theorem res4 {fn : Func} {x y p u : Tmp} {ty : TypeId} (h : fn.results = #[.tmp x, .tmp y, .cell p ty, .tmp u]) (tmps : Array Value) (w : World) (g : Nat) (t : TypeId) (cs : Array Value) (fr : Nat × Nat) (d : TypeDesc)
  (hp : tmps.getD p undef = .pointer (some ⟨g, 0, none⟩)) (hg : w.heap[g]? = some (.cells cs t fr)) (hu : Tryz.prog.underlying ty = some d) (hd : (match d with | .struct _ | .array _ _ => true | _ => false) = true) (hi : (Tryz.prog.info? ty).map (·.size) = some cs.size) :
  (results fn tmps).run Tryz.prog w = .ok (.tuple #[tmps.getD x undef, tmps.getD y undef, .agg cs, tmps.getD u undef]) w := by
 have := run_loadVar_row (P := Tryz.prog) w g t ty cs fr d hg hu (by cases d <;> first | rfl | exact hd) hi
 rw [Array.getD_eq_getD_getElem?] at hp
 simp only [results, h]
 simp [Result.andThen, hp, asAddr, this]
def JobBox (W : World) (b : Nat) (c : Array Value) : Prop := W.heap[b]? = some (.cells c 27 (0, 0))
def StepA (w w' : World) (S : Nat → Prop) (p n : Nat) (s : St) (sv : Value) (hm : Nat) (r : Ending) : Option Acc → Prop
 | none => r = .returned (.tuple #[.slice none 0 0, .slice none 0 0, .agg #[.bool false, .bool false, .bool false, .bool false, .bool false, .int .i64 0, .int .i64 0, .int .i64 0, .int .i64 0, .int .i64 0], .int .i64 20]) ∧ Fr w w' S
 | some a => ∃ so sc ao ac M' bx', r = .returned (.tuple #[.slice so a.sent.length sc, .slice ao a.asked.length ac, .agg #[.bool (oh a.gave 0), .bool (oh a.gave 1), .bool (oh a.gave 2), .bool (oh a.gave 3), .bool (oh a.gave 4), .int .i64 (ov a.gave 0), .int .i64 (ov a.gave 1), .int .i64 (ov a.gave 2), .int .i64 (ov a.gave 3), .int .i64 (ov a.gave 4)], .int .i64 0]) ∧ KM w' w.heap.size (.slice so a.sent.length sc) a.sent ∧ KU w' w.heap.size (.slice ao a.asked.length ac) a.asked ∧ PA w' (fun k => S k ∨ w.heap.size ≤ k) p (n + s.G.length) ⟨a.s.G, a.s.H, []⟩ sv M' hm bx' (fun q => q = bx') ∧ Fr w w' S ∧ OkO a.gave ∧ SInv s s.G.length a
theorem stepsP_none {f : PStep} {k step : Int} {bef : Nat → Option Int} {mny : Int} {s : St} {j : Nat} (h : stepsP f k step bef mny s j = none) : ∀ d, stepsP f k step bef mny s (j + d) = none
 | 0 => h
 | d + 1 => by show (stepsP f k step bef mny s (j + d)).bind _ = none; rw [stepsP_none h d]; rfl
theorem OkO.merge {a b : Nat → Option Int} (ha : OkO a) (hb : OkO b) : OkO (mergeO a b) := by
 unfold mergeO
 split
 ·exact mrg_ok ha hb 5
 ·exact ha
theorem le_more {x j c : Nat} (h : x ≤ j * c) : x ≤ (j + 1) * c := Nat.le_trans h (Nat.mul_le_mul_right c (Nat.le_succ j))
theorem le_adds {x y j c : Nat} (h : x ≤ j * c) (h2 : y ≤ c) : x + y ≤ (j + 1) * c := by rw [Nat.succ_mul]; omega
theorem le_tops {x j c d : Nat} (h : x ≤ j * c) (hj : j ≤ d) : x ≤ d * c := Nat.le_trans h (Nat.mul_le_mul_right c hj)
theorem OutBox.agg {W : World} {b : Nat} {a0 a1 a2 a3 a4 a5 a6 a7 a8 a9 a10 a11 a12 a13 a14 : Value} (h : OutBox W b #[a0, a1, a2, a3, a4, a5, a6, a7, a8, a9, a10, a11, a12, a13, a14]) : W.rangeAt b 4 [a4, a5, a6, a7, a8, a9, a10, a11, a12, a13] := by
 intro j v hv
 unfold OutBox at h
 match j, hv with
 | 0, hv => simp [World.cell?, h]; simpa using hv
 | 1, hv => simp [World.cell?, h]; simpa using hv
 | 2, hv => simp [World.cell?, h]; simpa using hv
 | 3, hv => simp [World.cell?, h]; simpa using hv
 | 4, hv => simp [World.cell?, h]; simpa using hv
 | 5, hv => simp [World.cell?, h]; simpa using hv
 | 6, hv => simp [World.cell?, h]; simpa using hv
 | 7, hv => simp [World.cell?, h]; simpa using hv
 | 8, hv => simp [World.cell?, h]; simpa using hv
 | 9, hv => simp [World.cell?, h]; simpa using hv
 | j + 10, hv => simp at hv
structure SL (w w2 wr : World) (S : Nat → Prop) (p n : Nat) (f : PStep) (k step : Int) (bef : Nat → Option Int) (mny : Int) (s : St) (sv : Value) (hm bx : Nat) (SB : Nat → Prop) (pv : Value) (jc : Array Value) (fb rb gb : Nat) (j : Nat) (a : Acc) (tv uv : Value) : Prop where
 acc : stepsP f k step bef mny s j = some a
 inv : SInv s j a
 part : ∃ M', PA wr (fun k => S k ∧ k < w.heap.size) p (n + j) a.s sv M' hm bx SB
 job : JobBox wr w.heap.size jc
 befo : AgBox wr fb #[.bool (oh bef 0), .bool (oh bef 1), .bool (oh bef 2), .bool (oh bef 3), .bool (oh bef 4), .int .i64 (ov bef 0), .int .i64 (ov bef 1), .int .i64 (ov bef 2), .int .i64 (ov bef 3), .int .i64 (ov bef 4)]
 res : AgBox wr rb #[.bool false, .bool false, .bool false, .bool false, .bool false, .int .i64 0, .int .i64 0, .int .i64 0, .int .i64 0, .int .i64 0]
 gav : AgBox wr gb #[.bool (oh a.gave 0), .bool (oh a.gave 1), .bool (oh a.gave 2), .bool (oh a.gave 3), .bool (oh a.gave 4), .int .i64 (ov a.gave 0), .int .i64 (ov a.gave 1), .int .i64 (ov a.gave 2), .int .i64 (ov a.gave 3), .int .i64 (ov a.gave 4)]
 row : KN wr (w.heap.size + 4) pv s.G.length
 rowlt : ∀ k, pv.ownBlock = some k → k < w2.heap.size
 sen : KM wr w2.heap.size tv a.sent
 ask : KU wr w2.heap.size uv a.asked
 len1 : a.sent.length ≤ j * 1048576
 len2 : a.asked.length ≤ j * 1048576
 okg : OkO a.gave
 low : Fr w wr S
 size : w2.heap.size ≤ wr.heap.size
 big : w.heap.size + 4 ≤ w2.heap.size
section
variable {w : World} {S : Nat → Prop} {p n : Nat} {s : St} {sv : Value} {M : List (Vx × Value)} {hm bx : Nat} {SB : Nat → Prop}
theorem turn_any (h : PA w S p n s sv M hm bx SB) (hnm : n < maxLen) (hB : s.B.length * 32 ≤ 140737488355328) (hok : ∀ m ∈ s.B, m.ok) {i : Nat} (hi : i < s.G.length) (hl : s.G.length ≤ 1073741824) (v : Vx) (hv : s.G[i] = v) (hid : I64 v.id) {pr : Value} {k : Int} (hCo : ∀ W, Calls Tryz.prog 108 #[pr] W fun r w' => r = .returned (.int .i64 k) ∧ w' = W)
  {f : PStep} {ps : List Int} {step mny : Int} {bef : Nat → Option Int} {po : Option Addr} {pn pc : Nat} (hpn : pn = ps.length) (hps : IsAt w po ps) (hSt : ∀ l, combO k (sortM (toV s.B v.id)) = some l → StepC pr f ps step bef mny v l) {tO : Option POut} (ht : turnP f k step bef mny s.B v = tO) :
  Calls Tryz.prog 85 #[.pointer (some ⟨p, 0, none⟩), .int .i64 i, pr, .agg #[.int .i64 step, .int .i64 0, .int .i64 0, .slice none 0 0, .bool false, .slice none 0 0, .bool (oh bef 0), .bool (oh bef 1), .bool (oh bef 2), .bool (oh bef 3), .bool (oh bef 4), .int .i64 (ov bef 0), .int .i64 (ov bef 1), .int .i64 (ov bef 2), .int .i64 (ov bef 3), .int .i64 (ov bef 4), .int .i64 mny, .slice po pn pc]] w fun r w' => StepR w w' r tO ∧ TurnA w w' S p n s sv M hm bx SB i v tO := by
 unfold turnP at ht
 cases hc : combO k (sortM (toV s.B v.id)) with
 | none =>
  rw [hc] at ht
  subst ht
  refine (turn_none h hB hok hi (by omega) hl v hv hid hCo hc).mono ?_
  rintro r w' ⟨rfl, h1, h2⟩
  exact ⟨⟨20, by decide, rfl⟩, h1, h2⟩
 | some l =>
  rw [hc] at ht
  exact turn_some h hnm hB hok hi hl v hv hid hCo hc hpn hps (hSt l hc) ht
theorem fresh4 (w : World) (a b c d : Obj) {W : World} (h : (((w.alloc a).alloc b).alloc c).alloc d = W) : W.heap[w.heap.size]? = some a ∧ W.heap[w.heap.size + 1]? = some b ∧ W.heap[w.heap.size + 1 + 1]? = some c ∧ W.heap[w.heap.size + 1 + 1 + 1]? = some d ∧ Below w.heap.size w W ∧ W.heap.size = w.heap.size + 4 := by
 have h1 := heap_alloc_new w a
 have h2 := heap_alloc_new (w.alloc a) b
 have h3 := heap_alloc_new ((w.alloc a).alloc b) c
 have h4 := heap_alloc_new (((w.alloc a).alloc b).alloc c) d
 simp only [World.size_alloc] at h2 h3 h4
 have k1 := fun W o => one_newK W o
 rw [← h]
 have b1 := one_newK (w.alloc a) b
 have b2 := one_newK ((w.alloc a).alloc b) c
 have b3 := one_newK (((w.alloc a).alloc b).alloc c) d
 refine ⟨?_, ?_, ?_, h4, ?_, by simp⟩
 ·exact (b3.block _ (by simp only [World.size_alloc]; omega)).trans ((b2.block _ (by simp only [World.size_alloc]; omega)).trans ((b1.block _ (by simp only [World.size_alloc]; omega)).trans h1))
 ·exact (b3.block _ (by simp only [World.size_alloc]; omega)).trans ((b2.block _ (by simp only [World.size_alloc]; omega)).trans h2)
 ·exact (b3.block _ (by simp only [World.size_alloc]; omega)).trans h3
 ·exact (one_newK w a).trans ((b1.mono (by simp only [World.size_alloc]; omega)).trans ((b2.mono (by simp only [World.size_alloc]; omega)).trans (b3.mono (by simp only [World.size_alloc]; omega))))
set_option maxRecDepth 100000 in
set_option maxHeartbeats 4000000 in
theorem step_any (h : PA w S p n s sv M hm bx SB) (hr : Rise (ids s.G)) (hl : s.G.length ≤ 1024) (hnm : n + s.G.length ≤ 1073741824) (hB : s.B.length * 32 ≤ 140737488355328) (hok : ∀ m ∈ s.B, m.ok) (hokG : ∀ v ∈ s.G, v.ok) {pr : Value} {k : Int} (hCo : ∀ W, Calls Tryz.prog 108 #[pr] W fun r w' => r = .returned (.int .i64 k) ∧ w' = W)
  {f : PStep} {ps : List Int} {step mny : Int} {bef : Nat → Option Int} {po go : Option Addr} {pn pc gn gc : Nat} {st se pa : Int} (hpn : pn = ps.length) (hps : ∀ W, Fr w W S → IsAt W po ps)
  (hSt : ∀ v ∈ s.G, act s v.id = true → ∀ l, combO k (sortM (toV s.B v.id)) = some l → StepC pr f ps step bef mny v l ∧ ∀ o, f step v l bef mny = some o → o.sent.length ≤ 1048576 ∧ o.asked.length ≤ 1048576 ∧ OkO o.agg)
  {res : Option Acc} (hres : stepsP f k step bef mny s s.G.length = res) :
  Calls Tryz.prog 53 #[.pointer (some ⟨p, 0, none⟩), .agg #[pr, .slice go gn gc, .slice po pn pc, .int .i64 st, .int .i64 se, .int .i64 pa], .int .i64 step, .int .i64 mny, .agg #[.bool (oh bef 0), .bool (oh bef 1), .bool (oh bef 2), .bool (oh bef 3), .bool (oh bef 4), .int .i64 (ov bef 0), .int .i64 (ov bef 1), .int .i64 (ov bef 2), .int .i64 (ov bef 3), .int .i64 (ov bef 4)]] w fun r w' => StepA w w' S p n s sv hm r res := by
 have h' := h.mono (T := fun k => S k ∧ k < w.heap.size) (fun k hk hs => ⟨hs, hk⟩)
 obtain ⟨N, HN⟩ : ∃ N, Hid (N = s.G.length) := ⟨_, rfl⟩
 have HP : Hid (PA w (fun k => S k ∧ k < w.heap.size) p n s sv M hm bx SB) := h'
 have HR : Hid (Rise (ids s.G)) := hr
 have HOk : Hid (∀ m ∈ s.B, m.ok) := hok
 have HOkG : Hid (∀ v ∈ s.G, v.ok) := hokG
 have HCo : Hid (∀ W, Calls Tryz.prog 108 #[pr] W fun r w' => r = .returned (.int .i64 k) ∧ w' = W) := hCo
 have HPn : Hid _ := hpn
 have HPs : Hid (∀ W, Fr w W S → IsAt W po ps) := hps
 have HSt : Hid (∀ v ∈ s.G, act s v.id = true → ∀ l, combO k (sortM (toV s.B v.id)) = some l → StepC pr f ps step bef mny v l ∧ ∀ o, f step v l bef mny = some o → o.sent.length ≤ 1048576 ∧ o.asked.length ≤ 1048576 ∧ OkO o.agg) := hSt
 have HRes : Hid (stepsP f k step bef mny s N = res) := by rw [HN.out]; exact hres
 have hN : N ≤ 1024 := by rw [HN.out]; exact hl
 have hnN : n + N ≤ 1073741824 := by rw [HN.out]; exact hnm
 clear h h' hr hok hokG hCo hpn hps hSt hres hl hnm
 go_enter Tryz.func53, Tryz.ntmps53
 go_upto_region 4 with (fail)
 generalize hW : World.alloc _ _ = W1
 obtain ⟨k0, k1, k2, k3, kb, ks⟩ := fresh4 w _ _ _ _ hW
 generalize hgb : w.heap.size + 1 + 1 + 1 = gb at k3 ⊢
 generalize hrb : w.heap.size + 1 + 1 = rb at k2 hgb ⊢
 generalize hfb : w.heap.size + 1 = fb at k1 hrb ⊢
 have HL : Hid (fb = w.heap.size + 1 ∧ rb = w.heap.size + 2 ∧ gb = w.heap.size + 3) := ⟨by omega, by omega, by omega⟩
 have HK0 : Hid (JobBox W1 w.heap.size #[pr, .slice go gn gc, .slice po pn pc, .int .i64 st, .int .i64 se, .int .i64 pa]) := k0
 have HK1 : Hid (AgBox W1 fb #[.bool (oh bef 0), .bool (oh bef 1), .bool (oh bef 2), .bool (oh bef 3), .bool (oh bef 4), .int .i64 (ov bef 0), .int .i64 (ov bef 1), .int .i64 (ov bef 2), .int .i64 (ov bef 3), .int .i64 (ov bef 4)]) := k1
 have HK2 : Hid (AgBox W1 rb #[.bool false, .bool false, .bool false, .bool false, .bool false, .int .i64 0, .int .i64 0, .int .i64 0, .int .i64 0, .int .i64 0]) := k2
 have HK3 : Hid (AgBox W1 gb #[.bool false, .bool false, .bool false, .bool false, .bool false, .int .i64 0, .int .i64 0, .int .i64 0, .int .i64 0, .int .i64 0]) := k3
 have HB1 : Hid _ := kb
 have HS1 : Hid _ := ks
 have HP1 : Hid _ := HP.out.new kb
 clear k0 k1 k2 k3 kb ks hW hgb hrb hfb
 obtain ⟨svo, scap, hsv, _⟩ := HP.out.at_
 rw [← HN.out] at hsv
 subst hsv
 have HBy : Hid _ := byNumber_any HP1.out HR.out (by rw [← HN.out]; omega)
 rw [← HN.out] at HBy
 go_wp2_with (go_at_call 84; refine Calls.mono HBy.out ?_; rintro r w2 ⟨pv, rfl, hkn, hb2⟩; obtain ⟨pvo, pvc, rfl⟩ := k_shape hkn; have HKN : Hid _ := hkn; have HB2 : Hid _ := hb2; clear hkn hb2)
 have HB2w : Hid (Below w.heap.size w w2) := HB1.out.trans (HB2.out.mono HB1.out.size)
 go_loopw [14, 15, 18, 19, 20, 21, 26] (fun tv uv _ _ _ _ ix wr => ∃ (j : Nat) (a : Acc), j ≤ N ∧ ix = .int .i64 j ∧ SL w w2 wr S p n f k step bef mny s (.slice svo N scap) hm bx SB (.slice pvo N pvc) #[pr, .slice go gn gc, .slice po pn pc, .int .i64 st, .int .i64 se, .int .i64 pa] fb rb gb j a tv uv) (fun _ _ _ _ _ _ ix _ => N - (intOf ix).toNat)
 case atStart =>
  refine ⟨0, ⟨s, fun _ => none, [], []⟩, Nat.zero_le _, rfl, rfl, SInv.start s, ⟨M, HP1.out.new HB2.out⟩, ?_, ?_, ?_, ?_, ?_, ?_, World.ownsRow_nil _ _ _ _, World.ownsRow_nil _ _ _ _, Nat.le_refl _, Nat.le_refl _, OkO.none, Fr.ofBelow HB2w.out _, Nat.le_refl _, ?_⟩
  ·exact (HB2.out.block _ (Array.getElem?_eq_some_iff.1 HK0.out).1).trans HK0.out
  ·exact AgBox.new HK1.out HB2.out
  ·exact AgBox.new HK2.out HB2.out
  ·exact AgBox.new HK3.out HB2.out
  ·have := HKN.out; rw [HS1.out] at this; rw [← HN.out]; exact this
  ·exact fun k hk => (World.ownsRow.lt HKN.out k hk).2
  ·have := HB2.out.size; have := HS1.out; omega
 case round =>
  obtain ⟨j, a, hj, rfl, hS⟩ := hrel
  clear HKN HB2 HB1 HS1 HP1 HBy HK0 HK1 HK2 HK3
  by_cases hlt : j < N
  ·have hjG : j < s.G.length := by rw [← HN.out]; exact hlt
   obtain ⟨v, hv⟩ : ∃ v, s.G[j]? = some v := ⟨_, List.getElem?_eq_getElem hjG⟩
   have hja : j < a.s.G.length := by rw [hS.inv.len]; exact hjG
   have hva : a.s.G[j] = v := by
    have := hS.inv.rest j (Nat.le_refl _)
    rw [hv, List.getElem?_eq_getElem hja] at this
    exact Option.some.inj this
   have hvm : v ∈ s.G := List.mem_of_getElem? hv
   have hid := (HOkG.out v hvm).id
   obtain ⟨M1, hPA⟩ := hS.part
   obtain ⟨c0, c1, c2⟩ := hPA.cells
   obtain ⟨svo', scap', e1, hvx⟩ := hPA.at_
   rw [hS.inv.len, ← HN.out] at e1
   cases e1
   obtain ⟨vb, voff, rfl, _, hc⟩ := hvx (by omega)
   obtain ⟨_, _, d0, -⟩ := hc j hja
   rw [hva] at d0
   have hrow := hS.row
   rw [← HN.out] at hrow
   obtain ⟨g, rfl, hg1, hpl⟩ := KN.at_ hrow (by omega)
   have p0 := hpl j hlt
   have hjN : (j : Int) < (N : Int) := by omega
   have HAc : Hid (Calls Tryz.prog 83 #[.pointer (some ⟨p, 0, none⟩), .int .i64 v.id] wr fun r w' => r = .returned (.bool (act s v.id)) ∧ w' = wr) := by
    have := active_any hPA hid
    rw [hS.inv.act hv] at this
    exact this
   have HS : Hid _ := hS
   have HV : Hid (s.G[j]? = some v) := hv
   have HVa : Hid (a.s.G[j] = v) := hva
   have HPA : Hid _ := hPA
   have HPp : Hid (wr.heap[w.heap.size]? = _) := hS.job
   obtain ⟨q0, q2⟩ : wr.cell? ⟨w.heap.size, 0, none⟩ = some pr ∧ wr.cell? ⟨w.heap.size, 2, none⟩ = some (.slice po pn pc) := by
    have := hS.job
    unfold JobBox at this
    simp [World.cell?, this]
   clear hpl hc hvx hrow c1 c2 hS hv hva hPA
   cases ha : act s v.id
   ·rw [ha] at HAc
    go_wp2_with (go_at_call 83; refine Calls.mono HAc.out ?_; rintro r wr ⟨rfl, rfl⟩)
    go_roundw
    case rel =>
     refine ⟨j + 1, a, by omega, by go_num, ?_⟩
     have hS := HS.out
     obtain ⟨M1, hPA⟩ := hS.part
     exact { hS with acc := (by show (stepsP f k step bef mny s j).bind _ = _; rw [hS.acc]; show stepV f k step bef mny s a j = some a; unfold stepV; rw [HV.out]; simp [ha]), inv := hS.inv.weak, part := ⟨M1, hPA.more (by omega)⟩, len1 := le_more hS.len1, len2 := le_more hS.len2 }
    case measure => simp [intOf]; omega
   ·rw [ha] at HAc
    go_upto_region 8 with (first | (go_at_call 83; refine Calls.mono HAc.out ?_; rintro r wr ⟨rfl, rfl⟩))
    have hPs : IsAt wr po ps := HPs.out wr HS.out.low
    have HTu : Hid (Calls Tryz.prog 85 #[.pointer (some ⟨p, 0, none⟩), .int .i64 j, pr, .agg #[.int .i64 step, .int .i64 0, .int .i64 0, .slice none 0 0, .bool false, .slice none 0 0, .bool (oh bef 0), .bool (oh bef 1), .bool (oh bef 2), .bool (oh bef 3), .bool (oh bef 4), .int .i64 (ov bef 0), .int .i64 (ov bef 1), .int .i64 (ov bef 2), .int .i64 (ov bef 3), .int .i64 (ov bef 4), .int .i64 mny, .slice po pn pc]] wr fun r w' => StepR wr w' r (turnP f k step bef mny s.B v) ∧ TurnA wr w' (fun k => S k ∧ k < w.heap.size) p (n + j) a.s (.slice (some ⟨vb, voff, none⟩) N scap) M1 hm bx SB j v (turnP f k step bef mny s.B v)) := by
     have hS := HS.out
     exact turn_any HPA.out (by unfold maxLen; omega) (by rw [hS.inv.box]; exact hB) (by rw [hS.inv.box]; exact HOk.out) hja (by rw [hS.inv.len, ← HN.out]; omega) v HVa.out hid HCo.out HPn.out hPs (fun l hc => (HSt.out v hvm ha l (by rw [hS.inv.box] at hc; exact hc)).1) (by rw [hS.inv.box])
    have hOk2 : ∀ o, turnP f k step bef mny s.B v = some o → o.sent.length ≤ 1048576 ∧ o.asked.length ≤ 1048576 ∧ OkO o.agg := by
     intro o ho
     unfold turnP at ho
     cases hc : combO k (sortM (toV s.B v.id)) with
     | none => rw [hc] at ho; cases ho
     | some l => rw [hc] at ho; exact (HSt.out v hvm ha l hc).2 o ho
    have HBe : Hid _ := HS.out.befo
    clear hPs
    cases htO : turnP f k step bef mny s.B v with
    | none =>
     rw [htO] at HTu
     go_upto_region 9 with (first
      | (refine wpList_load_row rfl 114 _ rfl fb rfl 114 #[.bool (oh bef 0), .bool (oh bef 1), .bool (oh bef 2), .bool (oh bef 3), .bool (oh bef 4), .int .i64 (ov bef 0), .int .i64 (ov bef 1), .int .i64 (ov bef 2), .int .i64 (ov bef 3), .int .i64 (ov bef 4)] (0, 0) _ HBe.out Tryz.underlying114 rfl size_agm ?_)
      | (go_at_call 85; refine Calls.mono HTu.out ?_; rintro r w5 ⟨⟨e, he, rfl⟩, _, hb5⟩; have HE5 : Hid (e ≠ 0) := he; have HB5 : Hid _ := hb5; clear he hb5))
     generalize hW6 : World.alloc w5 _ = W6
     have hb6 : Below w5.heap.size w5 W6 := by rw [← hW6]; exact one_newK _ _
     have HO6 : Hid (OutBox W6 w5.heap.size #[.int .i64 0, .bool false, .slice none 0 0, .slice none 0 0, .bool false, .bool false, .bool false, .bool false, .bool false, .int .i64 0, .int .i64 0, .int .i64 0, .int .i64 0, .int .i64 0, .int .i64 e]) := by rw [← hW6]; exact OutBox.made _ _
     have hb56 : Below wr.heap.size wr W6 := HB5.out.trans (hb6.mono HB5.out.size)
     have HG6 : Hid (AgBox W6 gb #[.bool (oh a.gave 0), .bool (oh a.gave 1), .bool (oh a.gave 2), .bool (oh a.gave 3), .bool (oh a.gave 4), .int .i64 (ov a.gave 0), .int .i64 (ov a.gave 1), .int .i64 (ov a.gave 2), .int .i64 (ov a.gave 3), .int .i64 (ov a.gave 4)]) := AgBox.new HS.out.gav hb56
     have HR6 : Hid (AgBox W6 rb #[.bool false, .bool false, .bool false, .bool false, .bool false, .int .i64 0, .int .i64 0, .int .i64 0, .int .i64 0, .int .i64 0]) := AgBox.new HS.out.res hb56
     have HF6 : Hid (Fr w W6 S) := HS.out.low.trans (Fr.ofBelow hb56 S) (fun _ _ h => h)
     clear hW6 hb6 hb56 HTu
     have HM : Hid (∀ W, Calls Tryz.prog 86 #[.agg #[.bool (oh a.gave 0), .bool (oh a.gave 1), .bool (oh a.gave 2), .bool (oh a.gave 3), .bool (oh a.gave 4), .int .i64 (ov a.gave 0), .int .i64 (ov a.gave 1), .int .i64 (ov a.gave 2), .int .i64 (ov a.gave 3), .int .i64 (ov a.gave 4)], .agg #[.bool false, .bool false, .bool false, .bool false, .bool false, .int .i64 0, .int .i64 0, .int .i64 0, .int .i64 0, .int .i64 0]] W fun r w' => ∃ x y, r = .returned (.tuple #[.agg #[.bool (oh x 0), .bool (oh x 1), .bool (oh x 2), .bool (oh x 3), .bool (oh x 4), .int .i64 (ov x 0), .int .i64 (ov x 1), .int .i64 (ov x 2), .int .i64 (ov x 3), .int .i64 (ov x 4)], .int .i64 y]) ∧ Below W.heap.size W w') := fun W => (merge_any a.gave (fun _ => none) W HS.out.okg OkO.none).mono fun r w' hh => ⟨_, _, hh.1, hh.2⟩
     go_upto_region 10 with (first
      | (refine wpList_load_row rfl 114 _ rfl gb rfl 114 #[.bool (oh a.gave 0), .bool (oh a.gave 1), .bool (oh a.gave 2), .bool (oh a.gave 3), .bool (oh a.gave 4), .int .i64 (ov a.gave 0), .int .i64 (ov a.gave 1), .int .i64 (ov a.gave 2), .int .i64 (ov a.gave 3), .int .i64 (ov a.gave 4)] (0, 0) _ HG6.out Tryz.underlying114 rfl size_agm ?_)
      | (refine wpList_load_mid rfl 114 _ rfl w5.heap.size 4 rfl [.bool false, .bool false, .bool false, .bool false, .bool false, .int .i64 0, .int .i64 0, .int .i64 0, .int .i64 0, .int .i64 0] _ (OutBox.agg HO6.out) Tryz.underlying114 rfl size_agm ?_)
      | (go_at_call 86; refine Calls.mono (HM.out _) ?_; rintro r w7 ⟨x, y, rfl, hb7⟩; have HO7 : Hid _ := OutBox.new HO6.out hb7; have HR7 : Hid _ := AgBox.new HR6.out hb7; have HF7 : Hid (Fr w w7 S) := HF6.out.trans (Fr.ofBelow hb7 S) (fun _ _ h => h); clear hb7))
     generalize hW8 : World.alloc w7 _ = W8
     have hb8 : Below w7.heap.size w7 W8 := by rw [← hW8]; exact one_newK _ _
     have hO8 := OutBox.new HO7.out hb8
     have HR8 : Hid (AgBox W8 rb #[.bool false, .bool false, .bool false, .bool false, .bool false, .int .i64 0, .int .i64 0, .int .i64 0, .int .i64 0, .int .i64 0]) := AgBox.new HR7.out hb8
     have HF8 : Hid (Fr w W8 S) := HF7.out.trans (Fr.ofBelow hb8 S) (fun _ _ h => h)
     obtain ⟨_, _, _, _, _, _, _, _, _, _, _, _, _, _, q14⟩ := OutBox.cells hO8
     have he0 : (e != 0) = true := by simpa using HE5.out
     clear hW8 hb8 hO8 HO7 HR7 HF7 HO6 HR6 HF6 HG6
     go_wp2_with (refine wpList_store_row rfl 114 _ _ rfl rb #[.bool false, .bool false, .bool false, .bool false, .bool false, .int .i64 0, .int .i64 0, .int .i64 0, .int .i64 0, .int .i64 0] rfl rfl 114 #[.bool false, .bool false, .bool false, .bool false, .bool false, .int .i64 0, .int .i64 0, .int .i64 0, .int .i64 0, .int .i64 0] HR8.out size_agm rfl (by simp [Value.oneCell']) ?_)
     refine bodyPost_ret (v := .tuple #[.slice none 0 0, .slice none 0 0, .agg #[.bool false, .bool false, .bool false, .bool false, .bool false, .int .i64 0, .int .i64 0, .int .i64 0, .int .i64 0, .int .i64 0], .int .i64 20]) (res4 Tryz.results53 _ _ rb 114 _ (0, 0) _ rfl (setRow_heap _ _ _ _ _ _ HR8.out) Tryz.underlying114 rfl size_agm) rfl ?_
     have hno : res = none := by
      rw [← HRes.out]
      obtain ⟨d, hd⟩ : ∃ d, N = (j + 1) + d := ⟨N - (j + 1), by omega⟩
      rw [hd]
      refine stepsP_none ?_ d
      show (stepsP f k step bef mny s j).bind _ = none
      rw [HS.out.acc]
      show stepV f k step bef mny s a j = none
      unfold stepV
      rw [HV.out]
      simp [ha, htO]
     rw [hno]
     exact ⟨rfl, HF8.out.trans (fr_setRow _ _ _) (fun q hq e => by have := HL.out; omega)⟩
    | some o =>
     rw [htO] at HTu
     obtain ⟨hos, hoa, hog⟩ := hOk2 o htO
     have HOg : Hid (OkO o.agg) := hog
     have HNx : Hid (mergeE a.gave o.agg = 0 → stepsP f k step bef mny s (j + 1) = some ⟨⟨a.s.G.set j ⟨v.id, o.v, v.es⟩, fun y => if y = v.id then o.halt else a.s.H y, a.s.B⟩, mergeO a.gave o.agg, a.sent ++ o.sent, a.asked ++ o.asked⟩) := by
      intro h0
      show (stepsP f k step bef mny s j).bind _ = _
      rw [HS.out.acc]
      show stepV f k step bef mny s a j = _
      unfold stepV
      rw [HV.out]
      simp [ha, htO, h0]
     have HNo : Hid (¬ mergeE a.gave o.agg = 0 → res = none) := by
      intro h0
      rw [← HRes.out]
      obtain ⟨d, hd⟩ : ∃ d, N = (j + 1) + d := ⟨N - (j + 1), by omega⟩
      rw [hd]
      refine stepsP_none ?_ d
      show (stepsP f k step bef mny s j).bind _ = none
      rw [HS.out.acc]
      show stepV f k step bef mny s a j = none
      unfold stepV
      rw [HV.out]
      simp [ha, htO, h0]
     clear hog hOk2
     go_upto_region 9 with (first
      | (refine wpList_load_row rfl 114 _ rfl fb rfl 114 #[.bool (oh bef 0), .bool (oh bef 1), .bool (oh bef 2), .bool (oh bef 3), .bool (oh bef 4), .int .i64 (ov bef 0), .int .i64 (ov bef 1), .int .i64 (ov bef 2), .int .i64 (ov bef 3), .int .i64 (ov bef 4)] (0, 0) _ HBe.out Tryz.underlying114 rfl size_agm ?_)
      | (go_at_call 85; refine Calls.mono HTu.out ?_; rintro r w5 ⟨⟨so, sc, ao, ac, rfl, hkm, hku⟩, M2, hPA5, hf5⟩; have HKm5 : Hid _ := hkm; have HKu5 : Hid _ := hku; have HPA5 : Hid _ := hPA5; have HF5 : Hid _ := hf5; clear hkm hku hPA5 hf5))
     generalize hW6 : World.alloc w5 _ = W6
     have hb6 : Below w5.heap.size w5 W6 := by rw [← hW6]; exact one_newK _ _
     have HO6 : Hid (OutBox W6 w5.heap.size #[.int .i64 o.v, .bool o.halt, .slice so o.sent.length sc, .slice ao o.asked.length ac, .bool (oh o.agg 0), .bool (oh o.agg 1), .bool (oh o.agg 2), .bool (oh o.agg 3), .bool (oh o.agg 4), .int .i64 (ov o.agg 0), .int .i64 (ov o.agg 1), .int .i64 (ov o.agg 2), .int .i64 (ov o.agg 3), .int .i64 (ov o.agg 4), .int .i64 0]) := by rw [← hW6]; exact OutBox.made _ _
     have HF6 : Hid (Fr wr W6 (fun k => S k ∧ k < w.heap.size)) := HF5.out.trans (Fr.ofBelow hb6 _) (fun _ _ h => h)
     have HG6 : Hid (AgBox W6 gb #[.bool (oh a.gave 0), .bool (oh a.gave 1), .bool (oh a.gave 2), .bool (oh a.gave 3), .bool (oh a.gave 4), .int .i64 (ov a.gave 0), .int .i64 (ov a.gave 1), .int .i64 (ov a.gave 2), .int .i64 (ov a.gave 3), .int .i64 (ov a.gave 4)]) := agb_fr HF6.out (fun e => by have := HL.out; omega) HS.out.gav
     have HKm6 : Hid _ := k_new HKm5.out hb6
     have HKu6 : Hid _ := k_new HKu5.out hb6
     have HPA6 : Hid _ := HPA5.out.new hb6
     have HS5 : Hid (wr.heap.size ≤ w5.heap.size ∧ w5.heap.size < W6.heap.size) := ⟨HF5.out.size, (Array.getElem?_eq_some_iff.1 HO6.out).1⟩
     clear hW6 hb6 HTu HKm5 HKu5 HPA5 HF5
     obtain ⟨x, HX⟩ : ∃ x, Hid (mergeO a.gave o.agg = x) := ⟨_, rfl⟩
     obtain ⟨y, HY⟩ : ∃ y, Hid (mergeE a.gave o.agg = y) := ⟨_, rfl⟩
     have HM : Hid (∀ W, Calls Tryz.prog 86 #[.agg #[.bool (oh a.gave 0), .bool (oh a.gave 1), .bool (oh a.gave 2), .bool (oh a.gave 3), .bool (oh a.gave 4), .int .i64 (ov a.gave 0), .int .i64 (ov a.gave 1), .int .i64 (ov a.gave 2), .int .i64 (ov a.gave 3), .int .i64 (ov a.gave 4)], .agg #[.bool (oh o.agg 0), .bool (oh o.agg 1), .bool (oh o.agg 2), .bool (oh o.agg 3), .bool (oh o.agg 4), .int .i64 (ov o.agg 0), .int .i64 (ov o.agg 1), .int .i64 (ov o.agg 2), .int .i64 (ov o.agg 3), .int .i64 (ov o.agg 4)]] W fun r w' => r = .returned (.tuple #[.agg #[.bool (oh x 0), .bool (oh x 1), .bool (oh x 2), .bool (oh x 3), .bool (oh x 4), .int .i64 (ov x 0), .int .i64 (ov x 1), .int .i64 (ov x 2), .int .i64 (ov x 3), .int .i64 (ov x 4)], .int .i64 y]) ∧ Below W.heap.size W w') := by
      intro W
      have := merge_any a.gave o.agg W HS.out.okg HOg.out
      rw [HX.out, HY.out] at this
      exact this
     go_upto_region 10 with (first
      | (refine wpList_load_row rfl 114 _ rfl gb rfl 114 #[.bool (oh a.gave 0), .bool (oh a.gave 1), .bool (oh a.gave 2), .bool (oh a.gave 3), .bool (oh a.gave 4), .int .i64 (ov a.gave 0), .int .i64 (ov a.gave 1), .int .i64 (ov a.gave 2), .int .i64 (ov a.gave 3), .int .i64 (ov a.gave 4)] (0, 0) _ HG6.out Tryz.underlying114 rfl size_agm ?_)
      | (refine wpList_load_mid rfl 114 _ rfl w5.heap.size 4 rfl [.bool (oh o.agg 0), .bool (oh o.agg 1), .bool (oh o.agg 2), .bool (oh o.agg 3), .bool (oh o.agg 4), .int .i64 (ov o.agg 0), .int .i64 (ov o.agg 1), .int .i64 (ov o.agg 2), .int .i64 (ov o.agg 3), .int .i64 (ov o.agg 4)] _ (OutBox.agg HO6.out) Tryz.underlying114 rfl size_agm ?_)
      | (go_at_call 86; refine Calls.mono (HM.out _) ?_; rintro r w7 ⟨rfl, hb7⟩; have HO7 : Hid _ := OutBox.new HO6.out hb7; have HB7 : Hid _ := hb7; clear hb7))
     generalize hW8 : World.alloc w7 _ = W8
     have hb8 : Below w7.heap.size w7 W8 := by rw [← hW8]; exact one_newK _ _
     have HX8 : Hid (AgBox W8 w7.heap.size #[.bool (oh x 0), .bool (oh x 1), .bool (oh x 2), .bool (oh x 3), .bool (oh x 4), .int .i64 (ov x 0), .int .i64 (ov x 1), .int .i64 (ov x 2), .int .i64 (ov x 3), .int .i64 (ov x 4)]) := by rw [← hW8]; exact heap_alloc_new _ _
     have hb78 : Below W6.heap.size W6 W8 := HB7.out.trans (hb8.mono HB7.out.size)
     have hO8 := OutBox.new HO7.out hb8
     have HF8 : Hid (Fr wr W8 (fun k => S k ∧ k < w.heap.size)) := HF6.out.trans (Fr.ofBelow hb78 _) (fun _ _ h => h)
     have HS8 : Hid (W6.heap.size ≤ w7.heap.size ∧ w7.heap.size < W8.heap.size) := ⟨HB7.out.size, (Array.getElem?_eq_some_iff.1 HX8.out).1⟩
     have HPA8 : Hid _ := HPA6.out.new hb78
     have HKm8 : Hid _ := k_new HKm6.out hb78
     have HKu8 : Hid _ := k_new HKu6.out hb78
     obtain ⟨_, _, o2, o3, _, _, _, _, _, _, _, _, _, _, q14⟩ := OutBox.cells hO8
     have HO8 : Hid _ := hO8
     clear hW8 hb8 hb78 hO8 HO7 HB7 HO6 HF6 HG6 HKm6 HKu6 HPA6 HM HBe HAc
     by_cases hy : y = 0
     ·have hLL := HL.out
      have hS := HS.out
      have hsz5 := HS5.out
      have hsz8 := HS8.out
      have hbig := hS.big
      have hsiz := hS.size
      have tlt : ∀ q, u14.ownBlock = some q → w2.heap.size ≤ q ∧ q < wr.heap.size := fun q hq => World.ownsRow.lt hS.sen q hq
      have ult : ∀ q, u15.ownBlock = some q → w2.heap.size ≤ q ∧ q < wr.heap.size := fun q hq => World.ownsRow.lt hS.ask q hq
      have hgbl : gb < wr.heap.size := (Array.getElem?_eq_some_iff.1 hS.gav).1
      have hKM8 : KM W8 w2.heap.size u14 a.sent := k_keep hS.sen HF8.out (fun q hq e => by have := tlt q hq; omega)
      have hKU8 : KU W8 w2.heap.size u15 a.asked := k_keep hS.ask HF8.out (fun q hq e => by have := ult q hq; omega)
      have hGB8 : AgBox W8 gb #[.bool (oh a.gave 0), .bool (oh a.gave 1), .bool (oh a.gave 2), .bool (oh a.gave 3), .bool (oh a.gave 4), .int .i64 (ov a.gave 0), .int .i64 (ov a.gave 1), .int .i64 (ov a.gave 2), .int .i64 (ov a.gave 3), .int .i64 (ov a.gave 4)] := agb_fr HF8.out (fun e => by omega) hS.gav
      have hne : ∀ q, u14.ownBlock = some q → ¬ u15.ownBlock = some q := fun q h1 h2 => own_diff hS.sen hS.ask (by decide) q h2 h1
      have hl1 : a.sent.length + o.sent.length ≤ 2147483648 := Nat.le_trans (le_tops (le_adds hS.len1 hos) (show j + 1 ≤ 1024 by omega)) (by decide)
      have hl2 : a.asked.length + o.asked.length ≤ 2147483648 := Nat.le_trans (le_tops (le_adds hS.len2 hoa) (show j + 1 ≤ 1024 by omega)) (by decide)
      have HTl : Hid _ := tlt
      have HUl : Hid _ := ult
      subst hy
      go_upto_region 12 with (fail)
      refine step_r12 (sv := u14) (av := u15) (gb := gb) (ob := w5.heap.size) (bb := w7.heap.size) (base := w2.heap.size) (b2 := wr.heap.size) (on := o.sent.length) (an := o.asked.length) (sc := sc) (ac := ac) (so := so) (ao := ao) (sent := a.sent) (osent := o.sent) (asked := a.asked) (oasked := o.asked) (bc := #[.bool (oh x 0), .bool (oh x 1), .bool (oh x 2), .bool (oh x 3), .bool (oh x 4), .int .i64 (ov x 0), .int .i64 (ov x 1), .int .i64 (ov x 2), .int .i64 (ov x 3), .int .i64 (ov x 4)]) (gc := #[.bool (oh a.gave 0), .bool (oh a.gave 1), .bool (oh a.gave 2), .bool (oh a.gave 3), .bool (oh a.gave 4), .int .i64 (ov a.gave 0), .int .i64 (ov a.gave 1), .int .i64 (ov a.gave 2), .int .i64 (ov a.gave 3), .int .i64 (ov a.gave 4)]) rfl rfl rfl rfl rfl rfl hKM8 hKU8 HKm8.out HKu8.out rfl rfl hl1 hl2 (by have := HF8.out.size; omega)
       (fun q hq => by rcases hq with hq | hq | hq; exact (tlt q hq).2; exact (ult q hq).2; omega) hne (fun e => by have := tlt _ e; omega) (fun e => by have := ult _ e; omega)
       (fun e => by rcases e with e | e | e; (have := tlt _ e; omega); (have := ult _ e; omega); omega) (fun e => by rcases e with e | e | e; (have := tlt _ e; omega); (have := ult _ e; omega); omega)
       HX8.out hGB8 size_agm rfl (by simp [Value.oneCell']) o2 o3 ?_
      intro X W9 ⟨hk1, hq1, hk2, hq2, hg9, hf9, x14, x15⟩
      have hall : ∀ q, (u14.ownBlock = some q ∨ u15.ownBlock = some q ∨ q = gb) → w.heap.size + 3 ≤ q ∧ q < wr.heap.size := fun q hq => by
       rcases hq with hq | hq | hq
       ·have := HTl.out q hq; omega
       ·have := HUl.out q hq; omega
       ·omega
      have HS9 : Hid (SL w w2 W9 S p n f k step bef mny s (.slice (some ⟨vb, voff, none⟩) N scap) hm bx SB (.slice (some ⟨g, 0, none⟩) N pvc) #[pr, .slice go gn gc, .slice po pn pc, .int .i64 st, .int .i64 se, .int .i64 pa] fb rb gb (j + 1) ⟨⟨a.s.G.set j ⟨v.id, o.v, v.es⟩, fun y => if y = v.id then o.halt else a.s.H y, a.s.B⟩, mergeO a.gave o.agg, a.sent ++ o.sent, a.asked ++ o.asked⟩ (X 72) (X 76)) := by
       have hfr : Fr wr W9 (fun q => (S q ∧ q < w.heap.size) ∨ (u14.ownBlock = some q ∨ u15.ownBlock = some q ∨ q = gb)) := (HF8.out.mono (fun _ _ h => Or.inl h)).trans hf9 (fun _ _ h => Or.inr h)
       refine ⟨HNx.out HY.out, hS.inv.turn HR.out HV.out _ _ _ _ _, ⟨M2, (HPA8.out.kept hf9 (fun q hq e => by have := hall q e; omega)).more (by omega)⟩, ?_, ?_, ?_, ?_, ?_, hS.rowlt, hk1, hk2, ?_, ?_, OkO.merge hS.okg HOg.out, ?_, ?_, hbig⟩
       ·exact (hfr.block _ (Array.getElem?_eq_some_iff.1 hS.job).1 (fun e => by rcases e with e | e; omega; (have := hall _ e; omega))).trans hS.job
       ·exact agb_fr hfr (fun e => by rcases e with e | e; omega; (have := hall _ e; omega)) hS.befo
       ·exact agb_fr hfr (fun e => by rcases e with e | e; omega; (have := hall _ e; omega)) hS.res
       ·rw [HX.out]; exact hg9
       ·refine k_keep hS.row hfr (fun q hq e => ?_)
        have h1 := World.ownsRow.lt hS.row q hq
        have h2 := hS.rowlt q hq
        rcases e with e | e | e | e
        ·omega
        ·have := HTl.out q e; omega
        ·have := HUl.out q e; omega
        ·omega
       ·rw [List.length_append]; exact le_adds hS.len1 hos
       ·rw [List.length_append]; exact le_adds hS.len2 hoa
       ·exact hS.low.trans (hfr.mono (T := fun q => S q ∨ w.heap.size ≤ q) (fun q _ e => by rcases e with e | e; exact Or.inl e.1; (have := hall q e; exact Or.inr (by omega)))) (fun q hq e => by rcases e with e | e; exact e; omega)
       ·have := hfr.size; omega
      clear hk1 hq1 hk2 hq2 hg9 hf9 hall hKM8 hKU8 hGB8 hne tlt ult hS HX8 HF8 HPA8 HKm8 HKu8 HO8 o2 o3 q14 HTl HUl
      simp only [puts]
      rw [x14, x15]
      simp only [Act.put, List.setIfInBounds_toArray, List.set_cons_succ, List.set_cons_zero, List.set_nil]
      go_wp2
      go_roundw
      case rel => exact ⟨j + 1, _, by omega, by go_num, HS9.out⟩
      case measure => simp [intOf]; omega
     ·have HR8 : Hid (AgBox W8 rb #[.bool false, .bool false, .bool false, .bool false, .bool false, .int .i64 0, .int .i64 0, .int .i64 0, .int .i64 0, .int .i64 0]) := agb_fr HF8.out (fun e => by have := HL.out; omega) HS.out.res
      have hy0 : (y != 0) = true := by simpa using hy
      go_wp2_with (refine wpList_store_row rfl 114 _ _ rfl rb #[.bool false, .bool false, .bool false, .bool false, .bool false, .int .i64 0, .int .i64 0, .int .i64 0, .int .i64 0, .int .i64 0] rfl rfl 114 #[.bool false, .bool false, .bool false, .bool false, .bool false, .int .i64 0, .int .i64 0, .int .i64 0, .int .i64 0, .int .i64 0] HR8.out size_agm rfl (by simp [Value.oneCell']) ?_)
      refine bodyPost_ret (v := .tuple #[.slice none 0 0, .slice none 0 0, .agg #[.bool false, .bool false, .bool false, .bool false, .bool false, .int .i64 0, .int .i64 0, .int .i64 0, .int .i64 0, .int .i64 0], .int .i64 20]) (res4 Tryz.results53 _ _ rb 114 _ (0, 0) _ rfl (setRow_heap _ _ _ _ _ _ HR8.out) Tryz.underlying114 rfl size_agm) rfl ?_
      rw [HNo.out (by rw [HY.out]; exact hy)]
      exact ⟨rfl, (HS.out.low.trans HF8.out (fun _ _ h => h.1)).trans (fr_setRow _ _ _) (fun q hq e => by have := HL.out; omega)⟩
  ·obtain rfl : j = N := by omega
   have hres : res = some a := by rw [← HRes.out]; exact hS.acc
   have HRe : Hid _ := hres
   obtain ⟨M1, hPA⟩ := hS.part
   have hpl : p < w.heap.size := hPA.inP.2
   have HEm : Hid _ := empty_any hPA
   have HS : Hid _ := hS
   clear hS hPA hres
   go_upto_region 15 with (go_at_call 87; refine Calls.mono HEm.out ?_; rintro r w5 ⟨rfl, hP5, hf5⟩; have HP5 : Hid _ := hP5; have HF5 : Hid _ := hf5; clear hP5 hf5)
   have hS := HS.out
   have hLL := HL.out
   have hbig := hS.big
   have hsiz := hS.size
   have hrl : rb < wr.heap.size := (Array.getElem?_eq_some_iff.1 hS.res).1
   refine step_r15 (sv := u14) (av := u15) (gb := gb) (rb := rb) (bc := #[.bool (oh a.gave 0), .bool (oh a.gave 1), .bool (oh a.gave 2), .bool (oh a.gave 3), .bool (oh a.gave 4), .int .i64 (ov a.gave 0), .int .i64 (ov a.gave 1), .int .i64 (ov a.gave 2), .int .i64 (ov a.gave 3), .int .i64 (ov a.gave 4)]) (rc := #[.bool false, .bool false, .bool false, .bool false, .bool false, .int .i64 0, .int .i64 0, .int .i64 0, .int .i64 0, .int .i64 0]) rfl rfl rfl rfl rfl (agb_fr HF5.out (fun e => by omega) hS.gav) (agb_fr HF5.out (fun e => by omega) hS.res) (by omega) size_agm rfl (by simp [Value.oneCell']) ?_
   intro X W6 ⟨x10, x11, x13, hg6, hf6⟩
   have hK6 : KM W6 w2.heap.size u14 a.sent := k_fr (k_fr hS.sen HF5.out (fun q hq e => by omega)) hf6 (fun q hq e => by omega)
   have hU6 : KU W6 w2.heap.size u15 a.asked := k_fr (k_fr hS.ask HF5.out (fun q hq e => by omega)) hf6 (fun q hq e => by omega)
   obtain ⟨so, sc, rfl⟩ := k_shape hK6
   obtain ⟨ao, ac, rfl⟩ := k_shape hU6
   have HK6 : Hid _ := hK6
   have HU6 : Hid _ := hU6
   have HF6 : Hid (Fr w W6 S) := (hS.low.trans HF5.out (fun q hq e => by rw [e]; exact (HP5.out.inP.elim (fun h => h.1) (fun h => absurd h (by omega))))).trans hf6 (fun q hq e => by omega)
   have HP6 : Hid _ := HP5.out.kept hf6 (fun q hq e => by rcases hq with hq | hq <;> omega)
   have HG6 : Hid _ := hg6
   have HOg : Hid _ := hS.okg
   have HIn : Hid _ := hS.inv
   clear hK6 hU6 hg6 hf6 hS
   simp only [puts]
   rw [x10, x11, x13]
   simp only [Act.put, List.setIfInBounds_toArray, List.set_cons_succ, List.set_cons_zero, List.set_nil]
   go_wp2
   refine bodyPost_ret (v := .tuple #[.slice so a.sent.length sc, .slice ao a.asked.length ac, .agg #[.bool (oh a.gave 0), .bool (oh a.gave 1), .bool (oh a.gave 2), .bool (oh a.gave 3), .bool (oh a.gave 4), .int .i64 (ov a.gave 0), .int .i64 (ov a.gave 1), .int .i64 (ov a.gave 2), .int .i64 (ov a.gave 3), .int .i64 (ov a.gave 4)], .int .i64 0]) (res4 Tryz.results53 _ _ rb 114 _ (0, 0) _ rfl HG6.out Tryz.underlying114 rfl size_agm) rfl ?_
   rw [HRe.out]
   refine ⟨so, sc, ao, ac, M1, wr.heap.size, rfl, k_low HK6.out (by omega), k_low HU6.out (by omega), ?_, HF6.out, HOg.out, by rw [← HN.out]; exact HIn.out⟩
   rw [← HN.out]
   exact HP6.out.mono (fun q _ hq => by rcases hq with hq | hq; exact Or.inl hq.1; exact Or.inr (by omega))
end
end Go.Proofs.YtmgjlamglhpnaaaGreat
