/- What Run does: superstep by superstep. -/
import Derived.Test.YtmgjlamglhpnaaaGreatRnStepM
import Derived.Test.YtmgjlamglhpnaaaGreatRnRun9M
import Derived.Test.YtmgjlamglhpnaaaGreatRnRun9M
import Derived.Test.YtmgjlamglhpnaaaGreatRnRun9M
import Derived.Deep.Cut
import Derived.Deep.DeepCutAuto
import Derived.Deep.CutBlock
namespace Go.Proofs.YtmgjlamglhpnaaaGreat
open Go.RowKit
def TagO (w : World) (k : Nat) : Prop := ∃ c t, w.heap[k]? = some (.cells c t (0, 0)) ∧ (t = 114 ∨ t = 201 ∨ t = 195)
section
variable {w : World} {S : Nat → Prop} {p n : Nat} {s : St} {sv : Value} {M : List (Vx × Value)} {hm bx : Nat} {SB : Nat → Prop}
theorem own_tagged {base : Nat} {e : TypeId} {size : Nat} {v : Value} {k n : Nat} {xs : List Value} (h : w.ownsRow base e size v n xs) (hk : v.ownBlock = some k) : ∃ c, w.heap[k]? = some (.cells c e (0, 0)) := by
 rcases h.2 with ⟨rfl, _⟩ | ⟨g, cap, cur, rfl, _, hg, _⟩
 ·cases hk
 ·cases hk; exact ⟨_, hg⟩
theorem PA.only (h : PA w S p n s sv M hm bx (fun k => k = bx)) : PA w (fun k => S k ∧ ¬ TagO w k) p n s sv M hm bx (fun k => k = bx) := by
 have hp : ¬ TagO w p := by
  rintro ⟨c, t, h1, h2⟩
  rw [h.blk] at h1
  cases h1
  rcases h2 with h2 | h2 | h2 <;> exact absurd h2 (by decide)
 have hh : ¬ TagO w hm := by
  rintro ⟨c, t, h1, h2⟩
  obtain ⟨D, ⟨es, cl, h3, _⟩, _⟩ := h.hal
  rw [h3] at h1
  cases h1
 have hb : ¬ TagO w bx := by
  rintro ⟨c, t, h1, h2⟩
  obtain ⟨mv, h3, _⟩ := h.box.box
  rw [h3] at h1
  cases h1
  rcases h2 with h2 | h2 | h2 <;> exact absurd h2 (by decide)
 have hg : ∀ k, GB sv M k → ¬ TagO w k := by
  rintro k hk ⟨c, t, h1, h2⟩
  rcases hk with hk | ⟨x, hx, hk⟩
  ·obtain ⟨c', h3⟩ := own_tagged h.gw.row hk
   rw [h3] at h1
   cases h1
   rcases h2 with h2 | h2 | h2 <;> exact absurd h2 (by decide)
  ·obtain ⟨c', h3⟩ := own_tagged (h.gw.eds x hx) hk
   rw [h3] at h1
   cases h1
   rcases h2 with h2 | h2 | h2 <;> exact absurd h2 (by decide)
 exact { h with inP := ⟨h.inP, hp⟩, inH := ⟨h.inH, hh⟩, inB := fun k hk => ⟨h.inB k hk, by rw [hk]; exact hb⟩, inG := fun k hk => ⟨h.inG k hk, hg k hk⟩ }
theorem PA.keptT (h : PA w S p n s sv M hm bx (fun k => k = bx)) {w' : World} {q : Nat} (f : Fr w w' (fun k => k = q)) (hq : TagO w q) : PA w' S p n s sv M hm bx (fun k => k = bx) :=
 (h.only.kept f (fun _ hk e => hk.2 (e ▸ hq))).mono (fun _ _ hk => hk.1)
end
structure ROut where
 kind : Int
 err : Int
 steps : Int
 vals : List Ed
def runP (f : PStep) (k st se : Int) : Nat → Nat → St → (Nat → Option Int) → ROut
 | 0, d, _, _ => ⟨2, 91, d, []⟩
 | fuel + 1, d, s, bef => if many s = 0 then ⟨1, 0, d, valsOf s.G⟩ else if (d : Int) = st then ⟨2, 91, d, []⟩ else match stepsP f k d bef s.G.length s s.G.length with
  | none => ⟨2, 20, d, []⟩
  | some a => if se < a.sent.length then ⟨2, 92, d, []⟩ else runP f k st se fuel (d + 1) (closeP ⟨a.s.G, a.s.H, []⟩ a.sent a.asked) a.gave
structure RunI (pr : Value) (f : PStep) (k : Int) (ps : List Int) (se : Int) (I : Nat → St → (Nat → Option Int) → Prop) : Prop where
 okG : ∀ d s bef, I d s bef → ∀ v ∈ s.G, v.ok
 fine : ∀ d s bef, I d s bef → Fine s.G
 len : ∀ d s bef, I d s bef → s.G.length ≤ 1024
 okB : ∀ d s bef, I d s bef → ∀ m ∈ s.B, m.ok
 lenB : ∀ d s bef, I d s bef → s.B.length ≤ 1048576
 step : ∀ d s bef, I d s bef → ∀ v ∈ s.G, act s v.id = true → ∀ l, combO k (sortM (toV s.B v.id)) = some l → StepC pr f ps (d : Int) bef (s.G.length : Int) v l ∧ ∀ o, f (d : Int) v l bef (s.G.length : Int) = some o → o.sent.length ≤ 1048576 ∧ o.asked.length ≤ 1048576 ∧ OkO o.agg
 done : ∀ d s bef, I d s bef → ∀ a, stepsP f k (d : Int) bef (s.G.length : Int) s s.G.length = some a → (a.sent.length : Int) ≤ se → (∀ v ∈ a.s.G, v.ok) ∧ Fine a.s.G ∧ Up 1048576 a.s.G ∧ (∀ m ∈ a.sent, m.ok) ∧ (∀ m ∈ a.asked, m.ok) ∧ (∀ m ∈ a.asked, 1 ≤ m.k ∧ m.k ≤ 4) ∧ a.asked.length ≤ 1048576 ∧ I (d + 1) (closeP ⟨a.s.G, a.s.H, []⟩ a.sent a.asked) a.gave
theorem fine_riseR {G : List Vx} (h : Fine G) : Rise (ids G) := fun j hj => List.pairwise_iff_getElem.1 h.ids j (j + 1) (by omega) hj (by omega)
def OcR (w' : World) (base : Nat) (r : Ending) (o : ROut) : Prop := ∃ vo vc, r = .returned (.tuple #[.agg #[.int .i64 o.kind, .int .i64 o.err, .int .i64 o.steps, .slice vo o.vals.length vc], .int .i64 0]) ∧ KV w' base (.slice vo o.vals.length vc) o.vals
def OcBox (W : World) (b : Nat) (c : Array Value) : Prop := W.heap[b]? = some (.cells c 58 (0, 0))
structure RL (w w1 wr : World) (I : Nat → St → (Nat → Option Int) → Prop) (f : PStep) (k st se : Int) (o : ROut) (p ab : Nat) (jc : Array Value) (d : Nat) (s : St) (bef : Nat → Option Int) : Prop where
 inv : I d s bef
 part : ∃ S n sv M hm bx SB, PA wr S p n s sv M hm bx SB ∧ n ≤ d * 1048576 ∧ ¬ S ab ∧ ∀ k, S k → w1.heap.size ≤ k
 job : JobBox wr w.heap.size jc
 oc : OcBox wr (w.heap.size + 1) #[.int .i64 0, .int .i64 0, .int .i64 0, .slice none 0 0]
 befo : AgBox wr ab #[.bool (oh bef 0), .bool (oh bef 1), .bool (oh bef 2), .bool (oh bef 3), .bool (oh bef 4), .int .i64 (ov bef 0), .int .i64 (ov bef 1), .int .i64 (ov bef 2), .int .i64 (ov bef 3), .int .i64 (ov bef 4)]
 low : Below w.heap.size w wr
 dle : (d : Int) ≤ st
 eq : runP f k st se (1001 - d) d s bef = o
 one : w.heap.size + 2 ≤ w1.heap.size ∧ w1.heap.size ≤ ab
theorem ku_us {W : World} {base : Nat} {P : Nat → Prop} {ao : Option Addr} {c : Nat} {L : List Mu} (h : KU W base (.slice ao L.length c) L) (hP : ∀ k c, W.heap[k]? = some (.cells c 195 (0, 0)) → P k) : UsAt W P ao L := by
 intro hl
 obtain ⟨g, rfl, _, hc⟩ := k_at h hl
 obtain ⟨c', ht⟩ := own_tagged h (k := g) rfl
 refine ⟨g, 0, rfl, hP g c' ht, fun j hj => ?_⟩
 obtain ⟨a0, a1, a2, a3⟩ := ku_get L j hj
 rw [Nat.zero_add]
 exact ⟨hc _ _ a0, hc _ _ a1, hc _ _ a2, hc _ _ a3⟩
theorem km_ms {W : World} {base : Nat} {P : Nat → Prop} {ao : Option Addr} {c : Nat} {L : List Msg} (h : KM W base (.slice ao L.length c) L) (hP : ∀ k c, W.heap[k]? = some (.cells c 201 (0, 0)) → P k) : MsAt W P ao L := by
 intro hl
 obtain ⟨g, rfl, _, hc⟩ := k_at h hl
 obtain ⟨c', ht⟩ := own_tagged h (k := g) rfl
 refine ⟨g, 0, rfl, hP g c' ht, fun j hj => ?_⟩
 obtain ⟨a0, a1, a2, a3⟩ := km_get L j hj
 rw [Nat.zero_add]
 exact ⟨hc _ _ a0, hc _ _ a1, hc _ _ a2, hc _ _ a3⟩
def TQ (wA : World) (S : Nat → Prop) (p n : Nat) (sv : Value) (hm : Nat) (s : St) (tv uv : Value) (rc : Array Value) (e : Int) (W : World) : Option Acc → Prop
 | none => e = 20 ∧ rc = #[.bool false, .bool false, .bool false, .bool false, .bool false, .int .i64 0, .int .i64 0, .int .i64 0, .int .i64 0, .int .i64 0] ∧ Fr wA W S
 | some a => e = 0 ∧ rc = #[.bool (oh a.gave 0), .bool (oh a.gave 1), .bool (oh a.gave 2), .bool (oh a.gave 3), .bool (oh a.gave 4), .int .i64 (ov a.gave 0), .int .i64 (ov a.gave 1), .int .i64 (ov a.gave 2), .int .i64 (ov a.gave 3), .int .i64 (ov a.gave 4)] ∧ Fr wA W S ∧ (∃ so sc, tv = .slice so a.sent.length sc) ∧ (∃ ao ac, uv = .slice ao a.asked.length ac) ∧ KM W wA.heap.size tv a.sent ∧ KU W wA.heap.size uv a.asked ∧ OkO a.gave ∧ SInv s s.G.length a ∧ ∃ M' bx', PA W (fun k => S k ∨ wA.heap.size ≤ k) p (n + s.G.length) ⟨a.s.G, a.s.H, []⟩ sv M' hm bx' (fun q => q = bx')
theorem TQ.write {wA : World} {S : Nat → Prop} {p n : Nat} {sv : Value} {hm : Nat} {s : St} {tv uv : Value} {rc : Array Value} {e : Int} {W W' : World} {o : Option Acc} (h : TQ wA S p n sv hm s tv uv rc e W o) {q : Nat} {c : Array Value} (hq : wA.heap.size ≤ q) (hc : W.heap[q]? = some (.cells c 114 (0, 0))) (f : Fr W W' (fun k => k = q)) : TQ wA S p n sv hm s tv uv rc e W' o := by
 have ht : TagO W q := ⟨c, _, hc, .inl rfl⟩
 cases o with
 | none => exact ⟨h.1, h.2.1, h.2.2.trans f (fun k hk e => by omega)⟩
 | some a =>
  obtain ⟨h1, h2, h3, h4, h5, h6, h7, h8, h9, M', bx', h10⟩ := h
  refine ⟨h1, h2, h3.trans f (fun k hk e => by omega), h4, h5, k_keep h6 f (fun k hk e => ?_), k_keep h7 f (fun k hk e => ?_), h8, h9, M', bx', h10.keptT f ht⟩
  ·obtain ⟨c', h11⟩ := own_tagged h6 hk
   rw [e, hc] at h11
   cases h11
  ·obtain ⟨c', h11⟩ := own_tagged h7 hk
   rw [e, hc] at h11
   cases h11
theorem TQ.new {wA : World} {S : Nat → Prop} {p n : Nat} {sv : Value} {hm : Nat} {s : St} {tv uv : Value} {rc : Array Value} {e : Int} {W W' : World} {o : Option Acc} (h : TQ wA S p n sv hm s tv uv rc e W o) (hb : Below W.heap.size W W') : TQ wA S p n sv hm s tv uv rc e W' o := by
 cases o with
 | none => exact ⟨h.1, h.2.1, h.2.2.trans (Fr.ofBelow hb _) (fun _ _ h => h)⟩
 | some a =>
  obtain ⟨h1, h2, h3, h4, h5, h6, h7, h8, h9, M', bx', h10⟩ := h
  exact ⟨h1, h2, h3.trans (Fr.ofBelow hb _) (fun _ _ h => h), h4, h5, k_new h6 hb, k_new h7 hb, h8, h9, M', bx', h10.new hb⟩
theorem two_fresh (w : World) (a b : Obj) {W : World} (h : (w.alloc a).alloc b = W) : W.heap[w.heap.size]? = some a ∧ W.heap[w.heap.size + 1]? = some b ∧ Below w.heap.size w W ∧ W.heap.size = w.heap.size + 2 := by
 have h1 := heap_alloc_new w a
 have h2 := heap_alloc_new (w.alloc a) b
 simp only [World.size_alloc] at h2
 have b1 := one_newK (w.alloc a) b
 rw [← h]
 exact ⟨(b1.block _ (by simp)).trans h1, h2, (one_newK w a).trans (b1.mono (by simp)), by simp⟩
theorem res_ctR {fn : Func} {p u : Tmp} {ty : TypeId} (h : fn.results = #[.cell p ty, .tmp u]) (tmps : Array Value) (w : World) (g : Nat) (t : TypeId) (cs : Array Value) (fr : Nat × Nat) (d : TypeDesc)
  (hp : tmps.getD p undef = .pointer (some ⟨g, 0, none⟩)) (hg : w.heap[g]? = some (.cells cs t fr))
  (hu : Tryz.prog.underlying ty = some d) (hd : (match d with | .struct _ | .array _ _ => true | _ => false) = true) (hi : (Tryz.prog.info? ty).map (·.size) = some cs.size) :
  (results fn tmps).run Tryz.prog w = .ok (.tuple #[.agg cs, tmps.getD u undef]) w := res_ctU h tmps w g t cs fr d hp hg hu hd hi
theorem size_job : (Tryz.prog.info? 27).map (·.size) = some 6 := by kernel_rfl
set_option maxRecDepth 100000 in
set_option maxHeartbeats 4000000 in
theorem run_any {w : World} {P : Nat → Prop} {go po : Option Addr} {G : List Vx} {gn gc pn pc : Nat} {pr : Value} {ps : List Int} {st se pa k : Int} {f : PStep} {I : Nat → St → (Nat → Option Int) → Prop}
  (hCk : ∀ W, Below w.heap.size w W → Calls Tryz.prog 17 #[.agg #[pr, .slice go gn gc, .slice po pn pc, .int .i64 st, .int .i64 se, .int .i64 pa]] W fun r w' => r = .returned (.int .i64 0) ∧ Below W.heap.size W w')
  (hgn : gn = G.length) (hG : VxAt w P go G) (hpn : pn = ps.length) (hps : IsAt w po ps) (hst : 1 ≤ st ∧ st ≤ 1000) (hse : 0 ≤ se ∧ se ≤ 524288)
  (hCo : ∀ W, Calls Tryz.prog 108 #[pr] W fun r w' => r = .returned (.int .i64 k) ∧ w' = W) (hI : RunI pr f k ps se I) (h0 : I 0 ⟨G, fun _ => false, []⟩ (fun _ => none)) :
  Calls Tryz.prog 22 #[.agg #[pr, .slice go gn gc, .slice po pn pc, .int .i64 st, .int .i64 se, .int .i64 pa]] w fun r w' => OcR w' w.heap.size r (runP f k st se 1001 0 ⟨G, fun _ => false, []⟩ (fun _ => none)) ∧ Below w.heap.size w w' := by
 subst hgn
 obtain ⟨W0, hW0⟩ : ∃ W0, (w.alloc (.cells #[pr, .slice go G.length gc, .slice po pn pc, .int .i64 st, .int .i64 se, .int .i64 pa] 27)).alloc (.cells #[.int .i64 0, .int .i64 0, .int .i64 0, .slice none 0 0] 58) = W0 := ⟨_, rfl⟩
 obtain ⟨k0, k1, kb, ks⟩ := two_fresh w _ _ hW0
 have HJ0 : Hid (JobBox W0 w.heap.size #[pr, .slice go G.length gc, .slice po pn pc, .int .i64 st, .int .i64 se, .int .i64 pa]) := k0
 have HO0 : Hid (OcBox W0 (w.heap.size + 1) #[.int .i64 0, .int .i64 0, .int .i64 0, .slice none 0 0]) := k1
 have HB0 : Hid _ := kb
 have HS0 : Hid _ := ks
 have HCk : Hid _ := hCk W0 kb
 have HPn : Hid _ := hpn
 have HPs : Hid (IsAt w po ps) := hps
 have HCo : Hid (∀ W, Calls Tryz.prog 108 #[pr] W fun r w' => r = .returned (.int .i64 k) ∧ w' = W) := hCo
 have HI : Hid (RunI pr f k ps se I) := hI
 have HI0 : Hid (I 0 ⟨G, fun _ => false, []⟩ (fun _ => none)) := h0
 have HG : Hid (VxAt w P go G) := hG
 clear hCk hG hpn hps hCo hI h0 k0 k1 kb ks
 go_enter Tryz.func22, Tryz.ntmps22
 go_upto_region 4 with (first
  | (refine wpList_load_row rfl 27 _ rfl w.heap.size rfl 27 #[pr, .slice go G.length gc, .slice po pn pc, .int .i64 st, .int .i64 se, .int .i64 pa] (0, 0) _ HJ0.out Tryz.underlying27 rfl size_job ?_)
  | (go_at_call 17; refine Calls.mono HCk.out ?_; rintro r w1 ⟨rfl, hb1⟩; have HB1 : Hid _ := hb1; clear hb1))
 have HJ1 : Hid (JobBox w1 w.heap.size #[pr, .slice go G.length gc, .slice po pn pc, .int .i64 st, .int .i64 se, .int .i64 pa]) := (HB1.out.block _ (Array.getElem?_eq_some_iff.1 HJ0.out).1).trans HJ0.out
 have HO1 : Hid (OcBox w1 (w.heap.size + 1) #[.int .i64 0, .int .i64 0, .int .i64 0, .slice none 0 0]) := (HB1.out.block _ (Array.getElem?_eq_some_iff.1 HO0.out).1).trans HO0.out
 have HBw1 : Hid (Below w.heap.size w w1) := HB0.out.trans (HB1.out.mono HB0.out.size)
 have HSz1 : Hid (w.heap.size + 2 ≤ w1.heap.size) := by have := HB1.out.size; have := HS0.out; show _ ≤ _; omega
 have j1 : w1.cell? ⟨w.heap.size, 1, none⟩ = some (.slice go G.length gc) := by
  have := HJ1.out
  unfold JobBox at this
  simp [World.cell?, this]
 have HNp : Hid _ := newPart_any G gc (VxAt.new HG.out HBw1.out) (HI.out.okG _ _ _ HI0.out) (by have := HI.out.len _ _ _ HI0.out; show G.length ≤ _; simp at this; omega)
 clear HJ0 HO0 HB0 HS0 HCk HB1 hW0
 go_upto_block 0 with (go_at_call 50; refine Calls.mono HNp.out ?_; rintro r w2 ⟨p, sv, M, hm, bx, SB, rfl, hPA, hb2⟩; have HPA : Hid _ := hPA; have HB2 : Hid _ := hb2; clear hPA hb2)
 generalize hW3 : World.alloc w2 _ = W3
 have hb3 : Below w2.heap.size w2 W3 := by rw [← hW3]; exact one_newK _ _
 have hA3 : AgBox W3 w2.heap.size #[.bool false, .bool false, .bool false, .bool false, .bool false, .int .i64 0, .int .i64 0, .int .i64 0, .int .i64 0, .int .i64 0] := by rw [← hW3]; exact heap_alloc_new _ _
 have hb13 : Below w1.heap.size w1 W3 := HB2.out.trans (hb3.mono HB2.out.size)
 generalize hO : runP f k st se 1001 0 ⟨G, fun _ => false, []⟩ (fun _ => none) = oo
 have HRL : Hid (RL w w1 W3 I f k st se oo p w2.heap.size #[pr, .slice go G.length gc, .slice po pn pc, .int .i64 st, .int .i64 se, .int .i64 pa] 0 ⟨G, fun _ => false, []⟩ (fun _ => none)) := by
  refine ⟨HI0.out, ⟨fun q => w1.heap.size ≤ q ∧ q < w2.heap.size, 0, sv, M, hm, bx, SB, (HPA.out.mono (fun q hq h => ⟨h, hq⟩)).new hb3, Nat.zero_le _, fun h => by omega, fun q hq => hq.1⟩, ?_, ?_, hA3, HBw1.out.trans (hb13.mono HBw1.out.size), by omega, hO, HSz1.out, HB2.out.size⟩
  ·exact (hb13.block _ (Array.getElem?_eq_some_iff.1 HJ1.out).1).trans HJ1.out
  ·exact (hb13.block _ (Array.getElem?_eq_some_iff.1 HO1.out).1).trans HO1.out
 have HOo : Hid (runP f k st se 1001 0 ⟨G, fun _ => false, []⟩ (fun _ => none) = oo) := hO
 clear hW3 hb3 hA3 hb13 hO HPA HJ1 HO1 HNp j1 HB2
 generalize hab : w2.heap.size = ab at HRL ⊢
 clear hab
 go_wp2
 go_loopw [7, 8, 9, 10, 11] (fun d7 _ _ _ _ wr => ∃ (d : Nat) (s : St) (bef : Nat → Option Int), d7 = .int .i64 d ∧ RL w w1 wr I f k st se oo p ab #[pr, .slice go G.length gc, .slice po pn pc, .int .i64 st, .int .i64 se, .int .i64 pa] d s bef) (fun d7 _ _ _ _ _ => 1001 - (intOf d7).toNat)
 case atStart => exact ⟨0, _, _, rfl, HRL.out⟩
 case round =>
  obtain ⟨d, s, bef, rfl, hR⟩ := hrel
  clear HRL
  obtain ⟨S0, n, sv', M', hm', bx', SB', hPA0, hn, hab, hS0⟩ := hR.part
  have hd : d ≤ 1000 := by have := hR.dle; omega
  have hPA := hPA0.mono (T := fun q => S0 q ∧ q < wr.heap.size) (fun q hq h => ⟨h, hq⟩)
  have HPA : Hid _ := hPA
  have HR : Hid _ := hR
  have HAc : Hid _ := Active_any hPA (HI.out.okG _ _ _ hR.inv) (by have := HI.out.len _ _ _ hR.inv; omega)
  have hm0 : many s ≤ 1024 := Nat.le_trans (List.length_filter_le _ _) (HI.out.len _ _ _ hR.inv)
  obtain ⟨mn, HMn⟩ : ∃ mn, Hid (mn = many s) := ⟨_, rfl⟩
  rw [← HMn.out] at HAc hm0
  clear hR hPA hPA0
  by_cases hmn : mn = 0
  ·subst hmn
   have HVl : Hid (∀ W, Below wr.heap.size wr W → Calls Tryz.prog 55 #[.pointer (some ⟨p, 0, none⟩)] W fun r w' => ∃ vo vc, r = .returned (.slice vo s.G.length vc) ∧ KV w' W.heap.size (.slice vo s.G.length vc) (valsOf s.G) ∧ Below W.heap.size W w') := fun W hb => values_any (HPA.out.new hb) (fine_riseR (HI.out.fine _ _ _ HR.out.inv)) (by have := HI.out.len _ _ _ HR.out.inv; omega)
   have HOc : Hid _ := HR.out.oc
   go_wp2_with (first
    | (go_at_call 51; refine Calls.mono HAc.out ?_; rintro r wA ⟨rfl, hbA⟩; have HBA : Hid _ := hbA; clear hbA)
    | (go_at_call 55; refine Calls.mono (HVl.out _ HBA.out) ?_; rintro r wB ⟨vo, vc, rfl, hkv, hbB⟩; have HKv : Hid _ := hkv; have HBB : Hid (Below wr.heap.size wr wB) := HBA.out.trans (hbB.mono HBA.out.size); have HOcB : Hid (OcBox wB (w.heap.size + 1) #[.int .i64 0, .int .i64 0, .int .i64 0, .slice none 0 0]) := (HBB.out.block _ (Array.getElem?_eq_some_iff.1 HOc.out).1).trans HOc.out; clear hkv hbB)
    | (refine wpList_store_row rfl 58 _ _ rfl (w.heap.size + 1) #[.int .i64 1, .int .i64 0, .int .i64 d, .slice vo s.G.length vc] rfl rfl 58 #[.int .i64 0, .int .i64 0, .int .i64 0, .slice none 0 0] HOcB.out size_oc rfl (by simp [Value.oneCell']) ?_))
   refine bodyPost_ret (v := .tuple #[.agg #[.int .i64 1, .int .i64 0, .int .i64 d, .slice vo s.G.length vc], .int .i64 0]) (res_ctR Tryz.results22 _ _ (w.heap.size + 1) 58 _ (0, 0) _ rfl (setRow_heap _ _ _ _ _ _ HOcB.out) Tryz.underlying58 rfl size_oc) rfl ?_
   have hout : oo = ⟨1, 0, d, valsOf s.G⟩ := by
    rw [← HR.out.eq, show 1001 - d = (1000 - d) + 1 by omega]
    unfold runP
    rw [if_pos HMn.out.symm]
   have hlow := HR.out.low
   have h2 := HR.out.one
   have h3 := HR.out.low.size
   rw [HOo.out, hout]
   refine ⟨⟨vo, vc, by rw [valsOf_len], ?_⟩, k_setRow (hlow.trans (HBB.out.mono hlow.size)) (by omega) _⟩
   show KV _ _ (.slice vo (valsOf s.G).length vc) _
   rw [valsOf_len]
   have hoc := (Array.getElem?_eq_some_iff.1 HR.out.oc).1
   exact k_low (k_fr HKv.out (fr_setRow _ _ _) (fun q hq e => by have := HBA.out.size; omega)) (by have := HBA.out.size; omega)
  ·have hmn' : 0 < mn := by omega
   have h2 := HR.out.one
   have hlw := HR.out.low
   go_upto_region 7 with (go_at_call 51; refine Calls.mono HAc.out ?_; rintro r wA ⟨rfl, hbA⟩; have HBA : Hid _ := hbA; clear hbA)
   have hJA : JobBox wA w.heap.size #[pr, .slice go G.length gc, .slice po pn pc, .int .i64 st, .int .i64 se, .int .i64 pa] := (HBA.out.block _ (Array.getElem?_eq_some_iff.1 HR.out.job).1).trans HR.out.job
   have HOA : Hid (OcBox wA (w.heap.size + 1) #[.int .i64 0, .int .i64 0, .int .i64 0, .slice none 0 0]) := (HBA.out.block _ (Array.getElem?_eq_some_iff.1 HR.out.oc).1).trans HR.out.oc
   have HLA : Hid (Below w.heap.size w wA) := hlw.trans (HBA.out.mono hlw.size)
   have HGA : Hid (AgBox wA ab #[.bool (oh bef 0), .bool (oh bef 1), .bool (oh bef 2), .bool (oh bef 3), .bool (oh bef 4), .int .i64 (ov bef 0), .int .i64 (ov bef 1), .int .i64 (ov bef 2), .int .i64 (ov bef 3), .int .i64 (ov bef 4)]) := AgBox.new HR.out.befo HBA.out
   have HPA2 : Hid _ := HPA.out.new HBA.out
   have HJA : Hid _ := hJA
   obtain ⟨j3, j4⟩ : wA.cell? ⟨w.heap.size, 3, none⟩ = some (.int .i64 st) ∧ wA.cell? ⟨w.heap.size, 4, none⟩ = some (.int .i64 se) := by
    have := hJA
    unfold JobBox at this
    simp [World.cell?, this]
   clear hJA HAc HPA
   by_cases hds : (d : Int) = st
   ·subst hds
    go_wp2_with (first
     | (go_at_call 52; refine (failed_any 91 d _).mono ?_; rintro r wB ⟨rfl, hbB⟩; have HOB : Hid (OcBox wB (w.heap.size + 1) #[.int .i64 0, .int .i64 0, .int .i64 0, .slice none 0 0]) := (hbB.block _ (Array.getElem?_eq_some_iff.1 HOA.out).1).trans HOA.out; have HLB : Hid (Below w.heap.size w wB) := HLA.out.trans (hbB.mono HLA.out.size); clear hbB)
     | (refine wpList_store_row rfl 58 _ _ rfl (w.heap.size + 1) #[.int .i64 2, .int .i64 91, .int .i64 d, .slice none 0 0] rfl rfl 58 #[.int .i64 0, .int .i64 0, .int .i64 0, .slice none 0 0] HOB.out size_oc rfl (by simp [Value.oneCell']) ?_))
    refine bodyPost_ret (v := .tuple #[.agg #[.int .i64 2, .int .i64 91, .int .i64 d, .slice none 0 0], .int .i64 0]) (res_ctR Tryz.results22 _ _ (w.heap.size + 1) 58 _ (0, 0) _ rfl (setRow_heap _ _ _ _ _ _ HOB.out) Tryz.underlying58 rfl size_oc) rfl ?_
    have hout : oo = ⟨2, 91, d, []⟩ := by
     rw [← HR.out.eq, show 1001 - d = (1000 - d) + 1 by omega]
     unfold runP
     rw [if_neg (by rw [← HMn.out]; omega)]
     rw [if_pos rfl]
    rw [HOo.out, hout]
    exact ⟨⟨none, 0, rfl, World.ownsRow_nil _ _ _ _⟩, k_setRow HLB.out (by omega) _⟩
   ·have hdst : ((d : Int) == st) = false := by simpa using hds
    have hfi := HI.out.fine _ _ _ HR.out.inv
    have hlen := HI.out.len _ _ _ HR.out.inv
    have hlB := HI.out.lenB _ _ _ HR.out.inv
    obtain ⟨svo, scap, hsv, _⟩ := HPA2.out.at_
    subst hsv
    obtain ⟨sn, HSn⟩ : ∃ sn, Hid (sn = s.G.length) := ⟨_, rfl⟩
    obtain ⟨so_, hso_⟩ : ∃ so_, stepsP f k (d : Int) bef (s.G.length : Int) s s.G.length = so_ := ⟨_, rfl⟩
    have hp0 := HPA2.out.cells.1
    have habl : ab < wr.heap.size := (Array.getElem?_eq_some_iff.1 HR.out.befo).1
    have hbnd : n + s.G.length ≤ 1073741824 := by
     have : n ≤ 1000 * 1048576 := le_tops hn hd
     omega
    go_upto_region 9 with (fail)
    refine run_r9 (p := p) (jb := w.heap.size) (ab := ab) (sn := s.G.length) (scap := scap) (svo := svo) (d := d) (jc := #[pr, .slice go G.length gc, .slice po pn pc, .int .i64 st, .int .i64 se, .int .i64 pa]) (ac := #[.bool (oh bef 0), .bool (oh bef 1), .bool (oh bef 2), .bool (oh bef 3), .bool (oh bef 4), .int .i64 (ov bef 0), .int .i64 (ov bef 1), .int .i64 (ov bef 2), .int .i64 (ov bef 3), .int .i64 (ov bef 4)]) (TQ := fun tv uv rc e W => TQ wA (fun q => S0 q ∧ q < wr.heap.size) p n (.slice svo s.G.length scap) hm' s tv uv rc e W so_) rfl rfl rfl rfl rfl HJA.out size_job HGA.out size_agm size_agm hp0 (fun W hb => ?_) (fun tv uv rc e W h => ?_) (fun tv uv rc e W q c hq h hc W' hf => TQ.write h hq hc hf) (fun tv uv rc e W W' h hb => TQ.new h hb) ?_
    ·have hPW := HPA2.out.new hb
     refine (step_any (go := go) (gn := G.length) (gc := gc) (st := st) (se := se) (pa := pa) (po := po) (pc := pc) hPW (fine_riseR hfi) hlen hbnd (by omega) (HI.out.okB _ _ _ HR.out.inv) (HI.out.okG _ _ _ HR.out.inv) HCo.out HPn.out (fun W' hf => ?_) (HI.out.step _ _ _ HR.out.inv) hso_).mono ?_
     ·have hbw : Below w.heap.size w W' := (HLA.out.trans (hb.mono HLA.out.size)).trans (hf.below (by have := HLA.out.size; have := hb.size; omega) (fun q hq => by have := hS0 q hq.1; omega))
      exact IsAt.new HPs.out hbw
     ·intro r W' hA
      have hRR : ∀ (W' : World), Fr W W' (fun q => S0 q ∧ q < wr.heap.size) → ∀ q, wA.heap.size ≤ q → ∀ c, W.heap[q]? = some (.cells c 114 (0, 0)) → ∃ c', W'.heap[q]? = some (.cells c' 114 (0, 0)) ∧ c'.size = c.size := fun W' hf q hq c hc => ⟨c, (hf.block q (Array.getElem?_eq_some_iff.1 hc).1 (fun h => by have := HBA.out.size; omega)).trans hc, rfl⟩
      cases so_ with
      | none =>
       obtain ⟨rfl, hf⟩ := hA
       exact ⟨_, _, _, _, rfl, ⟨⟨rfl, rfl, (Fr.ofBelow hb _).trans hf (fun _ _ h => h)⟩, by have := hf.size; have := hb.size; omega⟩, hRR W' hf⟩
      | some a =>
       obtain ⟨so, sc, ao, ac, M2, bx2, rfl, hkm, hku, hp2, hf, hog, hin⟩ := hA
       exact ⟨_, _, _, _, rfl, ⟨⟨rfl, rfl, (Fr.ofBelow hb _).trans hf (fun _ _ h => h), ⟨so, sc, rfl⟩, ⟨ao, ac, rfl⟩, k_low hkm hb.size, k_low hku hb.size, hog, hin, M2, bx2, hp2.mono (fun q _ hq => by rcases hq with hq | hq; exact .inl hq; exact .inr (by have := hb.size; omega))⟩, by have := hf.size; have := hb.size; omega⟩, hRR W' hf⟩
    ·cases so_ with
     | none => rw [h.2.1]; exact ⟨rfl, by simp [Value.oneCell']⟩
     | some a => rw [h.2.1]; exact ⟨rfl, by simp [Value.oneCell']⟩
    intro X W9 ⟨tv, uv, rc, e, q, x8, x9, x11, x10, htq, hq1, hq2⟩
    have hf9 : Fr wA W9 (fun q => S0 q ∧ q < wr.heap.size) := by
     cases so_ with
     | none => exact htq.2.2
     | some a => exact htq.2.2.1
    have hnS : ∀ z, z < w1.heap.size → ¬ (S0 z ∧ z < wr.heap.size) := fun z hz h => by have := hS0 z h.1; omega
    have HO9 : Hid (OcBox W9 (w.heap.size + 1) #[.int .i64 0, .int .i64 0, .int .i64 0, .slice none 0 0]) := (hf9.block _ (Array.getElem?_eq_some_iff.1 HOA.out).1 (hnS _ (by omega))).trans HOA.out
    have hJ9 : JobBox W9 w.heap.size #[pr, .slice go G.length gc, .slice po pn pc, .int .i64 st, .int .i64 se, .int .i64 pa] := (hf9.block _ (Array.getElem?_eq_some_iff.1 HJA.out).1 (hnS _ (by omega))).trans HJA.out
    have HL9 : Hid (Below w.heap.size w W9) := HLA.out.trans (hf9.below HLA.out.size (fun z hz => by have := hS0 z hz.1; omega))
    have hA9 : AgBox W9 ab #[.bool (oh bef 0), .bool (oh bef 1), .bool (oh bef 2), .bool (oh bef 3), .bool (oh bef 4), .int .i64 (ov bef 0), .int .i64 (ov bef 1), .int .i64 (ov bef 2), .int .i64 (ov bef 3), .int .i64 (ov bef 4)] := agb_fr hf9 (fun h => hab h.1) HGA.out
    have j4' : W9.cell? ⟨w.heap.size, 4, none⟩ = some (.int .i64 se) := by
     have := hJ9
     unfold JobBox at this
     simp [World.cell?, this]
    have HTq : Hid _ := htq
    have HJ9 : Hid _ := hJ9
    have HA9 : Hid _ := hA9
    have HQ2 : Hid (AgBox W9 q rc) := hq2
    have HSo : Hid _ := hso_
    clear htq hf9 hJ9 hA9 hq2 HJA HGA HPA2 HOA j3 j4 hp0 hso_
    simp only [puts]
    rw [x8, x9, x10, x11]
    simp only [Act.put, List.setIfInBounds_toArray, List.set_cons_succ, List.set_cons_zero, List.set_nil]
    cases so_ with
    | none =>
     obtain ⟨rfl, rfl, _⟩ := HTq.out
     go_wp2_with (first
      | (go_at_call 52; refine (failed_any 20 d _).mono ?_; rintro r wB ⟨rfl, hbB⟩; have HOB : Hid (OcBox wB (w.heap.size + 1) #[.int .i64 0, .int .i64 0, .int .i64 0, .slice none 0 0]) := (hbB.block _ (Array.getElem?_eq_some_iff.1 HO9.out).1).trans HO9.out; have HLB : Hid (Below w.heap.size w wB) := HL9.out.trans (hbB.mono HL9.out.size); clear hbB)
      | (refine wpList_store_row rfl 58 _ _ rfl (w.heap.size + 1) #[.int .i64 2, .int .i64 20, .int .i64 d, .slice none 0 0] rfl rfl 58 #[.int .i64 0, .int .i64 0, .int .i64 0, .slice none 0 0] HOB.out size_oc rfl (by simp [Value.oneCell']) ?_))
     refine bodyPost_ret (v := .tuple #[.agg #[.int .i64 2, .int .i64 20, .int .i64 d, .slice none 0 0], .int .i64 0]) (res_ctR Tryz.results22 _ _ (w.heap.size + 1) 58 _ (0, 0) _ rfl (setRow_heap _ _ _ _ _ _ HOB.out) Tryz.underlying58 rfl size_oc) rfl ?_
     have hout : oo = ⟨2, 20, d, []⟩ := by
      rw [← HR.out.eq, show 1001 - d = (1000 - d) + 1 by omega]
      unfold runP
      rw [if_neg (by rw [← HMn.out]; omega), if_neg hds]
      rw [HSo.out]
     rw [HOo.out, hout]
     exact ⟨⟨none, 0, rfl, World.ownsRow_nil _ _ _ _⟩, k_setRow HLB.out (by omega) _⟩
    | some a =>
     obtain ⟨rfl, rfl, hf9, ⟨so, sc, rfl⟩, ⟨ao, ac, rfl⟩, hkm, hku, hog, hin, M2, bx2, hp2⟩ := HTq.out
     obtain ⟨ln, HLn⟩ : ∃ ln, Hid (ln = a.sent.length) := ⟨_, rfl⟩
     rw [← HLn.out]
     by_cases hqt : se < (ln : Int)
     ·go_wp2_with (first
       | (go_at_call 52; refine (failed_any 92 d _).mono ?_; rintro r wB ⟨rfl, hbB⟩; have HOB : Hid (OcBox wB (w.heap.size + 1) #[.int .i64 0, .int .i64 0, .int .i64 0, .slice none 0 0]) := (hbB.block _ (Array.getElem?_eq_some_iff.1 HO9.out).1).trans HO9.out; have HLB : Hid (Below w.heap.size w wB) := HL9.out.trans (hbB.mono HL9.out.size); clear hbB)
       | (refine wpList_store_row rfl 58 _ _ rfl (w.heap.size + 1) #[.int .i64 2, .int .i64 92, .int .i64 d, .slice none 0 0] rfl rfl 58 #[.int .i64 0, .int .i64 0, .int .i64 0, .slice none 0 0] HOB.out size_oc rfl (by simp [Value.oneCell']) ?_))
      refine bodyPost_ret (v := .tuple #[.agg #[.int .i64 2, .int .i64 92, .int .i64 d, .slice none 0 0], .int .i64 0]) (res_ctR Tryz.results22 _ _ (w.heap.size + 1) 58 _ (0, 0) _ rfl (setRow_heap _ _ _ _ _ _ HOB.out) Tryz.underlying58 rfl size_oc) rfl ?_
      have hout : oo = ⟨2, 92, d, []⟩ := by
       rw [← HR.out.eq, show 1001 - d = (1000 - d) + 1 by omega]
       unfold runP
       rw [if_neg (by rw [← HMn.out]; omega), if_neg hds]
       rw [HSo.out]
       simp only []
       rw [if_pos (by rw [← HLn.out]; exact hqt)]
      rw [HOo.out, hout]
      exact ⟨⟨none, 0, rfl, World.ownsRow_nil _ _ _ _⟩, k_setRow HLB.out (by omega) _⟩
     ·have hle : (a.sent.length : Int) ≤ se := by rw [← HLn.out]; omega
      obtain ⟨hokA, hfA, huA, hms, hmo, hmk, hal, hnext⟩ := HI.out.done _ _ _ HR.out.inv a HSo.out hle
      have hp3 := hp2.only
      have hCl : Calls Tryz.prog 54 #[.pointer (some ⟨p, 0, none⟩), .slice so ln sc, .slice ao a.asked.length ac] W9 fun r w' => r = .returned (.int .i64 (appG a.s.G a.asked).2) ∧ (∃ sv' M' SB', PA w' (fun z => (((S0 z ∧ z < wr.heap.size) ∨ wA.heap.size ≤ z) ∧ ¬ TagO W9 z) ∨ W9.heap.size ≤ z) p (n + s.G.length + ln) (closeP ⟨a.s.G, a.s.H, []⟩ a.sent a.asked) sv' M' hm' bx2 SB') ∧ Fr W9 w' (fun z => ((S0 z ∧ z < wr.heap.size) ∨ wA.heap.size ≤ z) ∧ ¬ TagO W9 z) := by
       rw [HLn.out]
       exact close_any hp3 hokA hfA huA (km_ms hkm (fun z c hc h => h.2 ⟨c, _, hc, .inr (.inl rfl)⟩)) hms (by omega) (by omega) (by simp only [List.length_nil]; omega) (ku_us hku (fun z c hc h => h.2 ⟨c, _, hc, .inr (.inr rfl)⟩)) hmk hmo (by omega)
      have HCl : Hid _ := hCl
      have hqt' : ¬ se < (ln : Int) := hqt
      have HNx : Hid _ := hnext
      have hsz9 := hf9.size
      have hszA := HBA.out.size
      have HTb : Hid (TagO W9 ab ∧ TagO W9 q) := ⟨⟨_, _, HA9.out, .inl rfl⟩, ⟨_, _, HQ2.out, .inl rfl⟩⟩
      clear hkm hku hf9 hp2 hp3 hCl hnext HTq hokA hfA huA hms hmo hmk hal
      go_upto_region 15 with (go_at_call 54; refine Calls.mono HCl.out ?_; rintro r w10 ⟨rfl, hp10, hf10⟩; have HP10 : Hid _ := hp10; have HF10 : Hid _ := hf10; clear hp10 hf10)
      have HQ10 : Hid (AgBox w10 q #[.bool (oh a.gave 0), .bool (oh a.gave 1), .bool (oh a.gave 2), .bool (oh a.gave 3), .bool (oh a.gave 4), .int .i64 (ov a.gave 0), .int .i64 (ov a.gave 1), .int .i64 (ov a.gave 2), .int .i64 (ov a.gave 3), .int .i64 (ov a.gave 4)]) := agb_fr HF10.out (fun h => h.2 HTb.out.2) HQ2.out
      have HA10 : Hid (AgBox w10 ab #[.bool (oh bef 0), .bool (oh bef 1), .bool (oh bef 2), .bool (oh bef 3), .bool (oh bef 4), .int .i64 (ov bef 0), .int .i64 (ov bef 1), .int .i64 (ov bef 2), .int .i64 (ov bef 3), .int .i64 (ov bef 4)]) := agb_fr HF10.out (fun h => h.2 HTb.out.1) HA9.out
      have HRL : Hid (RL w w1 (w10.setRow ab #[.bool (oh a.gave 0), .bool (oh a.gave 1), .bool (oh a.gave 2), .bool (oh a.gave 3), .bool (oh a.gave 4), .int .i64 (ov a.gave 0), .int .i64 (ov a.gave 1), .int .i64 (ov a.gave 2), .int .i64 (ov a.gave 3), .int .i64 (ov a.gave 4)]) I f k st se oo p ab #[pr, .slice go G.length gc, .slice po pn pc, .int .i64 st, .int .i64 se, .int .i64 pa] (d + 1) (closeP ⟨a.s.G, a.s.H, []⟩ a.sent a.asked) a.gave) := by
       obtain ⟨sv3, M3, SB3, hp10⟩ := HP10.out
       have hfr := fr_setRow w10 ab #[.bool (oh a.gave 0), .bool (oh a.gave 1), .bool (oh a.gave 2), .bool (oh a.gave 3), .bool (oh a.gave 4), .int .i64 (ov a.gave 0), .int .i64 (ov a.gave 1), .int .i64 (ov a.gave 2), .int .i64 (ov a.gave 3), .int .i64 (ov a.gave 4)]
       have hF := HF10.out
       have hjl := (Array.getElem?_eq_some_iff.1 HJ9.out).1
       have hol := (Array.getElem?_eq_some_iff.1 HO9.out).1
       refine ⟨HNx.out, ⟨_, _, sv3, M3, hm', bx2, SB3, hp10.kept hfr (fun z hz e => ?_), ?_, ?_, ?_⟩, ?_, ?_, setRow_heap _ _ _ _ _ _ HA10.out, ?_, by have := HR.out.dle; omega, ?_, h2⟩
       ·rcases hz with hz | hz
        ·exact hz.2 (e ▸ HTb.out.1)
        ·omega
       ·have := le_adds hn (y := s.G.length + ln) (by omega)
        omega
       ·rintro (hz | hz)
        ·exact hz.2 HTb.out.1
        ·omega
       ·rintro z (hz | hz)
        ·rcases hz.1 with h | h
         ·exact hS0 z h.1
         ·omega
        ·omega
       ·exact (hfr.block _ (by have := hF.size; omega) (by omega)).trans ((hF.block _ hjl (fun h => by rcases h.1 with h | h; (have := hS0 _ h.1; omega); omega)).trans HJ9.out)
       ·exact (hfr.block _ (by have := hF.size; omega) (by omega)).trans ((hF.block _ hol (fun h => by rcases h.1 with h | h; (have := hS0 _ h.1; omega); omega)).trans HO9.out)
       ·exact k_setRow (HL9.out.trans (hF.below HL9.out.size (fun z hz => by rcases hz.1 with h | h; (have := hS0 _ h.1; omega); omega))) (by omega) _
       ·have heq := HR.out.eq
        rw [show 1001 - d = (1000 - d) + 1 by omega] at heq
        unfold runP at heq
        rw [if_neg (by rw [← HMn.out]; omega), if_neg hds, HSo.out] at heq
        simp only [] at heq
        rw [if_neg (by rw [← HLn.out]; omega)] at heq
        rw [show 1001 - (d + 1) = 1000 - d by omega]
        exact heq
      clear HP10 HF10 HCl HQ2 HA9 HJ9 HO9 HL9
      go_wp2_with (first
       | (refine wpList_load_row rfl 114 _ rfl q rfl 114 #[.bool (oh a.gave 0), .bool (oh a.gave 1), .bool (oh a.gave 2), .bool (oh a.gave 3), .bool (oh a.gave 4), .int .i64 (ov a.gave 0), .int .i64 (ov a.gave 1), .int .i64 (ov a.gave 2), .int .i64 (ov a.gave 3), .int .i64 (ov a.gave 4)] (0, 0) _ HQ10.out Tryz.underlying114 rfl size_agm ?_)
       | (refine wpList_store_row rfl 114 _ _ rfl ab #[.bool (oh a.gave 0), .bool (oh a.gave 1), .bool (oh a.gave 2), .bool (oh a.gave 3), .bool (oh a.gave 4), .int .i64 (ov a.gave 0), .int .i64 (ov a.gave 1), .int .i64 (ov a.gave 2), .int .i64 (ov a.gave 3), .int .i64 (ov a.gave 4)] rfl rfl 114 #[.bool (oh bef 0), .bool (oh bef 1), .bool (oh bef 2), .bool (oh bef 3), .bool (oh bef 4), .int .i64 (ov bef 0), .int .i64 (ov bef 1), .int .i64 (ov bef 2), .int .i64 (ov bef 3), .int .i64 (ov bef 4)] HA10.out size_agm rfl (by simp [Value.oneCell']) ?_))
      go_roundw
      case rel => exact ⟨d + 1, _, _, by go_num, HRL.out⟩
      case measure => simp [intOf]; omega
end Go.Proofs.YtmgjlamglhpnaaaGreat
