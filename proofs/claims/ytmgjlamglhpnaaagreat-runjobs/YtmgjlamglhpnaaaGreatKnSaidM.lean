/- The document's awake of layer 7. -/
import Derived.Test.YtmgjlamglhpnaaaGreatKnToM
import Derived.Test.YtmgjlamglhpnaaaGreatCbCombM
import Derived.Laws.Tables
import Derived.Laws.OwnMore
import Derived.Test.YtmgjlamglhpnaaaGreatRnTurn5M
import Derived.Test.YtmgjlamglhpnaaaGreatCbCmpM
import Derived.Deep.Cut
import Derived.Deep.DeepCutAuto
import Derived.Test.YtmgjlamglhpnaaaGreatJbMM
import Derived.WalkKit
import Derived.Test.YtmgjlamglhpnaaaGreatProg
import Derived.WalkSpells
import Derived.WalkLawsBesides
import Derived.Laws.MathBits
import Derived.Laws.Bits64b
import Derived.BigQuiet
import Derived.Deep.CutBlock
import Derived.Handy
import Derived.LoopN
import Derived.Test.YtmgjlamglhpnaaaGreatJbDecM
import Derived.Test.YtmgjlamglhpnaaaGreatMuSetM
namespace Go.Proofs.YtmgjlamglhpnaaaGreat
set_option maxRecDepth 100000
open Go.RowKit
theorem two_boxes (w : World) (c : Array Value) {W0 : World} (h : (w.alloc (.cells c 156)).alloc (.cells #[.int .i64 0, .bool false, .slice none 0 0, .slice none 0 0, .bool false, .bool false, .bool false, .bool false, .bool false, .int .i64 0, .int .i64 0, .int .i64 0, .int .i64 0, .int .i64 0, .int .i64 0] 153) = W0) : InBox W0 w.heap.size c ∧ OutBox W0 (w.heap.size + 1) #[.int .i64 0, .bool false, .slice none 0 0, .slice none 0 0, .bool false, .bool false, .bool false, .bool false, .bool false, .int .i64 0, .int .i64 0, .int .i64 0, .int .i64 0, .int .i64 0, .int .i64 0] ∧ Below w.heap.size w W0 ∧ W0.heap.size = w.heap.size + 2 := by
 rw [← h]
 have h1 := OutBox.made (w.alloc (.cells c 156)) #[.int .i64 0, .bool false, .slice none 0 0, .slice none 0 0, .bool false, .bool false, .bool false, .bool false, .bool false, .int .i64 0, .int .i64 0, .int .i64 0, .int .i64 0, .int .i64 0, .int .i64 0]
 rw [World.size_alloc] at h1
 exact ⟨(InBox.made w c).new (one_newK _ _), h1, (one_newK _ _).trans ((one_newK _ _).mono (by simp)), by simp⟩
theorem three_boxes (w : World) (c z : Array Value) {W0 : World} (h : ((w.alloc (.cells c 156)).alloc (.cells #[.int .i64 0, .bool false, .slice none 0 0, .slice none 0 0, .bool false, .bool false, .bool false, .bool false, .bool false, .int .i64 0, .int .i64 0, .int .i64 0, .int .i64 0, .int .i64 0, .int .i64 0] 153)).alloc (.cells z 153) = W0) : InBox W0 w.heap.size c ∧ OutBox W0 (w.heap.size + 1) #[.int .i64 0, .bool false, .slice none 0 0, .slice none 0 0, .bool false, .bool false, .bool false, .bool false, .bool false, .int .i64 0, .int .i64 0, .int .i64 0, .int .i64 0, .int .i64 0, .int .i64 0] ∧ OutBox W0 (w.heap.size + 2) z ∧ Below w.heap.size w W0 ∧ W0.heap.size = w.heap.size + 3 := by
 obtain ⟨W1, hW1⟩ : ∃ W1, (w.alloc (.cells c 156)).alloc (.cells #[.int .i64 0, .bool false, .slice none 0 0, .slice none 0 0, .bool false, .bool false, .bool false, .bool false, .bool false, .int .i64 0, .int .i64 0, .int .i64 0, .int .i64 0, .int .i64 0, .int .i64 0] 153) = W1 := ⟨_, rfl⟩
 obtain ⟨a1, a2, a3, a4⟩ := two_boxes w c hW1
 rw [hW1] at h
 rw [← h]
 have h1 := OutBox.made W1 z
 rw [a4] at h1
 exact ⟨a1.new (one_newK _ _), a2.new (one_newK _ _), h1, a3.trans ((one_newK _ _).mono (by omega)), by simp [a4]⟩
section
structure POut where
 v : Int
 halt : Bool
 sent : List Msg
 asked : List Mu
 agg : Nat → Option Int
abbrev PStep := Int → Vx → List Msg → (Nat → Option Int) → Int → Option POut
def StepR (W w' : World) (r : Ending) : Option POut → Prop
 | none => ∃ e, e ≠ 0 ∧ r = .returned (.agg #[.int .i64 0, .bool false, .slice none 0 0, .slice none 0 0, .bool false, .bool false, .bool false, .bool false, .bool false, .int .i64 0, .int .i64 0, .int .i64 0, .int .i64 0, .int .i64 0, .int .i64 e])
 | some o => ∃ so sc ao ac, r = .returned (.agg #[.int .i64 o.v, .bool o.halt, .slice so o.sent.length sc, .slice ao o.asked.length ac, .bool (oh o.agg 0), .bool (oh o.agg 1), .bool (oh o.agg 2), .bool (oh o.agg 3), .bool (oh o.agg 4), .int .i64 (ov o.agg 0), .int .i64 (ov o.agg 1), .int .i64 (ov o.agg 2), .int .i64 (ov o.agg 3), .int .i64 (ov o.agg 4), .int .i64 0]) ∧ KM w' W.heap.size (.slice so o.sent.length sc) o.sent ∧ KU w' W.heap.size (.slice ao o.asked.length ac) o.asked
def StepC (pr : Value) (f : PStep) (ps : List Int) (step : Int) (bef : Nat → Option Int) (mny : Int) (v : Vx) (l : List Msg) : Prop :=
 ∀ (W : World) (eo : Option Addr) (ec : Nat) (ha : Bool) (mo : Option Addr) (mc : Nat) (po : Option Addr) (pn pc : Nat), pn = ps.length → EdAt W (fun _ => True) eo v.es → MsAt W (fun _ => True) mo l → IsAt W po ps →
  Calls Tryz.prog 110 #[pr, .agg #[.int .i64 step, .int .i64 v.id, .int .i64 v.val, .slice eo v.es.length ec, .bool ha, .slice mo l.length mc, .bool (oh bef 0), .bool (oh bef 1), .bool (oh bef 2), .bool (oh bef 3), .bool (oh bef 4), .int .i64 (ov bef 0), .int .i64 (ov bef 1), .int .i64 (ov bef 2), .int .i64 (ov bef 3), .int .i64 (ov bef 4), .int .i64 mny, .slice po pn pc]] W fun r w' => StepR W w' r (f step v l bef mny) ∧ Below W.heap.size W w'
def turnP (f : PStep) (k step : Int) (bef : Nat → Option Int) (mny : Int) (B : List Msg) (v : Vx) : Option POut := (combO k (sortM (toV B v.id))).bind fun l => f step v l bef mny
def TurnA (w w' : World) (S : Nat → Prop) (p n : Nat) (s : St) (sv : Value) (M : List (Vx × Value)) (hm bx : Nat) (SB : Nat → Prop) (i : Nat) (v : Vx) : Option POut → Prop
 | none => PA w' S p n s sv M hm bx SB ∧ Below w.heap.size w w'
 | some o => ∃ M', PA w' S p (n + 1) ⟨s.G.set i ⟨v.id, o.v, v.es⟩, fun y => if y = v.id then o.halt else s.H y, s.B⟩ sv M' hm bx SB ∧ Fr w w' S
section
variable {w : World} {S : Nat → Prop} {p n : Nat} {s : St} {sv : Value} {M : List (Vx × Value)} {hm bx : Nat} {SB : Nat → Prop}
theorem for_msgs (h : PA w S p n s sv M hm bx SB) (hB : s.B.length * 32 ≤ 140737488355328) {id : Int} (hid : I64 id) {W : World} (hb : Below w.heap.size w W) :
  Calls Tryz.prog 109 #[.pointer (some ⟨bx, 0, none⟩), .int .i64 id] W fun r w' => ∃ mo mc, r = .returned (.slice mo (sortM (toV s.B id)).length mc) ∧ (MsAt w' (fun _ => True) mo (sortM (toV s.B id)) ∧ (sortM (toV s.B id)).length ≤ mc ∧ (mo = none → mc = 0)) ∧ Below W.heap.size W w' := by
 refine (for_any (h.new hb).box hid hB).mono ?_
 rintro r w' ⟨v, rfl, hm, _, hb'⟩
 obtain ⟨mo, mc, rfl⟩ := hm.shape
 refine ⟨mo, mc, rfl, ⟨(hm.at_).mono (fun _ _ _ => trivial), ?_, ?_⟩, hb'⟩
 ·rcases hm.2 with ⟨h1, h2⟩ | ⟨g, cap, cur, h1, _, _, hn, _⟩
  ·have := congrArg (fun v => match v with | Value.slice _ n c => (n, c) | _ => (0, 0)) h1; simp at this; omega
  ·have := congrArg (fun v => match v with | Value.slice _ n c => (n, c) | _ => (0, 0)) h1; simp at this; omega
 ·rintro rfl
  rcases hm.2 with ⟨h1, h2⟩ | ⟨g, cap, cur, h1, _⟩
  ·have := congrArg (fun v => match v with | Value.slice _ n c => (n, c) | _ => (0, 0)) h1; simp at this; omega
  ·have := congrArg (fun v => match v with | Value.slice o _ _ => o | _ => none) h1; simp at this
theorem sort_ok {B : List Msg} (hok : ∀ m ∈ B, m.ok) (id : Int) : ∀ m ∈ sortM (toV B id), m.ok := fun m hm => hok m (List.mem_filter.1 ((sortM_perm _).mem_iff.1 hm)).1
theorem sort_le {B : List Msg} (id : Int) : (sortM (toV B id)).length ≤ B.length := by
 rw [(sortM_perm _).length_eq]
 exact List.length_filter_le _ _
theorem PA.valued {rb cap : Nat} (h : PA w S p n s (.slice (some ⟨rb, 0, none⟩) s.G.length cap) M hm bx SB) {i : Nat} (hi : i < s.G.length) (v : Vx) (hv : s.G[i] = v) (x : Int) :
  (∃ M', PA (w.setCell ⟨rb, i * 3 + 1, none⟩ (.int .i64 x)) S p n ⟨s.G.set i ⟨v.id, x, v.es⟩, s.H, s.B⟩ (.slice (some ⟨rb, 0, none⟩) s.G.length cap) M' hm bx SB) ∧ w.cell? ⟨rb, i * 3 + 1, none⟩ = some (.int .i64 v.val) ∧ w.frozen? ⟨rb, i * 3 + 1, none⟩ = false := by
 have hiM : i < M.length := by rw [h.len]; exact hi
 obtain ⟨A, y, B, rfl, hA⟩ : ∃ A y B, M = A ++ y :: B ∧ A.length = i := ⟨M.take i, M[i], M.drop (i + 1), by rw [← List.drop_eq_getElem_cons hiM, List.take_append_drop], by rw [List.length_take]; omega⟩
 have hy : y.1 = v := by
  have h1 := h.gs
  have h2 : ((A ++ y :: B).map (·.1))[i]? = some y.1 := by subst hA; simp
  rw [h1, List.getElem?_eq_getElem hi, hv] at h2
  exact (Option.some.inj h2).symm
 have hrow := h.gw.row
 obtain ⟨g, cap', cur, e, hle, hBk, ht⟩ := own_blk hrow (by omega)
 have e2 := h.len
 refine ⟨?_, ?_, ?_⟩
 ·rw [← e2] at h ⊢
  have := h.val x
  rw [hA, hy] at this
  exact ⟨_, this⟩
 ·obtain ⟨ao, cap'', e3, hvx⟩ := h.at_
  cases e3
  obtain ⟨b, off, e3, _, hc⟩ := hvx (by omega)
  cases e3
  obtain ⟨eo, ec, _, e1, _⟩ := hc i hi
  rw [hv, Nat.zero_add] at e1
  exact e1
 ·rw [e2] at e
  cases e
  exact hBk.soft _
set_option maxHeartbeats 2000000 in
theorem turn_none (h : PA w S p n s sv M hm bx SB) (hB : s.B.length * 32 ≤ 140737488355328) (hok : ∀ m ∈ s.B, m.ok) {i : Nat} (hi : i < s.G.length) (hi2 : i ≤ 1073741824) (hl : s.G.length ≤ 1073741824) (v : Vx) (hv : s.G[i] = v) (hid : I64 v.id) {pr : Value} {k : Int} (hCo : ∀ W, Calls Tryz.prog 108 #[pr] W fun r w' => r = .returned (.int .i64 k) ∧ w' = W) (hn : combO k (sortM (toV s.B v.id)) = none)
  {step mny : Int} {bef : Nat → Option Int} {po : Option Addr} {pn pc : Nat} :
  Calls Tryz.prog 85 #[.pointer (some ⟨p, 0, none⟩), .int .i64 i, pr, .agg #[.int .i64 step, .int .i64 0, .int .i64 0, .slice none 0 0, .bool false, .slice none 0 0, .bool (oh bef 0), .bool (oh bef 1), .bool (oh bef 2), .bool (oh bef 3), .bool (oh bef 4), .int .i64 (ov bef 0), .int .i64 (ov bef 1), .int .i64 (ov bef 2), .int .i64 (ov bef 3), .int .i64 (ov bef 4), .int .i64 mny, .slice po pn pc]] w fun r w' => r = .returned (.agg #[.int .i64 0, .bool false, .slice none 0 0, .slice none 0 0, .bool false, .bool false, .bool false, .bool false, .bool false, .int .i64 0, .int .i64 0, .int .i64 0, .int .i64 0, .int .i64 0, .int .i64 20]) ∧ PA w' S p n s sv M hm bx SB ∧ Below w.heap.size w w' := by
 obtain ⟨W0, hW0⟩ : ∃ W0, (w.alloc (.cells #[.int .i64 step, .int .i64 0, .int .i64 0, .slice none 0 0, .bool false, .slice none 0 0, .bool (oh bef 0), .bool (oh bef 1), .bool (oh bef 2), .bool (oh bef 3), .bool (oh bef 4), .int .i64 (ov bef 0), .int .i64 (ov bef 1), .int .i64 (ov bef 2), .int .i64 (ov bef 3), .int .i64 (ov bef 4), .int .i64 mny, .slice po pn pc] 156)).alloc (.cells #[.int .i64 0, .bool false, .slice none 0 0, .slice none 0 0, .bool false, .bool false, .bool false, .bool false, .bool false, .int .i64 0, .int .i64 0, .int .i64 0, .int .i64 0, .int .i64 0, .int .i64 0] 153) = W0 := ⟨_, rfl⟩
 obtain ⟨hIn, hOut, hB0, hs0⟩ := two_boxes w _ hW0
 have h0 := (h.mono (T := fun k => S k ∧ k < w.heap.size) (fun k hk hs => ⟨hs, hk⟩)).new hB0
 obtain ⟨c0, c1, c2⟩ := h0.cells
 obtain ⟨ao, cap, rfl, hvx⟩ := h0.at_
 obtain ⟨rb, off, rfl, _, hc⟩ := hvx (by omega)
 obtain ⟨eo, ec, e0, e1, e2, e3⟩ := hc i hi
 rw [hv] at e0 e1 e2 e3
 have HP : Hid (PA W0 (fun k => S k ∧ k < w.heap.size) p n s (.slice (some ⟨rb, off, none⟩) s.G.length cap) M hm bx SB) := h0
 have HOut : Hid _ := hOut
 have HB0 : Hid _ := hB0
 have HS0 : Hid _ := hs0
 have HC2 : Hid _ := c2
 have HE0 : Hid _ := e0
 have HOk : Hid (∀ m ∈ s.B, m.ok) := hok
 have HNn : Hid _ := hn
 have HCo : Hid (∀ W, Calls Tryz.prog 108 #[pr] W fun r w' => r = .returned (.int .i64 k) ∧ w' = W) := hCo
 have hiG : (i : Int) < (s.G.length : Int) := by omega
 clear h h0 hIn hOut hB0 hs0 hc hvx hok e1 e2 e3 hCo hn
 go_enter Tryz.func85, Tryz.ntmps85
 go_upto_region 2 with (fail)
 refine turn_r2 (pr := pr) (p := p) (bx := bx) (rb := rb) (off := off + i * 3) (n := (sortM (toV s.B v.id)).length) (k := k) (id := v.id) (e := 20) (FQ := fun mo mc W => MsAt W (fun _ => True) mo (sortM (toV s.B v.id)) ∧ (sortM (toV s.B v.id)).length ≤ mc ∧ (mo = none → mc = 0)) (CQ := fun v0 _ => v0 = .slice none 0 0) rfl rfl rfl rfl HC2.out HE0.out HCo.out (fun W hb => for_msgs HP.out hB hid hb) (fun W mo mc hb hq => ?_) (fun mo mc W W' hq hb => ⟨hq.1.new hb, hq.2⟩) (fun v W W' h _ => h) ?_
 ·refine (combine_any k _ mc hq.1 (sort_ok HOk.out _) (by have := sort_le (B := s.B) v.id; omega) hq.2.1 hq.2.2).mono ?_
  rw [HNn.out]
  rintro r w' ⟨h1, hb'⟩
  exact ⟨_, h1, rfl, hb'⟩
 intro X W hb ⟨hx, hx2⟩
 have HO2 : Hid _ := OutBox.new HOut.out hb
 have HP2 : Hid _ := HP.out.new hb
 have HB2 : Hid (Below w.heap.size w W) := HB0.out.trans (hb.mono HB0.out.size)
 clear hb HOut HP c0 c1 c2 HE0 HC2 e0
 simp only [puts]
 rw [hx, hx2]
 simp only [Act.put, List.setIfInBounds_toArray, List.set_cons_succ, List.set_cons_zero]
 go_wp2_with (refine wpList_store_row rfl 153 _ _ rfl (w.heap.size + 1) #[.int .i64 0, .bool false, .slice none 0 0, .slice none 0 0, .bool false, .bool false, .bool false, .bool false, .bool false, .int .i64 0, .int .i64 0, .int .i64 0, .int .i64 0, .int .i64 0, .int .i64 20] rfl rfl 153 #[.int .i64 0, .bool false, .slice none 0 0, .slice none 0 0, .bool false, .bool false, .bool false, .bool false, .bool false, .int .i64 0, .int .i64 0, .int .i64 0, .int .i64 0, .int .i64 0, .int .i64 0] HO2.out size_out rfl (by simp [Value.oneCell']) ?_)
 refine bodyPost_ret (v := .agg #[.int .i64 0, .bool false, .slice none 0 0, .slice none 0 0, .bool false, .bool false, .bool false, .bool false, .bool false, .int .i64 0, .int .i64 0, .int .i64 0, .int .i64 0, .int .i64 0, .int .i64 20]) (results_cell_row Tryz.results85 _ _ (w.heap.size + 1) 153 _ (0, 0) _ rfl (setRow_heap _ _ _ _ _ _ HO2.out) Tryz.underlying153 rfl size_out) rfl ?_
 exact ⟨rfl, (HP2.out.kept (fr_setRow _ _ _) (fun k hk e => by omega)).mono (fun k _ hs => hs.1), k_setRow HB2.out (by omega) _⟩
set_option maxHeartbeats 4000000 in
theorem turn_some (h : PA w S p n s sv M hm bx SB) (hnm : n < maxLen) (hB : s.B.length * 32 ≤ 140737488355328) (hok : ∀ m ∈ s.B, m.ok) {i : Nat} (hi : i < s.G.length) (hl : s.G.length ≤ 1073741824) (v : Vx) (hv : s.G[i] = v) (hid : I64 v.id) {pr : Value} {k : Int} (hCo : ∀ W, Calls Tryz.prog 108 #[pr] W fun r w' => r = .returned (.int .i64 k) ∧ w' = W) {l : List Msg} (hn : combO k (sortM (toV s.B v.id)) = some l)
  {f : PStep} {ps : List Int} {step mny : Int} {bef : Nat → Option Int} {po : Option Addr} {pn pc : Nat} (hpn : pn = ps.length) (hps : IsAt w po ps) (hSt : StepC pr f ps step bef mny v l) {fo : Option POut} (hfo : f step v l bef mny = fo) :
  Calls Tryz.prog 85 #[.pointer (some ⟨p, 0, none⟩), .int .i64 i, pr, .agg #[.int .i64 step, .int .i64 0, .int .i64 0, .slice none 0 0, .bool false, .slice none 0 0, .bool (oh bef 0), .bool (oh bef 1), .bool (oh bef 2), .bool (oh bef 3), .bool (oh bef 4), .int .i64 (ov bef 0), .int .i64 (ov bef 1), .int .i64 (ov bef 2), .int .i64 (ov bef 3), .int .i64 (ov bef 4), .int .i64 mny, .slice po pn pc]] w fun r w' => StepR w w' r fo ∧ TurnA w w' S p n s sv M hm bx SB i v fo := by
 obtain ⟨W0, hW0⟩ : ∃ W0, (w.alloc (.cells #[.int .i64 step, .int .i64 0, .int .i64 0, .slice none 0 0, .bool false, .slice none 0 0, .bool (oh bef 0), .bool (oh bef 1), .bool (oh bef 2), .bool (oh bef 3), .bool (oh bef 4), .int .i64 (ov bef 0), .int .i64 (ov bef 1), .int .i64 (ov bef 2), .int .i64 (ov bef 3), .int .i64 (ov bef 4), .int .i64 mny, .slice po pn pc] 156)).alloc (.cells #[.int .i64 0, .bool false, .slice none 0 0, .slice none 0 0, .bool false, .bool false, .bool false, .bool false, .bool false, .int .i64 0, .int .i64 0, .int .i64 0, .int .i64 0, .int .i64 0, .int .i64 0] 153) = W0 := ⟨_, rfl⟩
 obtain ⟨hIn, hOut, hB0, hs0⟩ := two_boxes w _ hW0
 have h0 := (h.mono (T := fun k => S k ∧ k < w.heap.size) (fun k hk hs => ⟨hs, hk⟩)).new hB0
 have hiM : i < M.length := by rw [h.len]; exact hi
 obtain ⟨rb, cap, cur, hsv, _⟩ := own_blk h0.gw.row (by omega)
 rw [h.len] at hsv
 obtain ⟨c0, c1, c2⟩ := h0.cells
 obtain ⟨ao, cap', e, hvx⟩ := h0.at_
 subst hsv
 cases e
 obtain ⟨b, off, e, _, hc⟩ := hvx (by omega)
 cases e
 obtain ⟨eo, ec, e0, e1, e2, e3⟩ := hc i hi
 rw [hv, Nat.zero_add] at e0 e1 e2
 rw [hv] at e3
 have HP : Hid (PA W0 (fun k => S k ∧ k < w.heap.size) p n s (.slice (some ⟨rb, 0, none⟩) s.G.length cap) M hm bx SB) := h0
 have HOut : Hid _ := hOut
 have HIn : Hid _ := hIn
 have HB0 : Hid _ := hB0
 have HS0 : Hid _ := hs0
 have HC2 : Hid _ := c2
 have HE : Hid (W0.cell? ⟨rb, i * 3, none⟩ = some (.int .i64 v.id) ∧ W0.cell? ⟨rb, i * 3 + 1, none⟩ = some (.int .i64 v.val) ∧ W0.cell? ⟨rb, i * 3 + 2, none⟩ = some (.slice eo v.es.length ec) ∧ EdAt W0 (fun _ => True) eo v.es) := ⟨e0, e1, e2, e3⟩
 have HOk : Hid (∀ m ∈ s.B, m.ok) := hok
 have HNn : Hid _ := hn
 have HCo : Hid (∀ W, Calls Tryz.prog 108 #[pr] W fun r w' => r = .returned (.int .i64 k) ∧ w' = W) := hCo
 have HSt : Hid (StepC pr f ps step bef mny v l) := hSt
 have HPs : Hid (IsAt w po ps) := hps
 have HPn : Hid _ := hpn
 have HV : Hid _ := hv
 have HFo : Hid _ := hfo
 have hiG : (i : Int) < (s.G.length : Int) := by omega
 clear h h0 hIn hOut hB0 hs0 hc hvx hok e0 e1 e2 e3 hCo hn hSt hps hpn hv hfo
 go_enter Tryz.func85, Tryz.ntmps85
 go_upto_region 2 with (fail)
 refine turn_r2 (pr := pr) (p := p) (bx := bx) (rb := rb) (off := i * 3) (n := (sortM (toV s.B v.id)).length) (k := k) (id := v.id) (e := 0) (FQ := fun mo mc W => MsAt W (fun _ => True) mo (sortM (toV s.B v.id)) ∧ (sortM (toV s.B v.id)).length ≤ mc ∧ (mo = none → mc = 0)) (CQ := fun v0 W => ∃ mo mc, v0 = .slice mo l.length mc ∧ MsAt W (fun k => W0.heap.size ≤ k) mo l) rfl rfl rfl rfl HC2.out HE.out.1 HCo.out (fun W hb => for_msgs HP.out hB hid hb) (fun W mo mc hb hq => ?_) (fun mo mc W W' hq hb => ⟨hq.1.new hb, hq.2⟩) (fun v W W' h hb => by obtain ⟨mo, mc, e, h'⟩ := h; exact ⟨mo, mc, e, h'.new hb⟩) ?_
 ·refine (combine_new k _ mc hq.1 (sort_ok HOk.out _) (by have := sort_le (B := s.B) v.id; omega) hq.2.1 hq.2.2).mono ?_
  rw [HNn.out]
  rintro r w' ⟨⟨mo', mc', h1, h2⟩, hb'⟩
  exact ⟨_, h1, ⟨mo', mc', rfl, h2.mono (fun k _ hk => Nat.le_trans hb.size hk)⟩, hb'⟩
 intro X W hb ⟨⟨mo, mc, hx, hms⟩, hx2⟩
 have HO2 : Hid _ := OutBox.new HOut.out hb
 have HI2 : Hid _ := InBox.new HIn.out hb
 have HP2 : Hid _ := HP.out.new hb
 have HMs : Hid (MsAt W (fun k => w.heap.size + 2 ≤ k) mo l) := hms.mono (fun k _ hk => by have := HS0.out; omega)
 have HE2 : Hid (W.cell? ⟨rb, i * 3, none⟩ = some (.int .i64 v.id) ∧ W.cell? ⟨rb, i * 3 + 1, none⟩ = some (.int .i64 v.val) ∧ W.cell? ⟨rb, i * 3 + 2, none⟩ = some (.slice eo v.es.length ec) ∧ EdAt W (fun _ => True) eo v.es) := ⟨(hb.cell (p := ⟨rb, i * 3, none⟩) (lt_cell HE.out.1)).trans HE.out.1, (hb.cell (p := ⟨rb, i * 3 + 1, none⟩) (lt_cell HE.out.1)).trans HE.out.2.1, (hb.cell (p := ⟨rb, i * 3 + 2, none⟩) (lt_cell HE.out.1)).trans HE.out.2.2.1, HE.out.2.2.2.new hb⟩
 have HB2 : Hid (Below w.heap.size w W) := HB0.out.trans (hb.mono HB0.out.size)
 have HS2 : Hid (w.heap.size + 2 ≤ W.heap.size) := by have := hb.size; have := HS0.out; show _ ≤ _; omega
 clear hb HOut HIn HP c0 c1 c2 HE HC2 hms HB0 HS0 hW0
 simp only [puts]
 rw [hx, hx2]
 simp only [Act.put, List.setIfInBounds_toArray, List.set_cons_succ, List.set_cons_zero]
 go_upto_region 5 with (fail)
 have hib : ¬ rb = w.heap.size := by have := (HP2.out.inG rb (.inl rfl)).2; omega
 have hip : ¬ p = w.heap.size := by have := (HP2.out.inP).2; omega
 have hih : ¬ hm = w.heap.size := by have := (HP2.out.inH).2; omega
 refine turn_r5 (p := p) (ib := w.heap.size) (rb := rb) (off := i * 3) (hm := hm) (en := v.es.length) (ec := ec) (mn := l.length) (mc := mc) (eo := eo) (mo := mo) (id := v.id) (va := v.val) (ha := s.H v.id) rfl rfl rfl rfl rfl HE2.out.1 HE2.out.2.1 HE2.out.2.2.1 HP2.out.cells.2.1 (fun W' e => (HP2.out.hal.same e).look hid) HP2.out.hal.lt hib hip hih HI2.out ?_
 intro Y W3 ⟨hf3, hI3⟩
 have HO3 : Hid _ := (hf3.block _ (Array.getElem?_eq_some_iff.1 HO2.out).1 (by omega)).trans HO2.out
 have HI3 : Hid _ := hI3
 have HP3 : Hid _ := HP2.out.kept hf3 (fun k hk e => by omega)
 have HMs3 : Hid (MsAt W3 (fun _ => True) mo l) := by
  exact HMs.out.kept hf3 (Q := fun _ => True) (fun k hk hk2 => ⟨by omega, trivial⟩)
 have hB3 : Below w.heap.size w W3 := HB2.out.trans (hf3.below HB2.out.size (fun k e => by omega))
 have HPs3 : Hid (IsAt W3 po ps) := IsAt.new HPs.out hB3
 have hq2 := fr_cell hf3 hib HE2.out.2.2.1
 have hq0 := fr_cell hf3 hib HE2.out.1
 have HEd3 : Hid (EdAt W3 (fun _ => True) eo v.es) := by
  obtain ⟨ao, cap', e, hvx⟩ := HP3.out.at_
  cases e
  obtain ⟨b, off, e, _, hc⟩ := hvx (by omega)
  cases e
  obtain ⟨eo', ec', _, _, e2, e3⟩ := hc i hi
  rw [HV.out] at e2 e3
  rw [Nat.zero_add, hq2] at e2
  cases e2
  exact e3
 have HC0 : Hid (W3.cell? ⟨rb, i * 3, none⟩ = some (.int .i64 v.id)) := hq0
 have HB3 : Hid _ := hB3
 have HS3 : Hid (w.heap.size + 2 ≤ W3.heap.size) := by have := hf3.size; have := HS2.out; show _ ≤ _; omega
 clear hf3 hI3 hB3 hq2 hq0 HI2 HO2 HP2 HMs HE2 HB2 HS2 hx hx2
 simp only [puts]
 simp only [Act.put, List.setIfInBounds_toArray, List.set_cons_succ, List.set_cons_zero, List.set_nil]
 cases fo with
 | none =>
  go_upto_region 7 with (first
   | (refine wpList_load_row rfl 156 _ rfl w.heap.size rfl 156 #[.int .i64 step, .int .i64 v.id, .int .i64 v.val, .slice eo v.es.length ec, .bool (s.H v.id), .slice mo l.length mc, .bool (oh bef 0), .bool (oh bef 1), .bool (oh bef 2), .bool (oh bef 3), .bool (oh bef 4), .int .i64 (ov bef 0), .int .i64 (ov bef 1), .int .i64 (ov bef 2), .int .i64 (ov bef 3), .int .i64 (ov bef 4), .int .i64 mny, .slice po pn pc] (0, 0) _ HI3.out Tryz.underlying156 rfl size_in ?_)
   | (go_at_call 110; refine Calls.mono (HSt.out _ eo ec _ mo mc po pn pc HPn.out HEd3.out HMs3.out HPs3.out) ?_; rw [HFo.out]; rintro r w4 ⟨⟨e, he, rfl⟩, hb4⟩; have HE4 : Hid (e ≠ 0) := he; have HB4 : Hid _ := hb4; have HO4 : Hid _ := OutBox.new HO3.out hb4; have HP4 : Hid _ := HP3.out.new hb4; clear he hb4))
  generalize hW5 : World.alloc w4 _ = W5
  have hb5 : Below w4.heap.size w4 W5 := by rw [← hW5]; exact one_newK _ _
  have hO5 : OutBox W5 w4.heap.size #[.int .i64 0, .bool false, .slice none 0 0, .slice none 0 0, .bool false, .bool false, .bool false, .bool false, .bool false, .int .i64 0, .int .i64 0, .int .i64 0, .int .i64 0, .int .i64 0, .int .i64 e] := by rw [← hW5]; exact OutBox.made _ _
  have HO5 : Hid _ := OutBox.new HO4.out hb5
  have HP5 : Hid _ := HP4.out.new hb5
  have HB5 : Hid (Below w.heap.size w W5) := (HB3.out.trans (HB4.out.mono HB3.out.size)).trans (hb5.mono (by have := HB3.out.size; have := HB4.out.size; omega))
  obtain ⟨_, _, _, _, _, _, _, _, _, _, _, _, _, _, q14⟩ := OutBox.cells hO5
  have HX5 : Hid _ := hO5
  have he0 : (e == 0) = false := by simpa using HE4.out
  clear hW5 hb5 hO5 HO4 HP4
  go_wp2_with (first
   | (refine wpList_load_row rfl 153 _ rfl w4.heap.size rfl 153 #[.int .i64 0, .bool false, .slice none 0 0, .slice none 0 0, .bool false, .bool false, .bool false, .bool false, .bool false, .int .i64 0, .int .i64 0, .int .i64 0, .int .i64 0, .int .i64 0, .int .i64 e] (0, 0) _ HX5.out Tryz.underlying153 rfl size_out ?_)
   | (refine wpList_store_row rfl 153 _ _ rfl (w.heap.size + 1) #[.int .i64 0, .bool false, .slice none 0 0, .slice none 0 0, .bool false, .bool false, .bool false, .bool false, .bool false, .int .i64 0, .int .i64 0, .int .i64 0, .int .i64 0, .int .i64 0, .int .i64 e] rfl rfl 153 #[.int .i64 0, .bool false, .slice none 0 0, .slice none 0 0, .bool false, .bool false, .bool false, .bool false, .bool false, .int .i64 0, .int .i64 0, .int .i64 0, .int .i64 0, .int .i64 0, .int .i64 0] HO5.out size_out rfl (by simp [Value.oneCell']) ?_))
  refine bodyPost_ret (v := .agg #[.int .i64 0, .bool false, .slice none 0 0, .slice none 0 0, .bool false, .bool false, .bool false, .bool false, .bool false, .int .i64 0, .int .i64 0, .int .i64 0, .int .i64 0, .int .i64 0, .int .i64 e]) (results_cell_row Tryz.results85 _ _ (w.heap.size + 1) 153 _ (0, 0) _ rfl (setRow_heap _ _ _ _ _ _ HO5.out) Tryz.underlying153 rfl size_out) rfl ?_
  exact ⟨⟨e, HE4.out, rfl⟩, (HP5.out.kept (fr_setRow _ _ _) (fun k hk e => by omega)).mono (fun k _ hs => hs.1), k_setRow HB5.out (by omega) _⟩
 | some o =>
  go_upto_region 7 with (first
   | (refine wpList_load_row rfl 156 _ rfl w.heap.size rfl 156 #[.int .i64 step, .int .i64 v.id, .int .i64 v.val, .slice eo v.es.length ec, .bool (s.H v.id), .slice mo l.length mc, .bool (oh bef 0), .bool (oh bef 1), .bool (oh bef 2), .bool (oh bef 3), .bool (oh bef 4), .int .i64 (ov bef 0), .int .i64 (ov bef 1), .int .i64 (ov bef 2), .int .i64 (ov bef 3), .int .i64 (ov bef 4), .int .i64 mny, .slice po pn pc] (0, 0) _ HI3.out Tryz.underlying156 rfl size_in ?_)
   | (go_at_call 110; refine Calls.mono (HSt.out _ eo ec _ mo mc po pn pc HPn.out HEd3.out HMs3.out HPs3.out) ?_; rw [HFo.out]; rintro r w4 ⟨⟨so, sc, ao, ac, rfl, hkm, hku⟩, hb4⟩; have HKm : Hid _ := hkm; have HKu : Hid _ := hku; have HB4 : Hid _ := hb4; have HO4 : Hid _ := OutBox.new HO3.out hb4; have HP4 : Hid _ := HP3.out.new hb4; clear hkm hku hb4))
  generalize hW5 : World.alloc w4 _ = W5
  have hb5 : Below w4.heap.size w4 W5 := by rw [← hW5]; exact one_newK _ _
  have hO5 : OutBox W5 w4.heap.size #[.int .i64 o.v, .bool o.halt, .slice so o.sent.length sc, .slice ao o.asked.length ac, .bool (oh o.agg 0), .bool (oh o.agg 1), .bool (oh o.agg 2), .bool (oh o.agg 3), .bool (oh o.agg 4), .int .i64 (ov o.agg 0), .int .i64 (ov o.agg 1), .int .i64 (ov o.agg 2), .int .i64 (ov o.agg 3), .int .i64 (ov o.agg 4), .int .i64 0] := by rw [← hW5]; exact OutBox.made _ _
  have HO5 : Hid _ := OutBox.new HO4.out hb5
  have HP5 : Hid _ := HP4.out.new hb5
  have HKm5 : Hid _ := k_new HKm.out hb5
  have HKu5 : Hid _ := k_new HKu.out hb5
  have HS5 : Hid (w.heap.size + 2 ≤ w4.heap.size ∧ w4.heap.size < W5.heap.size ∧ W3.heap.size ≤ w4.heap.size) := by
   have h1 := HS3.out
   have h2 := HB4.out.size
   have h3 := (Array.getElem?_eq_some_iff.1 hO5).1
   exact ⟨by omega, h3, h2⟩
  have HB5 : Hid (Below w.heap.size w W5) := (HB3.out.trans (HB4.out.mono HB3.out.size)).trans (hb5.mono (by have := HB3.out.size; have := HB4.out.size; omega))
  have HC5 : Hid (W5.cell? ⟨rb, i * 3, none⟩ = some (.int .i64 v.id)) := (hb5.cell (p := ⟨rb, i * 3, none⟩) (lt_cell ((HB4.out.cell (p := ⟨rb, i * 3, none⟩) (lt_cell HC0.out)).trans HC0.out))).trans ((HB4.out.cell (p := ⟨rb, i * 3, none⟩) (lt_cell HC0.out)).trans HC0.out)
  obtain ⟨q0, _, _, _, _, _, _, _, _, _, _, _, _, _, q14⟩ := OutBox.cells hO5
  have HX5 : Hid _ := hO5
  clear hW5 hb5 hO5 HO4 HP4 HKm HKu HC0
  obtain ⟨⟨M', hP6⟩, qv, qf⟩ := HP5.out.valued hi v HV.out o.v
  have HP6 : Hid _ := hP6
  clear hP6
  go_upto_region 9 with (fail)
  generalize hW6 : World.setCell _ _ _ = W6
  have hf6 : Fr W5 W6 (fun k => k = rb) := by rw [← hW6]; exact Fr.setCell (S := fun k => k = rb) W5 ⟨rb, _, none⟩ _ rfl
  rw [hW6] at HP6
  have hrbl : rb < w.heap.size := (HP5.out.inG rb (.inl rfl)).2
  have hO6 : OutBox W6 w4.heap.size #[.int .i64 o.v, .bool o.halt, .slice so o.sent.length sc, .slice ao o.asked.length ac, .bool (oh o.agg 0), .bool (oh o.agg 1), .bool (oh o.agg 2), .bool (oh o.agg 3), .bool (oh o.agg 4), .int .i64 (ov o.agg 0), .int .i64 (ov o.agg 1), .int .i64 (ov o.agg 2), .int .i64 (ov o.agg 3), .int .i64 (ov o.agg 4), .int .i64 0] := (hf6.block _ (Array.getElem?_eq_some_iff.1 HX5.out).1 (by have := HS5.out; omega)).trans HX5.out
  have HR6 : Hid (OutBox W6 (w.heap.size + 1) #[.int .i64 0, .bool false, .slice none 0 0, .slice none 0 0, .bool false, .bool false, .bool false, .bool false, .bool false, .int .i64 0, .int .i64 0, .int .i64 0, .int .i64 0, .int .i64 0, .int .i64 0]) := (hf6.block _ (Array.getElem?_eq_some_iff.1 HO5.out).1 (by omega)).trans HO5.out
  have hi6 : W6.cell? ⟨rb, i * 3, none⟩ = some (.int .i64 v.id) := by
   obtain ⟨ao, cap'', e3, hvx⟩ := HP6.out.at_
   have hl6 : (s.G.set i ⟨v.id, o.v, v.es⟩).length = s.G.length := List.length_set
   obtain ⟨b, off, e4, _, hc⟩ := hvx (by show 0 < (s.G.set i ⟨v.id, o.v, v.es⟩).length; omega)
   obtain ⟨eo', ec', e0, _⟩ := hc i (by show i < (s.G.set i ⟨v.id, o.v, v.es⟩).length; omega)
   subst e4
   injection e3 with e5 e6 e7
   cases e5
   simpa using e0
  obtain ⟨_, o1, _⟩ := OutBox.cells hO6
  have HF6 : Hid (Fr W5 W6 (fun k => k = rb)) := hf6
  have HX6 : Hid _ := hO6
  clear hW6 hf6 hO6 HX5 HO5 HC5 HP5 q0 q14 qv qf
  refine turn_r9 (p := p) (rb := rb) (off := i * 3) (ob := w4.heap.size) (id := v.id) (c := o.halt) (TQ := fun W' => PA W' (fun k => S k ∧ k < w.heap.size) p (n + 1) ⟨s.G.set i ⟨v.id, o.v, v.es⟩, fun y => if y = v.id then o.halt else s.H y, s.B⟩ (.slice (some ⟨rb, 0, none⟩) s.G.length cap) M' hm bx SB ∧ Fr W6 W' (fun k => k = hm)) rfl rfl rfl rfl hi6 o1 (fun W' hb => ?_) ?_
  ·refine (lay_any (HP6.out.new hb) hnm hid o.halt).mono ?_
   rintro r w' ⟨rfl, h1, h2⟩
   exact ⟨rfl, h1, (Fr.ofBelow hb _).trans h2 (fun _ _ h => h)⟩
  intro Z W9 ⟨hP9, hf9⟩
  have hhml : hm < w.heap.size := (HP6.out.inH).2
  have HX9 : Hid (OutBox W9 w4.heap.size #[.int .i64 o.v, .bool o.halt, .slice so o.sent.length sc, .slice ao o.asked.length ac, .bool (oh o.agg 0), .bool (oh o.agg 1), .bool (oh o.agg 2), .bool (oh o.agg 3), .bool (oh o.agg 4), .int .i64 (ov o.agg 0), .int .i64 (ov o.agg 1), .int .i64 (ov o.agg 2), .int .i64 (ov o.agg 3), .int .i64 (ov o.agg 4), .int .i64 0]) := (hf9.block _ (Array.getElem?_eq_some_iff.1 HX6.out).1 (by have := HS5.out; omega)).trans HX6.out
  have HR9 : Hid (OutBox W9 (w.heap.size + 1) #[.int .i64 0, .bool false, .slice none 0 0, .slice none 0 0, .bool false, .bool false, .bool false, .bool false, .bool false, .int .i64 0, .int .i64 0, .int .i64 0, .int .i64 0, .int .i64 0, .int .i64 0]) := (hf9.block _ (Array.getElem?_eq_some_iff.1 HR6.out).1 (by omega)).trans HR6.out
  have HK9 : Hid (KM W9 W3.heap.size (.slice so o.sent.length sc) o.sent) := k_fr (k_fr HKm5.out HF6.out (fun k hk e => by have := HS3.out; omega)) hf9 (fun k hk e => by have := HS3.out; omega)
  have HU9 : Hid (KU W9 W3.heap.size (.slice ao o.asked.length ac) o.asked) := k_fr (k_fr HKu5.out HF6.out (fun k hk e => by have := HS3.out; omega)) hf9 (fun k hk e => by have := HS3.out; omega)
  have HP9 : Hid _ := hP9
  have HF9 : Hid (Fr w W9 (fun k => k = rb ∨ k = hm)) := ((Fr.ofBelow HB5.out _).trans HF6.out (fun _ _ h => Or.inl h)).trans hf9 (fun _ _ h => Or.inr h)
  have HSr : Hid (S rb ∧ S hm) := ⟨(HP6.out.inG rb (.inl rfl)).1, (HP6.out.inH).1⟩
  clear hP9 hf9 HX6 HR6 HKm5 HKu5 HF6 HP6 hi6 o1
  simp only [puts]
  simp only [Act.put, List.setIfInBounds_toArray, List.set_cons_succ, List.set_cons_zero]
  go_wp2_with (first
   | (refine wpList_load_row rfl 153 _ rfl w4.heap.size rfl 153 #[.int .i64 o.v, .bool o.halt, .slice so o.sent.length sc, .slice ao o.asked.length ac, .bool (oh o.agg 0), .bool (oh o.agg 1), .bool (oh o.agg 2), .bool (oh o.agg 3), .bool (oh o.agg 4), .int .i64 (ov o.agg 0), .int .i64 (ov o.agg 1), .int .i64 (ov o.agg 2), .int .i64 (ov o.agg 3), .int .i64 (ov o.agg 4), .int .i64 0] (0, 0) _ HX9.out Tryz.underlying153 rfl size_out ?_)
   | (refine wpList_store_row rfl 153 _ _ rfl (w.heap.size + 1) #[.int .i64 o.v, .bool o.halt, .slice so o.sent.length sc, .slice ao o.asked.length ac, .bool (oh o.agg 0), .bool (oh o.agg 1), .bool (oh o.agg 2), .bool (oh o.agg 3), .bool (oh o.agg 4), .int .i64 (ov o.agg 0), .int .i64 (ov o.agg 1), .int .i64 (ov o.agg 2), .int .i64 (ov o.agg 3), .int .i64 (ov o.agg 4), .int .i64 0] rfl rfl 153 #[.int .i64 0, .bool false, .slice none 0 0, .slice none 0 0, .bool false, .bool false, .bool false, .bool false, .bool false, .int .i64 0, .int .i64 0, .int .i64 0, .int .i64 0, .int .i64 0, .int .i64 0] HR9.out size_out rfl (by simp [Value.oneCell']) ?_))
  refine bodyPost_ret (v := .agg #[.int .i64 o.v, .bool o.halt, .slice so o.sent.length sc, .slice ao o.asked.length ac, .bool (oh o.agg 0), .bool (oh o.agg 1), .bool (oh o.agg 2), .bool (oh o.agg 3), .bool (oh o.agg 4), .int .i64 (ov o.agg 0), .int .i64 (ov o.agg 1), .int .i64 (ov o.agg 2), .int .i64 (ov o.agg 3), .int .i64 (ov o.agg 4), .int .i64 0]) (results_cell_row Tryz.results85 _ _ (w.heap.size + 1) 153 _ (0, 0) _ rfl (setRow_heap _ _ _ _ _ _ HR9.out) Tryz.underlying153 rfl size_out) rfl ?_
  have hfr := fr_setRow W9 (w.heap.size + 1) #[.int .i64 o.v, .bool o.halt, .slice so o.sent.length sc, .slice ao o.asked.length ac, .bool (oh o.agg 0), .bool (oh o.agg 1), .bool (oh o.agg 2), .bool (oh o.agg 3), .bool (oh o.agg 4), .int .i64 (ov o.agg 0), .int .i64 (ov o.agg 1), .int .i64 (ov o.agg 2), .int .i64 (ov o.agg 3), .int .i64 (ov o.agg 4), .int .i64 0]
  refine ⟨⟨so, sc, ao, ac, rfl, k_low (k_fr HK9.out hfr (fun k hk e => by have := HS3.out; omega)) HB3.out.size, k_low (k_fr HU9.out hfr (fun k hk e => by have := HS3.out; omega)) HB3.out.size⟩, M', (HP9.out.kept hfr (fun k hk e => by omega)).mono (fun k _ hs => hs.1), ?_⟩
  exact (HF9.out.mono (T := S) (fun k hk h => by rcases h with rfl | rfl; exact HSr.out.1; exact HSr.out.2)).trans hfr (fun k hk e => by omega)
end
end
structure Acc where
 s : St
 gave : Nat → Option Int
 sent : List Msg
 asked : List Mu
def stepV (f : PStep) (k step : Int) (bef : Nat → Option Int) (mny : Int) (s : St) (a : Acc) (i : Nat) : Option Acc :=
 match s.G[i]? with
 | none => some a
 | some v => if act s v.id = true then (turnP f k step bef mny s.B v).bind fun o => if mergeE a.gave o.agg = 0 then some ⟨⟨a.s.G.set i ⟨v.id, o.v, v.es⟩, fun y => if y = v.id then o.halt else a.s.H y, a.s.B⟩, mergeO a.gave o.agg, a.sent ++ o.sent, a.asked ++ o.asked⟩ else none else some a
def stepsP (f : PStep) (k step : Int) (bef : Nat → Option Int) (mny : Int) (s : St) : Nat → Option Acc
 | 0 => some ⟨s, fun _ => none, [], []⟩
 | j + 1 => (stepsP f k step bef mny s j).bind fun a => stepV f k step bef mny s a j
structure SInv (s : St) (j : Nat) (a : Acc) : Prop where
 box : a.s.B = s.B
 len : a.s.G.length = s.G.length
 rest : ∀ i, j ≤ i → a.s.G[i]? = s.G[i]?
 hal : ∀ i v, j ≤ i → s.G[i]? = some v → a.s.H v.id = s.H v.id
 same : ids a.s.G = ids s.G
theorem SInv.start (s : St) : SInv s 0 ⟨s, fun _ => none, [], []⟩ := ⟨rfl, rfl, fun _ _ => rfl, fun _ _ _ _ => rfl, rfl⟩
theorem SInv.weak {s : St} {j : Nat} {a : Acc} (h : SInv s j a) : SInv s (j + 1) a := ⟨h.box, h.len, fun i hi => h.rest i (by omega), fun i v hi e => h.hal i v (by omega) e, h.same⟩
theorem SInv.act {s : St} {j : Nat} {a : Acc} (h : SInv s j a) {v : Vx} (hv : s.G[j]? = some v) : act a.s v.id = act s v.id := by
 unfold Go.Proofs.YtmgjlamglhpnaaaGreat.act
 rw [h.box, h.hal j v (Nat.le_refl _) hv]
theorem ids_set (G : List Vx) (i : Nat) (v : Vx) (x : Int) (h : G[i]? = some v) : ids (G.set i ⟨v.id, x, v.es⟩) = ids G := by
 unfold ids
 rw [List.map_set]
 show (G.map Vx.id).set i v.id = _
 have hi := (List.getElem?_eq_some_iff.1 h).1
 have : v.id = (G.map Vx.id)[i]'(by simpa using hi) := by
  rw [List.getElem_map]
  rw [List.getElem?_eq_getElem hi] at h
  cases h; rfl
 rw [this, List.set_getElem_self]
theorem SInv.turn {s : St} {j : Nat} {a : Acc} (h : SInv s j a) (hr : Rise (ids s.G)) {v : Vx} (hv : s.G[j]? = some v) (x : Int) (c : Bool) (g : Nat → Option Int) (ms : List Msg) (us : List Mu) :
  SInv s (j + 1) ⟨⟨a.s.G.set j ⟨v.id, x, v.es⟩, fun y => if y = v.id then c else a.s.H y, a.s.B⟩, g, ms, us⟩ := by
 have hj := (List.getElem?_eq_some_iff.1 hv).1
 refine ⟨h.box, by simp [h.len], fun i hi => ?_, fun i u hi e => ?_, ?_⟩
 ·show (a.s.G.set j _)[i]? = _
  rw [List.getElem?_set_ne (by omega)]
  exact h.rest i (by omega)
 ·show (if u.id = v.id then c else a.s.H u.id) = _
  have hi' := (List.getElem?_eq_some_iff.1 e).1
  have hlt := hr.lt i j (by rw [ids_len]; exact hi') (by omega)
  rw [ids_get _ _ hi', ids_get _ _ hj] at hlt
  have e1 : s.G[i] = u := by rw [List.getElem?_eq_getElem hi'] at e; exact Option.some.inj e
  have e2 : s.G[j] = v := by rw [List.getElem?_eq_getElem hj] at hv; exact Option.some.inj hv
  rw [e1, e2] at hlt
  rw [if_neg (by omega)]
  exact h.hal i u (by omega) e
 ·show ids (a.s.G.set j _) = _
  rw [ids_set a.s.G j v x (by rw [h.rest j (Nat.le_refl _)]; exact hv), h.same]
theorem PA.more {w : World} {S : Nat → Prop} {p n n' : Nat} {s : St} {sv : Value} {M : List (Vx × Value)} {hm bx : Nat} {SB : Nat → Prop} (h : PA w S p n s sv M hm bx SB) (hn : n ≤ n') : PA w S p n' s sv M hm bx SB :=
 { h with
  hal := by
   obtain ⟨D, h1, h2⟩ := h.hal
   exact ⟨D, h1.mono hn, h2⟩
  box := h.box.more hn }
theorem size_agm : (Tryz.prog.info? 114).map (·.size) = some 10 := by kernel_rfl
theorem ag_setRow {w0 w : World} {g : Nat} (hb : Below w0.heap.size w0 w) (hg : w0.heap.size ≤ g) (cs : Array Value) : Below w0.heap.size w0 (w.setRow g cs) := hb.trans ((fr_setRow w g cs).below hb.size (fun k hk => by omega))
theorem digit_first {u1 u0 v1 v0 : Int} (hv1 : 2147483648 ≤ v1) (hv0' : 0 ≤ v0) (hv0 : v0 < 4294967296) (hu' : 0 ≤ u1) (hu : u1 < v1 * 4294967296 + v0) (hu0' : 0 ≤ u0) (hu0 : u0 < 4294967296) :
  (u1 * 4294967296 + u0) / (v1 * 4294967296 + v0) ≤ u1 / v1 ∧ u1 / v1 ≤ 4294967297 := by
 constructor
 ·rw [Int.le_ediv_iff_mul_le (by omega)]
  have h : (u1 * 4294967296 + u0) / (v1 * 4294967296 + v0) * (v1 * 4294967296 + v0) ≤ u1 * 4294967296 + u0 := Int.ediv_mul_le _ (by omega)
  have h0 : 0 ≤ (u1 * 4294967296 + u0) / (v1 * 4294967296 + v0) := Int.ediv_nonneg (by omega) (by omega)
  have h1 := Int.mul_nonneg h0 hv0'
  rw [Int.mul_add, ← Int.mul_assoc] at h
  generalize (u1 * 4294967296 + u0) / (v1 * 4294967296 + v0) * v1 = A at *
  generalize (u1 * 4294967296 + u0) / (v1 * 4294967296 + v0) * v0 = B at *
  omega
 ·have : u1 / v1 < 4294967298 := by
   rw [Int.ediv_lt_iff_lt_mul (by omega)]
   omega
  omega
structure Split (hi lo y : Int) (s : Nat) (V v1 v0 U u1 u0 : Int) : Prop where
 e1 : IntKind.u64.wrap (y * 2 ^ s) = V
 e2 : bits .and .u64 V 4294967295 = v0
 e3 : V / 4294967296 = v1
 e6 : bits .or .u64 (IntKind.u64.wrap (hi * 2 ^ s)) (lo / 2 ^ (64 - s)) = U
 e7 : IntKind.u64.wrap (lo * 2 ^ s) / 4294967296 = u1
 e8 : bits .and .u64 (IntKind.u64.wrap (lo * 2 ^ s)) 4294967295 = u0
 q : IntKind.u64.wrap (U.tdiv v1) = U / v1
 r : IntKind.u64.wrap (U - IntKind.u64.wrap ((U / v1) * v1)) = U % v1
 hV : v1 * 4294967296 + v0 = V
 v1b : 2147483648 ≤ v1 ∧ v1 < 4294967296
 v0b : 0 ≤ v0 ∧ v0 < 4294967296
 u1b : 0 ≤ u1 ∧ u1 < 4294967296
 u0b : 0 ≤ u0 ∧ u0 < 4294967296
 UV : 0 ≤ U ∧ U < V
theorem Split.first {hi lo y : Int} {s : Nat} {V v1 v0 U u1 u0 : Int} (S : Split hi lo y s V v1 v0 U u1 u0) : (U / v1) * v1 + U % v1 = U ∧ (U * 4294967296 + u1) / V ≤ U / v1 ∧ (0 ≤ U / v1 ∧ U / v1 ≤ 4294967297) ∧ 0 ≤ U % v1 ∧ U % v1 < 4294967296 := by
 obtain ⟨h1, h2⟩ := S.v1b
 obtain ⟨h3, h4⟩ := S.v0b
 obtain ⟨h5, h6⟩ := S.u1b
 obtain ⟨h7, h8⟩ := S.UV
 have h := digit_first (u0 := u1) h1 h3 h4 h7 (by rw [S.hV]; exact h8) h5 h6
 rw [S.hV] at h
 have h9 := Int.emod_lt_of_pos U (show 0 < v1 by omega)
 refine ⟨by rw [Int.mul_comm]; exact Int.mul_ediv_add_emod U v1, h.1, ⟨Int.ediv_nonneg h7 (by omega), h.2⟩, Int.emod_nonneg _ (by omega), by omega⟩
def N64 (a : Int) : Prop := -9223372036854775808 ≤ a ∧ a ≤ 9223372036854775807
theorem addR {a b : Int} {w : World} (ha : N64 a) (hb : N64 b) : Calls Tryz.prog 147 #[.int .i64 a, .int .i64 b] w fun e w' => e = .returned (.tuple #[.int .i64 (hv (a + b)), .int .i64 (he (a + b))]) ∧ w' = w :=
 add_any a b w ha.1 ha.2 hb.1 hb.2
structure Halves (p o0 o1 o2 o3 : Nat) : Prop where
 b0 : o0 < 4294967296
 b1 : o1 < 4294967296
 b2 : o2 < 4294967296
 b3 : o3 < 4294967296
 sum : o0 + o1 * 4294967296 + o2 * 18446744073709551616 + o3 * 79228162514264337593543950336 = p
theorem bit_low (m r : Nat) (hr : r < 32) : m % 4294967296 / 2 ^ r % 2 = m / 2 ^ r % 2 := by
 have h : (m % 2 ^ 32).testBit r = m.testBit r := by rw [Nat.testBit_mod_two_pow]; simp [hr]
 have h1 := Nat.toNat_testBit (m % 2 ^ 32) r
 have h2 := Nat.toNat_testBit m r
 rw [h] at h1
 exact h1.symm.trans h2
theorem Halves.bit {p o0 o1 o2 o3 : Nat} (h : Halves p o0 o1 o2 o3) (r : Nat) (hr : r < 32) :
  p / 2 ^ r % 2 = o0 / 2 ^ r % 2 ∧ p / 2 ^ (32 + r) % 2 = o1 / 2 ^ r % 2 ∧ p / 2 ^ (64 + r) % 2 = o2 / 2 ^ r % 2 ∧ p / 2 ^ (96 + r) % 2 = o3 / 2 ^ r % 2 := by
 obtain ⟨b0, b1, b2, b3, hs⟩ := h
 refine ⟨?_, ?_, ?_, ?_⟩
 ·rw [← bit_low p r hr, show p % 4294967296 = o0 by omega]
 ·rw [Nat.pow_add, ← Nat.div_div_eq_div_mul, ← bit_low _ r hr, show p / 2 ^ 32 % 4294967296 = o1 by omega]
 ·rw [Nat.pow_add, ← Nat.div_div_eq_div_mul, ← bit_low _ r hr, show p / 2 ^ 64 % 4294967296 = o2 by omega]
 ·rw [Nat.pow_add, ← Nat.div_div_eq_div_mul, ← bit_low _ r hr, show p / 2 ^ 96 % 4294967296 = o3 by omega]
theorem Halves.lt {p o0 o1 o2 o3 : Nat} (h : Halves p o0 o1 o2 o3) : p < 2 ^ 128 := by
 obtain ⟨b0, b1, b2, b3, hs⟩ := h
 show p < 340282366920938463463374607431768211456
 omega
theorem lt_of_block {w : World} {g : Nat} {o : Obj} (h : w.heap[g]? = some o) : g < w.heap.size := by
 rcases Nat.lt_or_ge g w.heap.size with h1 | h1
 ·exact h1
 ·rw [Array.getElem?_eq_none h1] at h; cases h
def sumF (n : Int) : List Int → Int × Int
 | [] => (n, 0)
 | x :: xs => if he (n + x) = 0 then sumF (hv (n + x)) xs else (0, 20)
theorem sumF_cons {n x : Int} {xs : List Int} (h : he (n + x) = 0) : sumF n (x :: xs) = sumF (hv (n + x)) xs := if_pos h
theorem sumF_stop {n x : Int} {xs : List Int} (h : ¬ he (n + x) = 0) : sumF n (x :: xs) = (0, 20) := if_neg h
theorem sumF_step {n : Int} {zs : List Int} {k : Nat} (hk : k < zs.length) :
  (he (n + zs.getD k 0) = 0 → sumF n (zs.drop k) = sumF (hv (n + zs.getD k 0)) (zs.drop (k + 1))) ∧ (¬ he (n + zs.getD k 0) = 0 → sumF n (zs.drop k) = (0, 20)) := by
 have e : zs.drop k = zs.getD k 0 :: zs.drop (k + 1) := by
  rw [List.drop_eq_getElem_cons hk]
  congr 1
  simp [List.getD, hk]
 rw [e]
 exact ⟨sumF_cons, sumF_stop⟩
theorem nsum_any (a : Addr) (cap : Nat) (zs : List Int) (w : World) (hl : zs.length ≤ 9223372036854775807) (hc : ∀ i, i < zs.length → w.cell? (a.add i) = some (.int .i64 (zs.getD i 0))) (hz : ∀ i, i < zs.length → N64 (zs.getD i 0)) :
  Calls Tryz.prog 192 #[.slice (some a) zs.length cap] w fun e w' => e = .returned (.tuple #[.int .i64 (sumF 0 zs).1, .int .i64 (sumF 0 zs).2]) ∧ w' = w := by
 have HC : Hid (∀ i, i < zs.length → w.cell? (a.add i) = some (.int .i64 (zs.getD i 0))) := hc
 have HZ : Hid (∀ i, i < zs.length → N64 (zs.getD i 0)) := hz
 clear hc hz
 go_enter Tryz.func192, Tryz.ntmps192
 go_wp2
 go_loop [4, 11] (fun s i => ∃ (k : Nat) (n : Int), k ≤ zs.length ∧ i = .int .i64 (k : Int) ∧ s = .int .i64 n ∧ Hid (N64 n ∧ sumF n (zs.drop k) = sumF 0 zs)) (fun _ i => zs.length - (intOf i).toNat)
 case atStart => exact ⟨0, 0, Nat.zero_le _, rfl, rfl, ⟨⟨by decide, by decide⟩, rfl⟩⟩
 case round =>
  obtain ⟨k, n, hk, rfl, rfl, HN⟩ := hrel
  by_cases hlt : k < zs.length
  ·have hcell := HC.out k hlt
   have HX := HZ.out k hlt
   have HS := sumF_step (n := n) hlt
   generalize zs.getD k 0 = x at *
   obtain ⟨V, hV⟩ : ∃ V, hv (n + x) = V := ⟨_, rfl⟩
   obtain ⟨E, hE⟩ : ∃ E, he (n + x) = E := ⟨_, rfl⟩
   rw [hE, hV] at HS
   have HX' : Hid (N64 x) := HX
   clear HX
   by_cases h0 : E = 0
   ·have HR : Hid _ := HS.1 h0
    have HV : Hid (N64 V) := by rw [← hV]; exact hv_bd _
    clear HS
    go_wp2_with (go_at_call 147; refine (addR HN.out.1 HX'.out).mono ?_; rintro e w1 ⟨rfl, rfl⟩; rw [hV, hE])
    go_round
    case rel => exact ⟨k + 1, V, by omega, by go_num, rfl, ⟨HV.out, HR.out.symm.trans HN.out.2⟩⟩
    case measure => simp [intOf]; omega
   ·have HR : Hid (sumF 0 zs = (0, 20)) := HN.out.2.symm.trans (HS.2 h0)
    have hE20 : E = 20 := by rcases he_cases (n + x) with ⟨h, _⟩ | ⟨h, _⟩ <;> omega
    clear HS
    go_wp2_with (go_at_call 147; refine (addR HN.out.1 HX'.out).mono ?_; rintro e w1 ⟨rfl, rfl⟩; rw [hV, hE])
    go_ret2
    rw [HR.out]
    exact ⟨rfl, rfl⟩
  ·have : k = zs.length := by omega
   subst this
   have HR : Hid (sumF 0 zs = (n, 0)) := by
    have := HN.out.2
    rw [List.drop_length] at this
    exact this.symm
   go_wp2
   go_ret2
   rw [HR.out]
   exact ⟨rfl, rfl⟩
def sayL (L : List Msg) : List Int := L.map (fun m => m.v)
theorem sayL_len (L : List Msg) : (sayL L).length = L.length := List.length_map _
theorem sayL_snoc (L : List Msg) (j : Nat) (h : j < L.length) : (sayL L).take (j + 1) = (sayL L).take j ++ [L[j].v] := by
 rw [List.take_succ_eq_append_getElem (by rw [sayL_len]; exact h)]
 unfold sayL
 rw [List.getElem_map]
set_option maxHeartbeats 1000000 in
theorem said_any {w : World} {P : Nat → Prop} {st id va ma : Int} {eo mo po : Option Addr} {en ec mn mc pn pc : Nat} {ha ag0 ag1 ag2 ag3 ag4 ag5 ag6 ag7 ag8 ag9 : Value} (L : List Msg) (hn : mn = L.length) (hL : MsAt w P mo L) (hl : L.length ≤ 1048576) :
  Calls Tryz.prog 193 #[(.agg #[.int .i64 st, .int .i64 id, .int .i64 va, .slice eo en ec, ha, .slice mo mn mc, ag0, ag1, ag2, ag3, ag4, ag5, ag6, ag7, ag8, ag9, .int .i64 ma, .slice po pn pc])] w fun r w' => ∃ ao c, r = .returned (.slice ao L.length c) ∧ KI w' w.heap.size (.slice ao L.length c) (sayL L) ∧ Below w.heap.size w w' := by
 obtain ⟨i0, hi, hz0, hz1, hz2⟩ := info_parts infoKI
 subst hn
 obtain ⟨W0, hW0⟩ : ∃ W0, w.alloc (.cells #[.int .i64 st, .int .i64 id, .int .i64 va, .slice eo en ec, ha, .slice mo L.length mc, ag0, ag1, ag2, ag3, ag4, ag5, ag6, ag7, ag8, ag9, .int .i64 ma, .slice po pn pc] 156) = W0 := ⟨_, rfl⟩
 have hB0 : Below w.heap.size w W0 := by rw [← hW0]; exact one_newK _ _
 have hc := InBox.made w #[.int .i64 st, .int .i64 id, .int .i64 va, .slice eo en ec, ha, .slice mo L.length mc, ag0, ag1, ag2, ag3, ag4, ag5, ag6, ag7, ag8, ag9, .int .i64 ma, .slice po pn pc]
 rw [hW0] at hc
 obtain ⟨_, _, _, _, _, k5, _⟩ := hc.cells
 have HL : Hid (MsAt W0 P mo L) := hL.new hB0
 have HB0 : Hid _ := hB0
 clear hL hc hB0
 go_enter Tryz.func193, Tryz.ntmps193
 go_wp2
 go_loopw [3, 5, 9] (fun u _ i wr => ∃ (j : Nat) (ao : Option Addr) (c : Nat), j ≤ L.length ∧ u = .slice ao j c ∧ i = .int .i64 j ∧ wr.ownsRow W0.heap.size 2 1 (.slice ao j c) j (((sayL L).take j).map (Value.int .i64)) ∧ Below W0.heap.size W0 wr) (fun _ _ i _ => L.length - (intOf i).toNat)
 case atStart => exact ⟨0, none, 0, Nat.zero_le _, rfl, rfl, World.ownsRow_nil _ _ _ _, Below.refl _ _⟩
 case round =>
  obtain ⟨j, ao, c, hj, rfl, rfl, hR, hb⟩ := hrel
  by_cases hlt : j < L.length
  ·obtain ⟨b, off, rfl, hP, hc⟩ := HL.out (by omega)
   obtain ⟨e0, e1, e2, e3⟩ := hc j hlt
   have d0 := (hb.cell (p := ⟨b, off + j * 4, none⟩) (lt_cell e0)).trans e0
   have d1 := (hb.cell (p := ⟨b, off + j * 4 + 1, none⟩) (lt_cell e0)).trans e1
   have d2 := (hb.cell (p := ⟨b, off + j * 4 + 2, none⟩) (lt_cell e0)).trans e2
   have d3 := (hb.cell (p := ⟨b, off + j * 4 + 3, none⟩) (lt_cell e0)).trans e3
   have HS : Hid _ := sayL_snoc L j hlt
   have HLg : Hid (j = ((sayL L).take j).length) := by show _ = _; rw [List.length_take, sayL_len]; omega
   generalize L[j] = y at d0 d1 d2 d3 HS
   have HR : Hid _ := hR
   have HB : Hid _ := hb
   clear e0 e1 e2 e3 hc hR hb
   go_wp2_with (at_builtin; refine wpList_append_own_at _ rfl _ _ 25 rfl W0.heap.size 2 i0 (.int .i64 0) 1 8 Tryz.underlying25 hi hz0 hz1 hz2 rfl (by decide) (.slice ao j c) j (((sayL L).take j).map (Value.int .i64)) rfl (k_new (k_new HR.out (one_newK _ _)) (one_newK _ _)) ⟨wr.heap.size + 1, 0, none⟩ 1 1 [.int .i64 y.v] rfl rfl (k_one1 (by have := heap_alloc_new (wr.alloc (.cells #[.int .i64 y.f, .int .i64 y.t, .int .i64 y.a, .int .i64 y.v] 201)) (.cells #[.int .i64 y.v] 2); rw [World.size_alloc] at this; exact this)) (k_oneI _) (by unfold maxLen; omega) (by omega) (by have := HB.out.size; simp; omega) ?_)
   intro v' w4 hown hgrow hne hat
   have hM4 : KI w4 W0.heap.size v' ((sayL L).take (j + 1)) := by rw [HS.out]; exact ki_snoc HLg.out (by rw [List.map_take]; exact hown)
   have hB3 : Below W0.heap.size W0 ((wr.alloc (.cells #[.int .i64 y.f, .int .i64 y.t, .int .i64 y.a, .int .i64 y.v] 201)).alloc (.cells #[.int .i64 y.v] 2)) := (HB.out.alloc HB.out.size _).alloc (by have := HB.out.size; simp; omega) _
   have hB4 : Below W0.heap.size W0 w4 := hB3.trans ((Fr.grown hgrow (S := fun k => W0.heap.size ≤ k) (fun k hk => (World.ownsRow.lt HR.out k hk).1)).below hB3.size (fun k hk => hk))
   obtain ⟨ao', c', rfl⟩ := k_shape hM4
   have e1 : ((sayL L).take (j + 1)).length = j + 1 := by rw [HS.out, List.length_append, ← HLg.out]; rfl
   unfold KI at hM4
   rw [e1] at hM4 ⊢
   have HM4 : Hid _ := hM4
   have HB4 : Hid _ := hB4
   clear hM4 hB3 hB4 hown hgrow hne hat e1
   go_wp2
   go_roundw
   case rel => exact ⟨j + 1, ao', c', by omega, rfl, by go_num, HM4.out, HB4.out⟩
   case measure => simp [intOf]; omega
  ·obtain rfl : j = L.length := by omega
   rw [List.take_of_length_le (by rw [sayL_len]; exact Nat.le_refl _)] at hR
   have HR : Hid _ := hR
   have HB : Hid _ := hb
   clear hR hb
   go_wp2
   go_ret
   exact ⟨_, _, rfl, by unfold KI; rw [sayL_len]; exact k_low HR.out HB0.out.size, HB0.out.trans (HB.out.mono HB0.out.size)⟩
theorem sum_is {lo : Option Addr} {n c : Nat} (zs : List Int) (w : World) (hn : n = zs.length) (hl : zs.length ≤ 1048576) (hL : IsAt w lo zs) (hz : ∀ z ∈ zs, I64 z) :
  Calls Tryz.prog 192 #[.slice lo n c] w fun e w' => e = .returned (.tuple #[.int .i64 (sumF 0 zs).1, .int .i64 (sumF 0 zs).2]) ∧ w' = w := by
 subst hn
 by_cases h0 : 0 < zs.length
 ·obtain ⟨b, off, rfl, hc⟩ := hL h0
  refine nsum_any ⟨b, off, none⟩ c zs w (by omega) (fun i hi => ?_) (fun i hi => ?_)
  ·rw [Addr.add_lit, hc i hi]
   simp [List.getD, hi]
  ·have : zs.getD i 0 = zs[i] := by simp [List.getD, hi]
   rw [this]
   exact hz _ (List.getElem_mem hi)
 ·obtain rfl : zs = [] := by cases zs; rfl; simp at h0
  clear h0 hL hz
  go_enter Tryz.func192, Tryz.ntmps192
  go_wp2
  go_loop [4, 11] (fun s i => s = .int .i64 0 ∧ i = .int .i64 0) (fun _ _ => 0)
  case atStart => exact ⟨rfl, rfl⟩
  case round =>
   obtain ⟨rfl, rfl⟩ := hrel
   go_wp2
   go_ret2
   exact ⟨rfl, rfl⟩
end Go.Proofs.YtmgjlamglhpnaaaGreat
