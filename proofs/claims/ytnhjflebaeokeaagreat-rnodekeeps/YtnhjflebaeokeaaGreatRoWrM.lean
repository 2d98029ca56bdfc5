import Derived.Test.YtnhjflebaeokeaaGreatVwCpM
import Derived.Test.YtnhjflebaeokeaaGreatVwNw2M
section
/- Rows of one cell an element (masters, numbers): appends; the statement's world of masters in memory. -/
namespace Go.Proofs.YtnhjflebaeokeaaGreat
open Go.RowKit Go.Maps
attribute [local go_sem] Oper.semAt_some
/-- A row of one's own whose elements are one cell each. -/
def RO (w : World) (t : TypeId) (v : Value) (xs : List Value) : Prop := w.ownsRow 0 t 1 v xs.length xs
theorem RO.nil (w : World) (t : TypeId) : RO w t (.slice none 0 0) [] := World.ownsRow_nil _ _ _ _
theorem RO.kept {w w' : World} {t : TypeId} {v : Value} {xs : List Value} (h : RO w t v xs) {S : Nat → Prop} (f : Fr w w' S) (hS : ∀ k, v.ownBlock = some k → ¬ S k) : RO w' t v xs := vrow_keep h f hS
theorem RO.new {w w' : World} {t : TypeId} {v : Value} {xs : List Value} (h : RO w t v xs) (hb : Below w.heap.size w w') : RO w' t v xs := h.kept (Fr.ofBelow hb (fun _ => False)) (fun _ _ h => h)
theorem RO.lt {w : World} {t : TypeId} {v : Value} {xs : List Value} (h : RO w t v xs) {k : Nat} (hk : v.ownBlock = some k) : k < w.heap.size := by obtain ⟨_, c, f, hb⟩ := vrow_tag h hk; exact vlt_blk hb
theorem RO.shape {w : World} {t : TypeId} {v : Value} {xs : List Value} (h : RO w t v xs) : ∃ ao c, v = .slice ao xs.length c ∧ xs.length ≤ c ∧ (0 < xs.length → ∃ g, ao = some ⟨g, 0, none⟩) := by
  rcases h.2 with ⟨h1, h2⟩ | ⟨g, cap, cur, rfl, _, _, h3, _⟩
  · exact ⟨none, 0, by rw [h1, h2], by omega, fun e => by omega⟩
  · exact ⟨_, _, rfl, h3, fun _ => ⟨g, rfl⟩⟩
theorem RO.at_ {w : World} {t : TypeId} {g n cap : Nat} {xs : List Value} (h : RO w t (.slice (some ⟨g, 0, none⟩) n cap) xs) (j : Nat) (hj : j < xs.length) : w.cell? ⟨g, j, none⟩ = some xs[j] := by
  have h0 := World.ownsRow.cells h (g := g) (by obtain ⟨ao, c, e, _⟩ := h.shape; cases e; rfl) j xs[j] (List.getElem?_eq_getElem hj)
  rw [Addr.add_lit] at h0
  simpa using h0
end Go.Proofs.YtnhjflebaeokeaaGreat
end

section
/- A master alone in a set of blocks: proposals, ticks, what must be kept. -/
namespace Go.Proofs.YtnhjflebaeokeaaGreat
open Go.RowKit Go.Maps
attribute [local go_sem] Oper.semAt_some
section
variable {w : World} {S : Nat → Prop} {p : Nat} {A : Nd}
theorem AS.new {w' : World} (h : AS w S p A) (hb : Below w.heap.size w w') : AS w' S p A := ⟨h.1.new hb, h.2⟩
theorem AS.kept {w' : World} (h : AS w S p A) {U : Nat → Prop} (f : Fr w w' U) (hU : ∀ k, k < w.heap.size → U k → ¬ S k) : AS w' S p A := ⟨h.1.kept f hU, h.2⟩
theorem propose_as (h : AS w S p A) (hl : A.log.length < 1000) (s : ByteArray) : Calls Tryz.prog 42 #[.pointer (some ⟨p, 0, none⟩), .string s] w fun r w' => r = .returned (.tuple #[.int .i64 (A.last + 1), .slice none 0 0, .bool true]) ∧ AS w' (fun k => S k ∨ w.heap.size ≤ k) p (A.proposed s) ∧ Fr w w' S := by
  obtain ⟨⟨lv, mw, mg, mu, mk, hN⟩, hA⟩ := h
  refine (propose_core (R := fun v _ => v = .slice none 0 0) hN hA.ok hA.upOk hA.role hl (fun W lv' hW => ?_)).mono ?_
  · refine (others_alone hW hA.all hA.me _).mono ?_
    rintro r w' ⟨rfl, rfl⟩
    exact ⟨_, rfl, rfl, Below.refl _ _⟩
  · rintro r w' ⟨v, rfl, rfl, hN', hF⟩
    refine ⟨rfl, ⟨hN', hA.proposed hl⟩, hF.mono (fun k _ h => ?_)⟩
    rcases h with rfl | h
    · exact hN.sp
    · exact hN.sl k h
theorem role_as (h : AS w S p A) : Calls Tryz.prog 35 #[.pointer (some ⟨p, 0, none⟩)] w fun r w' => r = .returned (.int .i64 3) ∧ ∃ q, w' = w.drewN q := by
  obtain ⟨⟨lv, mw, mg, mu, mk, hN⟩, hA⟩ := h
  have := role_any hN hA.ok
  rw [hA.role] at this
  exact this
/-- A master whose ticks are others. -/
def Nd.tkd (A : Nd) (t : Int) : Nd := { A with tk := t }
theorem Alone.tkd {A : Nd} (h : Alone A) {t : Int} (ht : 0 ≤ t) : Alone (A.tkd t) := ⟨{ h.ok with tk0 := ht }, h.all, h.me, h.vw, h.nm, h.cm, h.up⟩
set_option maxHeartbeats 1000000 in
theorem speak_as (h : AS w S p A) (t1 : A.tk ≤ 3) : Calls Tryz.prog 63 #[.pointer (some ⟨p, 0, none⟩)] w fun r w' => ∃ t, r = .returned (.slice none 0 0) ∧ AS w' S p (A.tkd t) ∧ 0 ≤ t ∧ t ≤ 2 ∧ Fr w w' S := by
  obtain ⟨⟨lv, mw, mg, mu, mk, hN⟩, hA⟩ := h
  have HN : Hid (NA w S p A lv mw mg mu mk) := hN
  have HA : Hid (Alone A) := hA
  obtain ⟨_, _, _, _, _, _, _, _, _, _, c10, _⟩ := hN.cells
  have f10 := hN.free 10
  have t0 := hA.ok.tk0
  have HTk : Hid (A.tkd A.tk = A) := rfl
  obtain ⟨tk, htk⟩ : ∃ t, A.tk = t := ⟨_, rfl⟩
  rw [htk] at c10 t0 t1
  have HTK : Hid (A.tk = tk) := htk
  have hmf : ∀ (fn : Fn) (first cap : Array Value) (w : World), (Instr.makeFunc fn first cap).run Tryz.prog w = .ok (.func fn first cap) w := fun _ _ _ _ => rfl
  clear hN hA htk
  by_cases h3 : tk < 3
  · go_enter Tryz.func63, Tryz.ntmps63
    go_wp2
    go_ret
    refine ⟨tk, rfl, ⟨⟨lv, mw, mg, mu, mk, ?_⟩, HA.out.tkd t0⟩, t0, by omega, Fr.refl _ _⟩
    have := HN.out
    rw [← HTK.out]
    exact this
  · have h3' : 3 ≤ tk := by omega
    go_enter Tryz.func63, Tryz.ntmps63
    go_upto_region 4 with (fail)
    generalize hW : World.setCell _ _ _ = W
    have h1 := HN.out.setP 10 (.int .i64 0) (A' := A.tkd 0) rfl rfl rfl rfl rfl
    rw [hW] at h1
    have H1 : Hid (NA W S p (A.tkd 0) lv mw mg mu mk) := h1.1
    have HF : Hid (Fr w W (fun k => k = p)) := h1.2
    clear h1 hW
    go_wp2_with (go_at_call 74; refine (others_alone H1.out HA.out.all HA.out.me _).mono ?_; rintro r w2 ⟨rfl, rfl⟩)
    go_ret
    exact ⟨0, rfl, ⟨⟨_, _, _, _, _, H1.out⟩, HA.out.tkd (Int.le_refl _)⟩, Int.le_refl _, by decide, HF.out.mono (fun k _ e => by rw [e]; exact HN.out.sp)⟩
set_option maxHeartbeats 1000000 in
theorem tick_as (h : AS w S p A) (t1 : A.tk ≤ 2) : Calls Tryz.prog 37 #[.pointer (some ⟨p, 0, none⟩)] w fun r w' => ∃ t, r = .returned (.slice none 0 0) ∧ AS w' S p (A.tkd t) ∧ 0 ≤ t ∧ t ≤ 2 ∧ Fr w w' S := by
  obtain ⟨⟨lv, mw, mg, mu, mk, hN⟩, hA⟩ := h
  have HN : Hid (NA w S p A lv mw mg mu mk) := hN
  have HA : Hid (Alone A) := hA
  obtain ⟨_, _, _, _, _, _, _, _, _, _, c10, _⟩ := hN.cells
  have f10 := hN.free 10
  have t0 := hA.ok.tk0
  obtain ⟨tk, htk⟩ : ∃ t, A.tk = t := ⟨_, rfl⟩
  rw [htk] at c10 t0 t1
  have HTK : Hid (A.tk = tk) := htk
  clear hN hA htk
  go_enter Tryz.func37, Tryz.ntmps37
  go_upto_region 4 with (go_at_call 54; refine (none_ok HN.out HA.out.ok).mono ?_; rintro r w ⟨rfl, rfl⟩)
  generalize hW : World.setCell _ _ _ = W
  have h1 := HN.out.setP 10 (.int .i64 (tk + 1)) (A' := A.tkd (tk + 1)) rfl rfl rfl rfl rfl
  rw [hW] at h1
  have H1 : Hid (AS W S p (A.tkd (tk + 1))) := ⟨⟨_, _, _, _, _, h1.1⟩, HA.out.tkd (by omega)⟩
  have HF : Hid (Fr w W S) := h1.2.mono (fun k _ e => by rw [e]; exact HN.out.sp)
  clear h1 hW
  go_wp2_with (first
    | (go_at_call 35; refine (role_as H1.out).mono ?_; rintro r w2 ⟨rfl, q2, rfl⟩)
    | (go_at_call 63; refine (speak_as (H1.out.new (below_dn _ q2)) (by show tk + 1 ≤ 3; omega)).mono ?_; rintro r w3 ⟨t, rfl, hA3, h03, h23, hF3⟩; have HA3 : Hid (AS w3 S p ((A.tkd (tk + 1)).tkd t)) := hA3; have HT : Hid (0 ≤ t ∧ t ≤ 2) := ⟨h03, h23⟩; have HF3 : Hid (Fr (W.drewN q2) w3 S) := hF3; clear hA3 h03 h23 hF3))
  go_ret
  exact ⟨t, rfl, HA3.out, HT.out.1, HT.out.2, (HF.out.trans (Fr.ofBelow (below_dn W q2) (fun _ => False)) (fun _ _ h => h.elim)).trans HF3.out (fun _ _ h => h)⟩
end
section
variable {w : World} {S : Nat → Prop} {p : Nat} {A : Nd} {lv : Value} {mw mg mu mk : Nat}
set_option maxRecDepth 100000 in
set_option maxHeartbeats 2000000 in
theorem hard_any (h : NA w S p A lv mw mg mu mk) (ok : A.ok) : Calls Tryz.prog 29 #[.pointer (some ⟨p, 0, none⟩)] w fun r w' => ∃ lv', r = .returned (.agg #[.int .i64 A.vw, .int .i64 A.nm, .int .i64 A.bi, .int .i64 A.bv, .string A.base, lv']) ∧ EnO w' w.heap.size lv' A.log ∧ Below w.heap.size w w' := by
  have HH : Hid (NA w S p A lv mw mg mu mk) := h
  have HO : Hid A.ok := ok
  have hl := ok.len
  obtain ⟨ao, cc, rfl, hcc, -⟩ := h.log.shape
  obtain ⟨_, _, c2, c3, c4, c5, c6, c7, _⟩ := h.cells
  obtain ⟨n, hn⟩ : ∃ n, A.log.length = n := ⟨_, rfl⟩
  have HN : Hid (A.log.length = n) := hn
  rw [hn] at c7 hcc hl
  clear h ok hn
  go_enter Tryz.func29, Tryz.ntmps29
  go_upto_region 1 with (fail)
  generalize hW : World.alloc _ _ = W
  have hB : Below w.heap.size w W := by rw [← hW]; exact vone_new w _
  have hZ : W.heap[w.heap.size]? = some (.cells #[.int .i64 0, .int .i64 0, .int .i64 0, .int .i64 0, .string (str []), .slice none 0 0] 66 (0, 0)) := by rw [← hW]; exact heap_alloc_new w _
  obtain ⟨q, hq⟩ : ∃ q, w.heap.size = q := ⟨_, rfl⟩
  have HQ : Hid (w.heap.size = q) := hq
  have HD : Hid (NA W S p A (.slice ao A.log.length cc) mw mg mu mk) := HH.out.new hB
  rw [hq] at hB hZ ⊢
  obtain ⟨_, _, d2, d3, d4, d5, d6, d7, _⟩ := HD.out.cells
  rw [HN.out] at d7
  have HZ : Hid (W.heap[q]? = some (.cells #[.int .i64 0, .int .i64 0, .int .i64 0, .int .i64 0, .string (str []), .slice none 0 0] 66 (0, 0))) := hZ
  have HB : Hid (Below q w W) := hB
  clear hW hB hZ hq c2 c3 c4 c5 c6 c7
  go_upto_region 4 with (go_at_call 54; refine (none_ok HD.out HO.out).mono ?_; rintro r W ⟨rfl, rfl⟩)
  generalize hW2 : World.alloc _ _ = W2
  have b2 : Below W.heap.size W W2 := by rw [← hW2]; exact vone_new _ _
  have hX : W2.heap[W.heap.size]? = some (.cells #[.int .i64 A.vw, .int .i64 A.nm, .int .i64 A.bi, .int .i64 A.bv, .string A.base, .slice ao n cc] 66 (0, 0)) := by rw [← hW2]; exact heap_alloc_new _ _
  obtain ⟨q2, hq2⟩ : ∃ q, W.heap.size = q := ⟨_, rfl⟩
  have HQ2 : Hid (W.heap.size = q2) := hq2
  have HES : Hid (EnS W2 (.slice ao n cc) A.log) := by have := (HD.out.new b2).log.toS; rw [HN.out] at this; exact this
  have HZ2 : Hid (W2.heap[q]? = some (.cells #[.int .i64 0, .int .i64 0, .int .i64 0, .int .i64 0, .string (str []), .slice none 0 0] 66 (0, 0))) := (b2.block q (vlt_blk HZ.out)).trans HZ.out
  have HB2 : Hid (Below q w W2) := HB.out.trans (b2.mono (by have := HB.out.size; have := HQ.out; omega))
  have hqq : q < q2 := by have := vlt_blk HZ.out; omega
  rw [hq2] at hX ⊢
  obtain ⟨e0, e1, e2, e3, e4, e5⟩ := hbox6 hX
  have HX : Hid (W2.heap[q2]? = some (.cells #[.int .i64 A.vw, .int .i64 A.nm, .int .i64 A.bi, .int .i64 A.bv, .string A.base, .slice ao n cc] 66 (0, 0))) := hX
  clear hW2 b2 hX hq2 HZ HB d2 d3 d4 d5 d6 d7 HD HH
  have HT : Hid ((A.log.take n).drop 0 = A.log) := by show _ = _; rw [List.drop_zero, List.take_of_length_le (by have := HN.out; omega)]
  go_upto_region 5 with (go_at_call 55; refine (cut_any (a := 0) (b := n) HES.out (Nat.zero_le _) (by have := HN.out; omega) (by have := HN.out; omega)).mono ?_; rintro r w3 ⟨lv', rfl, hE3, hb3⟩; rw [HT.out] at hE3; obtain ⟨a3, c3, e3', -⟩ := hE3.shape; rw [HN.out] at e3'; subst e3'; have hX3 := (hb3.block q2 (vlt_blk HX.out)).trans HX.out; obtain ⟨g0, g1, g2, g3, g4, g5⟩ := hbox6 hX3; have z5 := hfree hX3 5; have HE3 : Hid (EnO w3 W2.heap.size (.slice a3 n c3) A.log) := hE3; have HB3 : Hid (Below W2.heap.size W2 w3) := hb3; have HX3 : Hid (w3.heap[q2]? = some (.cells #[.int .i64 A.vw, .int .i64 A.nm, .int .i64 A.bi, .int .i64 A.bv, .string A.base, .slice ao n cc] 66 (0, 0))) := hX3; clear hE3 hb3 hX3)
  generalize hW4 : World.setCell _ _ _ = W4
  have f4 : Fr w3 W4 (fun k => k = q2) := by rw [← hW4]; exact Fr.setCell (S := fun k => k = q2) _ ⟨q2, 5, none⟩ _ rfl
  have hX4 : W4.heap[q2]? = some (.cells #[.int .i64 A.vw, .int .i64 A.nm, .int .i64 A.bi, .int .i64 A.bv, .string A.base, .slice a3 n c3] 66 (0, 0)) := by rw [← hW4]; exact vblk_set (i := 5) _ HX3.out
  have hq2lt : q2 < W2.heap.size := vlt_blk HX.out
  have hE4 : EnO W4 W2.heap.size (.slice a3 n c3) A.log := HE3.out.kept f4 (fun k hk e => by have := (vrow_tag HE3.out hk).1; omega)
  have hZ4 : W4.heap[q]? = some (.cells #[.int .i64 0, .int .i64 0, .int .i64 0, .int .i64 0, .string (str []), .slice none 0 0] 66 (0, 0)) := (f4.block q (Nat.lt_of_lt_of_le (vlt_blk HZ2.out) HB3.out.size) (by omega)).trans ((HB3.out.block q (vlt_blk HZ2.out)).trans HZ2.out)
  have hB4 : Below q w W4 := (HB2.out.trans (HB3.out.mono (by have := HB2.out.size; have := HQ.out; omega))).trans (f4.below (by have := HB2.out.size; have := HB3.out.size; have := HQ.out; omega) (fun k e => by omega))
  obtain ⟨g0, g1, g2, g3, g4, g5⟩ := hbox6 hX4
  obtain ⟨y0, y1, y2, y3, y4, y5⟩ := hbox6 hZ4
  have z0 := hfree hZ4 0
  have z1 := hfree hZ4 1
  have z2 := hfree hZ4 2
  have z3 := hfree hZ4 3
  have z4 := hfree hZ4 4
  have z5 := hfree hZ4 5
  have HE4 : Hid (EnO W4 W2.heap.size (.slice a3 n c3) A.log) := hE4
  have HZ4 : Hid (W4.heap[q]? = some (.cells #[.int .i64 0, .int .i64 0, .int .i64 0, .int .i64 0, .string (str []), .slice none 0 0] 66 (0, 0))) := hZ4
  have HB4 : Hid (Below q w W4) := hB4
  clear hW4 f4 hX4 hE4 hZ4 hB4 HE3 HB3 HX3 e0 e1 e2 e3 e4 e5 HZ2 HX HES
  go_wp2
  refine bodyPost_ret (v := .agg #[.int .i64 A.vw, .int .i64 A.nm, .int .i64 A.bi, .int .i64 A.bv, .string A.base, .slice a3 n c3]) (results_cell_row Tryz.results29 _ _ q 66 _ (0, 0) _ rfl (hset6 _ _ _ _ _ _ HZ4.out) Tryz.underlying66 rfl size_hardv) rfl ?_
  have hQ := HQ.out
  have hB2 := HB4.out
  have hW2 := HB2.out.size
  rw [hQ]
  refine ⟨_, rfl, (HE4.out.kept (hset6_fr _ q _ _ _ _ _ _) (fun k hk e => by have := (vrow_tag HE4.out hk).1; omega)).low (by omega), hB2.trans (Fr.below (hset6_fr _ q _ _ _ _ _ _) (by have := hB2.size; omega) (fun k e => by omega))⟩
end
end Go.Proofs.YtnhjflebaeokeaaGreat
end

section
/- rnode: the disk is brought from what it has to what it must have. -/
namespace Go.Proofs.YtnhjflebaeokeaaGreat
open Go.RowKit
attribute [local go_sem] Oper.semAt_some
/-- The block of a node: what it keeps is g. -/
def roC (dp lq vp : Nat) (g : Hd) (kv : Value) (cm at_ : Int) (dead : Bool) : Array Value := #[.pointer (some ⟨dp, 0, none⟩), .pointer (some ⟨lq, 0, none⟩), .pointer (some ⟨vp, 0, none⟩), .int .i64 g.vw, .int .i64 g.nm, .int .i64 g.bi, .int .i64 g.bv, .string g.base, kv, .int .i64 cm, .int .i64 at_, .bool dead]
theorem robox {W : World} {q : Nat} {t : TypeId} {x0 x1 x2 x3 x4 x5 x6 x7 x8 x9 x10 x11 : Value} (h : W.heap[q]? = some (.cells #[x0, x1, x2, x3, x4, x5, x6, x7, x8, x9, x10, x11] t (0, 0))) : W.cell? ⟨q, 0, none⟩ = some x0 ∧ W.cell? ⟨q, 1, none⟩ = some x1 ∧ W.cell? ⟨q, 2, none⟩ = some x2 ∧ W.cell? ⟨q, 3, none⟩ = some x3 ∧ W.cell? ⟨q, 4, none⟩ = some x4 ∧ W.cell? ⟨q, 5, none⟩ = some x5 ∧ W.cell? ⟨q, 8, none⟩ = some x8 ∧ W.cell? ⟨q, 9, none⟩ = some x9 ∧ W.cell? ⟨q, 10, none⟩ = some x10 ∧ W.cell? ⟨q, 11, none⟩ = some x11 := by
  refine ⟨?_, ?_, ?_, ?_, ?_, ?_, ?_, ?_, ?_, ?_⟩ <;> simp [World.cell?, h]
set_option linter.unusedSimpArgs false in
set_option maxRecDepth 100000 in
set_option maxHeartbeats 4000000 in
/-- Something is another one: a record more. -/
theorem write_add {Post : Int → World → Prop} {w : World} {B C np dp lq vp D p : Nat} {h g : Hd} {kv lv rv : Value} {cm at_ : Int} {dead : Bool} {snap : Bs} {R : List Bs} (hN : w.heap[np]? = some (.cells (roC dp lq vp g kv cm at_ dead) 87 (0, 0))) (hLg : Lg w D lq p snap rv R) (ok : h.ok) (gl : g.log.length ≤ 1000) (hE : EnO w B lv h.log) (hK : EnO w C kv g.log) (hb : h.bi = g.bi) (hr : R.length ≤ 40) (hne : ¬ (h.vw = g.vw ∧ h.nm = g.nm ∧ alikeN h.log g.log = h.log.length ∧ alikeN h.log g.log = g.log.length))
    (hAdd : ∀ W, Below w.heap.size w W → ∀ v, TxO W 0 v [recB h (alikeN h.log g.log)] → Calls Tryz.prog 107 #[.pointer (some ⟨lq, 0, none⟩), v] W fun r w' => ∃ e, r = .returned (.int .i64 e) ∧ Post e w') :
    Calls Tryz.prog 67 #[.pointer (some ⟨np, 0, none⟩), hdV h lv] w fun r w' => ∃ e, r = .returned (.int .i64 e) ∧ Post e w' := by
  have HN : Hid (w.heap[np]? = some (.cells (roC dp lq vp g kv cm at_ dead) 87 (0, 0))) := hN
  have HLg : Hid (Lg w D lq p snap rv R) := hLg
  have HOk : Hid h.ok := ok
  have HE : Hid (EnO w B lv h.log) := hE
  have HK : Hid (EnO w C kv g.log) := hK
  have HAdd : Hid _ := hAdd
  have HNe : Hid _ := hne
  have HGl : Hid (g.log.length ≤ 1000) := gl
  obtain ⟨lo, lc, rfl, -, -⟩ := hE.shape
  obtain ⟨ko, kc, rfl, -, -⟩ := hK.shape
  simp only [hdV]
  have HBi : Hid (h.bi = g.bi) := hb
  clear hN hLg ok hE hK hAdd hne gl hb
  go_enter Tryz.func67, Tryz.ntmps67
  go_upto_region 1 with (fail)
  generalize hW : World.alloc _ _ = W
  have b0 : Below w.heap.size w W := by rw [← hW]; exact vone_new _ _
  have hZ : W.heap[w.heap.size]? = some (.cells #[.int .i64 h.vw, .int .i64 h.nm, .int .i64 h.bi, .int .i64 h.bv, .string h.base, .slice lo h.log.length lc] 66 (0, 0)) := by rw [← hW]; exact heap_alloc_new _ _
  obtain ⟨q, hq⟩ : ∃ q, w.heap.size = q := ⟨_, rfl⟩
  rw [hq] at hZ ⊢
  have HB0 : Hid (Below w.heap.size w W) := b0
  have HZ : Hid _ := hZ
  have HNW : Hid (W.heap[np]? = some (.cells #[.pointer (some ⟨dp, 0, none⟩), .pointer (some ⟨lq, 0, none⟩), .pointer (some ⟨vp, 0, none⟩), .int .i64 g.vw, .int .i64 g.nm, .int .i64 g.bi, .int .i64 g.bv, .string g.base, .slice ko g.log.length kc, .int .i64 cm, .int .i64 at_, .bool dead] 87 (0, 0))) := (b0.block np (vlt_blk HN.out)).trans HN.out
  obtain ⟨a0, a1, a2, a3, a4, a5⟩ := hbox6 hZ
  obtain ⟨c0, c1, c2, c3, c4, c5, c8, -, -, -⟩ := robox HNW.out
  have hbe : (h.bi == g.bi) = true := by simpa using HBi.out
  have hbn : (h.bi != g.bi) = false := by simpa using HBi.out
  have hrI : (R.length : Int) ≤ 40 := by omega
  clear hW b0 hZ hq
  go_quiet ((go_at_call 102; exact Calls.quiet_of_same (len_any ((Lg.new HLg.out HB0.out).new (below_dn _ _)))))
  have hdec : decide (40 < (R.length : Int)) = false := by simp; omega
  go_upto_region 3 with (fail)
  obtain ⟨same, hsame⟩ : ∃ same, alikeN h.log g.log = same := ⟨_, rfl⟩
  have HSa : Hid (alikeN h.log g.log = same) := hsame
  obtain ⟨Wd, hWd⟩ : ∃ Wd, (W.drewN nq).drew = Wd := ⟨_, rfl⟩
  have bd : Below W.heap.size W Wd := by rw [← hWd]; exact Below.drew (below_dn _ _)
  have HBd : Hid (Below w.heap.size w Wd) := HB0.out.trans (bd.mono HB0.out.size)
  have HZd : Hid (Wd.heap[q]? = some (.cells #[.int .i64 h.vw, .int .i64 h.nm, .int .i64 h.bi, .int .i64 h.bv, .string h.base, .slice lo h.log.length lc] 66 (0, 0))) := (bd.block q (vlt_blk HZ.out)).trans HZ.out
  have HNd : Hid (Wd.heap[np]? = some (.cells #[.pointer (some ⟨dp, 0, none⟩), .pointer (some ⟨lq, 0, none⟩), .pointer (some ⟨vp, 0, none⟩), .int .i64 g.vw, .int .i64 g.nm, .int .i64 g.bi, .int .i64 g.bv, .string g.base, .slice ko g.log.length kc, .int .i64 cm, .int .i64 at_, .bool dead] 87 (0, 0))) := (bd.block np (vlt_blk HNW.out)).trans HNW.out
  have y5 := (hbox6 HZd.out).2.2.2.2.2
  have y8 := (robox HNd.out).2.2.2.2.2.2.1
  refine wp_calmV ?_
  refine wp_region_L [] (fun w' : World => w'.cell? ⟨q, 5, none⟩ = some (.slice lo h.log.length lc) ∧ w'.cell? ⟨np, 8, none⟩ = some (.slice ko g.log.length kc)) (by kernel_rfl) ?_
  rw [show (W.drewN nq).drew = Wd from hWd]
  have hS : (fun w' : World => w'.cell? ⟨q, 5, none⟩ = some (.slice lo h.log.length lc) ∧ w'.cell? ⟨np, 8, none⟩ = some (.slice ko g.log.length kc)) Wd := ⟨y5, y8⟩
  clear hWd bd a0 a1 a2 a3 a4 a5 c0 c1 c2 c3 c4 c5 c8 hsame hdec hbe hbn HZ HNW
  refine wpAnyL_take (i := 0) 32 (v := .pointer (some ⟨q, 5, none⟩)) rfl rfl (by kernel_rfl) (by kernel_rfl) (by kernel_rfl) (by kernel_rfl) (by kernel_rfl) (by kernel_rfl) (fun _ _ _ h => h) hS (by rfl) (by intro w' hSw; obtain ⟨y0, y1⟩ := hSw; go_simp <;> with_reducible rfl) ?_
  simp only [Act.put, List.setIfInBounds_toArray, List.set_cons_zero, List.set_cons_succ]
  refine wpAnyL_take (i := 1) 33 (v := .slice lo h.log.length lc) rfl rfl (by kernel_rfl) (by kernel_rfl) (by kernel_rfl) (by kernel_rfl) (by kernel_rfl) (by kernel_rfl) (fun _ _ _ h => h) hS (by rfl) (by intro w' hSw; obtain ⟨y0, y1⟩ := hSw; go_simp <;> with_reducible rfl) ?_
  simp only [Act.put, List.setIfInBounds_toArray, List.set_cons_zero, List.set_cons_succ]
  refine wpAnyL_take (i := 2) 34 (v := .pointer (some ⟨np, 0, none⟩)) rfl rfl (by kernel_rfl) (by kernel_rfl) (by kernel_rfl) (by kernel_rfl) (by kernel_rfl) (by kernel_rfl) (fun _ _ _ h => h) hS (by rfl) (by intro w' hSw; obtain ⟨y0, y1⟩ := hSw; go_simp <;> with_reducible rfl) ?_
  simp only [Act.put, List.setIfInBounds_toArray, List.set_cons_zero, List.set_cons_succ]
  refine wpAnyL_take (i := 3) 35 (v := .pointer (some ⟨np, 0, none⟩)) rfl rfl (by kernel_rfl) (by kernel_rfl) (by kernel_rfl) (by kernel_rfl) (by kernel_rfl) (by kernel_rfl) (fun _ _ _ h => h) hS (by rfl) (by intro w' hSw; obtain ⟨y0, y1⟩ := hSw; go_simp <;> with_reducible rfl) ?_
  simp only [Act.put, List.setIfInBounds_toArray, List.set_cons_zero, List.set_cons_succ]
  refine wpAnyL_take (i := 4) 36 (v := .pointer (some ⟨np, 3, none⟩)) rfl rfl (by kernel_rfl) (by kernel_rfl) (by kernel_rfl) (by kernel_rfl) (by kernel_rfl) (by kernel_rfl) (fun _ _ _ h => h) hS (by rfl) (by intro w' hSw; obtain ⟨y0, y1⟩ := hSw; go_simp <;> with_reducible rfl) ?_
  simp only [Act.put, List.setIfInBounds_toArray, List.set_cons_zero, List.set_cons_succ]
  refine wpAnyL_take (i := 5) 37 (v := .pointer (some ⟨np, 8, none⟩)) rfl rfl (by kernel_rfl) (by kernel_rfl) (by kernel_rfl) (by kernel_rfl) (by kernel_rfl) (by kernel_rfl) (fun _ _ _ h => h) hS (by rfl) (by intro w' hSw; obtain ⟨y0, y1⟩ := hSw; go_simp <;> with_reducible rfl) ?_
  simp only [Act.put, List.setIfInBounds_toArray, List.set_cons_zero, List.set_cons_succ]
  refine wpAnyL_take (i := 6) 38 (v := .slice ko g.log.length kc) rfl rfl (by kernel_rfl) (by kernel_rfl) (by kernel_rfl) (by kernel_rfl) (by kernel_rfl) (by kernel_rfl) (fun _ _ _ h => h) hS (by rfl) (by intro w' hSw; obtain ⟨y0, y1⟩ := hSw; go_simp <;> with_reducible rfl) ?_
  simp only [Act.put, List.setIfInBounds_toArray, List.set_cons_zero, List.set_cons_succ]
  refine wpAnyL_one (i := 7) (by kernel_rfl) rfl (fun Ka hKa => ?_)
  go_simp
  refine Calls.mono (alike_any (HE.out.toS.new HBd.out) (HK.out.toS.new HBd.out) HOk.out.len HGl.out) ?_
  rintro rr w3 ⟨rfl, hb3⟩
  rw [HSa.out]
  have HB3 : Hid (Below w.heap.size w w3) := HBd.out.trans (hb3.mono HBd.out.size)
  have hZ3 : w3.heap[q]? = some (.cells #[.int .i64 h.vw, .int .i64 h.nm, .int .i64 h.bi, .int .i64 h.bv, .string h.base, .slice lo h.log.length lc] 66 (0, 0)) := (hb3.block q (vlt_blk HZd.out)).trans HZd.out
  have hN3 : w3.heap[np]? = some (.cells #[.pointer (some ⟨dp, 0, none⟩), .pointer (some ⟨lq, 0, none⟩), .pointer (some ⟨vp, 0, none⟩), .int .i64 g.vw, .int .i64 g.nm, .int .i64 g.bi, .int .i64 g.bv, .string g.base, .slice ko g.log.length kc, .int .i64 cm, .int .i64 at_, .bool dead] 87 (0, 0)) := (hb3.block np (vlt_blk HNd.out)).trans HNd.out
  have HZ3 : Hid (w3.heap[q]? = some (.cells #[.int .i64 h.vw, .int .i64 h.nm, .int .i64 h.bi, .int .i64 h.bv, .string h.base, .slice lo h.log.length lc] 66 (0, 0))) := hZ3
  have HN3 : Hid (w3.heap[np]? = some (.cells #[.pointer (some ⟨dp, 0, none⟩), .pointer (some ⟨lq, 0, none⟩), .pointer (some ⟨vp, 0, none⟩), .int .i64 g.vw, .int .i64 g.nm, .int .i64 g.bi, .int .i64 g.bv, .string g.base, .slice ko g.log.length kc, .int .i64 cm, .int .i64 at_, .bool dead] 87 (0, 0))) := hN3
  obtain ⟨z0, z1, z2, z3, z4, z5⟩ := hbox6 hZ3
  obtain ⟨d0, d1, d2, d3, d4, d5, d8, -, -, -⟩ := robox hN3
  refine hKa.out _ _ (fun _ => ⟨z5, d8⟩) ?_
  have hS1 : (fun w' : World => w'.cell? ⟨q, 5, none⟩ = some (.slice lo h.log.length lc) ∧ w'.cell? ⟨np, 8, none⟩ = some (.slice ko g.log.length kc)) w3 := ⟨z5, d8⟩
  clear hKa Ka hS hb3 hZ3 hN3 y5 y8
  try simp only [Act.put, List.setIfInBounds_toArray, List.set_cons_zero, List.set_cons_succ]
  refine wpAnyL_one (i := 8) (by kernel_rfl) rfl (fun Ka hKa => ?_)
  go_simp
  refine hKa.out _ _ (fun _ => hS1) ?_
  clear hKa Ka hS1
  try simp only [Act.put, List.setIfInBounds_toArray, List.set_cons_zero, List.set_cons_succ]
  refine wpAnyL_done (by kernel_rfl) ?_ _
  have hns : ¬ (h.vw = g.vw ∧ h.nm = g.nm ∧ same = h.log.length ∧ same = g.log.length) := by have := HNe.out; rw [HSa.out] at this; exact this
  have HNs : Hid _ := hns
  clear hns
  go_upto_region 4 with (fail)
  go_cut [74] (fun v wx => v = .bool false ∧ ∃ n, wx = w3.drewN n)
  case first =>
    by_cases e1 : h.vw = g.vw
    case neg =>
      have e1b : (h.vw == g.vw) = false := by simp; omega
      go_quiet (fail)
      go_wp2
      go_meet
      exact ⟨rfl, _, rfl⟩
    have e1b : (h.vw == g.vw) = true := by simp; omega
    by_cases e2 : h.nm = g.nm
    case neg =>
      have e2b : (h.nm == g.nm) = false := by simp; omega
      go_quiet (fail)
      go_wp2
      go_meet
      exact ⟨rfl, _, rfl⟩
    have e2b : (h.nm == g.nm) = true := by simp; omega
    by_cases e3 : same = h.log.length
    case neg =>
      have e3b : ((same : Int) == (h.log.length : Int)) = false := by simp; omega
      go_quiet (fail)
      go_wp2
      go_meet
      exact ⟨rfl, _, rfl⟩
    have e3b : ((same : Int) == (h.log.length : Int)) = true := by simp; omega
    have e4 : ¬ same = g.log.length := fun e => HNs.out ⟨e1, e2, e3, e⟩
    have e4b : ((same : Int) == (g.log.length : Int)) = false := by simp; omega
    have e1n := e1
    clear e1 e2 e3
    go_quiet (fail)
    go_wp2
    go_meet
    exact ⟨rfl, _, rfl⟩
  case rest =>
    obtain ⟨rfl, nq2, rfl⟩ := hcut
    have hsl : same ≤ h.log.length := by rw [← HSa.out]; exact (alikeN_le _ _).1
    have HSl : Hid (same ≤ h.log.length) := hsl
    clear z0 z1 z2 z3 z4 z5 d0 d1 d2 d3 d4 d5 d8 hsl
    go_upto_region 6 with (fail)
    obtain ⟨We, hWe⟩ : ∃ We, (w3.drewN nq2).drew = We := ⟨_, rfl⟩
    have be : Below w3.heap.size w3 We := by rw [← hWe]; exact Below.drew (below_dn _ _)
    have HBe : Hid (Below w.heap.size w We) := HB3.out.trans (be.mono HB3.out.size)
    have hZe : We.heap[q]? = some (.cells #[.int .i64 h.vw, .int .i64 h.nm, .int .i64 h.bi, .int .i64 h.bv, .string h.base, .slice lo h.log.length lc] 66 (0, 0)) := (be.block q (vlt_blk HZ3.out)).trans HZ3.out
    have hNe : We.heap[np]? = some (.cells #[.pointer (some ⟨dp, 0, none⟩), .pointer (some ⟨lq, 0, none⟩), .pointer (some ⟨vp, 0, none⟩), .int .i64 g.vw, .int .i64 g.nm, .int .i64 g.bi, .int .i64 g.bv, .string g.base, .slice ko g.log.length kc, .int .i64 cm, .int .i64 at_, .bool dead] 87 (0, 0)) := (be.block np (vlt_blk HN3.out)).trans HN3.out
    have HZe : Hid (We.heap[q]? = some (.cells #[.int .i64 h.vw, .int .i64 h.nm, .int .i64 h.bi, .int .i64 h.bv, .string h.base, .slice lo h.log.length lc] 66 (0, 0))) := hZe
    have HNo : Hid (We.heap[np]? = some (.cells #[.pointer (some ⟨dp, 0, none⟩), .pointer (some ⟨lq, 0, none⟩), .pointer (some ⟨vp, 0, none⟩), .int .i64 g.vw, .int .i64 g.nm, .int .i64 g.bi, .int .i64 g.bv, .string g.base, .slice ko g.log.length kc, .int .i64 cm, .int .i64 at_, .bool dead] 87 (0, 0))) := hNe
    obtain ⟨z0, z1, z2, z3, z4, z5⟩ := hbox6 hZe
    have d1 := (robox hNe).2.1
    refine wp_calmV ?_
    refine wp_region_L [8] (fun w' : World => w'.cell? ⟨q, 0, none⟩ = some (.int .i64 h.vw) ∧ w'.cell? ⟨q, 1, none⟩ = some (.int .i64 h.nm) ∧ w'.cell? ⟨q, 2, none⟩ = some (.int .i64 h.bi) ∧ w'.cell? ⟨q, 3, none⟩ = some (.int .i64 h.bv) ∧ w'.cell? ⟨q, 4, none⟩ = some (.string h.base) ∧ w'.cell? ⟨q, 5, none⟩ = some (.slice lo h.log.length lc) ∧ w'.cell? ⟨np, 1, none⟩ = some (.pointer (some ⟨lq, 0, none⟩))) (by kernel_rfl) ?_
    rw [show (w3.drewN nq2).drew = We from hWe]
    have hS : (fun w' : World => w'.cell? ⟨q, 0, none⟩ = some (.int .i64 h.vw) ∧ w'.cell? ⟨q, 1, none⟩ = some (.int .i64 h.nm) ∧ w'.cell? ⟨q, 2, none⟩ = some (.int .i64 h.bi) ∧ w'.cell? ⟨q, 3, none⟩ = some (.int .i64 h.bv) ∧ w'.cell? ⟨q, 4, none⟩ = some (.string h.base) ∧ w'.cell? ⟨q, 5, none⟩ = some (.slice lo h.log.length lc) ∧ w'.cell? ⟨np, 1, none⟩ = some (.pointer (some ⟨lq, 0, none⟩))) We := ⟨z0, z1, z2, z3, z4, z5, d1⟩
    clear hWe be hZe hNe
    refine wpAnyL_take (i := 0) 75 (v := .pointer (some ⟨np, 0, none⟩)) rfl rfl (by kernel_rfl) (by kernel_rfl) (by kernel_rfl) (by kernel_rfl) (by kernel_rfl) (by kernel_rfl) (fun _ _ _ h => h) hS (by rfl) (by intro w' hSw; obtain ⟨y0, y1, y2, y3, y4, y5, y6⟩ := hSw; go_simp <;> with_reducible rfl) ?_
    simp only [Act.put, List.setIfInBounds_toArray, List.set_cons_zero, List.set_cons_succ]
    refine wpAnyL_take (i := 1) 76 (v := .pointer (some ⟨np, 0, none⟩)) rfl rfl (by kernel_rfl) (by kernel_rfl) (by kernel_rfl) (by kernel_rfl) (by kernel_rfl) (by kernel_rfl) (fun _ _ _ h => h) hS (by rfl) (by intro w' hSw; obtain ⟨y0, y1, y2, y3, y4, y5, y6⟩ := hSw; go_simp <;> with_reducible rfl) ?_
    simp only [Act.put, List.setIfInBounds_toArray, List.set_cons_zero, List.set_cons_succ]
    refine wpAnyL_take (i := 2) 77 (v := .pointer (some ⟨np, 1, none⟩)) rfl rfl (by kernel_rfl) (by kernel_rfl) (by kernel_rfl) (by kernel_rfl) (by kernel_rfl) (by kernel_rfl) (fun _ _ _ h => h) hS (by rfl) (by intro w' hSw; obtain ⟨y0, y1, y2, y3, y4, y5, y6⟩ := hSw; go_simp <;> with_reducible rfl) ?_
    simp only [Act.put, List.setIfInBounds_toArray, List.set_cons_zero, List.set_cons_succ]
    refine wpAnyL_take (i := 3) 78 (v := .pointer (some ⟨lq, 0, none⟩)) rfl rfl (by kernel_rfl) (by kernel_rfl) (by kernel_rfl) (by kernel_rfl) (by kernel_rfl) (by kernel_rfl) (fun _ _ _ h => h) hS (by rfl) (by intro w' hSw; obtain ⟨y0, y1, y2, y3, y4, y5, y6⟩ := hSw; go_simp <;> with_reducible rfl) ?_
    simp only [Act.put, List.setIfInBounds_toArray, List.set_cons_zero, List.set_cons_succ]
    refine wpAnyL_take (i := 4) 79 (v := .agg #[.int .i64 h.vw, .int .i64 h.nm, .int .i64 h.bi, .int .i64 h.bv, .string h.base, .slice lo h.log.length lc]) rfl rfl (by kernel_rfl) (by kernel_rfl) (by kernel_rfl) (by kernel_rfl) (by kernel_rfl) (by kernel_rfl) (fun _ _ _ h => h) hS (by rfl) (by intro w' hSw; obtain ⟨y0, y1, y2, y3, y4, y5, y6⟩ := hSw; go_simp <;> with_reducible rfl) ?_
    simp only [Act.put, List.setIfInBounds_toArray, List.set_cons_zero, List.set_cons_succ]
    refine wpAnyL_take (i := 5) 80 (v := .int .i64 (same : Int)) rfl rfl (by kernel_rfl) (by kernel_rfl) (by kernel_rfl) (by kernel_rfl) (by kernel_rfl) (by kernel_rfl) (fun _ _ _ h => h) hS (by rfl) (by intro w' hSw; obtain ⟨y0, y1, y2, y3, y4, y5, y6⟩ := hSw; go_simp <;> with_reducible rfl) ?_
    simp only [Act.put, List.setIfInBounds_toArray, List.set_cons_zero, List.set_cons_succ]
    refine wpAnyL_one (i := 6) (by kernel_rfl) rfl (fun Ka hKa => ?_)
    go_simp
    have HPr : Hid (Calls Tryz.prog 105 #[.agg #[.int .i64 h.vw, .int .i64 h.nm, .int .i64 h.bi, .int .i64 h.bv, .string h.base, .slice lo h.log.length lc], .int .i64 (same : Int)] We fun r w' => r = .returned (.string (str (recB h same))) ∧ Below We.heap.size We w') := putRec_any h HOk.out (HE.out.new HBe.out) HSl.out
    refine Calls.mono HPr.out ?_
    rintro rr w6 ⟨rfl, hb6⟩
    have HB6 : Hid (Below w.heap.size w w6) := HBe.out.trans (hb6.mono HBe.out.size)
    have hZ6 : w6.heap[q]? = some (.cells #[.int .i64 h.vw, .int .i64 h.nm, .int .i64 h.bi, .int .i64 h.bv, .string h.base, .slice lo h.log.length lc] 66 (0, 0)) := (hb6.block q (vlt_blk HZe.out)).trans HZe.out
    have hN6 : w6.heap[np]? = some (.cells #[.pointer (some ⟨dp, 0, none⟩), .pointer (some ⟨lq, 0, none⟩), .pointer (some ⟨vp, 0, none⟩), .int .i64 g.vw, .int .i64 g.nm, .int .i64 g.bi, .int .i64 g.bv, .string g.base, .slice ko g.log.length kc, .int .i64 cm, .int .i64 at_, .bool dead] 87 (0, 0)) := (hb6.block np (vlt_blk HNo.out)).trans HNo.out
    have HZ6 : Hid (w6.heap[q]? = some (.cells #[.int .i64 h.vw, .int .i64 h.nm, .int .i64 h.bi, .int .i64 h.bv, .string h.base, .slice lo h.log.length lc] 66 (0, 0))) := hZ6
    have HN6 : Hid (w6.heap[np]? = some (.cells #[.pointer (some ⟨dp, 0, none⟩), .pointer (some ⟨lq, 0, none⟩), .pointer (some ⟨vp, 0, none⟩), .int .i64 g.vw, .int .i64 g.nm, .int .i64 g.bi, .int .i64 g.bv, .string g.base, .slice ko g.log.length kc, .int .i64 cm, .int .i64 at_, .bool dead] 87 (0, 0))) := hN6
    obtain ⟨u0, u1, u2, u3, u4, u5⟩ := hbox6 hZ6
    have v1 := (robox hN6).2.1
    refine hKa.out _ _ (fun _ => ⟨u0, u1, u2, u3, u4, u5, v1⟩) ?_
    clear hKa Ka hS hb6 hZ6 hN6 z0 z1 z2 z3 z4 z5 d1
    try simp only [Act.put, List.setIfInBounds_toArray, List.set_cons_zero, List.set_cons_succ]
    refine wpAnyL_one (i := 7) (by kernel_rfl) rfl (fun Ka hKa => ?_)
    go_simp
    have hT7 := tx1 w6 (recB h same)
    have hb7 : Below w6.heap.size w6 (w6.alloc (.cells #[.string (str (recB h same))] 9)) := vone_new _ _
    generalize hW7 : w6.alloc (.cells #[.string (str (recB h same))] 9) = W7 at hT7 hb7 ⊢
    have HB7 : Hid (Below w.heap.size w W7) := HB6.out.trans (hb7.mono HB6.out.size)
    have hZ7 : W7.heap[q]? = some (.cells #[.int .i64 h.vw, .int .i64 h.nm, .int .i64 h.bi, .int .i64 h.bv, .string h.base, .slice lo h.log.length lc] 66 (0, 0)) := (hb7.block q (vlt_blk HZ6.out)).trans HZ6.out
    have hN7 : W7.heap[np]? = some (.cells #[.pointer (some ⟨dp, 0, none⟩), .pointer (some ⟨lq, 0, none⟩), .pointer (some ⟨vp, 0, none⟩), .int .i64 g.vw, .int .i64 g.nm, .int .i64 g.bi, .int .i64 g.bv, .string g.base, .slice ko g.log.length kc, .int .i64 cm, .int .i64 at_, .bool dead] 87 (0, 0)) := (hb7.block np (vlt_blk HN6.out)).trans HN6.out
    obtain ⟨s0, s1, s2, s3, s4, s5⟩ := hbox6 hZ7
    have t1 := (robox hN7).2.1
    refine hKa.out _ _ (fun _ => ⟨s0, s1, s2, s3, s4, s5, t1⟩) ?_
    have HT7 : Hid (TxO W7 0 (.slice (some ⟨w6.heap.size, 0, none⟩) 1 1) [recB h same]) := hT7
    clear hKa Ka hW7 hb7 hZ7 hN7 hT7 u0 u1 u2 u3 u4 u5 v1
    try simp only [Act.put, List.setIfInBounds_toArray, List.set_cons_zero, List.set_cons_succ]
    refine wpAnyL_one (i := 8) (by kernel_rfl) rfl (fun Ka hKa => ?_)
    go_simp
    have HAd : Hid _ := HAdd.out W7 HB7.out (.slice (some ⟨w6.heap.size, 0, none⟩) 1 1) (by rw [HSa.out]; exact HT7.out)
    refine Calls.mono HAd.out ?_
    rintro rr w8 ⟨er, rfl, hP8⟩
    have HP8 : Hid (Post er w8) := hP8
    refine hKa.out _ _ (fun hh => absurd hh (Bool.eq_false_iff.1 (by kernel_rfl))) ?_
    clear hKa Ka hP8 s0 s1 s2 s3 s4 s5 t1
    try simp only [Act.put, List.setIfInBounds_toArray, List.set_cons_zero, List.set_cons_succ]
    refine wpAnyL_one (i := 9) (by kernel_rfl) rfl (fun Ka hKa => ?_)
    go_simp
    refine hKa.out _ _ (fun hh => absurd hh (Bool.eq_false_iff.1 (by kernel_rfl))) ?_
    clear hKa Ka
    try simp only [Act.put, List.setIfInBounds_toArray, List.set_cons_zero, List.set_cons_succ]
    refine wpAnyL_done (by kernel_rfl) ?_ _
    go_wp2
    go_ret
    exact ⟨er, rfl, HP8.out⟩
end Go.Proofs.YtnhjflebaeokeaaGreat
end
