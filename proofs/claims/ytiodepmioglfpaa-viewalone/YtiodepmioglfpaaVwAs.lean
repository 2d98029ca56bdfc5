/- A master alone in a set of blocks: proposals, ticks, what must be kept. -/
import Derived.Test.YtiodepmioglfpaaVwBg
namespace Go.Proofs.Ytiodepmioglfpaa
open Go.RowKit Go.Maps
attribute [local go_sem] Oper.semAt_some
section
variable {w : World} {S : Nat → Prop} {p : Nat} {A : Nd}
theorem AS.new {w' : World} (h : AS w S p A) (hb : Below w.heap.size w w') : AS w' S p A := ⟨h.1.new hb, h.2⟩
theorem AS.kept {w' : World} (h : AS w S p A) {U : Nat → Prop} (f : Fr w w' U) (hU : ∀ k, k < w.heap.size → U k → ¬ S k) : AS w' S p A := ⟨h.1.kept f hU, h.2⟩
theorem propose_as (h : AS w S p A) (hl : A.log.length < 1000) (s : ByteArray) : Calls Try.prog 32 #[.pointer (some ⟨p, 0, none⟩), .string s] w fun r w' => r = .returned (.tuple #[.int .i64 (A.last + 1), .slice none 0 0, .bool true]) ∧ AS w' (fun k => S k ∨ w.heap.size ≤ k) p (A.proposed s) ∧ Fr w w' S := by
  obtain ⟨⟨lv, mw, mg, mu, mk, hN⟩, hA⟩ := h
  refine (propose_core (R := fun v _ => v = .slice none 0 0) hN hA.ok hA.upOk hA.role hl (fun W lv' hW => ?_)).mono ?_
  · refine (others_alone hW hA.all hA.me _).mono ?_
    rintro r w' ⟨rfl, rfl⟩
    exact ⟨_, rfl, rfl, Below.refl _ _⟩
  · rintro r w' ⟨v, rfl, rfl, hN', hF⟩
    refine ⟨rfl, ⟨hN', hA.proposed hl⟩, hF.mono (fun k _ h => ?_)⟩
    rcases h with rfl | h
    · exact hN.sp
    · exact hN.sl k h
theorem role_as (h : AS w S p A) : Calls Try.prog 34 #[.pointer (some ⟨p, 0, none⟩)] w fun r w' => r = .returned (.int .i64 3) ∧ ∃ q, w' = w.drewN q := by
  obtain ⟨⟨lv, mw, mg, mu, mk, hN⟩, hA⟩ := h
  have := role_any hN hA.ok
  rw [hA.role] at this
  exact this
theorem leader_as (h : AS w S p A) : Calls Try.prog 36 #[.pointer (some ⟨p, 0, none⟩)] w fun r w' => r = .returned (.int .i64 0) ∧ ∃ q, w' = w.drewN q := by
  obtain ⟨⟨lv, mw, mg, mu, mk, hN⟩, hA⟩ := h
  have := leader_any hN hA.ok
  rw [hA.nm, hA.vw, hA.all, if_pos rfl] at this
  exact this
theorem view_as (h : AS w S p A) : Calls Try.prog 27 #[.pointer (some ⟨p, 0, none⟩)] w fun r w' => r = .returned (.int .i64 0) ∧ ∃ q, w' = w.drewN q := by
  obtain ⟨⟨lv, mw, mg, mu, mk, hN⟩, hA⟩ := h
  have := view_any hN hA.ok
  rw [hA.vw] at this
  exact this
theorem commit_as (h : AS w S p A) : Calls Try.prog 26 #[.pointer (some ⟨p, 0, none⟩)] w fun r w' => r = .returned (.int .i64 A.last) ∧ ∃ q, w' = w.drewN q := by
  obtain ⟨⟨lv, mw, mg, mu, mk, hN⟩, hA⟩ := h
  have := commit_any hN hA.ok
  rw [hA.cm] at this
  exact this
theorem ready_as (h : AS w S p A) (hh : A.had ≤ A.last) : Calls Try.prog 35 #[.pointer (some ⟨p, 0, none⟩)] w fun r w' => r = .returned (.bool true) ∧ ∃ q, w' = w.drewN q := by
  obtain ⟨⟨lv, mw, mg, mu, mk, hN⟩, hA⟩ := h
  have := ready_any hN hA.ok
  have e : (decide (A.role = 3) && decide (A.had ≤ A.cm)) = true := by rw [hA.role, hA.cm]; simpa using hh
  rw [e] at this
  exact this
theorem entry_as (h : AS w S p A) {j : Nat} (hj : j < A.log.length) {ix : Int} (hix : ix - A.bi - 1 = j) : Calls Try.prog 29 #[.pointer (some ⟨p, 0, none⟩), .int .i64 ix] w fun r w' => r = .returned (.tuple #[.agg #[.int .i64 A.log[j].v, .string A.log[j].s], .bool true]) ∧ Below w.heap.size w w' := by
  obtain ⟨⟨lv, mw, mg, mu, mk, hN⟩, hA⟩ := h
  exact entry_in hN hA.ok hj hix (by rw [hA.cm]; unfold Nd.last; omega)
/-- A master whose ticks are others. -/
def Nd.tkd (A : Nd) (t : Int) : Nd := { A with tk := t }
theorem Alone.tkd {A : Nd} (h : Alone A) {t : Int} (ht : 0 ≤ t) : Alone (A.tkd t) := ⟨{ h.ok with tk0 := ht }, h.all, h.me, h.vw, h.nm, h.cm, h.up⟩
set_option maxHeartbeats 1000000 in
theorem speak_as (h : AS w S p A) (t1 : A.tk ≤ 3) : Calls Try.prog 61 #[.pointer (some ⟨p, 0, none⟩)] w fun r w' => ∃ t, r = .returned (.slice none 0 0) ∧ AS w' S p (A.tkd t) ∧ 0 ≤ t ∧ t ≤ 2 ∧ Fr w w' S := by
  obtain ⟨⟨lv, mw, mg, mu, mk, hN⟩, hA⟩ := h
  have HN : Hid (NA w S p A lv mw mg mu mk) := hN
  have HA : Hid (Alone A) := hA
  obtain ⟨_, _, _, _, _, _, _, _, _, _, c10, _⟩ := hN.cells
  have f10 := hN.free 10
  have t0 := hA.ok.tk0
  have HTk : Hid (A.tkd A.tk = A) := rfl
  obtain ⟨tk, htk⟩ : ∃ t, A.tk = t := ⟨_, rfl⟩
  rw [htk] at c10 t0 t1
  have HTK : Hid (A.tk = tk) := htk
  have hmf : ∀ (fn : Fn) (first cap : Array Value) (w : World), (Instr.makeFunc fn first cap).run Try.prog w = .ok (.func fn first cap) w := fun _ _ _ _ => rfl
  clear hN hA htk
  by_cases h3 : tk < 3
  · go_enter Try.func61, Try.ntmps61
    go_wp2
    go_ret
    refine ⟨tk, rfl, ⟨⟨lv, mw, mg, mu, mk, ?_⟩, HA.out.tkd t0⟩, t0, by omega, Fr.refl _ _⟩
    have := HN.out
    rw [← HTK.out]
    exact this
  · have h3' : 3 ≤ tk := by omega
    go_enter Try.func61, Try.ntmps61
    go_upto_region 4 with (fail)
    generalize hW : World.setCell _ _ _ = W
    have h1 := HN.out.setP 10 (.int .i64 0) (A' := A.tkd 0) rfl rfl rfl rfl rfl
    rw [hW] at h1
    have H1 : Hid (NA W S p (A.tkd 0) lv mw mg mu mk) := h1.1
    have HF : Hid (Fr w W (fun k => k = p)) := h1.2
    clear h1 hW
    go_wp2_with (go_at_call 64; refine (others_alone H1.out HA.out.all HA.out.me _).mono ?_; rintro r w2 ⟨rfl, rfl⟩)
    go_ret
    exact ⟨0, rfl, ⟨⟨_, _, _, _, _, H1.out⟩, HA.out.tkd (Int.le_refl _)⟩, Int.le_refl _, by decide, HF.out.mono (fun k _ e => by rw [e]; exact HN.out.sp)⟩
set_option maxHeartbeats 1000000 in
theorem tick_as (h : AS w S p A) (t1 : A.tk ≤ 2) : Calls Try.prog 31 #[.pointer (some ⟨p, 0, none⟩)] w fun r w' => ∃ t, r = .returned (.slice none 0 0) ∧ AS w' S p (A.tkd t) ∧ 0 ≤ t ∧ t ≤ 2 ∧ Fr w w' S := by
  obtain ⟨⟨lv, mw, mg, mu, mk, hN⟩, hA⟩ := h
  have HN : Hid (NA w S p A lv mw mg mu mk) := hN
  have HA : Hid (Alone A) := hA
  obtain ⟨_, _, _, _, _, _, _, _, _, _, c10, _⟩ := hN.cells
  have f10 := hN.free 10
  have t0 := hA.ok.tk0
  obtain ⟨tk, htk⟩ : ∃ t, A.tk = t := ⟨_, rfl⟩
  rw [htk] at c10 t0 t1
  have HTK : Hid (A.tk = tk) := htk
  clear hN hA htk
  go_enter Try.func31, Try.ntmps31
  go_upto_region 4 with (go_at_call 59; refine (none_ok HN.out HA.out.ok).mono ?_; rintro r w ⟨rfl, rfl⟩)
  generalize hW : World.setCell _ _ _ = W
  have h1 := HN.out.setP 10 (.int .i64 (tk + 1)) (A' := A.tkd (tk + 1)) rfl rfl rfl rfl rfl
  rw [hW] at h1
  have H1 : Hid (AS W S p (A.tkd (tk + 1))) := ⟨⟨_, _, _, _, _, h1.1⟩, HA.out.tkd (by omega)⟩
  have HF : Hid (Fr w W S) := h1.2.mono (fun k _ e => by rw [e]; exact HN.out.sp)
  clear h1 hW
  go_wp2_with (first
    | (go_at_call 34; refine (role_as H1.out).mono ?_; rintro r w2 ⟨rfl, q2, rfl⟩)
    | (go_at_call 61; refine (speak_as (H1.out.new (below_dn _ q2)) (by show tk + 1 ≤ 3; omega)).mono ?_; rintro r w3 ⟨t, rfl, hA3, h03, h23, hF3⟩; have HA3 : Hid (AS w3 S p ((A.tkd (tk + 1)).tkd t)) := hA3; have HT : Hid (0 ≤ t ∧ t ≤ 2) := ⟨h03, h23⟩; have HF3 : Hid (Fr (W.drewN q2) w3 S) := hF3; clear hA3 h03 h23 hF3))
  go_ret
  exact ⟨t, rfl, HA3.out, HT.out.1, HT.out.2, (HF.out.trans (Fr.ofBelow (below_dn W q2) (fun _ => False)) (fun _ _ h => h.elim)).trans HF3.out (fun _ _ h => h)⟩
end
section
variable {w : World} {S : Nat → Prop} {p : Nat} {A : Nd} {lv : Value} {mw mg mu mk : Nat}
set_option maxRecDepth 100000 in
set_option maxHeartbeats 2000000 in
theorem hard_any (h : NA w S p A lv mw mg mu mk) (ok : A.ok) : Calls Try.prog 28 #[.pointer (some ⟨p, 0, none⟩)] w fun r w' => ∃ lv', r = .returned (.agg #[.int .i64 A.vw, .int .i64 A.nm, .int .i64 A.bi, .int .i64 A.bv, .string A.base, lv']) ∧ EnO w' w.heap.size lv' A.log ∧ Below w.heap.size w w' := by
  have HH : Hid (NA w S p A lv mw mg mu mk) := h
  have HO : Hid A.ok := ok
  have hl := ok.len
  obtain ⟨ao, cc, rfl, hcc, -⟩ := h.log.shape
  obtain ⟨_, _, c2, c3, c4, c5, c6, c7, _⟩ := h.cells
  obtain ⟨n, hn⟩ : ∃ n, A.log.length = n := ⟨_, rfl⟩
  have HN : Hid (A.log.length = n) := hn
  rw [hn] at c7 hcc hl
  clear h ok hn
  go_enter Try.func28, Try.ntmps28
  go_upto_region 1 with (fail)
  generalize hW : World.alloc _ _ = W
  have hB : Below w.heap.size w W := by rw [← hW]; exact vone_new w _
  have hZ : W.heap[w.heap.size]? = some (.cells #[.int .i64 0, .int .i64 0, .int .i64 0, .int .i64 0, .string (str []), .slice none 0 0] 49 (0, 0)) := by rw [← hW]; exact heap_alloc_new w _
  obtain ⟨q, hq⟩ : ∃ q, w.heap.size = q := ⟨_, rfl⟩
  have HQ : Hid (w.heap.size = q) := hq
  have HD : Hid (NA W S p A (.slice ao A.log.length cc) mw mg mu mk) := HH.out.new hB
  rw [hq] at hB hZ ⊢
  obtain ⟨_, _, d2, d3, d4, d5, d6, d7, _⟩ := HD.out.cells
  rw [HN.out] at d7
  have HZ : Hid (W.heap[q]? = some (.cells #[.int .i64 0, .int .i64 0, .int .i64 0, .int .i64 0, .string (str []), .slice none 0 0] 49 (0, 0))) := hZ
  have HB : Hid (Below q w W) := hB
  clear hW hB hZ hq c2 c3 c4 c5 c6 c7
  go_upto_region 4 with (go_at_call 59; refine (none_ok HD.out HO.out).mono ?_; rintro r W ⟨rfl, rfl⟩)
  generalize hW2 : World.alloc _ _ = W2
  have b2 : Below W.heap.size W W2 := by rw [← hW2]; exact vone_new _ _
  have hX : W2.heap[W.heap.size]? = some (.cells #[.int .i64 A.vw, .int .i64 A.nm, .int .i64 A.bi, .int .i64 A.bv, .string A.base, .slice ao n cc] 49 (0, 0)) := by rw [← hW2]; exact heap_alloc_new _ _
  obtain ⟨q2, hq2⟩ : ∃ q, W.heap.size = q := ⟨_, rfl⟩
  have HQ2 : Hid (W.heap.size = q2) := hq2
  have HES : Hid (EnS W2 (.slice ao n cc) A.log) := by have := (HD.out.new b2).log.toS; rw [HN.out] at this; exact this
  have HZ2 : Hid (W2.heap[q]? = some (.cells #[.int .i64 0, .int .i64 0, .int .i64 0, .int .i64 0, .string (str []), .slice none 0 0] 49 (0, 0))) := (b2.block q (vlt_blk HZ.out)).trans HZ.out
  have HB2 : Hid (Below q w W2) := HB.out.trans (b2.mono (by have := HB.out.size; have := HQ.out; omega))
  have hqq : q < q2 := by have := vlt_blk HZ.out; omega
  rw [hq2] at hX ⊢
  obtain ⟨e0, e1, e2, e3, e4, e5⟩ := hbox6 hX
  have HX : Hid (W2.heap[q2]? = some (.cells #[.int .i64 A.vw, .int .i64 A.nm, .int .i64 A.bi, .int .i64 A.bv, .string A.base, .slice ao n cc] 49 (0, 0))) := hX
  clear hW2 b2 hX hq2 HZ HB d2 d3 d4 d5 d6 d7 HD HH
  have HT : Hid ((A.log.take n).drop 0 = A.log) := by show _ = _; rw [List.drop_zero, List.take_of_length_le (by have := HN.out; omega)]
  go_upto_region 5 with (go_at_call 49; refine (cut_any (a := 0) (b := n) HES.out (Nat.zero_le _) (by have := HN.out; omega) (by have := HN.out; omega)).mono ?_; rintro r w3 ⟨lv', rfl, hE3, hb3⟩; rw [HT.out] at hE3; obtain ⟨a3, c3, e3', -⟩ := hE3.shape; rw [HN.out] at e3'; subst e3'; have hX3 := (hb3.block q2 (vlt_blk HX.out)).trans HX.out; obtain ⟨g0, g1, g2, g3, g4, g5⟩ := hbox6 hX3; have z5 := hfree hX3 5; have HE3 : Hid (EnO w3 W2.heap.size (.slice a3 n c3) A.log) := hE3; have HB3 : Hid (Below W2.heap.size W2 w3) := hb3; have HX3 : Hid (w3.heap[q2]? = some (.cells #[.int .i64 A.vw, .int .i64 A.nm, .int .i64 A.bi, .int .i64 A.bv, .string A.base, .slice ao n cc] 49 (0, 0))) := hX3; clear hE3 hb3 hX3)
  generalize hW4 : World.setCell _ _ _ = W4
  have f4 : Fr w3 W4 (fun k => k = q2) := by rw [← hW4]; exact Fr.setCell (S := fun k => k = q2) _ ⟨q2, 5, none⟩ _ rfl
  have hX4 : W4.heap[q2]? = some (.cells #[.int .i64 A.vw, .int .i64 A.nm, .int .i64 A.bi, .int .i64 A.bv, .string A.base, .slice a3 n c3] 49 (0, 0)) := by rw [← hW4]; exact vblk_set (i := 5) _ HX3.out
  have hq2lt : q2 < W2.heap.size := vlt_blk HX.out
  have hE4 : EnO W4 W2.heap.size (.slice a3 n c3) A.log := HE3.out.kept f4 (fun k hk e => by have := (vrow_tag HE3.out hk).1; omega)
  have hZ4 : W4.heap[q]? = some (.cells #[.int .i64 0, .int .i64 0, .int .i64 0, .int .i64 0, .string (str []), .slice none 0 0] 49 (0, 0)) := (f4.block q (Nat.lt_of_lt_of_le (vlt_blk HZ2.out) HB3.out.size) (by omega)).trans ((HB3.out.block q (vlt_blk HZ2.out)).trans HZ2.out)
  have hB4 : Below q w W4 := (HB2.out.trans (HB3.out.mono (by have := HB2.out.size; have := HQ.out; omega))).trans (f4.below (by have := HB2.out.size; have := HB3.out.size; have := HQ.out; omega) (fun k e => by omega))
  obtain ⟨g0, g1, g2, g3, g4, g5⟩ := hbox6 hX4
  obtain ⟨y0, y1, y2, y3, y4, y5⟩ := hbox6 hZ4
  have z0 := hfree hZ4 0
  have z1 := hfree hZ4 1
  have z2 := hfree hZ4 2
  have z3 := hfree hZ4 3
  have z4 := hfree hZ4 4
  have z5 := hfree hZ4 5
  have HE4 : Hid (EnO W4 W2.heap.size (.slice a3 n c3) A.log) := hE4
  have HZ4 : Hid (W4.heap[q]? = some (.cells #[.int .i64 0, .int .i64 0, .int .i64 0, .int .i64 0, .string (str []), .slice none 0 0] 49 (0, 0))) := hZ4
  have HB4 : Hid (Below q w W4) := hB4
  clear hW4 f4 hX4 hE4 hZ4 hB4 HE3 HB3 HX3 e0 e1 e2 e3 e4 e5 HZ2 HX HES
  go_wp2
  refine bodyPost_ret (v := .agg #[.int .i64 A.vw, .int .i64 A.nm, .int .i64 A.bi, .int .i64 A.bv, .string A.base, .slice a3 n c3]) (results_cell_row Try.results28 _ _ q 49 _ (0, 0) _ rfl (hset6 _ _ _ _ _ _ HZ4.out) Try.underlying49 rfl size_hard) rfl ?_
  have hQ := HQ.out
  have hB2 := HB4.out
  have hW2 := HB2.out.size
  rw [hQ]
  refine ⟨_, rfl, (HE4.out.kept (hset6_fr _ q _ _ _ _ _ _) (fun k hk e => by have := (vrow_tag HE4.out hk).1; omega)).low (by omega), hB2.trans (Fr.below (hset6_fr _ q _ _ _ _ _ _) (by have := hB2.size; omega) (fun k e => by omega))⟩
end
end Go.Proofs.Ytiodepmioglfpaa
