/- The walk of cohortlaw03.GraphVertices: it returns true. -/
import Derived.Test.YtgigopjbaliddaaGrAwake
import Derived.Test.YtgigopjbaliddaaGrRef
namespace Go.Proofs.Ytgigopjbaliddaa
open Go.RowKit
theorem one_at {w : World} {P : Nat → Prop} {eo : Option Addr} {x : Vx} {ec : Nat} {t : TypeId} (h : EdAt w P eo x.es) : VxAt (w.alloc (.cells #[.int .i64 x.id, .int .i64 x.val, .slice eo x.es.length ec] t)) (fun _ => True) (some ⟨w.heap.size, 0, none⟩) [x] := by
  intro _
  refine ⟨w.heap.size, 0, rfl, trivial, fun j hj => ?_⟩
  obtain rfl : j = 0 := by simpa using hj
  obtain ⟨c0, c1, c2⟩ := box3 (heap_alloc_new w (.cells #[.int .i64 x.id, .int .i64 x.val, .slice eo x.es.length ec] t))
  exact ⟨eo, ec, c0, c1, c2, (h.new (one_new _ _)).mono (fun _ _ _ => trivial)⟩
/-- The first vertex of a list of one. -/
theorem at_one {w : World} {P : Nat → Prop} {bo : Option Addr} {x : Vx} (h : VxAt w P bo [x]) : ∃ b off eo ec, bo = some ⟨b, off, none⟩ ∧ w.cell? ⟨b, off, none⟩ = some (.int .i64 x.id) ∧ w.cell? ⟨b, off + 1, none⟩ = some (.int .i64 x.val) ∧ w.cell? ⟨b, off + 2, none⟩ = some (.slice eo x.es.length ec) ∧ EdAt w P eo x.es := by
  obtain ⟨b, off, rfl, _, hc⟩ := h (by simp)
  obtain ⟨eo, ec, e0, e1, e2, e3⟩ := hc 0 (by simp)
  simp only [Nat.zero_mul, Nat.add_zero, List.getElem_cons_zero] at e0 e1 e2 e3
  exact ⟨b, off, eo, ec, rfl, e0, e1, e2, e3⟩
theorem ref_one {w : World} {P : Nat → Prop} {ao : Option Addr} (x : Vx) (cap : Nat) (hG : VxAt w P ao [x]) (hok : x.ok) :
    Calls Try.prog 10 #[.agg #[.slice ao 1 cap]] w fun r w' => ∃ b off eo ec c, r = .returned (.slice (some ⟨b, off, none⟩) 1 c) ∧ w'.cell? ⟨b, off, none⟩ = some (.int .i64 x.id) ∧ w'.cell? ⟨b, off + 1, none⟩ = some (.int .i64 x.val) ∧ w'.cell? ⟨b, off + 2, none⟩ = some (.slice eo x.es.length ec) ∧ EdAt w' (fun k => w.heap.size ≤ k) eo x.es ∧ Below w.heap.size w w' := by
  refine (ref_any [x] cap hG (fun v hv => (List.mem_singleton.1 hv).symm ▸ hok) (by simp)).mono ?_
  rintro r w' ⟨bo, c, rfl, hV, hb⟩
  obtain ⟨b, off, eo, ec, rfl, e0, e1, e2, e3⟩ := at_one hV
  exact ⟨b, off, eo, ec, c, rfl, e0, e1, e2, e3, hb⟩
theorem same_one {w : World} {P Q : Nat → Prop} {ao bo : Option Addr} (x : Vx) (ca cb : Nat) (hL : VxAt w P ao [x]) (hM : VxAt w Q bo [x]) (hok : x.es.length ≤ 9223372036854775807) :
    Calls Try.prog 22 #[.agg #[.slice ao 1 ca], .agg #[.slice bo 1 cb]] w fun r w' => r = .returned (.bool true) ∧ Below w.heap.size w w' := by
  refine (same_any ca cb hL hM (by simp) (fun v hv => (List.mem_singleton.1 hv).symm ▸ hok)).mono ?_
  rintro r w' ⟨rfl, hb⟩
  exact ⟨by rw [(sameG_iff [x] [x]).2 rfl], hb⟩
theorem awake_b (w : World) : Calls Try.prog 11 #[] w fun r w' => r = .returned (.bool true) ∧ Below w.heap.size w w' := awake_any w

set_option maxRecDepth 100000 in
set_option maxHeartbeats 400000 in
theorem law_vertices {w : World} {eo : Option Addr} (x : Vx) (ec : Nat) (more : ByteArray) (hE : EdAt w (fun k => k < w.heap.size) eo x.es) (hid : I64 x.id) (hval : I64 x.val) (hes : ∀ e ∈ x.es, e.ok) (hlen : x.es.length ≤ maxLen) (hm : more.size + 4096 ≤ 140737488355328)
    (hVB : x.ok → x.es.length ≤ 2048 → ∀ (W : World) (P : Nat → Prop) (fo : Option Addr) (fc : Nat), EdAt W P fo x.es → Calls Try.prog 35 #[.agg #[.int .i64 x.id, .int .i64 x.val, .slice fo x.es.length fc]] W fun r w' => r = .returned (.string (str (vxB x))) ∧ Below W.heap.size W w') :
    Calls Try.prog 7 #[.agg #[.int .i64 x.id, .int .i64 x.val, .slice eo x.es.length ec], .string more] w fun r w' => r = .returned (.bool true) ∧ Below w.heap.size w w' := by
  unfold maxLen at hlen
  by_cases hbig : 2048 < x.es.length
  · go_enter Try.func7, Try.ntmps7
    go_wp2_with (go_at_call 11; refine (awake_any _).mono ?_; rintro r w1 ⟨rfl, hb1⟩)
    go_ret
    exact ⟨rfl, alloc_then hb1⟩
  · have hok : x.ok := ⟨hid, hval, hes, by omega⟩
    have hvl := vxB_len hok
    have HO : Hid (x.ok) := hok
    have HVB : Hid _ := hVB hok (by omega)
    clear hVB
    have hSz : (str (vxB x)).size ≤ 50000 := by show (vxB x).length ≤ _; omega
    have HSm : Hid ((str (vxB x) ++ more).size ≤ maxLen) := by show _ ≤ _; rw [ByteArray.size_append]; unfold maxLen; omega
    have HRd : Hid (rdV (str (vxB x) ++ more) 0 0 = (x, (vxB x).length, 0)) := by
      have := rdV_enc (s := str (vxB x) ++ more) (v := x) (a := []) (c := more.data.toList) (by rw [ByteArray.data_append]; simp [str_list]) hok (by omega)
      show rdV _ _ _ = _
      simpa using this
    have HLn : Hid ((vxB x).length ≤ (str (vxB x) ++ more).size) := by show _ ≤ _; rw [ByteArray.size_append, str_size]; omega
    have HLe : Hid (((str (vxB x) ++ more).size : Int) - (((vxB x).length : Nat) : Int) = (more.size : Int)) := by show _ = _; rw [ByteArray.size_append, str_size]; omega
    have HP : Hid (∀ w1 p, Below w.heap.size w w1 → w.heap.size ≤ p → EdAt w1 (fun k => k ≠ p ∧ (Value.slice none 0 0).ownBlock ≠ some k) eo x.es) := fun w1 p hb hp => (hE.new hb).mono (fun k _ hk => ⟨by omega, by simp [Value.ownBlock]⟩)
    have HE : Hid (EdAt w (fun k => k < w.heap.size) eo x.es) := hE
    have hle : x.es.length ≤ 2048 := by omega
    have HX : Hid (∀ v ∈ [x], v.ok) := fun v hv => (List.mem_singleton.1 hv).symm ▸ HO.out
    obtain ⟨W0, hW0⟩ : ∃ W0, w.alloc (.cells #[.int .i64 x.id, .int .i64 x.val, .slice eo x.es.length ec] 54) = W0 := ⟨_, rfl⟩
    have hv0 : W0.heap[w.heap.size]? = some (.cells #[.int .i64 x.id, .int .i64 x.val, .slice eo x.es.length ec] 54 (0, 0)) := by rw [← hW0]; exact heap_alloc_new _ _
    have hb0 : Below w.heap.size w W0 := by rw [← hW0]; exact one_new _ _
    have hs0 : W0.heap.size = w.heap.size + 1 := by rw [← hW0]; simp
    obtain ⟨k0, k1, k2⟩ := box3 hv0
    clear hE hok hvl hid hval hes
    go_enter Try.func7, Try.ntmps7
    go_wp2_with (first
      | (go_at_call 16; refine (newwriter_any _).mono ?_; rintro r w1 ⟨rfl, hw1, hb1⟩; rw [hs0] at hw1; have hv1 := (hb1.block _ (lt_of_block hv0)).trans hv0; obtain ⟨a0, a1, a2⟩ := box3 hv1; have hB1 := hb0.trans (hb1.mono hb0.size))
      | (go_at_call 33; refine (putvertex_any x ec hw1 (HP.out _ _ hB1 (by omega)) HO.out (by simp; omega)).mono ?_; rintro r w2 ⟨rfl, hT2⟩; obtain ⟨v2, hw2, hf2, hr2⟩ := id hT2; have hv2 := (hf2.block _ (lt_of_block hv1) (by rintro (e | e); (have := lt_of_block hv0; omega); (simp [Value.ownBlock] at e))).trans hv1; obtain ⟨b0, b1, b2'⟩ := box3 hv2; have hB2 := WTo.new hB1 hw1 hT2 (by omega) (by omega))
      | (go_at_call 19; refine (wall_any hw2).mono ?_; rintro r w3 ⟨rfl, rfl⟩)
      | (go_at_call 18; refine (newreader_any _ _).mono ?_; rintro r w4 ⟨rfl, hr4, hb4⟩; have hv4 := (hb4.block _ (lt_of_block hv2)).trans hv2; have hB4 := hB2.trans (hb4.mono hB2.size); have hp4 : w.heap.size < w3.heap.size := lt_of_block hv2)
      | (go_at_call 34; refine (takev_to hr4 HSm.out (Nat.zero_le _) HRd.out).mono ?_; rintro r w5 ⟨fo, fc, rfl, hE5, hr5, hf5⟩; have hv5 := (hf5.block _ (lt_of_block hv4) (by omega)).trans hv4; have hB5 := hB4.trans (hf5.below (B := w.heap.size) hB4.size (fun k hk => by omega)))
      | (go_at_call 11; refine (awake_any _).mono ?_; rintro r w6 ⟨rfl, hb6⟩; have hb56 := alloc_then hb6; have hv6 := (hb56.block _ (lt_of_block hv5)).trans hv5; obtain ⟨c0, c1, c2⟩ := box3 hv6; have hx6 := (hb6.block w5.heap.size (by simp)).trans (heap_alloc_new _ _); have hB6 := hB5.trans (hb56.mono hB5.size); have hr6 := hr5.below hb56; have hE6 := hE5.new hb56)
      | (go_at_call 10; refine (ref_one x 1 (one_at (HE.out.new hB6)) HO.out).mono ?_; rintro r w7 ⟨g, goff, gg, gc, c7, rfl, g0, g1, g2, g3, hb7⟩; have hb67 := alloc_then hb7; have hv7 := (hb67.block _ (lt_of_block hv6)).trans hv6; have hx7 := (hb67.block _ (lt_of_block hx6)).trans hx6; have hB7 := hB6.trans (hb67.mono hB6.size); have hr7 := hr6.below hb67; have hE7 := hE6.new hb67)
      | (go_at_call 35; refine (HVB.out _ _ _ _ g3).mono ?_; rintro r w8 ⟨rfl, hb8⟩; have hv8 := (hb8.block _ (lt_of_block hv7)).trans hv7; have hx8 := (hb8.block _ (lt_of_block hx7)).trans hx7; have hB8 := hB7.trans (hb8.mono hB7.size); have hr8 := hr7.below hb8; have hE8 := hE7.new hb8; have hL8 := left_any hr8 HSm.out HLn.out; rw [HLe.out] at hL8)
      | (go_at_call 24; refine (err_any hr8).mono ?_; rintro r w9 ⟨rfl, rfl⟩)
      | (go_at_call 23; refine hL8.mono ?_; rintro r w10 ⟨rfl, q, hq⟩; have hb10 : Below w9.heap.size w9 w10 := hq ▸ bel_drewN (Below.refl _ _) q; clear hq; have hv10 := (hb10.block _ (lt_of_block hv8)).trans hv8; have hx10 := (hb10.block _ (lt_of_block hx8)).trans hx8; have hE10 := hE8.new hb10; have hB10 := hB8.trans (hb10.mono hB8.size); obtain ⟨d0, d1, d2⟩ := box3 hv10; have hn10 := one_new w10 (.cells #[.int .i64 x.id, .int .i64 x.val, .slice eo x.es.length ec] 54); have hx11 := (hn10.block _ (lt_of_block hx10)).trans hx10; obtain ⟨f0, f1, f2⟩ := box3 hx11; have hy10 := one_at (ec := fc) (t := 54) (hE10.new hn10); rw [World.size_alloc] at hy10; have hS10 := same_one x 1 1 ((one_at (HE.out.new hB10)).new (one_new _ _)) hy10 (by omega); clear hn10)
      | (go_at_call 22; refine (hS10).mono ?_; rintro r w12 ⟨rfl, hb12⟩; have hB12 := hB10.trans ((alloc_then (alloc_then hb12)).mono hB10.size)))
    go_ret
    exact ⟨rfl, hB12⟩
end Go.Proofs.Ytgigopjbaliddaa
