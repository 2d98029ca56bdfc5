/- AggBytes: its walk. -/
import Derived.Test.YtjbkbhilcmiamaaAgBytesB
import Derived.Test.YtjbkbhilcmiamaaAgR26
namespace Go.Proofs.Ytjbkbhilcmiamaa
open Go.RowKit
set_option maxRecDepth 100000 in
set_option maxHeartbeats 8000000 in
theorem law_bytes {P : Nat → Prop} (ao : Option Addr) (cap : Nat) (L : List Ed) (s : ByteArray) (w : World) (hE : EdAt w P ao L) (hok : ∀ y ∈ L, y.ok) (hl : L.length ≤ 35184372088832) (hs : s.size + 4096 ≤ 140737488355328) :
    Calls Try.prog 6 #[.slice ao L.length cap, .string s] w fun e w' => e = .returned (.bool true) ∧ Below w.heap.size w w' := by
  have HE : Hid (EdAt w P ao L) := hE
  have HO : Hid (∀ y ∈ L, y.ok) := hok
  have HLn : Hid _ := hl
  have HX : Hid (OkO (allO L)) := allO_ok L hok
  obtain ⟨x, hx⟩ : ∃ x, allO L = x := ⟨_, rfl⟩
  rw [hx] at HX
  have EX : Hid _ := hx
  have HL : Hid (∀ k, k ≤ 5 → (str (putK x k)).size ≤ 55) := fun k hk => by have := putK_len HX.out k; show (putK x k).length ≤ 55; omega
  clear hE hok hx hl
  go_enter Try.func6, Try.ntmps6
  go_wp2_with (first
    | (go_at_call 13; refine (all_any ao cap L _ HE.out HO.out HLn.out).mono ?_; rintro e w1 ⟨rfl, hb1⟩; rw [EX.out]; simp only [AO, AG])
    | (go_at_call 15; refine (newwriter_any _).mono ?_; rintro r w2 ⟨rfl, hw2, hb2⟩; rw [World.size_alloc] at hw2; have hx2 := new_at (w := w1) hb2; obtain ⟨c0, c1, c2, c3, c4, c5, c6, c7, c8, c9⟩ := box_ao (o := x) hx2; have HX2 : Hid _ := hx2; clear hx2)
    | (go_at_call 16; refine (aput_any x hw2 HX.out (by simp)).mono ?_; rintro r w3 ⟨rfl, hT3⟩))
  obtain ⟨v3, hw3, hf3, hr3⟩ := hT3
  rw [List.nil_append] at hw3
  have hA : EA w w3 w1.heap.size (w1.heap.size + 1) (w1.heap.size + 1 + 1) v3 (putK x 5) x := by
    have hB2 : Below w.heap.size w w2 := hb1.trans ((below_al hb2).mono hb1.size)
    refine ⟨(hf3.block _ (lt_of_block HX2.out) ?_).trans HX2.out, hw3, hB2.trans (hf3.below hB2.size ?_)⟩
    · rintro (h | h)
      · omega
      · simp [Value.ownBlock] at h
    · rintro k (h | h)
      · have := hb1.size; omega
      · simp [Value.ownBlock] at h
  have HA : Hid _ := hA
  clear hA hw3 hf3 hr3 hw2 c0 c1 c2 c3 c4 c5 c6 c7 c8 c9 HX2 hb1 hb2
  go_loopw [7, 8] (fun u i wr => ∃ k : Nat, k ≤ 5 ∧ i = .int .i64 k ∧ u = .string (str (putK x k)) ∧ EA w wr w1.heap.size (w1.heap.size + 1) (w1.heap.size + 1 + 1) v3 (putK x 5) x) (fun _ i _ => 5 - (intOf i).toNat)
  case atStart => exact ⟨0, Nat.zero_le _, rfl, rfl, HA.out⟩
  case round =>
    obtain ⟨k, hk, rfl, rfl, hT⟩ := hrel
    by_cases hlt : k < 5
    · have hk5 : k = 0 ∨ k = 1 ∨ k = 2 ∨ k = 3 ∨ k = 4 := by omega
      obtain ⟨c0, c1, c2, c3, c4, c5, c6, c7, c8, c9⟩ := box_ao hT.x5
      rcases hk5 with rfl | rfl | rfl | rfl | rfl
      · cases hv : x 0 with
        | none =>
          rw [oh_none hv] at c0
          have HV : Hid _ := hv
          have z0 := HL.out 0 (by decide)
          have HT : Hid _ := hT
          clear hv hT
          go_wp2
          go_roundw
          case rel => exact ⟨0 + 1, by omega, by go_num, by rw [putK_succ x 0, pbit_none HV.out, ← str_append]; rfl, HT.out⟩
          case measure => simp [intOf]
        | some y =>
          rw [oh_some hv] at c0
          rw [ov_some hv] at c5
          have HV : Hid _ := hv
          have HI : Hid (I64 y) := HX.out _ _ hv
          have z1 : (str (sgB y)).size ≤ 10 := sgB_len HI.out
          have z0 := HL.out 0 (by decide)
          have HT : Hid _ := hT
          clear hv hT
          go_wp2_with (go_at_call 17; refine (refsigned_g _ _ HI.out).mono ?_; rintro r w4 ⟨rfl, hb4⟩)
          go_roundw
          case rel => exact ⟨0 + 1, by omega, by go_num, by rw [putK_succ x 0, pbit_some HV.out, ← str_append]; rfl, HT.out.new hb4⟩
          case measure => simp [intOf]
      · cases hv : x 1 with
        | none =>
          rw [oh_none hv] at c1
          have HV : Hid _ := hv
          have z0 := HL.out 1 (by decide)
          have HT : Hid _ := hT
          clear hv hT
          go_wp2
          go_roundw
          case rel => exact ⟨1 + 1, by omega, by go_num, by rw [putK_succ x 1, pbit_none HV.out, ← str_append]; rfl, HT.out⟩
          case measure => simp [intOf]
        | some y =>
          rw [oh_some hv] at c1
          rw [ov_some hv] at c6
          have HV : Hid _ := hv
          have HI : Hid (I64 y) := HX.out _ _ hv
          have z1 : (str (sgB y)).size ≤ 10 := sgB_len HI.out
          have z0 := HL.out 1 (by decide)
          have HT : Hid _ := hT
          clear hv hT
          go_wp2_with (go_at_call 17; refine (refsigned_g _ _ HI.out).mono ?_; rintro r w4 ⟨rfl, hb4⟩)
          go_roundw
          case rel => exact ⟨1 + 1, by omega, by go_num, by rw [putK_succ x 1, pbit_some HV.out, ← str_append]; rfl, HT.out.new hb4⟩
          case measure => simp [intOf]
      · cases hv : x 2 with
        | none =>
          rw [oh_none hv] at c2
          have HV : Hid _ := hv
          have z0 := HL.out 2 (by decide)
          have HT : Hid _ := hT
          clear hv hT
          go_wp2
          go_roundw
          case rel => exact ⟨2 + 1, by omega, by go_num, by rw [putK_succ x 2, pbit_none HV.out, ← str_append]; rfl, HT.out⟩
          case measure => simp [intOf]
        | some y =>
          rw [oh_some hv] at c2
          rw [ov_some hv] at c7
          have HV : Hid _ := hv
          have HI : Hid (I64 y) := HX.out _ _ hv
          have z1 : (str (sgB y)).size ≤ 10 := sgB_len HI.out
          have z0 := HL.out 2 (by decide)
          have HT : Hid _ := hT
          clear hv hT
          go_wp2_with (go_at_call 17; refine (refsigned_g _ _ HI.out).mono ?_; rintro r w4 ⟨rfl, hb4⟩)
          go_roundw
          case rel => exact ⟨2 + 1, by omega, by go_num, by rw [putK_succ x 2, pbit_some HV.out, ← str_append]; rfl, HT.out.new hb4⟩
          case measure => simp [intOf]
      · cases hv : x 3 with
        | none =>
          rw [oh_none hv] at c3
          have HV : Hid _ := hv
          have z0 := HL.out 3 (by decide)
          have HT : Hid _ := hT
          clear hv hT
          go_wp2
          go_roundw
          case rel => exact ⟨3 + 1, by omega, by go_num, by rw [putK_succ x 3, pbit_none HV.out, ← str_append]; rfl, HT.out⟩
          case measure => simp [intOf]
        | some y =>
          rw [oh_some hv] at c3
          rw [ov_some hv] at c8
          have HV : Hid _ := hv
          have HI : Hid (I64 y) := HX.out _ _ hv
          have z1 : (str (sgB y)).size ≤ 10 := sgB_len HI.out
          have z0 := HL.out 3 (by decide)
          have HT : Hid _ := hT
          clear hv hT
          go_wp2_with (go_at_call 17; refine (refsigned_g _ _ HI.out).mono ?_; rintro r w4 ⟨rfl, hb4⟩)
          go_roundw
          case rel => exact ⟨3 + 1, by omega, by go_num, by rw [putK_succ x 3, pbit_some HV.out, ← str_append]; rfl, HT.out.new hb4⟩
          case measure => simp [intOf]
      · cases hv : x 4 with
        | none =>
          rw [oh_none hv] at c4
          have HV : Hid _ := hv
          have z0 := HL.out 4 (by decide)
          have HT : Hid _ := hT
          clear hv hT
          go_wp2
          go_roundw
          case rel => exact ⟨4 + 1, by omega, by go_num, by rw [putK_succ x 4, pbit_none HV.out, ← str_append]; rfl, HT.out⟩
          case measure => simp [intOf]
        | some y =>
          rw [oh_some hv] at c4
          rw [ov_some hv] at c9
          have HV : Hid _ := hv
          have HI : Hid (I64 y) := HX.out _ _ hv
          have z1 : (str (sgB y)).size ≤ 10 := sgB_len HI.out
          have z0 := HL.out 4 (by decide)
          have HT : Hid _ := hT
          clear hv hT
          go_wp2_with (go_at_call 17; refine (refsigned_g _ _ HI.out).mono ?_; rintro r w4 ⟨rfl, hb4⟩)
          go_roundw
          case rel => exact ⟨4 + 1, by omega, by go_num, by rw [putK_succ x 4, pbit_some HV.out, ← str_append]; rfl, HT.out.new hb4⟩
          case measure => simp [intOf]
    · obtain rfl : k = 5 := by omega
      have z0 := HL.out 5 (by decide)
      have HSm : Hid ((str (putK x 5) ++ s).size ≤ maxLen) := by show _ ≤ _; rw [ByteArray.size_append]; unfold maxLen; omega
      have Hss : Hid (s.size ≤ maxLen) := by show _ ≤ _; unfold maxLen; omega
      obtain ⟨ta, tb⟩ := tk_all s HX.out
      have TA : Hid _ := ta
      have TB : Hid (AO (takeO (str (putK x 5) ++ s) 0 0) = AO x) := congrArg Value.agg tb
      have HT : Hid _ := hT
      clear hT ta tb HA
      obtain ⟨zz, hzz⟩ : ∃ zz, takeO s 0 0 = zz := ⟨_, rfl⟩
      have ZZ : Hid _ := hzz
      clear hzz
      go_wp2_with (first
        | (go_at_call 19; refine (wall_any HT.out.wt).mono ?_; rintro r w4 ⟨rfl, rfl⟩)
        | (go_at_call 18; first
          | (have := hr6; refine (newreader_any _ _).mono ?_; rintro r w7 ⟨rfl, hr7, hb7⟩; rw [World.size_alloc] at hr7)
          | (refine (newreader_any _ _).mono ?_; rintro r w5 ⟨rfl, hr5, hb5⟩))
        | (go_at_call 20; first
          | (have := hr7; refine (atake_any hr7 Hss.out (Nat.zero_le _) hr7.lt).mono ?_; rintro r w8 ⟨rfl, hr8, hf8⟩; rw [ZZ.out]; simp only [AO, AG])
          | (refine (atake_any hr5 HSm.out (Nat.zero_le _) hr5.lt).mono ?_; rintro r w6 ⟨rfl, hr6, hf6⟩; rw [TB.out]; rw [TA.out] at hr6; simp only [AO, AG])))
      obtain ⟨⟨o5, aq, eq⟩, h5⟩ : ∃ q, tk s 0 0 5 = q := ⟨_, rfl⟩
      rw [h5] at hr8
      have H5 : Hid _ := h5
      have hBF := BF.start (BE.start (zz := zz) HT.out hb5 hr6 hf6 hb7 hr8 hf8) (World.size_alloc _ _)
      have HBF : Hid _ := hBF
      clear hBF h5 hr5 hb5 hr6 hf6 hr7 hb7 hr8 hf8
      go_loopw [15] (fun i wr => ∃ (k : Nat) (o : Nat → Option Int) (a' : Nat) (e' : Int), k ≤ 5 ∧ i = .int .i64 k ∧ Hid (tk s 0 0 k = (o, a', e')) ∧ Hid (a' ≤ s.size) ∧ BF w wr (w8.heap.size + 1) w1.heap.size (w1.heap.size + 1) (w1.heap.size + 1 + 1) w4.heap.size w6.heap.size (w6.heap.size + 1) w8.heap.size v3 (putK x 5) x zz (str (putK x 5) ++ s) s (putK x 5).length aq eq o a' e') (fun i _ => 5 - (intOf i).toNat)
      case atStart => exact ⟨0, _, 0, 0, Nat.zero_le _, rfl, rfl, Nat.zero_le _, HBF.out⟩
      case round =>
        obtain ⟨k, o, a', e', hk, rfl, HM, HA, hF⟩ := hrel
        clear HBF
        by_cases hlt : k < 5
        · have hk5 : k = 0 ∨ k = 1 ∨ k = 2 ∨ k = 3 ∨ k = 4 := by omega
          obtain ⟨⟨bo, a1, e1⟩, hq⟩ : ∃ q, rdBool s a' e' = q := ⟨_, rfl⟩
          have HQ : Hid _ := hq
          obtain ⟨c0, c1, c2, _, _, _, _⟩ := hF.mcells
          have HF : Hid _ := hF
          clear hq hF
          rcases hk5 with rfl | rfl | rfl | rfl | rfl
          · cases hbo : bo with
            | false =>
              subst hbo
              have HR : Hid (tk s 0 0 (0 + 1) = (o, a1, e1)) := tk_no HM.out HQ.out
              go_upto_region 21 with (go_at_call 21; refine (fbo_to _ Hss.out HA.out HQ.out).mono ?_; rintro r w9 ⟨rfl, hb9⟩; have hF9 := HF.out.new hb9; obtain ⟨d0, d1, d2, g0, g1, g2, l9⟩ := hF9.mcells; clear c0 c1 c2)
              generalize hW : World.alloc _ _ = W
              have hF10 : BF w W (w8.heap.size + 1) w1.heap.size (w1.heap.size + 1) (w1.heap.size + 1 + 1) w4.heap.size w6.heap.size (w6.heap.size + 1) w8.heap.size v3 (putK x 5) x zz (str (putK x 5) ++ s) s (putK x 5).length aq eq o a1 e1 := by
                rw [← hW]
                exact (hF9.setm a1 e1).al _
              have HF10 : Hid _ := hF10
              clear hF9 hF10 hW d0 d1 d2 g0 g1 g2 l9 hb9
              go_wp2
              go_roundw
              case rel => exact ⟨0 + 1, o, a1, e1, by omega, by go_num, HR.out, rdBool_le HA.out HQ.out, HF10.out⟩
              case measure => simp [intOf]
            | true =>
              subst hbo
              obtain ⟨⟨t, a2, e2⟩, hn⟩ : ∃ q, rdNum s a1 e1 = q := ⟨_, rfl⟩
              have HN : Hid _ := hn
              have HR : Hid (tk s 0 0 (0 + 1) = (upd o 0 (some (unfoldN t)), a2, e2)) := tk_yes HM.out HQ.out hn
              have HL1 : Hid _ := rdBool_le HA.out HQ.out
              clear hn
              go_upto_region 21 with (go_at_call 21; refine (fbo_to _ Hss.out HA.out HQ.out).mono ?_; rintro r w9 ⟨rfl, hb9⟩; have hF9 := HF.out.new hb9; obtain ⟨d0, d1, d2, g0, g1, g2, l9⟩ := hF9.mcells; clear c0 c1 c2)
              generalize hW : World.alloc _ _ = W
              have hF10 : BF w W (w8.heap.size + 1) w1.heap.size (w1.heap.size + 1) (w1.heap.size + 1 + 1) w4.heap.size w6.heap.size (w6.heap.size + 1) w8.heap.size v3 (putK x 5) x zz (str (putK x 5) ++ s) s (putK x 5).length aq eq o a1 e1 := by
                rw [← hW]
                exact (hF9.setm a1 e1).al _
              have HF10 : Hid _ := hF10
              clear hF9 hW d0 d1 d2 g0 g1 g2 l9 hb9
              obtain ⟨d0, d1, d2, g0, g1, g2, l9⟩ := hF10.mcells
              clear hF10
              go_upto_region 23 with (go_at_call 22; refine (fso_to _ Hss.out HL1.out HN.out).mono ?_; rintro r w11 ⟨rfl, hb11⟩)
              clear d0 d1 d2 g0 g1 g2 l9
              have hF11 := HF10.out.new hb11
              have hn11 := heap_alloc_new w11 (.cells #[.string s, .int .i64 a2, .int .i64 e2] 51)
              have hF12 := hF11.al (.cells #[.string s, .int .i64 a2, .int .i64 e2] 51)
              generalize hW2 : w11.alloc (.cells #[.string s, .int .i64 a2, .int .i64 e2] 51) = W2 at hn11 hF12 ⊢
              have lne : w8.heap.size + 1 < w11.heap.size := lt_of_block hF11.bm
              have lnf : w8.heap.size + 1 + 1 < w11.heap.size := lt_of_block hF11.bk
              clear hW2 hF11
              obtain ⟨d0, d1, d2, g0, g1, g2, l9⟩ := hF12.mcells
              obtain ⟨p0, p1, p2, p3, p4, p5, p6, p7, p8, p9⟩ := box_ao hF12.bk
              have q0 := froz10 hF12.bk 0
              have q1 := froz10 hF12.bk 5
              have m0 : W2.cell? ⟨w11.heap.size, 0, none⟩ = some (.string s) := by simp [World.cell?, hn11]
              have m1 : W2.cell? ⟨w11.heap.size, 1, none⟩ = some (.int .i64 a2) := by simp [World.cell?, hn11]
              have m2 : W2.cell? ⟨w11.heap.size, 2, none⟩ = some (.int .i64 e2) := by simp [World.cell?, hn11]
              have HF12 : Hid _ := hF12
              clear hF12 hn11
              go_wp2
              go_roundw
              case rel => exact ⟨0 + 1, _, a2, e2, by omega, by go_num, HR.out, (rdNum_to HL1.out HN.out).1, (HF12.out.setm a2 e2).setk 0 5 rfl⟩
              case measure => simp [intOf]
          · cases hbo : bo with
            | false =>
              subst hbo
              have HR : Hid (tk s 0 0 (1 + 1) = (o, a1, e1)) := tk_no HM.out HQ.out
              go_upto_region 21 with (go_at_call 21; refine (fbo_to _ Hss.out HA.out HQ.out).mono ?_; rintro r w9 ⟨rfl, hb9⟩; have hF9 := HF.out.new hb9; obtain ⟨d0, d1, d2, g0, g1, g2, l9⟩ := hF9.mcells; clear c0 c1 c2)
              generalize hW : World.alloc _ _ = W
              have hF10 : BF w W (w8.heap.size + 1) w1.heap.size (w1.heap.size + 1) (w1.heap.size + 1 + 1) w4.heap.size w6.heap.size (w6.heap.size + 1) w8.heap.size v3 (putK x 5) x zz (str (putK x 5) ++ s) s (putK x 5).length aq eq o a1 e1 := by
                rw [← hW]
                exact (hF9.setm a1 e1).al _
              have HF10 : Hid _ := hF10
              clear hF9 hF10 hW d0 d1 d2 g0 g1 g2 l9 hb9
              go_wp2
              go_roundw
              case rel => exact ⟨1 + 1, o, a1, e1, by omega, by go_num, HR.out, rdBool_le HA.out HQ.out, HF10.out⟩
              case measure => simp [intOf]
            | true =>
              subst hbo
              obtain ⟨⟨t, a2, e2⟩, hn⟩ : ∃ q, rdNum s a1 e1 = q := ⟨_, rfl⟩
              have HN : Hid _ := hn
              have HR : Hid (tk s 0 0 (1 + 1) = (upd o 1 (some (unfoldN t)), a2, e2)) := tk_yes HM.out HQ.out hn
              have HL1 : Hid _ := rdBool_le HA.out HQ.out
              clear hn
              go_upto_region 21 with (go_at_call 21; refine (fbo_to _ Hss.out HA.out HQ.out).mono ?_; rintro r w9 ⟨rfl, hb9⟩; have hF9 := HF.out.new hb9; obtain ⟨d0, d1, d2, g0, g1, g2, l9⟩ := hF9.mcells; clear c0 c1 c2)
              generalize hW : World.alloc _ _ = W
              have hF10 : BF w W (w8.heap.size + 1) w1.heap.size (w1.heap.size + 1) (w1.heap.size + 1 + 1) w4.heap.size w6.heap.size (w6.heap.size + 1) w8.heap.size v3 (putK x 5) x zz (str (putK x 5) ++ s) s (putK x 5).length aq eq o a1 e1 := by
                rw [← hW]
                exact (hF9.setm a1 e1).al _
              have HF10 : Hid _ := hF10
              clear hF9 hW d0 d1 d2 g0 g1 g2 l9 hb9
              obtain ⟨d0, d1, d2, g0, g1, g2, l9⟩ := hF10.mcells
              clear hF10
              go_upto_region 23 with (go_at_call 22; refine (fso_to _ Hss.out HL1.out HN.out).mono ?_; rintro r w11 ⟨rfl, hb11⟩)
              clear d0 d1 d2 g0 g1 g2 l9
              have hF11 := HF10.out.new hb11
              have hn11 := heap_alloc_new w11 (.cells #[.string s, .int .i64 a2, .int .i64 e2] 51)
              have hF12 := hF11.al (.cells #[.string s, .int .i64 a2, .int .i64 e2] 51)
              generalize hW2 : w11.alloc (.cells #[.string s, .int .i64 a2, .int .i64 e2] 51) = W2 at hn11 hF12 ⊢
              have lne : w8.heap.size + 1 < w11.heap.size := lt_of_block hF11.bm
              have lnf : w8.heap.size + 1 + 1 < w11.heap.size := lt_of_block hF11.bk
              clear hW2 hF11
              obtain ⟨d0, d1, d2, g0, g1, g2, l9⟩ := hF12.mcells
              obtain ⟨p0, p1, p2, p3, p4, p5, p6, p7, p8, p9⟩ := box_ao hF12.bk
              have q0 := froz10 hF12.bk 1
              have q1 := froz10 hF12.bk 6
              have m0 : W2.cell? ⟨w11.heap.size, 0, none⟩ = some (.string s) := by simp [World.cell?, hn11]
              have m1 : W2.cell? ⟨w11.heap.size, 1, none⟩ = some (.int .i64 a2) := by simp [World.cell?, hn11]
              have m2 : W2.cell? ⟨w11.heap.size, 2, none⟩ = some (.int .i64 e2) := by simp [World.cell?, hn11]
              have HF12 : Hid _ := hF12
              clear hF12 hn11
              go_wp2
              go_roundw
              case rel => exact ⟨1 + 1, _, a2, e2, by omega, by go_num, HR.out, (rdNum_to HL1.out HN.out).1, (HF12.out.setm a2 e2).setk 1 6 rfl⟩
              case measure => simp [intOf]
          · cases hbo : bo with
            | false =>
              subst hbo
              have HR : Hid (tk s 0 0 (2 + 1) = (o, a1, e1)) := tk_no HM.out HQ.out
              go_upto_region 21 with (go_at_call 21; refine (fbo_to _ Hss.out HA.out HQ.out).mono ?_; rintro r w9 ⟨rfl, hb9⟩; have hF9 := HF.out.new hb9; obtain ⟨d0, d1, d2, g0, g1, g2, l9⟩ := hF9.mcells; clear c0 c1 c2)
              generalize hW : World.alloc _ _ = W
              have hF10 : BF w W (w8.heap.size + 1) w1.heap.size (w1.heap.size + 1) (w1.heap.size + 1 + 1) w4.heap.size w6.heap.size (w6.heap.size + 1) w8.heap.size v3 (putK x 5) x zz (str (putK x 5) ++ s) s (putK x 5).length aq eq o a1 e1 := by
                rw [← hW]
                exact (hF9.setm a1 e1).al _
              have HF10 : Hid _ := hF10
              clear hF9 hF10 hW d0 d1 d2 g0 g1 g2 l9 hb9
              go_wp2
              go_roundw
              case rel => exact ⟨2 + 1, o, a1, e1, by omega, by go_num, HR.out, rdBool_le HA.out HQ.out, HF10.out⟩
              case measure => simp [intOf]
            | true =>
              subst hbo
              obtain ⟨⟨t, a2, e2⟩, hn⟩ : ∃ q, rdNum s a1 e1 = q := ⟨_, rfl⟩
              have HN : Hid _ := hn
              have HR : Hid (tk s 0 0 (2 + 1) = (upd o 2 (some (unfoldN t)), a2, e2)) := tk_yes HM.out HQ.out hn
              have HL1 : Hid _ := rdBool_le HA.out HQ.out
              clear hn
              go_upto_region 21 with (go_at_call 21; refine (fbo_to _ Hss.out HA.out HQ.out).mono ?_; rintro r w9 ⟨rfl, hb9⟩; have hF9 := HF.out.new hb9; obtain ⟨d0, d1, d2, g0, g1, g2, l9⟩ := hF9.mcells; clear c0 c1 c2)
              generalize hW : World.alloc _ _ = W
              have hF10 : BF w W (w8.heap.size + 1) w1.heap.size (w1.heap.size + 1) (w1.heap.size + 1 + 1) w4.heap.size w6.heap.size (w6.heap.size + 1) w8.heap.size v3 (putK x 5) x zz (str (putK x 5) ++ s) s (putK x 5).length aq eq o a1 e1 := by
                rw [← hW]
                exact (hF9.setm a1 e1).al _
              have HF10 : Hid _ := hF10
              clear hF9 hW d0 d1 d2 g0 g1 g2 l9 hb9
              obtain ⟨d0, d1, d2, g0, g1, g2, l9⟩ := hF10.mcells
              clear hF10
              go_upto_region 23 with (go_at_call 22; refine (fso_to _ Hss.out HL1.out HN.out).mono ?_; rintro r w11 ⟨rfl, hb11⟩)
              clear d0 d1 d2 g0 g1 g2 l9
              have hF11 := HF10.out.new hb11
              have hn11 := heap_alloc_new w11 (.cells #[.string s, .int .i64 a2, .int .i64 e2] 51)
              have hF12 := hF11.al (.cells #[.string s, .int .i64 a2, .int .i64 e2] 51)
              generalize hW2 : w11.alloc (.cells #[.string s, .int .i64 a2, .int .i64 e2] 51) = W2 at hn11 hF12 ⊢
              have lne : w8.heap.size + 1 < w11.heap.size := lt_of_block hF11.bm
              have lnf : w8.heap.size + 1 + 1 < w11.heap.size := lt_of_block hF11.bk
              clear hW2 hF11
              obtain ⟨d0, d1, d2, g0, g1, g2, l9⟩ := hF12.mcells
              obtain ⟨p0, p1, p2, p3, p4, p5, p6, p7, p8, p9⟩ := box_ao hF12.bk
              have q0 := froz10 hF12.bk 2
              have q1 := froz10 hF12.bk 7
              have m0 : W2.cell? ⟨w11.heap.size, 0, none⟩ = some (.string s) := by simp [World.cell?, hn11]
              have m1 : W2.cell? ⟨w11.heap.size, 1, none⟩ = some (.int .i64 a2) := by simp [World.cell?, hn11]
              have m2 : W2.cell? ⟨w11.heap.size, 2, none⟩ = some (.int .i64 e2) := by simp [World.cell?, hn11]
              have HF12 : Hid _ := hF12
              clear hF12 hn11
              go_wp2
              go_roundw
              case rel => exact ⟨2 + 1, _, a2, e2, by omega, by go_num, HR.out, (rdNum_to HL1.out HN.out).1, (HF12.out.setm a2 e2).setk 2 7 rfl⟩
              case measure => simp [intOf]
          · cases hbo : bo with
            | false =>
              subst hbo
              have HR : Hid (tk s 0 0 (3 + 1) = (o, a1, e1)) := tk_no HM.out HQ.out
              go_upto_region 21 with (go_at_call 21; refine (fbo_to _ Hss.out HA.out HQ.out).mono ?_; rintro r w9 ⟨rfl, hb9⟩; have hF9 := HF.out.new hb9; obtain ⟨d0, d1, d2, g0, g1, g2, l9⟩ := hF9.mcells; clear c0 c1 c2)
              generalize hW : World.alloc _ _ = W
              have hF10 : BF w W (w8.heap.size + 1) w1.heap.size (w1.heap.size + 1) (w1.heap.size + 1 + 1) w4.heap.size w6.heap.size (w6.heap.size + 1) w8.heap.size v3 (putK x 5) x zz (str (putK x 5) ++ s) s (putK x 5).length aq eq o a1 e1 := by
                rw [← hW]
                exact (hF9.setm a1 e1).al _
              have HF10 : Hid _ := hF10
              clear hF9 hF10 hW d0 d1 d2 g0 g1 g2 l9 hb9
              go_wp2
              go_roundw
              case rel => exact ⟨3 + 1, o, a1, e1, by omega, by go_num, HR.out, rdBool_le HA.out HQ.out, HF10.out⟩
              case measure => simp [intOf]
            | true =>
              subst hbo
              obtain ⟨⟨t, a2, e2⟩, hn⟩ : ∃ q, rdNum s a1 e1 = q := ⟨_, rfl⟩
              have HN : Hid _ := hn
              have HR : Hid (tk s 0 0 (3 + 1) = (upd o 3 (some (unfoldN t)), a2, e2)) := tk_yes HM.out HQ.out hn
              have HL1 : Hid _ := rdBool_le HA.out HQ.out
              clear hn
              go_upto_region 21 with (go_at_call 21; refine (fbo_to _ Hss.out HA.out HQ.out).mono ?_; rintro r w9 ⟨rfl, hb9⟩; have hF9 := HF.out.new hb9; obtain ⟨d0, d1, d2, g0, g1, g2, l9⟩ := hF9.mcells; clear c0 c1 c2)
              generalize hW : World.alloc _ _ = W
              have hF10 : BF w W (w8.heap.size + 1) w1.heap.size (w1.heap.size + 1) (w1.heap.size + 1 + 1) w4.heap.size w6.heap.size (w6.heap.size + 1) w8.heap.size v3 (putK x 5) x zz (str (putK x 5) ++ s) s (putK x 5).length aq eq o a1 e1 := by
                rw [← hW]
                exact (hF9.setm a1 e1).al _
              have HF10 : Hid _ := hF10
              clear hF9 hW d0 d1 d2 g0 g1 g2 l9 hb9
              obtain ⟨d0, d1, d2, g0, g1, g2, l9⟩ := hF10.mcells
              clear hF10
              go_upto_region 23 with (go_at_call 22; refine (fso_to _ Hss.out HL1.out HN.out).mono ?_; rintro r w11 ⟨rfl, hb11⟩)
              clear d0 d1 d2 g0 g1 g2 l9
              have hF11 := HF10.out.new hb11
              have hn11 := heap_alloc_new w11 (.cells #[.string s, .int .i64 a2, .int .i64 e2] 51)
              have hF12 := hF11.al (.cells #[.string s, .int .i64 a2, .int .i64 e2] 51)
              generalize hW2 : w11.alloc (.cells #[.string s, .int .i64 a2, .int .i64 e2] 51) = W2 at hn11 hF12 ⊢
              have lne : w8.heap.size + 1 < w11.heap.size := lt_of_block hF11.bm
              have lnf : w8.heap.size + 1 + 1 < w11.heap.size := lt_of_block hF11.bk
              clear hW2 hF11
              obtain ⟨d0, d1, d2, g0, g1, g2, l9⟩ := hF12.mcells
              obtain ⟨p0, p1, p2, p3, p4, p5, p6, p7, p8, p9⟩ := box_ao hF12.bk
              have q0 := froz10 hF12.bk 3
              have q1 := froz10 hF12.bk 8
              have m0 : W2.cell? ⟨w11.heap.size, 0, none⟩ = some (.string s) := by simp [World.cell?, hn11]
              have m1 : W2.cell? ⟨w11.heap.size, 1, none⟩ = some (.int .i64 a2) := by simp [World.cell?, hn11]
              have m2 : W2.cell? ⟨w11.heap.size, 2, none⟩ = some (.int .i64 e2) := by simp [World.cell?, hn11]
              have HF12 : Hid _ := hF12
              clear hF12 hn11
              go_wp2
              go_roundw
              case rel => exact ⟨3 + 1, _, a2, e2, by omega, by go_num, HR.out, (rdNum_to HL1.out HN.out).1, (HF12.out.setm a2 e2).setk 3 8 rfl⟩
              case measure => simp [intOf]
          · cases hbo : bo with
            | false =>
              subst hbo
              have HR : Hid (tk s 0 0 (4 + 1) = (o, a1, e1)) := tk_no HM.out HQ.out
              go_upto_region 21 with (go_at_call 21; refine (fbo_to _ Hss.out HA.out HQ.out).mono ?_; rintro r w9 ⟨rfl, hb9⟩; have hF9 := HF.out.new hb9; obtain ⟨d0, d1, d2, g0, g1, g2, l9⟩ := hF9.mcells; clear c0 c1 c2)
              generalize hW : World.alloc _ _ = W
              have hF10 : BF w W (w8.heap.size + 1) w1.heap.size (w1.heap.size + 1) (w1.heap.size + 1 + 1) w4.heap.size w6.heap.size (w6.heap.size + 1) w8.heap.size v3 (putK x 5) x zz (str (putK x 5) ++ s) s (putK x 5).length aq eq o a1 e1 := by
                rw [← hW]
                exact (hF9.setm a1 e1).al _
              have HF10 : Hid _ := hF10
              clear hF9 hF10 hW d0 d1 d2 g0 g1 g2 l9 hb9
              go_wp2
              go_roundw
              case rel => exact ⟨4 + 1, o, a1, e1, by omega, by go_num, HR.out, rdBool_le HA.out HQ.out, HF10.out⟩
              case measure => simp [intOf]
            | true =>
              subst hbo
              obtain ⟨⟨t, a2, e2⟩, hn⟩ : ∃ q, rdNum s a1 e1 = q := ⟨_, rfl⟩
              have HN : Hid _ := hn
              have HR : Hid (tk s 0 0 (4 + 1) = (upd o 4 (some (unfoldN t)), a2, e2)) := tk_yes HM.out HQ.out hn
              have HL1 : Hid _ := rdBool_le HA.out HQ.out
              clear hn
              go_upto_region 21 with (go_at_call 21; refine (fbo_to _ Hss.out HA.out HQ.out).mono ?_; rintro r w9 ⟨rfl, hb9⟩; have hF9 := HF.out.new hb9; obtain ⟨d0, d1, d2, g0, g1, g2, l9⟩ := hF9.mcells; clear c0 c1 c2)
              generalize hW : World.alloc _ _ = W
              have hF10 : BF w W (w8.heap.size + 1) w1.heap.size (w1.heap.size + 1) (w1.heap.size + 1 + 1) w4.heap.size w6.heap.size (w6.heap.size + 1) w8.heap.size v3 (putK x 5) x zz (str (putK x 5) ++ s) s (putK x 5).length aq eq o a1 e1 := by
                rw [← hW]
                exact (hF9.setm a1 e1).al _
              have HF10 : Hid _ := hF10
              clear hF9 hW d0 d1 d2 g0 g1 g2 l9 hb9
              obtain ⟨d0, d1, d2, g0, g1, g2, l9⟩ := hF10.mcells
              clear hF10
              go_upto_region 23 with (go_at_call 22; refine (fso_to _ Hss.out HL1.out HN.out).mono ?_; rintro r w11 ⟨rfl, hb11⟩)
              clear d0 d1 d2 g0 g1 g2 l9
              have hF11 := HF10.out.new hb11
              have hn11 := heap_alloc_new w11 (.cells #[.string s, .int .i64 a2, .int .i64 e2] 51)
              have hF12 := hF11.al (.cells #[.string s, .int .i64 a2, .int .i64 e2] 51)
              generalize hW2 : w11.alloc (.cells #[.string s, .int .i64 a2, .int .i64 e2] 51) = W2 at hn11 hF12 ⊢
              have lne : w8.heap.size + 1 < w11.heap.size := lt_of_block hF11.bm
              have lnf : w8.heap.size + 1 + 1 < w11.heap.size := lt_of_block hF11.bk
              clear hW2 hF11
              obtain ⟨d0, d1, d2, g0, g1, g2, l9⟩ := hF12.mcells
              obtain ⟨p0, p1, p2, p3, p4, p5, p6, p7, p8, p9⟩ := box_ao hF12.bk
              have q0 := froz10 hF12.bk 4
              have q1 := froz10 hF12.bk 9
              have m0 : W2.cell? ⟨w11.heap.size, 0, none⟩ = some (.string s) := by simp [World.cell?, hn11]
              have m1 : W2.cell? ⟨w11.heap.size, 1, none⟩ = some (.int .i64 a2) := by simp [World.cell?, hn11]
              have m2 : W2.cell? ⟨w11.heap.size, 2, none⟩ = some (.int .i64 e2) := by simp [World.cell?, hn11]
              have HF12 : Hid _ := hF12
              clear hF12 hn11
              go_wp2
              go_roundw
              case rel => exact ⟨4 + 1, _, a2, e2, by omega, by go_num, HR.out, (rdNum_to HL1.out HN.out).1, (HF12.out.setm a2 e2).setk 4 9 rfl⟩
              case measure => simp [intOf]
        · obtain rfl : k = 5 := by omega
          have hpq : (o, a', e') = (o5, aq, eq) := HM.out.symm.trans H5.out
          obtain ⟨rfl, rfl, rfl⟩ : o = o5 ∧ a' = aq ∧ e' = eq := by cases hpq; exact ⟨rfl, rfl, rfl⟩
          have HLn : Hid ((putK x 5).length ≤ (str (putK x 5) ++ s).size) := by show _ ≤ _; rw [ByteArray.size_append, str_size]; omega
          have HLe : Hid (((str (putK x 5) ++ s).size : Int) - (((putK x 5).length : Nat) : Int) = (s.size : Int)) := by show _ = _; rw [ByteArray.size_append, str_size]; omega
          obtain ⟨c0, c1, c2, _, _, _, _⟩ := hF.mcells
          by_cases he : e' = 0
          · subst he
            obtain rfl : o = zz := by rw [← ZZ.out]; unfold takeO; rw [H5.out]; exact (if_pos rfl).symm
            have HFz : Hid _ := hF
            clear hF hpq
            go_upto_region 26 with fail
            clear c0 c1 c2
            refine bytes_r26 HFz HSm HLn HLe ?_
            intro wx e86 e87 e88 e89 e90 e91 e92 e93 e94 e95 e96 e97 e98 e99 e100 e101 e102 e103 e104 e105 e106 e107 e108 e109 e110 e111 e112 e113 e114 e115 e116 hbx
            go_wp2
            go_ret
            exact ⟨rfl, hbx⟩
          · obtain rfl : (fun _ => none) = zz := by rw [← ZZ.out]; unfold takeO; rw [H5.out]; exact (if_neg he).symm
            have hne : (e' != 0) = true := by simpa using he
            obtain ⟨p0, p1, p2, p3, p4, p5, p6, p7, p8, p9⟩ := box_ao hF.bk
            obtain ⟨q0, q1, q2, q3, q4, q5, q6, q7, q8, q9⟩ := fro_ao hF.bk
            have HF0 : Hid _ := hF
            clear hF hpq
            go_upto_region 26 with fail
            generalize hW : World.setCell _ _ _ = W
            have hFz := HF0.out.putk (o' := fun _ => none) (w' := W) (by rw [← hW]; exact fs10 _ _ _ _ _ _ _ _ _ _ _ _) (by rw [← hW]; exact mset10 _ _ _ _ _ _ _ _ _ _ HF0.out.bk)
            have HFz : Hid _ := hFz
            clear hFz hW HF0 c0 c1 c2 p0 p1 p2 p3 p4 p5 p6 p7 p8 p9 q0 q1 q2 q3 q4 q5 q6 q7 q8 q9
            refine bytes_r26 HFz HSm HLn HLe ?_
            intro wx e86 e87 e88 e89 e90 e91 e92 e93 e94 e95 e96 e97 e98 e99 e100 e101 e102 e103 e104 e105 e106 e107 e108 e109 e110 e111 e112 e113 e114 e115 e116 hbx
            go_wp2
            go_ret
            exact ⟨rfl, hbx⟩
end Go.Proofs.Ytjbkbhilcmiamaa
