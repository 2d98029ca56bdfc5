/- The walk of cohortlaw03.GraphChecks over a graph that may be. -/
import Derived.Test.YtgigopjbaliddaaLawChecks
namespace Go.Proofs.Ytgigopjbaliddaa
open Go.RowKit

set_option maxRecDepth 100000 in
set_option maxHeartbeats 400000 in
theorem law_checks_good {w : World} {P : Nat → Prop} {ao : Option Addr} (G : List Vx) (cap : Nat) (hG : VxAt w P ao G) (hok : ∀ v ∈ G, v.ok) (hl : G.length * 40 ≤ 140737488355328) (hz : chk G = 0) :
    Calls Try.prog 3 #[.agg #[.slice ao G.length cap]] w fun r w' => r = .returned (.bool true) ∧ Below w.heap.size w w' := by
  have hrm := room_ok hz hok
  have hlen := (chk_ok hz).1
  have HE : Hid (∀ W, Below w.heap.size w W → Calls Try.prog 8 #[.agg #[.slice ao G.length cap]] W fun r w' => r = .returned (.tuple #[.string (str (grB G)), .int .i64 0]) ∧ Below W.heap.size W w') := fun W hb => encode_good G cap (hG.new hb) hok (by omega) hz
  have HR : Hid (∀ W, Below w.heap.size w W → Calls Try.prog 10 #[.agg #[.slice ao G.length cap]] W fun r w' => ∃ bo c, r = .returned (.slice bo G.length c) ∧ VxAt w' (fun k => W.heap.size ≤ k) bo G ∧ Below W.heap.size W w') := fun W hb => ref_any G cap (hG.new hb) hok hl
  have HK : Hid (∀ W, Below w.heap.size w W → Calls Try.prog 12 #[.agg #[.slice ao G.length cap]] W fun r w' => r = .returned (.int .i64 0) ∧ Below W.heap.size W w') := fun W hb => by have := check_any cap (hG.new hb) (by omega) hok; rw [hz] at this; exact this
  have HC : Hid (∀ W P bo ca, VxAt W P bo G → Calls Try.prog 9 #[.slice bo G.length ca] W fun r w' => r = .returned (.int .i64 0) ∧ Below W.heap.size W w') := fun W P bo ca h => by have := refcheck_any ca h (by omega) hok; rw [hz] at this; exact this
  have HS : Hid (∀ W, Below w.heap.size w W → Calls Try.prog 13 #[.agg #[.slice ao G.length cap]] W fun r w' => r = .returned (.int .i64 (sumE G)) ∧ Below W.heap.size W w') := fun W hb => edges_any cap (hG.new hb) (by omega)
  have HT : Hid (∀ W P bo ca, VxAt W P bo G → Calls Try.prog 14 #[.slice bo G.length ca] W fun r w' => r = .returned (.int .i64 (sumE G)) ∧ Below W.heap.size W w') := fun W P bo ca h => refedges_any ca h (by omega)
  have hgl : (grB G).length ≤ 50000 := by
    have h1 := vxsB_len G hok
    have h2 := numB_len10 (n := G.length) (by omega)
    unfold grB
    rw [List.length_append]
    omega
  have hSz : (str (grB G)).size ≤ 50000 := hgl
  have HL : Hid (G.length ≤ 256) := hlen
  have HES : Hid (∀ v ∈ G, v.es.length ≤ 9223372036854775807) := fun v hv => by have := hrm.2 v hv; omega
  have HRM : Hid (room G ≤ 48640) := hrm.1
  have HO : Hid (∀ v ∈ G, v.ok) := hok
  have HD : Hid (∀ W, Calls Try.prog 15 #[.string (str (grB G))] W fun r w' => ∃ ao cap, r = .returned (.tuple #[.agg #[.slice ao G.length cap], .int .i64 0]) ∧ VxAt w' (fun k => W.heap.size ≤ k) ao G ∧ Below W.heap.size W w') := fun W => decode_good W hok hz (by unfold maxLen; omega)
  have HP : Hid (∀ w1 p, Below w.heap.size w w1 → w.heap.size ≤ p → VxAt w1 (fun k => k ≠ p ∧ (Value.slice none 0 0).ownBlock ≠ some k) ao G) := fun w1 p hb hp => ((wlt hG).new hb).mono (fun k _ hk => ⟨by omega, by simp [Value.ownBlock]⟩)
  have HG : Hid (∀ W, Below w.heap.size w W → VxAt W P ao G) := fun W hb => hG.new hb
  have HY : Hid (∀ W Q bo ca, VxAt W Q bo G → Calls Try.prog 21 #[.slice bo G.length ca] W fun r w' => r = .returned (.string (str (grB G))) ∧ Below W.heap.size W w') := fun W Q bo ca h => refbytes_any G ca h hok hlen hrm.2 hrm.1
  have HSm : Hid (∀ X : ByteArray, X.size ≤ 1 → (str (grB G) ++ X).size ≤ maxLen) := fun X hX => by rw [ByteArray.size_append]; unfold maxLen; omega
  have HRd : Hid (∀ X : ByteArray, rdG (str (grB G) ++ X) 0 0 = (G, (grB G).length, 0)) := fun X => by
    have := rdG_enc (s := str (grB G) ++ X) (G := G) (a := []) (c := X.data.toList) (by rw [ByteArray.data_append]; simp [str_list]) hok hz
    simpa using this
  have HLn : Hid (∀ X : ByteArray, (grB G).length ≤ (str (grB G) ++ X).size) := fun X => by rw [ByteArray.size_append, str_size]; omega
  have HLe : Hid (∀ X : ByteArray, X.size = 1 → ((str (grB G) ++ X).size : Int) - (((grB G).length : Nat) : Int) = 1) := fun X hX => by rw [ByteArray.size_append, str_size, hX]; omega
  clear hG hok hz hrm hlen hgl
  obtain ⟨W0, hW0⟩ : ∃ W0, w.alloc (.cells #[.slice ao G.length cap] 24) = W0 := ⟨_, rfl⟩
  have x0 : W0.cell? ⟨w.heap.size, 0, none⟩ = some (.slice ao G.length cap) := by rw [← hW0]; exact box1 (heap_alloc_new _ _)
  have hB0 : Below w.heap.size w W0 := by rw [← hW0]; exact one_new _ _
  go_enter Try.func3, Try.ntmps3
  go_wp2_with (first
    | (go_at_call 8; refine (HE.out _ hB0).mono ?_; rintro r w1 ⟨rfl, hb1⟩; have x1 := box_below hb1 x0; have hB1 := hB0.trans (hb1.mono hB0.size))
    | (go_at_call 10; refine (HR.out _ hB1).mono ?_; rintro r w2 ⟨bo, c2, rfl, hV2, hb2⟩; have x2 := box_below hb2 x1; have hB2 := hB1.trans (hb2.mono hB1.size))
    | (go_at_call 9; refine (HC.out _ _ _ _ hV2).mono ?_; rintro r w3 ⟨rfl, hb3⟩; have x3 := box_below hb3 x2; have hB3 := hB2.trans (hb3.mono hB2.size)))
  clear x0 x1 x2 hb1 hb2 hb3 hB0 hB1 hB2 hV2
  go_region_held (fun w' => w'.cell? ⟨w.heap.size, 0, none⟩ = some (.slice ao G.length cap)) (first | exact x8 | exact x7 | exact x6 | exact x5 | exact x4 | exact x3 | go_keep)
    (first
    | (go_at_call 11; refine (awake_any _).mono ?_; rintro r w4 ⟨rfl, hb4⟩; have x4 := box_below hb4 x3; have hB4 := hB3.trans ((below_c hb4).mono hB3.size))
    | (go_at_call 12; refine (HK.out _ hB4).mono ?_; rintro r w5 ⟨rfl, hb5⟩; have x5 := box_below hb5 x4; have hB5 := hB4.trans (hb5.mono hB4.size))
    | (go_at_call 13; refine (HS.out _ hB5).mono ?_; rintro r w6 ⟨rfl, hb6⟩; have x6 := box_below hb6 x5; have hB6 := hB5.trans (hb6.mono hB5.size))
    | (go_at_call 10; refine (HR.out _ hB6).mono ?_; rintro r w7 ⟨bp, c7, rfl, hV7, hb7⟩; have x7 := box_below hb7 x6; have hB7 := hB6.trans (hb7.mono hB6.size))
    | (go_at_call 14; refine (HT.out _ _ _ _ hV7).mono ?_; rintro r w8 ⟨rfl, hb8⟩; have x8 := box_below hb8 x7; have hB8 := hB7.trans (hb8.mono hB7.size)))
  all_goals
    clear hb4 hb5 hb6 hb7 hb8 hB3 hB4 hB5 hB6 hB7 x3 x4 x5 x6 x7 hV7
    go_wp2_with (first
      | (go_at_call 15; refine (HD.out _).mono ?_; rintro r w9 ⟨ho, hcap, rfl, hV9, hb9⟩; have x9 := box_below hb9 x8; have hB9 := hB8.trans (hb9.mono hB8.size); have hs9 := hB9.size; have l9 := lt_cell x9)
      | (go_at_call 16; refine (newwriter_any _).mono ?_; rintro r w10 ⟨rfl, hw10, hb10⟩; have hC10 := alloc_then hb10; have y10 := box_below hb10 (box1 (heap_alloc_new _ _)); rw [World.size_alloc] at hw10; have x10 := box_below hC10 x9; have hB10 := hB9.trans (hC10.mono hB9.size); clear hb10)
      | (go_at_call 17; refine (put_any G cap hw10 (HP.out _ _ hB10 (by omega)) HO.out (by have := HL.out; omega) (by have := HRM.out; show 0 + 10 + room G ≤ _; omega)).mono ?_; rintro r w11 ⟨rfl, hT11⟩; obtain ⟨v11, hw11, hf11, hr11⟩ := id hT11; have x11 := hT11.cell (by omega) (by simp [Value.ownBlock]) x10; have y11 := hT11.cell (by omega) (by simp [Value.ownBlock]) y10; have hC11 := WTo.new hC10 hw10 hT11 (by omega) (by omega); have hB11 := hB9.trans (hC11.mono hB9.size); have l11 := lt_cell x11; have m11 := lt_cell y11; have n11 := hw11.lt; have o11 : Hid _ := hw11.olt; have e11 := hC11.size; clear hf11 hr11 hT11)
      | (go_at_call 19; first | (refine (wall_any hw18).mono ?_; rintro r w19 ⟨rfl, rfl⟩) | (refine (wall_any hw11).mono ?_; rintro r w12 ⟨rfl, rfl⟩))
      | (go_at_call 18; refine (newreader_any _ _).mono ?_; rintro r w13 ⟨rfl, hr13, hb13⟩; have x13 := box_below hb13 x11; have y13 := box_below hb13 y11; have hw13 := hw11.kept (Fr.ofBelow hb13 (fun _ => False)) (fun h => h) (fun _ _ h => h); have hC13 := hC11.trans (hb13.mono hC11.size))
      | (go_at_call 20; refine (take_to hr13 (HSm.out _ (by decide)) (Nat.zero_le _) (HRd.out _)).mono ?_; rintro r w14 ⟨ko, kc, rfl, hV14, hr14, hf14⟩; have x14 := fr_cell hf14 (by omega) x13; have y14 := fr_cell hf14 (by omega) y13; have hw14 := hw13.kept hf14 (by omega) (fun k hk => by have := o11.out k hk; omega); have hC14 := hC13.trans (hf14.below (B := w9.heap.size) hC13.size (fun k hk => by omega)); obtain ⟨w15, hW15⟩ : ∃ W, w14.alloc (.cells #[.slice ko G.length kc] 24) = W := ⟨_, rfl⟩; have hb15 : Below w14.heap.size w14 w15 := hW15 ▸ one_new _ _; have z15 : w15.cell? ⟨w14.heap.size, 0, none⟩ = some (.slice ko G.length kc) := hW15 ▸ box1 (heap_alloc_new _ _); have x15 := box_below hb15 x14; have y15 := box_below hb15 y14; have hw15 := hw14.kept (Fr.ofBelow hb15 (fun _ => False)) (fun h => h) (fun _ _ h => h); have hr15 := hr14.below hb15; have hC15 := hC14.trans (hb15.mono hC14.size); have hV15 := hV14.new hb15; have hB15 := hB9.trans (hC15.mono hB9.size); clear x9 x10 x11 x13 x14 y10 y11 y13 y14 hw10 hw13 hw14 hr13 hr14 hB10 hB11 hC10 hC11 hC13 hC14 hf14 hV14 hb13)
      | (go_at_call 10; refine (HR.out _ hB15).mono ?_; rintro r w16 ⟨qo, qc, rfl, hV16, hb16⟩)
      | (go_at_call 21; refine (HY.out _ _ _ _ hV16).mono ?_; rintro r w17 ⟨rfl, hb17⟩; have hD17 := hb16.trans (hb17.mono hb16.size); have x17 := box_below hD17 x15; have y17 := box_below hD17 y15; have z17 := box_below hD17 z15; have hw17 := hw15.kept (Fr.ofBelow hD17 (fun _ => False)) (fun h => h) (fun _ _ h => h); have hr17 := hr15.below hD17; have hC17 := hC15.trans (hD17.mono hC15.size); have hV17 := hV15.new hD17; have hB17 := hB9.trans (hC17.mono hB9.size))
      | (go_at_call 22; first
        | (have := mk18; refine (same_self kc cap hV18 (HG.out _ hB18) (by have := HL.out; omega) HES.out).mono ?_; rintro r w20 ⟨rfl, hb20⟩; have hB20 := hB18.trans (hb20.mono hB18.size); have hr20 := hr18.below hb20; have hL20 := left_any hr20 (HSm.out _ (by decide)) (HLn.out _); rw [HLe.out _ (by decide)] at hL20)
        | (refine (same_self cap hcap (HG.out _ hB17) (hV9.new hC17) (by have := HL.out; omega) HES.out).mono ?_; rintro r w18 ⟨rfl, hb18⟩; have mk18 : Hid True := trivial; have x18 := box_below hb18 x17; have z18 := box_below hb18 z17; have hw18 := hw17.kept (Fr.ofBelow hb18 (fun _ => False)) (fun h => h) (fun _ _ h => h); have hr18 := hr17.below hb18; have hV18 := hV17.new hb18; have hB18 := hB17.trans (hb18.mono hB17.size)))
      | (go_at_call 23; refine hL20.mono ?_; rintro r w21 ⟨rfl, q, hq⟩; have hb21 : Below w20.heap.size w20 w21 := hq ▸ bel_drewN (Below.refl _ _) q; clear hq; have hr21 := hr20.below hb21; have hB21 := hB20.trans (hb21.mono hB20.size))
      | (go_at_call 24; refine (err_any hr21).mono ?_; rintro r w22 ⟨rfl, rfl⟩))
    go_ret
    exact ⟨rfl, hB21⟩
end Go.Proofs.Ytgigopjbaliddaa
