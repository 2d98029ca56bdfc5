/- The walk of cohortlaw03.GraphChecks: it returns true. -/
import Derived.Test.YtgigopjbaliddaaGrAwake
import Derived.Test.YtgigopjbaliddaaGrRef
import Derived.Test.YtgigopjbaliddaaGrRefK
import Derived.Test.YtgigopjbaliddaaGrRB
namespace Go.Proofs.Ytgigopjbaliddaa
open Go.RowKit
theorem same_self {w : World} {P Q : Nat → Prop} {ao bo : Option Addr} {L : List Vx} (ca cb : Nat) (hL : VxAt w P ao L) (hM : VxAt w Q bo L) (hl : L.length ≤ 9223372036854775807) (hok : ∀ v ∈ L, v.es.length ≤ 9223372036854775807) :
    Calls Try.prog 22 #[.agg #[.slice ao L.length ca], .agg #[.slice bo L.length cb]] w fun r w' => r = .returned (.bool true) ∧ Below w.heap.size w w' := by
  have := same_any ca cb hL hM hl hok
  rw [(sameG_iff L L).2 rfl] at this
  exact this
theorem box1 {W : World} {b : Nat} {t : TypeId} {u0 : Value} (h : W.heap[b]? = some (.cells #[u0] t (0, 0))) : W.cell? ⟨b, 0, none⟩ = some u0 := by
  simp [World.cell?, h]
theorem chk_bd (G : List Vx) : 0 ≤ chk G ∧ chk G ≤ 31 := by
  unfold chk
  repeat' split
  all_goals omega
theorem encode_bad {w : World} {P : Nat → Prop} {ao : Option Addr} (G : List Vx) (cap : Nat) (hG : VxAt w P ao G) (hok : ∀ v ∈ G, v.ok) (hl : G.length ≤ 9223372036854775807) (hz : chk G ≠ 0) :
    Calls Try.prog 8 #[.agg #[.slice ao G.length cap]] w fun r w' => r = .returned (.tuple #[.string ByteArray.empty, .int .i64 (chk G)]) ∧ Below w.heap.size w w' := by
  have := encode_any G cap hG hok hl
  rw [if_neg hz] at this
  exact this
theorem encode_good {w : World} {P : Nat → Prop} {ao : Option Addr} (G : List Vx) (cap : Nat) (hG : VxAt w P ao G) (hok : ∀ v ∈ G, v.ok) (hl : G.length ≤ 9223372036854775807) (hz : chk G = 0) :
    Calls Try.prog 8 #[.agg #[.slice ao G.length cap]] w fun r w' => r = .returned (.tuple #[.string (str (grB G)), .int .i64 0]) ∧ Below w.heap.size w w' := by
  have := encode_any G cap hG hok hl
  rw [if_pos hz, hz] at this
  exact this
theorem decode_good {G : List Vx} (w : World) (hok : ∀ v ∈ G, v.ok) (hz : chk G = 0) (hs : (str (grB G)).size ≤ maxLen) :
    Calls Try.prog 15 #[.string (str (grB G))] w fun r w' => ∃ ao cap, r = .returned (.tuple #[.agg #[.slice ao G.length cap], .int .i64 0]) ∧ VxAt w' (fun k => w.heap.size ≤ k) ao G ∧ Below w.heap.size w w' := by
  have := decode_any (str (grB G)) w hs
  rw [dec_enc hok hz] at this
  exact this

set_option maxRecDepth 100000 in
set_option maxHeartbeats 400000 in
theorem law_checks_bad {w : World} {P : Nat → Prop} {ao : Option Addr} (G : List Vx) (cap : Nat) (hG : VxAt w P ao G) (hok : ∀ v ∈ G, v.ok) (hl : G.length * 40 ≤ 140737488355328) (hz : chk G ≠ 0) :
    Calls Try.prog 3 #[.agg #[.slice ao G.length cap]] w fun r w' => r = .returned (.bool true) ∧ Below w.heap.size w w' := by
  obtain ⟨c, hc⟩ : ∃ c, chk G = c := ⟨_, rfl⟩
  have HE : Hid (∀ W, Below w.heap.size w W → Calls Try.prog 8 #[.agg #[.slice ao G.length cap]] W fun r w' => r = .returned (.tuple #[.string ByteArray.empty, .int .i64 c]) ∧ Below W.heap.size W w') := fun W hb => by have := encode_bad G cap (hG.new hb) hok (by omega) hz; rw [hc] at this; exact this
  have HR : Hid (∀ W, Below w.heap.size w W → Calls Try.prog 10 #[.agg #[.slice ao G.length cap]] W fun r w' => ∃ bo c, r = .returned (.slice bo G.length c) ∧ VxAt w' (fun k => W.heap.size ≤ k) bo G ∧ Below W.heap.size W w') := fun W hb => ref_any G cap (hG.new hb) hok hl
  have HK : Hid (∀ W, Below w.heap.size w W → Calls Try.prog 12 #[.agg #[.slice ao G.length cap]] W fun r w' => r = .returned (.int .i64 c) ∧ Below W.heap.size W w') := fun W hb => by have := check_any cap (hG.new hb) (by omega) hok; rw [hc] at this; exact this
  have HC : Hid (∀ W P bo ca, VxAt W P bo G → Calls Try.prog 9 #[.slice bo G.length ca] W fun r w' => r = .returned (.int .i64 c) ∧ Below W.heap.size W w') := fun W P bo ca h => by have := refcheck_any ca h (by omega) hok; rw [hc] at this; exact this
  have HS : Hid (∀ W, Below w.heap.size w W → Calls Try.prog 13 #[.agg #[.slice ao G.length cap]] W fun r w' => r = .returned (.int .i64 (sumE G)) ∧ Below W.heap.size W w') := fun W hb => edges_any cap (hG.new hb) (by omega)
  have HT : Hid (∀ W P bo ca, VxAt W P bo G → Calls Try.prog 14 #[.slice bo G.length ca] W fun r w' => r = .returned (.int .i64 (sumE G)) ∧ Below W.heap.size W w') := fun W P bo ca h => refedges_any ca h (by omega)
  have hc1 : 0 < c := by have := chk_bd G; omega
  have hc2 : c ≤ 31 := by have := chk_bd G; omega
  clear hG hok hz hc
  obtain ⟨W0, hW0⟩ : ∃ W0, w.alloc (.cells #[.slice ao G.length cap] 24) = W0 := ⟨_, rfl⟩
  have x0 : W0.cell? ⟨w.heap.size, 0, none⟩ = some (.slice ao G.length cap) := by rw [← hW0]; exact box1 (heap_alloc_new _ _)
  have hB0 : Below w.heap.size w W0 := by rw [← hW0]; exact one_new _ _
  go_enter Try.func3, Try.ntmps3
  go_wp2_with (first
    | (go_at_call 8; refine (HE.out _ hB0).mono ?_; rintro r w1 ⟨rfl, hb1⟩; have x1 := box_below hb1 x0; have hB1 := hB0.trans (hb1.mono hB0.size))
    | (go_at_call 10; refine (HR.out _ hB1).mono ?_; rintro r w2 ⟨bo, c2, rfl, hV2, hb2⟩; have x2 := box_below hb2 x1; have hB2 := hB1.trans (hb2.mono hB1.size))
    | (go_at_call 9; refine (HC.out _ _ _ _ hV2).mono ?_; rintro r w3 ⟨rfl, hb3⟩; have x3 := box_below hb3 x2; have hB3 := hB2.trans (hb3.mono hB2.size)))
  clear x0 x1 x2 hb1 hb2 hb3 hB0 hB1 hB2 hV2
  go_region_held (fun w' => w'.cell? ⟨w.heap.size, 0, none⟩ = some (.slice ao G.length cap)) (first | exact x8 | exact x7 | exact x6 | exact x5 | exact x4 | exact x3 | go_keep)
    (first
    | (go_at_call 11; refine (awake_any _).mono ?_; rintro r w4 ⟨rfl, hb4⟩; have x4 := box_below hb4 x3; have hB4 := hB3.trans ((below_c hb4).mono hB3.size))
    | (go_at_call 12; refine (HK.out _ hB4).mono ?_; rintro r w5 ⟨rfl, hb5⟩; have x5 := box_below hb5 x4; have hB5 := hB4.trans (hb5.mono hB4.size))
    | (go_at_call 13; refine (HS.out _ hB5).mono ?_; rintro r w6 ⟨rfl, hb6⟩; have x6 := box_below hb6 x5; have hB6 := hB5.trans (hb6.mono hB5.size))
    | (go_at_call 10; refine (HR.out _ hB6).mono ?_; rintro r w7 ⟨bp, c7, rfl, hV7, hb7⟩; have x7 := box_below hb7 x6; have hB7 := hB6.trans (hb7.mono hB6.size))
    | (go_at_call 14; refine (HT.out _ _ _ _ hV7).mono ?_; rintro r w8 ⟨rfl, hb8⟩; have x8 := box_below hb8 x7; have hB8 := hB7.trans (hb8.mono hB7.size)))
  all_goals
    go_wp2
    go_ret
    exact ⟨rfl, hB8⟩
end Go.Proofs.Ytgigopjbaliddaa
