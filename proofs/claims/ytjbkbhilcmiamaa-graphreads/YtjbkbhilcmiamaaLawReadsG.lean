/- GraphReads: its walk. -/
import Derived.Test.YtjbkbhilcmiamaaGrFDec
import Derived.Test.YtjbkbhilcmiamaaGrRB
import Derived.Test.YtjbkbhilcmiamaaGrRef
import Derived.Test.YtjbkbhilcmiamaaGrAwake
import Derived.Test.YtjbkbhilcmiamaaGrRound
namespace Go.Proofs.Ytjbkbhilcmiamaa
open Go.RowKit
theorem grB_str {s : ByteArray} {G : List Vx} (h : s.data.toList = grB G) : str (grB G) = s := by
  rw [← h]
  rfl
theorem small_of {G : List Vx} (h : chk G = 0) (hok : ∀ v ∈ G, v.ok) : G.length ≤ 256 ∧ (∀ v ∈ G, v.es.length ≤ 2048) ∧ room G ≤ 48640 := by
  refine ⟨?_, (room_ok h hok).2, (room_ok h hok).1⟩
  unfold chk at h
  split at h
  · cases h
  · rename_i hn
    omega
theorem g_box1 {W : World} {b : Nat} {t : TypeId} {u0 : Value} (h : W.heap[b]? = some (.cells #[u0] t (0, 0))) : W.cell? ⟨b, 0, none⟩ = some u0 := by
  simp [World.cell?, h]
set_option maxRecDepth 100000 in
theorem law_greads (s : ByteArray) (w : World) (hs : s.size ≤ maxLen) :
    Calls Try.prog 7 #[.string s] w fun r w' => r = .returned (.bool true) ∧ Below w.heap.size w w' := by
  obtain ⟨⟨G, z⟩, hd⟩ : ∃ q, dec s = q := ⟨_, rfl⟩
  have H1 : Hid (∀ w, Calls Try.prog 25 #[.string s] w fun r w' => ∃ ao cap, r = .returned (.tuple #[.agg #[.slice ao G.length cap], .int .i64 z]) ∧ VxAt w' (fun k => w.heap.size ≤ k) ao G ∧ Below w.heap.size w w') := fun w => by have := decode_any s w hs; rw [hd] at this; exact this
  have H2 : Hid (∀ w, Calls Try.prog 26 #[.string s] w fun r w' => ∃ bo mm c, r = .returned (.tuple #[.slice bo mm c, .int .i64 z]) ∧ (z = 0 → mm = G.length ∧ VxAt w' (fun k => w.heap.size ≤ k) bo G) ∧ Below w.heap.size w w') := fun w => by have := fdecode_any s w hs; rw [hd] at this; exact this
  by_cases hz : z = 0
  · subst hz
    obtain ⟨hB, hC, hO⟩ := dec_only hd
    obtain ⟨hl, hes, hrm⟩ := small_of hC hO
    have HS : Hid _ := grB_str hB
    have HO : Hid (∀ v ∈ G, v.ok) := hO
    have HL : Hid _ := hl
    have HEs : Hid _ := hes
    have HRm : Hid _ := hrm
    have H3 : Hid (∀ w, Calls Try.prog 26 #[.string s] w fun r w' => ∃ bo c, r = .returned (.tuple #[.slice bo G.length c, .int .i64 0]) ∧ VxAt w' (fun k => w.heap.size ≤ k) bo G ∧ Below w.heap.size w w') := fun w => (H2.out w).mono fun r w' h => by
      obtain ⟨bo, mm, c, h1, h2, h3⟩ := h
      obtain ⟨rfl, h5⟩ := h2 rfl
      exact ⟨bo, c, h1, h5, h3⟩
    clear hd hB hC hO hl hes hrm H2
    go_enter Try.func7, Try.ntmps7
    go_wp2_with (first
      | (go_at_call 25; refine (H1.out _).mono ?_; rintro r w1 ⟨ao, cap, rfl, hV1, hb1⟩)
      | (go_at_call 26; refine (H3.out _).mono ?_; rintro r w2 ⟨bo, c, rfl, hV2, hb2⟩; obtain ⟨hg2, lg2⟩ := f_new hb2; have hV12 := VxAt.new (VxAt.new hV1 (one_new _ _)) hb2; have hB2 := hb1.trans ((alloc_then hb2).mono hb1.size))
      | (go_at_call 27; refine (awake_any _).mono ?_; rintro r w3 ⟨rfl, hb3⟩; have hg3 := (hb3.block _ (lt_of_block hg2)).trans hg2; have x3 := g_box1 hg3; have hV13 := VxAt.new hV12 hb3; have hV23 := VxAt.new hV2 hb3; have hB3 := hB2.trans (hb3.mono hB2.size))
      | (go_at_call 29; refine (ref_any G cap hV13 HO.out (by have := HL.out; omega)).mono ?_; rintro r w4 ⟨co, cc, rfl, hV4, hb4⟩; have hV24 := VxAt.new hV23 hb4; have hB4 := hB3.trans (hb4.mono hB3.size))
      | (go_at_call 28; first
        | (have := hB6; refine (refbytes_any G c hV26 HO.out HL.out HEs.out HRm.out).mono ?_; rintro r w7 ⟨rfl, hb7⟩; have hB7 := hB6.trans (hb7.mono hB6.size); rw [HS.out])
        | (have := hB5; refine (refbytes_any G c hV25 HO.out HL.out HEs.out HRm.out).mono ?_; rintro r w6 ⟨rfl, hb6⟩; have hV26 := VxAt.new hV25 hb6; have hB6 := hB5.trans (hb6.mono hB5.size))
        | (refine (refbytes_any G cc hV4 HO.out HL.out HEs.out HRm.out).mono ?_; rintro r w5 ⟨rfl, hb5⟩; have hV25 := VxAt.new hV24 hb5; have hB5 := hB4.trans (hb5.mono hB4.size))))
    go_ret
    exact ⟨rfl, hB7⟩
  · have HD : Hid (G = []) := by
      show _ = _
      unfold dec at hd
      split at hd
      · exact absurd (congrArg Prod.snd hd).symm hz
      · exact (congrArg Prod.fst hd).symm
    obtain rfl : G = [] := HD.out
    have hne : (z != 0) = true := by simpa using hz
    clear hd HD
    go_enter Try.func7, Try.ntmps7
    go_wp2_with (first
      | (go_at_call 25; refine (H1.out _).mono ?_; rintro r w1 ⟨ao, cap, rfl, hV1, hb1⟩)
      | (go_at_call 26; refine (H2.out _).mono ?_; rintro r w2 ⟨bo, mm, c, rfl, hV2, hb2⟩; obtain ⟨hg2, lg2⟩ := f_new hb2; have hB2 := hb1.trans ((alloc_then hb2).mono hb1.size))
      | (go_at_call 27; refine (awake_any _).mono ?_; rintro r w3 ⟨rfl, hb3⟩; have hg3 := (hb3.block _ (lt_of_block hg2)).trans hg2; have x3 := g_box1 hg3; have hB3 := hB2.trans (hb3.mono hB2.size)))
    go_ret
    exact ⟨rfl, hB3⟩
end Go.Proofs.Ytjbkbhilcmiamaa
