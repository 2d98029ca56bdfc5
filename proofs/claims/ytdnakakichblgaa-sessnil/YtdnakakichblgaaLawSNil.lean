/- SessNil: a nil table, nothing to be done, and any bytes. -/
import Derived.Test.YtdnakakichblgaaSsAw
import Derived.Test.YtdnakakichblgaaSsTake
namespace Go.Proofs.Ytdnakakichblgaa
open Go.RowKit
attribute [local go_sem] Oper.semAt_some
set_option maxRecDepth 100000 in
set_option maxHeartbeats 4000000 in
theorem law_snil (w : World) (k n : Int) (s : ByteArray) (hs : s.size ≤ maxLen) : Calls Try.prog 4 #[.int .i64 k, .int .i64 n, .string s] w fun r w' => r = .returned (.bool true) ∧ Below w.heap.size w w' := by
  have HS : Hid (s.size ≤ maxLen) := hs
  clear hs
  have hN := snew w w.heap.size (Nat.le_refl _)
  go_enter Try.func4, Try.ntmps4
  go_upto_region 5 with (first
    | (go_at_call 9; refine (slook_nil _ _ _).mono ?_; rintro r w ⟨rfl, rfl⟩)
    | (go_at_call 10; refine (sdo_nil _ _ _ _).mono ?_; rintro r w ⟨rfl, rfl⟩)
    | (go_at_call 6; refine hN.mono ?_; rintro r w1 ⟨rfl, hT1, hb1⟩))
  have HB1 : Hid (Below w.heap.size w w1) := hb1
  have HT1 : Hid (TA w1 w.heap.size w.heap.size (.slice none 0 0) []) := hT1
  have hD := sdo_none hT1 Tab.nil (k := k) (n := 1) (by decide) (fresh_none k)
  clear hN hb1 hT1
  obtain ⟨p, hp⟩ : ∃ p, w.heap.size = p := ⟨_, rfl⟩
  have HPe : Hid (w.heap.size = p) := hp
  have HT1 : Hid (TA w1 p p (.slice none 0 0) []) := by rw [← hp]; exact HT1.out
  rw [hp] at hD ⊢
  clear hp
  go_upto_region 6 with (go_at_call 10; refine hD.mono ?_; rintro r w2 ⟨rfl, hb2⟩)
  have HT2 : Hid (TA w2 p p (.slice none 0 0) []) := HT1.out.new hb2
  have HB2 : Hid (Below w.heap.size w w2) := HB1.out.trans (hb2.mono HB1.out.size)
  clear hb2 hD HT1 HB1
  go_upto_region 7 with (go_at_call 14; refine (newwriter_any _).mono ?_; rintro r w3 ⟨rfl, hW3, hb3⟩)
  have HT3 : Hid (TA w3 p p (.slice none 0 0) []) := HT2.out.new hb3
  have HB3 : Hid (Below w.heap.size w w3) := HB2.out.trans (hb3.mono HB2.out.size)
  have HW3 : Hid (Wr w3 (w2.heap.size + 1) w2.heap.size (.slice none 0 0) []) := hW3
  have HX2 : Hid (w.heap.size ≤ w2.heap.size) := HB2.out.size
  clear hb3 hW3 HT2 HB2
  obtain ⟨pw, hpw⟩ : ∃ pw, w2.heap.size = pw := ⟨_, rfl⟩
  rw [hpw] at HW3 HX2 ⊢
  clear hpw
  have hPu := sput_nil HW3.out (by decide)
  go_upto_region 8 with (go_at_call 15; refine hPu.mono ?_; rintro r w4 ⟨rfl, hT4⟩)
  have HT4 : Hid (TA w4 p p (.slice none 0 0) []) := HT3.out.wrote HW3.out hT4
  obtain ⟨v4, hW4, hF4, hR4⟩ := hT4
  have HW4 : Hid (Wr w4 (pw + 1) pw v4 [0]) := hW4
  have HB4 : Hid (Below w.heap.size w w4) := HB3.out.trans (hF4.below HB3.out.size (fun k hk => by
    have := HX2.out
    rcases hk with hk | hk
    · omega
    · cases hk))
  clear hW4 hF4 hR4 hPu HT3 HB3 HW3 HX2
  have hA := awake15 w4
  go_upto_region 10 with (first
    | (go_at_call 7; refine hA.mono ?_; rintro r w5 ⟨rfl, hb5⟩; have HT5 : Hid (TA w5 p p (.slice none 0 0) []) := HT4.out.new hb5; have HW5 : Hid (Wr w5 (pw + 1) pw v4 [0]) := HW4.out.kept (Fr.ofBelow hb5 (fun _ => False)) (fun h => h) (fun _ _ h => h); have HB5 : Hid (Below w.heap.size w w5) := HB4.out.trans (hb5.mono HB4.out.size); clear hb5)
    | (go_at_call 19; refine (sseq_nil _ _).mono ?_; rintro r w5 ⟨rfl, rfl⟩)
    | (go_at_call 22; refine (wall_any HW5.out).mono ?_; rintro r w5 ⟨rfl, rfl⟩; simp only [str])
    | (go_at_call 13; first | (refine (slen_nil _).mono ?_; rintro r w5 ⟨rfl, rfl⟩) | (refine (slen HT5.out).mono ?_; rintro r w5 ⟨rfl, rfl⟩)))
  have HS2 := HS.out
  go_upto_region 11 with (go_at_call 20; refine (newreader_any s _).mono ?_; rintro r w6 ⟨rfl, hr6, hb6⟩)
  have HB6 : Hid (Below w.heap.size w w6) := HB5.out.trans (hb6.mono HB5.out.size)
  have HX5 : Hid (w.heap.size ≤ w5.heap.size) := HB5.out.size
  have hT := stake hr6 HS.out (Nat.zero_le _)
  obtain ⟨R, hR⟩ : ∃ R, rdTab s 0 0 = R := ⟨_, rfl⟩
  have hRl : R.1.length ≤ 64 := by
    rw [← hR]
    unfold rdTab
    rw [rdReqs_len]
    have := (rdCount_to (s := s) (a := 0) (e := 0) (most := 64) (Nat.zero_le _) (show rdCount s 0 0 64 = ((rdCount s 0 0 64).1, (rdCount s 0 0 64).2.1, (rdCount s 0 0 64).2.2) from rfl)).2.1
    simpa using this
  rw [hR] at hT
  have HRl : Hid (R.1.length ≤ 64) := hRl
  obtain ⟨L, a', e'⟩ := R
  simp only at hT HRl
  clear hr6 hb6 hR hRl
  generalize w5.heap.size = pr at hT HX5 ⊢
  by_cases he : e' = 0
  · subst he
    rw [if_pos rfl] at hT
    have hLl : (L.length : Int) ≤ 64 := by have := HRl.out; omega
    go_wp2_with (first
      | (go_at_call 21; refine hT.mono ?_; rintro r w7 ⟨rfl, hr7, ⟨v7, ht7⟩, hf7⟩)
      | (go_at_call 25; refine (err_any hr7).mono ?_; rintro r w7 ⟨rfl, rfl⟩)
      | (go_at_call 13; refine (slen ht7).mono ?_; rintro r w7 ⟨rfl, rfl⟩))
    go_ret
    refine ⟨by simp, ?_⟩
    have := HX5.out
    exact HB6.out.trans (hf7.below HB6.out.size (fun k hk => by omega))
  · rw [if_neg he] at hT
    have he' : (e' != 0) = true := by simpa using he
    go_wp2_with (first
      | (go_at_call 21; refine hT.mono ?_; rintro r w7 ⟨rfl, hr7, ⟨v7, ht7⟩, hf7⟩)
      | (go_at_call 25; refine (err_any hr7).mono ?_; rintro r w7 ⟨rfl, rfl⟩))
    all_goals
      go_ret
      refine ⟨rfl, ?_⟩
      have := HX5.out
      exact HB6.out.trans (hf7.below HB6.out.size (fun k hk => by omega))
end Go.Proofs.Ytdnakakichblgaa
