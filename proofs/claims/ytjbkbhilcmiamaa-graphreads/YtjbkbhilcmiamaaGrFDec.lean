/- The document's Decode. -/
import Derived.Test.YtjbkbhilcmiamaaGrFTake3
import Derived.Test.YtjbkbhilcmiamaaGrDecode
namespace Go.Proofs.Ytjbkbhilcmiamaa
open Go.RowKit
theorem ftk_to {s : ByteArray} {a x : Nat} {e y : Int} {G : List Vx} (w : World) (hs : s.size ≤ maxLen) (ha : a ≤ s.size) (hq : rdG s a e = (G, x, y)) :
    Calls Try.prog 49 #[.agg #[.string s, .int .i64 a, .int .i64 e]] w fun r w' => ∃ bo mm c, r = .returned (.tuple #[.agg #[.string s, .int .i64 x, .int .i64 y], .slice bo mm c]) ∧ (y = 0 → mm = G.length ∧ VxAt w' (fun k => w.heap.size ≤ k) bo G) ∧ Below w.heap.size w w' := by
  have := ftake_any (e := e) w hs ha; rw [hq] at this; exact this
theorem fen_to {s : ByteArray} {a : Nat} {e z : Int} (w : World) (hz : rdEnd s a e = z) :
    Calls Try.prog 50 #[.agg #[.string s, .int .i64 a, .int .i64 e]] w fun r w' => r = .returned (.agg #[.string s, .int .i64 a, .int .i64 z]) ∧ Below w.heap.size w w' := by
  have := fend_any (s := s) (a := a) (e := e) w; rw [hz] at this; exact this
theorem end_0 {s : ByteArray} {a : Nat} {e : Int} (h : rdEnd s a e = 0) : e = 0 := by
  unfold rdEnd at h
  split at h
  · cases h
  · exact h
set_option maxRecDepth 100000 in
theorem fdecode_any (s : ByteArray) (w : World) (hs : s.size ≤ maxLen) :
    Calls Try.prog 26 #[.string s] w fun r w' => ∃ bo mm c, r = .returned (.tuple #[.slice bo mm c, .int .i64 (dec s).2]) ∧ ((dec s).2 = 0 → mm = (dec s).1.length ∧ VxAt w' (fun k => w.heap.size ≤ k) bo (dec s).1) ∧ Below w.heap.size w w' := by
  obtain ⟨⟨G, x, y⟩, hq⟩ : ∃ q, rdG s 0 0 = q := ⟨_, rfl⟩
  obtain ⟨z, hz⟩ : ∃ z, rdEnd s x y = z := ⟨_, rfl⟩
  have HQ : Hid (rdG s ((0 : Nat)) 0 = (G, x, y)) := hq
  have HZ : Hid _ := hz
  clear hq hz
  by_cases h0 : z = 0
  · subst h0
    have HD : Hid (dec s = (G, 0)) := by
      show _ = _
      unfold dec
      rw [show rdG s 0 0 = (G, x, y) from HQ.out]
      exact if_pos HZ.out
    have HY : Hid (y = 0) := end_0 HZ.out
    go_enter Try.func26, Try.ntmps26
    go_wp2_with (first
      | (go_at_call 49; refine (ftk_to _ hs (Nat.zero_le _) HQ.out).mono ?_; rintro r w1 ⟨bo, mm, c, rfl, hV1, hb1⟩)
      | (go_at_call 50; refine (fen_to _ HZ.out).mono ?_; rintro r w2 ⟨rfl, hb2⟩; obtain ⟨hr2, lr2⟩ := f_new hb2; obtain ⟨p0, p1, p2⟩ := box3 hr2; have p3 := froz (o := 0) hr2; have p4 := froz (o := 1) hr2; have p5 := froz (o := 2) hr2))
    go_ret2
    obtain ⟨hm, hVx⟩ := hV1 HY.out
    subst hm
    rw [HD.out]
    have hb12 : Below w1.heap.size w1 w2 := (one_new w1 _).trans (hb2.mono (by rw [World.size_alloc]; omega))
    have hl2 := hb1.trans (hb12.mono hb1.size)
    have hVy := hVx.mono (Q := fun k => w.heap.size ≤ k ∧ k < w1.heap.size) (fun k hk hp => ⟨hp, hk⟩)
    exact ⟨bo, G.length, c, rfl, fun _ => ⟨rfl, (VxAt.new hVy hb12).kept (fr_r3 _ _ _ _ _) (fun k hk hp => ⟨by have := hp.2; omega, hp.1⟩)⟩, hl2.trans ((fr_r3 _ _ _ _ _).below hl2.size (fun k hk => by have := hb1.size; omega))⟩
  · have HD : Hid (dec s = ([], z)) := by
      show _ = _
      unfold dec
      rw [show rdG s 0 0 = (G, x, y) from HQ.out]
      simp [HZ.out, h0]
    have hne : (z != 0) = true := by simpa using h0
    go_enter Try.func26, Try.ntmps26
    go_wp2_with (first
      | (go_at_call 49; refine (ftk_to _ hs (Nat.zero_le _) HQ.out).mono ?_; rintro r w1 ⟨bo, mm, c, rfl, hV1, hb1⟩)
      | (go_at_call 50; refine (fen_to _ HZ.out).mono ?_; rintro r w2 ⟨rfl, hb2⟩; obtain ⟨hr2, lr2⟩ := f_new hb2; obtain ⟨p0, p1, p2⟩ := box3 hr2; have p3 := froz (o := 0) hr2; have p4 := froz (o := 1) hr2; have p5 := froz (o := 2) hr2))
    go_region
    all_goals
      go_wp2
      go_ret2
      rw [HD.out]
      have hb12 : Below w1.heap.size w1 w2 := (one_new w1 _).trans (hb2.mono (by rw [World.size_alloc]; omega))
      have hl2 := hb1.trans (hb12.mono hb1.size)
      exact ⟨none, 0, 0, rfl, fun h => absurd h h0, (hl2.trans ((fr_r3 _ _ _ _ _).below hl2.size (fun k hk => by have := hb1.size; omega))).drew⟩
end Go.Proofs.Ytjbkbhilcmiamaa
