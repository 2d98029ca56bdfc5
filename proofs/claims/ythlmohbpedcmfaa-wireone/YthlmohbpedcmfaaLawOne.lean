/- Proved: for every text s, cohortlaw01.WireOne returns true, and its argument reads as it did. No condition. -/
import Derived.Test.YthlmohbpedcmfaaRows
import Derived.Test.YthlmohbpedcmfaaAwakeW
import Derived.Test.YthlmohbpedcmfaaFrameMath
import Derived.WalkKit
import Derived.ProofKit
import Derived.OpenShut
import Derived.ShutString
import Derived.ChangeOld
import Derived.Below
import Derived.SizedLaws
import Derived.Deep.DeepCutAuto
namespace Go.Proofs.Ythlmohbpedcmfaa
open Go.RowKit
theorem rnumber_eq {w : World} {p : Nat} {s : ByteArray} {a n a' : Nat} {e e' : Int} (h : Rd w p s a e) (hs : s.size ≤ maxLen) (ha : a ≤ s.size) (hq : rdNum s a e = (n, a', e')) :
    Calls Try.prog 32 #[.pointer (some ⟨p, 0, none⟩)] w fun r w' => r = .returned (.int .u64 n) ∧ Rd w' p s a' e' ∧ Fr w w' (fun k => k = p) := by
  have := rnumber_any h hs ha; rw [hq] at this; exact this

theorem Rd.belowd {w w' : World} {p : Nat} {s : ByteArray} {a e : Int} (h : Rd w p s a e) (b : Below w.drew.heap.size w.drew w') : Rd w' p s a e := (b.block p h.lt).trans h

set_option maxRecDepth 100000 in
set_option maxHeartbeats 4000000 in
theorem law_one (s : ByteArray) (w : World) (hs : s.size + 4096 ≤ 140737488355328) :
    Calls Try.prog 8 #[.string s] w fun e w' => e = .returned (.bool true) ∧ Below w.heap.size w w' := by
  have hsm : s.size ≤ maxLen := by unfold maxLen; omega
  obtain ⟨⟨n, a', e'⟩, hq⟩ : ∃ q, rdNum s 0 0 = q := ⟨_, rfl⟩
  have HQ : Hid (rdNum s 0 0 = (n, a', e')) := hq
  have HS : Hid (s.size ≤ maxLen) := hsm
  have hU := fun w => unframe_any s 0 w (Nat.zero_le _) hsm
  obtain ⟨⟨x, b, f⟩, hx⟩ : ∃ q, unfr s 0 = q := ⟨_, rfl⟩
  have HX : Hid (unfr s 0 = (x, b, f)) := hx
  simp only [hx] at hU
  have HU : Hid (∀ w, Calls Try.prog 18 #[.string s, .int .i64 0] w fun e w' => e = .returned (.tuple #[.string x, .int .i64 b, .int .i64 f]) ∧ Below w.heap.size w w') := hU
  clear hx hU
  have key : e' = 0 → a' ≤ s.size ∧ a' ≤ 10 ∧ n < 18446744073709551616 ∧ ((s.extract 0 a').toList == (str (numB n)).toList) = true := by
    rintro rfl
    rcases three s 0 (Nat.zero_le _) with ⟨m, k, hp, h1, h2, h3, h4⟩ | ⟨m, k, x, hp, hx⟩
    · rw [show rdNum s 0 0 = (m, 0 + k, 0) from rd_ok hp] at hq
      simp only [Prod.mk.injEq, Nat.zero_add, and_true] at hq
      obtain ⟨rfl, rfl⟩ := hq
      rw [List.drop_zero] at hp
      refine ⟨by omega, h3, h4, ?_⟩
      rw [ba_toList, ext_list, List.drop_zero, Nat.sub_zero, pnum_only hp, str_toList]; simp
    · rw [show rdNum s 0 0 = (0, 0, (x : Int)) from rd_bad hp hx] at hq
      simp only [Prod.mk.injEq] at hq
      omega
  have KEY : Hid _ := key
  clear key hq hsm
  go_enter Try.func8, Try.ntmps8
  go_wp2_with (first
    | (go_at_call 22; refine (newreader_any _ _).mono ?_; rintro e w1 ⟨rfl, hr1, hb1⟩)
    | (go_at_call 32; refine (rnumber_eq (a := 0) hr1 HS.out (Nat.zero_le _) HQ.out).mono ?_; rintro e w2 ⟨rfl, hr2, hf2⟩))
  have hb2 : Below w.heap.size w w2 := rd_below hb1 hf2
  go_cut [32] (fun c wx => c = .bool false ∧ Below w.heap.size w wx)
  case first =>
    by_cases he : e' = 0
    · subst he
      obtain ⟨hk, hk10, hn, heq⟩ := KEY.out rfl
      have HN : Hid (n < 18446744073709551616) := hn
      have hd10 : decide ((10 : Int) < (a' : Int)) = false := by simp; omega
      clear hn
      first | go_region_with (first | (go_at_call 9; refine (awake_any _).mono ?_; rintro e w3 ⟨rfl, hb3⟩; have hr3 := hr2.belowd hb3) | (go_at_call 24; refine (err_any hr3).mono ?_; rintro e w4 ⟨rfl, rfl⟩) | (go_at_call 25; (first | refine (at_any hr5).mono ?_ | refine (at_any hr3).mono ?_); rintro e w4 ⟨rfl, rfl⟩) | (go_at_call 11; refine (refnumber_any n _ HN.out).mono ?_; rintro e w5 ⟨rfl, hb5⟩; have hr5 := hr3.below hb5)) | skip
      all_goals
        go_wp2_with fail
        go_meet
        exact ⟨rfl, (hb2.drew.trans (hb3.mono hb2.size)).trans (hb5.mono (hb2.drew.trans (hb3.mono hb2.size)).size)⟩
    · have he0 : (e' == 0) = false := by simp; omega
      have hu : undef = Value.tuple #[] := rfl
      first | go_region_with (first | (go_at_call 9; refine (awake_any _).mono ?_; rintro e w3 ⟨rfl, hb3⟩; have hr3 := hr2.belowd hb3) | (go_at_call 24; refine (err_any hr3).mono ?_; rintro e w4 ⟨rfl, rfl⟩)) | skip
      all_goals
        go_wp2_with fail
        go_meet
        exact ⟨rfl, hb2.drew.trans (hb3.mono hb2.size)⟩
  case rest =>
    obtain ⟨rfl, hbx⟩ := hcut
    go_wp2_with (go_at_call 18; refine (HU.out _).mono ?_; rintro e w6 ⟨rfl, hb6⟩)
    have hb7 := hbx.trans (hb6.mono hbx.size)
    by_cases hf : f = 0
    · subst hf
      obtain ⟨hbs, htk⟩ := unfr_only HX.out
      have hxs : x.size + 10 ≤ 140737488355328 := by
        have h1 : (frameB x.data.toList).length ≤ s.size := by rw [← htk]; simp; omega
        have h2 : x.size ≤ (frameB x.data.toList).length := by unfold frameB textB; simp; omega
        omega
      have hG := fun w => refframe_any x w hxs
      have heq : ((s.extract 0 b).toList == (str (frameB x.data.toList)).toList) = true := by
        rw [ba_toList, ext_list, List.drop_zero, Nat.sub_zero, htk, str_toList]; simp
      generalize str (frameB x.data.toList) = g at hG heq
      clear htk
      first | go_region_with (go_at_call 21; refine (hG _).mono ?_; rintro e w8 ⟨rfl, hb8⟩) | skip
      all_goals
        go_wp2
        go_ret
        exact ⟨rfl, hb7.drew.trans (hb8.mono hb7.size)⟩
    · have hf0 : (f == 0) = false := by simp; omega
      have hu : undef = Value.tuple #[] := rfl
      first | go_region_with fail | skip
      all_goals
        go_wp2
        go_ret
        exact ⟨rfl, hb7.drew⟩
end Go.Proofs.Ythlmohbpedcmfaa
