/- Proved: for every text s and place, cohortlaw01.WireFrames returns true, and its arguments read as they did. No condition. -/
import Derived.Test.YthlmohbpedcmfaaRows
import Derived.Test.YthlmohbpedcmfaaAwakeW
import Derived.Test.YthlmohbpedcmfaaFrameMath
import Derived.WalkKit
import Derived.ProofKit
import Derived.OpenShut
import Derived.ShutString
import Derived.ChangeOld
import Derived.Below
import Derived.SizedLaws
namespace Go.Proofs.Ythlmohbpedcmfaa
open Go.RowKit

theorem unframe_all (s : ByteArray) (at' : Int) (hs : s.size ≤ maxLen) : ∃ (x : ByteArray) (n e : Int), ∀ w,
    (Calls Try.prog 18 #[.string s, .int .i64 at'] w fun r w' => r = .returned (.tuple #[.string x, .int .i64 n, .int .i64 e]) ∧ Below w.heap.size w w') ∧
    (Calls Try.prog 19 #[.string s, .int .i64 at'] w fun r w' => r = .returned (.tuple #[.string x, .int .i64 n, .int .i64 e]) ∧ Below w.heap.size w w') := by
  by_cases h : at' < 0 ∨ (s.size : Int) < at'
  · refine ⟨ByteArray.empty, 0, 1, fun w => ⟨(unframe_arg s at' w h hs).mono ?_, (refunframe_arg s at' w h hs).mono ?_⟩⟩
    · rintro r w' ⟨rfl, rfl⟩; exact ⟨rfl, Below.refl _ _⟩
    · rintro r w' ⟨rfl, rfl⟩; exact ⟨rfl, Below.refl _ _⟩
  · obtain ⟨a, rfl⟩ : ∃ a : Nat, at' = a := ⟨at'.toNat, by omega⟩
    exact ⟨(unfr s a).1, (unfr s a).2.1, (unfr s a).2.2, fun w => ⟨unframe_any s a w (by omega) hs, refunframe_any s a w (by omega) hs⟩⟩

set_option maxRecDepth 100000 in
set_option maxHeartbeats 400000 in
theorem law_frames (s : ByteArray) (at' : Int) (w : World) (hs : s.size + 4096 ≤ 140737488355328) (_h0 : -9223372036854775808 ≤ at') (_h1 : at' ≤ 9223372036854775807) :
    Calls Try.prog 4 #[.string s, .int .i64 at'] w fun e w' => e = .returned (.bool true) ∧ Below w.heap.size w w' := by
  have hsm : s.size ≤ maxLen := by unfold maxLen; omega
  obtain ⟨x, n, e, hU⟩ := unframe_all s at' hsm
  have hF := fun w => frame_any s w (by omega)
  have hG := fun w => refframe_any s w (by omega)
  have hfl : (frameB s.data.toList).length ≤ s.size + 14 := by
    have := (textB_len s (by omega)).1
    unfold frameB; rw [List.length_append, crc4]; omega
  obtain ⟨f, Hf⟩ : ∃ f, Hid (str (frameB s.data.toList) = f) := ⟨_, rfl⟩
  have hfs : f.size ≤ s.size + 14 := by rw [← Hf.out]; exact hfl
  have hM : ∀ w, Calls Try.prog 18 #[.string (f ++ { data := #[109, 111, 114, 101] }), .int .i64 0] w fun r w' => r = .returned (.tuple #[.string s, .int .i64 f.size, .int .i64 0]) ∧ Below w.heap.size w w' := by
    intro w
    have e1 : f ++ { data := #[109, 111, 114, 101] } = str (frameB s.data.toList ++ [109, 111, 114, 101]) := by rw [← Hf.out]; exact str_append _ _
    have e2 : (f ++ { data := #[109, 111, 114, 101] } : ByteArray).size ≤ maxLen := by rw [ByteArray.size_append']; unfold maxLen; show f.size + 4 ≤ _; omega
    have := unframe_any (f ++ { data := #[109, 111, 114, 101] }) 0 w (Nat.zero_le _) e2
    rw [e1, unfr_frame s _ (by omega)] at this
    rw [e1]
    have e3 : ((frameB s.data.toList).length : Int) = f.size := by rw [← Hf.out]; rfl
    simp only [e3] at this
    exact this
  simp only [Hf.out] at hF hG
  have HM : Hid _ := hM
  clear hfl hsm
  go_enter Try.func4, Try.ntmps4
  go_wp2_with fail
  refine (hU _).1.mono ?_
  rintro r w1 ⟨rfl, hb1⟩
  go_wp2_with fail
  refine (hU _).2.mono ?_
  rintro r w2 ⟨rfl, hb2⟩
  go_wp2_with fail
  refine (awake_any _).mono ?_
  rintro r w3 ⟨rfl, hb3⟩
  go_wp2_with fail
  refine (hF _).mono ?_
  rintro r w4 ⟨rfl, hb4⟩
  go_wp2_with fail
  refine (hG _).mono ?_
  rintro r w5 ⟨rfl, hb5⟩
  go_wp2_with fail
  refine (hF _).mono ?_
  rintro r w6 ⟨rfl, hb6⟩
  go_wp2_with fail
  refine (hM _).mono ?_
  rintro r w7 ⟨rfl, hb7⟩
  go_wp2_with fail
  refine (hF _).mono ?_
  rintro r w8 ⟨rfl, hb8⟩
  go_wp2
  go_ret
  have c1 := hb1.trans (hb2.mono hb1.size)
  have c2 := c1.trans (hb3.mono c1.size)
  have c3 := c2.trans (hb4.mono c2.size)
  have c4 := c3.trans (hb5.mono c3.size)
  have c5 := c4.trans (hb6.mono c4.size)
  have c6 := c5.trans (hb7.mono c5.size)
  exact ⟨rfl, c6.trans (hb8.mono c6.size)⟩
end Go.Proofs.Ythlmohbpedcmfaa
namespace Go.Proofs.Ythlmohbpedcmfaa.wireFrames
open Go.ChangeShapes Go.WideShapes Go.ChangeAt Go.RowKit
open Go.ChangeMaps (open_string shut_string)
theorem own : ownKnob Try.prog.godebug = none := by kernel_rfl

set_option maxRecDepth 100000 in
theorem lifted (os : Os) (started : os.Started) (H : Type) (enc : TypeId × Value → H) :
    ReturnsInHanded {} Try.checked os 4 .any (Rows.wireFramesSpec.pre6 enc Try.prog Try.f4 Rows.wireFramesRow.domain false) (Rows.wireFramesSpec.post enc Try.prog Try.f4 false true false false) := by
  refine returnsInHanded_of_change_sized (C := Try.checked) own started (by kernel_rfl) Try.func4
    (ChangeSpec.witness6 (enc := enc) (C := Try.checked) false ⟨#[], #[.string ByteArray.empty, .int .i64 0], []⟩ 8 (by kernel_rfl) (by kernel_rfl) (by kernel_rfl) (by kernel_rfl)) ?_
  intro W base args ds gs before hval0 hW hcnd hsz0 _
  have hval : ∀ (j : Nat) t v, Try.f4.params[j]? = some t → args[j]? = some v → Value.okWide Try.prog W .any base t v := hval0
  have hsz : (DataW.weightsEach Try.prog (Try.f4.params.toList ++ Rows.wireFramesSpec.plain.varTypes Try.prog) (ds ++ gs)).all (· ≤ reachBytes) = true := hsz0
  have hW' := hW
  obtain ⟨p, q, hA0, hV, rfl, hfz, hnd⟩ := hW
  have hA : DataW.TrodAll enc Try.prog W 0 (fun _ => true) true Try.f4.params.toList args.toList ds p := hA0
  rw [Try.params4] at hA hval hsz
  obtain ⟨v0, vs0, d0, ds0, p0, q0, hargs, rfl, rfl, h0, r0⟩ := trodAll_cons hA
  obtain ⟨v1, vs1, d1, ds1, p1, q1, rfl, rfl, rfl, h1, r1⟩ := trodAll_cons r0
  obtain ⟨rfl, rfl, rfl⟩ := trodAll_nil r1
  obtain rfl : args = #[v0, v1] := by cases args; simp_all
  obtain ⟨rfl, rfl⟩ := trodVars_none hV
  obtain ⟨a0, rfl, rfl, rfl, w0⟩ := open_string Try.underlying9 (hval 0 9 v0 rfl rfl) h0
  obtain ⟨a1, rfl, rfl, rfl, w1⟩ := open_int Try.underlying3 (hval 1 3 v1 rfl rfl) h1
  clear hA0 hval0
  simp only [List.append_nil] at hW'
  have s0 : a0.data.toList.length ≤ reachBytes := sized_string hsz (j := 0) (t := 9) rfl rfl
  have z0 : a0.size + 4096 ≤ 140737488355328 := by unfold reachBytes at s0; simp at s0; omega
  have b1 := bounds_i64 w1
  refine (law_frames a0 a1 W z0 (by omega) (by omega)).mono fun e W' ⟨he, bel⟩ => ?_
  subst he
  exact ⟨_, rfl, _, _, _, [], [], [], hW', trodAll_mk1 (shut_bool Try.underlying4 _), (trodAll_cons_mk (shut_string Try.underlying9 w0) (trodAll_cons_mk (shut_int Try.underlying3 w1) trodAll_mk0)), rfl, bel.frame _, fun h => by cases h⟩

theorem over : Rows.wireFramesRow.holds Try.pinned (OpenSpec.ofChange Rows.wireFramesSpec) :=
  OpenClaim.holds_of_wide 4 Try.f4 rfl rfl rfl rfl rfl rfl rfl ⟨rfl, rfl, rfl, rfl, rfl⟩ rfl rfl rfl rfl rfl (by kernel_rfl) Try.func4 (by kernel_rfl)
    (of_decide_eq_true (by kernel_rfl)) (by unfold Func.isWrapper; first | (rw [if_pos (by decide +kernel)]; kernel_rfl) | (rw [if_neg (by decide +kernel)]; exact ⟨rfl, rfl⟩))
    (fun os started H enc _ => lifted os started H enc)
end Go.Proofs.Ythlmohbpedcmfaa.wireFrames
namespace Go.Proofs.Ythlmohbpedcmfaa
theorem wireFrames_holds : Rows.WireFramesSaid := wireFrames.over
#print axioms wireFrames_holds
end Go.Proofs.Ythlmohbpedcmfaa
