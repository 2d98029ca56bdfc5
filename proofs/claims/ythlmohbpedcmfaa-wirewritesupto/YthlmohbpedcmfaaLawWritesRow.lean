/- Proved: for every list of acts of bulk at most 1048576, cohortlaw01.WireWrites returns true, and its argument reads as it did. -/
import Derived.Test.YthlmohbpedcmfaaRows
import Derived.Test.YthlmohbpedcmfaaLawWrites
import Derived.ShutString
import Derived.ChangeOld
namespace Go.Proofs.Ythlmohbpedcmfaa
open Go.RowKit
set_option maxRecDepth 100000 in
theorem law_writes0 (ao : Option Addr) (cap : Nat) (w : World) :
    Calls Try.prog 6 #[.slice ao 0 cap] w fun e w' => e = .returned (.bool true) ∧ Below w.heap.size w w' := by
  have hz : ((ByteArray.empty).toList == ({ data := #[] } : ByteArray).toList) = true := by simp
  go_enter Try.func6, Try.ntmps6
  go_wp2_with (first
    | (go_at_call 27; refine (newwriter_any _).mono ?_; rintro e w1 ⟨rfl, hw1, hb1⟩)
    | (go_at_call 9; refine (awake_any _).mono ?_; rintro e w2 ⟨rfl, hb2⟩))
  have hb12 : Below w.heap.size w w2 := hb1.trans (hb2.mono hb1.size)
  have hw2 := hw1.kept (Fr.ofBelow hb2 (fun _ => False)) (fun h => h) (fun _ _ h => h)
  go_loopw [4, 5] (fun c i wr => c = .string (str []) ∧ i = .int .i64 0 ∧ Wr wr (w.heap.size + 1) w.heap.size (.slice none 0 0) [] ∧ Below w.heap.size w wr) (fun _ _ _ => 0)
  case atStart => exact ⟨rfl, rfl, hw2, hb12⟩
  case round =>
    obtain ⟨rfl, rfl, hw, hbel⟩ := hrel
    have hpl := hw.lt
    go_wp2_with (first
      | (go_at_call 30; refine (wall_any hw).mono ?_; rintro r w3 ⟨rfl, rfl⟩)
      | (go_at_call 22; refine (newreader_any _ _).mono ?_; rintro r w4 ⟨rfl, hr4, hb4⟩))
    have hw4 := hw.kept (Fr.ofBelow hb4 (fun _ => False)) (fun h => h) (fun _ _ h => h)
    go_loopw [7] (fun i wx => i = .int .i64 0 ∧ Rd wx w3.heap.size (str []) 0 0 ∧ Wr wx (w.heap.size + 1) w.heap.size (.slice none 0 0) [] ∧ Below w.heap.size w wx) (fun _ _ => 0)
    case atStart => exact ⟨rfl, hr4, hw4, hbel.trans (hb4.mono hbel.size)⟩
    case round =>
      obtain ⟨rfl, hr, hwx, hbx⟩ := hrel
      have hEnd := rend_any (a := 0) hr (by show 0 ≤ maxLen; exact Nat.zero_le _) (Nat.zero_le _)
      rw [rdEnd_ge 0 (by show ¬ 0 < 0; omega)] at hEnd
      go_wp2_with (first
        | (go_at_call 30; refine (wall_any hwx).mono ?_; rintro r w5 ⟨rfl, rfl⟩)
        | (go_at_call 36; refine hEnd.mono ?_; rintro r w6 ⟨rfl, hr6, hf6⟩))
      go_ret
      exact ⟨rfl, hbx.trans (hf6.below hbx.size (fun i hi => by omega))⟩
end Go.Proofs.Ythlmohbpedcmfaa
namespace Go.Proofs.Ythlmohbpedcmfaa.wireWrites
open Go.ChangeShapes Go.WideShapes Go.ChangeAt Go.RowKit
theorem own : ownKnob Try.prog.godebug = none := by kernel_rfl
theorem laidOut : laidOutB Try.prog = true := by kernel_rfl
theorem bulk_act {H : Type} (y : ActV) : Rows.uptoBulk (y.data (H := H)) = y.t.size + 5 := by
  unfold ActV.data
  simp [Rows.uptoBulk, Rows.uptoBulkAll]
  omega
theorem bulk_room {H : Type} (L : List ActV) : roomL L ≤ 2 * Rows.uptoBulkAll (L.map (ActV.data (H := H))) := by
  induction L with
  | nil => simp [roomL]
  | cons y L ih =>
    unfold roomL at *
    simp only [List.map_cons, List.sum_cons, Rows.uptoBulkAll, bulk_act]
    omega
set_option maxRecDepth 100000 in
theorem small {H : Type} {L : List ActV} {sp : List (DataW H)} (hk : Rows.uptoSmall H [.slice (L.map ActV.data) sp] = true) : roomL L ≤ 2097152 := by
  have h := of_decide_eq_true hk
  simp only [Rows.uptoBulkAll, Rows.uptoBulk] at h
  have := bulk_room (H := H) L
  omega

theorem contract (H : Type) (enc : TypeId × Value → H) (W : World) (base : Nat) (args : Array Value) (ds gs : List (DataW H)) (before : List MemPlace)
    (hval : ∀ (j : Nat) t v, Try.f6.params[j]? = some t → args[j]? = some v → Value.okWide Try.prog W .any base t v)
    (hW : DataW.Whole enc Try.prog Try.f6.params.toList Rows.wireWritesSpec.vars false W args.toList ds gs before) (hk : Rows.uptoSmall H (ds ++ gs) = true) :
    Calls Try.prog 6 args W fun e W' => ∃ v, e = .returned v ∧ Rows.wireWritesSpec.post enc Try.prog Try.f6 false true false false W args v W' := by
  have hW' := hW
  obtain ⟨p, q, hA0, hV, rfl, hfz, hnd⟩ := hW
  have hA : DataW.TrodAll enc Try.prog W 0 (fun _ => true) true Try.f6.params.toList args.toList ds p := hA0
  rw [Try.params6] at hA hval
  obtain ⟨v0, vs0, d0, ds0, p0, q0, hargs, rfl, rfl, h0, r0⟩ := trodAll_cons hA
  obtain ⟨rfl, rfl, rfl⟩ := trodAll_nil r0
  obtain rfl : args = #[v0] := by cases args; simp_all
  obtain ⟨rfl, rfl⟩ := trodVars_none hV
  obtain ⟨a1, len1, cap1, rfl⟩ := okWide_slice Try.underlying37 (hval 0 37 v0 rfl rfl)
  have k0 := h0
  have lt0 : ∀ x ∈ p0, x.block < W.heap.size := by obtain ⟨m, hm⟩ := k0; exact DataW.trod_lt m _ _ _ hm
  clear hA0
  simp only [List.append_nil] at hk
  have key : Calls Try.prog 6 #[.slice a1 len1 cap1] W fun e w' => e = .returned (.bool true) ∧ Below W.heap.size W w' := by
    obtain ⟨fuel, hf⟩ := h0
    rcases open_acts hf with ⟨hcs, _⟩ | ⟨a, cap, L, sp, hcs, hd, hok, hact⟩
    · simp [Value.cells] at hcs
      obtain ⟨rfl, rfl, rfl⟩ := hcs
      exact law_writes0 none 0 W
    · simp [Value.cells] at hcs
      obtain ⟨rfl, rfl, rfl⟩ := hcs
      by_cases hl : 0 < L.length
      · obtain ⟨b, off, rfl, hmem⟩ := hact hl
        have hd' : d0 = .slice (L.map ActV.data) sp := hd
        rw [hd'] at hk
        have := small hk
        exact law_writes b off _ L W (by omega) hmem hok
      · have : L.length = 0 := by omega
        rw [this]
        exact law_writes0 _ _ W
  refine key.mono fun e W' ⟨he, bel⟩ => ?_
  subst he
  exact ⟨_, rfl, _, _, _, [], _, [], hW', trodAll_mk1 (shut_bool Try.underlying4 _), (trodAll_cons_mk (Below.trod laidOut (by kernel_rfl) (of_decide_eq_true (by kernel_rfl)) k0 bel lt0) trodAll_mk0), rfl, bel.frame _, fun h => by cases h⟩

set_option maxRecDepth 100000 in
theorem lifted (os : Os) (started : os.Started) (H : Type) (enc : TypeId × Value → H) (F : Stop.Interp) :
    ReturnsInHanded {} Try.checked os 6 .any ((Rows.OpenSpec.upto Rows.wireWritesSpec).pre6 enc Try.prog Try.f6 Rows.wireWritesUptoRow.domain false) (((Rows.OpenSpec.upto Rows.wireWritesSpec).at F).post enc Try.prog Try.f6 false true false false) := by
  refine returnsInHanded_of_cond (C := Try.checked) (s := Rows.OpenSpec.upto Rows.wireWritesSpec) (k := Rows.uptoSmall) rfl own started (by kernel_rfl) Try.func6
    (OpenSpec.witness (enc := enc) (C := Try.checked) (s := Rows.OpenSpec.upto Rows.wireWritesSpec) (k := Rows.uptoSmall) rfl false ⟨#[], #[.slice none 0 0], []⟩ 8 (by kernel_rfl) (by kernel_rfl) (by kernel_rfl)
      (x := ([.nil], [], [])) (by kernel_rfl) rfl (by kernel_rfl)) ?_
  intro W base args ds gs before hval hW _ hk _
  exact contract H enc W base args ds gs before hval hW hk

theorem over : Rows.WireWritesUptoSaid :=
  OpenClaim.holds_of_cond 6 Try.f6 rfl rfl rfl rfl rfl rfl rfl ⟨rfl, rfl, rfl, rfl, rfl⟩ rfl rfl rfl rfl rfl (by kernel_rfl) Try.func6 (by kernel_rfl)
    (of_decide_eq_true (by kernel_rfl)) (by unfold Func.isWrapper; first | (rw [if_pos (by decide +kernel)]; kernel_rfl) | (rw [if_neg (by decide +kernel)]; exact ⟨rfl, rfl⟩))
    (fun os started H enc _ F => lifted os started H enc F)
end Go.Proofs.Ythlmohbpedcmfaa.wireWrites
namespace Go.Proofs.Ythlmohbpedcmfaa
theorem wireWritesUpto_holds : Rows.WireWritesUptoSaid := wireWrites.over
#print axioms wireWritesUpto_holds
end Go.Proofs.Ythlmohbpedcmfaa
