/- The statement DiskNames, as a call: it returns true. -/
import Derived.Test.YthpojidkmmflhaaDkAw
namespace Go.Proofs.Ythpojidkmmflhaa
open Go.RowKit Go.Maps
attribute [local go_sem] Oper.semAt_some
set_option maxRecDepth 100000 in
set_option maxHeartbeats 1600000 in
theorem diskNames_any (w : World) (s : Bs) (hs : s.length ≤ maxLen) : Calls Try.prog 5 #[.string (str s)] w fun r w' => r = .returned (.bool true) ∧ Below w.heap.size w w' := by
  have HCr : Hid (∀ W, Calls Try.prog 13 #[.pointer none, .int .i64 1, .int .i64 1] W fun r w' => r = .returned (.tuple #[]) ∧ w' = W) := fun W => crash_dead _ _ _ (dead_nil W)
  have HPl : Hid (∀ W, Calls Try.prog 18 #[.pointer none, .slice none 0 0] W fun r w' => r = .returned (.tuple #[]) ∧ Below W.heap.size W w') := fun W => plan_nil W _
  have HRe : Hid (∀ W, Calls Try.prog 16 #[.pointer none, .string (str s)] W fun r w' => r = .returned (.tuple #[.string (str []), .int .i64 7]) ∧ Below W.heap.size W w') := fun W => read_dead _ (fun V _ => dead_nil V)
  have HAw : Hid (∀ W, Calls Try.prog 7 #[] W fun r w' => r = .returned (.bool true) ∧ Below W.heap.size W w') := awake11
  have HN1 : Hid (∀ W, Calls Try.prog 19 #[.string (str s)] W fun r w' => r = .returned (.bool (nameB s)) ∧ w' = W) := fun W => name_any (str s) W hs
  have HN2 : Hid (∀ W, Calls Try.prog 20 #[.string (str s)] W fun r w' => r = .returned (.bool (nameB s)) ∧ w' = W) := fun W => refname_any (str s) W hs
  have HAp : Hid (∀ W, Calls Try.prog 11 #[.pointer none, .string (str s), .string (str s)] W fun r w' => r = .returned (.int .i64 7) ∧ Below W.heap.size W w') := fun W => append_dead _ (fun V _ => dead_nil V)
  have HWr : Hid (∀ W, Calls Try.prog 21 #[.pointer none, .string (str s), .string (str s)] W fun r w' => r = .returned (.int .i64 7) ∧ Below W.heap.size W w') := fun W => write_dead _ (fun V _ => dead_nil V)
  have HMo : Hid (∀ W, Calls Try.prog 22 #[.pointer none, .string (str s), .string (str s)] W fun r w' => r = .returned (.int .i64 7) ∧ Below W.heap.size W w') := fun W => move_dead _ (fun V _ => dead_nil V)
  have HRm : Hid (∀ W, Calls Try.prog 23 #[.pointer none, .string (str s)] W fun r w' => r = .returned (.int .i64 7) ∧ Below W.heap.size W w') := fun W => remove_err _ (by decide) (read_dead _ (fun V _ => dead_nil V))
  have HSy : Hid (∀ W, Calls Try.prog 10 #[.pointer none] W fun r w' => r = .returned (.int .i64 7) ∧ w' = W) := fun W => sync_dead _ (dead_nil W)
  have HDe : Hid (∀ W, Calls Try.prog 24 #[.pointer none] W fun r w' => r = .returned (.bool true) ∧ w' = W) := dead_nil
  have HUp : Hid (∀ W, Calls Try.prog 14 #[.pointer none] W fun r w' => r = .returned (.bool false) ∧ w' = W) := up_nil
  have HNs : Hid (∀ W, Calls Try.prog 17 #[.pointer none] W fun r w' => r = .returned (.slice none 0 0) ∧ w' = W) := fun W => names_dead _ (dead_nil W)
  have HCh : Hid (∀ W, Calls Try.prog 25 #[.pointer none] W fun r w' => r = .returned (.int .i64 0) ∧ w' = W) := changes_nil
  have HLo : Hid (∀ W, Calls Try.prog 26 #[.pointer none] W fun r w' => r = .returned (.int .i64 0) ∧ w' = W) := loose_nil
  have HCl : Hid (∀ W, Calls Try.prog 27 #[.pointer none] W fun r w' => r = .returned (.pointer none) ∧ w' = W) := clone_nil
  generalize nameB s = nb at HN1 HN2
  have hb0 : Below w.heap.size w w := Below.refl _ _
  have HB : Hid (Below w.heap.size w w) := hb0
  clear hb0
  have step : ∀ {W W' : World}, Hid (Below w.heap.size w W) → Below W.heap.size W W' → Hid (Below w.heap.size w W') := fun h k => h.out.trans (k.mono h.out.size)
  go_enter Try.func5, Try.ntmps5
  cases nb <;>
  go_wp2_with (first
    | (go_at_call 13; refine Calls.mono (HCr.out _) ?_; rintro r w1 ⟨rfl, e⟩; rw [e]; clear e)
    | (go_at_call 18; refine Calls.mono (HPl.out _) ?_; rintro r w2 ⟨rfl, hb⟩; replace HB := step HB hb; clear hb)
    | (go_at_call 7; refine Calls.mono (HAw.out _) ?_; rintro r w3 ⟨rfl, hb⟩; replace HB := step HB hb; clear hb)
    | (go_at_call 16; refine Calls.mono (HRe.out _) ?_; rintro r w4 ⟨rfl, hb⟩; replace HB := step HB hb; clear hb)
    | (go_at_call 19; refine Calls.mono (HN1.out _) ?_; rintro r w5 ⟨rfl, e⟩; rw [e]; clear e)
    | (go_at_call 20; refine Calls.mono (HN2.out _) ?_; rintro r w6 ⟨rfl, e⟩; rw [e]; clear e)
    | (go_at_call 11; refine Calls.mono (HAp.out _) ?_; rintro r w7 ⟨rfl, hb⟩; replace HB := step HB hb; clear hb)
    | (go_at_call 21; refine Calls.mono (HWr.out _) ?_; rintro r w8 ⟨rfl, hb⟩; replace HB := step HB hb; clear hb)
    | (go_at_call 22; refine Calls.mono (HMo.out _) ?_; rintro r w9 ⟨rfl, hb⟩; replace HB := step HB hb; clear hb)
    | (go_at_call 23; refine Calls.mono (HRm.out _) ?_; rintro r w10 ⟨rfl, hb⟩; replace HB := step HB hb; clear hb)
    | (go_at_call 10; refine Calls.mono (HSy.out _) ?_; rintro r w11 ⟨rfl, e⟩; rw [e]; clear e)
    | (go_at_call 24; refine Calls.mono (HDe.out _) ?_; rintro r w12 ⟨rfl, e⟩; rw [e]; clear e)
    | (go_at_call 14; refine Calls.mono (HUp.out _) ?_; rintro r w13 ⟨rfl, e⟩; rw [e]; clear e)
    | (go_at_call 17; refine Calls.mono (HNs.out _) ?_; rintro r w14 ⟨rfl, e⟩; rw [e]; clear e)
    | (go_at_call 25; refine Calls.mono (HCh.out _) ?_; rintro r w15 ⟨rfl, e⟩; rw [e]; clear e)
    | (go_at_call 26; refine Calls.mono (HLo.out _) ?_; rintro r w16 ⟨rfl, e⟩; rw [e]; clear e)
    | (go_at_call 27; refine Calls.mono (HCl.out _) ?_; rintro r w17 ⟨rfl, e⟩; rw [e]; clear e))
  all_goals
    go_ret
    exact ⟨rfl, HB.out⟩
theorem diskNames_law (s : ByteArray) (W : World) (hs : s.size ≤ maxLen) : Calls Try.prog 5 #[.string s] W fun r w' => r = .returned (.bool true) ∧ Below W.heap.size W w' := diskNames_any W s.data.toList hs
end Go.Proofs.Ythpojidkmmflhaa
