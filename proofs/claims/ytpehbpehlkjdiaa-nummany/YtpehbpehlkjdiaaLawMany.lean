/- Proved: for any list of numbers cohortlaw02.NumMany returns true, and its argument reads as it did. No condition. -/
import Derived.Test.YtpehbpehlkjdiaaRows
import Derived.Test.YtpehbpehlkjdiaaNmMany
import Derived.WalkKit
import Derived.ProofKit
import Derived.OpenShut
import Derived.ShutString
import Derived.ChangeOld
import Derived.Below
import Derived.ChangeSlices
namespace Go.Proofs.Ytpehbpehlkjdiaa.numMany
open Go.ChangeShapes Go.WideShapes Go.ChangeAt Go.RowKit
theorem own : ownKnob Try.prog.godebug = none := by kernel_rfl
theorem laidOut : laidOutB Try.prog = true := by kernel_rfl

set_option maxRecDepth 100000 in
theorem lifted (os : Os) (started : os.Started) (H : Type) (enc : TypeId × Value → H) :
    ReturnsInHanded {} Try.checked os 5 .any (Rows.numManySpec.pre6 enc Try.prog Try.f5 Rows.numManyRow.domain false) (Rows.numManySpec.post enc Try.prog Try.f5 false true false false) := by
  refine returnsInHanded_of_change (C := Try.checked) own started (by kernel_rfl) Try.func5
    (ChangeSpec.witness6 (enc := enc) (C := Try.checked) false ⟨#[], #[.slice none 0 0], []⟩ 8 (by kernel_rfl) (by kernel_rfl) (by kernel_rfl) (by kernel_rfl)) ?_
  intro W base args ds gs before hval0 hW hcnd _
  have hval : ∀ (j : Nat) t v, Try.f5.params[j]? = some t → args[j]? = some v → Value.okWide Try.prog W .any base t v := hval0
  have hW' := hW
  obtain ⟨p, q, hA0, hV, rfl, hfz, hnd⟩ := hW
  have hA : DataW.TrodAll enc Try.prog W 0 (fun _ => true) true Try.f5.params.toList args.toList ds p := hA0
  rw [Try.params5] at hA hval
  obtain ⟨v1, vs1, d1, ds1, p1, q1, hargs, rfl, rfl, h1, r1⟩ := trodAll_cons hA
  obtain ⟨rfl, rfl, rfl⟩ := trodAll_nil r1
  obtain rfl : args = #[v1] := by cases args; simp_all
  obtain ⟨rfl, rfl⟩ := trodVars_none hV
  obtain ⟨a1, len1, cap1, rfl⟩ := okWide_slice Try.underlying32 (hval 0 32 v1 rfl rfl)
  have k1 := h1
  have lt1 : ∀ x ∈ p1, x.block < W.heap.size := by obtain ⟨m, hm⟩ := k1; exact DataW.trod_lt m _ _ _ hm
  clear hA0 hval0
  simp only [List.append_nil] at hW'
  have key : Calls Try.prog 5 #[.slice a1 len1 cap1] W fun e w' => e = .returned (.bool true) ∧ Below W.heap.size W w' := by
    obtain ⟨fuel, hf⟩ := h1
    rcases open_ints Try.underlying32 Try.underlying2 (by kernel_rfl) hf with ⟨hcs, hx⟩ | ⟨a, len', cap', zs, hcs, _, hl, hm, hz, hx, hcell, hwz⟩
    · simp [Value.cells] at hcs
      obtain ⟨rfl, rfl, rfl⟩ := hcs
      exact law_many_of none 0 0 0 0 W (sum_zero _ _ W) (refsum_zero _ _ W)
    · simp [Value.cells] at hcs
      obtain ⟨rfl, rfl, rfl⟩ := hcs
      unfold maxLen at hm
      have hlen : len1 ≤ zs.length := by rw [hz]; split <;> omega
      have e : (zs.take len1).length = len1 := by rw [List.length_take]; omega
      have hg : ∀ i, i < (zs.take len1).length → (zs.take len1).getD i 0 = zs.getD i 0 := by
        intro i hi
        rw [e] at hi
        simp [List.getD, hi]
      have hc : ∀ i, i < (zs.take len1).length → W.cell? (a.add i) = some (.int .i64 ((zs.take len1).getD i 0)) := by
        intro i hi
        rw [hg i hi]
        exact hcell i (by omega)
      have hI : ∀ i, i < (zs.take len1).length → I64 ((zs.take len1).getD i 0) := by
        intro i hi
        rw [hg i hi]
        have hi' : i < zs.length := by omega
        have := bounds_i64 (hwz (zs.getD i 0) (by simp [List.getD, hi']))
        exact ⟨by omega, by omega⟩
      have := law_many_of (some a) (zs.take len1).length cap1 _ _ W (sum_any a cap1 (zs.take len1) W (by omega) hc hI) (refsum_any a cap1 (zs.take len1) W (by omega) hc hI)
      rw [e] at this
      exact this
  refine key.mono fun e W' ⟨he, bel⟩ => ?_
  subst he
  exact ⟨_, rfl, _, _, _, [], _, [], hW', trodAll_mk1 (shut_bool Try.underlying4 _), (trodAll_cons_mk (Below.trod laidOut (by kernel_rfl) (of_decide_eq_true (by kernel_rfl)) k1 bel lt1) trodAll_mk0), rfl, bel.frame _, fun h => by cases h⟩

theorem over : Rows.numManyRow.holds Try.pinned (OpenSpec.ofChange Rows.numManySpec) :=
  OpenClaim.holds_of_wide 5 Try.f5 rfl rfl rfl rfl rfl rfl rfl ⟨rfl, rfl, rfl, rfl, rfl⟩ rfl rfl rfl rfl rfl (by kernel_rfl) Try.func5 (by kernel_rfl)
    (of_decide_eq_true (by kernel_rfl)) (by unfold Func.isWrapper; first | (rw [if_pos (by decide +kernel)]; kernel_rfl) | (rw [if_neg (by decide +kernel)]; exact ⟨rfl, rfl⟩))
    (fun os started H enc _ => lifted os started H enc)
end Go.Proofs.Ytpehbpehlkjdiaa.numMany
namespace Go.Proofs.Ytpehbpehlkjdiaa
theorem numMany_holds : Rows.NumManySaid := numMany.over
#print axioms numMany_holds
end Go.Proofs.Ytpehbpehlkjdiaa
