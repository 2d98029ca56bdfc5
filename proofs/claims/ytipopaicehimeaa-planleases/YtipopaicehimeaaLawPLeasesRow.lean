/- Proved: for every number of ticks, every list of acts and every tick, cohortlaw16.PlanLeases returns true, and its arguments read as they did. No condition. -/
import Derived.Test.YtipopaicehimeaaRows
import Derived.Test.YtipopaicehimeaaLawPLeases
import Derived.Test.YtipopaicehimeaaGnOpen
import Derived.ShutString
import Derived.ChangeOld
namespace Go.Proofs.Ytipopaicehimeaa
open Go.RowKit Go.Deep Go.Joins Go.ChangeShapes
theorem pl_cellsI : Try.prog.cellsOf 3 = 1 := by kernel_rfl
theorem pl_cellsA : Try.prog.cellsOf 36 = 4 := by kernel_rfl
theorem pl_bytesA : Try.prog.bytesOf 36 = 32 := by kernel_rfl
theorem pl_four {α : Type} {l : List α} (h : l.length = 4) : ∃ a b c d, l = [a, b, c, d] := by
  match l, h with
  | [a, b, c, d], _ => exact ⟨a, b, c, d, rfl⟩
theorem open_ac {H : Type} {en : TypeId × Value → H} {w : World} {base : Nat} {spare : Nat → Bool} {held : Bool} (n : Nat) (cs : List Value) (x : DataW H × List MemPlace) (h : DataW.trod en Try.prog w base spare held n 36 cs = some x) : ∃ y : Ac, cs = ae y ∧ y.ok := by
  obtain ⟨y0, y1, y2, y3, m, rfl, hl, f0, f1, f2, f3⟩ := trod_struct4 Try.underlying36 h
  rw [pl_cellsA] at hl
  obtain ⟨x0, x1, x2, x3, rfl⟩ := pl_four hl
  simp only [pl_cellsI, List.drop, List.take] at f0 f1 f2 f3
  obtain ⟨a, e0, _, wa⟩ := DataW.trod_int Try.underlying3 f0
  obtain ⟨b, e1, _, wb⟩ := DataW.trod_int Try.underlying3 f1
  obtain ⟨c, e2, _, wc⟩ := DataW.trod_int Try.underlying3 f2
  obtain ⟨d, e3, _, wd⟩ := DataW.trod_int Try.underlying3 f3
  simp only [List.cons.injEq, and_true] at e0 e1 e2 e3
  subst e0 e1 e2 e3
  exact ⟨⟨a, b, c, d⟩, rfl, bounds_i64 wb, bounds_i64 wc, bounds_i64 wd⟩
end Go.Proofs.Ytipopaicehimeaa
namespace Go.Proofs.Ytipopaicehimeaa.planLeases
open Go.ChangeShapes Go.WideShapes Go.ChangeAt Go.RowKit
theorem own : ownKnob Try.prog.godebug = none := by kernel_rfl
theorem laidOut : laidOutB Try.prog = true := by kernel_rfl

set_option maxRecDepth 100000 in
theorem lifted (os : Os) (started : os.Started) (H : Type) (enc : TypeId × Value → H) :
    ReturnsInHanded {} Try.checked os 4 .any (Rows.planLeasesSpec.pre6 enc Try.prog Try.f4 Rows.planLeasesRow.domain false) (Rows.planLeasesSpec.post enc Try.prog Try.f4 false true false false) := by
  refine returnsInHanded_of_change_sized (C := Try.checked) own started (by kernel_rfl) Try.func4
    (ChangeSpec.witness6 (enc := enc) (C := Try.checked) false ⟨#[], #[.int .i64 0, .slice none 0 0, .int .i64 0], []⟩ 8 (by kernel_rfl) (by kernel_rfl) (by kernel_rfl) (by kernel_rfl)) ?_
  intro W base args ds gs before hval0 hW hcnd hsz0 _
  have hval : ∀ (j : Nat) t v, Try.f4.params[j]? = some t → args[j]? = some v → Value.okWide Try.prog W .any base t v := hval0
  have hsz : (DataW.weightsEach Try.prog (Try.f4.params.toList ++ Rows.planLeasesSpec.plain.varTypes Try.prog) (ds ++ gs)).all (· ≤ reachBytes) = true := hsz0
  have hW' := hW
  obtain ⟨p, q, hA0, hV, rfl, hfz, hnd⟩ := hW
  have hA : DataW.TrodAll enc Try.prog W 0 (fun _ => true) true Try.f4.params.toList args.toList ds p := hA0
  rw [Try.params4] at hA hval hsz
  obtain ⟨v2, vs2, d2, ds2, p2, q2, hargs, rfl, rfl, h2, r2⟩ := trodAll_cons hA
  obtain ⟨v3, vs3, d3, ds3, p3, q3, rfl, rfl, rfl, h3, r3⟩ := trodAll_cons r2
  obtain ⟨v4, vs4, d4, ds4, p4, q4, rfl, rfl, rfl, h4, r4⟩ := trodAll_cons r3
  obtain ⟨rfl, rfl, rfl⟩ := trodAll_nil r4
  obtain rfl : args = #[v2, v3, v4] := by cases args; simp_all
  obtain ⟨rfl, rfl⟩ := trodVars_none hV
  obtain ⟨a0, rfl, rfl, rfl, w0⟩ := open_int Try.underlying3 (hval 0 3 v2 rfl rfl) h2
  obtain ⟨a3, len3, cap3, rfl⟩ := okWide_slice Try.underlying29 (hval 1 29 v3 rfl rfl)
  obtain ⟨a4, rfl, rfl, rfl, w4⟩ := open_int Try.underlying3 (hval 2 3 v4 rfl rfl) h4
  have k3 := h3
  have lt3 : ∀ x ∈ p3, x.block < W.heap.size := by obtain ⟨m, hm⟩ := k3; exact DataW.trod_lt m _ _ _ hm
  clear hA0 hval0 hsz0
  have key : Calls Try.prog 4 #[.int .i64 a0, .slice a3 len3 cap3, .int .i64 a4] W fun e w' => e = .returned (.bool true) ∧ Below W.heap.size W w' := by
    obtain ⟨fuel3, hf3⟩ := h3
    haveI : Inhabited Ac := ⟨⟨0, 0, 0, 0⟩⟩
    obtain ⟨v, L, hcs, hL, ho, hl⟩ := open_gs Try.underlying29 pl_cellsA pl_bytesA ae_len (by decide) (P := Ac.ok) open_ac hf3 (fun m hm => of_decide_eq_true (List.all_eq_true.1 hsz m (DataW.weights_mem_each (j := 1) (t := 29) rfl rfl m hm)))
    obtain rfl : Value.slice a3 len3 cap3 = v := by simpa [Value.cells] using hcs
    exact law_pleases a0 a4 hL ho (bounds_i64 w4) (by omega)
  refine key.mono fun e W' ⟨he, bel⟩ => ?_
  subst he
  exact ⟨_, rfl, _, _, _, [], _, [], hW', trodAll_mk1 (shut_bool Try.underlying4 _), (trodAll_cons_mk (shut_int Try.underlying3 w0) (trodAll_cons_mk (Below.trod laidOut (by kernel_rfl) (of_decide_eq_true (by kernel_rfl)) k3 bel lt3) (trodAll_cons_mk (shut_int Try.underlying3 w4) trodAll_mk0))), rfl, bel.frame _, fun h => by cases h⟩

theorem over : Rows.planLeasesRow.holds Try.pinned (OpenSpec.ofChange Rows.planLeasesSpec) :=
  OpenClaim.holds_of_wide 4 Try.f4 rfl rfl rfl rfl rfl rfl rfl ⟨rfl, rfl, rfl, rfl, rfl⟩ rfl rfl rfl rfl rfl (by kernel_rfl) Try.func4 (by kernel_rfl)
    (of_decide_eq_true (by kernel_rfl)) (by unfold Func.isWrapper; first | (rw [if_pos (by decide +kernel)]; kernel_rfl) | (rw [if_neg (by decide +kernel)]; exact ⟨rfl, rfl⟩))
    (fun os started H enc _ => lifted os started H enc)
end Go.Proofs.Ytipopaicehimeaa.planLeases
namespace Go.Proofs.Ytipopaicehimeaa
theorem planLeases_holds : Rows.PlanLeasesSaid := planLeases.over
#print axioms planLeases_holds
end Go.Proofs.Ytipopaicehimeaa
