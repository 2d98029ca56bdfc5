import Derived.Test.YtnhjflebaeokeaaGreatRows
import Derived.Test.YtnhjflebaeokeaaGreatLawRKeepsM
import Derived.ProofKit
import Derived.OpenShut
import Derived.Deep.Slices
import Derived.Deep.Strs
import Derived.Lib.SmallJoins
import Derived.ShutString
import Derived.ChangeOld
import Derived.SizedLaws
/- Proved: for every list of acts, cohortlaw14.RnodeKeeps returns true, and its argument reads as it did. No condition. -/
namespace Go.Proofs.YtnhjflebaeokeaaGreat
open Go.RowKit Go.Deep Go.Joins Go.ChangeShapes
theorem kcI : Tryz.prog.cellsOf 3 = 1 := by kernel_rfl
theorem kcS : Tryz.prog.cellsOf 9 = 1 := by kernel_rfl
theorem kcF : Tryz.prog.cellsOf 31 = 3 := by kernel_rfl
theorem kcA : Tryz.prog.cellsOf 33 = 5 := by kernel_rfl
theorem five_ofK {α : Type} {l : List α} (h : l.length = 5) : ∃ a b c d e, l = [a, b, c, d, e] := by
  match l, h with
  | [a, b, c, d, e], _ => exact ⟨a, b, c, d, e, rfl⟩
section
variable {H : Type} {enc : TypeId × Value → H} {w : World} {base : Nat} {spare : Nat → Bool} {held : Bool}
theorem open_actK {n : Nat} {cs : List Value} {x : DataW H × List MemPlace} (h : DataW.trod enc Tryz.prog w base spare held n 33 cs = some x) :
    ∃ y : AcK, cs = [.int .i64 y.k, .string (str y.s), .int .i64 y.f0, .int .i64 y.f1, .int .i64 y.f2] ∧ y.s.length ≤ 9223372036854775807 := by
  obtain ⟨y0, y1, y2, m, hx, hl, f0, f1, f2⟩ := trod_struct3 Tryz.underlying33 h
  rw [kcA] at hl
  obtain ⟨x0, x1, x2, x3, x4, rfl⟩ := five_ofK hl
  simp only [kcI, kcS, kcF, List.drop, List.take] at f0 f1 f2
  obtain ⟨k, e0, _, wk⟩ := DataW.trod_int Tryz.underlying3 f0
  obtain ⟨s1, e1, g1, hs1⟩ := DataW.trod_string Tryz.underlying9 f1
  obtain ⟨a0, a1, a2, m', hfx, _, h0, h1, h2⟩ := trod_struct3 Tryz.underlying31 f2
  simp only [kcI, List.drop, List.take] at h0 h1 h2
  obtain ⟨b0, d0, _, _⟩ := DataW.trod_int Tryz.underlying3 h0
  obtain ⟨b1, d1, _, _⟩ := DataW.trod_int Tryz.underlying3 h1
  obtain ⟨b2, d2, _, _⟩ := DataW.trod_int Tryz.underlying3 h2
  simp only [List.cons.injEq, and_true] at e0 e1 d0 d1 d2
  subst e0 e1 d0 d1 d2
  refine ⟨⟨k, s1.data.toList, b0, b1, b2⟩, rfl, ?_⟩
  have e : s1.data.toList.length = s1.size := rfl
  show s1.data.toList.length ≤ _
  unfold maxLen at hs1
  omega
theorem open_actsK {n : Nat} {cs : List Value} {x : DataW H × List MemPlace} (h : DataW.trod enc Tryz.prog w base spare held n 22 cs = some x) :
    ∃ (ao : Option Addr) (cap : Nat) (Y : List AcK), cs = [.slice ao Y.length cap] ∧ AcS w (.slice ao Y.length cap) Y ∧ ∀ y ∈ Y, y.s.length ≤ 9223372036854775807 := by
  rcases open_slice Tryz.underlying22 h with ⟨h0, h1⟩ | ⟨a, len, cap, m, k, D, Pl, rfl, hb, hl, hm, hmm, rfl, hx⟩
  · exact ⟨none, 0, [], h0, ⟨none, 0, rfl, fun h => absurd h (by simp)⟩, fun y hy => (by cases hy)⟩
  · have hlm : len ≤ m := by rw [hmm]; split <;> omega
    have each : ∀ i, i < len → ∃ y : AcK, w.cells? base (a.add (i * 5)) 5 = some [.int .i64 y.k, .string (str y.s), .int .i64 y.f0, .int .i64 y.f1, .int .i64 y.f2] ∧ y.s.length ≤ 9223372036854775807 := by
      intro i hi
      obtain ⟨cs', h1, h2⟩ := hx i (by omega)
      rw [kcA] at h1
      obtain ⟨y, rfl, h3⟩ := open_actK h2
      exact ⟨y, h1, h3⟩
    haveI : Inhabited AcK := ⟨⟨0, [], 0, 0, 0⟩⟩
    obtain ⟨q, hq⟩ := choose_lt each
    have hlen : ((List.range len).map q).length = len := by simp
    refine ⟨some a, cap, (List.range len).map q, by rw [hlen], ⟨some a, cap, by rw [hlen], ?_⟩, ?_⟩
    · intro hpos
      rw [hlen] at hpos
      obtain ⟨_, _, hc0⟩ := World.cells?_some (hq 0 hpos).1
      have hs0 := World.cell?_spot (hc0 0 (by simp))
      have hspot : a.spot = none := by simpa [Addr.add] using hs0
      obtain ⟨b, off, spot⟩ := a
      simp only at hspot
      subst hspot
      refine ⟨b, off, rfl, fun j hj => ?_⟩
      rw [hlen] at hj
      obtain ⟨_, _, hc⟩ := World.cells?_some (hq j hj).1
      have g0 := hc 0 (by simp)
      have g1 := hc 1 (by simp)
      have g2 := hc 2 (by simp)
      have g3 := hc 3 (by simp)
      have g4 := hc 4 (by simp)
      have e : ∀ i, (((⟨b, off, none⟩ : Addr).add (j * 5)).add i) = ⟨b, off + j * 5 + i, none⟩ := fun i => by rw [Addr.add_lit, Addr.add_lit]
      rw [e] at g0 g1 g2 g3 g4
      simp only [List.getElem_map, List.getElem_range]
      exact ⟨by simpa using g0, by simpa using g1, by simpa using g2, by simpa using g3, by simpa using g4⟩
    · intro y hy
      obtain ⟨i, hi, rfl⟩ := List.mem_map.1 hy
      exact (hq i (List.mem_range.1 hi)).2
end
end Go.Proofs.YtnhjflebaeokeaaGreat
namespace Go.Proofs.YtnhjflebaeokeaaGreat.rnodeKeeps
open Go.ChangeShapes Go.WideShapes Go.ChangeAt Go.RowKit
theorem own : ownKnob Tryz.prog.godebug = none := by kernel_rfl
theorem laidOut : laidOutB Tryz.prog = true := by kernel_rfl

set_option maxRecDepth 100000 in
theorem lifted (os : Os) (started : os.Started) (H : Type) (enc : TypeId × Value → H) :
    ReturnsInHanded {} Tryz.checked os 3 .any (Rows.rnodeKeepsSpec.pre6 enc Tryz.prog Tryz.f3 Rows.rnodeKeepsRow.domain false) (Rows.rnodeKeepsSpec.post enc Tryz.prog Tryz.f3 false true false false) := by
  refine returnsInHanded_of_change (C := Tryz.checked) own started (by kernel_rfl) Tryz.func3
    (ChangeSpec.witness6 (enc := enc) (C := Tryz.checked) false ⟨#[], #[.slice none 0 0], []⟩ 8 (by kernel_rfl) (by kernel_rfl) (by kernel_rfl) (by kernel_rfl)) ?_
  intro W base args ds gs before hval0 hW hcnd _
  have hval : ∀ (j : Nat) t v, Tryz.f3.params[j]? = some t → args[j]? = some v → Value.okWide Tryz.prog W .any base t v := hval0
  have hW' := hW
  obtain ⟨p, q, hA0, hV, rfl, hfz, hnd⟩ := hW
  have hA : DataW.TrodAll enc Tryz.prog W 0 (fun _ => true) true Tryz.f3.params.toList args.toList ds p := hA0
  rw [Tryz.params3] at hA hval
  obtain ⟨v0, vs0, d0, ds0, p0, q0, hargs, rfl, rfl, h0, r0⟩ := trodAll_cons hA
  obtain ⟨rfl, rfl, rfl⟩ := trodAll_nil r0
  obtain rfl : args = #[v0] := by cases args; simp_all
  obtain ⟨rfl, rfl⟩ := trodVars_none hV
  obtain ⟨a0, len0, cap0, rfl⟩ := okWide_slice Tryz.underlying22 (hval 0 22 v0 rfl rfl)
  have kk := h0
  have lt0 : ∀ x ∈ p0, x.block < W.heap.size := by obtain ⟨m, hm⟩ := kk; exact DataW.trod_lt m _ _ _ hm
  clear hA0 hval0
  have key : Calls Tryz.prog 3 #[.slice a0 len0 cap0] W fun e w' => e = .returned (.bool true) ∧ Below W.heap.size W w' := by
    obtain ⟨fuel, hf⟩ := h0
    obtain ⟨ao, cap, Y, hcs, hact, hok⟩ := open_actsK hf
    simp [Value.cells] at hcs
    obtain ⟨rfl, rfl, rfl⟩ := hcs
    exact law_keeps W hact hok
  refine key.mono fun e W' ⟨he, bel⟩ => ?_
  subst he
  exact ⟨_, rfl, _, _, _, [], _, [], hW', trodAll_mk1 (shut_bool Tryz.underlying4 _), (trodAll_cons_mk (Below.trod laidOut (by kernel_rfl) (of_decide_eq_true (by kernel_rfl)) kk bel lt0) trodAll_mk0), rfl, bel.frame _, fun h => by cases h⟩

theorem over : Rows.rnodeKeepsRow.holds Tryz.pinned (OpenSpec.ofChange Rows.rnodeKeepsSpec) :=
  OpenClaim.holds_of_wide 3 Tryz.f3 rfl rfl rfl rfl rfl rfl rfl ⟨rfl, rfl, rfl, rfl, rfl⟩ rfl rfl rfl rfl rfl (by kernel_rfl) Tryz.func3 (by kernel_rfl)
    (of_decide_eq_true (by kernel_rfl)) (by unfold Func.isWrapper; first | (rw [if_pos (by decide +kernel)]; kernel_rfl) | (rw [if_neg (by decide +kernel)]; exact ⟨rfl, rfl⟩))
    (fun os started H enc _ => lifted os started H enc)
end Go.Proofs.YtnhjflebaeokeaaGreat.rnodeKeeps
namespace Go.Proofs.YtnhjflebaeokeaaGreat
theorem rnodeKeeps_holds : Rows.RnodeKeepsSaid := rnodeKeeps.over
#print axioms rnodeKeeps_holds
end Go.Proofs.YtnhjflebaeokeaaGreat
