/- Lists of acts on a disk in memory: how a slice of them is opened. -/
import Derived.Test.YthpojidkmmflhaaLawDkS
import Derived.WalkKit
import Derived.ProofKit
import Derived.OpenShut
import Derived.Deep.Slices
import Derived.Deep.Strs
import Derived.Lib.SmallJoins
namespace Go.Proofs.Ythpojidkmmflhaa
open Go.RowKit Go.Deep Go.Joins Go.ChangeShapes
theorem dcellsI : Try.prog.cellsOf 3 = 1 := by kernel_rfl
theorem dcellsS : Try.prog.cellsOf 9 = 1 := by kernel_rfl
theorem dcellsF : Try.prog.cellsOf 34 = 3 := by kernel_rfl
theorem dcellsP : Try.prog.cellsOf 35 = 1 := by kernel_rfl
theorem dcellsA : Try.prog.cellsOf 37 = 8 := by kernel_rfl
theorem eight_of {α : Type} {l : List α} (h : l.length = 8) : ∃ a b c d e f g i, l = [a, b, c, d, e, f, g, i] := by
  match l, h with
  | [a, b, c, d, e, f, g, i], _ => exact ⟨a, b, c, d, e, f, g, i, rfl⟩
section
variable {H : Type} {enc : TypeId × Value → H} {w : World} {base : Nat} {spare : Nat → Bool} {held : Bool}
theorem d_struct6 {t : TypeId} {f0 f1 f2 f3 f4 f5 : Field} {fuel : Nat} {cs : List Value} {x : DataW H × List MemPlace} (ht : Try.prog.underlying t = some (.struct #[f0, f1, f2, f3, f4, f5])) (h : DataW.trod enc Try.prog w base spare held fuel t cs = some x) :
    ∃ y0 y1 y2 y3 y4 y5 n, x.1 = .agg [y0.1, y1.1, y2.1, y3.1, y4.1, y5.1] ∧ cs.length = Try.prog.cellsOf t ∧ DataW.trod enc Try.prog w base spare held n f0.type ((cs.drop f0.offset).take (Try.prog.cellsOf f0.type)) = some y0 ∧ DataW.trod enc Try.prog w base spare held n f1.type ((cs.drop f1.offset).take (Try.prog.cellsOf f1.type)) = some y1 ∧ DataW.trod enc Try.prog w base spare held n f2.type ((cs.drop f2.offset).take (Try.prog.cellsOf f2.type)) = some y2 ∧ DataW.trod enc Try.prog w base spare held n f3.type ((cs.drop f3.offset).take (Try.prog.cellsOf f3.type)) = some y3 ∧ DataW.trod enc Try.prog w base spare held n f4.type ((cs.drop f4.offset).take (Try.prog.cellsOf f4.type)) = some y4 ∧ DataW.trod enc Try.prog w base spare held n f5.type ((cs.drop f5.offset).take (Try.prog.cellsOf f5.type)) = some y5 := by
  obtain ⟨xs, n, _, rfl, hl, hlen, hf⟩ := DataW.trod_struct ht h
  match xs, hlen with
  | [y0, y1, y2, y3, y4, y5], _ => exact ⟨y0, y1, y2, y3, y4, y5, n, by simp, hl, by simpa using hf 0 f0 rfl, by simpa using hf 1 f1 rfl, by simpa using hf 2 f2 rfl, by simpa using hf 3 f3 rfl, by simpa using hf 4 f4 rfl, by simpa using hf 5 f5 rfl⟩
theorem open_actS {n : Nat} {cs : List Value} {x : DataW H × List MemPlace} (h : DataW.trod enc Try.prog w base spare held n 37 cs = some x) (hw : ∀ m ∈ x.1.weights Try.prog 37, m ≤ reachBytes) :
    ∃ y : ActS, cs = [.int .i64 y.k, .string (str y.nm), .string (str y.tt), .string (str y.s), .int .i64 y.f0, .int .i64 y.f1, .int .i64 y.f2, .slice y.pa y.pn y.pc] ∧ y.ok := by
  obtain ⟨y0, y1, y2, y3, y4, y5, m, hx, hl, f0, f1, f2, f3, f4, f5⟩ := d_struct6 Try.underlying37 h
  rw [dcellsA] at hl
  obtain ⟨x0, x1, x2, x3, x4, x5, x6, x7, rfl⟩ := eight_of hl
  simp only [dcellsI, dcellsS, dcellsF, dcellsP, List.drop, List.take] at f0 f1 f2 f3 f4 f5
  obtain ⟨k, e0, _, wk⟩ := DataW.trod_int Try.underlying3 f0
  obtain ⟨s1, e1, g1, _⟩ := DataW.trod_string Try.underlying9 f1
  obtain ⟨s2, e2, g2, _⟩ := DataW.trod_string Try.underlying9 f2
  obtain ⟨s3, e3, g3, _⟩ := DataW.trod_string Try.underlying9 f3
  obtain ⟨a0, a1, a2, m', hfx, _, h0, h1, h2⟩ := trod_struct3 Try.underlying34 f4
  simp only [dcellsI, List.drop, List.take] at h0 h1 h2
  obtain ⟨b0, d0, _, _⟩ := DataW.trod_int Try.underlying3 h0
  obtain ⟨b1, d1, _, _⟩ := DataW.trod_int Try.underlying3 h1
  obtain ⟨b2, d2, _, _⟩ := DataW.trod_int Try.underlying3 h2
  have hp : ∃ pa pn pc, x7 = .slice pa pn pc := by
    rcases open_slice Try.underlying35 f5 with ⟨q0, _⟩ | ⟨a, len, cap, _, _, _, _, q0, _⟩
    · exact ⟨none, 0, 0, by simpa using q0⟩
    · exact ⟨some a, len, cap, by simpa using q0⟩
  obtain ⟨pa, pn, pc, rfl⟩ := hp
  simp only [List.cons.injEq, and_true] at e0 e1 e2 e3 d0 d1 d2
  subst e0 e1 e2 e3 d0 d1 d2
  have hu := Try.underlying37
  have hw1 := hw s1.data.toList.length (by
    rw [hx]
    simp [DataW.weights, DataW.weightsEach, hu, g1])
  have hw2 := hw s2.data.toList.length (by
    rw [hx]
    simp [DataW.weights, DataW.weightsEach, hu, g2])
  have hw3 := hw s3.data.toList.length (by
    rw [hx]
    simp [DataW.weights, DataW.weightsEach, hu, g3])
  have bk := bounds_i64 wk
  refine ⟨⟨k, s1.data.toList, s2.data.toList, s3.data.toList, b0, b1, b2, pa, pn, pc⟩, rfl, ⟨bk.1, bk.2, ?_, ?_, ?_⟩⟩
  · unfold reachBytes at hw1; show s1.data.toList.length ≤ _; omega
  · unfold reachBytes at hw2; show s2.data.toList.length ≤ _; omega
  · unfold reachBytes at hw3; show s3.data.toList.length ≤ _; omega
theorem weights_mem {e : TypeId} {d : DataW H} : ∀ {l : List (DataW H)}, d ∈ l → ∀ m ∈ d.weights Try.prog e, m ∈ DataW.weightsAll Try.prog e l
  | a :: r, hd, m, hm => by
    rw [DataW.weightsAll]
    rcases List.mem_cons.1 hd with rfl | hd
    · exact List.mem_append_left _ hm
    · exact List.mem_append_right _ (weights_mem hd m hm)
theorem open_actsS {n : Nat} {cs : List Value} {x : DataW H × List MemPlace} (h : DataW.trod enc Try.prog w base spare held n 22 cs = some x) (hw : ∀ m ∈ x.1.weights Try.prog 22, m ≤ reachBytes) :
    ∃ (ao : Option Addr) (cap : Nat) (L : List ActS), cs = [.slice ao L.length cap] ∧ (∀ y ∈ L, y.ok) ∧ (0 < L.length → ∃ b off, ao = some ⟨b, off, none⟩ ∧ ActsS w b off L) := by
  rcases open_slice Try.underlying22 h with ⟨h0, h1⟩ | ⟨a, len, cap, m, k, D, Pl, rfl, hb, hl, hm, hmm, rfl, hx⟩
  · exact ⟨none, 0, [], h0, fun y hy => (by cases hy), fun h => absurd h (by simp)⟩
  · have hlm : len ≤ m := by rw [hmm]; split <;> omega
    have hu := Try.underlying22
    have each : ∀ i, i < len → ∃ y : ActS, w.cells? base (a.add (i * 8)) 8 = some [.int .i64 y.k, .string (str y.nm), .string (str y.tt), .string (str y.s), .int .i64 y.f0, .int .i64 y.f1, .int .i64 y.f2, .slice y.pa y.pn y.pc] ∧ y.ok := by
      intro i hi
      obtain ⟨cs', h1, h2⟩ := hx i (by omega)
      rw [dcellsA] at h1
      obtain ⟨y, rfl, h3⟩ := open_actS h2 (fun z hz => hw z (by
        simp only [DataW.weights, hu]
        refine List.mem_cons_of_mem _ (List.mem_append_left _ (weights_mem (List.mem_map.2 ⟨i, List.mem_range.2 hi, rfl⟩) z hz))))
      exact ⟨y, h1, h3⟩
    haveI : Inhabited ActS := ⟨⟨0, [], [], [], 0, 0, 0, none, 0, 0⟩⟩
    obtain ⟨q, hq⟩ := choose_lt each
    have hlen : ((List.range len).map q).length = len := by simp
    refine ⟨some a, cap, (List.range len).map q, by rw [hlen], ?_, ?_⟩
    · intro y hy
      obtain ⟨i, hi, rfl⟩ := List.mem_map.1 hy
      exact (hq i (List.mem_range.1 hi)).2
    · intro hpos
      rw [hlen] at hpos
      obtain ⟨_, _, hc0⟩ := World.cells?_some (hq 0 hpos).1
      have hs0 := World.cell?_spot (hc0 0 (by simp))
      have hspot : a.spot = none := by simpa [Addr.add] using hs0
      obtain ⟨b, off, spot⟩ := a
      simp only at hspot
      subst hspot
      refine ⟨b, off, rfl, fun j hj => ?_⟩
      rw [hlen] at hj
      obtain ⟨_, _, hc⟩ := World.cells?_some (hq j hj).1
      have g0 := hc 0 (by simp)
      have g1 := hc 1 (by simp)
      have g2 := hc 2 (by simp)
      have g3 := hc 3 (by simp)
      have g4 := hc 4 (by simp)
      have g5 := hc 5 (by simp)
      have g6 := hc 6 (by simp)
      have g7 := hc 7 (by simp)
      have e : ∀ i, (((⟨b, off, none⟩ : Addr).add (j * 8)).add i) = ⟨b, off + j * 8 + i, none⟩ := fun i => by rw [Addr.add_lit, Addr.add_lit]
      rw [e] at g0 g1 g2 g3 g4 g5 g6 g7
      simp only [List.getElem_map, List.getElem_range]
      exact ⟨g0, g1, g2, g3, g4, g5, g6, g7⟩
end
end Go.Proofs.Ythpojidkmmflhaa
