import Derived.Test.YtdapapnkmicklaaWlRow
import Derived.WalkKit
import Derived.ProofKit
import Derived.OpenShut
import Derived.Deep.Strs
import Derived.Test.YtdapapnkmicklaaLawWPlaysM
import Derived.Deep.Slices
import Derived.Lib.SmallJoins
section
/- A slice of texts that is handed in can be read. -/
namespace Go.Proofs.Ytdapapnkmicklaa
open Go.RowKit Go.Deep
theorem wcellsS : Try.prog.cellsOf 9 = 1 := by kernel_rfl
section
variable {H : Type} {enc : TypeId × Value → H} {w : World} {base : Nat} {spare : Nat → Bool} {held : Bool}
theorem open_txs {n : Nat} {cs : List Value} {x : DataW H × List MemPlace} (h : DataW.trod enc Try.prog w base spare held n 45 cs = some x) : ∃ (v : Value) (L : List Bs), cs = [v] ∧ TxS w v L := by
  rcases open_strs Try.underlying45 Try.underlying9 wcellsS h with ⟨h0, _⟩ | ⟨a, len, cap, m, Sx, rfl, _, hl, hm, hmm, _, hx⟩
  · exact ⟨_, [], h0, none, 0, rfl, Nat.le_refl _, fun h => absurd h (by simp)⟩
  · have hlm : len ≤ m := by rw [hmm]; split <;> omega
    have hlen : ((List.range len).map fun i => (Sx i).data.toList).length = len := by simp
    refine ⟨_, (List.range len).map fun i => (Sx i).data.toList, rfl, some a, cap, by rw [hlen], by rw [hlen]; exact hl, fun h0 => ?_⟩
    rw [hlen] at h0
    have hs0 := World.cell?_spot (hx 0 (by omega)).1
    have hspot : a.spot = none := by simpa [Addr.add] using hs0
    obtain ⟨b, off, spot⟩ := a
    simp only at hspot
    subst hspot
    refine ⟨b, off, rfl, fun j hj => ?_⟩
    rw [hlen] at hj
    have h1 := (hx j (by omega)).1
    rw [Addr.add_lit] at h1
    rw [h1]
    simp only [List.getElem_map, List.getElem_range, str_data]
end
end Go.Proofs.Ytdapapnkmicklaa
end

section
/- Lists of acts on a log in memory: how a slice of them is opened. -/
namespace Go.Proofs.Ytdapapnkmicklaa
open Go.RowKit Go.Deep Go.Joins Go.ChangeShapes
theorem wcellsI : Try.prog.cellsOf 3 = 1 := by kernel_rfl
theorem wcellsF : Try.prog.cellsOf 34 = 3 := by kernel_rfl
theorem wcellsL : Try.prog.cellsOf 45 = 1 := by kernel_rfl
theorem wcellsA : Try.prog.cellsOf 47 = 6 := by kernel_rfl
theorem three_of {α : Type} {l : List α} (h : l.length = 3) : ∃ a b c, l = [a, b, c] := by
  match l, h with
  | [a, b, c], _ => exact ⟨a, b, c, rfl⟩
theorem six_of {α : Type} {l : List α} (h : l.length = 6) : ∃ a b c d e f, l = [a, b, c, d, e, f] := by
  match l, h with
  | [a, b, c, d, e, f], _ => exact ⟨a, b, c, d, e, f, rfl⟩
section
variable {H : Type} {enc : TypeId × Value → H} {w : World} {base : Nat} {spare : Nat → Bool} {held : Bool}
theorem open_actW {n : Nat} {cs : List Value} {x : DataW H × List MemPlace} (h : DataW.trod enc Try.prog w base spare held n 47 cs = some x) (hw : ∀ m ∈ x.1.weights Try.prog 47, m ≤ reachBytes) :
    ∃ y : ActW, cs = [.int .i64 y.k, .string (str y.s), .slice y.lo y.ln y.lc, .int .i64 y.f0, .int .i64 y.f1, .int .i64 y.f2] ∧ TxS w (.slice y.lo y.ln y.lc) y.L ∧ y.s.length ≤ 140737488351232 := by
  obtain ⟨y0, y1, y2, y3, m, hx, hl, f0, f1, f2, f3⟩ := trod_struct4 Try.underlying47 h
  rw [wcellsA] at hl
  obtain ⟨x0, x1, x2, x3, x4, x5, rfl⟩ := six_of hl
  simp only [wcellsI, wcellsS, wcellsF, wcellsL, List.drop, List.take] at f0 f1 f2 f3
  obtain ⟨k, e0, _, wk⟩ := DataW.trod_int Try.underlying3 f0
  obtain ⟨s1, e1, g1, _⟩ := DataW.trod_string Try.underlying9 f1
  obtain ⟨v, L, e2, hL⟩ := open_txs f2
  obtain ⟨a0, a1, a2, m', hfx, _, h0, h1, h2⟩ := trod_struct3 Try.underlying34 f3
  simp only [wcellsI, List.drop, List.take] at h0 h1 h2
  obtain ⟨b0, d0, _, _⟩ := DataW.trod_int Try.underlying3 h0
  obtain ⟨b1, d1, _, _⟩ := DataW.trod_int Try.underlying3 h1
  obtain ⟨b2, d2, _, _⟩ := DataW.trod_int Try.underlying3 h2
  simp only [List.cons.injEq, and_true] at e0 e1 e2 d0 d1 d2
  subst e0 e1 e2 d0 d1 d2
  have hu := Try.underlying47
  have hw1 := hw s1.data.toList.length (by
    rw [hx]
    simp [DataW.weights, DataW.weightsEach, hu, g1])
  obtain ⟨lo, lc, rfl, _⟩ := id hL
  refine ⟨⟨k, s1.data.toList, lo, _, lc, L, b0, b1, b2⟩, rfl, hL, ?_⟩
  unfold reachBytes at hw1
  show s1.data.toList.length ≤ _
  omega
theorem open_fall {n : Nat} {cs : List Value} {x : DataW H × List MemPlace} (h : DataW.trod enc Try.prog w base spare held n 34 cs = some x) : ∃ b0 b1 b2 : Int, cs = [.int .i64 b0, .int .i64 b1, .int .i64 b2] ∧ b0 ≤ 9223372036854775807 := by
  obtain ⟨a0, a1, a2, m', hfx, hl, h0, h1, h2⟩ := trod_struct3 Try.underlying34 h
  rw [wcellsF] at hl
  obtain ⟨x0, x1, x2, rfl⟩ := three_of hl
  simp only [wcellsI, List.drop, List.take] at h0 h1 h2
  obtain ⟨b0, d0, _, wk⟩ := DataW.trod_int Try.underlying3 h0
  obtain ⟨b1, d1, _, _⟩ := DataW.trod_int Try.underlying3 h1
  obtain ⟨b2, d2, _, _⟩ := DataW.trod_int Try.underlying3 h2
  simp only [List.cons.injEq, and_true] at d0 d1 d2
  subst d0 d1 d2
  exact ⟨b0, b1, b2, rfl, (bounds_i64 wk).2⟩
theorem weights_memW {e : TypeId} {d : DataW H} : ∀ {l : List (DataW H)}, d ∈ l → ∀ m ∈ d.weights Try.prog e, m ∈ DataW.weightsAll Try.prog e l
  | a :: r, hd, m, hm => by
    rw [DataW.weightsAll]
    rcases List.mem_cons.1 hd with rfl | hd
    · exact List.mem_append_left _ hm
    · exact List.mem_append_right _ (weights_memW hd m hm)
theorem open_actsW {n : Nat} {cs : List Value} {x : DataW H × List MemPlace} (h : DataW.trod enc Try.prog w base spare held n 40 cs = some x) (hw : ∀ m ∈ x.1.weights Try.prog 40, m ≤ reachBytes) :
    ∃ (ao : Option Addr) (cap : Nat) (Y : List ActW), cs = [.slice ao Y.length cap] ∧ (0 < Y.length → ∃ b off, ao = some ⟨b, off, none⟩ ∧ ActsW w b off Y) := by
  rcases open_slice Try.underlying40 h with ⟨h0, h1⟩ | ⟨a, len, cap, m, k, D, Pl, rfl, hb, hl, hm, hmm, rfl, hx⟩
  · exact ⟨none, 0, [], h0, fun h => absurd h (by simp)⟩
  · have hlm : len ≤ m := by rw [hmm]; split <;> omega
    have hu := Try.underlying40
    have each : ∀ i, i < len → ∃ y : ActW, w.cells? base (a.add (i * 6)) 6 = some [.int .i64 y.k, .string (str y.s), .slice y.lo y.ln y.lc, .int .i64 y.f0, .int .i64 y.f1, .int .i64 y.f2] ∧ TxS w (.slice y.lo y.ln y.lc) y.L ∧ y.s.length ≤ 140737488351232 := by
      intro i hi
      obtain ⟨cs', h1, h2⟩ := hx i (by omega)
      rw [wcellsA] at h1
      obtain ⟨y, rfl, h3⟩ := open_actW h2 (fun z hz => hw z (by
        simp only [DataW.weights, hu]
        refine List.mem_cons_of_mem _ (List.mem_append_left _ (weights_memW (List.mem_map.2 ⟨i, List.mem_range.2 hi, rfl⟩) z hz))))
      exact ⟨y, h1, h3⟩
    haveI : Inhabited ActW := ⟨⟨0, [], none, 0, 0, [], 0, 0, 0⟩⟩
    obtain ⟨q, hq⟩ := choose_lt each
    have hlen : ((List.range len).map q).length = len := by simp
    refine ⟨some a, cap, (List.range len).map q, by rw [hlen], ?_⟩
    intro hpos
    rw [hlen] at hpos
    obtain ⟨_, _, hc0⟩ := World.cells?_some (hq 0 hpos).1
    have hs0 := World.cell?_spot (hc0 0 (by simp))
    have hspot : a.spot = none := by simpa [Addr.add] using hs0
    obtain ⟨b, off, spot⟩ := a
    simp only at hspot
    subst hspot
    refine ⟨b, off, rfl, fun j hj => ?_⟩
    rw [hlen] at hj
    obtain ⟨_, _, hc⟩ := World.cells?_some (hq j hj).1
    have g0 := hc 0 (by simp)
    have g1 := hc 1 (by simp)
    have g2 := hc 2 (by simp)
    have g3 := hc 3 (by simp)
    have g4 := hc 4 (by simp)
    have g5 := hc 5 (by simp)
    have e : ∀ i, (((⟨b, off, none⟩ : Addr).add (j * 6)).add i) = ⟨b, off + j * 6 + i, none⟩ := fun i => by rw [Addr.add_lit, Addr.add_lit]
    rw [e] at g0 g1 g2 g3 g4 g5
    simp only [List.getElem_map, List.getElem_range]
    exact ⟨⟨g0, g1, g2, g3, g4, g5⟩, (hq j hj).2⟩
end
end Go.Proofs.Ytdapapnkmicklaa
end
