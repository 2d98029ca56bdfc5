import Derived.Test.YtbilpiodoincgaaGrDataM
import Derived.Test.YtbilpiodoincgaaProg
import Derived.WalkKit
import Derived.ProofKit
import Derived.OpenShut
import Derived.Deep.Slices
import Derived.Deep.Strs
import Derived.Lib.SmallJoins
/- How edges, vertices and graphs that came in are opened. -/
namespace Go.Proofs.Ytbilpiodoincgaa
open Go.RowKit Go.Deep Go.Joins Go.ChangeShapes
theorem cellsL : Try.prog.cellsOf 2 = 1 := by kernel_rfl
theorem cellsEs : Try.prog.cellsOf 68 = 1 := by kernel_rfl
theorem cellsVs : Try.prog.cellsOf 22 = 1 := by kernel_rfl
theorem cellsEd : Try.prog.cellsOf 67 = 2 := by kernel_rfl
theorem cellsVx : Try.prog.cellsOf 70 = 3 := by kernel_rfl
theorem cellsGr : Try.prog.cellsOf 24 = 1 := by kernel_rfl
theorem two_of {α : Type} {l : List α} (h : l.length = 2) : ∃ a b, l = [a, b] := by
  match l, h with
  | [a, b], _ => exact ⟨a, b, rfl⟩
theorem three_of {α : Type} {l : List α} (h : l.length = 3) : ∃ a b c, l = [a, b, c] := by
  match l, h with
  | [a, b, c], _ => exact ⟨a, b, c, rfl⟩
theorem add_none {b off : Nat} (j i : Nat) : (((⟨b, off, none⟩ : Addr).add j).add i) = ⟨b, off + j + i, none⟩ := by
  rw [add_add]
  unfold Addr.add
  split <;> simp_all <;> omega
section
variable {H : Type} {enc : TypeId × Value → H} {w : World} {base : Nat} {spare : Nat → Bool} {held : Bool}
def Ed.data (e : Ed) : DataW H := .agg [.lit (.int .i64 e.t), .lit (.int .i64 e.w)]
theorem i64_of {a : Int} (h : (Lit.int .i64 a).wf = true) : I64 a := by have := bounds_i64 h; unfold I64; omega
theorem open_ed {n : Nat} {cs : List Value} {x : DataW H × List MemPlace} (h : DataW.trod enc Try.prog w base spare held n 67 cs = some x) :
    ∃ y : Ed, cs = [.int .i64 y.t, .int .i64 y.w] ∧ x.1 = y.data ∧ y.ok := by
  obtain ⟨y0, y1, m, rfl, hl, h0, h1⟩ := trod_struct2 Try.underlying67 h
  rw [cellsEd] at hl
  obtain ⟨v0, v1, rfl⟩ := two_of hl
  simp only [cellsL] at h0 h1
  obtain ⟨a, e0, rfl, wa⟩ := DataW.trod_int Try.underlying2 h0
  obtain ⟨b, e1, rfl, wb⟩ := DataW.trod_int Try.underlying2 h1
  simp at e0 e1
  subst e0 e1
  exact ⟨⟨a, b⟩, rfl, rfl, ⟨i64_of wa, i64_of wb⟩⟩
theorem open_eds {n : Nat} {cs : List Value} {x : DataW H × List MemPlace} (h : DataW.trod enc Try.prog w base spare held n 68 cs = some x) :
    ∃ (ao : Option Addr) (cap : Nat) (L : List Ed), cs = [.slice ao L.length cap] ∧ (∀ y ∈ L, y.ok) ∧ L.length ≤ maxLen ∧ EdAt w (fun k => k < w.heap.size) ao L ∧ ((x.1 = .nil ∧ L = []) ∨ ∃ sp, x.1 = .slice (L.map Ed.data) sp) := by
  rcases open_slice Try.underlying68 h with ⟨h0, h1⟩ | ⟨a, len, cap, m, k, D, Pl, rfl, hb, hl, hm, hmm, rfl, hx⟩
  · exact ⟨none, 0, [], h0, fun y hy => (by cases hy), by simp, fun h => absurd h (by simp), Or.inl ⟨by rw [h1], rfl⟩⟩
  · have hlm : len ≤ m := by rw [hmm]; split <;> omega
    have each : ∀ i, i < len → ∃ y : Ed, w.cells? base (a.add (i * 2)) 2 = some [.int .i64 y.t, .int .i64 y.w] ∧ D i = y.data ∧ y.ok := by
      intro i hi
      obtain ⟨cs', h1, h2⟩ := hx i (by omega)
      rw [cellsEd] at h1
      obtain ⟨y, rfl, h3, h4⟩ := open_ed h2
      exact ⟨y, h1, h3, h4⟩
    haveI : Inhabited Ed := ⟨⟨0, 0⟩⟩
    obtain ⟨q, hq⟩ := choose_lt each
    have hlen : ((List.range len).map q).length = len := by simp
    refine ⟨some a, cap, (List.range len).map q, by rw [hlen], ?_, by rw [hlen]; omega, ?_, Or.inr ⟨(List.range (m - len)).map fun j => D (len + j), ?_⟩⟩
    · intro y hy
      obtain ⟨i, hi, rfl⟩ := List.mem_map.1 hy
      exact (hq i (List.mem_range.1 hi)).2.2
    · intro hpos
      rw [hlen] at hpos
      obtain ⟨_, _, hc0⟩ := World.cells?_some (hq 0 hpos).1
      have hs0 := World.cell?_spot (hc0 0 (by simp))
      have hspot : a.spot = none := by simpa [Addr.add] using hs0
      obtain ⟨b, off, spot⟩ := a
      simp only at hspot
      subst hspot
      have hcell : ∀ j (_ : j < len), w.cell? ⟨b, off + j * 2, none⟩ = some (.int .i64 (q j).t) ∧ w.cell? ⟨b, off + j * 2 + 1, none⟩ = some (.int .i64 (q j).w) := by
        intro j hj
        obtain ⟨_, _, hc⟩ := World.cells?_some (hq j hj).1
        have e0 := hc 0 (by simp)
        have e1 := hc 1 (by simp)
        rw [add_none] at e0 e1
        simp at e0 e1
        exact ⟨e0, e1⟩
      refine ⟨b, off, rfl, lt_cell (hcell 0 hpos).1, ?_⟩
      intro j hj
      have hj' : j < len := by simpa using hj
      simp only [List.getElem_map, List.getElem_range]
      exact hcell j hj'
    · show DataW.slice _ _ = _
      rw [List.map_map]
      congr 1
      exact List.map_congr_left (fun i hi => (hq i (List.mem_range.1 hi)).2.1)
/-- A vertex's three cells, opened. -/
theorem open_vx {n : Nat} {cs : List Value} {x : DataW H × List MemPlace} (h : DataW.trod enc Try.prog w base spare held n 70 cs = some x) :
    ∃ (y : Vx) (eo : Option Addr) (ec : Nat) (dx : DataW H), cs = [.int .i64 y.id, .int .i64 y.val, .slice eo y.es.length ec] ∧ I64 y.id ∧ I64 y.val ∧ (∀ e ∈ y.es, e.ok) ∧ y.es.length ≤ maxLen ∧ EdAt w (fun k => k < w.heap.size) eo y.es ∧ x.1 = .agg [.lit (.int .i64 y.id), .lit (.int .i64 y.val), dx] ∧ ((dx = .nil ∧ y.es = []) ∨ ∃ sp, dx = .slice (y.es.map Ed.data) sp) := by
  obtain ⟨y0, y1, y2, m, rfl, hl, h0, h1, h2⟩ := trod_struct3 Try.underlying70 h
  rw [cellsVx] at hl
  obtain ⟨v0, v1, v2, rfl⟩ := three_of hl
  simp only [cellsL, cellsEs] at h0 h1 h2
  obtain ⟨a, e0, rfl, wa⟩ := DataW.trod_int Try.underlying2 h0
  obtain ⟨b, e1, rfl, wb⟩ := DataW.trod_int Try.underlying2 h1
  obtain ⟨ao, cap, L, hcs, hok, hm, hE, hd⟩ := open_eds h2
  simp at e0 e1 hcs
  subst e0 e1 hcs
  exact ⟨⟨a, b, L⟩, ao, cap, y2.1, rfl, i64_of wa, i64_of wb, hok, hm, hE, rfl, hd⟩
end
end Go.Proofs.Ytbilpiodoincgaa
