/- Lists of acts in memory: how a slice of them is opened. -/
import Derived.Test.YthlmohbpedcmfaaProg
import Derived.Laws.BitsAllLaws
import Derived.WalkKit
import Derived.ProofKit
import Derived.OpenShut
import Derived.Deep.Slices
import Derived.Lib.SmallJoins
namespace Go.Proofs.Ythlmohbpedcmfaa
open Go.RowKit Go.Deep Go.Joins
/-- An act, as a value's four parts. -/
structure ActV where
  k : Int
  n : Int
  x : Int
  t : ByteArray
/-- The acts lie in memory from an address on. -/
def Acts (w : World) (b off : Nat) (L : List ActV) : Prop := ∀ j (h : j < L.length), w.cell? ⟨b, off + j * 4, none⟩ = some (.int .i64 L[j].k) ∧ w.cell? ⟨b, off + j * 4 + 1, none⟩ = some (.int .i64 L[j].n) ∧ w.cell? ⟨b, off + j * 4 + 2, none⟩ = some (.int .u64 L[j].x) ∧ w.cell? ⟨b, off + j * 4 + 3, none⟩ = some (.string L[j].t)


def ActV.data {H : Type} (y : ActV) : DataW H := .agg [.lit (.int .i64 y.k), .lit (.int .i64 y.n), .lit (.int .u64 y.x), .lit (.string y.t.data.toList)]
structure ActV.ok (y : ActV) : Prop where
  k0 : -9223372036854775808 ≤ y.k
  k1 : y.k ≤ 9223372036854775807
  n0 : -9223372036854775808 ≤ y.n
  n1 : y.n ≤ 9223372036854775807
  x0 : 0 ≤ y.x
  x1 : y.x ≤ 18446744073709551615
  t : y.t.size ≤ maxLen
theorem cellsI : Try.prog.cellsOf 3 = 1 := by kernel_rfl
theorem cellsU : Try.prog.cellsOf 22 = 1 := by kernel_rfl
theorem cellsS : Try.prog.cellsOf 9 = 1 := by kernel_rfl
theorem cellsAct : Try.prog.cellsOf 45 = 4 := by kernel_rfl
theorem four_of {α : Type} {l : List α} (h : l.length = 4) : ∃ a b c d, l = [a, b, c, d] := by
  match l, h with
  | [a, b, c, d], _ => exact ⟨a, b, c, d, rfl⟩
theorem open_act {H : Type} {enc : TypeId × Value → H} {w : World} {base : Nat} {spare : Nat → Bool} {held : Bool} {n : Nat} {cs : List Value} {x : DataW H × List MemPlace} (h : DataW.trod enc Try.prog w base spare held n 45 cs = some x) :
    ∃ y : ActV, cs = [.int .i64 y.k, .int .i64 y.n, .int .u64 y.x, .string y.t] ∧ x.1 = y.data ∧ y.ok := by
  obtain ⟨y0, y1, y2, y3, m, rfl, hl, h0, h1, h2, h3⟩ := trod_struct4 Try.underlying45 h
  rw [cellsAct] at hl
  obtain ⟨v0, v1, v2, v3, rfl⟩ := four_of hl
  simp only [cellsI, cellsU, cellsS] at h0 h1 h2 h3
  obtain ⟨a, e0, rfl, wa⟩ := DataW.trod_int Try.underlying3 h0
  obtain ⟨b, e1, rfl, wb⟩ := DataW.trod_int Try.underlying3 h1
  obtain ⟨c, e2, rfl, wc⟩ := DataW.trod_int Try.underlying22 h2
  obtain ⟨s, e3, rfl, ws⟩ := DataW.trod_string Try.underlying9 h3
  simp at e0 e1 e2 e3
  subst e0 e1 e2 e3
  have ba := bounds_i64 wa
  have bb := bounds_i64 wb
  have bc := bounds_u64 wc
  exact ⟨⟨a, b, c, s⟩, rfl, rfl, ⟨by show _ ≤ a; omega, by show a ≤ _; omega, by show _ ≤ b; omega, by show b ≤ _; omega, by show _ ≤ c; omega, by show c ≤ _; omega, ws⟩⟩
theorem open_acts {H : Type} {enc : TypeId × Value → H} {w : World} {base : Nat} {spare : Nat → Bool} {held : Bool} {n : Nat} {cs : List Value} {x : DataW H × List MemPlace} (h : DataW.trod enc Try.prog w base spare held n 37 cs = some x) :
    (cs = [.slice none 0 0] ∧ x.1 = .nil) ∨ ∃ (a : Addr) (cap : Nat) (L : List ActV) (sp : List (DataW H)), cs = [.slice (some a) L.length cap] ∧ x.1 = .slice (L.map ActV.data) sp ∧ (∀ y ∈ L, y.ok) ∧ (0 < L.length → ∃ b off, a = ⟨b, off, none⟩ ∧ Acts w b off L) := by
  rcases open_slice Try.underlying37 h with ⟨h0, h1⟩ | ⟨a, len, cap, m, k, D, Pl, rfl, hb, hl, hm, hmm, rfl, hx⟩
  · left; exact ⟨h0, by rw [h1]⟩
  · right
    have hlm : len ≤ m := by rw [hmm]; split <;> omega
    have each : ∀ i, i < len → ∃ y : ActV, w.cells? base (a.add (i * 4)) 4 = some [.int .i64 y.k, .int .i64 y.n, .int .u64 y.x, .string y.t] ∧ D i = y.data ∧ y.ok := by
      intro i hi
      obtain ⟨cs', h1, h2⟩ := hx i (by omega)
      rw [cellsAct] at h1
      obtain ⟨y, rfl, h3, h4⟩ := open_act h2
      exact ⟨y, h1, h3, h4⟩
    haveI : Inhabited ActV := ⟨⟨0, 0, 0, ByteArray.empty⟩⟩
    obtain ⟨q, hq⟩ := choose_lt each
    have hlen : ((List.range len).map q).length = len := by simp
    refine ⟨a, cap, (List.range len).map q, (List.range (m - len)).map fun j => D (len + j), by rw [hlen], ?_, ?_, ?_⟩
    · show DataW.slice _ _ = _
      rw [List.map_map]
      congr 1
      exact List.map_congr_left (fun i hi => (hq i (List.mem_range.1 hi)).2.1)
    · intro y hy
      obtain ⟨i, hi, rfl⟩ := List.mem_map.1 hy
      exact (hq i (List.mem_range.1 hi)).2.2
    · intro hpos
      rw [hlen] at hpos
      obtain ⟨_, _, hc0⟩ := World.cells?_some (hq 0 hpos).1
      have hs0 := World.cell?_spot (hc0 0 (by simp))
      have hspot : a.spot = none := by simpa [Addr.add] using hs0
      obtain ⟨b, off, spot⟩ := a
      simp only at hspot
      subst hspot
      refine ⟨b, off, rfl, ?_⟩
      intro j hj
      have hj' : j < len := by simpa using hj
      obtain ⟨_, _, hc⟩ := World.cells?_some (hq j hj').1
      have g : ∀ i, (((⟨b, off, none⟩ : Addr).add (j * 4)).add i) = ⟨b, off + j * 4 + i, none⟩ := by
        intro i
        rw [add_add]
        unfold Addr.add
        split <;> simp_all <;> omega
      have e0 := hc 0 (by simp)
      have e1 := hc 1 (by simp)
      have e2 := hc 2 (by simp)
      have e3 := hc 3 (by simp)
      rw [g] at e0 e1 e2 e3
      simp at e0 e1 e2 e3
      simp only [List.getElem_map, List.getElem_range]
      exact ⟨e0, e1, e2, e3⟩
end Go.Proofs.Ythlmohbpedcmfaa
