/- Lists of asks in memory: how a slice of them is opened, with its bulk. -/
import Derived.Test.YtdnakakichblgaaRows
import Derived.Test.YtdnakakichblgaaSsAk
import Derived.ProofKit
import Derived.OpenShut
import Derived.Deep.Slices
import Derived.Deep.Strs
import Derived.Lib.SmallJoins
import Derived.ShutString
import Derived.ChangeOld
import Derived.SizedLaws
namespace Go.Proofs.Ytdnakakichblgaa
open Go.RowKit Go.Deep Go.Joins Go.ChangeShapes
theorem kcellsI : Try.prog.cellsOf 3 = 1 := by kernel_rfl
theorem kcellsJ : Try.prog.cellsOf 2 = 1 := by kernel_rfl
theorem kcellsB : Try.prog.cellsOf 4 = 1 := by kernel_rfl
theorem kcellsS : Try.prog.cellsOf 9 = 1 := by kernel_rfl
theorem kcellsA : Try.prog.cellsOf 28 = 4 := by kernel_rfl
theorem four_ofK {α : Type} {l : List α} (h : l.length = 4) : ∃ a b c d, l = [a, b, c, d] := by
  match l, h with
  | [a, b, c, d], _ => exact ⟨a, b, c, d, rfl⟩
section
variable {H : Type} {enc : TypeId × Value → H} {w : World} {base : Nat} {spare : Nat → Bool} {held : Bool}
theorem open_ask {n : Nat} {cs : List Value} {x : DataW H × List MemPlace} (h : DataW.trod enc Try.prog w base spare held n 28 cs = some x) :
    ∃ y : Ak, cs = [.int .i64 y.k, .int .i64 y.n, .bool y.lk, .string y.s] ∧ I64 y.k ∧ y.n ≤ 9223372036854775807 ∧ y.s.size + 1 ≤ Rows.uptoBulk x.1 := by
  obtain ⟨y0, y1, y2, y3, m, rfl, hl, f0, f1, f2, f3⟩ := trod_struct4 Try.underlying28 h
  rw [kcellsA] at hl
  obtain ⟨x0, x1, x2, x3, rfl⟩ := four_ofK hl
  simp only [kcellsI, kcellsJ, kcellsB, kcellsS, List.drop, List.take] at f0 f1 f2 f3
  obtain ⟨a, e0, _, wa⟩ := DataW.trod_int Try.underlying2 f0
  obtain ⟨b, e1, _, wb⟩ := DataW.trod_int Try.underlying3 f1
  obtain ⟨c, e2, _⟩ := DataW.trod_bool Try.underlying4 f2
  obtain ⟨s, e3, g3, _⟩ := DataW.trod_string Try.underlying9 f3
  simp only [List.cons.injEq, and_true] at e0 e1 e2 e3
  subst e0 e1 e2 e3
  refine ⟨⟨a, b, c, s⟩, rfl, bounds_i64 wa, (bounds_i64 wb).2, ?_⟩
  simp only [Rows.uptoBulk, Rows.uptoBulkAll, g3]
  have : s.data.toList.length = s.size := by simp
  omega
theorem bulk_at (D : Nat → DataW H) : ∀ (l : List Nat) (i : Nat), i ∈ l → Rows.uptoBulk (D i) ≤ Rows.uptoBulkAll (l.map D)
  | j :: l, i, h => by
    simp only [List.map_cons, Rows.uptoBulkAll]
    rcases List.mem_cons.1 h with rfl | h
    · omega
    · have := bulk_at D l i h
      omega
theorem bulk_len (D : Nat → DataW H) : ∀ (l : List Nat), (∀ i ∈ l, 1 ≤ Rows.uptoBulk (D i)) → l.length ≤ Rows.uptoBulkAll (l.map D)
  | [], _ => Nat.zero_le _
  | j :: l, h => by
    have h1 := h j List.mem_cons_self
    have h2 := bulk_len D l (fun i hi => h i (List.mem_cons_of_mem _ hi))
    simp only [List.map_cons, Rows.uptoBulkAll, List.length_cons]
    omega
/-- Asks that came in, with their bulk. -/
theorem open_asks {n : Nat} {cs : List Value} {x : DataW H × List MemPlace} (h : DataW.trod enc Try.prog w base spare held n 22 cs = some x) :
    ∃ (ao : Option Addr) (cap : Nat) (X : List Ak), cs = [.slice ao X.length cap] ∧ AkS w (.slice ao X.length cap) X ∧ (Rows.uptoBulk x.1 ≤ 1048576 → ∀ y ∈ X, y.ok) ∧ X.length ≤ Rows.uptoBulk x.1 := by
  rcases open_slice Try.underlying22 h with ⟨h0, h1⟩ | ⟨a, len, cap, m, k, D, Pl, rfl, hb, hl, hm, hmm, rfl, hx⟩
  · exact ⟨none, 0, [], h0, ⟨none, 0, rfl, fun h => absurd h (by simp)⟩, fun _ y hy => (by cases hy), Nat.zero_le _⟩
  · have hlm : len ≤ m := by rw [hmm]; split <;> omega
    have each : ∀ i, i < len → ∃ y : Ak, w.cells? base (a.add (i * 4)) 4 = some [.int .i64 y.k, .int .i64 y.n, .bool y.lk, .string y.s] ∧ I64 y.k ∧ y.n ≤ 9223372036854775807 ∧ y.s.size + 1 ≤ Rows.uptoBulk (D i) := by
      intro i hi
      obtain ⟨cs', h1, h2⟩ := hx i (by omega)
      rw [kcellsA] at h1
      obtain ⟨y, rfl, h3, h4, h5⟩ := open_ask h2
      exact ⟨y, h1, h3, h4, h5⟩
    haveI : Inhabited Ak := ⟨⟨0, 0, false, str []⟩⟩
    obtain ⟨q, hq⟩ := choose_lt each
    have hlen : ((List.range len).map q).length = len := by simp
    refine ⟨some a, cap, (List.range len).map q, by rw [hlen], ⟨some a, cap, by rw [hlen], ?_⟩, ?_, ?_⟩
    · intro hpos
      rw [hlen] at hpos
      obtain ⟨_, _, hc0⟩ := World.cells?_some (hq 0 hpos).1
      have hs0 := World.cell?_spot (hc0 0 (by simp))
      have hspot : a.spot = none := by simpa [Addr.add] using hs0
      obtain ⟨b, off, spot⟩ := a
      simp only at hspot
      subst hspot
      refine ⟨b, off, rfl, fun j hj => ?_⟩
      rw [hlen] at hj
      obtain ⟨_, _, hc⟩ := World.cells?_some (hq j hj).1
      have g0 := hc 0 (by simp)
      have g1 := hc 1 (by simp)
      have g2 := hc 2 (by simp)
      have g3 := hc 3 (by simp)
      have e : ∀ i, (((⟨b, off, none⟩ : Addr).add (j * 4)).add i) = ⟨b, off + j * 4 + i, none⟩ := fun i => by rw [Addr.add_lit, Addr.add_lit]
      rw [e] at g0 g1 g2 g3
      simp only [List.getElem_map, List.getElem_range]
      exact ⟨by simpa using g0, by simpa using g1, by simpa using g2, by simpa using g3⟩
    · intro hB y hy
      obtain ⟨i, hi, rfl⟩ := List.mem_map.1 hy
      obtain ⟨_, h2, h3, h4⟩ := hq i (List.mem_range.1 hi)
      have h5 := bulk_at D (List.range len) i hi
      simp only [Rows.uptoBulk] at hB
      exact ⟨h2, h3, by omega⟩
    · have := bulk_len D (List.range len) (fun i hi => by have := (hq i (List.mem_range.1 hi)).2.2.2; omega)
      rw [List.length_range] at this
      rw [hlen]
      simp only [Rows.uptoBulk]
      omega
end
end Go.Proofs.Ytdnakakichblgaa
