/- How entries, what is kept and messages that came in are opened. -/
import Derived.Test.YtiodepmioglfpaaVwRow
import Derived.WalkKit
import Derived.ProofKit
import Derived.OpenShut
import Derived.Deep.Slices
import Derived.Deep.Strs
import Derived.Lib.SmallJoins
namespace Go.Proofs.Ytiodepmioglfpaa
open Go.RowKit Go.Deep Go.Joins Go.ChangeShapes
theorem vcellsI : Try.prog.cellsOf 3 = 1 := by kernel_rfl
theorem vcellsS : Try.prog.cellsOf 9 = 1 := by kernel_rfl
theorem vcellsE : Try.prog.cellsOf 31 = 2 := by kernel_rfl
theorem vcellsL : Try.prog.cellsOf 22 = 1 := by kernel_rfl
theorem vcellsH : Try.prog.cellsOf 49 = 6 := by kernel_rfl
theorem vcellsM : Try.prog.cellsOf 24 = 11 := by kernel_rfl
theorem vbytesE : Try.prog.bytesOf 31 = 24 := by kernel_rfl
theorem two_ofV {α : Type} {l : List α} (h : l.length = 2) : ∃ a b, l = [a, b] := by
  match l, h with
  | [a, b], _ => exact ⟨a, b, rfl⟩
theorem six_ofV {α : Type} {l : List α} (h : l.length = 6) : ∃ a b c d e f, l = [a, b, c, d, e, f] := by
  match l, h with
  | [a, b, c, d, e, f], _ => exact ⟨a, b, c, d, e, f, rfl⟩
theorem eleven_ofV {α : Type} {l : List α} (h : l.length = 11) : ∃ a b c d e f g i j k m, l = [a, b, c, d, e, f, g, i, j, k, m] := by
  match l, h with
  | [a, b, c, d, e, f, g, i, j, k, m], _ => exact ⟨a, b, c, d, e, f, g, i, j, k, m, rfl⟩
def V64 (x : Int) : Prop := -9223372036854775808 ≤ x ∧ x ≤ 9223372036854775807
section
variable {H : Type} {enc : TypeId × Value → H} {w : World} {base : Nat} {spare : Nat → Bool} {held : Bool}
theorem v_struct6 {t : TypeId} {f0 f1 f2 f3 f4 f5 : Field} {fuel : Nat} {cs : List Value} {x : DataW H × List MemPlace} (ht : Try.prog.underlying t = some (.struct #[f0, f1, f2, f3, f4, f5])) (h : DataW.trod enc Try.prog w base spare held fuel t cs = some x) :
    ∃ y0 y1 y2 y3 y4 y5 n, x.1 = .agg [y0.1, y1.1, y2.1, y3.1, y4.1, y5.1] ∧ cs.length = Try.prog.cellsOf t ∧ DataW.trod enc Try.prog w base spare held n f0.type ((cs.drop f0.offset).take (Try.prog.cellsOf f0.type)) = some y0 ∧ DataW.trod enc Try.prog w base spare held n f1.type ((cs.drop f1.offset).take (Try.prog.cellsOf f1.type)) = some y1 ∧ DataW.trod enc Try.prog w base spare held n f2.type ((cs.drop f2.offset).take (Try.prog.cellsOf f2.type)) = some y2 ∧ DataW.trod enc Try.prog w base spare held n f3.type ((cs.drop f3.offset).take (Try.prog.cellsOf f3.type)) = some y3 ∧ DataW.trod enc Try.prog w base spare held n f4.type ((cs.drop f4.offset).take (Try.prog.cellsOf f4.type)) = some y4 ∧ DataW.trod enc Try.prog w base spare held n f5.type ((cs.drop f5.offset).take (Try.prog.cellsOf f5.type)) = some y5 := by
  obtain ⟨xs, n, _, rfl, hl, hlen, hf⟩ := DataW.trod_struct ht h
  match xs, hlen with
  | [y0, y1, y2, y3, y4, y5], _ => exact ⟨y0, y1, y2, y3, y4, y5, n, by simp, hl, by simpa using hf 0 f0 rfl, by simpa using hf 1 f1 rfl, by simpa using hf 2 f2 rfl, by simpa using hf 3 f3 rfl, by simpa using hf 4 f4 rfl, by simpa using hf 5 f5 rfl⟩
theorem v_struct11 {t : TypeId} {f0 f1 f2 f3 f4 f5 f6 f7 f8 f9 f10 : Field} {fuel : Nat} {cs : List Value} {x : DataW H × List MemPlace} (ht : Try.prog.underlying t = some (.struct #[f0, f1, f2, f3, f4, f5, f6, f7, f8, f9, f10])) (h : DataW.trod enc Try.prog w base spare held fuel t cs = some x) :
    ∃ y0 y1 y2 y3 y4 y5 y6 y7 y8 y9 y10 n, x.1 = .agg [y0.1, y1.1, y2.1, y3.1, y4.1, y5.1, y6.1, y7.1, y8.1, y9.1, y10.1] ∧ cs.length = Try.prog.cellsOf t ∧ DataW.trod enc Try.prog w base spare held n f0.type ((cs.drop f0.offset).take (Try.prog.cellsOf f0.type)) = some y0 ∧ DataW.trod enc Try.prog w base spare held n f1.type ((cs.drop f1.offset).take (Try.prog.cellsOf f1.type)) = some y1 ∧ DataW.trod enc Try.prog w base spare held n f2.type ((cs.drop f2.offset).take (Try.prog.cellsOf f2.type)) = some y2 ∧ DataW.trod enc Try.prog w base spare held n f3.type ((cs.drop f3.offset).take (Try.prog.cellsOf f3.type)) = some y3 ∧ DataW.trod enc Try.prog w base spare held n f4.type ((cs.drop f4.offset).take (Try.prog.cellsOf f4.type)) = some y4 ∧ DataW.trod enc Try.prog w base spare held n f5.type ((cs.drop f5.offset).take (Try.prog.cellsOf f5.type)) = some y5 ∧ DataW.trod enc Try.prog w base spare held n f6.type ((cs.drop f6.offset).take (Try.prog.cellsOf f6.type)) = some y6 ∧ DataW.trod enc Try.prog w base spare held n f7.type ((cs.drop f7.offset).take (Try.prog.cellsOf f7.type)) = some y7 ∧ DataW.trod enc Try.prog w base spare held n f8.type ((cs.drop f8.offset).take (Try.prog.cellsOf f8.type)) = some y8 ∧ DataW.trod enc Try.prog w base spare held n f9.type ((cs.drop f9.offset).take (Try.prog.cellsOf f9.type)) = some y9 ∧ DataW.trod enc Try.prog w base spare held n f10.type ((cs.drop f10.offset).take (Try.prog.cellsOf f10.type)) = some y10 := by
  obtain ⟨xs, n, _, rfl, hl, hlen, hf⟩ := DataW.trod_struct ht h
  match xs, hlen with
  | [y0, y1, y2, y3, y4, y5, y6, y7, y8, y9, y10], _ => exact ⟨y0, y1, y2, y3, y4, y5, y6, y7, y8, y9, y10, n, by simp, hl, by simpa using hf 0 f0 rfl, by simpa using hf 1 f1 rfl, by simpa using hf 2 f2 rfl, by simpa using hf 3 f3 rfl, by simpa using hf 4 f4 rfl, by simpa using hf 5 f5 rfl, by simpa using hf 6 f6 rfl, by simpa using hf 7 f7 rfl, by simpa using hf 8 f8 rfl, by simpa using hf 9 f9 rfl, by simpa using hf 10 f10 rfl⟩
theorem open_ent {n : Nat} {cs : List Value} {x : DataW H × List MemPlace} (h : DataW.trod enc Try.prog w base spare held n 31 cs = some x) :
    ∃ y : Ent, cs = [.int .i64 y.v, .string y.s] ∧ x.1 = .agg [.lit (.int .i64 y.v), .lit (.string y.s.data.toList)] ∧ V64 y.v := by
  obtain ⟨y0, y1, m, hx, hl, h0, h1⟩ := trod_struct2 Try.underlying31 h
  rw [vcellsE] at hl
  obtain ⟨v0, v1, rfl⟩ := two_ofV hl
  simp only [vcellsI, vcellsS, List.drop, List.take] at h0 h1
  obtain ⟨a, e0, g0, wa⟩ := DataW.trod_int Try.underlying3 h0
  obtain ⟨s, e1, g1, _⟩ := DataW.trod_string Try.underlying9 h1
  simp only [List.cons.injEq, and_true] at e0 e1
  subst e0 e1
  have := bounds_i64 wa
  exact ⟨⟨a, s⟩, rfl, by rw [hx, g0, g1], this⟩
/-- Entries that came in: how they lie, and their sizes. -/
theorem open_ents {n : Nat} {cs : List Value} {x : DataW H × List MemPlace} (h : DataW.trod enc Try.prog w base spare held n 22 cs = some x) (hw : ∀ m ∈ x.1.weights Try.prog 22, m ≤ reachBytes) :
    ∃ (v : Value) (L : List Ent), cs = [v] ∧ EnS w v L ∧ L.length ≤ 100000000000000 ∧ (∀ y ∈ L, V64 y.v) := by
  rcases open_slice Try.underlying22 h with ⟨h0, h1⟩ | ⟨a, len, cap, m, k, D, Pl, rfl, hb, hl, hm, hmm, rfl, hx⟩
  · exact ⟨.slice none 0 0, [], h0, (EnO.nil w 0).toS, by simp, fun y hy => by cases hy⟩
  · have hlm : len ≤ m := by rw [hmm]; split <;> omega
    have hv := Try.underlying22
    have hlen24 : len * 24 ≤ 140737488355328 := by
      have := hw ((((List.range len).map D).length + ((List.range (m - len)).map fun j => D (len + j)).length) * 24) (by simp [DataW.weights, hv, vbytesE])
      unfold reachBytes at this
      simp only [List.length_map, List.length_range] at this
      omega
    have each : ∀ i, i < len → ∃ y : Ent, w.cells? base (a.add (i * 2)) 2 = some [.int .i64 y.v, .string y.s] ∧ V64 y.v := by
      intro i hi
      obtain ⟨cs', h1, h2⟩ := hx i (by omega)
      rw [vcellsE] at h1
      obtain ⟨y, rfl, _, h3⟩ := open_ent h2
      exact ⟨y, h1, h3⟩
    haveI : Inhabited Ent := ⟨⟨0, str []⟩⟩
    obtain ⟨q, hq⟩ := choose_lt each
    have hlen : ((List.range len).map q).length = len := by simp
    have hcap : len ≤ cap := by assumption
    refine ⟨.slice (some a) len cap, (List.range len).map q, rfl, ⟨some a, cap, by rw [hlen], by rw [hlen]; exact hcap, ?_⟩, by rw [hlen]; omega, ?_⟩
    · intro hpos
      rw [hlen] at hpos
      obtain ⟨_, _, hc0⟩ := World.cells?_some (hq 0 hpos).1
      have hs0 := World.cell?_spot (hc0 0 (by simp))
      have hspot : a.spot = none := by simpa [Addr.add] using hs0
      obtain ⟨b, off, spot⟩ := a
      simp only at hspot
      subst hspot
      refine ⟨b, off, rfl, fun j hj => ?_⟩
      rw [hlen] at hj
      obtain ⟨_, _, hc⟩ := World.cells?_some (hq j hj).1
      have e0 := hc 0 (by simp)
      have e1 := hc 1 (by simp)
      rw [Addr.add_lit, Addr.add_lit] at e0 e1
      simp only [List.getElem_map, List.getElem_range]
      exact ⟨by simpa using e0, by simpa using e1⟩
    · intro y hy
      obtain ⟨i, hi, rfl⟩ := List.mem_map.1 hy
      exact (hq i (List.mem_range.1 hi)).2
theorem weights_field {t : TypeId} {fs : Array Field} (ht : Try.prog.underlying t = some (.struct fs)) {ys : List (DataW H)} {m : Nat} (hm : m ∈ DataW.weightsEach Try.prog (fs.toList.map (·.type)) ys) : m ∈ (DataW.agg ys).weights Try.prog t := by
  simp only [DataW.weights, ht]
  exact hm
/-- What is kept, as it came in. -/
theorem open_hard {n : Nat} {cs : List Value} {x : DataW H × List MemPlace} (h : DataW.trod enc Try.prog w base spare held n 49 cs = some x) (hw : ∀ m ∈ x.1.weights Try.prog 49, m ≤ reachBytes) :
    ∃ (vw nm bi bv : Int) (bs : ByteArray) (lv : Value) (L : List Ent), cs = [.int .i64 vw, .int .i64 nm, .int .i64 bi, .int .i64 bv, .string bs, lv] ∧ EnS w lv L ∧ L.length ≤ 100000000000000 ∧ V64 vw ∧ V64 nm ∧ V64 bi ∧ V64 bv := by
  obtain ⟨y0, y1, y2, y3, y4, y5, m, hx, hl, f0, f1, f2, f3, f4, f5⟩ := v_struct6 Try.underlying49 h
  rw [vcellsH] at hl
  obtain ⟨x0, x1, x2, x3, x4, x5, rfl⟩ := six_ofV hl
  simp only [vcellsI, vcellsS, vcellsL, List.drop, List.take] at f0 f1 f2 f3 f4 f5
  rw [hx] at hw
  obtain ⟨a0, e0, _, w0⟩ := DataW.trod_int Try.underlying3 f0
  obtain ⟨a1, e1, _, w1⟩ := DataW.trod_int Try.underlying3 f1
  obtain ⟨a2, e2, _, w2⟩ := DataW.trod_int Try.underlying3 f2
  obtain ⟨a3, e3, _, w3⟩ := DataW.trod_int Try.underlying3 f3
  obtain ⟨s4, e4, _, _⟩ := DataW.trod_string Try.underlying9 f4
  obtain ⟨lv, L, e5, hL, hLl, _⟩ := open_ents f5 (fun z hz => hw z (by
    refine weights_field Try.underlying49 ?_
    simp [DataW.weightsEach, hz]))
  simp only [List.cons.injEq, and_true] at e0 e1 e2 e3 e4 e5
  subst e0 e1 e2 e3 e4 e5
  exact ⟨a0, a1, a2, a3, s4, _, L, rfl, hL, hLl, bounds_i64 w0, bounds_i64 w1, bounds_i64 w2, bounds_i64 w3⟩
/-- A message as it came in. -/
theorem open_msg {n : Nat} {cs : List Value} {x : DataW H × List MemPlace} (h : DataW.trod enc Try.prog w base spare held n 24 cs = some x) (hw : ∀ m ∈ x.1.weights Try.prog 24, m ≤ reachBytes) :
    ∃ (m0 m1 m2 m3 m4 m5 m6 m7 m8 : Int) (bs : ByteArray) (lv : Value) (L : List Ent), cs = [.int .i64 m0, .int .i64 m1, .int .i64 m2, .int .i64 m3, .int .i64 m4, .int .i64 m5, .int .i64 m6, .int .i64 m7, .int .i64 m8, .string bs, lv] ∧ EnS w lv L ∧ L.length ≤ 100000000000000 ∧ (V64 m0 ∧ V64 m1 ∧ V64 m2 ∧ V64 m3 ∧ V64 m4 ∧ V64 m5 ∧ V64 m6 ∧ V64 m7 ∧ V64 m8) ∧ (∀ y ∈ L, V64 y.v) := by
  obtain ⟨y0, y1, y2, y3, y4, y5, y6, y7, y8, y9, y10, m, hx, hl, f0, f1, f2, f3, f4, f5, f6, f7, f8, f9, f10⟩ := v_struct11 Try.underlying24 h
  rw [vcellsM] at hl
  obtain ⟨x0, x1, x2, x3, x4, x5, x6, x7, x8, x9, x10, rfl⟩ := eleven_ofV hl
  simp only [vcellsI, vcellsS, vcellsL, List.drop, List.take] at f0 f1 f2 f3 f4 f5 f6 f7 f8 f9 f10
  rw [hx] at hw
  obtain ⟨a0, e0, _, w0⟩ := DataW.trod_int Try.underlying3 f0
  obtain ⟨a1, e1, _, w1⟩ := DataW.trod_int Try.underlying3 f1
  obtain ⟨a2, e2, _, w2⟩ := DataW.trod_int Try.underlying3 f2
  obtain ⟨a3, e3, _, w3⟩ := DataW.trod_int Try.underlying3 f3
  obtain ⟨a4, e4, _, w4⟩ := DataW.trod_int Try.underlying3 f4
  obtain ⟨a5, e5, _, w5⟩ := DataW.trod_int Try.underlying3 f5
  obtain ⟨a6, e6, _, w6⟩ := DataW.trod_int Try.underlying3 f6
  obtain ⟨a7, e7, _, w7⟩ := DataW.trod_int Try.underlying3 f7
  obtain ⟨a8, e8, _, w8⟩ := DataW.trod_int Try.underlying3 f8
  obtain ⟨s9, e9, _, _⟩ := DataW.trod_string Try.underlying9 f9
  obtain ⟨lv, L, e10, hL, hLl, hLv⟩ := open_ents f10 (fun z hz => hw z (by
    refine weights_field Try.underlying24 ?_
    simp [DataW.weightsEach, hz]))
  simp only [List.cons.injEq, and_true] at e0 e1 e2 e3 e4 e5 e6 e7 e8 e9 e10
  subst e0 e1 e2 e3 e4 e5 e6 e7 e8 e9 e10
  exact ⟨a0, a1, a2, a3, a4, a5, a6, a7, a8, s9, _, L, rfl, hL, hLl, ⟨bounds_i64 w0, bounds_i64 w1, bounds_i64 w2, bounds_i64 w3, bounds_i64 w4, bounds_i64 w5, bounds_i64 w6, bounds_i64 w7, bounds_i64 w8⟩, hLv⟩
end
end Go.Proofs.Ytiodepmioglfpaa
