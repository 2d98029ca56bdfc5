import Derived.Test.YtidghoipmggklaaGreatJbR1M
import Derived.WalkKit
import Derived.ProofKit
import Derived.OpenShut
import Derived.Deep.Slices
import Derived.Deep.Strs
import Derived.Lib.SmallJoins
import Derived.WideShapes
import Derived.Test.YtidghoipmggklaaGreatRows
import Derived.Test.YtidghoipmggklaaGreatLawMTextsM
import Derived.ShutString
import Derived.ChangeOld
import Derived.SizedLaws
section
/- How an outcome that came in is opened. -/
namespace Go.Proofs.YtidghoipmggklaaGreat
open Go.RowKit Go.Deep Go.Joins Go.ChangeShapes
theorem cellsVa : Tryz.prog.cellsOf 116 = 2 := by kernel_rfl
theorem cellsVas : Tryz.prog.cellsOf 55 = 1 := by kernel_rfl
theorem cellsErr : Tryz.prog.cellsOf 28 = 1 := by kernel_rfl
section
variable {H : Type} {enc : TypeId × Value → H} {w : World} {base : Nat} {spare : Nat → Bool} {held : Bool}
theorem open_va {n : Nat} {cs : List Value} {x : DataW H × List MemPlace} (h : DataW.trod enc Tryz.prog w base spare held n 116 cs = some x) :
    ∃ y : Ed, cs = [.int .i64 y.t, .int .i64 y.w] ∧ x.1 = y.data ∧ y.ok := by
  obtain ⟨y0, y1, m, rfl, hl, h0, h1⟩ := trod_struct2 Tryz.underlying116 h
  rw [cellsVa] at hl
  obtain ⟨v0, v1, rfl⟩ := two_of hl
  simp only [cellsL] at h0 h1
  obtain ⟨a, e0, rfl, wa⟩ := DataW.trod_int Tryz.underlying2 h0
  obtain ⟨b, e1, rfl, wb⟩ := DataW.trod_int Tryz.underlying2 h1
  simp at e0 e1
  subst e0 e1
  exact ⟨⟨a, b⟩, rfl, rfl, ⟨i64_of wa, i64_of wb⟩⟩
theorem open_vas {n : Nat} {cs : List Value} {x : DataW H × List MemPlace} (h : DataW.trod enc Tryz.prog w base spare held n 55 cs = some x) :
    ∃ (ao : Option Addr) (cap : Nat) (L : List Ed), cs = [.slice ao L.length cap] ∧ (∀ y ∈ L, y.ok) ∧ L.length ≤ maxLen ∧ EdAt w (fun k => k < w.heap.size) ao L ∧ ((x.1 = .nil ∧ L = []) ∨ ∃ sp, x.1 = .slice (L.map Ed.data) sp) := by
  rcases open_slice Tryz.underlying55 h with ⟨h0, h1⟩ | ⟨a, len, cap, m, k, D, Pl, rfl, hb, hl, hm, hmm, rfl, hx⟩
  · exact ⟨none, 0, [], h0, fun y hy => (by cases hy), by simp, fun h => absurd h (by simp), Or.inl ⟨by rw [h1], rfl⟩⟩
  · have hlm : len ≤ m := by rw [hmm]; split <;> omega
    have each : ∀ i, i < len → ∃ y : Ed, w.cells? base (a.add (i * 2)) 2 = some [.int .i64 y.t, .int .i64 y.w] ∧ D i = y.data ∧ y.ok := by
      intro i hi
      obtain ⟨cs', h1, h2⟩ := hx i (by omega)
      rw [cellsVa] at h1
      obtain ⟨y, rfl, h3, h4⟩ := open_va h2
      exact ⟨y, h1, h3, h4⟩
    haveI : Inhabited Ed := ⟨⟨0, 0⟩⟩
    obtain ⟨q, hq⟩ := choose_lt each
    have hlen : ((List.range len).map q).length = len := by simp
    refine ⟨some a, cap, (List.range len).map q, by rw [hlen], ?_, by rw [hlen]; omega, ?_, Or.inr ⟨(List.range (m - len)).map fun j => D (len + j), ?_⟩⟩
    · intro y hy
      obtain ⟨i, hi, rfl⟩ := List.mem_map.1 hy
      exact (hq i (List.mem_range.1 hi)).2.2
    · intro hpos
      rw [hlen] at hpos
      obtain ⟨_, _, hc0⟩ := World.cells?_some (hq 0 hpos).1
      have hs0 := World.cell?_spot (hc0 0 (by simp))
      have hspot : a.spot = none := by simpa [Addr.add] using hs0
      obtain ⟨b, off, spot⟩ := a
      simp only at hspot
      subst hspot
      have hcell : ∀ j (_ : j < len), w.cell? ⟨b, off + j * 2, none⟩ = some (.int .i64 (q j).t) ∧ w.cell? ⟨b, off + j * 2 + 1, none⟩ = some (.int .i64 (q j).w) := by
        intro j hj
        obtain ⟨_, _, hc⟩ := World.cells?_some (hq j hj).1
        have e0 := hc 0 (by simp)
        have e1 := hc 1 (by simp)
        rw [add_none] at e0 e1
        simp at e0 e1
        exact ⟨e0, e1⟩
      refine ⟨b, off, rfl, lt_cell (hcell 0 hpos).1, ?_⟩
      intro j hj
      have hj' : j < len := by simpa using hj
      simp only [List.getElem_map, List.getElem_range]
      exact hcell j hj'
    · show DataW.slice _ _ = _
      rw [List.map_map]
      congr 1
      exact List.map_congr_left (fun i hi => (hq i (List.mem_range.1 hi)).2.1)
end
end Go.Proofs.YtidghoipmggklaaGreat
end

section
/- A report and three numbers that came in, opened. -/
namespace Go.Proofs.YtidghoipmggklaaGreat
open Go.RowKit Go.Deep Go.Joins Go.ChangeShapes
theorem mcI : Tryz.prog.cellsOf 3 = 1 := by kernel_rfl
theorem mcA : Tryz.prog.cellsOf 54 = 10 := by kernel_rfl
theorem mcR : Tryz.prog.cellsOf 57 = 20 := by kernel_rfl
theorem mcN : Tryz.prog.cellsOf 95 = 3 := by kernel_rfl
theorem twenty_ofM {α : Type} {l : List α} (h : l.length = 20) : ∃ x0 x1 x2 x3 x4 x5 x6 x7 x8 x9 x10 x11 x12 x13 x14 x15 x16 x17 x18 x19, l = [x0, x1, x2, x3, x4, x5, x6, x7, x8, x9, x10, x11, x12, x13, x14, x15, x16, x17, x18, x19] :=
  match l, h with
  | [x0, x1, x2, x3, x4, x5, x6, x7, x8, x9, x10, x11, x12, x13, x14, x15, x16, x17, x18, x19], _ => ⟨x0, x1, x2, x3, x4, x5, x6, x7, x8, x9, x10, x11, x12, x13, x14, x15, x16, x17, x18, x19, rfl⟩
theorem three_ofM {α : Type} {l : List α} (h : l.length = 3) : ∃ a b c, l = [a, b, c] :=
  match l, h with
  | [a, b, c], _ => ⟨a, b, c, rfl⟩
section
variable {H : Type} {enc : TypeId × Value → H} {w : World} {base : Nat} {spare : Nat → Bool} {held : Bool}
theorem trod_fieldR {t : TypeId} {fs : Array Field} {fuel : Nat} {cs : List Value} {x : DataW H × List MemPlace} (ht : Tryz.prog.underlying t = some (.struct fs)) (h : DataW.trod enc Tryz.prog w base spare held fuel t cs = some x) {i : Nat} {f : Field} (hi : fs[i]? = some f) :
    ∃ n y, DataW.trod enc Tryz.prog w base spare held n f.type ((cs.drop f.offset).take (Tryz.prog.cellsOf f.type)) = some y := by
  obtain ⟨xs, n, _, _, _, hlen, hf⟩ := DataW.trod_struct ht h
  have hi' : i < xs.length := by rw [hlen]; exact (Array.getElem?_eq_some_iff.1 hi).1
  exact ⟨n, xs[i], (hf i f hi).trans (List.getElem?_eq_getElem hi')⟩
theorem m_struct11 {t : TypeId} {f0 f1 f2 f3 f4 f5 f6 f7 f8 f9 f10 : Field} {fuel : Nat} {cs : List Value} {x : DataW H × List MemPlace} (ht : Tryz.prog.underlying t = some (.struct #[f0, f1, f2, f3, f4, f5, f6, f7, f8, f9, f10])) (h : DataW.trod enc Tryz.prog w base spare held fuel t cs = some x) :
    (∃ n y, DataW.trod enc Tryz.prog w base spare held n f0.type ((cs.drop f0.offset).take (Tryz.prog.cellsOf f0.type)) = some y) ∧ (∃ n y, DataW.trod enc Tryz.prog w base spare held n f1.type ((cs.drop f1.offset).take (Tryz.prog.cellsOf f1.type)) = some y) ∧ (∃ n y, DataW.trod enc Tryz.prog w base spare held n f2.type ((cs.drop f2.offset).take (Tryz.prog.cellsOf f2.type)) = some y) ∧ (∃ n y, DataW.trod enc Tryz.prog w base spare held n f3.type ((cs.drop f3.offset).take (Tryz.prog.cellsOf f3.type)) = some y) ∧ (∃ n y, DataW.trod enc Tryz.prog w base spare held n f4.type ((cs.drop f4.offset).take (Tryz.prog.cellsOf f4.type)) = some y) ∧ (∃ n y, DataW.trod enc Tryz.prog w base spare held n f5.type ((cs.drop f5.offset).take (Tryz.prog.cellsOf f5.type)) = some y) ∧ (∃ n y, DataW.trod enc Tryz.prog w base spare held n f6.type ((cs.drop f6.offset).take (Tryz.prog.cellsOf f6.type)) = some y) ∧ (∃ n y, DataW.trod enc Tryz.prog w base spare held n f7.type ((cs.drop f7.offset).take (Tryz.prog.cellsOf f7.type)) = some y) ∧ (∃ n y, DataW.trod enc Tryz.prog w base spare held n f8.type ((cs.drop f8.offset).take (Tryz.prog.cellsOf f8.type)) = some y) ∧ (∃ n y, DataW.trod enc Tryz.prog w base spare held n f9.type ((cs.drop f9.offset).take (Tryz.prog.cellsOf f9.type)) = some y) ∧ (∃ n y, DataW.trod enc Tryz.prog w base spare held n f10.type ((cs.drop f10.offset).take (Tryz.prog.cellsOf f10.type)) = some y) :=
  ⟨trod_fieldR ht h (i := 0) rfl, trod_fieldR ht h (i := 1) rfl, trod_fieldR ht h (i := 2) rfl, trod_fieldR ht h (i := 3) rfl, trod_fieldR ht h (i := 4) rfl, trod_fieldR ht h (i := 5) rfl, trod_fieldR ht h (i := 6) rfl, trod_fieldR ht h (i := 7) rfl, trod_fieldR ht h (i := 8) rfl, trod_fieldR ht h (i := 9) rfl, trod_fieldR ht h (i := 10) rfl⟩
theorem open_agM {n : Nat} {c0 c1 c2 c3 c4 c5 c6 c7 c8 c9 : Value} {x : DataW H × List MemPlace} (h : DataW.trod enc Tryz.prog w base spare held n 54 [c0, c1, c2, c3, c4, c5, c6, c7, c8, c9] = some x) :
    ((∃ b, c0 = .bool b) ∧ (∃ b, c1 = .bool b) ∧ (∃ b, c2 = .bool b) ∧ (∃ b, c3 = .bool b) ∧ (∃ b, c4 = .bool b)) ∧ ((∃ v, c5 = .int .i64 v ∧ I64 v) ∧ (∃ v, c6 = .int .i64 v ∧ I64 v) ∧ (∃ v, c7 = .int .i64 v ∧ I64 v) ∧ (∃ v, c8 = .int .i64 v ∧ I64 v) ∧ (∃ v, c9 = .int .i64 v ∧ I64 v)) := by
  obtain ⟨y0, y1, m, rfl, hl, h0, h1⟩ := trod_struct2 Tryz.underlying54 h
  simp only [k_cellsA5, k_cellsI5] at h0 h1
  obtain ⟨xs, m0, rfl, _, _, hx, e0⟩ := DataW.trod_array Tryz.underlying51 h0
  obtain ⟨ys, m1, _, _, _, hy, e1⟩ := DataW.trod_array Tryz.underlying52 h1
  simp only [k_cellsB, k_cellsI6] at e0 e1
  have ob : ∀ (c : Value) (o : Option (DataW H × List MemPlace)), DataW.trod enc Tryz.prog w base spare held m0 4 [c] = o → o.isSome = true → ∃ b, c = .bool b := by
    intro c o h ho
    obtain ⟨z, rfl⟩ := Option.isSome_iff_exists.1 ho
    obtain ⟨b, hb, _⟩ := DataW.trod_bool Tryz.underlying4 h
    simp at hb
    exact ⟨b, hb⟩
  have oi : ∀ (c : Value) (o : Option (DataW H × List MemPlace)), DataW.trod enc Tryz.prog w base spare held m1 2 [c] = o → o.isSome = true → ∃ v, c = .int .i64 v ∧ I64 v := by
    intro c o h ho
    obtain ⟨z, rfl⟩ := Option.isSome_iff_exists.1 ho
    obtain ⟨b, hb, _, hw⟩ := DataW.trod_int Tryz.underlying2 h
    simp at hb
    exact ⟨b, hb, i64_of hw⟩
  refine ⟨⟨ob _ _ (e0 0 (by decide)) ?_, ob _ _ (e0 1 (by decide)) ?_, ob _ _ (e0 2 (by decide)) ?_, ob _ _ (e0 3 (by decide)) ?_, ob _ _ (e0 4 (by decide)) ?_⟩, ⟨oi _ _ (e1 0 (by decide)) ?_, oi _ _ (e1 1 (by decide)) ?_, oi _ _ (e1 2 (by decide)) ?_, oi _ _ (e1 3 (by decide)) ?_, oi _ _ (e1 4 (by decide)) ?_⟩⟩
  all_goals simp [hx, hy]
theorem vas_cap {n : Nat} {ao : Option Addr} {l c : Nat} {x : DataW H × List MemPlace} (h : DataW.trod enc Tryz.prog w base spare held n 55 [.slice ao l c] = some x) : l ≤ c ∧ c ≤ 9223372036854775807 := by
  rcases open_slice Tryz.underlying55 h with ⟨h0, h1⟩ | ⟨a, len, cap, m, k, D, Pl, e, hb, hll, hm, hmm, _, hxx⟩
  · cases h0
    exact ⟨Nat.le_refl _, by omega⟩
  · cases e
    exact ⟨hll, by unfold maxLen at hm; omega⟩
theorem open_rep {n : Nat} {cs : List Value} {x : DataW H × List MemPlace} (h : DataW.trod enc Tryz.prog w base spare held n 57 cs = some x) :
    ∃ (y0 y1 y2 y3 y4 y5 y6 y7 y8 v0 v1 v2 v3 v4 : Int) (h0 h1 h2 h3 h4 : Bool) (vo : Option Addr) (vc : Nat) (L : List Ed), cs = [.int .i64 y0, .int .i64 y1, .int .i64 y2, .int .i64 y3, .int .i64 y4, .int .i64 y5, .int .i64 y6, .int .i64 y7, .int .i64 y8, .bool h0, .bool h1, .bool h2, .bool h3, .bool h4, .int .i64 v0, .int .i64 v1, .int .i64 v2, .int .i64 v3, .int .i64 v4, .slice vo L.length vc] ∧ (I64 v0 ∧ I64 v1 ∧ I64 v2 ∧ I64 v3 ∧ I64 v4) ∧ L.length ≤ vc ∧ vc ≤ 9223372036854775807 ∧ (∀ x ∈ L, x.ok) ∧ (0 < L.length → ∃ b off, vo = some ⟨b, off, none⟩ ∧ ∀ j (h : j < L.length), w.cell? ⟨b, off + j * 2, none⟩ = some (.int .i64 L[j].t) ∧ w.cell? ⟨b, off + j * 2 + 1, none⟩ = some (.int .i64 L[j].w)) := by
  obtain ⟨_, _, _, _, hl, _, _⟩ := DataW.trod_struct Tryz.underlying57 h
  rw [mcR] at hl
  obtain ⟨x0, x1, x2, x3, x4, x5, x6, x7, x8, x9, x10, x11, x12, x13, x14, x15, x16, x17, x18, x19, rfl⟩ := twenty_ofM hl
  obtain ⟨⟨n0, z0, g0⟩, ⟨n1, z1, g1⟩, ⟨n2, z2, g2⟩, ⟨n3, z3, g3⟩, ⟨n4, z4, g4⟩, ⟨n5, z5, g5⟩, ⟨n6, z6, g6⟩, ⟨n7, z7, g7⟩, ⟨n8, z8, g8⟩, ⟨n9, z9, g9⟩, ⟨n10, z10, g10⟩⟩ := m_struct11 Tryz.underlying57 h
  simp only [mcI, cellsErr, mcA, cellsVas, List.drop, List.take] at g0 g1 g2 g3 g4 g5 g6 g7 g8 g9 g10
  obtain ⟨y0, e0, _, _⟩ := DataW.trod_int Tryz.underlying3 g0
  obtain ⟨y1, e1, _, _⟩ := DataW.trod_int Tryz.underlying3 g1
  obtain ⟨y2, e2, _, _⟩ := DataW.trod_int Tryz.underlying3 g2
  obtain ⟨y3, e3, _, _⟩ := DataW.trod_int Tryz.underlying3 g3
  obtain ⟨y4, e4, _, _⟩ := DataW.trod_int Tryz.underlying3 g4
  obtain ⟨y5, e5, _, _⟩ := DataW.trod_int Tryz.underlying28 g5
  obtain ⟨y6, e6, _, _⟩ := DataW.trod_int Tryz.underlying3 g6
  obtain ⟨y7, e7, _, _⟩ := DataW.trod_int Tryz.underlying3 g7
  obtain ⟨y8, e8, _, _⟩ := DataW.trod_int Tryz.underlying3 g8
  obtain ⟨⟨⟨h0, rfl⟩, ⟨h1, rfl⟩, ⟨h2, rfl⟩, ⟨h3, rfl⟩, ⟨h4, rfl⟩⟩, ⟨v0, rfl, w0⟩, ⟨v1, rfl, w1⟩, ⟨v2, rfl, w2⟩, ⟨v3, rfl, w3⟩, ⟨v4, rfl, w4⟩⟩ := open_agM g9
  obtain ⟨vo, vc, L, e10, hok, hlm, hat, _⟩ := open_vas g10
  simp only [List.cons.injEq, and_true] at e0 e1 e2 e3 e4 e5 e6 e7 e8 e10
  subst e0 e1 e2 e3 e4 e5 e6 e7 e8 e10
  have hc := vas_cap g10
  refine ⟨y0, y1, y2, y3, y4, y5, y6, y7, y8, v0, v1, v2, v3, v4, h0, h1, h2, h3, h4, vo, vc, L, rfl, ⟨w0, w1, w2, w3, w4⟩, hc.1, hc.2, hok, fun h0 => ?_⟩
  obtain ⟨b, off, e, _, hcell⟩ := hat h0
  exact ⟨b, off, e, hcell⟩
theorem open_three {n : Nat} {cs : List Value} {x : DataW H × List MemPlace} (h : DataW.trod enc Tryz.prog w base spare held n 95 cs = some x) :
    ∃ a b c : Int, cs = [.int .i64 a, .int .i64 b, .int .i64 c] ∧ I64 a ∧ I64 b ∧ I64 c := by
  obtain ⟨xs, m, _, _, hl, hx, he⟩ := DataW.trod_array Tryz.underlying95 h
  rw [mcN] at hl
  obtain ⟨c0, c1, c2, rfl⟩ := three_ofM hl
  simp only [mcI] at he
  have oi : ∀ (c : Value) (o : Option (DataW H × List MemPlace)), DataW.trod enc Tryz.prog w base spare held m 3 [c] = o → o.isSome = true → ∃ v, c = .int .i64 v ∧ I64 v := by
    intro c o h ho
    obtain ⟨z, rfl⟩ := Option.isSome_iff_exists.1 ho
    obtain ⟨b, hb, _, hw⟩ := DataW.trod_int Tryz.underlying3 h
    simp at hb
    exact ⟨b, hb, i64_of hw⟩
  obtain ⟨a, rfl, wa⟩ := oi _ _ (he 0 (by decide)) (by simp [hx])
  obtain ⟨b, rfl, wb⟩ := oi _ _ (he 1 (by decide)) (by simp [hx])
  obtain ⟨c, rfl, wc⟩ := oi _ _ (he 2 (by decide)) (by simp [hx])
  exact ⟨a, b, c, rfl, wa, wb, wc⟩
end
set_option maxRecDepth 100000 in
open Go.WideShapes in
/-- An array handed in by value. -/
theorem okWide_arrayM {w : World} {r : Reach} {base n : Nat} {e t : TypeId} {v : Value} (ht : Tryz.prog.underlying t = some (.array n e)) (h : Value.okWide Tryz.prog w r base t v) : ∃ cs, v = .agg cs ∧ cs.size = Tryz.prog.cellsOf t := by
  simp only [Value.okWide, ht] at h
  obtain ⟨cs, h1, h2, _⟩ := h
  exact ⟨cs, h1, h2⟩
end Go.Proofs.YtidghoipmggklaaGreat
end

section
/- MasterTexts over arguments of any make. -/
namespace Go.Proofs.YtidghoipmggklaaGreat.masterTexts
open Go.ChangeShapes Go.WideShapes Go.ChangeAt Go.RowKit
theorem own : ownKnob Tryz.prog.godebug = none := by kernel_rfl
theorem laidOut : laidOutB Tryz.prog = true := by kernel_rfl

set_option maxRecDepth 100000 in
theorem lifted (os : Os) (started : os.Started) (H : Type) (enc : TypeId × Value → H) :
    ReturnsInHanded {} Tryz.checked os 7 .any (Rows.masterTextsSpec.pre6 enc Tryz.prog Tryz.f7 Rows.masterTextsRow.domain false) (Rows.masterTextsSpec.post enc Tryz.prog Tryz.f7 false true false false) := by
  refine returnsInHanded_of_change_sized (C := Tryz.checked) own started (by kernel_rfl) Tryz.func7
    (ChangeSpec.witness6 (enc := enc) (C := Tryz.checked) false ⟨#[], #[.agg #[.int .i64 0, .int .i64 0, .int .i64 0, .int .i64 0, .int .i64 0, .int .i64 0, .int .i64 0, .int .i64 0, .int .i64 0, .bool false, .bool false, .bool false, .bool false, .bool false, .int .i64 0, .int .i64 0, .int .i64 0, .int .i64 0, .int .i64 0, .slice none 0 0], .agg #[.string ByteArray.empty, .slice none 0 0, .slice none 0 0, .int .i64 0, .int .i64 0, .int .i64 0], .agg #[.int .i64 0, .int .i64 0, .int .i64 0]], []⟩ 8 (by kernel_rfl) (by kernel_rfl) (by kernel_rfl) (by kernel_rfl)) ?_
  intro W base args ds gs before hval0 hW hcnd hsz0 _
  have hval : ∀ (j : Nat) t v, Tryz.f7.params[j]? = some t → args[j]? = some v → Value.okWide Tryz.prog W .any base t v := hval0
  have hsz : (DataW.weightsEach Tryz.prog (Tryz.f7.params.toList ++ Rows.masterTextsSpec.plain.varTypes Tryz.prog) (ds ++ gs)).all (· ≤ reachBytes) = true := hsz0
  have hW' := hW
  obtain ⟨p, q, hA0, hV, rfl, hfz, hnd⟩ := hW
  have hA : DataW.TrodAll enc Tryz.prog W 0 (fun _ => true) true Tryz.f7.params.toList args.toList ds p := hA0
  rw [Tryz.params7] at hA hval hsz
  obtain ⟨v1, vs1, d1, ds1, p1, q1, hargs, rfl, rfl, h1, r1⟩ := trodAll_cons hA
  obtain ⟨v2, vs2, d2, ds2, p2, q2, rfl, rfl, rfl, h2, r2⟩ := trodAll_cons r1
  obtain ⟨v3, vs3, d3, ds3, p3, q3, rfl, rfl, rfl, h3, r3⟩ := trodAll_cons r2
  obtain ⟨rfl, rfl, rfl⟩ := trodAll_nil r3
  obtain rfl : args = #[v1, v2, v3] := by cases args; simp_all
  obtain ⟨rfl, rfl⟩ := trodVars_none hV
  obtain ⟨cs1, rfl, -⟩ := okWide_struct Tryz.underlying57 (hval 0 57 v1 rfl rfl)
  obtain ⟨cs2, rfl, -⟩ := okWide_struct Tryz.underlying27 (hval 1 27 v2 rfl rfl)
  obtain ⟨cs3, rfl, -⟩ := okWide_arrayM Tryz.underlying95 (hval 2 95 v3 rfl rfl)
  have k1 := h1
  have k2 := h2
  have k3 := h3
  have lt1 : ∀ x ∈ p1, x.block < W.heap.size := by obtain ⟨m, hm⟩ := k1; exact DataW.trod_lt m _ _ _ hm
  have lt2 : ∀ x ∈ p2, x.block < W.heap.size := by obtain ⟨m, hm⟩ := k2; exact DataW.trod_lt m _ _ _ hm
  have lt3 : ∀ x ∈ p3, x.block < W.heap.size := by obtain ⟨m, hm⟩ := k3; exact DataW.trod_lt m _ _ _ hm
  clear hA0 hval0
  have key : Calls Tryz.prog 7 #[.agg cs1, .agg cs2, .agg cs3] W fun e w' => e = .returned (.bool true) ∧ Below W.heap.size W w' := by
    obtain ⟨fuel1, hf1⟩ := h1
    obtain ⟨fuel2, hf2⟩ := h2
    obtain ⟨fuel3, hf3⟩ := h3
    obtain ⟨y0, y1, y2, y3, y4, y5, y6, y7, y8, v0, v1, v2, v3, v4, b0, b1, b2, b3, b4, vo, vc, L, hc1, hv, hl, hcap, hok, hat⟩ := open_rep hf1
    obtain ⟨t, go, po, gc, pc, G, ps, st, se, pa, hc2, hgok, hglen, hG, hpk, hpl, hP⟩ := open_job hf2 (fun m hm => of_decide_eq_true (List.all_eq_true.1 hsz m (DataW.weights_mem_each (j := 1) (t := 27) rfl rfl m hm)))
    obtain ⟨n0, n1, n2, hc3, hn⟩ := open_three hf3
    obtain rfl : cs1 = #[.int .i64 y0, .int .i64 y1, .int .i64 y2, .int .i64 y3, .int .i64 y4, .int .i64 y5, .int .i64 y6, .int .i64 y7, .int .i64 y8, .bool b0, .bool b1, .bool b2, .bool b3, .bool b4, .int .i64 v0, .int .i64 v1, .int .i64 v2, .int .i64 v3, .int .i64 v4, .slice vo L.length vc] := by cases cs1; simpa [Value.cells] using hc1
    obtain rfl : cs2 = #[.string t, .slice go G.length gc, .slice po ps.length pc, .int .i64 st, .int .i64 se, .int .i64 pa] := by cases cs2; simpa [Value.cells] using hc2
    obtain rfl : cs3 = #[.int .i64 n0, .int .i64 n1, .int .i64 n2] := by cases cs3; simpa [Value.cells] using hc3
    have hgc := job_cap (by simpa [Value.cells] using hf2)
    exact law_mtexts W hl hcap hv rfl hok hat ⟨rfl, hgc, hgok, hglen, hG, rfl, hpk, by unfold maxLen at hpl; omega, hP⟩ hn
  refine key.mono fun e W' ⟨he, bel⟩ => ?_
  subst he
  exact ⟨_, rfl, _, _, _, [], _, [], hW', trodAll_mk1 (shut_bool Tryz.underlying4 _), (trodAll_cons_mk (Below.trod laidOut (by kernel_rfl) (of_decide_eq_true (by kernel_rfl)) k1 bel lt1) (trodAll_cons_mk (Below.trod laidOut (by kernel_rfl) (of_decide_eq_true (by kernel_rfl)) k2 bel lt2) (trodAll_cons_mk (Below.trod laidOut (by kernel_rfl) (of_decide_eq_true (by kernel_rfl)) k3 bel lt3) trodAll_mk0))), rfl, bel.frame _, fun h => by cases h⟩
end Go.Proofs.YtidghoipmggklaaGreat.masterTexts
end
