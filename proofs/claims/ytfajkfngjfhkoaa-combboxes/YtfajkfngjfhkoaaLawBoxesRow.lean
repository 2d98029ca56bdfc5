/- Proved: for every list of acts of bulk at most 1048576 and every number, cohortlaw05.CombBoxes returns true, and its arguments read as they did. -/
import Derived.Test.YtfajkfngjfhkoaaRows
import Derived.Test.YtfajkfngjfhkoaaLawBoxes
import Derived.Test.YtfajkfngjfhkoaaCbOpen
import Derived.ShutString
import Derived.ChangeOld
import Derived.SizedLaws
namespace Go.Proofs.Ytfajkfngjfhkoaa
open Go.RowKit Go.Deep Go.Joins Go.ChangeShapes
theorem a_cellsA : Try.prog.cellsOf 60 = 3 := by kernel_rfl
theorem a_cellsMs : Try.prog.cellsOf 58 = 1 := by kernel_rfl
theorem a_three_of {α : Type} {l : List α} (h : l.length = 3) : ∃ a b c, l = [a, b, c] := by
  match l, h with
  | [a, b, c], _ => exact ⟨a, b, c, rfl⟩
section
variable {H : Type} {enc : TypeId × Value → H} {w : World} {base : Nat} {spare : Nat → Bool} {held : Bool}
theorem bulk_msgs (L : List Msg) : L.length ≤ Rows.uptoBulkAll (L.map (mData (H := H))) := by
  induction L with
  | nil => simp
  | cons m L ih =>
    have e : Rows.uptoBulk (mData (H := H) m) = 5 := by unfold mData; simp [Rows.uptoBulk, Rows.uptoBulkAll]
    rw [List.map_cons, Rows.uptoBulkAll, e, List.length_cons]
    omega
theorem open_act {n : Nat} {cs : List Value} {x : DataW H × List MemPlace} (h : DataW.trod enc Try.prog w base spare held n 60 cs = some x) :
    ∃ y : ActD, cs = [.int .i64 y.k, .int .i64 y.id, .slice y.lo y.L.length y.lc] ∧ (I64 y.id ∧ ∀ m ∈ y.L, m.ok) ∧ MsAt w (fun k => k < w.heap.size) y.lo y.L ∧ y.L.length ≤ Rows.uptoBulk x.1 := by
  obtain ⟨y0, y1, y2, m, rfl, hl, h0, h1, h2⟩ := trod_struct3 Try.underlying60 h
  rw [a_cellsA] at hl
  obtain ⟨v0, v1, v2, rfl⟩ := a_three_of hl
  simp only [m_cellsI, m_cellsI6, a_cellsMs] at h0 h1 h2
  obtain ⟨a, e0, rfl, wa⟩ := DataW.trod_int Try.underlying3 h0
  obtain ⟨b, e1, rfl, wb⟩ := DataW.trod_int Try.underlying2 h1
  obtain ⟨ao, cap, L, hcs, hok, _, _, hE, hd⟩ := open_msgs h2
  simp at e0 e1 hcs
  subst e0 e1 hcs
  refine ⟨⟨a, b, ao, cap, L⟩, rfl, ⟨m_i64_of wb, hok⟩, hE, ?_⟩
  simp only [Rows.uptoBulk, Rows.uptoBulkAll]
  rcases hd with ⟨_, e⟩ | ⟨sp, e⟩
  · rw [e]; simp
  · rw [e]
    have := bulk_msgs (H := H) L
    simp only [Rows.uptoBulk]
    omega
theorem sum_bulk (q : Nat → ActD) (D : Nat → DataW H) : ∀ l : List Nat, (∀ i ∈ l, (q i).L.length ≤ Rows.uptoBulk (D i)) → sumA (l.map q) ≤ Rows.uptoBulkAll (l.map D)
  | [], _ => Nat.zero_le _
  | i :: l, h => by
    have h1 := h i List.mem_cons_self
    have h2 := sum_bulk q D l (fun j hj => h j (List.mem_cons_of_mem _ hj))
    unfold sumA at *
    simp only [List.map_cons, List.sum_cons, Rows.uptoBulkAll]
    omega
theorem open_actsC {n : Nat} {cs : List Value} {x : DataW H × List MemPlace} (h : DataW.trod enc Try.prog w base spare held n 54 cs = some x) :
    ∃ (ao : Option Addr) (cap : Nat) (A : List ActD), cs = [.slice ao A.length cap] ∧ (∀ a ∈ A, I64 a.id ∧ ∀ m ∈ a.L, m.ok) ∧ AcsAt w ao A ∧ sumA A ≤ Rows.uptoBulk x.1 := by
  rcases open_slice Try.underlying54 h with ⟨h0, h1⟩ | ⟨a, len, cap, m, k, D, Pl, rfl, hb, hl, hm, hmm, rfl, hx⟩
  · exact ⟨none, 0, [], h0, fun y hy => (by cases hy), fun h => absurd h (by simp), Nat.zero_le _⟩
  · have hlm : len ≤ m := by rw [hmm]; split <;> omega
    have each : ∀ i, i < len → ∃ y : ActD, w.cells? base (a.add (i * 3)) 3 = some [.int .i64 y.k, .int .i64 y.id, .slice y.lo y.L.length y.lc] ∧ (I64 y.id ∧ ∀ m ∈ y.L, m.ok) ∧ MsAt w (fun k => k < w.heap.size) y.lo y.L ∧ y.L.length ≤ Rows.uptoBulk (D i) := by
      intro i hi
      obtain ⟨cs', h1, h2⟩ := hx i (by omega)
      rw [a_cellsA] at h1
      obtain ⟨y, rfl, h3, h4, h5⟩ := open_act h2
      exact ⟨y, h1, h3, h4, h5⟩
    haveI : Inhabited ActD := ⟨⟨0, 0, none, 0, []⟩⟩
    obtain ⟨q, hq⟩ := choose_lt each
    have hlen : ((List.range len).map q).length = len := by simp
    refine ⟨some a, cap, (List.range len).map q, by rw [hlen], ?_, ?_, ?_⟩
    · intro y hy
      obtain ⟨i, hi, rfl⟩ := List.mem_map.1 hy
      exact (hq i (List.mem_range.1 hi)).2.1
    · intro hpos
      rw [hlen] at hpos
      obtain ⟨_, _, hc0⟩ := World.cells?_some (hq 0 hpos).1
      have hs0 := World.cell?_spot (hc0 0 (by simp))
      have hspot : a.spot = none := by simpa [Addr.add] using hs0
      obtain ⟨b, off, spot⟩ := a
      subst hspot
      refine ⟨b, off, rfl, fun j hj => ?_⟩
      rw [hlen] at hj
      obtain ⟨_, _, hc⟩ := World.cells?_some (hq j hj).1
      have g0 := hc 0 (by simp)
      have g1 := hc 1 (by simp)
      have g2 := hc 2 (by simp)
      rw [m_add_none] at g0 g1 g2
      simp only [List.getElem_map, List.getElem_range]
      exact ⟨⟨g0, g1, g2⟩, (hq j hj).2.2.1⟩
    · have := sum_bulk q D (List.range len) (fun i hi => (hq i (List.mem_range.1 hi)).2.2.2)
      simp only [Rows.uptoBulk]
      omega
end
end Go.Proofs.Ytfajkfngjfhkoaa
namespace Go.Proofs.Ytfajkfngjfhkoaa.combBoxes
open Go.ChangeShapes Go.WideShapes Go.ChangeAt Go.RowKit
theorem own : ownKnob Try.prog.godebug = none := by kernel_rfl
theorem laidOut : laidOutB Try.prog = true := by kernel_rfl
set_option maxRecDepth 100000 in
theorem small {H : Type} {d d' : DataW H} (hk : Rows.uptoSmall H [d, d'] = true) : Rows.uptoBulk d ≤ 1048576 := by
  have h := of_decide_eq_true hk
  simp only [Rows.uptoBulkAll] at h
  omega
set_option maxRecDepth 100000 in
theorem contract (H : Type) (enc : TypeId × Value → H) (W : World) (base : Nat) (args : Array Value) (ds gs : List (DataW H)) (before : List MemPlace)
    (hval : ∀ (j : Nat) t v, Try.f6.params[j]? = some t → args[j]? = some v → Value.okWide Try.prog W .any base t v)
    (hW : DataW.Whole enc Try.prog Try.f6.params.toList Rows.combBoxesSpec.vars false W args.toList ds gs before) (hk : Rows.uptoSmall H (ds ++ gs) = true) :
    Calls Try.prog 6 args W fun e W' => ∃ v, e = .returned v ∧ Rows.combBoxesSpec.post enc Try.prog Try.f6 false true false false W args v W' := by
  have hW' := hW
  obtain ⟨p, q, hA0, hV, rfl, hfz, hnd⟩ := hW
  have hA : DataW.TrodAll enc Try.prog W 0 (fun _ => true) true Try.f6.params.toList args.toList ds p := hA0
  rw [Try.params6] at hA hval
  obtain ⟨v1, vs1, d1, ds1, p1, q1, hargs, rfl, rfl, h1, r1⟩ := trodAll_cons hA
  obtain ⟨v2, vs2, d2, ds2, p2, q2, rfl, rfl, rfl, h2, r2⟩ := trodAll_cons r1
  obtain ⟨rfl, rfl, rfl⟩ := trodAll_nil r2
  obtain rfl : args = #[v1, v2] := by cases args; simp_all
  obtain ⟨rfl, rfl⟩ := trodVars_none hV
  obtain ⟨b1, len1, cap1, rfl⟩ := okWide_slice Try.underlying54 (hval 0 54 v1 rfl rfl)
  have k1 := h1
  have lt1 : ∀ x ∈ p1, x.block < W.heap.size := by obtain ⟨m, hm⟩ := k1; exact DataW.trod_lt m _ _ _ hm
  obtain ⟨a2, rfl, rfl, rfl, w2⟩ := open_int Try.underlying3 (hval 1 3 v2 rfl rfl) h2
  clear hA0
  simp only [List.append_nil] at hk
  have key : Calls Try.prog 6 #[.slice b1 len1 cap1, .int .i64 a2] W fun e w' => e = .returned (.bool true) ∧ Below W.heap.size W w' := by
    obtain ⟨fuel, hf⟩ := h1
    obtain ⟨ao, cap, A, hcs, hok, hact, hsum⟩ := open_actsC hf
    simp [Value.cells] at hcs
    obtain ⟨rfl, rfl, rfl⟩ := hcs
    have := small hk
    have hs : sumA A ≤ Rows.uptoBulk d1 := hsum
    exact law_boxes A _ a2 hact hok (by omega)
  refine key.mono fun e W' ⟨he, bel⟩ => ?_
  subst he
  exact ⟨_, rfl, _, _, _, [], _, [], hW', trodAll_mk1 (shut_bool Try.underlying4 _), (trodAll_cons_mk (Below.trod laidOut (by kernel_rfl) (of_decide_eq_true (by kernel_rfl)) k1 bel lt1) (trodAll_cons_mk (shut_int Try.underlying3 w2) trodAll_mk0)), rfl, bel.frame _, fun h => by cases h⟩

set_option maxRecDepth 100000 in
theorem lifted (os : Os) (started : os.Started) (H : Type) (enc : TypeId × Value → H) (F : Stop.Interp) :
    ReturnsInHanded {} Try.checked os 6 .any ((Rows.OpenSpec.upto Rows.combBoxesSpec).pre6 enc Try.prog Try.f6 Rows.combBoxesUptoRow.domain false) (((Rows.OpenSpec.upto Rows.combBoxesSpec).at F).post enc Try.prog Try.f6 false true false false) := by
  refine returnsInHanded_of_cond (C := Try.checked) (s := Rows.OpenSpec.upto Rows.combBoxesSpec) (k := Rows.uptoSmall) rfl own started (by kernel_rfl) Try.func6
    (OpenSpec.witness (enc := enc) (C := Try.checked) (s := Rows.OpenSpec.upto Rows.combBoxesSpec) (k := Rows.uptoSmall) rfl false ⟨#[], #[.slice none 0 0, .int .i64 0], []⟩ 8 (by kernel_rfl) (by kernel_rfl) (by kernel_rfl)
      (x := ([.nil, .lit (.int .i64 0)], [], [])) (by kernel_rfl) rfl (by kernel_rfl)) ?_
  intro W base args ds gs before hval hW _ hk _
  exact contract H enc W base args ds gs before hval hW hk

theorem over : Rows.CombBoxesUptoSaid :=
  OpenClaim.holds_of_cond 6 Try.f6 rfl rfl rfl rfl rfl rfl rfl ⟨rfl, rfl, rfl, rfl, rfl⟩ rfl rfl rfl rfl rfl (by kernel_rfl) Try.func6 (by kernel_rfl)
    (of_decide_eq_true (by kernel_rfl)) (by unfold Func.isWrapper; first | (rw [if_pos (by decide +kernel)]; kernel_rfl) | (rw [if_neg (by decide +kernel)]; exact ⟨rfl, rfl⟩))
    (fun os started H enc _ F => lifted os started H enc F)
end Go.Proofs.Ytfajkfngjfhkoaa.combBoxes
namespace Go.Proofs.Ytfajkfngjfhkoaa
theorem combBoxesUpto_holds : Rows.CombBoxesUptoSaid := combBoxes.over
#print axioms combBoxesUpto_holds
end Go.Proofs.Ytfajkfngjfhkoaa
