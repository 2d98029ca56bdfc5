import Derived.Test.YtjemnkijoiehmaaGreatDoorRows
import Derived.Test.YtjemnkijoiehmaaGreatDoorStAwM
import Derived.ProofKit
import Derived.OpenShut
import Derived.Deep.Slices
import Derived.Deep.Strs
import Derived.Lib.SmallJoins
import Derived.ShutString
import Derived.ChangeOld
import Derived.SizedLaws
/- Lists of acts on a store: how a slice of them is opened, with its bulk. -/
namespace Go.Proofs.YtjemnkijoiehmaaGreatDoor
open Go.RowKit Go.Deep Go.Joins Go.ChangeShapes
theorem tcellsI : Tryz.prog.cellsOf 3 = 1 := by kernel_rfl
theorem tcellsS : Tryz.prog.cellsOf 9 = 1 := by kernel_rfl
theorem tcellsA : Tryz.prog.cellsOf 35 = 3 := by kernel_rfl
theorem three_ofT {α : Type} {l : List α} (h : l.length = 3) : ∃ a b c, l = [a, b, c] := by
  match l, h with
  | [a, b, c], _ => exact ⟨a, b, c, rfl⟩
section
variable {H : Type} {enc : TypeId × Value → H} {w : World} {base : Nat} {spare : Nat → Bool} {held : Bool}
theorem open_sct {n : Nat} {cs : List Value} {x : DataW H × List MemPlace} (h : DataW.trod enc Tryz.prog w base spare held n 35 cs = some x) (hw : ∀ m ∈ x.1.weights Tryz.prog 35, m ≤ reachBytes) :
    ∃ y : Sct, cs = [.int .i64 y.k, .int .i64 y.n, .string (str y.s)] ∧ I6 y.n ∧ y.s.length ≤ 140737488351232 ∧ y.s.length + 1 ≤ Rows.uptoBulk x.1 := by
  obtain ⟨y0, y1, y2, m, hx, hl, f0, f1, f2⟩ := trod_struct3 Tryz.underlying35 h
  rw [tcellsA] at hl
  obtain ⟨x0, x1, x2, rfl⟩ := three_ofT hl
  simp only [tcellsI, tcellsS, List.drop, List.take] at f0 f1 f2
  obtain ⟨a, e0, _, wa⟩ := DataW.trod_int Tryz.underlying3 f0
  obtain ⟨b, e1, _, wb⟩ := DataW.trod_int Tryz.underlying3 f1
  obtain ⟨s, e2, g2, _⟩ := DataW.trod_string Tryz.underlying9 f2
  simp only [List.cons.injEq, and_true] at e0 e1 e2
  subst e0 e1 e2
  have hu := Tryz.underlying35
  have hw1 := hw s.data.toList.length (by
    rw [hx]
    simp [DataW.weights, DataW.weightsEach, hu, g2])
  refine ⟨⟨a, b, s.data.toList⟩, rfl, bounds_i64 wb, ?_, ?_⟩
  · unfold reachBytes at hw1
    show s.data.toList.length ≤ _
    omega
  · rw [hx]
    simp only [Rows.uptoBulk, Rows.uptoBulkAll, g2]
    omega
theorem bulk_sum (D : Nat → DataW H) (q : Nat → Sct) : ∀ (l : List Nat), (∀ i ∈ l, (q i).s.length ≤ Rows.uptoBulk (D i)) → sumS (l.map q) ≤ Rows.uptoBulkAll (l.map D)
  | [], _ => Nat.zero_le _
  | j :: l, h => by
    have h1 := h j List.mem_cons_self
    have h2 := bulk_sum D q l (fun i hi => h i (List.mem_cons_of_mem _ hi))
    unfold sumS at h2 ⊢
    simp only [List.map_cons, Rows.uptoBulkAll, List.sum_cons]
    omega
theorem weights_memT {e : TypeId} {d : DataW H} : ∀ {l : List (DataW H)}, d ∈ l → ∀ m ∈ d.weights Tryz.prog e, m ∈ DataW.weightsAll Tryz.prog e l
  | a :: r, hd, m, hm => by
    rw [DataW.weightsAll]
    rcases List.mem_cons.1 hd with rfl | hd
    · exact List.mem_append_left _ hm
    · exact List.mem_append_right _ (weights_memT hd m hm)
theorem open_scts {n : Nat} {cs : List Value} {x : DataW H × List MemPlace} (h : DataW.trod enc Tryz.prog w base spare held n 22 cs = some x) (hw : ∀ m ∈ x.1.weights Tryz.prog 22, m ≤ reachBytes) :
    ∃ (ao : Option Addr) (cap : Nat) (Y : List Sct), cs = [.slice ao Y.length cap] ∧ (0 < Y.length → ∃ b off, ao = some ⟨b, off, none⟩ ∧ SctS w b off Y) ∧ sumS Y ≤ Rows.uptoBulk x.1 := by
  rcases open_slice Tryz.underlying22 h with ⟨h0, h1⟩ | ⟨a, len, cap, m, k, D, Pl, rfl, hb, hl, hm, hmm, rfl, hx⟩
  · exact ⟨none, 0, [], h0, fun h => absurd h (by simp), Nat.zero_le _⟩
  · have hlm : len ≤ m := by rw [hmm]; split <;> omega
    have hu := Tryz.underlying22
    have each : ∀ i, i < len → ∃ y : Sct, w.cells? base (a.add (i * 3)) 3 = some [.int .i64 y.k, .int .i64 y.n, .string (str y.s)] ∧ I6 y.n ∧ y.s.length ≤ 140737488351232 ∧ y.s.length + 1 ≤ Rows.uptoBulk (D i) := by
      intro i hi
      obtain ⟨cs', h1, h2⟩ := hx i (by omega)
      rw [tcellsA] at h1
      obtain ⟨y, rfl, h3⟩ := open_sct h2 (fun z hz => hw z (by
        simp only [DataW.weights, hu]
        refine List.mem_cons_of_mem _ (List.mem_append_left _ (weights_memT (List.mem_map.2 ⟨i, List.mem_range.2 hi, rfl⟩) z hz))))
      exact ⟨y, h1, h3⟩
    haveI : Inhabited Sct := ⟨⟨0, 0, []⟩⟩
    obtain ⟨q, hq⟩ := choose_lt each
    have hlen : ((List.range len).map q).length = len := by simp
    refine ⟨some a, cap, (List.range len).map q, by rw [hlen], ?_, ?_⟩
    · intro hpos
      rw [hlen] at hpos
      obtain ⟨_, _, hc0⟩ := World.cells?_some (hq 0 hpos).1
      have hs0 := World.cell?_spot (hc0 0 (by simp))
      have hspot : a.spot = none := by simpa [Addr.add] using hs0
      obtain ⟨b, off, spot⟩ := a
      simp only at hspot
      subst hspot
      refine ⟨b, off, rfl, fun j hj => ?_⟩
      rw [hlen] at hj
      obtain ⟨h1, h2, h3, _⟩ := hq j hj
      obtain ⟨_, _, hc⟩ := World.cells?_some h1
      have g0 := hc 0 (by simp)
      have g1 := hc 1 (by simp)
      have g2 := hc 2 (by simp)
      have e : ∀ i, (((⟨b, off, none⟩ : Addr).add (j * 3)).add i) = ⟨b, off + j * 3 + i, none⟩ := fun i => by rw [Addr.add_lit, Addr.add_lit]
      rw [e] at g0 g1 g2
      simp only [List.getElem_map, List.getElem_range]
      exact ⟨by simpa using g0, by simpa using g1, by simpa using g2, h2, h3⟩
    · have := bulk_sum D q (List.range len) (fun i hi => by have := (hq i (List.mem_range.1 hi)).2.2.2; omega)
      simp only [Rows.uptoBulk]
      omega
end
end Go.Proofs.YtjemnkijoiehmaaGreatDoor
