import Derived.Test.YtckjjajncgmddaaRows
import Derived.Test.YtckjjajncgmddaaVwOpenM
import Derived.Test.YtckjjajncgmddaaVwOpenM
import Derived.ShutString
import Derived.ChangeOld
import Derived.SizedLaws
/- Proved: for every message, text and number of bulk at most 1048576 together, cohortlaw13.ViewBytes returns true, and its arguments read as they did. -/
namespace Go.Proofs.Ytckjjajncgmddaa
open Go.RowKit Go.Deep Go.Joins Go.ChangeShapes
section
variable {H : Type} {enc : TypeId × Value → H} {w : World} {base : Nat} {spare : Nat → Bool} {held : Bool}
theorem sum_bulkV (q : Nat → Ent) (D : Nat → DataW H) : ∀ l : List Nat, (∀ i ∈ l, (q i).s.size + 1 ≤ Rows.uptoBulk (D i)) → ((l.map q).map fun e => e.s.size).sum + l.length ≤ Rows.uptoBulkAll (l.map D)
  | [], _ => Nat.zero_le _
  | i :: l, h => by
    have h1 := h i List.mem_cons_self
    have h2 := sum_bulkV q D l (fun j hj => h j (List.mem_cons_of_mem _ hj))
    simp only [List.map_cons, List.sum_cons, Rows.uptoBulkAll, List.length_cons]
    omega
/-- Entries that came in, with their bulk. -/
theorem open_entsB {n : Nat} {cs : List Value} {x : DataW H × List MemPlace} (h : DataW.trod enc Try.prog w base spare held n 22 cs = some x) :
    ∃ (ao : Option Addr) (cap : Nat) (L : List Ent), cs = [.slice ao L.length cap] ∧ EnS w (.slice ao L.length cap) L ∧ (L.map fun e => e.s.size).sum + L.length ≤ Rows.uptoBulk x.1 := by
  rcases open_slice Try.underlying22 h with ⟨h0, h1⟩ | ⟨a, len, cap, m, k, D, Pl, rfl, hb, hl, hm, hmm, rfl, hx⟩
  · exact ⟨none, 0, [], h0, (EnO.nil w 0).toS, by simp⟩
  · have hlm : len ≤ m := by rw [hmm]; split <;> omega
    have each : ∀ i, i < len → ∃ y : Ent, w.cells? base (a.add (i * 2)) 2 = some [.int .i64 y.v, .string y.s] ∧ y.s.size + 1 ≤ Rows.uptoBulk (D i) := by
      intro i hi
      obtain ⟨cs', h1, h2⟩ := hx i (by omega)
      rw [vcellsE] at h1
      obtain ⟨y, rfl, h4, _⟩ := open_ent h2
      refine ⟨y, h1, ?_⟩
      have h4' : D i = _ := h4
      rw [h4']
      simp only [Rows.uptoBulk, Rows.uptoBulkAll]
      have : y.s.data.toList.length = y.s.size := by simp
      omega
    haveI : Inhabited Ent := ⟨⟨0, str []⟩⟩
    obtain ⟨q, hq⟩ := choose_lt each
    have hlen : ((List.range len).map q).length = len := by simp
    have hcap : len ≤ cap := by assumption
    refine ⟨some a, cap, (List.range len).map q, by rw [hlen], ⟨some a, cap, rfl, by rw [hlen]; exact hcap, ?_⟩, ?_⟩
    · intro hpos
      rw [hlen] at hpos
      obtain ⟨_, _, hc0⟩ := World.cells?_some (hq 0 hpos).1
      have hs0 := World.cell?_spot (hc0 0 (by simp))
      have hspot : a.spot = none := by simpa [Addr.add] using hs0
      obtain ⟨b, off, spot⟩ := a
      simp only at hspot
      subst hspot
      refine ⟨b, off, rfl, fun j hj => ?_⟩
      rw [hlen] at hj
      obtain ⟨_, _, hc⟩ := World.cells?_some (hq j hj).1
      have e0 := hc 0 (by simp)
      have e1 := hc 1 (by simp)
      rw [Addr.add_lit, Addr.add_lit] at e0 e1
      simp only [List.getElem_map, List.getElem_range]
      exact ⟨by simpa using e0, by simpa using e1⟩
    · have := sum_bulkV q D (List.range len) (fun i hi => (hq i (List.mem_range.1 hi)).2)
      rw [hlen]
      rw [List.length_range] at this
      simp only [Rows.uptoBulk]
      omega
/-- A message as it came in, with its bulk. -/
theorem open_msgB {n : Nat} {cs : List Value} {x : DataW H × List MemPlace} (h : DataW.trod enc Try.prog w base spare held n 24 cs = some x) :
    ∃ (m0 m1 m2 m3 m4 m5 m6 m7 m8 : Int) (bs : ByteArray) (ao : Option Addr) (cap : Nat) (L : List Ent), cs = [.int .i64 m0, .int .i64 m1, .int .i64 m2, .int .i64 m3, .int .i64 m4, .int .i64 m5, .int .i64 m6, .int .i64 m7, .int .i64 m8, .string bs, .slice ao L.length cap] ∧ EnS w (.slice ao L.length cap) L ∧ bs.size + (L.map fun e => e.s.size).sum + L.length ≤ Rows.uptoBulk x.1 := by
  obtain ⟨y0, y1, y2, y3, y4, y5, y6, y7, y8, y9, y10, m, hx, hl, f0, f1, f2, f3, f4, f5, f6, f7, f8, f9, f10⟩ := v_struct11 Try.underlying24 h
  rw [vcellsM] at hl
  obtain ⟨x0, x1, x2, x3, x4, x5, x6, x7, x8, x9, x10, rfl⟩ := eleven_ofV hl
  simp only [vcellsI, vcellsS, vcellsL, List.drop, List.take] at f0 f1 f2 f3 f4 f5 f6 f7 f8 f9 f10
  obtain ⟨a0, e0, _, w0⟩ := DataW.trod_int Try.underlying3 f0
  obtain ⟨a1, e1, _, w1⟩ := DataW.trod_int Try.underlying3 f1
  obtain ⟨a2, e2, _, w2⟩ := DataW.trod_int Try.underlying3 f2
  obtain ⟨a3, e3, _, w3⟩ := DataW.trod_int Try.underlying3 f3
  obtain ⟨a4, e4, _, w4⟩ := DataW.trod_int Try.underlying3 f4
  obtain ⟨a5, e5, _, w5⟩ := DataW.trod_int Try.underlying3 f5
  obtain ⟨a6, e6, _, w6⟩ := DataW.trod_int Try.underlying3 f6
  obtain ⟨a7, e7, _, w7⟩ := DataW.trod_int Try.underlying3 f7
  obtain ⟨a8, e8, _, w8⟩ := DataW.trod_int Try.underlying3 f8
  obtain ⟨s9, e9, g9, _⟩ := DataW.trod_string Try.underlying9 f9
  obtain ⟨ao, cap, L, e10, hL, hsum⟩ := open_entsB f10
  simp only [List.cons.injEq, and_true] at e0 e1 e2 e3 e4 e5 e6 e7 e8 e9 e10
  subst e0 e1 e2 e3 e4 e5 e6 e7 e8 e9 e10
  refine ⟨a0, a1, a2, a3, a4, a5, a6, a7, a8, s9, ao, cap, L, rfl, hL, ?_⟩
  rw [hx, g9]
  simp only [Rows.uptoBulk, Rows.uptoBulkAll]
  have : s9.data.toList.length = s9.size := by simp
  omega
end
end Go.Proofs.Ytckjjajncgmddaa
namespace Go.Proofs.Ytckjjajncgmddaa.viewBytes
open Go.ChangeShapes Go.WideShapes Go.ChangeAt Go.RowKit
open Go.ChangeMaps (open_string shut_string)
theorem own : ownKnob Try.prog.godebug = none := by kernel_rfl
theorem laidOut : laidOutB Try.prog = true := by kernel_rfl
set_option maxRecDepth 100000 in
theorem small {H : Type} {d d' d'' : DataW H} (hk : Rows.uptoSmall H [d, d', d''] = true) : Rows.uptoBulk d + Rows.uptoBulk d' ≤ 1048576 := by
  have h := of_decide_eq_true hk
  simp only [Rows.uptoBulkAll] at h
  omega
set_option maxRecDepth 100000 in
theorem contract (H : Type) (enc : TypeId × Value → H) (W : World) (base : Nat) (args : Array Value) (ds gs : List (DataW H)) (before : List MemPlace)
    (hval : ∀ (j : Nat) t v, Try.f3.params[j]? = some t → args[j]? = some v → Value.okWide Try.prog W .any base t v)
    (hW : DataW.Whole enc Try.prog Try.f3.params.toList Rows.viewBytesSpec.vars false W args.toList ds gs before) (hk : Rows.uptoSmall H (ds ++ gs) = true) :
    Calls Try.prog 3 args W fun e W' => ∃ v, e = .returned v ∧ Rows.viewBytesSpec.post enc Try.prog Try.f3 false true false false W args v W' := by
  have hW' := hW
  obtain ⟨p, q, hA0, hV, rfl, hfz, hnd⟩ := hW
  have hA : DataW.TrodAll enc Try.prog W 0 (fun _ => true) true Try.f3.params.toList args.toList ds p := hA0
  rw [Try.params3] at hA hval
  obtain ⟨v1, vs1, d1, ds1, p1, q1, hargs, rfl, rfl, h1, r1⟩ := trodAll_cons hA
  obtain ⟨v2, vs2, d2, ds2, p2, q2, rfl, rfl, rfl, h2, r2⟩ := trodAll_cons r1
  obtain ⟨v3, vs3, d3, ds3, p3, q3, rfl, rfl, rfl, h3, r3⟩ := trodAll_cons r2
  obtain ⟨rfl, rfl, rfl⟩ := trodAll_nil r3
  obtain rfl : args = #[v1, v2, v3] := by cases args; simp_all
  obtain ⟨rfl, rfl⟩ := trodVars_none hV
  obtain ⟨cs, rfl, -⟩ := okWide_struct Try.underlying24 (hval 0 24 v1 rfl rfl)
  have k1 := h1
  have lt1 : ∀ x ∈ p1, x.block < W.heap.size := by obtain ⟨m, hm⟩ := k1; exact DataW.trod_lt m _ _ _ hm
  obtain ⟨s2, rfl, rfl, rfl, w2⟩ := open_string Try.underlying9 (hval 1 9 v2 rfl rfl) h2
  obtain ⟨a3, rfl, rfl, rfl, w3⟩ := open_int Try.underlying3 (hval 2 3 v3 rfl rfl) h3
  clear hA0
  simp only [List.append_nil] at hk
  have key : Calls Try.prog 3 #[.agg cs, .string s2, .int .i64 a3] W fun e w' => e = .returned (.bool true) ∧ Below W.heap.size W w' := by
    obtain ⟨fuel, hf⟩ := h1
    obtain ⟨m0, m1, m2, m3, m4, m5, m6, m7, m8, bs, ao, cap, L, hcs, hL, hsum⟩ := open_msgB hf
    obtain rfl : cs = #[.int .i64 m0, .int .i64 m1, .int .i64 m2, .int .i64 m3, .int .i64 m4, .int .i64 m5, .int .i64 m6, .int .i64 m7, .int .i64 m8, .string bs, .slice ao L.length cap] := by cases cs; simpa [Value.cells] using hcs
    have hb := small hk
    have hs : bs.size + (L.map fun e => e.s.size).sum + L.length ≤ Rows.uptoBulk d1 := hsum
    simp only [Rows.uptoBulk] at hb
    have h2 : s2.data.toList.length = s2.size := by simp
    exact vbytes_any m0 m1 m2 m3 m4 m5 m6 m7 m8 bs s2 ao L.length cap a3 L hL rfl (by omega) (by omega) (by omega) (by omega)
  refine key.mono fun e W' ⟨he, bel⟩ => ?_
  subst he
  exact ⟨_, rfl, _, _, _, [], _, [], hW', trodAll_mk1 (shut_bool Try.underlying4 _), (trodAll_cons_mk (Below.trod laidOut (by kernel_rfl) (of_decide_eq_true (by kernel_rfl)) k1 bel lt1) (trodAll_cons_mk (shut_string Try.underlying9 w2) (trodAll_cons_mk (shut_int Try.underlying3 w3) trodAll_mk0))), rfl, bel.frame _, fun h => by cases h⟩

set_option maxRecDepth 100000 in
theorem lifted (os : Os) (started : os.Started) (H : Type) (enc : TypeId × Value → H) (F : Stop.Interp) :
    ReturnsInHanded {} Try.checked os 3 .any ((Rows.OpenSpec.upto Rows.viewBytesSpec).pre6 enc Try.prog Try.f3 Rows.viewBytesUptoRow.domain false) (((Rows.OpenSpec.upto Rows.viewBytesSpec).at F).post enc Try.prog Try.f3 false true false false) := by
  refine returnsInHanded_of_cond (C := Try.checked) (s := Rows.OpenSpec.upto Rows.viewBytesSpec) (k := Rows.uptoSmall) rfl own started (by kernel_rfl) Try.func3
    (OpenSpec.witness (enc := enc) (C := Try.checked) (s := Rows.OpenSpec.upto Rows.viewBytesSpec) (k := Rows.uptoSmall) rfl false ⟨#[], #[.agg #[.int .i64 0, .int .i64 0, .int .i64 0, .int .i64 0, .int .i64 0, .int .i64 0, .int .i64 0, .int .i64 0, .int .i64 0, .string (str []), .slice none 0 0], .string (str []), .int .i64 0], []⟩ 8 (by kernel_rfl) (by kernel_rfl) (by kernel_rfl)
      (x := ([.agg [.lit (.int .i64 0), .lit (.int .i64 0), .lit (.int .i64 0), .lit (.int .i64 0), .lit (.int .i64 0), .lit (.int .i64 0), .lit (.int .i64 0), .lit (.int .i64 0), .lit (.int .i64 0), .lit (.string []), .nil], .lit (.string []), .lit (.int .i64 0)], [], [])) (by kernel_rfl) rfl (by kernel_rfl)) ?_
  intro W base args ds gs before hval hW _ hk _
  exact contract H enc W base args ds gs before hval hW hk

theorem over : Rows.ViewBytesUptoSaid :=
  OpenClaim.holds_of_cond 3 Try.f3 rfl rfl rfl rfl rfl rfl rfl ⟨rfl, rfl, rfl, rfl, rfl⟩ rfl rfl rfl rfl rfl (by kernel_rfl) Try.func3 (by kernel_rfl)
    (of_decide_eq_true (by kernel_rfl)) (by unfold Func.isWrapper; first | (rw [if_pos (by decide +kernel)]; kernel_rfl) | (rw [if_neg (by decide +kernel)]; exact ⟨rfl, rfl⟩))
    (fun os started H enc _ F => lifted os started H enc F)
end Go.Proofs.Ytckjjajncgmddaa.viewBytes
namespace Go.Proofs.Ytckjjajncgmddaa
theorem viewBytesUpto_holds : Rows.ViewBytesUptoSaid := viewBytes.over
#print axioms viewBytesUpto_holds
end Go.Proofs.Ytckjjajncgmddaa
