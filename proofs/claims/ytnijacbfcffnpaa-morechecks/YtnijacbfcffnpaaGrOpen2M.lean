import Derived.Test.YtnijacbfcffnpaaMoChk
import Derived.Test.YtnijacbfcffnpaaMoR3
import Derived.Test.YtnijacbfcffnpaaGrRefKM
import Derived.Test.YtnijacbfcffnpaaGrRef
import Derived.Deep.CutBlock
import Derived.Test.YtnijacbfcffnpaaGrData
import Derived.Test.YtnijacbfcffnpaaProg
import Derived.WalkKit
import Derived.ProofKit
import Derived.OpenShut
import Derived.Deep.Slices
import Derived.Deep.Strs
import Derived.Lib.SmallJoins
import Derived.Test.YtnijacbfcffnpaaKnData
import Derived.ChangeSlices
import Derived.SizedLaws
section
/- The walk of the statement on all programs' parameters. -/
namespace Go.Proofs.Ytnijacbfcffnpaa
open Go.RowKit
theorem mref_n {w : World} {P : Nat → Prop} {ao : Option Addr} (G : List Vx) (n cap : Nat) (hn : n = G.length) (h : VxAt w P ao G) (hok : ∀ v ∈ G, v.ok) (hl : G.length * 40 ≤ 140737488355328) :
    Calls Try.prog 9 #[.agg #[.slice ao n cap]] w fun r w' => ∃ bo c, r = .returned (.slice bo n c) ∧ VxAt w' (fun _ => True) bo G ∧ Below w.heap.size w w' := by
  subst hn
  refine (ref_any G cap h hok hl).mono ?_
  rintro r w' ⟨bo, c, rfl, hV, hb⟩
  exact ⟨bo, c, rfl, hV.kept (Fr.refl _ (fun _ => False)) (fun _ _ _ => ⟨fun h => h, trivial⟩), hb⟩
theorem mchk_n {w : World} {P : Nat → Prop} {ao : Option Addr} (G : List Vx) (n cap : Nat) (hn : n = G.length) (h : VxAt w P ao G) (hok : ∀ v ∈ G, v.ok) (hl : G.length * 40 ≤ 140737488355328) :
    Calls Try.prog 10 #[.slice ao n cap] w fun r w' => r = .returned (.int .i64 (chk G)) ∧ Below w.heap.size w w' := by
  subst hn
  exact refcheck_any cap h (by omega) hok
theorem mc_ret {A : Act} {X : Nat → Value} {W : World} {post : Ending → World → Prop} {ds : List Nat} (h6 : 6 ∈ ds) (hsz : 6 < A.tmps.size) (hx : X 6 = .bool true) (hd : A.defers = []) (hp : post (.returned (.bool true)) W) : Code.wp Try.prog Code.ret (bodyPost Try.prog Try.f4 post) (puts A X ds) W := by
  have hv : (puts A X ds).tmps.getD 6 undef = .bool true := (eval_in (A := A) (X := X) h6 hsz).trans hx
  refine wp_ret (bodyPost_ret (v := .bool true) ?_ ((puts_defers A X ds).trans hd) hp)
  rw [results_tmp Try.results4, hv]
set_option maxRecDepth 100000 in
set_option maxHeartbeats 2000000 in
theorem law_mchecks {w : World} {P : Nat → Prop} {ao po : Option Addr} (s : ByteArray) (G : List Vx) (L : List Int) (n cap pn pc : Nat) (hn : n = G.length) (hp : pn = L.length) (hG : VxAt w P ao G) (hok : ∀ v ∈ G, v.ok) (hl : G.length * 40 ≤ 140737488355328) (hL : IsAt w po L) :
    Calls Try.prog 4 #[.string s, .agg #[.slice ao n cap], .slice po pn pc] w fun e w' => e = .returned (.bool true) ∧ Below w.heap.size w w' := by
  obtain ⟨W0, hW0⟩ : ∃ W0, w.alloc (.cells #[.slice ao n cap] 24) = W0 := ⟨_, rfl⟩
  have hB0 : Below w.heap.size w W0 := by rw [← hW0]; exact (Below.refl _ _).alloc (Nat.le_refl _) _
  have hcg : W0.cell? ⟨w.heap.size, 0, none⟩ = some (.slice ao n cap) := by
    have hh : W0.heap[w.heap.size]? = some (.cells #[.slice ao n cap] 24 (0, 0)) := by rw [← hW0]; exact heap_alloc_new _ _
    simp [World.cell?, hh]
  have HG : Hid (∀ W, Below W0.heap.size W0 W → VxAt W P ao G) := fun W hb => kc_new (kc_new hG hB0) hb
  have HL : Hid (∀ W, Below W0.heap.size W0 W → IsAt W po L) := fun W hb => (hL.new hB0).new hb
  have HRf : Hid (∀ W, Below W0.heap.size W0 W → Calls Try.prog 9 #[.agg #[.slice ao n cap]] W fun r w' => ∃ bo c, r = .returned (.slice bo n c) ∧ VxAt w' (fun _ => True) bo G ∧ Below W.heap.size W w') := fun W hb => mref_n G n cap hn (HG.out W hb) hok hl
  have HCk : Hid (∀ W bo c, VxAt W (fun _ => True) bo G → Calls Try.prog 10 #[.slice bo n c] W fun r w' => r = .returned (.int .i64 (chk G)) ∧ Below W.heap.size W w') := fun W bo c h => mchk_n G n c hn h hok hl
  have HCg : Hid _ := hcg
  have HB0 : Hid _ := hB0
  have HN : Hid _ := hn
  have HP : Hid _ := hp
  have HOk : Hid _ := hok
  clear hn hp hG hok hL hB0 hl
  by_cases hz : chk G = 0
  · rw [hz] at HCk
    obtain ⟨hl, hr⟩ := rise_of hz
    have HMc : Hid (∀ W, Below W0.heap.size W0 W → Calls Try.prog 14 #[.string s, .agg #[.slice ao n cap], .slice po pn pc] W fun r w' => r = .returned (.int .i64 (mcheckN s G L)) ∧ Below W.heap.size W w') := fun W hb => mocheck_any HN.out HP.out (HG.out W hb) HOk.out (HL.out W hb) hl hr
    have HRc : Hid (∀ W bo c, Below W0.heap.size W0 W → VxAt W (fun _ => True) bo G → Calls Try.prog 15 #[.string s, .slice bo n c, .slice po pn pc] W fun r w' => r = .returned (.int .i64 (mcheckN s G L)) ∧ Below W.heap.size W w') := fun W bo c hb hV => rcheck_all HN.out HP.out hV HOk.out (HL.out W hb) hl
    generalize mcheckN s G L = er at HMc HRc
    clear hz hl hr
    go_enter Try.func4, Try.ntmps4
    go_upto_region 3 with (first
      | (go_at_call 9; refine (HRf.out _ (Below.refl _ _)).mono ?_; rintro r w1 ⟨bo, c, rfl, hV1, hb1⟩; have HV1 : Hid _ := hV1; have HB1 : Hid _ := hb1; clear hV1 hb1)
      | (go_at_call 10; refine (HCk.out _ bo c HV1.out).mono ?_; rintro r w2 ⟨rfl, hb2⟩; have HB2 : Hid _ := HB1.out.trans (hb2.mono HB1.out.size); clear hb2))
    have hc2 := (HB2.out.cell (p := ⟨w.heap.size, 0, none⟩) (lt_cell HCg.out)).trans HCg.out
    refine mchecks_r3 (bx := w.heap.size) (kb := allS s) (er := er) (G := G) rfl rfl rfl rfl hc2 (fun W hb => awake8 W) (fun W hb => mknown_any s W) (fun W hb => rknown_all s W) (fun W hb => HMc.out W (HB2.out.trans (hb.mono HB2.out.size))) (fun W hb => HRf.out W (HB2.out.trans (hb.mono HB2.out.size))) (fun W bo c hb hV => HRc.out W bo c (HB2.out.trans (hb.mono HB2.out.size)) hV) ?_
    intro X W hb h6
    have hbw := HB2.out.trans (hb.mono HB2.out.size)
    rename_i hK
    exact hK _ _ (mc_ret (by decide) (by simp) h6 rfl ⟨rfl, HB0.out.trans (hbw.mono HB0.out.size)⟩)
  · have hzb : (chk G != 0) = true := by simpa using hz
    generalize chk G = cg at HCk hzb
    clear hz
    go_enter Try.func4, Try.ntmps4
    go_wp2_with (first
      | (go_at_call 9; refine (HRf.out _ (Below.refl _ _)).mono ?_; rintro r w1 ⟨bo, c, rfl, hV1, hb1⟩; have HV1 : Hid _ := hV1; have HB1 : Hid _ := hb1; clear hV1 hb1)
      | (go_at_call 10; refine (HCk.out _ bo c HV1.out).mono ?_; rintro r w2 ⟨rfl, hb2⟩; have HB2 : Hid _ := HB1.out.trans (hb2.mono HB1.out.size); clear hb2)
      | (go_at_call 11; refine (awake8 _).mono ?_; rintro r w3 ⟨rfl, hb3⟩; have HB3 : Hid _ := HB2.out.trans (hb3.mono HB2.out.size); clear hb3))
    go_ret
    exact ⟨rfl, HB0.out.trans (HB3.out.mono HB0.out.size)⟩
end Go.Proofs.Ytnijacbfcffnpaa
end

section
/- How edges, vertices and graphs that came in are opened. -/
namespace Go.Proofs.Ytnijacbfcffnpaa
open Go.RowKit Go.Deep Go.Joins Go.ChangeShapes
theorem cellsL : Try.prog.cellsOf 2 = 1 := by kernel_rfl
theorem cellsEs : Try.prog.cellsOf 51 = 1 := by kernel_rfl
theorem cellsVs : Try.prog.cellsOf 22 = 1 := by kernel_rfl
theorem cellsEd : Try.prog.cellsOf 50 = 2 := by kernel_rfl
theorem cellsVx : Try.prog.cellsOf 53 = 3 := by kernel_rfl
theorem cellsGr : Try.prog.cellsOf 24 = 1 := by kernel_rfl
theorem two_of {α : Type} {l : List α} (h : l.length = 2) : ∃ a b, l = [a, b] := by
  match l, h with
  | [a, b], _ => exact ⟨a, b, rfl⟩
theorem three_of {α : Type} {l : List α} (h : l.length = 3) : ∃ a b c, l = [a, b, c] := by
  match l, h with
  | [a, b, c], _ => exact ⟨a, b, c, rfl⟩
theorem add_none {b off : Nat} (j i : Nat) : (((⟨b, off, none⟩ : Addr).add j).add i) = ⟨b, off + j + i, none⟩ := by
  rw [add_add]
  unfold Addr.add
  split <;> simp_all <;> omega
section
variable {H : Type} {enc : TypeId × Value → H} {w : World} {base : Nat} {spare : Nat → Bool} {held : Bool}
def Ed.data (e : Ed) : DataW H := .agg [.lit (.int .i64 e.t), .lit (.int .i64 e.w)]
theorem i64_of {a : Int} (h : (Lit.int .i64 a).wf = true) : I64 a := by have := bounds_i64 h; unfold I64; omega
theorem open_ed {n : Nat} {cs : List Value} {x : DataW H × List MemPlace} (h : DataW.trod enc Try.prog w base spare held n 50 cs = some x) :
    ∃ y : Ed, cs = [.int .i64 y.t, .int .i64 y.w] ∧ x.1 = y.data ∧ y.ok := by
  obtain ⟨y0, y1, m, rfl, hl, h0, h1⟩ := trod_struct2 Try.underlying50 h
  rw [cellsEd] at hl
  obtain ⟨v0, v1, rfl⟩ := two_of hl
  simp only [cellsL] at h0 h1
  obtain ⟨a, e0, rfl, wa⟩ := DataW.trod_int Try.underlying2 h0
  obtain ⟨b, e1, rfl, wb⟩ := DataW.trod_int Try.underlying2 h1
  simp at e0 e1
  subst e0 e1
  exact ⟨⟨a, b⟩, rfl, rfl, ⟨i64_of wa, i64_of wb⟩⟩
theorem open_eds {n : Nat} {cs : List Value} {x : DataW H × List MemPlace} (h : DataW.trod enc Try.prog w base spare held n 51 cs = some x) :
    ∃ (ao : Option Addr) (cap : Nat) (L : List Ed), cs = [.slice ao L.length cap] ∧ (∀ y ∈ L, y.ok) ∧ L.length ≤ maxLen ∧ EdAt w (fun k => k < w.heap.size) ao L ∧ ((x.1 = .nil ∧ L = []) ∨ ∃ sp, x.1 = .slice (L.map Ed.data) sp) := by
  rcases open_slice Try.underlying51 h with ⟨h0, h1⟩ | ⟨a, len, cap, m, k, D, Pl, rfl, hb, hl, hm, hmm, rfl, hx⟩
  · exact ⟨none, 0, [], h0, fun y hy => (by cases hy), by simp, fun h => absurd h (by simp), Or.inl ⟨by rw [h1], rfl⟩⟩
  · have hlm : len ≤ m := by rw [hmm]; split <;> omega
    have each : ∀ i, i < len → ∃ y : Ed, w.cells? base (a.add (i * 2)) 2 = some [.int .i64 y.t, .int .i64 y.w] ∧ D i = y.data ∧ y.ok := by
      intro i hi
      obtain ⟨cs', h1, h2⟩ := hx i (by omega)
      rw [cellsEd] at h1
      obtain ⟨y, rfl, h3, h4⟩ := open_ed h2
      exact ⟨y, h1, h3, h4⟩
    haveI : Inhabited Ed := ⟨⟨0, 0⟩⟩
    obtain ⟨q, hq⟩ := choose_lt each
    have hlen : ((List.range len).map q).length = len := by simp
    refine ⟨some a, cap, (List.range len).map q, by rw [hlen], ?_, by rw [hlen]; omega, ?_, Or.inr ⟨(List.range (m - len)).map fun j => D (len + j), ?_⟩⟩
    · intro y hy
      obtain ⟨i, hi, rfl⟩ := List.mem_map.1 hy
      exact (hq i (List.mem_range.1 hi)).2.2
    · intro hpos
      rw [hlen] at hpos
      obtain ⟨_, _, hc0⟩ := World.cells?_some (hq 0 hpos).1
      have hs0 := World.cell?_spot (hc0 0 (by simp))
      have hspot : a.spot = none := by simpa [Addr.add] using hs0
      obtain ⟨b, off, spot⟩ := a
      simp only at hspot
      subst hspot
      have hcell : ∀ j (_ : j < len), w.cell? ⟨b, off + j * 2, none⟩ = some (.int .i64 (q j).t) ∧ w.cell? ⟨b, off + j * 2 + 1, none⟩ = some (.int .i64 (q j).w) := by
        intro j hj
        obtain ⟨_, _, hc⟩ := World.cells?_some (hq j hj).1
        have e0 := hc 0 (by simp)
        have e1 := hc 1 (by simp)
        rw [add_none] at e0 e1
        simp at e0 e1
        exact ⟨e0, e1⟩
      refine ⟨b, off, rfl, lt_cell (hcell 0 hpos).1, ?_⟩
      intro j hj
      have hj' : j < len := by simpa using hj
      simp only [List.getElem_map, List.getElem_range]
      exact hcell j hj'
    · show DataW.slice _ _ = _
      rw [List.map_map]
      congr 1
      exact List.map_congr_left (fun i hi => (hq i (List.mem_range.1 hi)).2.1)
/-- A vertex's three cells, opened. -/
theorem open_vx {n : Nat} {cs : List Value} {x : DataW H × List MemPlace} (h : DataW.trod enc Try.prog w base spare held n 53 cs = some x) :
    ∃ (y : Vx) (eo : Option Addr) (ec : Nat) (dx : DataW H), cs = [.int .i64 y.id, .int .i64 y.val, .slice eo y.es.length ec] ∧ I64 y.id ∧ I64 y.val ∧ (∀ e ∈ y.es, e.ok) ∧ y.es.length ≤ maxLen ∧ EdAt w (fun k => k < w.heap.size) eo y.es ∧ x.1 = .agg [.lit (.int .i64 y.id), .lit (.int .i64 y.val), dx] ∧ ((dx = .nil ∧ y.es = []) ∨ ∃ sp, dx = .slice (y.es.map Ed.data) sp) := by
  obtain ⟨y0, y1, y2, m, rfl, hl, h0, h1, h2⟩ := trod_struct3 Try.underlying53 h
  rw [cellsVx] at hl
  obtain ⟨v0, v1, v2, rfl⟩ := three_of hl
  simp only [cellsL, cellsEs] at h0 h1 h2
  obtain ⟨a, e0, rfl, wa⟩ := DataW.trod_int Try.underlying2 h0
  obtain ⟨b, e1, rfl, wb⟩ := DataW.trod_int Try.underlying2 h1
  obtain ⟨ao, cap, L, hcs, hok, hm, hE, hd⟩ := open_eds h2
  simp at e0 e1 hcs
  subst e0 e1 hcs
  exact ⟨⟨a, b, L⟩, ao, cap, y2.1, rfl, i64_of wa, i64_of wb, hok, hm, hE, rfl, hd⟩
end
end Go.Proofs.Ytnijacbfcffnpaa
end

section
/- How what a vertex is given is opened. -/
namespace Go.Proofs.Ytnijacbfcffnpaa
open Go.RowKit Go.Deep Go.Joins Go.ChangeShapes
/-- Messages lie in memory from an address on, in a block that P names. -/
def KsAt (w : World) (P : Nat → Prop) (ao : Option Addr) (L : List Msg) : Prop :=
  0 < L.length → ∃ b off, ao = some ⟨b, off, none⟩ ∧ P b ∧ ∀ j (h : j < L.length), w.cell? ⟨b, off + j * 4, none⟩ = some (.int .i64 L[j].f) ∧ w.cell? ⟨b, off + j * 4 + 1, none⟩ = some (.int .i64 L[j].t) ∧ w.cell? ⟨b, off + j * 4 + 2, none⟩ = some (.int .i64 L[j].a) ∧ w.cell? ⟨b, off + j * 4 + 3, none⟩ = some (.int .i64 L[j].v)
theorem KsAt.new {w w' : World} {P : Nat → Prop} {ao : Option Addr} {L : List Msg} (h : KsAt w P ao L) (hb : Below w.heap.size w w') : KsAt w' P ao L := by
  intro hl
  obtain ⟨b, off, e, hP, hc⟩ := h hl
  exact ⟨b, off, e, hP, fun j hj => by
    obtain ⟨c0, c1, c2, c3⟩ := hc j hj
    exact ⟨(hb.cell (p := ⟨b, _, none⟩) (lt_cell c0)).trans c0, (hb.cell (p := ⟨b, _, none⟩) (lt_cell c0)).trans c1, (hb.cell (p := ⟨b, _, none⟩) (lt_cell c0)).trans c2, (hb.cell (p := ⟨b, _, none⟩) (lt_cell c0)).trans c3⟩⟩
theorem k_cellsI : Try.prog.cellsOf 3 = 1 := by kernel_rfl
theorem k_cellsI6 : Try.prog.cellsOf 2 = 1 := by kernel_rfl
theorem k_cellsM : Try.prog.cellsOf 77 = 4 := by kernel_rfl
theorem k_cellsB : Try.prog.cellsOf 4 = 1 := by kernel_rfl
theorem k_cellsIn : Try.prog.cellsOf 79 = 18 := by kernel_rfl
theorem k_cellsVx : Try.prog.cellsOf 53 = 3 := by kernel_rfl
theorem k_cellsMs : Try.prog.cellsOf 67 = 1 := by kernel_rfl
theorem k_cellsPs : Try.prog.cellsOf 35 = 1 := by kernel_rfl
theorem k_cellsAg : Try.prog.cellsOf 72 = 10 := by kernel_rfl
theorem k_cellsA5 : Try.prog.cellsOf 69 = 5 := by kernel_rfl
theorem k_cellsI5 : Try.prog.cellsOf 70 = 5 := by kernel_rfl
theorem k_four_of {α : Type} {l : List α} (h : l.length = 4) : ∃ a b c d, l = [a, b, c, d] := by
  match l, h with
  | [a, b, c, d], _ => exact ⟨a, b, c, d, rfl⟩
theorem k_18_of {α : Type} {l : List α} (h : l.length = 18) : ∃ x0 x1 x2 x3 x4 x5 x6 x7 x8 x9 x10 x11 x12 x13 x14 x15 x16 x17, l = [x0, x1, x2, x3, x4, x5, x6, x7, x8, x9, x10, x11, x12, x13, x14, x15, x16, x17] := by
  match l, h with
  | [x0, x1, x2, x3, x4, x5, x6, x7, x8, x9, x10, x11, x12, x13, x14, x15, x16, x17], _ => exact ⟨x0, x1, x2, x3, x4, x5, x6, x7, x8, x9, x10, x11, x12, x13, x14, x15, x16, x17, rfl⟩
theorem k_add_none {b off : Nat} (j i : Nat) : (((⟨b, off, none⟩ : Addr).add j).add i) = ⟨b, off + j + i, none⟩ := by
  rw [add_add]
  unfold Addr.add
  split <;> simp_all <;> omega
section
variable {H : Type} {enc : TypeId × Value → H} {w : World} {base : Nat} {spare : Nat → Bool} {held : Bool}
theorem open_edsK {n : Nat} {cs : List Value} {x : DataW H × List MemPlace} (h : DataW.trod enc Try.prog w base spare held n 51 cs = some x) :
    ∃ (ao : Option Addr) (cap : Nat) (L : List Ed), cs = [.slice ao L.length cap] ∧ (∀ y ∈ L, y.ok) ∧ L.length ≤ cap ∧ (ao = none → cap = 0) ∧ EdAt w (fun k => k < w.heap.size) ao L ∧ ((x.1 = .nil ∧ L = []) ∨ ∃ sp, x.1 = .slice (L.map Ed.data) sp) := by
  rcases open_slice Try.underlying51 h with ⟨h0, h1⟩ | ⟨a, len, cap, m, k, D, Pl, rfl, hb, hl, hm, hmm, rfl, hx⟩
  · exact ⟨none, 0, [], h0, fun y hy => (by cases hy), by simp, fun _ => rfl, fun h => absurd h (by simp), Or.inl ⟨by rw [h1], rfl⟩⟩
  · have hlm : len ≤ m := by rw [hmm]; split <;> omega
    have each : ∀ i, i < len → ∃ y : Ed, w.cells? base (a.add (i * 2)) 2 = some [.int .i64 y.t, .int .i64 y.w] ∧ D i = y.data ∧ y.ok := by
      intro i hi
      obtain ⟨cs', h1, h2⟩ := hx i (by omega)
      rw [cellsEd] at h1
      obtain ⟨y, rfl, h3, h4⟩ := open_ed h2
      exact ⟨y, h1, h3, h4⟩
    haveI : Inhabited Ed := ⟨⟨0, 0⟩⟩
    obtain ⟨q, hq⟩ := choose_lt each
    have hlen : ((List.range len).map q).length = len := by simp
    refine ⟨some a, cap, (List.range len).map q, by rw [hlen], ?_, by rw [hlen]; exact hl, fun h => (by cases h), ?_, Or.inr ⟨(List.range (m - len)).map fun j => D (len + j), ?_⟩⟩
    · intro y hy
      obtain ⟨i, hi, rfl⟩ := List.mem_map.1 hy
      exact (hq i (List.mem_range.1 hi)).2.2
    · intro hpos
      rw [hlen] at hpos
      obtain ⟨_, _, hc0⟩ := World.cells?_some (hq 0 hpos).1
      have hs0 := World.cell?_spot (hc0 0 (by simp))
      have hspot : a.spot = none := by simpa [Addr.add] using hs0
      obtain ⟨b, off, spot⟩ := a
      simp only at hspot
      subst hspot
      have hcell : ∀ j (_ : j < len), w.cell? ⟨b, off + j * 2, none⟩ = some (.int .i64 (q j).t) ∧ w.cell? ⟨b, off + j * 2 + 1, none⟩ = some (.int .i64 (q j).w) := by
        intro j hj
        obtain ⟨_, _, hc⟩ := World.cells?_some (hq j hj).1
        have e0 := hc 0 (by simp)
        have e1 := hc 1 (by simp)
        rw [add_none] at e0 e1
        simp at e0 e1
        exact ⟨e0, e1⟩
      refine ⟨b, off, rfl, lt_cell (hcell 0 hpos).1, ?_⟩
      intro j hj
      have hj' : j < len := by simpa using hj
      simp only [List.getElem_map, List.getElem_range]
      exact hcell j hj'
    · show DataW.slice _ _ = _
      rw [List.map_map]
      congr 1
      exact List.map_congr_left (fun i hi => (hq i (List.mem_range.1 hi)).2.1)
def kData (m : Msg) : DataW H := .agg [.lit (.int .i64 m.f), .lit (.int .i64 m.t), .lit (.int .i64 m.a), .lit (.int .i64 m.v)]
theorem k_i64_of {a : Int} (h : (Lit.int .i64 a).wf = true) : I64 a := by have := bounds_i64 h; unfold I64; omega
theorem openK_msg {n : Nat} {cs : List Value} {x : DataW H × List MemPlace} (h : DataW.trod enc Try.prog w base spare held n 77 cs = some x) :
    ∃ y : Msg, cs = msgCells y ∧ x.1 = kData y ∧ y.ok := by
  obtain ⟨y0, y1, y2, y3, m, rfl, hl, h0, h1, h2, h3⟩ := trod_struct4 Try.underlying77 h
  rw [k_cellsM] at hl
  obtain ⟨v0, v1, v2, v3, rfl⟩ := k_four_of hl
  simp only [k_cellsI, k_cellsI6] at h0 h1 h2 h3
  obtain ⟨a, e0, rfl, wa⟩ := DataW.trod_int Try.underlying2 h0
  obtain ⟨b, e1, rfl, wb⟩ := DataW.trod_int Try.underlying2 h1
  obtain ⟨c, e2, rfl, wc⟩ := DataW.trod_int Try.underlying3 h2
  obtain ⟨d, e3, rfl, wd⟩ := DataW.trod_int Try.underlying2 h3
  simp at e0 e1 e2 e3
  subst e0 e1 e2 e3
  exact ⟨⟨a, b, c, d⟩, rfl, rfl, ⟨k_i64_of wa, k_i64_of wb, k_i64_of wc, k_i64_of wd⟩⟩
theorem openK_msgs {n : Nat} {cs : List Value} {x : DataW H × List MemPlace} (h : DataW.trod enc Try.prog w base spare held n 67 cs = some x) :
    ∃ (ao : Option Addr) (cap : Nat) (L : List Msg), cs = [.slice ao L.length cap] ∧ (∀ y ∈ L, y.ok) ∧ L.length ≤ cap ∧ (ao = none → cap = 0) ∧ KsAt w (fun k => k < w.heap.size) ao L ∧ ((x.1 = .nil ∧ L = []) ∨ ∃ sp, x.1 = .slice (L.map kData) sp) := by
  rcases open_slice Try.underlying67 h with ⟨h0, h1⟩ | ⟨a, len, cap, m, k, D, Pl, rfl, hb, hl, hm, hmm, rfl, hx⟩
  · exact ⟨none, 0, [], h0, fun y hy => (by cases hy), by simp, fun _ => rfl, fun h => absurd h (by simp), Or.inl ⟨by rw [h1], rfl⟩⟩
  · have hlm : len ≤ m := by rw [hmm]; split <;> omega
    have each : ∀ i, i < len → ∃ y : Msg, w.cells? base (a.add (i * 4)) 4 = some (msgCells y) ∧ D i = kData y ∧ y.ok := by
      intro i hi
      obtain ⟨cs', h1, h2⟩ := hx i (by omega)
      rw [k_cellsM] at h1
      obtain ⟨y, rfl, h3, h4⟩ := openK_msg h2
      exact ⟨y, h1, h3, h4⟩
    haveI : Inhabited Msg := ⟨⟨0, 0, 0, 0⟩⟩
    obtain ⟨q, hq⟩ := choose_lt each
    have hlen : ((List.range len).map q).length = len := by simp
    refine ⟨some a, cap, (List.range len).map q, by rw [hlen], ?_, by rw [hlen]; exact hl, fun h => (by cases h), ?_, Or.inr ⟨(List.range (m - len)).map fun j => D (len + j), ?_⟩⟩
    · intro y hy
      obtain ⟨i, hi, rfl⟩ := List.mem_map.1 hy
      exact (hq i (List.mem_range.1 hi)).2.2
    · intro hpos
      rw [hlen] at hpos
      obtain ⟨_, _, hc0⟩ := World.cells?_some (hq 0 hpos).1
      have hs0 := World.cell?_spot (hc0 0 (by simp))
      have hspot : a.spot = none := by simpa [Addr.add] using hs0
      obtain ⟨b, off, spot⟩ := a
      subst hspot
      have cells : ∀ j (hj : j < len), w.cell? ⟨b, off + j * 4, none⟩ = some (.int .i64 (q j).f) ∧ w.cell? ⟨b, off + j * 4 + 1, none⟩ = some (.int .i64 (q j).t) ∧ w.cell? ⟨b, off + j * 4 + 2, none⟩ = some (.int .i64 (q j).a) ∧ w.cell? ⟨b, off + j * 4 + 3, none⟩ = some (.int .i64 (q j).v) := by
        intro j hj
        obtain ⟨_, _, hc⟩ := World.cells?_some (hq j hj).1
        have g0 := hc 0 (by simp)
        have g1 := hc 1 (by simp)
        have g2 := hc 2 (by simp)
        have g3 := hc 3 (by simp)
        rw [k_add_none] at g0 g1 g2 g3
        exact ⟨g0, g1, g2, g3⟩
      refine ⟨b, off, rfl, lt_cell (cells 0 hpos).1, fun j hj => ?_⟩
      rw [hlen] at hj
      simpa using cells j hj
    · apply congrArg (fun l => DataW.slice l _)
      rw [List.map_map]
      refine List.map_congr_left fun i hi => ?_
      exact (hq i (List.mem_range.1 hi)).2.1
/-- Five truths, five numbers: each is one cell. -/
theorem openK_ag {n : Nat} {c0 c1 c2 c3 c4 c5 c6 c7 c8 c9 : Value} {x : DataW H × List MemPlace} (h : DataW.trod enc Try.prog w base spare held n 72 [c0, c1, c2, c3, c4, c5, c6, c7, c8, c9] = some x) :
    (c0.oneCell' = true ∧ c1.oneCell' = true ∧ c2.oneCell' = true ∧ c3.oneCell' = true ∧ c4.oneCell' = true) ∧ (c5.oneCell' = true ∧ c6.oneCell' = true ∧ c7.oneCell' = true ∧ c8.oneCell' = true ∧ c9.oneCell' = true) := by
  obtain ⟨y0, y1, m, rfl, hl, h0, h1⟩ := trod_struct2 Try.underlying72 h
  simp only [k_cellsA5, k_cellsI5] at h0 h1
  obtain ⟨xs, m0, rfl, _, _, hx, e0⟩ := DataW.trod_array Try.underlying69 h0
  obtain ⟨ys, m1, _, _, _, hy, e1⟩ := DataW.trod_array Try.underlying70 h1
  simp only [k_cellsB, k_cellsI6] at e0 e1
  have ob : ∀ (c : Value) (o : Option (DataW H × List MemPlace)), DataW.trod enc Try.prog w base spare held m0 4 [c] = o → o.isSome = true → c.oneCell' = true := by
    intro c o h ho
    obtain ⟨z, rfl⟩ := Option.isSome_iff_exists.1 ho
    obtain ⟨b, hb, _⟩ := DataW.trod_bool Try.underlying4 h
    simp at hb
    subst hb
    rfl
  have oi : ∀ (c : Value) (o : Option (DataW H × List MemPlace)), DataW.trod enc Try.prog w base spare held m1 2 [c] = o → o.isSome = true → c.oneCell' = true := by
    intro c o h ho
    obtain ⟨z, rfl⟩ := Option.isSome_iff_exists.1 ho
    obtain ⟨b, hb, _⟩ := DataW.trod_int Try.underlying2 h
    simp at hb
    subst hb
    rfl
  refine ⟨⟨ob _ _ (e0 0 (by decide)) ?_, ob _ _ (e0 1 (by decide)) ?_, ob _ _ (e0 2 (by decide)) ?_, ob _ _ (e0 3 (by decide)) ?_, ob _ _ (e0 4 (by decide)) ?_⟩, ⟨oi _ _ (e1 0 (by decide)) ?_, oi _ _ (e1 1 (by decide)) ?_, oi _ _ (e1 2 (by decide)) ?_, oi _ _ (e1 3 (by decide)) ?_, oi _ _ (e1 4 (by decide)) ?_⟩⟩
  all_goals simp [hx, hy]
/-- An Input's cells, opened. -/
structure InOk (w : World) (st id va ma : Int) (eo mo po : Option Addr) (ec mc pc : Nat) (E : List Ed) (M : List Msg) (Ps : List Int) (ha u0 u1 u2 u3 u4 u5 u6 u7 u8 u9 : Value) : Prop where
  hst : I64 st
  hid : I64 id
  hva : I64 va
  hma : I64 ma
  hE : EdAt w (fun k => k < w.heap.size) eo E
  hEok : ∀ e ∈ E, e.ok
  hEcap : E.length ≤ ec ∧ (eo = none → ec = 0)
  hM : KsAt w (fun k => k < w.heap.size) mo M
  hMok : ∀ m ∈ M, m.ok
  hMcap : M.length ≤ mc ∧ (mo = none → mc = 0)
  hP : 0 < Ps.length → ∃ b off, po = some ⟨b, off, none⟩ ∧ ∀ j (h : j < Ps.length), w.cell? ⟨b, off + j, none⟩ = some (.int .i64 Ps[j])
  hPok : ∀ p ∈ Ps, I64 p
  hone : ha.oneCell' = true ∧ (u0.oneCell' = true ∧ u1.oneCell' = true ∧ u2.oneCell' = true ∧ u3.oneCell' = true ∧ u4.oneCell' = true) ∧ (u5.oneCell' = true ∧ u6.oneCell' = true ∧ u7.oneCell' = true ∧ u8.oneCell' = true ∧ u9.oneCell' = true)
theorem openK_ints {n : Nat} {cs : List Value} {x : DataW H × List MemPlace} (h : DataW.trod enc Try.prog w base spare held n 35 cs = some x) :
    ∃ (ao : Option Addr) (cap : Nat) (L : List Int), cs = [.slice ao L.length cap] ∧ (∀ y ∈ L, I64 y) ∧ (0 < L.length → ∃ b off, ao = some ⟨b, off, none⟩ ∧ ∀ j (h : j < L.length), w.cell? ⟨b, off + j, none⟩ = some (.int .i64 L[j])) := by
  rcases open_ints Try.underlying35 Try.underlying2 k_cellsI6 h with ⟨hcs, _⟩ | ⟨a, len, cap, zs, hcs, _, hl, _, hz, _, hcell, hwz⟩
  · exact ⟨none, 0, [], hcs, fun y hy => (by cases hy), fun h => absurd h (by simp)⟩
  · have hlen : len ≤ zs.length := by rw [hz]; split <;> omega
    have e : (zs.take len).length = len := by rw [List.length_take]; omega
    refine ⟨some a, cap, zs.take len, by rw [e]; exact hcs, fun y hy => k_i64_of (hwz y (List.mem_of_mem_take hy)), fun hp => ?_⟩
    rw [e] at hp
    have c0 := hcell 0 (by omega)
    have hspot : a.spot = none := by simpa [Addr.add] using World.cell?_spot c0
    obtain ⟨b, off, spot⟩ := a
    simp only at hspot
    subst hspot
    refine ⟨b, off, rfl, fun j hj => ?_⟩
    rw [e] at hj
    have := hcell j (by omega)
    rw [Addr.add_lit] at this
    rw [this, List.getElem_take]
    simp [List.getD, show j < zs.length by omega]
theorem k_struct7 {t : TypeId} {f0 f1 f2 f3 f4 f5 f6 : Field} {fuel : Nat} {cs : List Value} {x : DataW H × List MemPlace} (ht : Try.prog.underlying t = some (.struct #[f0, f1, f2, f3, f4, f5, f6])) (h : DataW.trod enc Try.prog w base spare held fuel t cs = some x) :
    ∃ y0 y1 y2 y3 y4 y5 y6 n, x.1 = .agg [y0.1, y1.1, y2.1, y3.1, y4.1, y5.1, y6.1] ∧ cs.length = Try.prog.cellsOf t ∧ DataW.trod enc Try.prog w base spare held n f0.type ((cs.drop f0.offset).take (Try.prog.cellsOf f0.type)) = some y0 ∧ DataW.trod enc Try.prog w base spare held n f1.type ((cs.drop f1.offset).take (Try.prog.cellsOf f1.type)) = some y1 ∧ DataW.trod enc Try.prog w base spare held n f2.type ((cs.drop f2.offset).take (Try.prog.cellsOf f2.type)) = some y2 ∧ DataW.trod enc Try.prog w base spare held n f3.type ((cs.drop f3.offset).take (Try.prog.cellsOf f3.type)) = some y3 ∧ DataW.trod enc Try.prog w base spare held n f4.type ((cs.drop f4.offset).take (Try.prog.cellsOf f4.type)) = some y4 ∧ DataW.trod enc Try.prog w base spare held n f5.type ((cs.drop f5.offset).take (Try.prog.cellsOf f5.type)) = some y5 ∧ DataW.trod enc Try.prog w base spare held n f6.type ((cs.drop f6.offset).take (Try.prog.cellsOf f6.type)) = some y6 := by
  obtain ⟨xs, n, _, rfl, hl, hlen, hf⟩ := DataW.trod_struct ht h
  match xs, hlen with
  | [y0, y1, y2, y3, y4, y5, y6], _ => exact ⟨y0, y1, y2, y3, y4, y5, y6, n, by simp, hl, by simpa using hf 0 f0 rfl, by simpa using hf 1 f1 rfl, by simpa using hf 2 f2 rfl, by simpa using hf 3 f3 rfl, by simpa using hf 4 f4 rfl, by simpa using hf 5 f5 rfl, by simpa using hf 6 f6 rfl⟩
set_option maxRecDepth 100000 in
theorem openK_in {n : Nat} {cs : List Value} {x : DataW H × List MemPlace} (h : DataW.trod enc Try.prog w base spare held n 79 cs = some x) :
    ∃ (st id va ma : Int) (eo mo po : Option Addr) (ec mc pc : Nat) (E : List Ed) (M : List Msg) (Ps : List Int) (ha u0 u1 u2 u3 u4 u5 u6 u7 u8 u9 : Value) (dE : DataW H) (da db dc dd de df : DataW H), cs = [.int .i64 st, .int .i64 id, .int .i64 va, .slice eo E.length ec, ha, .slice mo M.length mc, u0, u1, u2, u3, u4, u5, u6, u7, u8, u9, .int .i64 ma, .slice po Ps.length pc] ∧ InOk w st id va ma eo mo po ec mc pc E M Ps ha u0 u1 u2 u3 u4 u5 u6 u7 u8 u9 ∧
      x.1 = .agg [da, .agg [.lit (.int .i64 id), .lit (.int .i64 va), dE], db, dc, dd, de, df] ∧ ((dE = .nil ∧ E = []) ∨ ∃ sp, dE = .slice (E.map Ed.data) sp) := by
  obtain ⟨y0, y1, y2, y3, y4, y5, y6, m, hx, hl, f0, f1, f2, f3, f4, f5, f6⟩ := k_struct7 Try.underlying79 h
  rw [k_cellsIn] at hl
  obtain ⟨x0, x1, x2, x3, x4, x5, x6, x7, x8, x9, x10, x11, x12, x13, x14, x15, x16, x17, rfl⟩ := k_18_of hl
  simp only [k_cellsI, k_cellsVx, k_cellsB, k_cellsMs, k_cellsAg, k_cellsPs, List.drop, List.take] at f0 f1 f2 f3 f4 f5 f6
  obtain ⟨st, e0, rfl, w0⟩ := DataW.trod_int Try.underlying3 f0
  obtain ⟨z0, z1, z2, m1, rfl, hl1, g0, g1, g2⟩ := trod_struct3 Try.underlying53 f1
  simp only [k_cellsI6, cellsEs, List.drop, List.take] at g0 g1 g2
  obtain ⟨id, e1, rfl, w1⟩ := DataW.trod_int Try.underlying2 g0
  obtain ⟨va, e2, rfl, w2⟩ := DataW.trod_int Try.underlying2 g1
  obtain ⟨eo, ec, E, e3, hEok, hEc, hEn, hE, hEd⟩ := open_edsK g2
  obtain ⟨hb, e4, rfl⟩ := DataW.trod_bool Try.underlying4 f2
  obtain ⟨mo, mc, M, e5, hMok, hMc, hMn, hM, _⟩ := openK_msgs f3
  have h1 := openK_ag f4
  obtain ⟨ma, e6, rfl, w6⟩ := DataW.trod_int Try.underlying3 f5
  obtain ⟨po, pc, Ps, e7, hPok, hP⟩ := openK_ints f6
  simp only [List.cons.injEq, and_true] at e0 e1 e2 e3 e4 e5 e6 e7
  subst e0 e1 e2 e3 e4 e5 e6 e7
  exact ⟨st, id, va, ma, eo, mo, po, ec, mc, pc, E, M, Ps, _, _, _, _, _, _, _, _, _, _, _, z2.1, _, _, _, _, _, _, rfl, ⟨k_i64_of w0, k_i64_of w1, k_i64_of w2, k_i64_of w6, hE, hEok, ⟨hEc, hEn⟩, hM, hMok, ⟨hMc, hMn⟩, hP, hPok, ⟨rfl, h1⟩⟩, hx, hEd⟩
end
end Go.Proofs.Ytnijacbfcffnpaa
end

section
/- How a graph that came in is opened, with its bounds. -/
namespace Go.Proofs.Ytnijacbfcffnpaa
open Go.RowKit Go.Deep Go.Joins Go.ChangeShapes
theorem bytesEd : Try.prog.bytesOf 50 = 16 := by kernel_rfl
theorem bytesVx : Try.prog.bytesOf 53 = 40 := by kernel_rfl
theorem mem_weightsAll {H : Type} {P : Program} {e : TypeId} : ∀ {ds : List (DataW H)} {d : DataW H} {n : Nat}, d ∈ ds → n ∈ d.weights P e → n ∈ DataW.weightsAll P e ds
  | [], _, _, h, _ => by cases h
  | d0 :: ds, d, n, h, hn => by
    simp only [DataW.weightsAll, List.mem_append]
    rcases List.mem_cons.1 h with rfl | h
    · exact Or.inl hn
    · exact Or.inr (mem_weightsAll h hn)
section
variable {H : Type} {enc : TypeId × Value → H} {w : World} {base : Nat} {spare : Nat → Bool} {held : Bool}
theorem vx_weight {y : Vx} {dx : DataW H} (hd : (dx = .nil ∧ y.es = []) ∨ ∃ sp, dx = .slice (y.es.map Ed.data) sp) (hw : ∀ m ∈ (DataW.agg [.lit (.int .i64 y.id), .lit (.int .i64 y.val), dx] : DataW H).weights Try.prog 53, m ≤ reachBytes) : y.es.length ≤ 8796093022208 := by
  rcases hd with ⟨_, h⟩ | ⟨sp, rfl⟩
  · rw [h]; simp
  · have := hw ((y.es.length + sp.length) * 16) (by
      have hu := Try.underlying53
      have hv := Try.underlying51
      simp [DataW.weights, DataW.weightsEach, hu, hv, bytesEd])
    unfold reachBytes at this
    omega
theorem open_vs {n : Nat} {cs : List Value} {x : DataW H × List MemPlace} (h : DataW.trod enc Try.prog w base spare held n 22 cs = some x) (hw : ∀ m ∈ x.1.weights Try.prog 22, m ≤ reachBytes) :
    ∃ (ao : Option Addr) (cap : Nat) (G : List Vx), cs = [.slice ao G.length cap] ∧ (∀ y ∈ G, y.ok) ∧ G.length * 40 ≤ 140737488355328 ∧ VxAt w (fun k => k < w.heap.size) ao G := by
  rcases open_slice Try.underlying22 h with ⟨h0, h1⟩ | ⟨a, len, cap, m, k, D, Pl, rfl, hb, hl, hm, hmm, rfl, hx⟩
  · exact ⟨none, 0, [], h0, fun y hy => (by cases hy), by simp, fun h => absurd h (by simp)⟩
  · have hlm : len ≤ m := by rw [hmm]; split <;> omega
    have hv := Try.underlying22
    have hlen40 : len * 40 ≤ 140737488355328 := by
      have := hw ((((List.range len).map D).length + ((List.range (m - len)).map fun j => D (len + j)).length) * 40) (by simp [DataW.weights, hv, bytesVx])
      unfold reachBytes at this
      simp only [List.length_map, List.length_range] at this
      omega
    have each : ∀ i, i < len → ∃ y : Vx, (∃ eo ec, w.cells? base (a.add (i * 3)) 3 = some [.int .i64 y.id, .int .i64 y.val, .slice eo y.es.length ec] ∧ EdAt w (fun k => k < w.heap.size) eo y.es) ∧ y.ok := by
      intro i hi
      obtain ⟨cs', h1, h2⟩ := hx i (by omega)
      rw [cellsVx] at h1
      obtain ⟨y, eo, ec, dx, rfl, hid, hvl, hes, _, hE, hD, hd⟩ := open_vx h2
      refine ⟨y, ⟨eo, ec, h1, hE⟩, hid, hvl, hes, vx_weight hd (fun m hm => hw m ?_)⟩
      simp only [DataW.weights, hv]
      refine List.mem_cons_of_mem _ (List.mem_append_left _ (mem_weightsAll (d := D i) (List.mem_map.2 ⟨i, List.mem_range.2 hi, rfl⟩) ?_))
      have hD' : D i = _ := hD
      rw [hD']
      exact hm
    haveI : Inhabited Vx := ⟨⟨0, 0, []⟩⟩
    obtain ⟨q, hq⟩ := choose_lt each
    have hlen : ((List.range len).map q).length = len := by simp
    refine ⟨some a, cap, (List.range len).map q, by rw [hlen], ?_, by rw [hlen]; exact hlen40, ?_⟩
    · intro y hy
      obtain ⟨i, hi, rfl⟩ := List.mem_map.1 hy
      exact (hq i (List.mem_range.1 hi)).2
    · intro hpos
      rw [hlen] at hpos
      obtain ⟨eo0, ec0, hq0, _⟩ := (hq 0 hpos).1
      obtain ⟨_, _, hc0⟩ := World.cells?_some hq0
      have hs0 := World.cell?_spot (hc0 0 (by simp))
      have hspot : a.spot = none := by simpa [Addr.add] using hs0
      obtain ⟨b, off, spot⟩ := a
      simp only at hspot
      subst hspot
      have hcell : ∀ j (_ : j < len), VxCell w (fun k => k < w.heap.size) b (off + j * 3) (q j) := by
        intro j hj
        obtain ⟨eo, ec, hqj, hE⟩ := (hq j hj).1
        obtain ⟨_, _, hc⟩ := World.cells?_some hqj
        have e0 := hc 0 (by simp)
        have e1 := hc 1 (by simp)
        have e2 := hc 2 (by simp)
        rw [add_none] at e0 e1 e2
        simp at e0 e1 e2
        exact ⟨eo, ec, e0, e1, e2, hE⟩
      refine ⟨b, off, rfl, ?_, ?_⟩
      · obtain ⟨_, _, e0, _⟩ := hcell 0 hpos
        exact lt_cell e0
      · intro j hj
        have hj' : j < len := by simpa using hj
        simp only [List.getElem_map, List.getElem_range]
        exact hcell j hj'
theorem open_gr {n : Nat} {cs : List Value} {x : DataW H × List MemPlace} (h : DataW.trod enc Try.prog w base spare held n 24 cs = some x) (hw : ∀ m ∈ x.1.weights Try.prog 24, m ≤ reachBytes) :
    ∃ (ao : Option Addr) (cap : Nat) (G : List Vx), cs = [.slice ao G.length cap] ∧ (∀ y ∈ G, y.ok) ∧ G.length * 40 ≤ 140737488355328 ∧ VxAt w (fun k => k < w.heap.size) ao G := by
  obtain ⟨y0, m, rfl, hl, h0⟩ := trod_struct1 Try.underlying24 h
  rw [cellsGr] at hl
  obtain ⟨v0, rfl⟩ : ∃ v, cs = [v] := List.length_eq_one_iff.1 hl
  simp only [cellsVs] at h0
  refine open_vs (x := y0) (by simpa using h0) (fun k hk => hw k ?_)
  have hu := Try.underlying24
  simp [DataW.weights, DataW.weightsEach, hu]
  exact hk
end
end Go.Proofs.Ytnijacbfcffnpaa
end
