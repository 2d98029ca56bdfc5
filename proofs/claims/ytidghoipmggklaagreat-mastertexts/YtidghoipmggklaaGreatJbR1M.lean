import Derived.Test.YtidghoipmggklaaGreatAgGetM
import Derived.Test.YtidghoipmggklaaGreatGrDataM
import Derived.Test.YtidghoipmggklaaGreatProg
import Derived.WalkKit
import Derived.ProofKit
import Derived.OpenShut
import Derived.Deep.Slices
import Derived.Deep.Strs
import Derived.Lib.SmallJoins
import Derived.SizedLaws
import Derived.Test.YtidghoipmggklaaGreatJbMM
import Derived.ChangeSlices
import Derived.Test.YtidghoipmggklaaGreatGrRefM
import Derived.Test.YtidghoipmggklaaGreatGrBytesM
import Derived.Test.YtidghoipmggklaaGreatGrPutM
import Derived.Deep.RegionHeld
import Derived.Test.YtidghoipmggklaaGreatJbDecM
section
/- Small of any job. -/
namespace Go.Proofs.YtidghoipmggklaaGreat
open Go.RowKit
attribute [local go_sem] Oper.semAt_some
/-- A job in its box, beside the box of what is returned. -/
structure SmI (w W : World) (g gr : Nat) (C : Array Value) : Prop where
  k : W.heap[g]? = some (.cells C 27 (0, 0))
  r : W.heap[gr]? = some (.cells #[.string ⟨#[]⟩, .slice none 0 0, .slice none 0 0, .int .i64 0, .int .i64 0, .int .i64 0] 27 (0, 0))
  lo : Below w.heap.size w W
  ap : w.heap.size ≤ g ∧ gr ≠ g ∧ w.heap.size ≤ gr
theorem SmI.put {w W : World} {g gr : Nat} {C : Array Value} (h : SmI w W g gr C) (i : Nat) (v : Value) : SmI w (W.setCell ⟨g, i, none⟩ v) g gr (C.setIfInBounds i v) := by
  have f : Fr W (W.setCell ⟨g, i, none⟩ v) (fun k => k = g) := Fr.setCell (S := fun k => k = g) _ _ _ rfl
  exact ⟨ma_set v h.k, (f.block gr (ma_lt h.r) h.ap.2.1).trans h.r, h.lo.trans (f.below h.lo.size (fun k hk => by rw [hk]; exact h.ap.1)), h.ap⟩
theorem SmI.fz {w W : World} {g gr : Nat} {C : Array Value} (h : SmI w W g gr C) (i : Nat) : W.frozen? ⟨g, i, none⟩ = false := by simp [World.frozen?, h.k]
set_option maxRecDepth 100000 in
set_option maxHeartbeats 2000000 in
theorem sm_any {w : World} {t : ByteArray} {go po : Option Addr} {n gc m pc : Nat} {st se pa : Int} (hc : n ≤ gc) (hc2 : gc ≤ 9223372036854775807) : Calls Tryz.prog 35 #[.agg #[.string t, .slice go n gc, .slice po m pc, .int .i64 st, .int .i64 se, .int .i64 pa]] w fun r w' => (∃ (n1 : Nat) (st1 se1 : Int), (n1 ≤ 30 ∧ n1 ≤ n) ∧ r = .returned (.agg #[.string t, .slice go n1 gc, .slice po m pc, .int .i64 st1, .int .i64 se1, .int .i64 pa])) ∧ Below w.heap.size w w' := by
  obtain ⟨W0, hW0⟩ : ∃ W0, w.alloc (.cells #[.string t, .slice go n gc, .slice po m pc, .int .i64 st, .int .i64 se, .int .i64 pa] 27) = W0 := ⟨_, rfl⟩
  obtain ⟨W1, hW1⟩ : ∃ W1, W0.alloc (.cells #[.string ⟨#[]⟩, .slice none 0 0, .slice none 0 0, .int .i64 0, .int .i64 0, .int .i64 0] 27) = W1 := ⟨_, rfl⟩
  have b0 : Below w.heap.size w W0 := by rw [← hW0]; exact ma_new _ _
  have b1 : Below W0.heap.size W0 W1 := by rw [← hW1]; exact ma_new _ _
  have k0 := heap_alloc_new w (.cells #[.string t, .slice go n gc, .slice po m pc, .int .i64 st, .int .i64 se, .int .i64 pa] 27)
  have k1 := heap_alloc_new W0 (.cells #[.string ⟨#[]⟩, .slice none 0 0, .slice none 0 0, .int .i64 0, .int .i64 0, .int .i64 0] 27)
  rw [hW0] at k0
  rw [hW1] at k1
  obtain ⟨g, hg⟩ : ∃ g, w.heap.size = g := ⟨_, rfl⟩
  obtain ⟨gr, hgr⟩ : ∃ gr, W0.heap.size = gr := ⟨_, rfl⟩
  have hgl : gr = g + 1 := by rw [← hgr, ← hW0, World.size_alloc, hg]
  have HI : Hid (SmI w W1 g gr #[.string t, .slice go n gc, .slice po m pc, .int .i64 st, .int .i64 se, .int .i64 pa]) := ⟨by rw [hg] at k0; exact (b1.block g (ma_lt k0)).trans k0, by rw [hgr] at k1; exact k1, b0.trans (b1.mono b0.size), by omega, by omega, by omega⟩
  have c1 : W1.cell? ⟨g, 1, none⟩ = some (.slice go n gc) := by simp [World.cell?, HI.out.k]
  have f1 := HI.out.fz 1
  have HP : Hid (∀ v, SmI w (W1.setCell ⟨g, 1, none⟩ v) g gr #[.string t, v, .slice po m pc, .int .i64 st, .int .i64 se, .int .i64 pa]) := fun v => HI.out.put 1 v
  have HG : Hid (w.heap.size = g) := hg
  clear b0 b1 k0 k1 hgl
  go_enter Tryz.func35, Tryz.ntmps35
  go_upto_if 7 with fail
  go_cut [8, 9, 10, 11, 12, 13] (fun _ _ _ _ _ _ wx => ∃ n1 : Nat, (n1 ≤ 30 ∧ n1 ≤ n) ∧ Hid (SmI w wx g gr #[.string t, .slice go n1 gc, .slice po m pc, .int .i64 st, .int .i64 se, .int .i64 pa]))
  case first =>
    by_cases hn : 30 < n
    · have hni : (30 : Int) < n := by omega
      have hci : (30 : Int) ≤ gc := by omega
      go_wp2
      go_meet
      exact ⟨30, ⟨Nat.le_refl _, by omega⟩, HP.out _⟩
    · have hni : ¬ (30 : Int) < n := by omega
      go_wp2
      go_meet
      exact ⟨n, ⟨by omega, Nat.le_refl _⟩, HI⟩
  case rest =>
    obtain ⟨n1, hn1, HI⟩ := hcut
    have HN : Hid (n1 ≤ 30 ∧ n1 ≤ n) := hn1
    clear hn1 c1 f1 HP
    have c3 : wc.cell? ⟨g, 3, none⟩ = some (.int .i64 st) := by simp [World.cell?, HI.out.k]
    have f3 := HI.out.fz 3
    have HP : Hid (∀ v, SmI w (wc.setCell ⟨g, 3, none⟩ v) g gr #[.string t, .slice go n1 gc, .slice po m pc, v, .int .i64 se, .int .i64 pa]) := fun v => HI.out.put 3 v
    go_upto_if 16 with fail
    go_cut [17] (fun _ wx => ∃ st1 : Int, Hid (SmI w wx g gr #[.string t, .slice go n1 gc, .slice po m pc, .int .i64 st1, .int .i64 se, .int .i64 pa]))
    case first =>
      by_cases hn : 60 < st
      · go_wp2
        go_meet
        exact ⟨_, HP.out _⟩
      · go_wp2
        go_meet
        exact ⟨_, HI⟩
    case rest =>
      obtain ⟨st1, HJ⟩ := hcut
      clear c3 f3 HP HI
      have c4 : wc.cell? ⟨g, 4, none⟩ = some (.int .i64 se) := by simp [World.cell?, HJ.out.k]
      have f4 := HJ.out.fz 4
      have HP : Hid (∀ v, SmI w (wc.setCell ⟨g, 4, none⟩ v) g gr #[.string t, .slice go n1 gc, .slice po m pc, .int .i64 st1, v, .int .i64 pa]) := fun v => HJ.out.put 4 v
      go_upto_if 20 with fail
      go_cut [21] (fun _ wx => ∃ se1 : Int, Hid (SmI w wx g gr #[.string t, .slice go n1 gc, .slice po m pc, .int .i64 st1, .int .i64 se1, .int .i64 pa]))
      case first =>
        by_cases hn : 3000 < se
        · go_wp2
          go_meet
          exact ⟨_, HP.out _⟩
        · go_wp2
          go_meet
          exact ⟨_, HJ⟩
      case rest =>
        obtain ⟨se1, HK⟩ := hcut
        clear c4 f4 HP HJ
        go_wp2_with (first
          | (refine wpList_load_row rfl 27 _ rfl g rfl 27 #[.string t, .slice go n1 gc, .slice po m pc, .int .i64 st1, .int .i64 se1, .int .i64 pa] (0, 0) _ HK.out.k Tryz.underlying27 rfl size_jobJ ?_)
          | (refine wpList_store_row rfl 27 _ _ rfl gr #[.string t, .slice go n1 gc, .slice po m pc, .int .i64 st1, .int .i64 se1, .int .i64 pa] rfl rfl 27 #[.string ⟨#[]⟩, .slice none 0 0, .slice none 0 0, .int .i64 0, .int .i64 0, .int .i64 0] HK.out.r size_jobJ rfl (by simp [Value.oneCell']) ?_))
        refine bodyPost_ret (v := .agg #[.string t, .slice go n1 gc, .slice po m pc, .int .i64 st1, .int .i64 se1, .int .i64 pa]) (results_cell_row Tryz.results35 _ _ gr 27 _ (0, 0) _ rfl (setRow_heap _ _ _ _ _ _ HK.out.r) Tryz.underlying27 rfl size_jobJ) rfl ?_
        exact ⟨⟨n1, st1, se1, HN.out, rfl⟩, HK.out.lo.trans ((ap_setRow wc gr _).below HK.out.lo.size (fun k hk => by rw [hk]; exact HK.out.ap.2.2))⟩
end Go.Proofs.YtidghoipmggklaaGreat
end

section
/- How edges, vertices and graphs that came in are opened. -/
namespace Go.Proofs.YtidghoipmggklaaGreat
open Go.RowKit Go.Deep Go.Joins Go.ChangeShapes
theorem cellsL : Tryz.prog.cellsOf 2 = 1 := by kernel_rfl
theorem cellsEs : Tryz.prog.cellsOf 112 = 1 := by kernel_rfl
theorem cellsVs : Tryz.prog.cellsOf 22 = 1 := by kernel_rfl
theorem cellsEd : Tryz.prog.cellsOf 111 = 2 := by kernel_rfl
theorem cellsVx : Tryz.prog.cellsOf 114 = 3 := by kernel_rfl
theorem cellsGr : Tryz.prog.cellsOf 24 = 1 := by kernel_rfl
theorem two_of {α : Type} {l : List α} (h : l.length = 2) : ∃ a b, l = [a, b] := by
  match l, h with
  | [a, b], _ => exact ⟨a, b, rfl⟩
theorem three_of {α : Type} {l : List α} (h : l.length = 3) : ∃ a b c, l = [a, b, c] := by
  match l, h with
  | [a, b, c], _ => exact ⟨a, b, c, rfl⟩
theorem add_none {b off : Nat} (j i : Nat) : (((⟨b, off, none⟩ : Addr).add j).add i) = ⟨b, off + j + i, none⟩ := by
  rw [add_add]
  unfold Addr.add
  split <;> simp_all <;> omega
section
variable {H : Type} {enc : TypeId × Value → H} {w : World} {base : Nat} {spare : Nat → Bool} {held : Bool}
def Ed.data (e : Ed) : DataW H := .agg [.lit (.int .i64 e.t), .lit (.int .i64 e.w)]
theorem i64_of {a : Int} (h : (Lit.int .i64 a).wf = true) : I64 a := by have := bounds_i64 h; unfold I64; omega
theorem open_ed {n : Nat} {cs : List Value} {x : DataW H × List MemPlace} (h : DataW.trod enc Tryz.prog w base spare held n 111 cs = some x) :
    ∃ y : Ed, cs = [.int .i64 y.t, .int .i64 y.w] ∧ x.1 = y.data ∧ y.ok := by
  obtain ⟨y0, y1, m, rfl, hl, h0, h1⟩ := trod_struct2 Tryz.underlying111 h
  rw [cellsEd] at hl
  obtain ⟨v0, v1, rfl⟩ := two_of hl
  simp only [cellsL] at h0 h1
  obtain ⟨a, e0, rfl, wa⟩ := DataW.trod_int Tryz.underlying2 h0
  obtain ⟨b, e1, rfl, wb⟩ := DataW.trod_int Tryz.underlying2 h1
  simp at e0 e1
  subst e0 e1
  exact ⟨⟨a, b⟩, rfl, rfl, ⟨i64_of wa, i64_of wb⟩⟩
theorem open_eds {n : Nat} {cs : List Value} {x : DataW H × List MemPlace} (h : DataW.trod enc Tryz.prog w base spare held n 112 cs = some x) :
    ∃ (ao : Option Addr) (cap : Nat) (L : List Ed), cs = [.slice ao L.length cap] ∧ (∀ y ∈ L, y.ok) ∧ L.length ≤ maxLen ∧ EdAt w (fun k => k < w.heap.size) ao L ∧ ((x.1 = .nil ∧ L = []) ∨ ∃ sp, x.1 = .slice (L.map Ed.data) sp) := by
  rcases open_slice Tryz.underlying112 h with ⟨h0, h1⟩ | ⟨a, len, cap, m, k, D, Pl, rfl, hb, hl, hm, hmm, rfl, hx⟩
  · exact ⟨none, 0, [], h0, fun y hy => (by cases hy), by simp, fun h => absurd h (by simp), Or.inl ⟨by rw [h1], rfl⟩⟩
  · have hlm : len ≤ m := by rw [hmm]; split <;> omega
    have each : ∀ i, i < len → ∃ y : Ed, w.cells? base (a.add (i * 2)) 2 = some [.int .i64 y.t, .int .i64 y.w] ∧ D i = y.data ∧ y.ok := by
      intro i hi
      obtain ⟨cs', h1, h2⟩ := hx i (by omega)
      rw [cellsEd] at h1
      obtain ⟨y, rfl, h3, h4⟩ := open_ed h2
      exact ⟨y, h1, h3, h4⟩
    haveI : Inhabited Ed := ⟨⟨0, 0⟩⟩
    obtain ⟨q, hq⟩ := choose_lt each
    have hlen : ((List.range len).map q).length = len := by simp
    refine ⟨some a, cap, (List.range len).map q, by rw [hlen], ?_, by rw [hlen]; omega, ?_, Or.inr ⟨(List.range (m - len)).map fun j => D (len + j), ?_⟩⟩
    · intro y hy
      obtain ⟨i, hi, rfl⟩ := List.mem_map.1 hy
      exact (hq i (List.mem_range.1 hi)).2.2
    · intro hpos
      rw [hlen] at hpos
      obtain ⟨_, _, hc0⟩ := World.cells?_some (hq 0 hpos).1
      have hs0 := World.cell?_spot (hc0 0 (by simp))
      have hspot : a.spot = none := by simpa [Addr.add] using hs0
      obtain ⟨b, off, spot⟩ := a
      simp only at hspot
      subst hspot
      have hcell : ∀ j (_ : j < len), w.cell? ⟨b, off + j * 2, none⟩ = some (.int .i64 (q j).t) ∧ w.cell? ⟨b, off + j * 2 + 1, none⟩ = some (.int .i64 (q j).w) := by
        intro j hj
        obtain ⟨_, _, hc⟩ := World.cells?_some (hq j hj).1
        have e0 := hc 0 (by simp)
        have e1 := hc 1 (by simp)
        rw [add_none] at e0 e1
        simp at e0 e1
        exact ⟨e0, e1⟩
      refine ⟨b, off, rfl, lt_cell (hcell 0 hpos).1, ?_⟩
      intro j hj
      have hj' : j < len := by simpa using hj
      simp only [List.getElem_map, List.getElem_range]
      exact hcell j hj'
    · show DataW.slice _ _ = _
      rw [List.map_map]
      congr 1
      exact List.map_congr_left (fun i hi => (hq i (List.mem_range.1 hi)).2.1)
/-- A vertex's three cells, opened. -/
theorem open_vx {n : Nat} {cs : List Value} {x : DataW H × List MemPlace} (h : DataW.trod enc Tryz.prog w base spare held n 114 cs = some x) :
    ∃ (y : Vx) (eo : Option Addr) (ec : Nat) (dx : DataW H), cs = [.int .i64 y.id, .int .i64 y.val, .slice eo y.es.length ec] ∧ I64 y.id ∧ I64 y.val ∧ (∀ e ∈ y.es, e.ok) ∧ y.es.length ≤ maxLen ∧ EdAt w (fun k => k < w.heap.size) eo y.es ∧ x.1 = .agg [.lit (.int .i64 y.id), .lit (.int .i64 y.val), dx] ∧ ((dx = .nil ∧ y.es = []) ∨ ∃ sp, dx = .slice (y.es.map Ed.data) sp) := by
  obtain ⟨y0, y1, y2, m, rfl, hl, h0, h1, h2⟩ := trod_struct3 Tryz.underlying114 h
  rw [cellsVx] at hl
  obtain ⟨v0, v1, v2, rfl⟩ := three_of hl
  simp only [cellsL, cellsEs] at h0 h1 h2
  obtain ⟨a, e0, rfl, wa⟩ := DataW.trod_int Tryz.underlying2 h0
  obtain ⟨b, e1, rfl, wb⟩ := DataW.trod_int Tryz.underlying2 h1
  obtain ⟨ao, cap, L, hcs, hok, hm, hE, hd⟩ := open_eds h2
  simp at e0 e1 hcs
  subst e0 e1 hcs
  exact ⟨⟨a, b, L⟩, ao, cap, y2.1, rfl, i64_of wa, i64_of wb, hok, hm, hE, rfl, hd⟩
end
end Go.Proofs.YtidghoipmggklaaGreat
end

section
/- How a graph that came in is opened, with its bounds. -/
namespace Go.Proofs.YtidghoipmggklaaGreat
open Go.RowKit Go.Deep Go.Joins Go.ChangeShapes
theorem bytesEd : Tryz.prog.bytesOf 111 = 16 := by kernel_rfl
theorem bytesVx : Tryz.prog.bytesOf 114 = 40 := by kernel_rfl
theorem mem_weightsAll {H : Type} {P : Program} {e : TypeId} : ∀ {ds : List (DataW H)} {d : DataW H} {n : Nat}, d ∈ ds → n ∈ d.weights P e → n ∈ DataW.weightsAll P e ds
  | [], _, _, h, _ => by cases h
  | d0 :: ds, d, n, h, hn => by
    simp only [DataW.weightsAll, List.mem_append]
    rcases List.mem_cons.1 h with rfl | h
    · exact Or.inl hn
    · exact Or.inr (mem_weightsAll h hn)
section
variable {H : Type} {enc : TypeId × Value → H} {w : World} {base : Nat} {spare : Nat → Bool} {held : Bool}
theorem vx_weight {y : Vx} {dx : DataW H} (hd : (dx = .nil ∧ y.es = []) ∨ ∃ sp, dx = .slice (y.es.map Ed.data) sp) (hw : ∀ m ∈ (DataW.agg [.lit (.int .i64 y.id), .lit (.int .i64 y.val), dx] : DataW H).weights Tryz.prog 114, m ≤ reachBytes) : y.es.length ≤ 8796093022208 := by
  rcases hd with ⟨_, h⟩ | ⟨sp, rfl⟩
  · rw [h]; simp
  · have := hw ((y.es.length + sp.length) * 16) (by
      have hu := Tryz.underlying114
      have hv := Tryz.underlying112
      simp [DataW.weights, DataW.weightsEach, hu, hv, bytesEd])
    unfold reachBytes at this
    omega
theorem open_vs {n : Nat} {cs : List Value} {x : DataW H × List MemPlace} (h : DataW.trod enc Tryz.prog w base spare held n 22 cs = some x) (hw : ∀ m ∈ x.1.weights Tryz.prog 22, m ≤ reachBytes) :
    ∃ (ao : Option Addr) (cap : Nat) (G : List Vx), cs = [.slice ao G.length cap] ∧ (∀ y ∈ G, y.ok) ∧ G.length * 40 ≤ 140737488355328 ∧ VxAt w (fun k => k < w.heap.size) ao G := by
  rcases open_slice Tryz.underlying22 h with ⟨h0, h1⟩ | ⟨a, len, cap, m, k, D, Pl, rfl, hb, hl, hm, hmm, rfl, hx⟩
  · exact ⟨none, 0, [], h0, fun y hy => (by cases hy), by simp, fun h => absurd h (by simp)⟩
  · have hlm : len ≤ m := by rw [hmm]; split <;> omega
    have hv := Tryz.underlying22
    have hlen40 : len * 40 ≤ 140737488355328 := by
      have := hw ((((List.range len).map D).length + ((List.range (m - len)).map fun j => D (len + j)).length) * 40) (by simp [DataW.weights, hv, bytesVx])
      unfold reachBytes at this
      simp only [List.length_map, List.length_range] at this
      omega
    have each : ∀ i, i < len → ∃ y : Vx, (∃ eo ec, w.cells? base (a.add (i * 3)) 3 = some [.int .i64 y.id, .int .i64 y.val, .slice eo y.es.length ec] ∧ EdAt w (fun k => k < w.heap.size) eo y.es) ∧ y.ok := by
      intro i hi
      obtain ⟨cs', h1, h2⟩ := hx i (by omega)
      rw [cellsVx] at h1
      obtain ⟨y, eo, ec, dx, rfl, hid, hvl, hes, _, hE, hD, hd⟩ := open_vx h2
      refine ⟨y, ⟨eo, ec, h1, hE⟩, hid, hvl, hes, vx_weight hd (fun m hm => hw m ?_)⟩
      simp only [DataW.weights, hv]
      refine List.mem_cons_of_mem _ (List.mem_append_left _ (mem_weightsAll (d := D i) (List.mem_map.2 ⟨i, List.mem_range.2 hi, rfl⟩) ?_))
      have hD' : D i = _ := hD
      rw [hD']
      exact hm
    haveI : Inhabited Vx := ⟨⟨0, 0, []⟩⟩
    obtain ⟨q, hq⟩ := choose_lt each
    have hlen : ((List.range len).map q).length = len := by simp
    refine ⟨some a, cap, (List.range len).map q, by rw [hlen], ?_, by rw [hlen]; exact hlen40, ?_⟩
    · intro y hy
      obtain ⟨i, hi, rfl⟩ := List.mem_map.1 hy
      exact (hq i (List.mem_range.1 hi)).2
    · intro hpos
      rw [hlen] at hpos
      obtain ⟨eo0, ec0, hq0, _⟩ := (hq 0 hpos).1
      obtain ⟨_, _, hc0⟩ := World.cells?_some hq0
      have hs0 := World.cell?_spot (hc0 0 (by simp))
      have hspot : a.spot = none := by simpa [Addr.add] using hs0
      obtain ⟨b, off, spot⟩ := a
      simp only at hspot
      subst hspot
      have hcell : ∀ j (_ : j < len), VxCell w (fun k => k < w.heap.size) b (off + j * 3) (q j) := by
        intro j hj
        obtain ⟨eo, ec, hqj, hE⟩ := (hq j hj).1
        obtain ⟨_, _, hc⟩ := World.cells?_some hqj
        have e0 := hc 0 (by simp)
        have e1 := hc 1 (by simp)
        have e2 := hc 2 (by simp)
        rw [add_none] at e0 e1 e2
        simp at e0 e1 e2
        exact ⟨eo, ec, e0, e1, e2, hE⟩
      refine ⟨b, off, rfl, ?_, ?_⟩
      · obtain ⟨_, _, e0, _⟩ := hcell 0 hpos
        exact lt_cell e0
      · intro j hj
        have hj' : j < len := by simpa using hj
        simp only [List.getElem_map, List.getElem_range]
        exact hcell j hj'
theorem open_gr {n : Nat} {cs : List Value} {x : DataW H × List MemPlace} (h : DataW.trod enc Tryz.prog w base spare held n 24 cs = some x) (hw : ∀ m ∈ x.1.weights Tryz.prog 24, m ≤ reachBytes) :
    ∃ (ao : Option Addr) (cap : Nat) (G : List Vx), cs = [.slice ao G.length cap] ∧ (∀ y ∈ G, y.ok) ∧ G.length * 40 ≤ 140737488355328 ∧ VxAt w (fun k => k < w.heap.size) ao G := by
  obtain ⟨y0, m, rfl, hl, h0⟩ := trod_struct1 Tryz.underlying24 h
  rw [cellsGr] at hl
  obtain ⟨v0, rfl⟩ : ∃ v, cs = [v] := List.length_eq_one_iff.1 hl
  simp only [cellsVs] at h0
  refine open_vs (x := y0) (by simpa using h0) (fun k hk => hw k ?_)
  have hu := Tryz.underlying24
  simp [DataW.weights, DataW.weightsEach, hu]
  exact hk
end
end Go.Proofs.YtidghoipmggklaaGreat
end

section
/- How what a vertex is given is opened. -/
namespace Go.Proofs.YtidghoipmggklaaGreat
open Go.RowKit Go.Deep Go.Joins Go.ChangeShapes
/-- Messages lie in memory from an address on, in a block that P names. -/
def KsAt (w : World) (P : Nat → Prop) (ao : Option Addr) (L : List Msg) : Prop :=
  0 < L.length → ∃ b off, ao = some ⟨b, off, none⟩ ∧ P b ∧ ∀ j (h : j < L.length), w.cell? ⟨b, off + j * 4, none⟩ = some (.int .i64 L[j].f) ∧ w.cell? ⟨b, off + j * 4 + 1, none⟩ = some (.int .i64 L[j].t) ∧ w.cell? ⟨b, off + j * 4 + 2, none⟩ = some (.int .i64 L[j].a) ∧ w.cell? ⟨b, off + j * 4 + 3, none⟩ = some (.int .i64 L[j].v)
theorem KsAt.new {w w' : World} {P : Nat → Prop} {ao : Option Addr} {L : List Msg} (h : KsAt w P ao L) (hb : Below w.heap.size w w') : KsAt w' P ao L := by
  intro hl
  obtain ⟨b, off, e, hP, hc⟩ := h hl
  exact ⟨b, off, e, hP, fun j hj => by
    obtain ⟨c0, c1, c2, c3⟩ := hc j hj
    exact ⟨(hb.cell (p := ⟨b, _, none⟩) (lt_cell c0)).trans c0, (hb.cell (p := ⟨b, _, none⟩) (lt_cell c0)).trans c1, (hb.cell (p := ⟨b, _, none⟩) (lt_cell c0)).trans c2, (hb.cell (p := ⟨b, _, none⟩) (lt_cell c0)).trans c3⟩⟩
theorem k_cellsI6 : Tryz.prog.cellsOf 2 = 1 := by kernel_rfl
theorem k_cellsB : Tryz.prog.cellsOf 4 = 1 := by kernel_rfl
theorem k_cellsA5 : Tryz.prog.cellsOf 51 = 5 := by kernel_rfl
theorem k_cellsI5 : Tryz.prog.cellsOf 52 = 5 := by kernel_rfl
section
variable {H : Type} {enc : TypeId × Value → H} {w : World} {base : Nat} {spare : Nat → Bool} {held : Bool}
theorem k_i64_of {a : Int} (h : (Lit.int .i64 a).wf = true) : I64 a := by have := bounds_i64 h; unfold I64; omega
theorem openK_ints {n : Nat} {cs : List Value} {x : DataW H × List MemPlace} (h : DataW.trod enc Tryz.prog w base spare held n 25 cs = some x) :
    ∃ (ao : Option Addr) (cap : Nat) (L : List Int), cs = [.slice ao L.length cap] ∧ (∀ y ∈ L, I64 y) ∧ (0 < L.length → ∃ b off, ao = some ⟨b, off, none⟩ ∧ ∀ j (h : j < L.length), w.cell? ⟨b, off + j, none⟩ = some (.int .i64 L[j])) := by
  rcases open_ints Tryz.underlying25 Tryz.underlying2 k_cellsI6 h with ⟨hcs, _⟩ | ⟨a, len, cap, zs, hcs, _, hl, _, hz, _, hcell, hwz⟩
  · exact ⟨none, 0, [], hcs, fun y hy => (by cases hy), fun h => absurd h (by simp)⟩
  · have hlen : len ≤ zs.length := by rw [hz]; split <;> omega
    have e : (zs.take len).length = len := by rw [List.length_take]; omega
    refine ⟨some a, cap, zs.take len, by rw [e]; exact hcs, fun y hy => k_i64_of (hwz y (List.mem_of_mem_take hy)), fun hp => ?_⟩
    rw [e] at hp
    have c0 := hcell 0 (by omega)
    have hspot : a.spot = none := by simpa [Addr.add] using World.cell?_spot c0
    obtain ⟨b, off, spot⟩ := a
    simp only at hspot
    subst hspot
    refine ⟨b, off, rfl, fun j hj => ?_⟩
    rw [e] at hj
    have := hcell j (by omega)
    rw [Addr.add_lit] at this
    rw [this, List.getElem_take]
    simp [List.getD, show j < zs.length by omega]
end
end Go.Proofs.YtidghoipmggklaaGreat
end

section
/- How a job that came in is opened. -/
namespace Go.Proofs.YtidghoipmggklaaGreat
open Go.RowKit Go.Deep Go.Joins Go.ChangeShapes
theorem cellsJob : Tryz.prog.cellsOf 27 = 6 := by kernel_rfl
theorem cellsStrJ : Tryz.prog.cellsOf 9 = 1 := by kernel_rfl
theorem cellsGrJ : Tryz.prog.cellsOf 24 = 1 := by kernel_rfl
theorem cellsPsJ : Tryz.prog.cellsOf 25 = 1 := by kernel_rfl
theorem cellsIntJ : Tryz.prog.cellsOf 3 = 1 := by kernel_rfl
theorem six_ofJ {α : Type} {l : List α} (h : l.length = 6) : ∃ a b c d e f, l = [a, b, c, d, e, f] := by
  match l, h with
  | [a, b, c, d, e, f], _ => exact ⟨a, b, c, d, e, f, rfl⟩
section
variable {H : Type} {enc : TypeId × Value → H} {w : World} {base : Nat} {spare : Nat → Bool} {held : Bool}
theorem j_struct6 {t : TypeId} {f0 f1 f2 f3 f4 f5 : Field} {fuel : Nat} {cs : List Value} {x : DataW H × List MemPlace} (ht : Tryz.prog.underlying t = some (.struct #[f0, f1, f2, f3, f4, f5])) (h : DataW.trod enc Tryz.prog w base spare held fuel t cs = some x) :
    ∃ y0 y1 y2 y3 y4 y5 n, x.1 = .agg [y0.1, y1.1, y2.1, y3.1, y4.1, y5.1] ∧ cs.length = Tryz.prog.cellsOf t ∧ DataW.trod enc Tryz.prog w base spare held n f0.type ((cs.drop f0.offset).take (Tryz.prog.cellsOf f0.type)) = some y0 ∧ DataW.trod enc Tryz.prog w base spare held n f1.type ((cs.drop f1.offset).take (Tryz.prog.cellsOf f1.type)) = some y1 ∧ DataW.trod enc Tryz.prog w base spare held n f2.type ((cs.drop f2.offset).take (Tryz.prog.cellsOf f2.type)) = some y2 ∧ DataW.trod enc Tryz.prog w base spare held n f3.type ((cs.drop f3.offset).take (Tryz.prog.cellsOf f3.type)) = some y3 ∧ DataW.trod enc Tryz.prog w base spare held n f4.type ((cs.drop f4.offset).take (Tryz.prog.cellsOf f4.type)) = some y4 ∧ DataW.trod enc Tryz.prog w base spare held n f5.type ((cs.drop f5.offset).take (Tryz.prog.cellsOf f5.type)) = some y5 := by
  obtain ⟨xs, n, _, rfl, hl, hlen, hf⟩ := DataW.trod_struct ht h
  match xs, hlen with
  | [y0, y1, y2, y3, y4, y5], _ => exact ⟨y0, y1, y2, y3, y4, y5, n, by simp, hl, by simpa using hf 0 f0 rfl, by simpa using hf 1 f1 rfl, by simpa using hf 2 f2 rfl, by simpa using hf 3 f3 rfl, by simpa using hf 4 f4 rfl, by simpa using hf 5 f5 rfl⟩
theorem openJ_ints {n : Nat} {cs : List Value} {x : DataW H × List MemPlace} (h : DataW.trod enc Tryz.prog w base spare held n 25 cs = some x) :
    ∃ (ao : Option Addr) (cap : Nat) (L : List Int), cs = [.slice ao L.length cap] ∧ (∀ y ∈ L, I64 y) ∧ L.length ≤ maxLen ∧ (0 < L.length → ∃ b off, ao = some ⟨b, off, none⟩ ∧ ∀ j (h : j < L.length), w.cell? ⟨b, off + j, none⟩ = some (.int .i64 L[j])) := by
  obtain ⟨ao, cap, L, hcs, h1, h2⟩ := openK_ints h
  refine ⟨ao, cap, L, hcs, h1, ?_, h2⟩
  rcases open_ints Tryz.underlying25 Tryz.underlying2 k_cellsI6 h with ⟨hcs', _⟩ | ⟨a, len, cap', zs, hcs', _, hl, hm, _⟩
  · rw [hcs] at hcs'
    simp at hcs'
    rw [hcs'.2.1]
    simp
  · rw [hcs] at hcs'
    simp at hcs'
    omega
theorem open_job {n : Nat} {cs : List Value} {x : DataW H × List MemPlace} (h : DataW.trod enc Tryz.prog w base spare held n 27 cs = some x) (hw : ∀ m ∈ x.1.weights Tryz.prog 27, m ≤ reachBytes) :
    ∃ (t : ByteArray) (go po : Option Addr) (gc pc : Nat) (G : List Vx) (ps : List Int) (st se pa : Int), cs = [.string t, .slice go G.length gc, .slice po ps.length pc, .int .i64 st, .int .i64 se, .int .i64 pa] ∧ (∀ y ∈ G, y.ok) ∧ G.length * 40 ≤ 140737488355328 ∧ VxAt w (fun k => k < w.heap.size) go G ∧ (∀ y ∈ ps, I64 y) ∧ ps.length ≤ maxLen ∧ IsAt w po ps := by
  obtain ⟨y0, y1, y2, y3, y4, y5, m, hx, hl, f0, f1, f2, f3, f4, f5⟩ := j_struct6 Tryz.underlying27 h
  rw [cellsJob] at hl
  obtain ⟨x0, x1, x2, x3, x4, x5, rfl⟩ := six_ofJ hl
  simp only [cellsStrJ, cellsGrJ, cellsPsJ, cellsIntJ, List.drop, List.take] at f0 f1 f2 f3 f4 f5
  obtain ⟨t, e0, _, _⟩ := DataW.trod_string Tryz.underlying9 f0
  obtain ⟨go, gc, G, e1, hok, hlen, hG⟩ := open_gr f1 (fun k hk => hw k (by
    have hu := Tryz.underlying27
    rw [hx]
    simp [DataW.weights, DataW.weightsEach, hu]
    exact Or.inr (Or.inl hk)))
  obtain ⟨po, pc, ps, e2, hpk, hpl, hP⟩ := openJ_ints f2
  obtain ⟨st, e3, _, _⟩ := DataW.trod_int Tryz.underlying3 f3
  obtain ⟨se, e4, _, _⟩ := DataW.trod_int Tryz.underlying3 f4
  obtain ⟨pa, e5, _, _⟩ := DataW.trod_int Tryz.underlying3 f5
  simp only [List.cons.injEq, and_true] at e0 e1 e2 e3 e4 e5
  subst e0 e1 e2 e3 e4 e5
  exact ⟨t, go, po, gc, pc, G, ps, st, se, pa, rfl, hok, hlen, hG, hpk, hpl, hP⟩
end
end Go.Proofs.YtidghoipmggklaaGreat
end

section
/- As RegV, where an operation reads a slot that a later one of the region writes. -/
namespace Go.Proofs.YtidghoipmggklaaGreat
open Go Go.RowKit
section
variable {P : Program} {Q : Exit → Act → World → Prop} {md : Region.Mode}
/-- Number s waits for number i, by others too. -/
def waitsB (md : Region.Mode) (all : List Oper) : Nat → Nat → Nat → Bool
  | 0, _, _ => false
  | f + 1, s, i => match all[s]? with
    | some o => o.after.any fun e => Region.binds md e && (e.on == i || waitsB md all f e.on i)
    | none => false
theorem waits_on {all : List Oper} {on : Nat → Prop} (hc : ∀ k o, all[k]? = some o → on k → ∀ m, needs md o m = true → on m) : ∀ (f s i : Nat), waitsB md all f s i = true → on s → on i
  | 0, _, _, h, _ => by cases h
  | f + 1, s, i, h, hs => by
    unfold waitsB at h
    cases ho : all[s]? with
    | none => rw [ho] at h; cases h
    | some o =>
      rw [ho] at h
      obtain ⟨e, he, h2⟩ := Array.any_eq_true'.1 h
      rw [Bool.and_eq_true, Bool.or_eq_true] at h2
      have hm : on e.on := hc s o ho hs e.on (Array.any_eq_true'.2 ⟨e, he, by rw [h2.1]; simp⟩)
      rcases h2.2 with h3 | h3
      · rw [← show e.on = i by simpa using h3]; exact hm
      · exact waits_on hc f e.on i h3 hm
end
end Go.Proofs.YtidghoipmggklaaGreat
end

section
/- A region that draws its order, lays new blocks alone and has operations that are done only where a truth says so: what each operation gives, in any order. -/
namespace Go.Proofs.YtidghoipmggklaaGreat
open Go Go.RowKit
section
variable {P : Program} {Q : Exit → Act → World → Prop} {md : Region.Mode}
/-- Is the operation done, where the truths that guard others are these? -/
def wantG (gb : Nat → Bool) (o : Oper) : Bool := match o.guard with
  | none => true
  | some (j, want) => gb j == want
/-- Each operation waits for earlier ones alone, and for its guard. -/
def orderB (md : Region.Mode) (ops : List Oper) : Bool := (List.range ops.length).all fun i => match ops[i]? with
  | some o => (o.after.all fun e => !Region.binds md e || decide (e.on < i)) && (match o.guard with
    | none => true
    | some (j, _) => needs md o j && decide (j < ops.length))
  | none => true
theorem orderB_at {ops : List Oper} (h : orderB md ops = true) {i : Nat} {o : Oper} (ho : ops[i]? = some o) : (∀ e ∈ o.after, Region.binds md e = true → e.on < i) ∧ ∀ j want, o.guard = some (j, want) → needs md o j = true ∧ j < ops.length := by
  have hlt : i < ops.length := (List.getElem?_eq_some_iff.1 ho).1
  have := List.all_eq_true.1 h i (List.mem_range.2 hlt)
  rw [ho] at this
  simp only [Bool.and_eq_true] at this
  refine ⟨fun e he hb => ?_, fun j want hg => ?_⟩
  · have := Array.all_eq_true'.1 this.1 e he
    rw [hb] at this
    simpa using this
  · have h2 := this.2
    rw [hg] at h2
    simp only [Bool.and_eq_true, decide_eq_true_eq] at h2
    exact h2
theorem all_onG {ops : List Oper} (hp : orderB md ops = true) {listed : Array Bool} (hs : listed.size = ops.length) (hr : Region.ready md ops.toArray listed = []) : ∀ i, i < ops.length → onL listed i := by
  intro i
  induction i using Nat.strongRecOn with
  | ind i ih =>
    intro hi
    by_cases h : listed.getD i true = false
    · exfalso
      have : i ∈ Region.ready md ops.toArray listed := by
        refine mem_ready.2 ⟨h, ops[i], by simp [hi], fun e he hb => ?_⟩
        have hlt := (orderB_at hp (i := i) (o := ops[i]) (by simp [hi])).1 e he hb
        exact ih e.on hlt (by omega)
      rw [hr] at this
      cases this
    · unfold onL
      rw [Array.getD_eq_getD_getElem?] at h ⊢
      have hil : i < listed.size := by omega
      simp [hil] at h ⊢
      exact h
def StepsG (P : Program) (md : Region.Mode) (Q : Exit → Act → World → Prop) (A : Act) (ds : List Nat) (all : List Oper) (V : Nat → Value → World → Prop) (gb : Nat → Bool) (W0 : World) : Nat → List Oper → Prop
  | _, [] => True
  | i, o :: os => ((wantG gb o = true → ∀ X W, Below W0.heap.size W0 W → (∀ k, needs md o k = true → V k (X (ds.getD k 0)) W) → (∀ k, k < all.length → waitsB md all all.length k i = true → X (ds.getD k 0) = A.eval (.tmp (ds.getD k 0))) → o.wp P (puts A X ds) W (fun a' W' => ∃ v, a' = (puts A X ds).put o.dst v ∧ V i v W' ∧ Below W.heap.size W W') Q) ∧ (wantG gb o = false → ∀ W, V i undef W)) ∧ StepsG P md Q A ds all V gb W0 (i + 1) os
theorem StepsG.at_ {A : Act} {ds : List Nat} {all : List Oper} {V : Nat → Value → World → Prop} {gb : Nat → Bool} {W0 : World} : ∀ {os : List Oper} {i : Nat}, StepsG P md Q A ds all V gb W0 i os → ∀ {j : Nat} {o : Oper}, os[j]? = some o →
    (wantG gb o = true → ∀ X W, Below W0.heap.size W0 W → (∀ k, needs md o k = true → V k (X (ds.getD k 0)) W) → (∀ k, k < all.length → waitsB md all all.length k (i + j) = true → X (ds.getD k 0) = A.eval (.tmp (ds.getD k 0))) → o.wp P (puts A X ds) W (fun a' W' => ∃ v, a' = (puts A X ds).put o.dst v ∧ V (i + j) v W' ∧ Below W.heap.size W W') Q) ∧ (wantG gb o = false → ∀ W, V (i + j) undef W)
  | [], _, _, _, _, h => by cases h
  | _ :: _, i, h, 0, _, e => by cases e; exact h.1
  | _ :: os, i, h, j + 1, _, e => by
    have := StepsG.at_ h.2 (j := j) e
    rwa [show i + 1 + j = i + (j + 1) by omega] at this
structure JG (md : Region.Mode) (A : Act) (ds : List Nat) (all : List Oper) (V : Nat → Value → World → Prop) (W0 : World) (on : Nat → Prop) (X : Nat → Value) (W : World) : Prop where
  vals : ∀ k, k < all.length → on k → V k (X (ds.getD k 0)) W
  bound : ∀ k, on k → k < all.length
  low : Below W0.heap.size W0 W
  shut : ∀ k o, all[k]? = some o → on k → ∀ m, needs md o m = true → on m
  old : ∀ k, k < all.length → ¬ on k → X (ds.getD k 0) = A.eval (.tmp (ds.getD k 0))
theorem JG.step {A : Act} {ds : List Nat} {all : List Oper} {V : Nat → Value → World → Prop} {W0 : World} {on : Nat → Prop} {X : Nat → Value} {W W' : World} (hds : dstsB ds all = true) (hV : ∀ i v W W', V i v W → Below W.heap.size W W' → V i v W') (h : JG md A ds all V W0 on X W) {i : Nat} {o : Oper} (hoi : all[i]? = some o) (hn : ¬ on i) (hk : ∀ k, needs md o k = true → on k) {v : Value} (hv : V i v W') (hb : Below W.heap.size W W') :
    JG md A ds all V W0 (fun k => k = i ∨ on k) (upd X (ds.getD i 0) v) W' := by
  have hil : i < all.length := (List.getElem?_eq_some_iff.1 hoi).1
  have hne : ∀ k, k < all.length → k ≠ i → upd X (ds.getD i 0) v (ds.getD k 0) = X (ds.getD k 0) := fun k hkl hki => by
    have := dstsB_ne hds (by rw [dstsB_len hds]; exact hkl) (by rw [dstsB_len hds]; exact hil) hki
    simp only [upd, this, if_false]
  refine ⟨?_, ?_, h.low.trans (hb.mono h.low.size), ?_, ?_⟩
  · rintro k hkl (rfl | hk')
    · simpa [upd] using hv
    · rw [hne k hkl (fun e => hn (e ▸ hk'))]
      exact hV _ _ _ _ (h.vals k hkl hk') hb
  · rintro k (rfl | hk')
    · exact hil
    · exact h.bound k hk'
  · rintro k o' ho' (rfl | hk') m hm
    · rw [hoi] at ho'
      cases ho'
      exact Or.inr (hk m hm)
    · exact Or.inr (h.shut k o' ho' hk' m hm)
  · intro k hkl hk'
    rw [hne k hkl (fun e => hk' (Or.inl e))]
    exact h.old k hkl (fun hon => hk' (Or.inr hon))
def guardsIn (ops : List Oper) (gs : List Nat) : Bool := ops.all fun o => match o.guard with
  | none => true
  | some (j, _) => gs.contains j
theorem guards_at {ops : List Oper} {gs : List Nat} (h : guardsIn ops gs = true) {i : Nat} {o : Oper} {j : Nat} {want : Bool} (ho : ops[i]? = some o) (hg : o.guard = some (j, want)) : j ∈ gs := by
  have := List.all_eq_true.1 h o (List.mem_of_getElem? ho)
  rw [hg] at this
  simpa using this
end
end Go.Proofs.YtidghoipmggklaaGreat
end

section
/- As RegG, where the last operation has no slot, waits for all others, and changes the world. -/
namespace Go.Proofs.YtidghoipmggklaaGreat
open Go Go.RowKit
section
variable {P : Program} {Q : Exit → Act → World → Prop} {md : Region.Mode}
/-- The last one waits for each other. -/
def lastB (md : Region.Mode) (pre : List Oper) (lo : Oper) : Bool := lo.guard.isNone && (List.range pre.length).all fun i => lo.after.any fun e => Region.binds md e && (e.on == i || waitsB md pre pre.length e.on i)
theorem lastB_on {pre : List Oper} {lo : Oper} (h : lastB md pre lo = true) {on : Nat → Prop} (hc : ∀ k o, pre[k]? = some o → on k → ∀ m, needs md o m = true → on m) (hk : ∀ k, needs md lo k = true → on k) : ∀ i, i < pre.length → on i := by
  intro i hi
  unfold lastB at h
  rw [Bool.and_eq_true] at h
  have h1 := List.all_eq_true.1 h.2 i (List.mem_range.2 hi)
  obtain ⟨e, he, h2⟩ := Array.any_eq_true'.1 h1
  rw [Bool.and_eq_true, Bool.or_eq_true] at h2
  have hm : on e.on := hk e.on (Array.any_eq_true'.2 ⟨e, he, by rw [h2.1]; simp⟩)
  rcases h2.2 with h3 | h3
  · rw [← show e.on = i by simpa using h3]; exact hm
  · exact waits_on hc _ _ _ h3 hm
theorem none_ready {ops : List Oper} {listed : Array Bool} (h : ∀ i, i < ops.length → onL listed i) : Region.ready md ops.toArray listed = [] := by
  cases hr : Region.ready md ops.toArray listed with
  | nil => rfl
  | cons i l =>
    exfalso
    have hi : i ∈ Region.ready md ops.toArray listed := by rw [hr]; exact List.mem_cons_self
    obtain ⟨hn, o, hoi, _⟩ := mem_ready.1 hi
    have hoi' : ops[i]? = some o := by simpa using hoi
    have := h i (List.getElem?_eq_some_iff.1 hoi').1
    unfold onL at this
    rw [Array.getD_eq_getD_getElem?] at this hn
    cases hx : listed[i]? <;> simp [hx] at this hn
    rw [this] at hn
    cases hn
theorem wpAny_end {ops : List Oper} {a : Act} {W : World} {listed : Array Bool} (h : ∀ i, i < ops.length → onL listed i) (hQ : Q .normal a W) : ∀ fuel, wpAny P md ops.toArray Q fuel listed a W
  | 0 => ⟨none_ready h, hQ⟩
  | fuel + 1 => ⟨fun _ => hQ, fun i hi => by rw [none_ready h] at hi; cases hi⟩
theorem wpAny_M {pre : List Oper} {lo : Oper} {A : Act} {ds : List Nat} {V : Nat → Value → World → Prop} {gb : Nat → Bool} {W0 : World} (hp : orderB md (pre ++ [lo]) = true) (hlast : lastB md pre lo = true) (hds : dstsB ds pre = true) (hsz : ∀ d ∈ ds, d < A.tmps.size) (hV : ∀ i v W W', V i v W → Below W.heap.size W W' → V i v W')
    (hgb : ∀ (i : Nat) (o : Oper) (j : Nat) (want : Bool), pre[i]? = some o → o.guard = some (j, want) → ∀ v W, V j v W → v = .bool (gb j)) (hst : StepsG P md Q A ds pre V gb W0 0 pre)
    (hdone : ∀ X W, Below W0.heap.size W0 W → (∀ i, i < pre.length → V i (X (ds.getD i 0)) W) → lo.wp P (puts A X ds) W (fun a' W' => Q .normal a' W') Q) :
    ∀ (fuel : Nat) (listed : Array Bool) (X : Nat → Value) (W : World), listed.size = (pre ++ [lo]).length → offs listed ≤ fuel → JG md A ds pre V W0 (onL listed) X W → wpAny P md (pre ++ [lo]).toArray Q fuel listed (puts A X ds) W
  | 0, listed, X, W, hs, ho, hJ => by
    have hr : Region.ready md (pre ++ [lo]).toArray listed = [] := by
      cases hr : Region.ready md (pre ++ [lo]).toArray listed with
      | nil => rfl
      | cons i l =>
        have : i ∈ Region.ready md (pre ++ [lo]).toArray listed := by rw [hr]; exact List.mem_cons_self
        have := offs_set (mem_ready.1 this).1
        omega
    have := hJ.bound _ (all_onG hp hs hr pre.length (by simp))
    exact absurd this (Nat.lt_irrefl _)
  | fuel + 1, listed, X, W, hs, ho, hJ => by
    refine ⟨fun hr => absurd (hJ.bound _ (all_onG hp hs hr pre.length (by simp))) (Nat.lt_irrefl _), fun i hi => ?_⟩
    obtain ⟨hn, o, hoi, hd⟩ := mem_ready.1 hi
    have hoi1 : (pre ++ [lo])[i]? = some o := by simpa using hoi
    have hlt : i < listed.size := by rw [hs]; exact (List.getElem?_eq_some_iff.1 hoi1).1
    have hil : i < (pre ++ [lo]).length := (List.getElem?_eq_some_iff.1 hoi1).1
    have hn' : ¬ onL listed i := by
      unfold onL
      rw [Array.getD_eq_getD_getElem?] at hn ⊢
      simp [hlt] at hn ⊢
      exact hn
    have hk : ∀ k, needs md o k = true → onL listed k := fun k hk => by
      obtain ⟨e, he, h2⟩ := Array.any_eq_true'.1 hk
      rw [Bool.and_eq_true] at h2
      have := hd e he h2.1
      rwa [show e.on = k by simpa using h2.2] at this
    by_cases hil2 : i < pre.length
    · have hoi' : pre[i]? = some o := by rwa [List.getElem?_append_left hil2] at hoi1
      obtain ⟨hd1, hd2⟩ := dstsB_at hds hoi'
      have hw : Region.wanted o (yielded (pre ++ [lo]).toArray (puts A X ds).tmps) = wantG gb o := by
        unfold Region.wanted wantG
        cases hg : o.guard with
        | none => rfl
        | some jw =>
          obtain ⟨j, want⟩ := jw
          obtain ⟨hnj, _⟩ := (orderB_at hp hoi1).2 j want hg
          have hjl := hJ.bound j (hk j hnj)
          have hv := hgb i o j want hoi' hg _ W (hJ.vals j hjl (hk j hnj))
          have hoj : pre[j]? = some (pre[j]) := by simp [hjl]
          obtain ⟨hj1, hj2⟩ := dstsB_at hds hoj
          have hy : yielded (pre ++ [lo]).toArray (puts A X ds).tmps j = some (gb j) := by
            unfold yielded
            have h1 : ((pre ++ [lo]).toArray[j]?).bind (·.dst) = some (ds.getD j 0) := by
              have e : (pre ++ [lo]).toArray[j]? = some pre[j] := by
                rw [List.getElem?_toArray, List.getElem?_append_left hjl]; exact hoj
              rw [e]
              exact hj1
            rw [h1]
            show (match (puts A X ds).tmps[ds.getD j 0]? with | some (.bool b) => some b | _ => none) = _
            rw [puts_at, if_pos ⟨hj2, hsz _ hj2⟩, hv]
          show (yielded (pre ++ [lo]).toArray (puts A X ds).tmps j == some want) = _
          rw [hy]
          simp
      have fin : ∀ v W', V i v W' → Below W.heap.size W W' → wpAny P md (pre ++ [lo]).toArray Q fuel (listed.setIfInBounds i true) ((puts A X ds).put o.dst v) W' := fun v W' hv hb => by
        rw [hd1, puts_put v hd2]
        refine wpAny_M hp hlast hds hsz hV hgb hst hdone fuel _ _ W' (by simpa using hs) (by have := offs_set hn; omega) ?_
        rw [onL_set hlt]
        exact hJ.step hds hV hoi' hn' hk hv hb
      have hstep := StepsG.at_ hst hoi'
      rw [Nat.zero_add] at hstep
      unfold wpOp
      rw [hoi]
      simp only [hw]
      cases hwg : wantG gb o
      · simp only [Bool.false_eq_true, if_false]
        exact fin undef W (hstep.2 hwg W) (Below.refl _ _)
      · simp only [if_true]
        refine .inl (Oper.wp_mono ?_ (hstep.1 hwg X W hJ.low (fun k hk' => hJ.vals k (hJ.bound k (hk k hk')) (hk k hk')) (fun k hkl hwt => hJ.old k hkl (fun hon => hn' (waits_on hJ.shut _ _ _ hwt hon)))))
        rintro a' W' ⟨v, rfl, hv, hb⟩
        exact fin v W' hv hb
    · have hie : i = pre.length := by simp at hil; omega
      subst hie
      have hol : o = lo := by simpa using hoi1.symm
      subst hol
      have hall := lastB_on hlast hJ.shut hk
      have hgn : o.guard = none := by
        unfold lastB at hlast
        rw [Bool.and_eq_true] at hlast
        simpa using hlast.1
      have hw : Region.wanted o (yielded (pre ++ [o]).toArray (puts A X ds).tmps) = true := by
        unfold Region.wanted
        rw [hgn]
      unfold wpOp
      rw [hoi]
      simp only [hw, if_true]
      refine .inl (Oper.wp_mono ?_ (hdone X W hJ.low (fun k hkl => hJ.vals k hkl (hall k hkl))))
      intro a' W' hQ
      refine wpAny_end (fun k hkl => ?_) hQ fuel
      rw [onL_set hlt]
      by_cases e : k = pre.length
      · exact .inl e
      · exact .inr (hall k (by simp at hkl; omega))
/-- The whole region. -/
theorem wp_region_M {id : Nat} {ops : List Oper} {a : Act} {w : World} (n : Nat) {lo : Oper} (hlo : ops.drop n = [lo]) (ds : List Nat) (V : Nat → Value → World → Prop) (gb : Nat → Bool) (hm : P.follows .mixedOrders = true) (hp : orderB .any ops = true) (hlast : lastB .any (ops.take n) lo = true) (hds : dstsB ds (ops.take n) = true) (hsz : ∀ d ∈ ds, d < a.tmps.size)
    (hV : ∀ i v W W', V i v W → Below W.heap.size W W' → V i v W') (hgb : ∀ (i : Nat) (o : Oper) (j : Nat) (want : Bool), (ops.take n)[i]? = some o → o.guard = some (j, want) → ∀ v W, V j v W → v = .bool (gb j)) (hst : StepsG P .any Q a ds (ops.take n) V gb w 0 (ops.take n))
    (hdone : ∀ X W, Below w.heap.size w W → (∀ i, i < (ops.take n).length → V i (X (ds.getD i 0)) W) → lo.wp P (puts a X ds) W (fun a' W' => Q .normal a' W') Q) : (Code.region id ops.toArray true).wp P Q a w := by
  obtain ⟨pre, hpre⟩ : ∃ pre, ops.take n = pre := ⟨_, rfl⟩
  have ho : ops = pre ++ [lo] := by rw [← hlo, ← hpre, List.take_append_drop]
  rw [hpre] at hlast hds hgb hst hdone
  clear hlo hpre
  subst ho
  refine wp_region_any hm ?_
  have h := wpAny_M (md := .any) hp hlast hds hsz hV hgb hst hdone (pre ++ [lo]).length (Array.replicate (pre ++ [lo]).length false) (fun k => a.tmps.getD k undef) w.drew (by simp) (by
    unfold offs
    refine Nat.le_trans (List.length_filter_le _ _) ?_
    simp) (by
    have : onL (Array.replicate (pre ++ [lo]).length false) = fun _ => False := by
      funext k
      unfold onL
      rw [Array.getD_eq_getD_getElem?, Array.getElem?_replicate]
      split <;> simp
    rw [this]
    exact ⟨fun _ _ h => h.elim, fun _ h => h.elim, ⟨rfl, rfl, rfl, Nat.le_refl _, fun _ _ => rfl⟩, fun _ _ _ h => h.elim, fun _ _ _ => rfl⟩)
  rw [puts_self] at h
  simpa using h
end
end Go.Proofs.YtidghoipmggklaaGreat
end

section
/- Regions that draw their order: of the law's Ref of a job, of the document's bytes of a job. -/
namespace Go.Proofs.YtidghoipmggklaaGreat
open Go.RowKit
def JobBoxR (W : World) (b : Nat) (c : Array Value) : Prop := W.heap[b]? = some (.cells c 34 (0, 0))
theorem jobr_cells {W : World} {b : Nat} {a0 a1 a2 a3 a4 a5 : Value} (h : JobBoxR W b #[a0, a1, a2, a3, a4, a5]) : W.cell? ⟨b, 0, none⟩ = some a0 ∧ W.cell? ⟨b, 1, none⟩ = some a1 ∧ W.cell? ⟨b, 2, none⟩ = some a2 ∧ W.cell? ⟨b, 3, none⟩ = some a3 ∧ W.cell? ⟨b, 4, none⟩ = some a4 ∧ W.cell? ⟨b, 5, none⟩ = some a5 := by
  unfold JobBoxR at h
  simp [World.cell?, h]
theorem size_jobR : (Tryz.prog.info? 34).map (·.size) = some 6 := by kernel_rfl
set_option maxRecDepth 100000 in
set_option maxHeartbeats 4000000 in
theorem jref_r1 {W0 : World} {A : Act} {bx bo gn gc pn pc : Nat} {go po : Option Addr} {t : ByteArray} {st se pa : Int} {G : List Vx} {K : Act → World → Prop} {Q' : Exit → Act → World → Prop} (hsz : A.tmps.size = 17) (hA1 : A.eval (.tmp 1) = .pointer (some ⟨bx, 0, none⟩)) (hA2 : A.eval (.tmp 2) = .pointer (some ⟨bo, 0, none⟩)) (hB : JobBoxC W0 bx #[.string t, .slice go gn gc, .slice po pn pc, .int .i64 st, .int .i64 se, .int .i64 pa]) (hOut : JobBoxR W0 bo #[.string ByteArray.empty, .slice none 0 0, .slice none 0 0, .int .i64 0, .int .i64 0, .int .i64 0]) (hRf : ∀ W, Below W0.heap.size W0 W → Calls Tryz.prog 46 #[.agg #[.slice go gn gc]] W fun r w' => ∃ ho hc, r = .returned (.slice ho G.length hc) ∧ VxAt w' (fun k => W.heap.size ≤ k) ho G ∧ Below W.heap.size W w')
    (HK : ∀ X W W1 ho hc, Below W0.heap.size W0 W → W1 = W.setRow bo #[.string t, .slice ho G.length hc, .slice po pn pc, .int .i64 st, .int .i64 se, .int .i64 pa] → VxAt W (fun k => W0.heap.size ≤ k) ho G → K (puts A X [3, 4, 5, 6, 7, 8, 9, 10, 11, 12, 13, 14, 15, 16]) W1) :
    Code.wp Tryz.prog ((Tryz.f10.body.bind (regionJ 1)).getD .skip) (Exit.then K Q') A W0 := by
  obtain ⟨ds, hds⟩ : ∃ ds, [3, 4, 5, 6, 7, 8, 9, 10, 11, 12, 13, 14, 15, 16] = ds := ⟨_, rfl⟩
  have hlt : ∀ d ∈ [3, 4, 5, 6, 7, 8, 9, 10, 11, 12, 13, 14, 15, 16], d < A.tmps.size := by rw [hsz]; decide
  have hin : ∀ {X : Nat → Value} {k : Nat}, k ∈ [3, 4, 5, 6, 7, 8, 9, 10, 11, 12, 13, 14, 15, 16] → (puts A X ds).eval (.tmp k) = X k := fun hk => by rw [← hds]; exact eval_in hk (hlt _ hk)
  have hout : ∀ {X : Nat → Value} {k : Nat}, k ∉ [3, 4, 5, 6, 7, 8, 9, 10, 11, 12, 13, 14, 15, 16] → (puts A X ds).eval (.tmp k) = A.eval (.tmp k) := fun hk => by rw [← hds]; exact eval_out hk
  have g0 : ds.getD 0 0 = 3 := by rw [← hds]; rfl
  have g1 : ds.getD 1 0 = 4 := by rw [← hds]; rfl
  have g2 : ds.getD 2 0 = 5 := by rw [← hds]; rfl
  have g3 : ds.getD 3 0 = 6 := by rw [← hds]; rfl
  have g4 : ds.getD 4 0 = 7 := by rw [← hds]; rfl
  have g5 : ds.getD 5 0 = 8 := by rw [← hds]; rfl
  have g6 : ds.getD 6 0 = 9 := by rw [← hds]; rfl
  have g7 : ds.getD 7 0 = 10 := by rw [← hds]; rfl
  have g8 : ds.getD 8 0 = 11 := by rw [← hds]; rfl
  have g9 : ds.getD 9 0 = 12 := by rw [← hds]; rfl
  have g10 : ds.getD 10 0 = 13 := by rw [← hds]; rfl
  have g11 : ds.getD 11 0 = 14 := by rw [← hds]; rfl
  have g12 : ds.getD 12 0 = 15 := by rw [← hds]; rfl
  have g13 : ds.getD 13 0 = 16 := by rw [← hds]; rfl
  obtain ⟨gb, hgbE⟩ : ∃ gb : Nat → Bool, (fun j => true) = gb := ⟨_, rfl⟩
  obtain ⟨V, hV, e0, e1, e2, e3, e4, e5, e6, e7, e8, e9, e10, e11, e12, e13⟩ : ∃ V : Nat → Value → World → Prop, (∀ i v W W', V i v W → Below W.heap.size W W' → V i v W') ∧ (∀ v W, V 0 v W = (v = .pointer (some ⟨bx, 0, none⟩))) ∧ (∀ v W, V 1 v W = (v = .string t)) ∧ (∀ v W, V 2 v W = (v = .pointer (some ⟨bx, 1, none⟩))) ∧ (∀ v W, V 3 v W = (v = .agg #[.slice go gn gc])) ∧ (∀ v W, V 4 v W = (∃ ho hc, v = .slice ho G.length hc ∧ VxAt W (fun k => W0.heap.size ≤ k) ho G)) ∧ (∀ v W, V 5 v W = (v = .pointer (some ⟨bx, 2, none⟩))) ∧ (∀ v W, V 6 v W = (v = .slice po pn pc)) ∧ (∀ v W, V 7 v W = (v = .pointer (some ⟨bx, 3, none⟩))) ∧ (∀ v W, V 8 v W = (v = .int .i64 st)) ∧ (∀ v W, V 9 v W = (v = .pointer (some ⟨bx, 4, none⟩))) ∧ (∀ v W, V 10 v W = (v = .int .i64 se)) ∧ (∀ v W, V 11 v W = (v = .pointer (some ⟨bx, 5, none⟩))) ∧ (∀ v W, V 12 v W = (v = .int .i64 pa)) ∧ (∀ v W, V 13 v W = (∃ ho hc, v = .agg #[.string t, .slice ho G.length hc, .slice po pn pc, .int .i64 st, .int .i64 se, .int .i64 pa] ∧ VxAt W (fun k => W0.heap.size ≤ k) ho G)) := by
    refine ⟨fun i v W => match i with
      | 0 => v = .pointer (some ⟨bx, 0, none⟩)
      | 1 => v = .string t
      | 2 => v = .pointer (some ⟨bx, 1, none⟩)
      | 3 => v = .agg #[.slice go gn gc]
      | 4 => ∃ ho hc, v = .slice ho G.length hc ∧ VxAt W (fun k => W0.heap.size ≤ k) ho G
      | 5 => v = .pointer (some ⟨bx, 2, none⟩)
      | 6 => v = .slice po pn pc
      | 7 => v = .pointer (some ⟨bx, 3, none⟩)
      | 8 => v = .int .i64 st
      | 9 => v = .pointer (some ⟨bx, 4, none⟩)
      | 10 => v = .int .i64 se
      | 11 => v = .pointer (some ⟨bx, 5, none⟩)
      | 12 => v = .int .i64 pa
      | 13 => ∃ ho hc, v = .agg #[.string t, .slice ho G.length hc, .slice po pn pc, .int .i64 st, .int .i64 se, .int .i64 pa] ∧ VxAt W (fun k => W0.heap.size ≤ k) ho G
      | _ => True, ?_, fun _ _ => rfl, fun _ _ => rfl, fun _ _ => rfl, fun _ _ => rfl, fun _ _ => rfl, fun _ _ => rfl, fun _ _ => rfl, fun _ _ => rfl, fun _ _ => rfl, fun _ _ => rfl, fun _ _ => rfl, fun _ _ => rfl, fun _ _ => rfl, fun _ _ => rfl⟩
    intro i v W W' h hb
    match i, h with
    | 0, h => exact h
    | 1, h => exact h
    | 2, h => exact h
    | 3, h => exact h
    | 4, h => exact (by obtain ⟨ho, hc, h1, h2⟩ := h; exact ⟨ho, hc, h1, h2.new hb⟩)
    | 5, h => exact h
    | 6, h => exact h
    | 7, h => exact h
    | 8, h => exact h
    | 9, h => exact h
    | 10, h => exact h
    | 11, h => exact h
    | 12, h => exact h
    | 13, h => exact (by obtain ⟨ho, hc, h1, h2⟩ := h; exact ⟨ho, hc, h1, h2.new hb⟩)
    | _ + 14, _ => trivial
  conv => arg 2; whnf
  refine wp_region_M 14 rfl ds V gb (by kernel_rfl) (by kernel_rfl) (by kernel_rfl) (by rw [← hds]; kernel_rfl) (by rw [← hds]; exact hlt) hV ?_ ?_ ?_
  · intro i o j want ho hg v W hv
    have hj : j ∈ ([] : List Nat) := guards_at (by kernel_rfl) ho hg
    cases hj
  · refine ⟨?_, ?_, ?_, ?_, ?_, ?_, ?_, ?_, ?_, ?_, ?_, ?_, ?_, ?_, trivial⟩
    · refine ⟨fun _ X W hb hd hu => ?_, fun h => absurd (show true = false from h) (by decide)⟩
      have h0 := hout (X := X) (k := 1) (by decide)
      rw [hA1] at h0
      refine v_value (V := V 0) (v := .pointer (some ⟨bx, 0, none⟩)) ?_ (by rw [e0])
      generalize (puts A X ds).eval = ρ at h0 ⊢
      go_simp
    · refine ⟨fun _ X W hb hd hu => ?_, fun h => absurd (show true = false from h) (by decide)⟩
      have d0 := hd 0 (by kernel_rfl)
      rw [e0, g0] at d0
      have h0 := (hin (X := X) (k := 3) (by decide)).trans d0
      have c0 := (job_cells ((hb.block _ (Array.getElem?_eq_some_iff.1 hB).1).trans hB)).1
      refine v_value (V := V 1) (v := .string t) ?_ (by rw [e1])
      generalize (puts A X ds).eval = ρ at h0 ⊢
      go_simp
    · refine ⟨fun _ X W hb hd hu => ?_, fun h => absurd (show true = false from h) (by decide)⟩
      have h0 := hout (X := X) (k := 1) (by decide)
      rw [hA1] at h0
      refine v_value (V := V 2) (v := .pointer (some ⟨bx, 1, none⟩)) ?_ (by rw [e2])
      generalize (puts A X ds).eval = ρ at h0 ⊢
      go_simp
    · refine ⟨fun _ X W hb hd hu => ?_, fun h => absurd (show true = false from h) (by decide)⟩
      have d0 := hd 2 (by kernel_rfl)
      rw [e2, g2] at d0
      have h0 := (hin (X := X) (k := 5) (by decide)).trans d0
      have c0 := (job_cells ((hb.block _ (Array.getElem?_eq_some_iff.1 hB).1).trans hB)).2.1
      refine v_value (V := V 3) (v := .agg #[.slice go gn gc]) ?_ (by rw [e3])
      generalize (puts A X ds).eval = ρ at h0 ⊢
      go_simp
    · refine ⟨fun _ X W hb hd hu => ?_, fun h => absurd (show true = false from h) (by decide)⟩
      have d0 := hd 3 (by kernel_rfl)
      rw [e3, g3] at d0
      have h0 := (hin (X := X) (k := 6) (by decide)).trans d0
      have hf : (puts A X ds).eval (.func 46) = .func (.func 46) #[] #[] := rfl
      refine v_call (V := V 4) (f := 46) (vs := #[.agg #[.slice go gn gc]]) ?_ ?_
      · generalize (puts A X ds).eval = ρ at h0 hf ⊢
        go_simp
      · refine (hRf W hb).mono ?_
        rintro r W' ⟨ho, hc, rfl, hV', hb'⟩
        exact ⟨_, rfl, by rw [e4]; exact ⟨ho, hc, rfl, hV'.mono (fun k _ hk => Nat.le_trans hb.size hk)⟩, hb'⟩
    · refine ⟨fun _ X W hb hd hu => ?_, fun h => absurd (show true = false from h) (by decide)⟩
      have h0 := hout (X := X) (k := 1) (by decide)
      rw [hA1] at h0
      refine v_value (V := V 5) (v := .pointer (some ⟨bx, 2, none⟩)) ?_ (by rw [e5])
      generalize (puts A X ds).eval = ρ at h0 ⊢
      go_simp
    · refine ⟨fun _ X W hb hd hu => ?_, fun h => absurd (show true = false from h) (by decide)⟩
      have d0 := hd 5 (by kernel_rfl)
      rw [e5, g5] at d0
      have h0 := (hin (X := X) (k := 8) (by decide)).trans d0
      have c0 := (job_cells ((hb.block _ (Array.getElem?_eq_some_iff.1 hB).1).trans hB)).2.2.1
      refine v_value (V := V 6) (v := .slice po pn pc) ?_ (by rw [e6])
      generalize (puts A X ds).eval = ρ at h0 ⊢
      go_simp
    · refine ⟨fun _ X W hb hd hu => ?_, fun h => absurd (show true = false from h) (by decide)⟩
      have h0 := hout (X := X) (k := 1) (by decide)
      rw [hA1] at h0
      refine v_value (V := V 7) (v := .pointer (some ⟨bx, 3, none⟩)) ?_ (by rw [e7])
      generalize (puts A X ds).eval = ρ at h0 ⊢
      go_simp
    · refine ⟨fun _ X W hb hd hu => ?_, fun h => absurd (show true = false from h) (by decide)⟩
      have d0 := hd 7 (by kernel_rfl)
      rw [e7, g7] at d0
      have h0 := (hin (X := X) (k := 10) (by decide)).trans d0
      have c0 := (job_cells ((hb.block _ (Array.getElem?_eq_some_iff.1 hB).1).trans hB)).2.2.2.1
      refine v_value (V := V 8) (v := .int .i64 st) ?_ (by rw [e8])
      generalize (puts A X ds).eval = ρ at h0 ⊢
      go_simp
    · refine ⟨fun _ X W hb hd hu => ?_, fun h => absurd (show true = false from h) (by decide)⟩
      have h0 := hout (X := X) (k := 1) (by decide)
      rw [hA1] at h0
      refine v_value (V := V 9) (v := .pointer (some ⟨bx, 4, none⟩)) ?_ (by rw [e9])
      generalize (puts A X ds).eval = ρ at h0 ⊢
      go_simp
    · refine ⟨fun _ X W hb hd hu => ?_, fun h => absurd (show true = false from h) (by decide)⟩
      have d0 := hd 9 (by kernel_rfl)
      rw [e9, g9] at d0
      have h0 := (hin (X := X) (k := 12) (by decide)).trans d0
      have c0 := (job_cells ((hb.block _ (Array.getElem?_eq_some_iff.1 hB).1).trans hB)).2.2.2.2.1
      refine v_value (V := V 10) (v := .int .i64 se) ?_ (by rw [e10])
      generalize (puts A X ds).eval = ρ at h0 ⊢
      go_simp
    · refine ⟨fun _ X W hb hd hu => ?_, fun h => absurd (show true = false from h) (by decide)⟩
      have h0 := hout (X := X) (k := 1) (by decide)
      rw [hA1] at h0
      refine v_value (V := V 11) (v := .pointer (some ⟨bx, 5, none⟩)) ?_ (by rw [e11])
      generalize (puts A X ds).eval = ρ at h0 ⊢
      go_simp
    · refine ⟨fun _ X W hb hd hu => ?_, fun h => absurd (show true = false from h) (by decide)⟩
      have d0 := hd 11 (by kernel_rfl)
      rw [e11, g11] at d0
      have h0 := (hin (X := X) (k := 14) (by decide)).trans d0
      have c0 := (job_cells ((hb.block _ (Array.getElem?_eq_some_iff.1 hB).1).trans hB)).2.2.2.2.2
      refine v_value (V := V 12) (v := .int .i64 pa) ?_ (by rw [e12])
      generalize (puts A X ds).eval = ρ at h0 ⊢
      go_simp
    · refine ⟨fun _ X W hb hd hu => ?_, fun h => absurd (show true = false from h) (by decide)⟩
      have d0 := hd 1 (by kernel_rfl)
      rw [e1, g1] at d0
      have h0 := (hin (X := X) (k := 4) (by decide)).trans d0
      have d1 := hd 4 (by kernel_rfl)
      rw [e4, g4] at d1
      obtain ⟨ho, hc, d1, hV'⟩ := d1
      have h1 := (hin (X := X) (k := 7) (by decide)).trans d1
      have d2 := hd 6 (by kernel_rfl)
      rw [e6, g6] at d2
      have h2 := (hin (X := X) (k := 9) (by decide)).trans d2
      have d3 := hd 8 (by kernel_rfl)
      rw [e8, g8] at d3
      have h3 := (hin (X := X) (k := 11) (by decide)).trans d3
      have d4 := hd 10 (by kernel_rfl)
      rw [e10, g10] at d4
      have h4 := (hin (X := X) (k := 13) (by decide)).trans d4
      have d5 := hd 12 (by kernel_rfl)
      rw [e12, g12] at d5
      have h5 := (hin (X := X) (k := 15) (by decide)).trans d5
      refine v_value (V := V 13) (v := .agg #[.string t, .slice ho G.length hc, .slice po pn pc, .int .i64 st, .int .i64 se, .int .i64 pa]) ?_ (by rw [e13]; exact ⟨ho, hc, rfl, hV'⟩)
      generalize (puts A X ds).eval = ρ at h0 h1 h2 h3 h4 h5 ⊢
      go_simp
  · intro X W hb hall
    have r13 := hall 13 (by decide)
    rw [e13, g13] at r13
    obtain ⟨ho, hc, r13, hV'⟩ := r13
    have h8 := (hin (X := X) (k := 16) (by decide)).trans r13
    have h2 := hout (X := X) (k := 2) (by decide)
    rw [hA2] at h2
    refine wp_store_row 34 _ _ rfl bo #[.string t, .slice ho G.length hc, .slice po pn pc, .int .i64 st, .int .i64 se, .int .i64 pa] h2 h8 34 _ ((hb.block _ (Array.getElem?_eq_some_iff.1 hOut).1).trans hOut) size_jobR rfl (by simp [Value.oneCell']) ?_
    have := HK X W _ ho hc hb rfl hV'
    rw [hds] at this
    exact this
end Go.Proofs.YtidghoipmggklaaGreat
end
