import Derived.Test.YthnhmhjcpdomcaaMuDoXM
import Derived.Test.YthnhmhjcpdomcaaMuDoVM
import Derived.Test.YthnhmhjcpdomcaaMuThat
import Derived.Test.YthnhmhjcpdomcaaGrRefKM
import Derived.Test.YthnhmhjcpdomcaaRegI
import Derived.Test.YthnhmhjcpdomcaaGrSameM
import Derived.Maps.AppendAt
import Derived.Test.YthnhmhjcpdomcaaGrRef
import Derived.Test.YthnhmhjcpdomcaaGrBytes
import Derived.Test.YthnhmhjcpdomcaaGrCheck
import Derived.Deep.RegionHeld
section
/- mut.do, whatever it is asked. -/
namespace Go.Proofs.Ythnhmhjcpdomcaa
open Go.RowKit
theorem do_same {w w' : World} {base bg : Nat} {sv : Value} {L : List (Vx × Value)} (hg : w.heap[bg]? = some (.cells #[sv] 24 (0, 0))) (h : GW w base sv L) (hb : Below w.heap.size w w') : w'.heap[bg]? = some (.cells #[sv] 24 (0, 0)) ∧ GW w' base sv L ∧ Fr w w' (fun k => k = bg ∨ GT w base k) :=
  ⟨(hb.block _ (Array.getElem?_eq_some_iff.1 hg).1).trans hg, h.new hb, Fr.ofBelow hb _⟩
theorem do_any {w : World} {base bg : Nat} {sv : Value} {L : List (Vx × Value)} {m : Mu} (hg : w.heap[bg]? = some (.cells #[sv] 24 (0, 0))) (h : GW w base sv L) (hbg : bg < base) (hbase : base ≤ w.heap.size) (hf : Fine (L.map (·.1))) {N : Nat} (hu : Up N (L.map (·.1))) (hN : N ≤ 1073741824) (hk : 1 ≤ m.k ∧ m.k ≤ 4) :
    Calls Try.prog 46 #[.pointer (some ⟨bg, 0, none⟩), .agg #[.int .i64 m.k, .int .i64 m.i, .int .i64 m.t, .int .i64 m.v]] w fun e w' => ∃ sv' L', e = .returned (.bool (doG (L.map (·.1)) m).2) ∧ L'.map (·.1) = (doG (L.map (·.1)) m).1 ∧ w'.heap[bg]? = some (.cells #[sv'] 24 (0, 0)) ∧ GW w' base sv' L' ∧ Fr w w' (fun k => k = bg ∨ GT w base k) := by
  have hl : L.length ≤ 1073741824 := by have := hu.1; rw [List.length_map] at this; omega
  have hkk : m.k = 1 ∨ m.k = 2 ∨ m.k = 3 ∨ m.k = 4 := by omega
  rcases split_ids hf.ids m.i with ⟨A', v, B', h1, h2, h3, h4, h5, h6⟩ | ⟨A', B', h1, h3, h4, h5, h6⟩
  · obtain ⟨A, R, rfl, rfl, hR⟩ := List.map_eq_append_iff.1 h1
    obtain ⟨x, B, rfl, rfl, rfl⟩ := List.map_eq_cons_iff.1 hR
    rw [List.length_map] at h5
    have hel : x.1.es.length ≤ 1073741824 := by have := hu.2 x.1 (by rw [map_mid]; simp); omega
    have hD : doG ((A ++ x :: B).map (·.1)) m = (A.map (·.1) ++ ((doV x.1 m).1 ++ B.map (·.1)), (doV x.1 m).2) := by rw [map_mid]; exact doG_there h2 h3 h4
    rw [hD]
    rcases hkk with hk | hk | hk | hk
    · cases he : foundB (ends x.1.es) m.t
      · have e : doV x.1 m = ([x.1], false) := by unfold doV; rw [hk]; simp [he]
        refine (do1_same hg h hbg hbase hf hl hk h6 h5 hel he).mono ?_
        rintro r w' ⟨rfl, hb⟩
        rw [e]
        exact ⟨sv, A ++ x :: B, rfl, by rw [map_mid]; rfl, do_same hg h hb⟩
      · have e : doV x.1 m = ([⟨x.1.id, x.1.val, x.1.es.take (findN (ends x.1.es) m.t) ++ x.1.es.drop (findN (ends x.1.es) m.t + 1)⟩], true) := by unfold doV; rw [hk]; simp [he]
        refine (do1_yes hg h hbg hbase hf hl hk h6 h5 hel he).mono ?_
        rintro r w' ⟨sv', L', rfl, q1, q2, q3, q4⟩
        rw [e]
        exact ⟨sv', L', rfl, q1, q2, q3, q4⟩
    · have e : doV x.1 m = ([], true) := by unfold doV; rw [hk]; simp
      refine (do2_yes hg h hbg hbase hf hl hk h6 h5).mono ?_
      rintro r w' ⟨sv', L', rfl, q1, q2, q3, q4⟩
      rw [e]
      exact ⟨sv', L', rfl, q1, q2, q3, q4⟩
    · have e : doV x.1 m = ([x.1], false) := by unfold doV; rw [hk]; simp
      refine (do3_no hg h hbg hbase hf hl hk h6).mono ?_
      rintro r w' ⟨rfl, hb⟩
      rw [e]
      exact ⟨sv, A ++ x :: B, rfl, by rw [map_mid]; rfl, do_same hg h hb⟩
    · cases he : foundB (ends x.1.es) m.t
      · have e : doV x.1 m = ([⟨x.1.id, x.1.val, x.1.es.take (findN (ends x.1.es) m.t) ++ ⟨m.t, m.v⟩ :: x.1.es.drop (findN (ends x.1.es) m.t)⟩], true) := by unfold doV; rw [hk]; simp [he]
        refine (do4_yes hg h hbg hbase hf hl hk h6 h5 hel he).mono ?_
        rintro r w' ⟨sv', L', rfl, q1, q2, q3, q4⟩
        rw [e]
        exact ⟨sv', L', rfl, q1, q2, q3, q4⟩
      · have e : doV x.1 m = ([x.1], false) := by unfold doV; rw [hk]; simp [he]
        refine (do4_same hg h hbg hbase hf hl hk h6 h5 hel he).mono ?_
        rintro r w' ⟨rfl, hb⟩
        rw [e]
        exact ⟨sv, A ++ x :: B, rfl, by rw [map_mid]; rfl, do_same hg h hb⟩
  · obtain ⟨A, B, rfl, rfl, rfl⟩ := List.map_eq_append_iff.1 h1
    rw [List.length_map] at h5
    have hD : doG ((A ++ B).map (·.1)) m = (A.map (·.1) ++ ((noV m).1 ++ B.map (·.1)), (noV m).2) := by rw [List.map_append]; exact doG_none h3 h4
    rw [hD]
    rcases hkk with hk | hk | hk | hk
    · have e : noV m = ([], false) := by unfold noV; rw [hk]; simp
      refine (do1_no hg h hbg hbase hf hl hk h6).mono ?_
      rintro r w' ⟨rfl, hb⟩
      rw [e]
      exact ⟨sv, A ++ B, rfl, by simp, do_same hg h hb⟩
    · have e : noV m = ([], false) := by unfold noV; rw [hk]; simp
      refine (do2_no hg h hbg hbase hf hl hk h6).mono ?_
      rintro r w' ⟨rfl, hb⟩
      rw [e]
      exact ⟨sv, A ++ B, rfl, by simp, do_same hg h hb⟩
    · have e : noV m = ([⟨m.i, m.v, []⟩], true) := by unfold noV; rw [hk]; simp
      refine (do3_yes hg h hbg hbase hf hl hk h6 h5).mono ?_
      rintro r w' ⟨sv', L', rfl, q1, q2, q3, q4⟩
      rw [e]
      exact ⟨sv', L', rfl, q1, q2, q3, q4⟩
    · have e : noV m = ([], false) := by unfold noV; rw [hk]; simp
      refine (do4_no hg h hbg hbase hf hl hk h6).mono ?_
      rintro r w' ⟨rfl, hb⟩
      rw [e]
      exact ⟨sv, A ++ B, rfl, by simp, do_same hg h hb⟩
end Go.Proofs.Ythnhmhjcpdomcaa
end

section
/- mut.Apply: the graph behind all requests, and how many changed something. -/
namespace Go.Proofs.Ythnhmhjcpdomcaa
open Go.RowKit Go.Sort
theorem res_ctU {fn : Func} {p u : Tmp} {ty : TypeId} (h : fn.results = #[.cell p ty, .tmp u]) (tmps : Array Value) (w : World) (g : Nat) (t : TypeId) (cs : Array Value) (fr : Nat × Nat) (d : TypeDesc)
    (hp : tmps.getD p undef = .pointer (some ⟨g, 0, none⟩)) (hg : w.heap[g]? = some (.cells cs t fr))
    (hu : Try.prog.underlying ty = some d) (hd : (match d with | .struct _ | .array _ _ => true | _ => false) = true) (hi : (Try.prog.info? ty).map (·.size) = some cs.size) :
    (results fn tmps).run Try.prog w = .ok (.tuple #[.agg cs, tmps.getD u undef]) w := by
  rw [results_cell_tmp h, hp]
  have := run_loadVar_row (P := Try.prog) w g t ty cs fr d hg hu (by cases d <;> first | rfl | exact hd) hi
  simp [asAddr, this]
/-- What the loop holds. -/
structure AP (w wr : World) (G : List Vx) (C : List Mu) (v : Value) (q : Nat) (n : Nat) : Prop where
  graph : ∃ sv L, wr.heap[w.heap.size]? = some (.cells #[sv] 24 (0, 0)) ∧ GW wr (w.heap.size + 1 + 1) sv L ∧ L.map (·.1) = (runU (G, 0) (C.take q)).1
  cnt : n = (runU (G, 0) (C.take q)).2
  out : wr.heap[w.heap.size + 1]? = some (.cells #[.slice none 0 0] 24 (0, 0))
  row : UO wr (w.heap.size + 1 + 1) v C
  low : Below w.heap.size w wr
  size : w.heap.size + 1 + 1 ≤ wr.heap.size
theorem UO.shape {w : World} {base : Nat} {v : Value} {L : List Mu} (h : UO w base v L) : ∃ ao c, v = .slice ao L.length c := by
  rcases h.2 with ⟨h1, h2⟩ | ⟨g, cap, cur, h1, _⟩
  · exact ⟨none, 0, by rw [h1, h2]⟩
  · exact ⟨_, _, h1⟩
theorem UO.shapeN {w : World} {base : Nat} {v : Value} {L : List Mu} (h : UO w base v L) : ∃ ao n c, v = .slice ao n c ∧ n = L.length := by
  obtain ⟨ao, c, e⟩ := h.shape
  exact ⟨ao, _, c, e, rfl⟩
theorem own_keepU {w w' : World} {base : Nat} {v : Value} {C : List Mu} {S : Nat → Prop} (h : UO w base v C) (f : Fr w w' S) (hS : ∀ k, v.ownBlock = some k → ¬ S k) : UO w' base v C := own_keep h f hS
theorem own_tagU {w : World} {base : Nat} {v : Value} {C : List Mu} (h : UO w base v C) {k : Nat} (hk : v.ownBlock = some k) {B : Nat} : ¬ GT w B k := by
  rintro ⟨_, cur, t, f, hg, ht⟩
  rcases h.2 with ⟨rfl, _⟩ | ⟨g, cap, cur', rfl, _, hg', _⟩
  · cases hk
  · cases hk
    rw [hg'] at hg
    cases hg
    rcases ht with ht | ht <;> exact absurd ht (by decide)
set_option maxRecDepth 100000 in
set_option maxHeartbeats 2000000 in
theorem apply_any {w : World} {P Q : Nat → Prop} {ao bo : Option Addr} (G : List Vx) (cap : Nat) (L : List Mu) (cap2 : Nat) (hG : VxAt w P ao G) (hok : ∀ v ∈ G, v.ok) (hf : Fine G) {N : Nat} (hu : Up N G) (hN : N + L.length ≤ 1073741824) (hL : UsAt w Q bo L) (hk : ∀ m ∈ L, 1 ≤ m.k ∧ m.k ≤ 4) :
    Calls Try.prog 16 #[.agg #[.slice ao G.length cap], .slice bo L.length cap2] w fun r w' => ∃ sv M, r = .returned (.tuple #[.agg #[sv], .int .i64 (appG G L).2]) ∧ M.map (·.1) = (appG G L).1 ∧ GW w' w.heap.size sv M ∧ Below w.heap.size w w' := by
  have hGl : G.length ≤ 1073741824 := by have := hu.1; omega
  obtain ⟨W0, hW0⟩ : ∃ W0, (w.alloc (.cells #[.slice ao G.length cap] 24)).alloc (.cells #[.slice none 0 0] 24) = W0 := ⟨_, rfl⟩
  have hb0 : Below w.heap.size w W0 := by rw [← hW0]; exact b2 _ _ _
  have hs0 : W0.heap.size = w.heap.size + 1 + 1 := by rw [← hW0, World.size_alloc, World.size_alloc]
  have hg0 : W0.heap[w.heap.size]? = some (.cells #[.slice ao G.length cap] 24 (0, 0)) := by rw [← hW0]; exact (Below.heap_alloc _ _ _ (by simp)).trans (heap_alloc_new _ _)
  have hr0 : W0.heap[w.heap.size + 1]? = some (.cells #[.slice none 0 0] 24 (0, 0)) := by
    have := heap_alloc_new (w.alloc (.cells #[.slice ao G.length cap] 24)) (.cells #[.slice none 0 0] 24)
    rw [World.size_alloc, hW0] at this
    exact this
  have HG0 : Hid _ := hG.new hb0
  have HL0 : Hid _ := hL.new hb0
  have HOk : Hid _ := hok
  have HFi : Hid _ := hf
  have HUp : Hid _ := hu
  have HK : Hid _ := hk
  have HB0 : Hid _ := hb0
  have HS0 : Hid _ := hs0
  have Hg0 : Hid _ := hg0
  have Hr0 : Hid _ := hr0
  obtain ⟨p0, p1⟩ := cl_oneW hg0
  have HL : Hid _ := hL
  clear hG hL hok hf hu hk hb0 hs0 hg0 hr0
  go_enter Try.func16, Try.ntmps16
  go_upto_region 1 with (fail)
  go_upto_region 2 with (first | (go_at_call 44; refine (cloneW_any (w := W0) G cap HG0.out HOk.out (by omega)).mono ?_; rintro r w1 ⟨sv, M, rfl, hM, hgw, hb1⟩; obtain ⟨so, sm, sc, rfl⟩ := own_any hgw.row; have hq1 := (hb1.block _ (by rw [HS0.out]; omega)).trans Hg0.out; obtain ⟨q0, q1⟩ := cl_oneW hq1; have HM : Hid _ := hM; have HGW : Hid _ := hgw; have HB1 : Hid _ := hb1; have HQ1 : Hid _ := hq1; clear hM hgw hb1 hq1))
  generalize hW2 : World.setCell _ _ _ = W2
  have fs : Fr w1 W2 (fun k => k = w.heap.size) := by rw [← hW2]; exact Fr.setCell (S := fun k => k = w.heap.size) w1 ⟨w.heap.size, 0, none⟩ _ rfl
  have hBw1 : Below w.heap.size w w1 := HB0.out.trans (HB1.out.mono HB0.out.size)
  have hB2 : Below w.heap.size w W2 := hBw1.trans (fs.below hBw1.size (fun k e => by omega))
  have hg2 : W2.heap[w.heap.size]? = some (.cells #[.slice so sm sc] 24 (0, 0)) := by rw [← hW2]; exact cl_set1W HQ1.out _
  have hr2 : W2.heap[w.heap.size + 1]? = some (.cells #[.slice none 0 0] 24 (0, 0)) := (fs.block _ (by have := HB1.out.size; have := HS0.out; omega) (by omega)).trans ((HB1.out.block _ (by have := HS0.out; omega)).trans Hr0.out)
  have hgw2 : GW W2 (w.heap.size + 1 + 1) (.slice so sm sc) M := by
    have := HGW.out
    rw [HS0.out] at this
    exact this.keep fs (fun k e => by omega)
  have hs2 : w.heap.size + 1 + 1 ≤ W2.heap.size := by have := fs.size; have := HB1.out.size; have := HS0.out; omega
  have HL2 : Hid _ := UsAt.new HL.out hB2
  have HG2 : Hid _ := hg2
  have HR2 : Hid _ := hr2
  have HGW2 : Hid _ := hgw2
  have HB2 : Hid _ := hB2
  have HS2 : Hid _ := hs2
  clear hW2 fs hBw1 hB2 hg2 hr2 hgw2 hs2 HGW HQ1 HB1 HB0 HS0 Hg0 Hr0 HG0 HL0 hW0 p0 p1 q0 q1
  have hLl : L.length ≤ 1073741824 := by omega
  go_wp2_with (first | (go_at_call 45; refine (thatcount_any (w := W2) L cap2 HL2.out hLl).mono ?_; rintro r w3 ⟨v, rfl, hv, hb3⟩; obtain ⟨vo, nC, vc, rfl, hnC⟩ := UO.shapeN hv; have HV : Hid _ := hv; have HNC : Hid _ := hnC; clear hnC; have HB3 : Hid _ := hb3; clear hv hb3))
  have HCk : Hid (∀ m ∈ thatC L, 1 ≤ m.k ∧ m.k ≤ 4) := fun m hm => HK.out m (thatC_mem hm)
  have HCl : Hid ((thatC L).length ≤ L.length) := thatC_len L
  have HAp : Hid (appG G L = runU (G, 0) (thatC L)) := rfl
  generalize thatC L = C at HV HNC HCk HCl HAp
  have hnl : nC ≤ 1073741824 := by have := HCl.out; have := HNC.out; omega
  go_loopw [6, 14] (fun u i wr => ∃ q n : Nat, q ≤ nC ∧ n ≤ q ∧ u = .int .i64 n ∧ i = .int .i64 q ∧ AP w wr G C (.slice vo nC vc) q n) (fun _ i _ => nC - (intOf i).toNat)
  case atStart =>
    refine ⟨0, 0, Nat.zero_le _, Nat.le_refl _, rfl, rfl, ⟨⟨_, M, (HB3.out.block _ (by have := HS2.out; omega)).trans HG2.out, HGW2.out.new HB3.out, HM.out⟩, rfl, (HB3.out.block _ (by have := HS2.out; omega)).trans HR2.out, own_low HV.out HS2.out, HB2.out.trans (HB3.out.mono HB2.out.size), by have := HB3.out.size; have := HS2.out; omega⟩⟩
  case round =>
    obtain ⟨q, n, hq, hnq, rfl, rfl, ⟨sv, L1, hg, hgw, hL1⟩, hcnt, hout, hrow, hlow, hsize⟩ := hrel
    clear HG2 HR2 HGW2 HB2 HS2 HB3 HV HM
    by_cases hlt : q < nC
    · have hqC : q < C.length := by rw [← HNC.out]; exact hlt
      have h5 : wr.ownsRow (w.heap.size + 1 + 1) 38 4 (.slice vo nC vc) nC (C.flatMap muCells) := by have h := hrow; unfold UO at h; rwa [← HNC.out] at h
      obtain ⟨g, vc', cur, hv1, _⟩ := own_blk h5 (by omega)
      cases hv1
      clear h5
      have hcell := UO.cells hrow hqC
      have HT : Hid (runU (G, 0) (C.take (q + 1)) = stepU (runU (G, 0) (C.take q)) C[q]) := by show _ = _; rw [List.take_succ_eq_append_getElem hqC, runU_snoc]
      have hkq := HCk.out C[q] (List.getElem_mem hqC)
      generalize C[q] = x at hcell HT hkq
      obtain ⟨c0, c1, c2, c3⟩ := hcell
      have hfin : Fine (L1.map (·.1)) := by rw [hL1]; exact runU_fine HFi.out _
      have hup : Up (N + nC) (L1.map (·.1)) := by
        rw [hL1]
        have := runU_up (s := (G, 0)) HFi.out HUp.out (C.take q)
        rw [List.length_take, Nat.min_eq_left (by omega)] at this
        exact ⟨by have := this.1; omega, fun v hv => by have := this.2 v hv; omega⟩
      have Hfin : Hid _ := hfin
      have Hup : Hid _ := hup
      have Hkq : Hid _ := hkq
      have Hg : Hid _ := hg
      have Hgw : Hid _ := hgw
      have HL1 : Hid _ := hL1
      have Hcnt : Hid _ := hcnt
      have Hout : Hid _ := hout
      have Hrow : Hid _ := hrow
      have Hlow : Hid _ := hlow
      have Hsize : Hid _ := hsize
      have hNn : N + nC ≤ 1073741824 := by have := HCl.out; have := HNC.out; omega
      clear hfin hup hkq hg hgw hL1 hcnt hout hrow hlow hsize hqC
      go_upto_region 6 with (fail)
      generalize hW : World.alloc wr _ = W
      have hbW : Below wr.heap.size wr W := by rw [← hW]; exact one_new _ _
      have hbox : W.heap[wr.heap.size]? = some (.cells #[.int .i64 x.k, .int .i64 x.i, .int .i64 x.t, .int .i64 x.v] 38 (0, 0)) := by rw [← hW]; exact heap_alloc_new _ _
      obtain ⟨b0, b1, b2, b3⟩ := u_cells hbox
      have HBW : Hid _ := hbW
      have hlg := lt_of_block Hg.out
      have HgW : Hid _ := (hbW.block _ hlg).trans Hg.out
      have HgwW : Hid _ := Hgw.out.new hbW
      have HSW : Hid (w.heap.size + 1 + 1 ≤ W.heap.size) := by have := hbW.size; have := Hsize.out; show _ ≤ _; omega
      clear hW hbW hbox c0 c1 c2 c3 hlg
      cases hr : (doG (L1.map (·.1)) x).2
      all_goals
        have HR : Hid _ := hr
        go_upto_region 8 with (first | (go_at_call 46; refine (do_any (w := W) HgW.out HgwW.out (by omega) HSW.out Hfin.out Hup.out hNn Hkq.out).mono ?_; rw [hr]; rintro r w5 ⟨sv', L', rfl, e1, e2, e3, e4⟩; have E1 : Hid _ := e1; have E2 : Hid _ := e2; have E3 : Hid _ := e3; have E4 : Hid _ := e4; clear e1 e2 e3 e4))
        have hb5 : Below w.heap.size w w5 := (Hlow.out.trans (HBW.out.mono Hlow.out.size)).trans (E4.out.below (by have := HSW.out; omega) (fun k e => by rcases e with e | ⟨e, _⟩ <;> omega))
        have ho5 := (E4.out.block (w.heap.size + 1) (by have := HSW.out; omega) (fun e => by rcases e with e | ⟨e, _⟩ <;> omega)).trans ((HBW.out.block _ (by have := Hsize.out; omega)).trans Hout.out)
        have hrow5 := own_keepU (UO.new Hrow.out HBW.out) E4.out (fun k hk e => by
          rcases e with e | e
          · have := (World.ownsRow.lt Hrow.out k hk).1; omega
          · exact own_tagU (UO.new Hrow.out HBW.out) hk e)
        have hst : (runU (G, 0) (C.take (q + 1))) = ((doG (L1.map (·.1)) x).1, n + if (doG (L1.map (·.1)) x).2 then 1 else 0) := by
          rw [HT.out, Hcnt.out]
          unfold stepU
          rw [← HL1.out]
        have hap : ∀ n', n' = (n + if (doG (L1.map (·.1)) x).2 then 1 else 0) → AP w w5 G C (.slice (some ⟨g, 0, none⟩) nC vc) (q + 1) n' := fun n' hn' => ⟨⟨sv', L', E2.out, E3.out, by rw [E1.out, hst]⟩, by rw [hst]; exact hn', ho5, hrow5, hb5, by have := E4.out.size; have := HSW.out; omega⟩
        have HAP : Hid _ := hap
        clear hb5 ho5 hrow5 hst hap hr b0 b1 b2 b3
      · go_wp2
        go_roundw
        case rel => exact ⟨q + 1, n, by omega, by omega, rfl, by go_num, HAP.out n (by rw [HR.out]; rfl)⟩
        case measure => simp [intOf]; omega
      · go_wp2
        go_roundw
        case rel => exact ⟨q + 1, n + 1, by omega, by omega, by go_num, by go_num, HAP.out (n + 1) (by rw [HR.out]; rfl)⟩
        case measure => simp [intOf]; omega
    · obtain rfl : q = nC := by omega
      have hL2 : L1.map (·.1) = (appG G L).1 := by rw [hL1, HAp.out, HNC.out, List.take_length]
      have hn2 : n = (appG G L).2 := by rw [hcnt, HAp.out, HNC.out, List.take_length]
      obtain ⟨so', sm', sc', rfl⟩ := own_any hgw.row
      obtain ⟨g0, g1⟩ := cl_oneW hg
      obtain ⟨r0, r1⟩ := cl_oneW hout
      have HL2 : Hid _ := hL2
      have HN2 : Hid _ := hn2
      have Hgw : Hid _ := hgw
      clear hL1 hcnt hL2 hn2 hgw
      go_wp2
      refine bodyPost_ret (v := .tuple #[.agg #[.slice so' sm' sc'], .int .i64 n]) (res_ctU Try.results16 _ _ (w.heap.size + 1) 24 _ (0, 0) _ rfl (cl_set1W hout _) Try.underlying24 rfl sizeGrW) rfl ?_
      have fs := Fr.setCell (S := fun k => k = w.heap.size + 1) wr ⟨w.heap.size + 1, 0, none⟩ (.slice so' sm' sc') rfl
      exact ⟨_, L1, by rw [HN2.out], HL2.out, GW.low (Hgw.out.keep fs (fun k e => by omega)) (by omega), hlow.trans (fs.below hlow.size (fun k e => by omega))⟩
end Go.Proofs.Ythnhmhjcpdomcaa
end

section
/- Requests appended onto a row of one's own, as one operation; Apply and Same over lengths in letters. -/
namespace Go.Proofs.Ythnhmhjcpdomcaa
open Go.RowKit Go.Sort
theorem run_append_none {P : Program} (w : World) (t ty e : TypeId) (i : TypeInfo) (ht : P.underlying t = some (.slice e)) (hi : P.info? e = some i) (base bo : Option Addr) (n c c2 : Nat) (hle : n ≤ c) :
    (Builtin.append_ #[t, t] ty #[.slice base n c, .slice bo 0 c2]).run P w = .ok (.slice base n c) w := by
  cases base <;> cases bo <;> simp [Builtin.append_, run_underlying ht, sizeOf, typeInfo, hi, hle, storeCells, loadCells, loadCellsFrom, Builtin.lenOf, Builtin.firstCells]
theorem mus_one (E : List Mu) : ∀ u ∈ E.flatMap muCells, u.oneCell' = true := by
  intro u hu
  obtain ⟨y, _, h⟩ := List.mem_flatMap.1 hu
  exact muOne y u h
theorem op_appendU {o : Oper} {a : Act} {w : World} {K : Act → World → Prop} {Q : Exit → Act → World → Prop} {R : Nat → Prop} {s x : Operand} (hop : o.op = .call { callee := .builtin .append, args := #[s, x], argTypes := #[35, 35] })
    (base : Nat) (v : Value) (D E : List Mu) {bo : Option Addr} {c m : Nat} (hs : a.eval s = v) (hown : UO w base v D) (hm : m = E.length) (hx : a.eval x = .slice bo m c) (hE : UsAt w R bo E) (h63 : D.length + E.length ≤ 1000000) (hbase : base ≤ w.heap.size)
    (h : ∀ v' w', UO w' base v' (D ++ E) → w.grownBy w' v.ownBlock → (v'.ownBlock = v.ownBlock ∨ v'.ownBlock = some w.heap.size) → K (a.put o.dst v') w') : o.wp Try.prog a w K Q := by
  obtain ⟨i0, hi, hz0, hz1, hz2⟩ := info_parts infoMu
  subst hm
  by_cases hl : 0 < E.length
  · obtain ⟨b, off, rfl, _⟩ := hE hl
    obtain ⟨v', w', hr, h2, h3, _, h5⟩ := run_append_own_at (P := Try.prog) w base 35 o.type 38 i0 (.agg #[.int .i64 0, .int .i64 0, .int .i64 0, .int .i64 0]) 4 32 Try.underlying35 hi hz0 hz1 hz2 rfl (by decide) v D.length (D.flatMap muCells) hown ⟨b, off, none⟩ E.length c (E.flatMap muCells) (mu_len E) hE.flat (mus_one E) (by unfold maxLen; omega) (by omega) hbase
    unfold Oper.wp execOp
    simp only [hop, resolve, invoke, builtin, Sem.run_bind, Sem.run_pure, Result.andThen_ok, List.map_toArray, List.map_cons, List.map_nil, hs, hx, hr]
    refine h v' w' ?_ h3 h5
    unfold UO
    rw [List.length_append, List.flatMap_append]
    exact h2
  · have e0 : E = [] := List.length_eq_zero_iff.1 (by omega)
    subst e0
    have hle : ∃ so n cc, v = .slice so n cc ∧ n ≤ cc := by
      rcases hown.2 with ⟨h1, _⟩ | ⟨g, cap, cur, h1, _, _, hn, _⟩
      · exact ⟨_, _, _, h1, Nat.le_refl _⟩
      · exact ⟨_, _, _, h1, hn⟩
    obtain ⟨so, n, cc, rfl, hle⟩ := hle
    have hr := run_append_none (P := Try.prog) w 35 o.type 38 i0 Try.underlying35 hi so bo n cc c hle
    unfold Oper.wp execOp
    simp only [hop, resolve, invoke, builtin, Sem.run_bind, Sem.run_pure, Result.andThen_ok, List.map_toArray, List.map_cons, List.map_nil, hs, hx, List.length_nil, hr]
    refine h _ _ ?_ (World.grownBy.refl _ _) (.inl rfl)
    rw [List.append_nil]
    exact hown
theorem apply_nv {w : World} {P Q : Nat → Prop} {ao bo : Option Addr} (G : List Vx) (cap : Nat) (L : List Mu) (cap2 : Nat) {gn n : Nat} (hgn : gn = G.length) (hn : n = L.length) (hG : VxAt w P ao G) (hok : ∀ v ∈ G, v.ok) (hf : Fine G) {N : Nat} (hu : Up N G) (hN : N + n ≤ 1073741824) (hL : UsAt w Q bo L) (hk : ∀ m ∈ L, 1 ≤ m.k ∧ m.k ≤ 4) {AG : List Vx} {an : Nat} (hA : appG G L = (AG, an)) :
    Calls Try.prog 16 #[.agg #[.slice ao gn cap], .slice bo n cap2] w fun r w' => ∃ so sc, r = .returned (.tuple #[.agg #[.slice so AG.length sc], .int .i64 an]) ∧ VxAt w' (fun k => w.heap.size ≤ k ∧ k < w'.heap.size) so AG ∧ Below w.heap.size w w' := by
  subst hn hgn
  refine (apply_any G cap L cap2 hG hok hf hu hN hL hk).mono ?_
  rintro r w' ⟨sv, M, rfl, h1, h2, h3⟩
  obtain ⟨so, sc, rfl, hV⟩ := h2.at_
  rw [hA] at h1 ⊢
  simp only at h1 ⊢
  rw [h1] at hV
  have hl : M.length = AG.length := by rw [← h1, List.length_map]
  rw [hl]
  exact ⟨so, sc, rfl, hV.kept (Fr.refl _ (fun _ => False)) (fun k hk hp => ⟨fun h => h, hp, hk⟩), h3⟩
theorem same_nv {w : World} {P Q : Nat → Prop} {ao bo : Option Addr} {L : List Vx} (ca cb : Nat) (hL : VxAt w P ao L) (hM : VxAt w Q bo L) (hl : L.length ≤ 9223372036854775807) (hok : ∀ v ∈ L, v.es.length ≤ 9223372036854775807) :
    Calls Try.prog 21 #[.agg #[.slice ao L.length ca], .agg #[.slice bo L.length cb]] w fun r w' => r = .returned (.bool true) ∧ Below w.heap.size w w' := by
  have h := same_any ca cb hL hM hl hok
  rw [(sameG_iff L L).2 rfl] at h
  exact h
end Go.Proofs.Ythnhmhjcpdomcaa
end

section
/- What Ref returns: the same graph, in rows of its own. -/
namespace Go.Proofs.Ythnhmhjcpdomcaa
open Go.RowKit
/-- A graph of the document's, in rows of one's own. -/
structure VOwn (w : World) (base : Nat) (sv : Value) (M : List (Vx × Value)) : Prop where
  row : w.ownsRow base 70 3 sv M.length (gcs M)
  eds : ∀ x ∈ M, w.ownsRow base 74 2 x.2 x.1.es.length (ecs x.1.es)
  ap : ∀ x ∈ M, ∀ k, x.2.ownBlock = some k → sv.ownBlock ≠ some k
theorem VOwn.new {w w' : World} {base : Nat} {sv : Value} {M : List (Vx × Value)} (h : VOwn w base sv M) (hb : Below w.heap.size w w') : VOwn w' base sv M :=
  ⟨own_new h.row hb, fun x hx => own_new (h.eds x hx) hb, h.ap⟩
theorem own_raise' {w : World} {base B : Nat} {e : TypeId} {size : Nat} {v : Value} {n : Nat} {xs : List Value} (h : w.ownsRow base e size v n xs) (hb : ∀ k, v.ownBlock = some k → B ≤ k) : w.ownsRow B e size v n xs := by
  refine ⟨h.1, ?_⟩
  rcases h.2 with hn | ⟨g, cap, cur, rfl, h2, rest⟩
  · exact .inl hn
  · exact .inr ⟨g, cap, cur, rfl, hb g rfl, rest⟩
theorem VOwn.snoc {w w' : World} {base : Nat} {sv v' ev : Value} {M : List (Vx × Value)} {y : Vx} (h : VOwn w base sv M) (ho : w'.ownsRow base 70 3 v' (M.length + 1) (gcs M ++ [.int .i64 y.id, .int .i64 y.val, ev])) (hg : w.grownBy w' sv.ownBlock) (hat : v'.ownBlock = sv.ownBlock ∨ v'.ownBlock = some w.heap.size)
    (hE : w.ownsRow base 74 2 ev y.es.length (ecs y.es)) (h1 : ∀ k, ev.ownBlock = some k → sv.ownBlock ≠ some k) : VOwn w' base v' (M ++ [(y, ev)]) := by
  have f : Fr w w' (fun k => sv.ownBlock = some k) := Fr.grown hg (fun k hk => hk)
  have key : ∀ x : Vx × Value, w.ownsRow base 74 2 x.2 x.1.es.length (ecs x.1.es) → (∀ k, x.2.ownBlock = some k → sv.ownBlock ≠ some k) → w'.ownsRow base 74 2 x.2 x.1.es.length (ecs x.1.es) ∧ ∀ k, x.2.ownBlock = some k → v'.ownBlock ≠ some k := fun x hx hn =>
    ⟨own_keep hx f hn, fun k hk e => by
      rcases hat with e1 | e1
      · exact hn k hk (e1.symm.trans e)
      · have e2 := Option.some.inj (e1.symm.trans e)
        have := (World.ownsRow.lt hx k hk).2
        omega⟩
  refine ⟨?_, fun x hx => ?_, fun x hx => ?_⟩
  · rw [gcs_app, List.length_append]
    simpa [gcs] using ho
  · rcases List.mem_append.1 hx with hx | hx
    · exact (key x (h.eds x hx) (h.ap x hx)).1
    · obtain rfl : x = (y, ev) := by simpa using hx
      exact (key (y, ev) hE h1).1
  · rcases List.mem_append.1 hx with hx | hx
    · exact (key x (h.eds x hx) (h.ap x hx)).2
    · obtain rfl : x = (y, ev) := by simpa using hx
      exact (key (y, ev) hE h1).2
set_option maxRecDepth 100000 in
set_option maxHeartbeats 16000000 in
theorem ref_own {w : World} {P : Nat → Prop} {ao : Option Addr} (G : List Vx) (cap : Nat) (hG : VxAt w P ao G) (hok : ∀ v ∈ G, v.ok) (hl : G.length * 40 ≤ 140737488355328) :
    Calls Try.prog 13 #[.agg #[.slice ao G.length cap]] w fun r w' => ∃ v M, r = .returned v ∧ M.map (·.1) = G ∧ VOwn w' (w.heap.size + 1) v M ∧ Below w.heap.size w w' := by
  obtain ⟨i0, hi, hz0, hz1, hz2⟩ := info_parts infoREdge
  obtain ⟨i1, hj1, hy0, hy1, hy2⟩ := info_parts infoRVx
  have HG : Hid (VxAt w P ao G) := hG
  clear hG
  go_enter Try.func13, Try.ntmps13
  go_wp2
  go_loopw [3, 4, 5, 6, 7] (fun u i _ _ _ wr => ∃ (j : Nat) (M : List (Vx × Value)), j ≤ G.length ∧ i = .int .i64 j ∧ M.map (·.1) = G.take j ∧ VOwn wr (w.heap.size + 1) u M ∧ wr.heap[w.heap.size]? = some (.cells #[.slice ao G.length cap] 24 (0, 0)) ∧ Below w.heap.size w wr) (fun _ i _ _ _ _ => G.length - (intOf i).toNat)
  case atStart =>
    refine ⟨0, [], Nat.zero_le _, rfl, rfl, ?_, (Below.heap_alloc _ _ _ (by simp)).trans (heap_alloc_new _ _), b2 _ _ _⟩
    have := own_empty (w := w.alloc (.cells #[.slice ao G.length cap] 24)) (base := w.heap.size + 1) (t := 70) (size := 3) (by simp)
    rw [World.size_alloc] at this
    exact ⟨this, fun x hx => (by cases hx), fun x hx => (by cases hx)⟩
  case round =>
    obtain ⟨j, M, hj, rfl, hMG, hRow, hgb, hb⟩ := hrel
    have HMG : Hid _ := hMG
    clear hMG
    have c0 := cell_of_one hgb
    have hl0 := lt_of_block hgb
    by_cases hlt : j < G.length
    · obtain ⟨b, off, rfl, hP, hc⟩ := HG.out (by omega)
      obtain ⟨eo, ec, e0, e1, e2, e3⟩ := hc j hlt
      have hbb := lt_cell e0
      have d0 := (hb.cell (p := ⟨b, off + j * 3, none⟩) hbb).trans e0
      have d1 := (hb.cell (p := ⟨b, off + j * 3 + 1, none⟩) hbb).trans e1
      have d2 := (hb.cell (p := ⟨b, off + j * 3 + 2, none⟩) hbb).trans e2
      have HE : Hid (EdAt w P eo G[j].es) := e3
      have hlen : G[j].es.length ≤ 8796093022208 := (hok _ (List.getElem_mem hlt)).len
      have HS : Hid (G.take (j + 1) = G.take j ++ [G[j]]) := List.take_succ_eq_append_getElem hlt
      generalize G[j] = y at d0 d1 d2 HE hlen HS
      clear e0 e1 e2 e3 hc
      obtain ⟨wo, rfl⟩ : ∃ wo, wo = wr := ⟨_, rfl⟩
      have HR : Hid (VOwn wo (w.heap.size + 1) u3 M) := hRow
      have hgo := hgb
      obtain ⟨bv, hbv⟩ : ∃ bv, wo.heap.size = bv := ⟨_, rfl⟩
      have hRI : RI wo ((wo.alloc (.cells #[.int .i64 y.id, .int .i64 y.val, .slice eo y.es.length ec] 84)).alloc (.cells #[.int .i64 y.id, .int .i64 y.val, .slice none 0 0] 70)) bv (bv + 1) y eo ec (.slice none 0 0) [] := by
        rw [← hbv]
        refine ⟨b2 _ _ _, (Below.heap_alloc _ _ _ (by simp)).trans (heap_alloc_new _ _), ?_, World.ownsRow_nil _ _ _ _, Nat.le_refl _, by omega⟩
        have := heap_alloc_new (wo.alloc (.cells #[.int .i64 y.id, .int .i64 y.val, .slice eo y.es.length ec] 84)) (.cells #[.int .i64 y.id, .int .i64 y.val, .slice none 0 0] 70)
        rw [World.size_alloc] at this
        exact this
      have HI : Hid _ := hRI
      clear hRI hRow hgo
      go_wp2
      go_loopw [7] (fun i wx => ∃ (k : Nat) (ev : Value), k ≤ y.es.length ∧ i = .int .i64 k ∧ RI wo wx bv (bv + 1) y eo ec ev (y.es.take k)) (fun i _ => y.es.length - (intOf i).toNat)
      case atStart => exact ⟨0, _, Nat.zero_le _, rfl, HI.out⟩
      case round =>
        obtain ⟨k, ev, hk, rfl, hX⟩ := hrel
        obtain ⟨a0, a1, a2, x0, x1, x2, x3, x4, x5⟩ := hX.facts
        have hbw : Below w.heap.size w wr := hb.trans (hX.low.mono hb.size)
        have g0 : wr.cell? ⟨w.heap.size, 0, none⟩ = some (.slice (some ⟨b, off, none⟩) G.length cap) := (hX.low.cell (p := ⟨w.heap.size, 0, none⟩) hl0).trans c0
        obtain ⟨fo, m, c, rfl⟩ := own_any hX.own
        by_cases hkl : k < y.es.length
        · obtain ⟨eb, eoff, rfl, hPe, hce⟩ := HE.out (by omega)
          have f0 := (hbw.cell (p := ⟨eb, eoff + k * 2, none⟩) (lt_cell (hce k hkl).1)).trans (hce k hkl).1
          have f1 := (hbw.cell (p := ⟨eb, eoff + k * 2 + 1, none⟩) (lt_cell (hce k hkl).1)).trans (hce k hkl).2
          have HT : Hid (y.es.take (k + 1) = y.es.take k ++ [y.es[k]]) := List.take_succ_eq_append_getElem hkl
          have HL : Hid ((y.es.take k).length = k) := by show _ = _; rw [List.length_take]; omega
          generalize y.es[k] = z at f0 f1 HT
          have HX : Hid _ := hX
          clear hX hce
          go_wp2
          go_region_law
            ((refine step_append_own rfl (.tmp 34) (.tmp 48) 68 rfl (bv + 1 + 1) 74 i0 (.agg #[.int .i64 0, .int .i64 0]) 2 16 Try.underlying68 hi hz0 hz1 hz2 rfl (by decide) (.slice fo m c) _ _ (by simp [Act.eval]) ((HX.out.new ((Below.refl _ _).drew)).new (one_new _ _)).own ⟨wr.heap.size, 0, none⟩ 1 1 [.int .i64 z.t, .int .i64 z.w] (by simp [Act.eval]) rfl (two_new (heap_alloc_new _ _)) (by intro u hu; simp at hu; rcases hu with rfl | rfl <;> rfl) (by rw [HL.out]; unfold maxLen; omega) (by rw [HL.out]; omega) (by simp; omega) ?_; intro v' w1 hown' hgrow hat; have hT4 := ((HX.out.new ((Below.refl _ _).drew)).new (one_new _ _)).app hown' hgrow; obtain ⟨q1, q2⟩ := ((HX.out.new ((Below.refl _ _).drew)).new (one_new _ _)).grew hgrow; obtain ⟨ao', m', c', rfl⟩ := own_any hown'; have H4 : Hid _ := hT4; clear hT4 hown' hgrow hat))
          all_goals
            go_wp2
            go_roundw
            case rel => exact ⟨k + 1, _, by omega, by go_num, by rw [HT.out]; exact H4.out⟩
            case measure => simp [intOf]; omega
        · obtain rfl : k = y.es.length := by omega
          rw [List.take_length] at hX
          obtain ⟨hm, hEd⟩ := own_eds hX.own
          subst hm
          have HU : Hid (∃ uo um uc, u3 = .slice uo um uc) := own_any HR.out.row
          obtain ⟨uo, um, uc, rfl⟩ := HU.out
          have hRn := (HR.out.new hX.low).new (one_new wr (.cells #[.int .i64 y.id, .int .i64 y.val, .slice fo y.es.length c] 70))
          have HEn : Hid ((wr.alloc (.cells #[.int .i64 y.id, .int .i64 y.val, .slice fo y.es.length c] 70)).ownsRow (w.heap.size + 1) 74 2 (.slice fo y.es.length c) y.es.length (ecs y.es)) := own_new (own_raise' hX.own (fun k hk => by have := (hX.own.lt k hk).1; have := hb.size; omega)) (one_new wr _)
          have HEa : Hid (∀ k, (Value.slice fo y.es.length c).ownBlock = some k → (Value.slice uo um uc).ownBlock ≠ some k) := fun k hk => fun e => by have := (World.ownsRow.lt HR.out.row k e).2; have := (hX.own.lt k hk).1; omega
          have ho := hRn.row
          have HRn : Hid _ := hRn
          have HL : Hid (M.length = j) := by have h9 := congrArg List.length HMG.out; rw [List.length_map, List.length_take] at h9; show _ = _; omega
          have HX : Hid _ := hX
          have hnew := heap_alloc_new wr (.cells #[.int .i64 y.id, .int .i64 y.val, .slice fo y.es.length c] 70)
          clear hX hEd hRn
          go_wp2_with (at_builtin; refine wpList_append_own_at _ rfl _ _ 28 rfl (w.heap.size + 1) 70 i1 (.agg #[.int .i64 0, .int .i64 0, .slice none 0 0]) 3 40 Try.underlying28 hj1 hy0 hy1 hy2 rfl (by decide) _ _ _ rfl ho ⟨wr.heap.size, 0, none⟩ 1 1 [.int .i64 y.id, .int .i64 y.val, .slice fo y.es.length c] rfl rfl ?c1 ?c2 ?c3 ?c4 ?c5 ?_)
          case c1 => exact three_new hnew
          case c2 => intro u hu; simp at hu; rcases hu with rfl | rfl | rfl <;> rfl
          case c3 => rw [HL.out]; unfold maxLen; omega
          case c4 => rw [HL.out]; omega
          case c5 => have := hbw.size; simp; omega
          · intro v' w4 hown' hgrow _ hat
            have hR4 : VOwn w4 (w.heap.size + 1) v' (M ++ [(y, .slice fo y.es.length c)]) := HRn.out.snoc hown' hgrow (by simpa using hat) HEn.out (fun k hk => HEa.out k hk)
            have hb4 : Below w.heap.size w w4 := (hbw.alloc hbw.size _).grown hgrow (by have := hbw.size; simp; omega) (fun q hq => by have := (World.ownsRow.lt HR.out.row q hq).1; omega)
            have hg4 : w4.heap[w.heap.size]? = some (.cells #[.slice (some ⟨b, off, none⟩) G.length cap] 24 (0, 0)) := (hgrow.block w.heap.size (by have := hbw.size; have := HX.out.low.size; simp; omega) (fun e => by have := (World.ownsRow.lt HR.out.row _ e.symm).1; omega)).trans ((Below.heap_alloc _ _ _ (by have := HX.out.low.size; omega)).trans ((HX.out.low.block _ hl0).trans hgb))
            obtain ⟨ao', m', c', rfl⟩ := own_any hown'
            have H4 : Hid _ := hR4
            have H5 : Hid _ := hg4
            clear hR4 hg4 hown' hgrow hat ho
            go_wp2
            go_roundw
            case rel => exact ⟨j + 1, M ++ [(y, .slice fo y.es.length c)], by omega, by go_num, by rw [HS.out, List.map_append, HMG.out]; rfl, H4.out, H5.out, hb4⟩
            case measure => simp [intOf]; omega
    · obtain rfl : j = G.length := by omega
      have hMG := HMG.out
      rw [List.take_length] at hMG
      go_wp2
      go_ret
      exact ⟨_, M, rfl, hMG, hRow, hb⟩
end Go.Proofs.Ythnhmhjcpdomcaa
end

section
/- What the document's VertexBytes and Bytes return. -/
namespace Go.Proofs.Ythnhmhjcpdomcaa
open Go.RowKit
theorem refsigned_g (k : Int) (w : World) (h : I64 k) :
    Calls Try.prog 27 #[.int .i64 k] w fun e w' => e = .returned (.string (str (sgB k))) ∧ Below w.heap.size w w' := by
  obtain ⟨h1, h2⟩ := h
  unfold sgB
  obtain ⟨m, HM⟩ : ∃ m : Nat, Hid (foldN k = m) := ⟨(foldN k).toNat, (Int.toNat_of_nonneg (fold_bd k h1 h2).1).symm⟩
  have hm : m < 18446744073709551616 := by have := fold_bd k h1 h2; have := HM.out; omega
  have hF : ∀ w, Calls Try.prog 54 #[.int .i64 k] w fun e w' => e = .returned (.int .u64 m) ∧ w' = w := fun w => by have := reffold_any k w h1 h2; rw [HM.out] at this; exact this
  rw [show (foldN k).toNat = m by rw [HM.out]; rfl]
  go_enter Try.func27, Try.ntmps27
  go_wp2_with (first
    | (go_at_call 54; refine (hF _).mono ?_; rintro r w1 ⟨rfl, rfl⟩)
    | (go_at_call 24; refine (refnumber_any m _ hm).mono ?_; rintro r w2 ⟨rfl, hh⟩))
  go_ret
  exact ⟨rfl, hh⟩
theorem box_below {W w1 : World} {B o : Nat} {u : Value} (hb : Below W.heap.size W w1) (h : W.cell? ⟨B, o, none⟩ = some u) : w1.cell? ⟨B, o, none⟩ = some u := (hb.cell (p := ⟨B, o, none⟩) (lt_cell h)).trans h
theorem run_add_str (a b : ByteArray) (h : a.size + b.size ≤ 9223372036854775807) (w : World) : (binOp .add 9 (.string a) (.string b)).run Try.prog w = .ok (.string (a ++ b)) w := by
  have hn : ¬ ((a.size + b.size : Nat) : Int) > IntKind.i64.max := by show ¬ ((a.size + b.size : Nat) : Int) > 9223372036854775807; omega
  simp only [binOp, Op.stringOp, if_neg hn]
  rfl

set_option maxRecDepth 100000 in
set_option maxHeartbeats 1600000 in
theorem vertexbytes_any {w : World} {P : Nat → Prop} {eo : Option Addr} (x : Vx) (ec : Nat) (hE : EdAt w P eo x.es) (hok : x.ok) (hl : x.es.length ≤ 2048) :
    Calls Try.prog 42 #[.agg #[.int .i64 x.id, .int .i64 x.val, .slice eo x.es.length ec]] w fun r w' => r = .returned (.string (str (vxB x))) ∧ Below w.heap.size w w' := by
  have H1 := sgB_len hok.id
  have H2 := sgB_len hok.val
  have H3 := numB_len10 (n := x.es.length) (by omega)
  have s1 : (str (sgB x.id)).size ≤ 10 := H1
  have s2 : (str (sgB x.val)).size ≤ 10 := H2
  have s3 : (str (numB x.es.length)).size ≤ 10 := H3
  have HI : Hid (I64 x.id ∧ I64 x.val) := ⟨hok.id, hok.val⟩
  have hN := fun W => refnumber_any x.es.length W (by omega)
  have hn1 := run_add_str (str (sgB x.id)) (str (sgB x.val)) (by omega)
  have hn2 := run_add_str (str (sgB x.id) ++ str (sgB x.val)) (str (numB x.es.length)) (by rw [ByteArray.size_append]; omega)
  have hcv : IntKind.u64.wrap (x.es.length : Int) = (x.es.length : Int) := by rw [IntKind.wrap_u64]; omega
  have HE : Hid (EdAt w P eo x.es) := hE
  have HO : Hid (∀ e ∈ x.es, e.ok) := hok.es
  clear hE hok
  go_enter Try.func42, Try.ntmps42
  go_wp2
  obtain ⟨W0, hW0⟩ : ∃ W0, w.alloc (.cells #[.int .i64 x.id, .int .i64 x.val, .slice eo x.es.length ec] 70) = W0 := ⟨_, rfl⟩
  obtain ⟨k0, k1, k2⟩ := box3 (show W0.heap[w.heap.size]? = _ by rw [← hW0]; exact heap_alloc_new _ _)
  have hb0 : Below w.heap.size w W0 := by rw [← hW0]; exact one_new _ _
  rw [hW0]
  go_region_held (fun w' => w'.cell? ⟨w.heap.size, 0, none⟩ = some (.int .i64 x.id) ∧ w'.cell? ⟨w.heap.size, 1, none⟩ = some (.int .i64 x.val) ∧ w'.cell? ⟨w.heap.size, 2, none⟩ = some (.slice eo x.es.length ec)) (first | exact hS1 | go_keep)
    (first
      | (go_at_call 27; refine (refsigned_g _ _ (by first | exact HI.out.1 | exact HI.out.2)).mono ?_; rintro r w1 ⟨rfl, hb1⟩; first | (have hB2 := hB1.trans (hb1.mono hB1.size); have hS1 := (⟨box_below hb1 hS1.1, box_below hb1 hS1.2.1, box_below hb1 hS1.2.2⟩ : w1.cell? ⟨w.heap.size, 0, none⟩ = some (.int .i64 x.id) ∧ w1.cell? ⟨w.heap.size, 1, none⟩ = some (.int .i64 x.val) ∧ w1.cell? ⟨w.heap.size, 2, none⟩ = some (.slice eo x.es.length ec))) | (have hB1 := hb0.trans ((below_c hb1).mono hb0.size); have hS1 := (⟨box_below hb1 k0, box_below hb1 k1, box_below hb1 k2⟩ : w1.cell? ⟨w.heap.size, 0, none⟩ = some (.int .i64 x.id) ∧ w1.cell? ⟨w.heap.size, 1, none⟩ = some (.int .i64 x.val) ∧ w1.cell? ⟨w.heap.size, 2, none⟩ = some (.slice eo x.es.length ec))))
      | (go_at_call 24; refine (hN _).mono ?_; rintro r w3 ⟨rfl, hb3⟩; have hB3 := hB2.trans (hb3.mono hB2.size); have hS1 := (⟨box_below hb3 hS1.1, box_below hb3 hS1.2.1, box_below hb3 hS1.2.2⟩ : w3.cell? ⟨w.heap.size, 0, none⟩ = some (.int .i64 x.id) ∧ w3.cell? ⟨w.heap.size, 1, none⟩ = some (.int .i64 x.val) ∧ w3.cell? ⟨w.heap.size, 2, none⟩ = some (.slice eo x.es.length ec))))
  all_goals
    clear hS1 k0 k1
    have HB3 : Hid (Below w.heap.size w w3) := hB3
    have q2 := (‹_ ∧ _ ∧ w3.cell? ⟨w.heap.size, 2, none⟩ = some (.slice eo x.es.length ec)›).2.2
    have HQ : Hid _ := q2
    clear q2 hN hcv hn1 hn2 s1 s2 s3 k2 hb0 HI
    go_wp2
    go_loopw [3, 4] (fun u i wr => ∃ (k : Nat), k ≤ x.es.length ∧ i = .int .i64 k ∧ u = .string (str (sgB x.id ++ sgB x.val ++ numB x.es.length ++ (x.es.take k).flatMap edB)) ∧ wr.cell? ⟨w.heap.size, 2, none⟩ = some (.slice eo x.es.length ec) ∧ Below w.heap.size w wr) (fun _ i _ => x.es.length - (intOf i).toNat)
    case atStart => exact ⟨0, Nat.zero_le _, rfl, by rw [str_append, str_append]; simp, HQ.out, HB3.out⟩
    case round =>
      obtain ⟨k, hk, rfl, rfl, hc2, hbr⟩ := hrel
      by_cases hlt : k < x.es.length
      · obtain ⟨b, off, rfl, hP, hc⟩ := HE.out (by omega)
        have f0 := (hbr.cell (p := ⟨b, off + k * 2, none⟩) (lt_cell (hc k hlt).1)).trans (hc k hlt).1
        have f1 := (hbr.cell (p := ⟨b, off + k * 2 + 1, none⟩) (lt_cell (hc k hlt).1)).trans (hc k hlt).2
        have HS : Hid _ := eds_snoc x.es k hlt
        have HZ : Hid (x.es[k].ok) := HO.out _ (List.getElem_mem hlt)
        have z1 : (str (sgB x.es[k].t)).size ≤ 10 := sgB_len HZ.out.t
        have z2 : (str (sgB x.es[k].w)).size ≤ 10 := sgB_len HZ.out.w
        have z0 : (str (sgB x.id ++ sgB x.val ++ numB x.es.length ++ (x.es.take k).flatMap edB)).size ≤ 100000 := by
          have h4 := edsB_len (x.es.take k) (fun e he => HO.out e (List.mem_of_mem_take he))
          rw [List.length_take] at h4
          show (_ : List UInt8).length ≤ _
          simp only [List.length_append]
          omega
        generalize x.es[k] = z at f0 f1 HS HZ z1 z2
        generalize hA : sgB x.id ++ sgB x.val ++ numB x.es.length ++ (x.es.take k).flatMap edB = A at z0 ⊢
        have HA : Hid _ := hA
        clear hc hA
        go_wp2
        go_region_held (fun w' => w'.cell? ⟨w.heap.size, 2, none⟩ = some (.slice (some ⟨b, off, none⟩) x.es.length ec) ∧ w'.cell? ⟨b, off + k * 2, none⟩ = some (.int .i64 z.t) ∧ w'.cell? ⟨b, off + k * 2 + 1, none⟩ = some (.int .i64 z.w)) (first | exact hS1 | go_keep)
          ((go_at_call 27; refine (refsigned_g _ _ (by first | exact HZ.out.t | exact HZ.out.w)).mono ?_; rintro r w1 ⟨rfl, hb1⟩; first | (have hB2 := hB1.trans (hb1.mono hB1.size); have hS1 := (⟨box_below hb1 hS1.1, box_below hb1 hS1.2.1, box_below hb1 hS1.2.2⟩ : w1.cell? ⟨w.heap.size, 2, none⟩ = some (.slice (some ⟨b, off, none⟩) x.es.length ec) ∧ w1.cell? ⟨b, off + k * 2, none⟩ = some (.int .i64 z.t) ∧ w1.cell? ⟨b, off + k * 2 + 1, none⟩ = some (.int .i64 z.w))) | (have hB1 := hbr.trans ((below_c hb1).mono hbr.size); have hS1 := (⟨box_below hb1 hc2, box_below hb1 f0, box_below hb1 f1⟩ : w1.cell? ⟨w.heap.size, 2, none⟩ = some (.slice (some ⟨b, off, none⟩) x.es.length ec) ∧ w1.cell? ⟨b, off + k * 2, none⟩ = some (.int .i64 z.t) ∧ w1.cell? ⟨b, off + k * 2 + 1, none⟩ = some (.int .i64 z.w)))))
        all_goals
          go_wp2
          go_roundw
          case rel => exact ⟨k + 1, by omega, by go_num, by rw [HS.out, ← List.append_assoc, HA.out, show edB z = sgB z.t ++ sgB z.w from rfl, str_append, str_append], (‹w1.cell? ⟨w.heap.size, 2, none⟩ = some (.slice (some ⟨b, off, none⟩) x.es.length ec) ∧ _›).1, hB2⟩
          case measure => simp [intOf]; omega
      · obtain rfl : k = x.es.length := by omega
        go_wp2
        go_ret
        exact ⟨by rw [List.take_length]; rfl, hbr⟩
end Go.Proofs.Ythnhmhjcpdomcaa
end
