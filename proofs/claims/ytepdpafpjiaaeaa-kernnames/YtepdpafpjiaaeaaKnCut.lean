/- Cut: what a vertex can be given, from whatever it is given. -/
import Derived.Test.YtepdpafpjiaaeaaKnOpen
import Derived.Deep.CutBlock
namespace Go.Proofs.Ytepdpafpjiaaeaa
open Go.RowKit
theorem blk_setK {w : World} {g i : Nat} {cs : Array Value} {t : TypeId} (v : Value) (h : w.heap[g]? = some (.cells cs t (0, 0))) : (w.setCell ⟨g, i, none⟩ v).heap[g]? = some (.cells (cs.setIfInBounds i v) t (0, 0)) := by
  have hlt := (Array.getElem?_eq_some_iff.1 h).1
  have h' : w.heap[g] = .cells cs t (0, 0) := by simpa [Array.getElem?_eq_getElem hlt] using h
  show (w.heap.modify g _)[g]? = _
  rw [Array.getElem?_eq_getElem (by simpa using hlt), Array.getElem_modify_self, h']
  rfl
/-- What was given, and what will be told, in boxes. -/
structure CB (w W : World) (c : Array Value) : Prop where
  inb : W.heap[w.heap.size]? = some (.cells c 49 (0, 0))
  zb : W.heap[w.heap.size + 1]? = some (.cells #[.int .i64 0, .int .i64 0, .int .i64 0, .slice none 0 0, .bool false, .slice none 0 0, .bool false, .bool false, .bool false, .bool false, .bool false, .int .i64 0, .int .i64 0, .int .i64 0, .int .i64 0, .int .i64 0, .int .i64 0, .slice none 0 0] 49 (0, 0))
  low : Below w.heap.size w W
theorem CB.set {w W : World} {c : Array Value} (h : CB w W c) (i : Nat) (v : Value) : CB w (W.setCell ⟨w.heap.size, i, none⟩ v) (c.setIfInBounds i v) := by
  refine ⟨blk_setK v h.inb, ?_, h.low.trans ((Fr.setCell (S := fun k => k = w.heap.size) W ⟨w.heap.size, i, none⟩ v rfl).below h.low.size (fun k hk => by omega))⟩
  exact ((Fr.setCell (S := fun k => k = w.heap.size) W ⟨w.heap.size, i, none⟩ v rfl).block _ (Array.getElem?_eq_some_iff.1 h.zb).1 (by omega)).trans h.zb
theorem CB.new {w W W' : World} {c : Array Value} (h : CB w W c) (hb : Below W.heap.size W W') : CB w W' c :=
  ⟨(hb.block _ (Array.getElem?_eq_some_iff.1 h.inb).1).trans h.inb, (hb.block _ (Array.getElem?_eq_some_iff.1 h.zb).1).trans h.zb, h.low.trans (hb.mono h.low.size)⟩
theorem CB.al {w W : World} {c : Array Value} (h : CB w W c) (o : Obj) : CB w (W.alloc o) c := h.new (one_newK _ _)
theorem CB.fr {w W W' : World} {c : Array Value} {S : Nat → Prop} (h : CB w W c) (f : Fr W W' S) (hS : ∀ k, S k → w.heap.size + 2 ≤ k) : CB w W' c :=
  ⟨(f.block _ (Array.getElem?_eq_some_iff.1 h.inb).1 (fun e => by have := hS _ e; omega)).trans h.inb, (f.block _ (Array.getElem?_eq_some_iff.1 h.zb).1 (fun e => by have := hS _ e; omega)).trans h.zb, h.low.trans (f.below h.low.size (fun k e => by have := hS k e; omega))⟩
theorem CB.sz {w W : World} {c : Array Value} (h : CB w W c) : w.heap.size + 2 ≤ W.heap.size := (Array.getElem?_eq_some_iff.1 h.zb).1
theorem CB.cell {w W : World} {c : Array Value} (h : CB w W c) (i : Nat) (v : Value) (hv : c[i]? = some v) : W.cell? ⟨w.heap.size, i, none⟩ = some v := by
  simp [World.cell?, h.inb]; simpa using hv
theorem CB.soft {w W : World} {c : Array Value} (h : CB w W c) (i : Nat) : W.frozen? ⟨w.heap.size, i, none⟩ = false := by simp [World.frozen?, h.inb]
theorem CB.start (w : World) (c : Array Value) {W0 : World} (h : (w.alloc (.cells c 49)).alloc (.cells #[.int .i64 0, .int .i64 0, .int .i64 0, .slice none 0 0, .bool false, .slice none 0 0, .bool false, .bool false, .bool false, .bool false, .bool false, .int .i64 0, .int .i64 0, .int .i64 0, .int .i64 0, .int .i64 0, .int .i64 0, .slice none 0 0] 49) = W0) : CB w W0 c := by
  rw [← h]
  have h1 := heap_alloc_new (w.alloc (.cells c 49)) (.cells #[.int .i64 0, .int .i64 0, .int .i64 0, .slice none 0 0, .bool false, .slice none 0 0, .bool false, .bool false, .bool false, .bool false, .bool false, .int .i64 0, .int .i64 0, .int .i64 0, .int .i64 0, .int .i64 0, .int .i64 0, .slice none 0 0] 49)
  rw [World.size_alloc] at h1
  exact ⟨((one_newK _ _).block _ (by simp)).trans (heap_alloc_new _ _), h1, (one_newK _ _).trans ((one_newK _ _).mono (by simp))⟩
theorem all18 {x0 x1 x2 x3 x4 x5 x6 x7 x8 x9 x10 x11 x12 x13 x14 x15 x16 x17 : Value} (h0 : x0.oneCell' = true) (h1 : x1.oneCell' = true) (h2 : x2.oneCell' = true) (h3 : x3.oneCell' = true) (h4 : x4.oneCell' = true) (h5 : x5.oneCell' = true) (h6 : x6.oneCell' = true) (h7 : x7.oneCell' = true) (h8 : x8.oneCell' = true) (h9 : x9.oneCell' = true) (h10 : x10.oneCell' = true) (h11 : x11.oneCell' = true) (h12 : x12.oneCell' = true) (h13 : x13.oneCell' = true) (h14 : x14.oneCell' = true) (h15 : x15.oneCell' = true) (h16 : x16.oneCell' = true) (h17 : x17.oneCell' = true) : (#[x0, x1, x2, x3, x4, x5, x6, x7, x8, x9, x10, x11, x12, x13, x14, x15, x16, x17].all (fun x => x.oneCell')) = true := by
  simp [h0, h1, h2, h3, h4, h5, h6, h7, h8, h9, h10, h11, h12, h13, h14, h15, h16, h17]
set_option maxRecDepth 100000 in
set_option maxHeartbeats 4000000 in
theorem cut_any {w : World} {P : Nat → Prop} {st id va ma : Int} {eo mo po : Option Addr} {en ec mn mc pn pc : Nat} {ha ag0 ag1 ag2 ag3 ag4 ag5 ag6 ag7 ag8 ag9 : Value} (M : List Msg) (hm : mn = M.length) (hM : KsAt w P mo M) (hMok : ∀ m ∈ M, m.ok) (hmc : M.length ≤ mc) (hec : en ≤ ec) (heo : eo = none → ec = 0) (hva : I64 va)
    (hone : ha.oneCell' = true ∧ (ag0.oneCell' = true ∧ ag1.oneCell' = true ∧ ag2.oneCell' = true ∧ ag3.oneCell' = true ∧ ag4.oneCell' = true) ∧ (ag5.oneCell' = true ∧ ag6.oneCell' = true ∧ ag7.oneCell' = true ∧ ag8.oneCell' = true ∧ ag9.oneCell' = true)) :
    Calls Try.prog 21 #[(.agg #[.int .i64 st, .int .i64 id, .int .i64 va, .slice eo en ec, ha, .slice mo mn mc, ag0, ag1, ag2, ag3, ag4, ag5, ag6, ag7, ag8, ag9, .int .i64 ma, .slice po pn pc])] w fun r w' => ∃ (st' va' : Int) (eo' mo' po' : Option Addr) (en' ec' mn' mc' pn' pc' : Nat), r = .returned (.agg #[.int .i64 st', .int .i64 id, .int .i64 va', .slice eo' en' ec', ha, .slice mo' mn' mc', ag0, ag1, ag2, ag3, ag4, ag5, ag6, ag7, ag8, ag9, .int .i64 ma, .slice po' pn' pc']) ∧ Below w.heap.size w w' := by
  obtain ⟨i0, hi, hz0, hz1, hz2⟩ := info_parts infoKM
  subst hm
  obtain ⟨W0, hW0⟩ : ∃ W0, (w.alloc (.cells #[.int .i64 st, .int .i64 id, .int .i64 va, .slice eo en ec, ha, .slice mo M.length mc, ag0, ag1, ag2, ag3, ag4, ag5, ag6, ag7, ag8, ag9, .int .i64 ma, .slice po pn pc] 49)).alloc (.cells #[.int .i64 0, .int .i64 0, .int .i64 0, .slice none 0 0, .bool false, .slice none 0 0, .bool false, .bool false, .bool false, .bool false, .bool false, .int .i64 0, .int .i64 0, .int .i64 0, .int .i64 0, .int .i64 0, .int .i64 0, .slice none 0 0] 49) = W0 := ⟨_, rfl⟩
  have hC0 := CB.start w _ hW0
  have c5 := hC0.cell 5 (.slice mo M.length mc) rfl
  have f5 := hC0.soft 5
  have HC0 : Hid _ := hC0
  have HM : Hid (∀ W, Below w.heap.size w W → KsAt W P mo M) := fun W hb => hM.new hb
  have HMok : Hid _ := hMok
  have HOne : Hid _ := hone
  clear hC0 hM hMok hone
  go_enter Try.func21, Try.ntmps21
  go_upto_if 9 with fail
  go_cut [13] (fun _ wx => ∃ mn' : Nat, mn' ≤ 40 ∧ mn' ≤ M.length ∧ CB w wx #[.int .i64 st, .int .i64 id, .int .i64 va, .slice eo en ec, ha, .slice mo mn' mc, ag0, ag1, ag2, ag3, ag4, ag5, ag6, ag7, ag8, ag9, .int .i64 ma, .slice po pn pc])
  case first =>
    by_cases h40 : 40 < M.length
    · have hne : ∃ b off, mo = some ⟨b, off, none⟩ := by
        obtain ⟨b, off, e, _⟩ := HM.out w (Below.refl _ _) (by omega)
        exact ⟨b, off, e⟩
      obtain ⟨b, off, rfl⟩ := hne
      go_wp2
      go_meet
      exact ⟨40, by decide, by omega, HC0.out.set 5 (.slice (some ⟨b, off, none⟩) 40 mc)⟩
    · go_wp2
      go_meet
      exact ⟨M.length, by omega, by omega, HC0.out⟩
  case rest =>
    obtain ⟨mn', h40, hml, hC⟩ := hcut
    have HC1 : Hid _ := hC
    clear hC HC0 c5 f5
    go_upto_block 0 with fail
    go_cut [3] (fun u wx => ∃ (ao : Option Addr) (j c : Nat), u = .slice ao j c ∧ CB w wx #[.int .i64 st, .int .i64 id, .int .i64 va, .slice eo en ec, ha, .slice mo mn' mc, ag0, ag1, ag2, ag3, ag4, ag5, ag6, ag7, ag8, ag9, .int .i64 ma, .slice po pn pc])
    case first =>
      go_wp2
      go_loopw [3, 4, 5] (fun u i _ wr => ∃ (j : Nat) (ao : Option Addr) (c : Nat) (xs : List Value), j ≤ mn' ∧ u = .slice ao j c ∧ i = .int .i64 j ∧ wr.ownsRow (w.heap.size + 2) 66 4 (.slice ao j c) j xs ∧ CB w wr #[.int .i64 st, .int .i64 id, .int .i64 va, .slice eo en ec, ha, .slice mo mn' mc, ag0, ag1, ag2, ag3, ag4, ag5, ag6, ag7, ag8, ag9, .int .i64 ma, .slice po pn pc]) (fun _ i _ _ => mn' - (intOf i).toNat)
      case atStart => exact ⟨0, _, 0, [], Nat.zero_le _, rfl, rfl, World.ownsRow_made wc #[] 0 HC1.out.sz (by decide) (by simp), HC1.out.al _⟩
      case round =>
        obtain ⟨j, ao, c, xs, hj, rfl, rfl, hR, hC⟩ := hrel
        have c5 := hC.cell 5 (.slice mo mn' mc) rfl
        by_cases hlt : j < mn'
        · obtain ⟨b, off, rfl, hP, hc⟩ := HM.out wr hC.low (by omega)
          obtain ⟨e0, e1, e2, e3⟩ := hc j (by omega)
          have hy := (HMok.out _ (List.getElem_mem (show j < M.length by omega))).v
          generalize M[j]'(by omega) = y at e0 e1 e2 e3 hy
          have hy1 := hy.1
          have hy2 := hy.2
          have HR : Hid _ := hR
          have HC : Hid _ := hC
          clear hc hR hC hy
          go_wp2_with (at_builtin; refine wpList_append_own_at _ rfl _ _ 43 rfl (w.heap.size + 2) 66 i0 (.agg #[.int .i64 0, .int .i64 0, .int .i64 0, .int .i64 0]) 4 32 Try.underlying43 hi hz0 hz1 hz2 rfl (by decide) (.slice ao j c) j xs rfl (k_new (k_new HR.out (one_newK _ _)) (one_newK _ _)) ⟨wr.heap.size + 1, 0, none⟩ 1 1 [.int .i64 y.f, .int .i64 y.t, .int .i64 y.a, .int .i64 (y.v.tmod 1099511627776)] rfl rfl (k_four (by have := heap_alloc_new (wr.alloc (.cells #[.int .i64 y.f, .int .i64 y.t, .int .i64 y.a, .int .i64 (y.v.tmod 1099511627776)] 66)) (.cells #[.int .i64 y.f, .int .i64 y.t, .int .i64 y.a, .int .i64 (y.v.tmod 1099511627776)] 66); rw [World.size_alloc] at this; exact this)) (k_oneM ⟨y.f, y.t, y.a, y.v.tmod 1099511627776⟩) (by unfold maxLen; omega) (by omega) (by have := HC.out.sz; simp; omega) ?_)
          intro v' w4 hown hgrow hne hat
          have hC4 : CB w w4 _ := ((HC.out.al (.cells #[.int .i64 y.f, .int .i64 y.t, .int .i64 y.a, .int .i64 (y.v.tmod 1099511627776)] 66)).al (.cells #[.int .i64 y.f, .int .i64 y.t, .int .i64 y.a, .int .i64 (y.v.tmod 1099511627776)] 66)).fr (Fr.grown hgrow (S := fun k => w.heap.size + 2 ≤ k) (fun k hk => (World.ownsRow.lt HR.out k hk).1)) (fun k hk => hk)
          obtain ⟨ao', c', rfl⟩ := k_shape hown
          have HR4 : Hid _ := hown
          have HC4 : Hid _ := hC4
          clear hown hgrow hne hat hC4
          go_wp2
          go_roundw
          case rel => exact ⟨j + 1, ao', c', _, by omega, rfl, by go_num, HR4.out, HC4.out⟩
          case measure => simp [intOf]; omega
        · have HC : Hid _ := hC
          clear hC hR
          go_wp2
          go_meet
          exact ⟨ao, j, c, rfl, HC.out⟩
    case rest =>
      obtain ⟨ao, j, c, rfl, hC⟩ := hcut
      have HC : Hid _ := hC
      have c5 := hC.cell 5 (.slice mo mn' mc) rfl
      have f5 := hC.soft 5
      have c2 := hC.cell 2 (.int .i64 va) rfl
      have f2 := hC.soft 2
      have c3 := hC.cell 3 (.slice eo en ec) rfl
      have hv1 := hva.1
      have hv2 := hva.2
      have hsz := hC.sz
      clear hC hva HC1
      go_upto_if 47 with fail
      generalize hW : World.setCell _ _ _ = W1
      have hW1 : CB w W1 #[.int .i64 st, .int .i64 id, .int .i64 (va.tmod 1099511627776), .slice eo en ec, ha, .slice ao j c, ag0, ag1, ag2, ag3, ag4, ag5, ag6, ag7, ag8, ag9, .int .i64 ma, .slice po pn pc] := by rw [← hW]; exact (HC.out.set 5 (.slice ao j c)).set 2 (.int .i64 (va.tmod 1099511627776))
      have HW1 : Hid _ := hW1
      have d3 := hW1.cell 3 (.slice eo en ec) rfl
      have g3 := hW1.soft 3
      clear hW hW1 HC c5 f5 c2 f2 c3 hsz hv1 hv2
      go_cut [53] (fun _ wx => ∃ (eo1 : Option Addr) (en1 : Nat), CB w wx #[.int .i64 st, .int .i64 id, .int .i64 (va.tmod 1099511627776), .slice eo1 en1 ec, ha, .slice ao j c, ag0, ag1, ag2, ag3, ag4, ag5, ag6, ag7, ag8, ag9, .int .i64 ma, .slice po pn pc])
      case first =>
        by_cases he : 40 < en
        · obtain ⟨b, hb⟩ : ∃ b, eo = some b := by
            cases eo with
            | none => have := heo rfl; omega
            | some b => exact ⟨b, rfl⟩
          subst hb
          go_wp2
          go_meet
          exact ⟨some b, 40, HW1.out.set 3 (.slice (some b) 40 ec)⟩
        · go_wp2
          go_meet
          exact ⟨eo, en, HW1.out⟩
      case rest =>
        obtain ⟨eo1, en1, hC3⟩ := hcut
        have HC3 : Hid _ := hC3
        have d17 := hC3.cell 17 (.slice po pn pc) rfl
        have hal := hC3.al (.cells #[.int .i64 3] 2)
        have e17 := hal.cell 17 (.slice po pn pc) rfl
        have g17 := hal.soft 17
        have HAl : Hid _ := hal
        clear hC3 HW1 d3 g3 hal
        go_upto_if 57 with fail
        go_cut [59] (fun _ wx => ∃ (po1 : Option Addr) (pn1 pc1 : Nat), CB w wx #[.int .i64 st, .int .i64 id, .int .i64 (va.tmod 1099511627776), .slice eo1 en1 ec, ha, .slice ao j c, ag0, ag1, ag2, ag3, ag4, ag5, ag6, ag7, ag8, ag9, .int .i64 ma, .slice po1 pn1 pc1])
        case first =>
          by_cases hp : pn = 1
          · subst hp
            go_wp2
            go_meet
            exact ⟨po, 1, pc, HC3.out⟩
          · go_wp2
            go_meet
            exact ⟨_, 1, 1, HAl.out.set 17 _⟩
        case rest =>
          obtain ⟨po1, pn1, pc1, hC4⟩ := hcut
          have HC4 : Hid _ := hC4
          have d0 := hC4.cell 0 (.int .i64 st) rfl
          have g0 := hC4.soft 0
          clear hC4 HC3 d17 g17 e17 HAl
          go_upto_if 62 with fail
          go_cut [63] (fun _ wx => ∃ (st1 : Int), CB w wx #[.int .i64 st1, .int .i64 id, .int .i64 (va.tmod 1099511627776), .slice eo1 en1 ec, ha, .slice ao j c, ag0, ag1, ag2, ag3, ag4, ag5, ag6, ag7, ag8, ag9, .int .i64 ma, .slice po1 pn1 pc1])
          case first =>
            by_cases hs : st < 0
            · go_wp2
              go_meet
              exact ⟨0, HC4.out.set 0 (.int .i64 0)⟩
            · go_wp2
              go_meet
              exact ⟨st, HC4.out⟩
          case rest =>
            obtain ⟨st1, hC5⟩ := hcut
            have HW : Hid _ := hC5
            have hszw := hC5.sz
            clear hC5 HC4 d0 g0
            go_wp2_with (first | (refine wpList_load_row rfl 49 _ rfl w.heap.size rfl 49 #[.int .i64 st1, .int .i64 id, .int .i64 (va.tmod 1099511627776), .slice eo1 en1 ec, ha, .slice ao j c, ag0, ag1, ag2, ag3, ag4, ag5, ag6, ag7, ag8, ag9, .int .i64 ma, .slice po1 pn1 pc1] (0, 0) _ HW.out.inb Try.underlying49 rfl size_in ?_) | (refine wpList_store_row rfl 49 _ _ rfl (w.heap.size + 1) #[.int .i64 st1, .int .i64 id, .int .i64 (va.tmod 1099511627776), .slice eo1 en1 ec, ha, .slice ao j c, ag0, ag1, ag2, ag3, ag4, ag5, ag6, ag7, ag8, ag9, .int .i64 ma, .slice po1 pn1 pc1] rfl rfl 49 #[.int .i64 0, .int .i64 0, .int .i64 0, .slice none 0 0, .bool false, .slice none 0 0, .bool false, .bool false, .bool false, .bool false, .bool false, .int .i64 0, .int .i64 0, .int .i64 0, .int .i64 0, .int .i64 0, .int .i64 0, .slice none 0 0] HW.out.zb size_in rfl (all18 rfl rfl rfl rfl HOne.out.1 rfl HOne.out.2.1.1 HOne.out.2.1.2.1 HOne.out.2.1.2.2.1 HOne.out.2.1.2.2.2.1 HOne.out.2.1.2.2.2.2 HOne.out.2.2.1 HOne.out.2.2.2.1 HOne.out.2.2.2.2.1 HOne.out.2.2.2.2.2.1 HOne.out.2.2.2.2.2.2 rfl rfl) ?_))
            refine bodyPost_ret (v := .agg #[.int .i64 st1, .int .i64 id, .int .i64 (va.tmod 1099511627776), .slice eo1 en1 ec, ha, .slice ao j c, ag0, ag1, ag2, ag3, ag4, ag5, ag6, ag7, ag8, ag9, .int .i64 ma, .slice po1 pn1 pc1]) (results_cell_row Try.results21 _ _ (w.heap.size + 1) 49 _ (0, 0) _ rfl (setRow_heap _ _ _ _ _ _ HW.out.zb) Try.underlying49 rfl size_in) rfl ?_
            exact ⟨st1, (va.tmod 1099511627776), eo1, ao, po1, en1, ec, j, c, pn1, pc1, rfl, k_setRow HW.out.low (by omega) _⟩
end Go.Proofs.Ytepdpafpjiaaeaa
