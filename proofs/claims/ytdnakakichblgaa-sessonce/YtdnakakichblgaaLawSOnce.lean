/- SessOnce: each request is done once, in order, and told again what it told; all of it as bytes. -/
import Derived.Test.YtdnakakichblgaaSsWrong
import Derived.Test.YtdnakakichblgaaFrameW
namespace Go.Proofs.Ytdnakakichblgaa
open Go.RowKit Go.Maps
attribute [local go_sem] Oper.semAt_some
theorem RqS.takeQ {w : World} {g n cap : Nat} {L : List Req} (h : RqS w (.slice (some ⟨g, 0, none⟩) n cap) L) (a : Nat) (ha : a ≤ L.length) : RqS w (.slice (some ⟨g, 0, none⟩) a cap) (L.take a) := by
  obtain ⟨ao, c, e, h1, h2⟩ := h
  cases e
  have hl : (L.take a).length = a := by rw [List.length_take]; omega
  refine ⟨_, _, by rw [hl], by rw [hl]; omega, fun h0 => ?_⟩
  rw [hl] at h0
  obtain ⟨b, off, e, hc⟩ := h2 (by omega)
  cases e
  refine ⟨g, 0, rfl, fun j hj => ?_⟩
  rw [hl] at hj
  rw [List.getElem_take]
  exact hc j (by omega)
theorem RqS.dropQ {w : World} {g n cap : Nat} {L : List Req} (h : RqS w (.slice (some ⟨g, 0, none⟩) n cap) L) (a : Nat) (ha : a ≤ L.length) : RqS w (.slice (some ⟨g, a * 3, none⟩) (L.length - a) (cap - a)) (L.drop a) := by
  obtain ⟨ao, c, e, h1, h2⟩ := h
  cases e
  have hl : (L.drop a).length = L.length - a := List.length_drop
  refine ⟨_, _, by rw [hl], by rw [hl]; omega, fun h0 => ?_⟩
  rw [hl] at h0
  obtain ⟨b, off, e, hc⟩ := h2 (by omega)
  cases e
  refine ⟨g, a * 3, rfl, fun j hj => ?_⟩
  rw [hl] at hj
  rw [List.getElem_drop]
  have := hc (a + j) (by omega)
  rw [show 0 + (a + j) * 3 = a * 3 + j * 3 by omega] at this
  exact this
theorem last_at {L : List Req} (h : RiseQ L) (j : Nat) (hj : j < L.length) : lastR L L[j].k = L[j] := by
  have e : L = L.take j ++ L[j] :: L.drop (j + 1) := by rw [← List.drop_eq_getElem_cons hj, List.take_append_drop]
  have hA : ∀ x ∈ L.take j, x.k < L[j].k := fun x hx => by
    obtain ⟨q, hq, rfl⟩ := List.getElem_of_mem hx
    rw [List.length_take] at hq
    rw [List.getElem_take]
    exact rise_lt h (by omega) hj
  have hC : ∀ x ∈ L.drop (j + 1), L[j].k < x.k := fun x hx => by
    obtain ⟨q, hq, rfl⟩ := List.getElem_of_mem hx
    rw [List.length_drop] at hq
    rw [List.getElem_drop]
    exact rise_lt h (by omega) (by omega)
  have := in_last hA hC
  rw [← e] at this
  exact this
set_option linter.unusedSimpArgs false in
set_option linter.unusedVariables false in
set_option maxRecDepth 100000 in
set_option maxHeartbeats 16000000 in
theorem law_sonce (w : World) {v1 : Value} {X : List Ak} (h1 : AkS w v1 X) (o1 : ∀ x ∈ X, x.ok) (hl1 : X.length ≤ 1048576) : Calls Try.prog 3 #[v1] w fun r w' => r = .returned (.bool true) ∧ Below w.heap.size w w' := by
  obtain ⟨ao1, c1, rfl, hX⟩ := h1
  have HX : Hid (0 < X.length → ∃ b off, ao1 = some ⟨b, off, none⟩ ∧ ∀ j (h : j < X.length), w.cell? ⟨b, off + j * 4, none⟩ = some (.int .i64 X[j].k) ∧ w.cell? ⟨b, off + j * 4 + 1, none⟩ = some (.int .i64 X[j].n) ∧ w.cell? ⟨b, off + j * 4 + 2, none⟩ = some (.bool X[j].lk) ∧ w.cell? ⟨b, off + j * 4 + 3, none⟩ = some (.string X[j].s)) := hX
  have HO1 : Hid (∀ x ∈ X, x.ok) := o1
  have hmf : ∀ (fn : Fn) (first cap : Array Value) (w : World), (Instr.makeFunc fn first cap).run Try.prog w = .ok (.func fn first cap) w := fun _ _ _ _ => rfl
  clear hX o1
  have hN := snew w w.heap.size (Nat.le_refl _)
  go_enter Try.func3, Try.ntmps3
  go_upto_region 2 with (go_at_call 6; refine hN.mono ?_; rintro r w1 ⟨rfl, hT1, hb1⟩)
  have HT1 : Hid (TA w1 w.heap.size w.heap.size (.slice none 0 0) []) := hT1
  have HB1 : Hid (Below w.heap.size w w1) := hb1
  clear hN hT1 hb1
  obtain ⟨p, hp⟩ : ∃ p, w.heap.size = p := ⟨_, rfl⟩
  have HT1 : Hid (TA w1 w.heap.size p (.slice none 0 0) []) := by rw [← hp]; exact HT1.out
  rw [hp]
  clear hp
  have hA := awake15 w1
  go_upto_region 5 with (go_at_call 7; refine hA.mono ?_; rintro r w2 ⟨rfl, hb2⟩)
  generalize hW : World.alloc _ _ = w3
  have b3 : Below w2.heap.size w2 w3 := by rw [← hW]; exact sone_new _ _
  have hg3 : w3.heap[w2.heap.size]? = some (.cells #[] 39 (0, 0)) := by rw [← hW]; exact heap_alloc_new _ _
  have HB2 : Hid (Below w.heap.size w w2) := HB1.out.trans (hb2.mono HB1.out.size)
  have HB3 : Hid (Below w.heap.size w w3) := HB2.out.trans (b3.mono HB2.out.size)
  have HT3 : Hid (TA w3 w.heap.size p (.slice none 0 0) []) := (HT1.out.new hb2).new b3
  have HM3 : Hid (RqO 39 w3 w.heap.size (.slice (some ⟨w2.heap.size, 0, none⟩) 0 0) []) := (RqO.made hg3).lower HB2.out.size
  clear hW b3 hg3 hb2 hA HT1 HB1 HB2
  generalize w2.heap.size = g0 at HM3 ⊢
  go_wp2
  go_loopw [4, 5] (fun mv i wr => ∃ (j : Nat) (L : List Req) (v : Value) (g c : Nat), j ≤ X.length ∧ j ≤ 200 ∧ mv = .slice (some ⟨g, 0, none⟩) L.length c ∧ i = .int .i64 j ∧ Hid (TA wr w.heap.size p v L) ∧ Hid (RqO 39 wr w.heap.size (.slice (some ⟨g, 0, none⟩) L.length c) L) ∧ Hid (Tab L) ∧ Hid (Okq L j) ∧ Hid (Below w.heap.size w wr)) (fun _ i _ => X.length - (intOf i).toNat)
  case atStart => exact ⟨0, [], _, g0, 0, Nat.zero_le _, Nat.zero_le _, rfl, rfl, HT3, HM3, Tab.nil, (fun x hx => by simp at hx), HB3⟩
  case round =>
    clear HT3 HM3 HB3
    obtain ⟨j, L, v, g, c, hj, hj2, rfl, rfl, HT, HM, HTab, HOk, HB⟩ := hrel
    by_cases hlt : j < X.length ∧ j < 200
    · obtain ⟨hlt, hlt2⟩ := hlt
      obtain ⟨b, off, rfl, hc⟩ := HX.out (by omega)
      obtain ⟨e0, e1, e2, e3⟩ := hc j hlt
      have hbb := slt_cell e0
      have d0 := (HB.out.cell (p := ⟨b, off + j * 4, none⟩) hbb).trans e0
      have d1 := (HB.out.cell (p := ⟨b, off + j * 4 + 1, none⟩) hbb).trans e1
      have d2 := (HB.out.cell (p := ⟨b, off + j * 4 + 2, none⟩) hbb).trans e2
      have d3 := (HB.out.cell (p := ⟨b, off + j * 4 + 3, none⟩) hbb).trans e3
      have HXo : Hid (X[j].ok) := HO1.out _ (List.getElem_mem hlt)
      generalize X[j] = x at d0 d1 d2 d3 HXo
      have hjn : (j : Int) < X.length := by omega
      have hj3 : (j : Int) < 200 := by omega
      clear hc e0 e1 e2 e3 hbb
      go_upto_region 9 with (fail)
      generalize hW : World.alloc _ _ = W
      have bW : Below wr.heap.size wr W := by rw [← hW]; exact sone_new _ _
      have hZ : W.heap[wr.heap.size]? = some (.cells #[.int .i64 x.k, .int .i64 x.n, .bool x.lk, .string x.s] 28 (0, 0)) := by rw [← hW]; exact heap_alloc_new _ _
      have HT2 : Hid (TA W w.heap.size p v L) := HT.out.new bW
      have HM2 : Hid (RqO 39 W w.heap.size (.slice (some ⟨g, 0, none⟩) L.length c) L) := HM.out.new bW
      have HB2 : Hid (Below w.heap.size w W) := HB.out.trans (bW.mono HB.out.size)
      clear hW bW d0 d1 d2 d3 HT HM HB
      generalize wr.heap.size = q at hZ ⊢
      have HZ : Hid (W.heap[q]? = some (.cells #[.int .i64 x.k, .int .i64 x.n, .bool x.lk, .string x.s] 28 (0, 0))) := hZ
      obtain ⟨z0, z1, z2, z3⟩ := sbox4 hZ
      clear hZ
      have hWr := lwrong HM2.out.toS HTab.out x.k x.n x.lk x.s HXo.out.2.1
      obtain ⟨t, ht⟩ : ∃ t, lookR L x.k x.n = t := ⟨_, rfl⟩
      have HLk : Hid (lookR L x.k x.n = t) := ht
      rw [ht] at hWr
      clear ht
      have hw0 := hWr
      clear hw0
      go_upto_region 10 with (go_at_call 8; refine hWr.mono ?_; rintro r w4 ⟨rfl, hb4⟩)
      have HT4 : Hid (TA w4 w.heap.size p v L) := HT2.out.new hb4
      have HM4 : Hid (RqO 39 w4 w.heap.size (.slice (some ⟨g, 0, none⟩) L.length c) L) := HM2.out.new hb4
      have HB4 : Hid (Below w.heap.size w w4) := HB2.out.trans (hb4.mono HB2.out.size)
      have HZ4 : Hid (w4.heap[q]? = some (.cells #[.int .i64 x.k, .int .i64 x.n, .bool x.lk, .string x.s] 28 (0, 0))) := (hb4.block q (slt_blk HZ.out)).trans HZ.out
      clear hb4 hWr z0 z1 z2 z3 HT2 HM2 HB2 HZ
      obtain ⟨z0, z1, z2, z3⟩ := sbox4 HZ4.out
      obtain ⟨t1, t2, t3⟩ := t
      by_cases hlk : x.lk = true
      · rw [hlk] at z2
        have hL := slook HT4.out (by have := HTab.out.few; omega) HTab.out.rise x.k x.n HXo.out.2.1
        rw [HLk.out] at hL
        simp only at hL
        clear hlk
        have HOk' : Hid (Okq L (j + 1)) := fun y hy => ⟨(HOk.out y hy).1, by have := (HOk.out y hy).2.1; omega, (HOk.out y hy).2.2⟩
        go_wp2_with (go_at_call 9; refine hL.mono ?_; rintro r w5 ⟨rfl, hb5⟩)
        have HT5 : Hid (TA w5 w.heap.size p v L) := HT4.out.new hb5
        have HM5 : Hid (RqO 39 w5 w.heap.size (.slice (some ⟨g, 0, none⟩) L.length c) L) := HM4.out.new hb5
        have HB5 : Hid (Below w.heap.size w w5) := HB4.out.trans (hb5.mono HB4.out.size)
        go_roundw
        case rel => exact ⟨j + 1, L, v, g, c, by omega, by omega, rfl, by go_num, HT5, HM5, HTab, HOk', HB5⟩
        case measure => simp [intOf]; omega
      · have hlkf : x.lk = false := by simpa using hlk
        rw [hlkf] at z2
        clear hlk hlkf
        rcases look_cases L x.k x.n with e | ⟨e', hne, e⟩ | e
        · have hf : ¬ freshR L x.k x.n := by unfold freshR; rw [e]; simp
          have hD := sdo_old HT4.out HTab.out HXo.out.2.1 hf (.func (.func 11) #[] #[.pointer (some ⟨q, 0, none⟩)])
          rw [e] at hD
          rw [HLk.out] at e
          cases e
          simp only at hD
          clear hf HLk
          generalize (lastR L x.k).s = ts at hD ⊢
          have HOk' : Hid (Okq L (j + 1)) := fun y hy => ⟨(HOk.out y hy).1, by have := (HOk.out y hy).2.1; omega, (HOk.out y hy).2.2⟩
          go_wp2_with (first
            | (go_at_call 10; refine hD.mono ?_; rintro r w5 ⟨rfl, hb5⟩; have HT5 : Hid (TA w5 w.heap.size p v L) := HT4.out.new hb5; have HM5 : Hid (RqO 39 w5 w.heap.size (.slice (some ⟨g, 0, none⟩) L.length c) L) := HM4.out.new hb5; have HB5 : Hid (Below w.heap.size w w5) := HB4.out.trans (hb5.mono HB4.out.size); clear hb5)
            | (go_at_call 13; refine (slen HT5.out).mono ?_; rintro r w5 ⟨rfl, rfl⟩))
          go_roundw
          case rel => exact ⟨j + 1, L, v, g, c, by omega, by omega, rfl, by go_num, HT5, HM5, HTab, HOk', HB5⟩
          case measure => simp [intOf]; omega
        · have hf : ¬ freshR L x.k x.n := by unfold freshR; rw [e]; simp [hne]
          have hD := sdo_old HT4.out HTab.out HXo.out.2.1 hf (.func (.func 11) #[] #[.pointer (some ⟨q, 0, none⟩)])
          rw [e] at hD
          rw [HLk.out] at e
          cases e
          simp only [str] at hD
          clear hf HLk
          have hne0 : ¬ t3 = 0 := hne
          have hne1 : (t3 == 0) = false := by simpa using hne
          have hne2 : (t3 != 0) = true := by simpa using hne
          have HOk' : Hid (Okq L (j + 1)) := fun y hy => ⟨(HOk.out y hy).1, by have := (HOk.out y hy).2.1; omega, (HOk.out y hy).2.2⟩
          go_wp2_with (first
            | (go_at_call 10; refine hD.mono ?_; rintro r w5 ⟨rfl, hb5⟩; have HT5 : Hid (TA w5 w.heap.size p v L) := HT4.out.new hb5; have HM5 : Hid (RqO 39 w5 w.heap.size (.slice (some ⟨g, 0, none⟩) L.length c) L) := HM4.out.new hb5; have HB5 : Hid (Below w.heap.size w w5) := HB4.out.trans (hb5.mono HB4.out.size); clear hb5)
            | (go_at_call 13; refine (slen HT5.out).mono ?_; rintro r w5 ⟨rfl, rfl⟩))
          all_goals
            go_roundw
            case rel => exact ⟨j + 1, L, v, g, c, by omega, by omega, rfl, by go_num, HT5, HM5, HTab, HOk', HB5⟩
            case measure => simp [intOf]; omega
        · have hf : freshR L x.k x.n := by unfold freshR; rw [e]; exact ⟨rfl, rfl⟩
          have hD := sdo_fresh (g := 11) (cb := #[.pointer (some ⟨q, 0, none⟩)]) (s := x.s) HT4.out HTab.out HXo.out.2.1 hf (fun W' hf => tells_o1 (sbox4 (box_left HT4.out HZ4.out hf)).2.2.2)
          have HTab2 : Hid (Tab (putR L ⟨x.k, x.n, x.s⟩)) := HTab.out.put _ hf
          have HOk2 : Hid (Okq (putR L ⟨x.k, x.n, x.s⟩) (j + 1)) := by
            have := doL_ok HTab.out HOk.out (n := x.n) HXo.out.1 HXo.out.2.2
            unfold doL at this
            rw [if_pos (show (lookR L x.k x.n).2.1 = false ∧ (lookR L x.k x.n).2.2 = 0 from hf)] at this
            exact this
          rw [HLk.out] at e
          cases e
          clear hf HLk
          go_upto_region 15 with (go_at_call 10; refine hD.mono ?_; rintro r w5 ⟨rfl, ht5⟩)
          have HB5 : Hid (Below w.heap.size w w5) := TTo.below HT4.out HB4.out ht5
          obtain ⟨v5, hT5, hF5, _⟩ := ht5
          have HT5 : Hid (TA w5 w.heap.size p v5 (putR L ⟨x.k, x.n, x.s⟩)) := hT5
          have HM5 : Hid (RqO 39 w5 w.heap.size (.slice (some ⟨g, 0, none⟩) L.length c) L) := HM4.out.beside HT4.out hF5
          have HZ5 : Hid (w5.heap[q]? = some (.cells #[.int .i64 x.k, .int .i64 x.n, .bool x.lk, .string x.s] 28 (0, 0))) := box_left HT4.out HZ4.out hF5
          clear hD hT5 hF5 z0 z1 z2 z3 HT4 HM4 HZ4 HB4
          obtain ⟨z0, z1, z2, z3⟩ := sbox4 HZ5.out
          have hFi := lfind x.k HM5.out.toS (by have := HTab.out.few; omega) HTab.out.rise
          go_upto_region 19 with (go_at_call 12; refine hFi.mono ?_; rintro r w6 ⟨rfl, hb6⟩)
          have HT6 : Hid (TA w6 w.heap.size p v5 (putR L ⟨x.k, x.n, x.s⟩)) := HT5.out.new hb6
          have HM6 : Hid (RqO 39 w6 w.heap.size (.slice (some ⟨g, 0, none⟩) L.length c) L) := HM5.out.new hb6
          have HB6 : Hid (Below w.heap.size w w6) := HB5.out.trans (hb6.mono HB5.out.size)
          have hZ6 : w6.heap[q]? = some (.cells #[.int .i64 x.k, .int .i64 x.n, .bool x.lk, .string x.s] 28 (0, 0)) := (hb6.block q (slt_blk HZ5.out)).trans HZ5.out
          clear hFi hb6 z0 z1 z2 z3 HT5 HM5 HB5 HZ5
          obtain ⟨z0, z1, z2, z3⟩ := sbox4 hZ6
          clear hZ6
          go_upto_region 20 with (fail)
          generalize hW7 : World.alloc _ _ = w7
          have b7 : Below w6.heap.size w6 w7 := by rw [← hW7]; exact sone_new _ _
          have hQ7 : w7.heap[w6.heap.size]? = some (.cells #[.int .i64 x.k, .int .i64 x.n, .string x.s] 39 (0, 0)) := by rw [← hW7]; exact heap_alloc_new _ _
          have HT7 : Hid (TA w7 w.heap.size p v5 (putR L ⟨x.k, x.n, x.s⟩)) := HT6.out.new b7
          have HM7 : Hid (RqO 39 w7 w.heap.size (.slice (some ⟨g, 0, none⟩) L.length c) L) := HM6.out.new b7
          have HB7 : Hid (Below w.heap.size w w7) := HB6.out.trans (b7.mono HB6.out.size)
          have HQg : Hid (w6.heap.size ≠ g) := fun e => by have := (HM6.out.lt g rfl).2; omega
          clear hW7 b7 HT6 HM6 HB6 z0 z1 z2 z3
          generalize w6.heap.size = qx at hQ7 HQg ⊢
          have HQ7 : Hid (w7.heap[qx]? = some (.cells #[.int .i64 x.k, .int .i64 x.n, .string x.s] 39 (0, 0))) := hQ7
          obtain ⟨y0, y1, y2, _, _, _⟩ := sbox3 hQ7
          clear hQ7
          have hjp : posR L x.k ≤ L.length := posR_le L x.k
          have hcapL : L.length ≤ c := by
            obtain ⟨ao, cc, e, hh, _⟩ := HM7.out.shape
            cases e
            exact hh
          have hcmax : c ≤ 9223372036854775807 := by
            rcases HM7.out.2 with ⟨e, _⟩ | ⟨g', cap', cur, e, _, _, _, hm, _⟩
            · cases e
            · cases e
              unfold maxLen at hm
              omega
          by_cases hi : isR L x.k = true
          · have HPut : Hid (putR L ⟨x.k, x.n, x.s⟩ = L.set (posR L x.k) ⟨x.k, x.n, x.s⟩) := by
              show _ = _
              unfold putR
              rw [if_pos hi]
            have hlp : posR L x.k < L.length := by
              have h0 := hi
              unfold isR at h0
              cases e : L[posR L x.k]? with
              | none => rw [e] at h0; simp at h0
              | some y => exact (List.getElem?_eq_some_iff.1 e).1
            rw [hi]
            generalize posR L x.k = jj at hjp HPut hlp ⊢
            generalize putR L ⟨x.k, x.n, x.s⟩ = M2 at HPut HT7 HTab2 HOk2
            have hjpi : (jj : Int) < L.length := by omega
            obtain ⟨f0, f1, f2⟩ := HM7.out.at_ jj hlp
            have s0 := HM7.out.soft (jj * 3)
            have s1 := HM7.out.soft (jj * 3 + 1)
            have s2 := HM7.out.soft (jj * 3 + 2)
            generalize L[jj] = old at f0 f1 f2
            clear hi
            have hlen2 : M2.length = L.length := by rw [HPut.out, List.length_set]
            have HLen2 : Hid (M2.length = L.length) := hlen2
            clear hlen2
            go_upto_region 23 with (fail)
            generalize hW8 : World.setCell _ _ _ = w8
            have f8 : Fr w7 w8 (fun k => k = g) := by rw [← hW8]; exact sset3g_fr w7 g (jj * 3) _ _ _
            have HM8 : Hid (RqO 39 w8 w.heap.size (.slice (some ⟨g, 0, none⟩) L.length c) M2) := by rw [← hW8, HPut.out]; exact HM7.out.set jj hlp ⟨x.k, x.n, x.s⟩
            have HT8 : Hid (TA w8 w.heap.size p v5 M2) := HT7.out.beside HM7.out (f8.mono (fun k _ e => by rw [e]; rfl))
            have HB8 : Hid (Below w.heap.size w w8) := HB7.out.trans (f8.below HB7.out.size (fun k hk => by have := (HM7.out.lt g rfl).1; omega))
            clear hW8 f8 f0 f1 f2 s0 s1 s2 y0 y1 y2
            have hLn := slen HT8.out
            rw [HLen2.out] at hLn
            go_wp2_with (go_at_call 13; refine hLn.mono ?_; rintro r w8 ⟨rfl, rfl⟩)
            go_roundw
            case rel => exact ⟨j + 1, M2, v5, g, c, by omega, by omega, by rw [HLen2.out], by go_num, HT8, (by have := HM8.out; rw [← HLen2.out] at this; exact this), HTab2, HOk2, HB8⟩
            case measure => simp [intOf]; omega
          · have hif : isR L x.k = false := by simpa using hi
            have HPut : Hid (putR L ⟨x.k, x.n, x.s⟩ = L.take (posR L x.k) ++ ⟨x.k, x.n, x.s⟩ :: L.drop (posR L x.k)) := by
              show _ = _
              unfold putR
              rw [if_neg hi]
            rw [hif]
            generalize posR L x.k = jj at hjp HPut ⊢
            generalize putR L ⟨x.k, x.n, x.s⟩ = M2 at HPut HT7 HTab2 HOk2
            clear hi hif
            obtain ⟨x0, hx0⟩ : ∃ x0 : Req, x0 = ⟨x.k, x.n, x.s⟩ := ⟨_, rfl⟩
            rw [← hx0] at HPut
            have HX0 : Hid (x0 = ⟨x.k, x.n, x.s⟩) := hx0
            clear hx0
            have HMl : Hid (0 < M2.length) := by show _ < _; rw [HPut.out]; simp; omega
            have hMl : 0 < M2.length := HMl.out
            go_upto_region 22 with (fail)
            obtain ⟨Wd, hWd⟩ : ∃ Wd, w7.drew = Wd := ⟨_, rfl⟩
            have bd : Below w7.heap.size w7 Wd := by rw [← hWd]; exact Below.drew (Below.refl _ _)
            have HTd : Hid (TA Wd w.heap.size p v5 M2) := HT7.out.new bd
            have HMd : Hid (RqO 39 Wd w.heap.size (.slice (some ⟨g, 0, none⟩) L.length c) L) := HM7.out.new bd
            have HBd : Hid (Below w.heap.size w Wd) := HB7.out.trans (bd.mono HB7.out.size)
            have hQd : Wd.heap[qx]? = some (.cells #[.int .i64 x.k, .int .i64 x.n, .string x.s] 39 (0, 0)) := (bd.block qx (slt_blk HQ7.out)).trans HQ7.out
            clear y0 y1 y2 bd HT7 HM7 HB7
            obtain ⟨y0, y1, y2, _, _, _⟩ := sbox3 hQd
            clear hQd
            have hjpi : (jj : Int) ≤ L.length := by omega
            have hjc : jj ≤ c := by omega
            have srcA : ∀ W', Below Wd.heap.size Wd W' → RqS W' (.slice (some ⟨g, 0, none⟩) jj c) (L.take jj) := fun W' hb => (HMd.out.new hb).toS.takeQ jj hjp
            by_cases hcj : jj = c
            · subst hcj
              have srcB : ∀ W', Below Wd.heap.size Wd W' → RqS W' (.slice (some ⟨g, 0, none⟩) 0 0) (L.drop jj) := fun W' _ => by rw [List.drop_of_length_le (by omega)]; exact ⟨_, 0, rfl, Nat.zero_le _, fun h => absurd h (by simp)⟩
              have hsub : L.length - jj = 0 := by omega
              refine wp_calmS ?_
              refine wp_region_L [] (fun w' : World => w'.cell? ⟨qx, 0, none⟩ = some (.int .i64 x.k) ∧ w'.cell? ⟨qx, 1, none⟩ = some (.int .i64 x.n) ∧ w'.cell? ⟨qx, 2, none⟩ = some (.string x.s)) (by kernel_rfl) ?_
              rw [hWd]
              clear hWd
              have hS : (fun w' : World => w'.cell? ⟨qx, 0, none⟩ = some (.int .i64 x.k) ∧ w'.cell? ⟨qx, 1, none⟩ = some (.int .i64 x.n) ∧ w'.cell? ⟨qx, 2, none⟩ = some (.string x.s)) Wd := ⟨y0, y1, y2⟩
              have bwWd : Below Wd.heap.size Wd Wd := Below.refl _ _
              refine wpAnyL_take (i := 1) 149 (v := .slice (some ⟨g, 0, none⟩) L.length jj) rfl rfl (by kernel_rfl) (by kernel_rfl) (by kernel_rfl) (by kernel_rfl) (by kernel_rfl) (by kernel_rfl) (fun _ _ _ h => h) hS (by rfl) (by intro w' hSw; obtain ⟨y0, y1, y2⟩ := hSw; go_simp <;> with_reducible rfl) ?_
              simp only [Act.put, List.setIfInBounds_toArray, List.set_cons_zero, List.set_cons_succ]
              refine wpAnyL_take (i := 2) 150 (v := .int .i64 jj) rfl rfl (by kernel_rfl) (by kernel_rfl) (by kernel_rfl) (by kernel_rfl) (by kernel_rfl) (by kernel_rfl) (fun _ _ _ h => h) hS (by rfl) (by intro w' hSw; obtain ⟨y0, y1, y2⟩ := hSw; go_simp <;> with_reducible rfl) ?_
              simp only [Act.put, List.setIfInBounds_toArray, List.set_cons_zero, List.set_cons_succ]
              refine wpAnyL_take (i := 3) 151 (v := .slice (some ⟨g, 0, none⟩) jj jj) rfl rfl (by kernel_rfl) (by kernel_rfl) (by kernel_rfl) (by kernel_rfl) (by kernel_rfl) (by kernel_rfl) (fun _ _ _ h => h) hS (by rfl) (by intro w' hSw; obtain ⟨y0, y1, y2⟩ := hSw; go_simp <;> with_reducible rfl) ?_
              simp only [Act.put, List.setIfInBounds_toArray, List.set_cons_zero, List.set_cons_succ]
              refine wpAnyL_take (i := 5) 153 (v := .agg #[.int .i64 x.k, .int .i64 x.n, .string x.s]) rfl rfl (by kernel_rfl) (by kernel_rfl) (by kernel_rfl) (by kernel_rfl) (by kernel_rfl) (by kernel_rfl) (fun _ _ _ h => h) hS (by rfl) (by intro w' hSw; obtain ⟨y0, y1, y2⟩ := hSw; go_simp <;> with_reducible rfl) ?_
              simp only [Act.put, List.setIfInBounds_toArray, List.set_cons_zero, List.set_cons_succ]
              refine wpAnyL_take (i := 8) 156 (v := .slice (some ⟨g, 0, none⟩) L.length jj) rfl rfl (by kernel_rfl) (by kernel_rfl) (by kernel_rfl) (by kernel_rfl) (by kernel_rfl) (by kernel_rfl) (fun _ _ _ h => h) hS (by rfl) (by intro w' hSw; obtain ⟨y0, y1, y2⟩ := hSw; go_simp <;> with_reducible rfl) ?_
              simp only [Act.put, List.setIfInBounds_toArray, List.set_cons_zero, List.set_cons_succ]
              refine wpAnyL_take (i := 9) 157 (v := .int .i64 jj) rfl rfl (by kernel_rfl) (by kernel_rfl) (by kernel_rfl) (by kernel_rfl) (by kernel_rfl) (by kernel_rfl) (fun _ _ _ h => h) hS (by rfl) (by intro w' hSw; obtain ⟨y0, y1, y2⟩ := hSw; go_simp <;> with_reducible rfl) ?_
              simp only [Act.put, List.setIfInBounds_toArray, List.set_cons_zero, List.set_cons_succ]
              refine wpAnyL_take (i := 10) 158 (v := .slice (some ⟨g, 0, none⟩) 0 0) rfl rfl (by kernel_rfl) (by kernel_rfl) (by kernel_rfl) (by kernel_rfl) (by kernel_rfl) (by kernel_rfl) (fun _ _ _ h => h) hS (by rfl) (by intro w' hSw; obtain ⟨y0, y1, y2⟩ := hSw; go_simp <;> with_reducible rfl) ?_
              simp only [Act.put, List.setIfInBounds_toArray, List.set_cons_zero, List.set_cons_succ]
              refine wpAnyL_two (i := 0) (j := 6) (by kernel_rfl) rfl rfl (fun Ka hKa => ?_) (fun Ka hKa => ?_)
              · go_simp
                generalize hqX1 : World.alloc _ _ = X1
                have bbX1 : Below Wd.heap.size Wd X1 := by rw [← hqX1]; exact sone_new _ _
                have hgX1 : X1.heap[Wd.heap.size]? = some (.cells #[] 39 (0, 0)) := by rw [← hqX1]; exact heap_alloc_new _ _
                have bwX1 : Below Wd.heap.size Wd X1 := bwWd.trans (bbX1.mono bwWd.size)
                have hA : RqO 39 X1 Wd.heap.size (.slice (some ⟨Wd.heap.size, 0, none⟩) 0 0) [] := (RqO.made hgX1).lower bwWd.size
                have hSX1 : (fun w' : World => w'.cell? ⟨qx, 0, none⟩ = some (.int .i64 x.k) ∧ w'.cell? ⟨qx, 1, none⟩ = some (.int .i64 x.n) ∧ w'.cell? ⟨qx, 2, none⟩ = some (.string x.s)) X1 := ⟨(bwX1.cell (p := ⟨qx, 0, none⟩) (slt_cell y0)).trans y0, (bwX1.cell (p := ⟨qx, 1, none⟩) (slt_cell y1)).trans y1, (bwX1.cell (p := ⟨qx, 2, none⟩) (slt_cell y2)).trans y2⟩
                refine hKa.out _ _ (fun _ => hSX1) ?_
                clear hKa Ka hqX1
                try simp only [Act.put, List.setIfInBounds_toArray, List.set_cons_zero, List.set_cons_succ]
                refine wpAnyL_two (i := 4) (j := 6) (by kernel_rfl) rfl rfl (fun Ka hKa => ?_) (fun Ka hKa => ?_)
                · refine stp_appQ rqT_last rfl (.tmp 148) (.tmp 151) rfl (R := []) (S := (L.take jj)) rfl rfl hA (srcA X1 bwX1) (by have := HTab.out.few; simp; omega) bwX1.size ?_
                  intro vhB4 X2 hB4 hfX2 hrX2
                  obtain ⟨LA, eA⟩ : ∃ LA, [] ++ L.take jj = LA := ⟨_, rfl⟩
                  have HLA : Hid ([] ++ L.take jj = LA) := eA
                  rw [eA] at hB4
                  clear eA
                  have bwX2 : Below Wd.heap.size Wd X2 := bwX1.trans (hfX2.below bwX1.size (fun k hk => (hA.lt k hk).1))
                  have hSX2 : (fun w' : World => w'.cell? ⟨qx, 0, none⟩ = some (.int .i64 x.k) ∧ w'.cell? ⟨qx, 1, none⟩ = some (.int .i64 x.n) ∧ w'.cell? ⟨qx, 2, none⟩ = some (.string x.s)) X2 := ⟨(bwX2.cell (p := ⟨qx, 0, none⟩) (slt_cell y0)).trans y0, (bwX2.cell (p := ⟨qx, 1, none⟩) (slt_cell y1)).trans y1, (bwX2.cell (p := ⟨qx, 2, none⟩) (slt_cell y2)).trans y2⟩
                  obtain ⟨aohB4, chB4, rfl, _, hghB4⟩ := hB4.shape
                  refine hKa.out _ _ (fun _ => hSX2) ?_
                  clear hKa Ka
                  try simp only [Act.put, List.setIfInBounds_toArray, List.set_cons_zero, List.set_cons_succ]
                  refine wpAnyL_one (i := 6) (by kernel_rfl) rfl (fun Ka hKa => ?_)
                  go_simp
                  generalize hqX3 : World.alloc _ _ = X3
                  have bbX3 : Below X2.heap.size X2 X3 := by rw [← hqX3]; exact sone_new _ _
                  have hv : X3.heap[X2.heap.size]? = some (.cells #[.int .i64 x.k, .int .i64 x.n, .string x.s] 39 (0, 0)) := by rw [← hqX3]; exact heap_alloc_new _ _
                  have bwX3 : Below Wd.heap.size Wd X3 := bwX2.trans (bbX3.mono bwX2.size)
                  have hSX3 : (fun w' : World => w'.cell? ⟨qx, 0, none⟩ = some (.int .i64 x.k) ∧ w'.cell? ⟨qx, 1, none⟩ = some (.int .i64 x.n) ∧ w'.cell? ⟨qx, 2, none⟩ = some (.string x.s)) X3 := ⟨(bwX3.cell (p := ⟨qx, 0, none⟩) (slt_cell y0)).trans y0, (bwX3.cell (p := ⟨qx, 1, none⟩) (slt_cell y1)).trans y1, (bwX3.cell (p := ⟨qx, 2, none⟩) (slt_cell y2)).trans y2⟩
                  refine hKa.out _ _ (fun _ => hSX3) ?_
                  clear hKa Ka hqX3
                  try simp only [Act.put, List.setIfInBounds_toArray, List.set_cons_zero, List.set_cons_succ]
                  have hB4' := hB4.new bbX3
                  have hltb := fun k hk => (hB4.lt k hk).2
                  generalize X2.heap.size = vb at hv hltb ⊢
                  have hLA : LA.length ≤ 64 := by rw [← HLA.out]; have := HTab.out.few; simp; omega
                  have hne7 : ¬ (Value.slice aohB4 LA.length chB4).ownBlock = some vb := fun e => by have := hltb vb e; omega
                  refine wpAnyL_one (i := 7) (by kernel_rfl) rfl (fun Ka hKa => ?_)
                  refine stp_appQ rqT_last rfl (.tmp 152) (.tmp 154) rfl (R := LA) (S := [x0]) rfl rfl hB4' (show RqS _ _ [x0] by rw [HX0.out]; exact RqS.one (x := ⟨x.k, x.n, x.s⟩) hv 1 (Nat.le_refl _)) (by simp; omega) bwX3.size ?_
                  intro vhC7 Y7 hC7 hfY7 hrY7
                  obtain ⟨LB, eB⟩ : ∃ LB, LA ++ [x0] = LB := ⟨_, rfl⟩
                  have HLB : Hid (LA ++ [x0] = LB) := eB
                  have hLB : LB.length ≤ 65 := by rw [← eB]; simp; omega
                  rw [eB] at hC7
                  clear eB
                  have bwY7 : Below Wd.heap.size Wd Y7 := bwX3.trans (hfY7.below bwX3.size (fun k hk => (hB4'.lt k hk).1))
                  have hSY7 : (fun w' : World => w'.cell? ⟨qx, 0, none⟩ = some (.int .i64 x.k) ∧ w'.cell? ⟨qx, 1, none⟩ = some (.int .i64 x.n) ∧ w'.cell? ⟨qx, 2, none⟩ = some (.string x.s)) Y7 := ⟨(bwY7.cell (p := ⟨qx, 0, none⟩) (slt_cell y0)).trans y0, (bwY7.cell (p := ⟨qx, 1, none⟩) (slt_cell y1)).trans y1, (bwY7.cell (p := ⟨qx, 2, none⟩) (slt_cell y2)).trans y2⟩
                  obtain ⟨aohC7, chC7, rfl, _, hghC7⟩ := hC7.shape
                  refine hKa.out _ _ (fun _ => hSY7) ?_
                  clear hKa Ka
                  try simp only [Act.put, List.setIfInBounds_toArray, List.set_cons_zero, List.set_cons_succ]
                  refine wpAnyL_one (i := 11) (by kernel_rfl) rfl (fun Ka hKa => ?_)
                  refine stp_appQ rqT_last rfl (.tmp 155) (.tmp 158) rfl (R := LB) (S := (L.drop jj)) rfl rfl hC7 (srcB Y7 bwY7) (by have := HTab.out.few; simp; omega) bwY7.size ?_
                  intro vhD11 Y11 hD11 hfY11 hrY11
                  have eM : LB ++ L.drop jj = M2 := by rw [HPut.out, ← HLB.out, ← HLA.out]; simp
                  rw [eM] at hD11
                  clear eM
                  have bwY11 : Below Wd.heap.size Wd Y11 := bwY7.trans (hfY11.below bwY7.size (fun k hk => (hC7.lt k hk).1))
                  have hSY11 : (fun w' : World => w'.cell? ⟨qx, 0, none⟩ = some (.int .i64 x.k) ∧ w'.cell? ⟨qx, 1, none⟩ = some (.int .i64 x.n) ∧ w'.cell? ⟨qx, 2, none⟩ = some (.string x.s)) Y11 := ⟨(bwY11.cell (p := ⟨qx, 0, none⟩) (slt_cell y0)).trans y0, (bwY11.cell (p := ⟨qx, 1, none⟩) (slt_cell y1)).trans y1, (bwY11.cell (p := ⟨qx, 2, none⟩) (slt_cell y2)).trans y2⟩
                  obtain ⟨aohD11, chD11, rfl, _, hghD11⟩ := hD11.shape
                  refine hKa.out _ _ (fun _ => hSY11) ?_
                  clear hKa Ka
                  try simp only [Act.put, List.setIfInBounds_toArray, List.set_cons_zero, List.set_cons_succ]
                  refine wpAnyL_take (i := 12) 4 (v := .slice aohD11 M2.length chD11) rfl rfl (by kernel_rfl) (by kernel_rfl) (by kernel_rfl) (by kernel_rfl) (by kernel_rfl) (by kernel_rfl) (fun _ _ _ h => h) hSY11 (by rfl) (by intro w' hSw; go_simp <;> with_reducible rfl) ?_
                  simp only [Act.put, List.setIfInBounds_toArray, List.set_cons_zero, List.set_cons_succ]
                  refine wpAnyL_done (by kernel_rfl) ?_ _
                  have HMn : Hid (RqO 39 Y11 w.heap.size (.slice aohD11 M2.length chD11) M2) := hD11.lower HBd.out.size
                  have HTn : Hid (TA Y11 w.heap.size p v5 M2) := HTd.out.new bwY11
                  have HBn : Hid (Below w.heap.size w Y11) := HBd.out.trans (bwY11.mono HBd.out.size)
                  obtain ⟨gn, hgn⟩ := hghD11 (by omega)
                  subst hgn
                  clear hD11
                  go_wp2_with (go_at_call 13; refine (slen HTn.out).mono ?_; rintro r Y11 ⟨rfl, rfl⟩)
                  go_roundw
                  case rel => exact ⟨j + 1, M2, v5, gn, chD11, by omega, by omega, rfl, by go_num, HTn, HMn, HTab2, HOk2, HBn⟩
                  case measure => simp [intOf]; omega
                · go_simp
                  generalize hqX2 : World.alloc _ _ = X2
                  have bbX2 : Below X1.heap.size X1 X2 := by rw [← hqX2]; exact sone_new _ _
                  have hv : X2.heap[X1.heap.size]? = some (.cells #[.int .i64 x.k, .int .i64 x.n, .string x.s] 39 (0, 0)) := by rw [← hqX2]; exact heap_alloc_new _ _
                  have bwX2 : Below Wd.heap.size Wd X2 := bwX1.trans (bbX2.mono bwX1.size)
                  have hSX2 : (fun w' : World => w'.cell? ⟨qx, 0, none⟩ = some (.int .i64 x.k) ∧ w'.cell? ⟨qx, 1, none⟩ = some (.int .i64 x.n) ∧ w'.cell? ⟨qx, 2, none⟩ = some (.string x.s)) X2 := ⟨(bwX2.cell (p := ⟨qx, 0, none⟩) (slt_cell y0)).trans y0, (bwX2.cell (p := ⟨qx, 1, none⟩) (slt_cell y1)).trans y1, (bwX2.cell (p := ⟨qx, 2, none⟩) (slt_cell y2)).trans y2⟩
                  refine hKa.out _ _ (fun _ => hSX2) ?_
                  clear hKa Ka hqX2
                  try simp only [Act.put, List.setIfInBounds_toArray, List.set_cons_zero, List.set_cons_succ]
                  have hA' := hA.new bbX2
                  have hvlt : X1.heap.size < X2.heap.size := slt_blk hv
                  have hglt : Wd.heap.size < X1.heap.size := slt_blk hgX1
                  refine wpAnyL_one (i := 4) (by kernel_rfl) rfl (fun Ka hKa => ?_)
                  refine stp_appQ rqT_last rfl (.tmp 148) (.tmp 151) rfl (R := []) (S := (L.take jj)) rfl rfl hA' (srcA X2 bwX2) (by have := HTab.out.few; simp; omega) bwX2.size ?_
                  intro vhB4 X3 hB4 hfX3 hrX3
                  obtain ⟨LA, eA⟩ : ∃ LA, [] ++ L.take jj = LA := ⟨_, rfl⟩
                  have HLA : Hid ([] ++ L.take jj = LA) := eA
                  rw [eA] at hB4
                  clear eA
                  have bwX3 : Below Wd.heap.size Wd X3 := bwX2.trans (hfX3.below bwX2.size (fun k hk => (hA'.lt k hk).1))
                  have hSX3 : (fun w' : World => w'.cell? ⟨qx, 0, none⟩ = some (.int .i64 x.k) ∧ w'.cell? ⟨qx, 1, none⟩ = some (.int .i64 x.n) ∧ w'.cell? ⟨qx, 2, none⟩ = some (.string x.s)) X3 := ⟨(bwX3.cell (p := ⟨qx, 0, none⟩) (slt_cell y0)).trans y0, (bwX3.cell (p := ⟨qx, 1, none⟩) (slt_cell y1)).trans y1, (bwX3.cell (p := ⟨qx, 2, none⟩) (slt_cell y2)).trans y2⟩
                  obtain ⟨aohB4, chB4, rfl, _, hghB4⟩ := hB4.shape
                  refine hKa.out _ _ (fun _ => hSX3) ?_
                  clear hKa Ka
                  try simp only [Act.put, List.setIfInBounds_toArray, List.set_cons_zero, List.set_cons_succ]
                  have hv := (hfX3.block _ hvlt (fun e => by have e4 : Wd.heap.size = X1.heap.size := Option.some.inj e; omega)).trans hv
                  have hrow4 := hrX3
                  generalize X1.heap.size = vb at hv hvlt hglt ⊢
                  have hLA : LA.length ≤ 64 := by rw [← HLA.out]; have := HTab.out.few; simp; omega
                  have hne7 : ¬ (Value.slice aohB4 LA.length chB4).ownBlock = some vb := fun e => by rcases hrow4 with h | ⟨gg, h, h2⟩ <;> first | (have e4 : Wd.heap.size = vb := Option.some.inj (h.symm.trans e); omega) | (have e4 : gg = vb := Option.some.inj (h.symm.trans e); omega)
                  refine wpAnyL_one (i := 7) (by kernel_rfl) rfl (fun Ka hKa => ?_)
                  refine stp_appQ rqT_last rfl (.tmp 152) (.tmp 154) rfl (R := LA) (S := [x0]) rfl rfl hB4 (show RqS _ _ [x0] by rw [HX0.out]; exact RqS.one (x := ⟨x.k, x.n, x.s⟩) hv 1 (Nat.le_refl _)) (by simp; omega) bwX3.size ?_
                  intro vhC7 Y7 hC7 hfY7 hrY7
                  obtain ⟨LB, eB⟩ : ∃ LB, LA ++ [x0] = LB := ⟨_, rfl⟩
                  have HLB : Hid (LA ++ [x0] = LB) := eB
                  have hLB : LB.length ≤ 65 := by rw [← eB]; simp; omega
                  rw [eB] at hC7
                  clear eB
                  have bwY7 : Below Wd.heap.size Wd Y7 := bwX3.trans (hfY7.below bwX3.size (fun k hk => (hB4.lt k hk).1))
                  have hSY7 : (fun w' : World => w'.cell? ⟨qx, 0, none⟩ = some (.int .i64 x.k) ∧ w'.cell? ⟨qx, 1, none⟩ = some (.int .i64 x.n) ∧ w'.cell? ⟨qx, 2, none⟩ = some (.string x.s)) Y7 := ⟨(bwY7.cell (p := ⟨qx, 0, none⟩) (slt_cell y0)).trans y0, (bwY7.cell (p := ⟨qx, 1, none⟩) (slt_cell y1)).trans y1, (bwY7.cell (p := ⟨qx, 2, none⟩) (slt_cell y2)).trans y2⟩
                  obtain ⟨aohC7, chC7, rfl, _, hghC7⟩ := hC7.shape
                  refine hKa.out _ _ (fun _ => hSY7) ?_
                  clear hKa Ka
                  try simp only [Act.put, List.setIfInBounds_toArray, List.set_cons_zero, List.set_cons_succ]
                  refine wpAnyL_one (i := 11) (by kernel_rfl) rfl (fun Ka hKa => ?_)
                  refine stp_appQ rqT_last rfl (.tmp 155) (.tmp 158) rfl (R := LB) (S := (L.drop jj)) rfl rfl hC7 (srcB Y7 bwY7) (by have := HTab.out.few; simp; omega) bwY7.size ?_
                  intro vhD11 Y11 hD11 hfY11 hrY11
                  have eM : LB ++ L.drop jj = M2 := by rw [HPut.out, ← HLB.out, ← HLA.out]; simp
                  rw [eM] at hD11
                  clear eM
                  have bwY11 : Below Wd.heap.size Wd Y11 := bwY7.trans (hfY11.below bwY7.size (fun k hk => (hC7.lt k hk).1))
                  have hSY11 : (fun w' : World => w'.cell? ⟨qx, 0, none⟩ = some (.int .i64 x.k) ∧ w'.cell? ⟨qx, 1, none⟩ = some (.int .i64 x.n) ∧ w'.cell? ⟨qx, 2, none⟩ = some (.string x.s)) Y11 := ⟨(bwY11.cell (p := ⟨qx, 0, none⟩) (slt_cell y0)).trans y0, (bwY11.cell (p := ⟨qx, 1, none⟩) (slt_cell y1)).trans y1, (bwY11.cell (p := ⟨qx, 2, none⟩) (slt_cell y2)).trans y2⟩
                  obtain ⟨aohD11, chD11, rfl, _, hghD11⟩ := hD11.shape
                  refine hKa.out _ _ (fun _ => hSY11) ?_
                  clear hKa Ka
                  try simp only [Act.put, List.setIfInBounds_toArray, List.set_cons_zero, List.set_cons_succ]
                  refine wpAnyL_take (i := 12) 4 (v := .slice aohD11 M2.length chD11) rfl rfl (by kernel_rfl) (by kernel_rfl) (by kernel_rfl) (by kernel_rfl) (by kernel_rfl) (by kernel_rfl) (fun _ _ _ h => h) hSY11 (by rfl) (by intro w' hSw; go_simp <;> with_reducible rfl) ?_
                  simp only [Act.put, List.setIfInBounds_toArray, List.set_cons_zero, List.set_cons_succ]
                  refine wpAnyL_done (by kernel_rfl) ?_ _
                  have HMn : Hid (RqO 39 Y11 w.heap.size (.slice aohD11 M2.length chD11) M2) := hD11.lower HBd.out.size
                  have HTn : Hid (TA Y11 w.heap.size p v5 M2) := HTd.out.new bwY11
                  have HBn : Hid (Below w.heap.size w Y11) := HBd.out.trans (bwY11.mono HBd.out.size)
                  obtain ⟨gn, hgn⟩ := hghD11 (by omega)
                  subst hgn
                  clear hD11
                  go_wp2_with (go_at_call 13; refine (slen HTn.out).mono ?_; rintro r Y11 ⟨rfl, rfl⟩)
                  go_roundw
                  case rel => exact ⟨j + 1, M2, v5, gn, chD11, by omega, by omega, rfl, by go_num, HTn, HMn, HTab2, HOk2, HBn⟩
                  case measure => simp [intOf]; omega
              · go_simp
                generalize hqX1 : World.alloc _ _ = X1
                have bbX1 : Below Wd.heap.size Wd X1 := by rw [← hqX1]; exact sone_new _ _
                have hv : X1.heap[Wd.heap.size]? = some (.cells #[.int .i64 x.k, .int .i64 x.n, .string x.s] 39 (0, 0)) := by rw [← hqX1]; exact heap_alloc_new _ _
                have bwX1 : Below Wd.heap.size Wd X1 := bwWd.trans (bbX1.mono bwWd.size)
                have hSX1 : (fun w' : World => w'.cell? ⟨qx, 0, none⟩ = some (.int .i64 x.k) ∧ w'.cell? ⟨qx, 1, none⟩ = some (.int .i64 x.n) ∧ w'.cell? ⟨qx, 2, none⟩ = some (.string x.s)) X1 := ⟨(bwX1.cell (p := ⟨qx, 0, none⟩) (slt_cell y0)).trans y0, (bwX1.cell (p := ⟨qx, 1, none⟩) (slt_cell y1)).trans y1, (bwX1.cell (p := ⟨qx, 2, none⟩) (slt_cell y2)).trans y2⟩
                refine hKa.out _ _ (fun _ => hSX1) ?_
                clear hKa Ka hqX1
                try simp only [Act.put, List.setIfInBounds_toArray, List.set_cons_zero, List.set_cons_succ]
                have hvlt : Wd.heap.size < X1.heap.size := slt_blk hv
                refine wpAnyL_one (i := 0) (by kernel_rfl) rfl (fun Ka hKa => ?_)
                go_simp
                generalize hqX2 : World.alloc _ _ = X2
                have bbX2 : Below X1.heap.size X1 X2 := by rw [← hqX2]; exact sone_new _ _
                have hgX2 : X2.heap[X1.heap.size]? = some (.cells #[] 39 (0, 0)) := by rw [← hqX2]; exact heap_alloc_new _ _
                have bwX2 : Below Wd.heap.size Wd X2 := bwX1.trans (bbX2.mono bwX1.size)
                have hA : RqO 39 X2 Wd.heap.size (.slice (some ⟨X1.heap.size, 0, none⟩) 0 0) [] := (RqO.made hgX2).lower bwX1.size
                have hSX2 : (fun w' : World => w'.cell? ⟨qx, 0, none⟩ = some (.int .i64 x.k) ∧ w'.cell? ⟨qx, 1, none⟩ = some (.int .i64 x.n) ∧ w'.cell? ⟨qx, 2, none⟩ = some (.string x.s)) X2 := ⟨(bwX2.cell (p := ⟨qx, 0, none⟩) (slt_cell y0)).trans y0, (bwX2.cell (p := ⟨qx, 1, none⟩) (slt_cell y1)).trans y1, (bwX2.cell (p := ⟨qx, 2, none⟩) (slt_cell y2)).trans y2⟩
                refine hKa.out _ _ (fun _ => hSX2) ?_
                clear hKa Ka hqX2
                try simp only [Act.put, List.setIfInBounds_toArray, List.set_cons_zero, List.set_cons_succ]
                have hv := (bbX2.block _ hvlt).trans hv
                have hvlt2 : X1.heap.size < X2.heap.size := slt_blk hgX2
                refine wpAnyL_one (i := 4) (by kernel_rfl) rfl (fun Ka hKa => ?_)
                refine stp_appQ rqT_last rfl (.tmp 148) (.tmp 151) rfl (R := []) (S := (L.take jj)) rfl rfl hA (srcA X2 bwX2) (by have := HTab.out.few; simp; omega) bwX2.size ?_
                intro vhB4 X3 hB4 hfX3 hrX3
                obtain ⟨LA, eA⟩ : ∃ LA, [] ++ L.take jj = LA := ⟨_, rfl⟩
                have HLA : Hid ([] ++ L.take jj = LA) := eA
                rw [eA] at hB4
                clear eA
                have bwX3 : Below Wd.heap.size Wd X3 := bwX2.trans (hfX3.below bwX2.size (fun k hk => (hA.lt k hk).1))
                have hSX3 : (fun w' : World => w'.cell? ⟨qx, 0, none⟩ = some (.int .i64 x.k) ∧ w'.cell? ⟨qx, 1, none⟩ = some (.int .i64 x.n) ∧ w'.cell? ⟨qx, 2, none⟩ = some (.string x.s)) X3 := ⟨(bwX3.cell (p := ⟨qx, 0, none⟩) (slt_cell y0)).trans y0, (bwX3.cell (p := ⟨qx, 1, none⟩) (slt_cell y1)).trans y1, (bwX3.cell (p := ⟨qx, 2, none⟩) (slt_cell y2)).trans y2⟩
                obtain ⟨aohB4, chB4, rfl, _, hghB4⟩ := hB4.shape
                refine hKa.out _ _ (fun _ => hSX3) ?_
                clear hKa Ka
                try simp only [Act.put, List.setIfInBounds_toArray, List.set_cons_zero, List.set_cons_succ]
                have hv := (hfX3.block _ (by omega) (fun e => by have e4 : X1.heap.size = Wd.heap.size := Option.some.inj e; omega)).trans hv
                have hrow4 := hrX3
                obtain ⟨vb, hvb⟩ : ∃ vb, Wd.heap.size = vb := ⟨_, rfl⟩
                have hv : X3.heap[vb]? = some (.cells #[.int .i64 x.k, .int .i64 x.n, .string x.s] 39 (0, 0)) := by rw [← hvb]; exact hv
                rw [hvb] at hvlt ⊢
                have hLA : LA.length ≤ 64 := by rw [← HLA.out]; have := HTab.out.few; simp; omega
                have hne7 : ¬ (Value.slice aohB4 LA.length chB4).ownBlock = some vb := fun e => by rcases hrow4 with h | ⟨gg, h, h2⟩ <;> first | (have e4 : X1.heap.size = vb := Option.some.inj (h.symm.trans e); omega) | (have e4 : gg = vb := Option.some.inj (h.symm.trans e); omega)
                refine wpAnyL_one (i := 7) (by kernel_rfl) rfl (fun Ka hKa => ?_)
                refine stp_appQ rqT_last rfl (.tmp 152) (.tmp 154) rfl (R := LA) (S := [x0]) rfl rfl hB4 (show RqS _ _ [x0] by rw [HX0.out]; exact RqS.one (x := ⟨x.k, x.n, x.s⟩) hv 1 (Nat.le_refl _)) (by simp; omega) bwX3.size ?_
                intro vhC7 Y7 hC7 hfY7 hrY7
                obtain ⟨LB, eB⟩ : ∃ LB, LA ++ [x0] = LB := ⟨_, rfl⟩
                have HLB : Hid (LA ++ [x0] = LB) := eB
                have hLB : LB.length ≤ 65 := by rw [← eB]; simp; omega
                rw [eB] at hC7
                clear eB
                have bwY7 : Below Wd.heap.size Wd Y7 := bwX3.trans (hfY7.below bwX3.size (fun k hk => (hB4.lt k hk).1))
                have hSY7 : (fun w' : World => w'.cell? ⟨qx, 0, none⟩ = some (.int .i64 x.k) ∧ w'.cell? ⟨qx, 1, none⟩ = some (.int .i64 x.n) ∧ w'.cell? ⟨qx, 2, none⟩ = some (.string x.s)) Y7 := ⟨(bwY7.cell (p := ⟨qx, 0, none⟩) (slt_cell y0)).trans y0, (bwY7.cell (p := ⟨qx, 1, none⟩) (slt_cell y1)).trans y1, (bwY7.cell (p := ⟨qx, 2, none⟩) (slt_cell y2)).trans y2⟩
                obtain ⟨aohC7, chC7, rfl, _, hghC7⟩ := hC7.shape
                refine hKa.out _ _ (fun _ => hSY7) ?_
                clear hKa Ka
                try simp only [Act.put, List.setIfInBounds_toArray, List.set_cons_zero, List.set_cons_succ]
                refine wpAnyL_one (i := 11) (by kernel_rfl) rfl (fun Ka hKa => ?_)
                refine stp_appQ rqT_last rfl (.tmp 155) (.tmp 158) rfl (R := LB) (S := (L.drop jj)) rfl rfl hC7 (srcB Y7 bwY7) (by have := HTab.out.few; simp; omega) bwY7.size ?_
                intro vhD11 Y11 hD11 hfY11 hrY11
                have eM : LB ++ L.drop jj = M2 := by rw [HPut.out, ← HLB.out, ← HLA.out]; simp
                rw [eM] at hD11
                clear eM
                have bwY11 : Below Wd.heap.size Wd Y11 := bwY7.trans (hfY11.below bwY7.size (fun k hk => (hC7.lt k hk).1))
                have hSY11 : (fun w' : World => w'.cell? ⟨qx, 0, none⟩ = some (.int .i64 x.k) ∧ w'.cell? ⟨qx, 1, none⟩ = some (.int .i64 x.n) ∧ w'.cell? ⟨qx, 2, none⟩ = some (.string x.s)) Y11 := ⟨(bwY11.cell (p := ⟨qx, 0, none⟩) (slt_cell y0)).trans y0, (bwY11.cell (p := ⟨qx, 1, none⟩) (slt_cell y1)).trans y1, (bwY11.cell (p := ⟨qx, 2, none⟩) (slt_cell y2)).trans y2⟩
                obtain ⟨aohD11, chD11, rfl, _, hghD11⟩ := hD11.shape
                refine hKa.out _ _ (fun _ => hSY11) ?_
                clear hKa Ka
                try simp only [Act.put, List.setIfInBounds_toArray, List.set_cons_zero, List.set_cons_succ]
                refine wpAnyL_take (i := 12) 4 (v := .slice aohD11 M2.length chD11) rfl rfl (by kernel_rfl) (by kernel_rfl) (by kernel_rfl) (by kernel_rfl) (by kernel_rfl) (by kernel_rfl) (fun _ _ _ h => h) hSY11 (by rfl) (by intro w' hSw; go_simp <;> with_reducible rfl) ?_
                simp only [Act.put, List.setIfInBounds_toArray, List.set_cons_zero, List.set_cons_succ]
                refine wpAnyL_done (by kernel_rfl) ?_ _
                have HMn : Hid (RqO 39 Y11 w.heap.size (.slice aohD11 M2.length chD11) M2) := hD11.lower HBd.out.size
                have HTn : Hid (TA Y11 w.heap.size p v5 M2) := HTd.out.new bwY11
                have HBn : Hid (Below w.heap.size w Y11) := HBd.out.trans (bwY11.mono HBd.out.size)
                obtain ⟨gn, hgn⟩ := hghD11 (by omega)
                subst hgn
                clear hD11
                go_wp2_with (go_at_call 13; refine (slen HTn.out).mono ?_; rintro r Y11 ⟨rfl, rfl⟩)
                go_roundw
                case rel => exact ⟨j + 1, M2, v5, gn, chD11, by omega, by omega, rfl, by go_num, HTn, HMn, HTab2, HOk2, HBn⟩
                case measure => simp [intOf]; omega
            · have hcj2 : ¬ c = jj := fun e => hcj e.symm
              have srcB : ∀ W', Below Wd.heap.size Wd W' → RqS W' (.slice (some ⟨g, jj * 3, none⟩) (L.length - jj) (c - jj)) (L.drop jj) := fun W' hb => (HMd.out.new hb).toS.dropQ jj hjp
              refine wp_calmS ?_
              refine wp_region_L [] (fun w' : World => w'.cell? ⟨qx, 0, none⟩ = some (.int .i64 x.k) ∧ w'.cell? ⟨qx, 1, none⟩ = some (.int .i64 x.n) ∧ w'.cell? ⟨qx, 2, none⟩ = some (.string x.s)) (by kernel_rfl) ?_
              rw [hWd]
              clear hWd
              have hS : (fun w' : World => w'.cell? ⟨qx, 0, none⟩ = some (.int .i64 x.k) ∧ w'.cell? ⟨qx, 1, none⟩ = some (.int .i64 x.n) ∧ w'.cell? ⟨qx, 2, none⟩ = some (.string x.s)) Wd := ⟨y0, y1, y2⟩
              have bwWd : Below Wd.heap.size Wd Wd := Below.refl _ _
              refine wpAnyL_take (i := 1) 149 (v := .slice (some ⟨g, 0, none⟩) L.length c) rfl rfl (by kernel_rfl) (by kernel_rfl) (by kernel_rfl) (by kernel_rfl) (by kernel_rfl) (by kernel_rfl) (fun _ _ _ h => h) hS (by rfl) (by intro w' hSw; obtain ⟨y0, y1, y2⟩ := hSw; go_simp <;> with_reducible rfl) ?_
              simp only [Act.put, List.setIfInBounds_toArray, List.set_cons_zero, List.set_cons_succ]
              refine wpAnyL_take (i := 2) 150 (v := .int .i64 jj) rfl rfl (by kernel_rfl) (by kernel_rfl) (by kernel_rfl) (by kernel_rfl) (by kernel_rfl) (by kernel_rfl) (fun _ _ _ h => h) hS (by rfl) (by intro w' hSw; obtain ⟨y0, y1, y2⟩ := hSw; go_simp <;> with_reducible rfl) ?_
              simp only [Act.put, List.setIfInBounds_toArray, List.set_cons_zero, List.set_cons_succ]
              refine wpAnyL_take (i := 3) 151 (v := .slice (some ⟨g, 0, none⟩) jj c) rfl rfl (by kernel_rfl) (by kernel_rfl) (by kernel_rfl) (by kernel_rfl) (by kernel_rfl) (by kernel_rfl) (fun _ _ _ h => h) hS (by rfl) (by intro w' hSw; obtain ⟨y0, y1, y2⟩ := hSw; go_simp <;> with_reducible rfl) ?_
              simp only [Act.put, List.setIfInBounds_toArray, List.set_cons_zero, List.set_cons_succ]
              refine wpAnyL_take (i := 5) 153 (v := .agg #[.int .i64 x.k, .int .i64 x.n, .string x.s]) rfl rfl (by kernel_rfl) (by kernel_rfl) (by kernel_rfl) (by kernel_rfl) (by kernel_rfl) (by kernel_rfl) (fun _ _ _ h => h) hS (by rfl) (by intro w' hSw; obtain ⟨y0, y1, y2⟩ := hSw; go_simp <;> with_reducible rfl) ?_
              simp only [Act.put, List.setIfInBounds_toArray, List.set_cons_zero, List.set_cons_succ]
              refine wpAnyL_take (i := 8) 156 (v := .slice (some ⟨g, 0, none⟩) L.length c) rfl rfl (by kernel_rfl) (by kernel_rfl) (by kernel_rfl) (by kernel_rfl) (by kernel_rfl) (by kernel_rfl) (fun _ _ _ h => h) hS (by rfl) (by intro w' hSw; obtain ⟨y0, y1, y2⟩ := hSw; go_simp <;> with_reducible rfl) ?_
              simp only [Act.put, List.setIfInBounds_toArray, List.set_cons_zero, List.set_cons_succ]
              refine wpAnyL_take (i := 9) 157 (v := .int .i64 jj) rfl rfl (by kernel_rfl) (by kernel_rfl) (by kernel_rfl) (by kernel_rfl) (by kernel_rfl) (by kernel_rfl) (fun _ _ _ h => h) hS (by rfl) (by intro w' hSw; obtain ⟨y0, y1, y2⟩ := hSw; go_simp <;> with_reducible rfl) ?_
              simp only [Act.put, List.setIfInBounds_toArray, List.set_cons_zero, List.set_cons_succ]
              refine wpAnyL_take (i := 10) 158 (v := .slice (some ⟨g, jj * 3, none⟩) (L.length - jj) (c - jj)) rfl rfl (by kernel_rfl) (by kernel_rfl) (by kernel_rfl) (by kernel_rfl) (by kernel_rfl) (by kernel_rfl) (fun _ _ _ h => h) hS (by rfl) (by intro w' hSw; obtain ⟨y0, y1, y2⟩ := hSw; go_simp <;> with_reducible rfl) ?_
              simp only [Act.put, List.setIfInBounds_toArray, List.set_cons_zero, List.set_cons_succ]
              refine wpAnyL_two (i := 0) (j := 6) (by kernel_rfl) rfl rfl (fun Ka hKa => ?_) (fun Ka hKa => ?_)
              · go_simp
                generalize hqX1 : World.alloc _ _ = X1
                have bbX1 : Below Wd.heap.size Wd X1 := by rw [← hqX1]; exact sone_new _ _
                have hgX1 : X1.heap[Wd.heap.size]? = some (.cells #[] 39 (0, 0)) := by rw [← hqX1]; exact heap_alloc_new _ _
                have bwX1 : Below Wd.heap.size Wd X1 := bwWd.trans (bbX1.mono bwWd.size)
                have hA : RqO 39 X1 Wd.heap.size (.slice (some ⟨Wd.heap.size, 0, none⟩) 0 0) [] := (RqO.made hgX1).lower bwWd.size
                have hSX1 : (fun w' : World => w'.cell? ⟨qx, 0, none⟩ = some (.int .i64 x.k) ∧ w'.cell? ⟨qx, 1, none⟩ = some (.int .i64 x.n) ∧ w'.cell? ⟨qx, 2, none⟩ = some (.string x.s)) X1 := ⟨(bwX1.cell (p := ⟨qx, 0, none⟩) (slt_cell y0)).trans y0, (bwX1.cell (p := ⟨qx, 1, none⟩) (slt_cell y1)).trans y1, (bwX1.cell (p := ⟨qx, 2, none⟩) (slt_cell y2)).trans y2⟩
                refine hKa.out _ _ (fun _ => hSX1) ?_
                clear hKa Ka hqX1
                try simp only [Act.put, List.setIfInBounds_toArray, List.set_cons_zero, List.set_cons_succ]
                refine wpAnyL_two (i := 4) (j := 6) (by kernel_rfl) rfl rfl (fun Ka hKa => ?_) (fun Ka hKa => ?_)
                · refine stp_appQ rqT_last rfl (.tmp 148) (.tmp 151) rfl (R := []) (S := (L.take jj)) rfl rfl hA (srcA X1 bwX1) (by have := HTab.out.few; simp; omega) bwX1.size ?_
                  intro vhB4 X2 hB4 hfX2 hrX2
                  obtain ⟨LA, eA⟩ : ∃ LA, [] ++ L.take jj = LA := ⟨_, rfl⟩
                  have HLA : Hid ([] ++ L.take jj = LA) := eA
                  rw [eA] at hB4
                  clear eA
                  have bwX2 : Below Wd.heap.size Wd X2 := bwX1.trans (hfX2.below bwX1.size (fun k hk => (hA.lt k hk).1))
                  have hSX2 : (fun w' : World => w'.cell? ⟨qx, 0, none⟩ = some (.int .i64 x.k) ∧ w'.cell? ⟨qx, 1, none⟩ = some (.int .i64 x.n) ∧ w'.cell? ⟨qx, 2, none⟩ = some (.string x.s)) X2 := ⟨(bwX2.cell (p := ⟨qx, 0, none⟩) (slt_cell y0)).trans y0, (bwX2.cell (p := ⟨qx, 1, none⟩) (slt_cell y1)).trans y1, (bwX2.cell (p := ⟨qx, 2, none⟩) (slt_cell y2)).trans y2⟩
                  obtain ⟨aohB4, chB4, rfl, _, hghB4⟩ := hB4.shape
                  refine hKa.out _ _ (fun _ => hSX2) ?_
                  clear hKa Ka
                  try simp only [Act.put, List.setIfInBounds_toArray, List.set_cons_zero, List.set_cons_succ]
                  refine wpAnyL_one (i := 6) (by kernel_rfl) rfl (fun Ka hKa => ?_)
                  go_simp
                  generalize hqX3 : World.alloc _ _ = X3
                  have bbX3 : Below X2.heap.size X2 X3 := by rw [← hqX3]; exact sone_new _ _
                  have hv : X3.heap[X2.heap.size]? = some (.cells #[.int .i64 x.k, .int .i64 x.n, .string x.s] 39 (0, 0)) := by rw [← hqX3]; exact heap_alloc_new _ _
                  have bwX3 : Below Wd.heap.size Wd X3 := bwX2.trans (bbX3.mono bwX2.size)
                  have hSX3 : (fun w' : World => w'.cell? ⟨qx, 0, none⟩ = some (.int .i64 x.k) ∧ w'.cell? ⟨qx, 1, none⟩ = some (.int .i64 x.n) ∧ w'.cell? ⟨qx, 2, none⟩ = some (.string x.s)) X3 := ⟨(bwX3.cell (p := ⟨qx, 0, none⟩) (slt_cell y0)).trans y0, (bwX3.cell (p := ⟨qx, 1, none⟩) (slt_cell y1)).trans y1, (bwX3.cell (p := ⟨qx, 2, none⟩) (slt_cell y2)).trans y2⟩
                  refine hKa.out _ _ (fun _ => hSX3) ?_
                  clear hKa Ka hqX3
                  try simp only [Act.put, List.setIfInBounds_toArray, List.set_cons_zero, List.set_cons_succ]
                  have hB4' := hB4.new bbX3
                  have hltb := fun k hk => (hB4.lt k hk).2
                  generalize X2.heap.size = vb at hv hltb ⊢
                  have hLA : LA.length ≤ 64 := by rw [← HLA.out]; have := HTab.out.few; simp; omega
                  have hne7 : ¬ (Value.slice aohB4 LA.length chB4).ownBlock = some vb := fun e => by have := hltb vb e; omega
                  refine wpAnyL_one (i := 7) (by kernel_rfl) rfl (fun Ka hKa => ?_)
                  refine stp_appQ rqT_last rfl (.tmp 152) (.tmp 154) rfl (R := LA) (S := [x0]) rfl rfl hB4' (show RqS _ _ [x0] by rw [HX0.out]; exact RqS.one (x := ⟨x.k, x.n, x.s⟩) hv 1 (Nat.le_refl _)) (by simp; omega) bwX3.size ?_
                  intro vhC7 Y7 hC7 hfY7 hrY7
                  obtain ⟨LB, eB⟩ : ∃ LB, LA ++ [x0] = LB := ⟨_, rfl⟩
                  have HLB : Hid (LA ++ [x0] = LB) := eB
                  have hLB : LB.length ≤ 65 := by rw [← eB]; simp; omega
                  rw [eB] at hC7
                  clear eB
                  have bwY7 : Below Wd.heap.size Wd Y7 := bwX3.trans (hfY7.below bwX3.size (fun k hk => (hB4'.lt k hk).1))
                  have hSY7 : (fun w' : World => w'.cell? ⟨qx, 0, none⟩ = some (.int .i64 x.k) ∧ w'.cell? ⟨qx, 1, none⟩ = some (.int .i64 x.n) ∧ w'.cell? ⟨qx, 2, none⟩ = some (.string x.s)) Y7 := ⟨(bwY7.cell (p := ⟨qx, 0, none⟩) (slt_cell y0)).trans y0, (bwY7.cell (p := ⟨qx, 1, none⟩) (slt_cell y1)).trans y1, (bwY7.cell (p := ⟨qx, 2, none⟩) (slt_cell y2)).trans y2⟩
                  obtain ⟨aohC7, chC7, rfl, _, hghC7⟩ := hC7.shape
                  refine hKa.out _ _ (fun _ => hSY7) ?_
                  clear hKa Ka
                  try simp only [Act.put, List.setIfInBounds_toArray, List.set_cons_zero, List.set_cons_succ]
                  refine wpAnyL_one (i := 11) (by kernel_rfl) rfl (fun Ka hKa => ?_)
                  refine stp_appQ rqT_last rfl (.tmp 155) (.tmp 158) rfl (R := LB) (S := (L.drop jj)) rfl rfl hC7 (srcB Y7 bwY7) (by have := HTab.out.few; simp; omega) bwY7.size ?_
                  intro vhD11 Y11 hD11 hfY11 hrY11
                  have eM : LB ++ L.drop jj = M2 := by rw [HPut.out, ← HLB.out, ← HLA.out]; simp
                  rw [eM] at hD11
                  clear eM
                  have bwY11 : Below Wd.heap.size Wd Y11 := bwY7.trans (hfY11.below bwY7.size (fun k hk => (hC7.lt k hk).1))
                  have hSY11 : (fun w' : World => w'.cell? ⟨qx, 0, none⟩ = some (.int .i64 x.k) ∧ w'.cell? ⟨qx, 1, none⟩ = some (.int .i64 x.n) ∧ w'.cell? ⟨qx, 2, none⟩ = some (.string x.s)) Y11 := ⟨(bwY11.cell (p := ⟨qx, 0, none⟩) (slt_cell y0)).trans y0, (bwY11.cell (p := ⟨qx, 1, none⟩) (slt_cell y1)).trans y1, (bwY11.cell (p := ⟨qx, 2, none⟩) (slt_cell y2)).trans y2⟩
                  obtain ⟨aohD11, chD11, rfl, _, hghD11⟩ := hD11.shape
                  refine hKa.out _ _ (fun _ => hSY11) ?_
                  clear hKa Ka
                  try simp only [Act.put, List.setIfInBounds_toArray, List.set_cons_zero, List.set_cons_succ]
                  refine wpAnyL_take (i := 12) 4 (v := .slice aohD11 M2.length chD11) rfl rfl (by kernel_rfl) (by kernel_rfl) (by kernel_rfl) (by kernel_rfl) (by kernel_rfl) (by kernel_rfl) (fun _ _ _ h => h) hSY11 (by rfl) (by intro w' hSw; go_simp <;> with_reducible rfl) ?_
                  simp only [Act.put, List.setIfInBounds_toArray, List.set_cons_zero, List.set_cons_succ]
                  refine wpAnyL_done (by kernel_rfl) ?_ _
                  have HMn : Hid (RqO 39 Y11 w.heap.size (.slice aohD11 M2.length chD11) M2) := hD11.lower HBd.out.size
                  have HTn : Hid (TA Y11 w.heap.size p v5 M2) := HTd.out.new bwY11
                  have HBn : Hid (Below w.heap.size w Y11) := HBd.out.trans (bwY11.mono HBd.out.size)
                  obtain ⟨gn, hgn⟩ := hghD11 (by omega)
                  subst hgn
                  clear hD11
                  go_wp2_with (go_at_call 13; refine (slen HTn.out).mono ?_; rintro r Y11 ⟨rfl, rfl⟩)
                  go_roundw
                  case rel => exact ⟨j + 1, M2, v5, gn, chD11, by omega, by omega, rfl, by go_num, HTn, HMn, HTab2, HOk2, HBn⟩
                  case measure => simp [intOf]; omega
                · go_simp
                  generalize hqX2 : World.alloc _ _ = X2
                  have bbX2 : Below X1.heap.size X1 X2 := by rw [← hqX2]; exact sone_new _ _
                  have hv : X2.heap[X1.heap.size]? = some (.cells #[.int .i64 x.k, .int .i64 x.n, .string x.s] 39 (0, 0)) := by rw [← hqX2]; exact heap_alloc_new _ _
                  have bwX2 : Below Wd.heap.size Wd X2 := bwX1.trans (bbX2.mono bwX1.size)
                  have hSX2 : (fun w' : World => w'.cell? ⟨qx, 0, none⟩ = some (.int .i64 x.k) ∧ w'.cell? ⟨qx, 1, none⟩ = some (.int .i64 x.n) ∧ w'.cell? ⟨qx, 2, none⟩ = some (.string x.s)) X2 := ⟨(bwX2.cell (p := ⟨qx, 0, none⟩) (slt_cell y0)).trans y0, (bwX2.cell (p := ⟨qx, 1, none⟩) (slt_cell y1)).trans y1, (bwX2.cell (p := ⟨qx, 2, none⟩) (slt_cell y2)).trans y2⟩
                  refine hKa.out _ _ (fun _ => hSX2) ?_
                  clear hKa Ka hqX2
                  try simp only [Act.put, List.setIfInBounds_toArray, List.set_cons_zero, List.set_cons_succ]
                  have hA' := hA.new bbX2
                  have hvlt : X1.heap.size < X2.heap.size := slt_blk hv
                  have hglt : Wd.heap.size < X1.heap.size := slt_blk hgX1
                  refine wpAnyL_one (i := 4) (by kernel_rfl) rfl (fun Ka hKa => ?_)
                  refine stp_appQ rqT_last rfl (.tmp 148) (.tmp 151) rfl (R := []) (S := (L.take jj)) rfl rfl hA' (srcA X2 bwX2) (by have := HTab.out.few; simp; omega) bwX2.size ?_
                  intro vhB4 X3 hB4 hfX3 hrX3
                  obtain ⟨LA, eA⟩ : ∃ LA, [] ++ L.take jj = LA := ⟨_, rfl⟩
                  have HLA : Hid ([] ++ L.take jj = LA) := eA
                  rw [eA] at hB4
                  clear eA
                  have bwX3 : Below Wd.heap.size Wd X3 := bwX2.trans (hfX3.below bwX2.size (fun k hk => (hA'.lt k hk).1))
                  have hSX3 : (fun w' : World => w'.cell? ⟨qx, 0, none⟩ = some (.int .i64 x.k) ∧ w'.cell? ⟨qx, 1, none⟩ = some (.int .i64 x.n) ∧ w'.cell? ⟨qx, 2, none⟩ = some (.string x.s)) X3 := ⟨(bwX3.cell (p := ⟨qx, 0, none⟩) (slt_cell y0)).trans y0, (bwX3.cell (p := ⟨qx, 1, none⟩) (slt_cell y1)).trans y1, (bwX3.cell (p := ⟨qx, 2, none⟩) (slt_cell y2)).trans y2⟩
                  obtain ⟨aohB4, chB4, rfl, _, hghB4⟩ := hB4.shape
                  refine hKa.out _ _ (fun _ => hSX3) ?_
                  clear hKa Ka
                  try simp only [Act.put, List.setIfInBounds_toArray, List.set_cons_zero, List.set_cons_succ]
                  have hv := (hfX3.block _ hvlt (fun e => by have e4 : Wd.heap.size = X1.heap.size := Option.some.inj e; omega)).trans hv
                  have hrow4 := hrX3
                  generalize X1.heap.size = vb at hv hvlt hglt ⊢
                  have hLA : LA.length ≤ 64 := by rw [← HLA.out]; have := HTab.out.few; simp; omega
                  have hne7 : ¬ (Value.slice aohB4 LA.length chB4).ownBlock = some vb := fun e => by rcases hrow4 with h | ⟨gg, h, h2⟩ <;> first | (have e4 : Wd.heap.size = vb := Option.some.inj (h.symm.trans e); omega) | (have e4 : gg = vb := Option.some.inj (h.symm.trans e); omega)
                  refine wpAnyL_one (i := 7) (by kernel_rfl) rfl (fun Ka hKa => ?_)
                  refine stp_appQ rqT_last rfl (.tmp 152) (.tmp 154) rfl (R := LA) (S := [x0]) rfl rfl hB4 (show RqS _ _ [x0] by rw [HX0.out]; exact RqS.one (x := ⟨x.k, x.n, x.s⟩) hv 1 (Nat.le_refl _)) (by simp; omega) bwX3.size ?_
                  intro vhC7 Y7 hC7 hfY7 hrY7
                  obtain ⟨LB, eB⟩ : ∃ LB, LA ++ [x0] = LB := ⟨_, rfl⟩
                  have HLB : Hid (LA ++ [x0] = LB) := eB
                  have hLB : LB.length ≤ 65 := by rw [← eB]; simp; omega
                  rw [eB] at hC7
                  clear eB
                  have bwY7 : Below Wd.heap.size Wd Y7 := bwX3.trans (hfY7.below bwX3.size (fun k hk => (hB4.lt k hk).1))
                  have hSY7 : (fun w' : World => w'.cell? ⟨qx, 0, none⟩ = some (.int .i64 x.k) ∧ w'.cell? ⟨qx, 1, none⟩ = some (.int .i64 x.n) ∧ w'.cell? ⟨qx, 2, none⟩ = some (.string x.s)) Y7 := ⟨(bwY7.cell (p := ⟨qx, 0, none⟩) (slt_cell y0)).trans y0, (bwY7.cell (p := ⟨qx, 1, none⟩) (slt_cell y1)).trans y1, (bwY7.cell (p := ⟨qx, 2, none⟩) (slt_cell y2)).trans y2⟩
                  obtain ⟨aohC7, chC7, rfl, _, hghC7⟩ := hC7.shape
                  refine hKa.out _ _ (fun _ => hSY7) ?_
                  clear hKa Ka
                  try simp only [Act.put, List.setIfInBounds_toArray, List.set_cons_zero, List.set_cons_succ]
                  refine wpAnyL_one (i := 11) (by kernel_rfl) rfl (fun Ka hKa => ?_)
                  refine stp_appQ rqT_last rfl (.tmp 155) (.tmp 158) rfl (R := LB) (S := (L.drop jj)) rfl rfl hC7 (srcB Y7 bwY7) (by have := HTab.out.few; simp; omega) bwY7.size ?_
                  intro vhD11 Y11 hD11 hfY11 hrY11
                  have eM : LB ++ L.drop jj = M2 := by rw [HPut.out, ← HLB.out, ← HLA.out]; simp
                  rw [eM] at hD11
                  clear eM
                  have bwY11 : Below Wd.heap.size Wd Y11 := bwY7.trans (hfY11.below bwY7.size (fun k hk => (hC7.lt k hk).1))
                  have hSY11 : (fun w' : World => w'.cell? ⟨qx, 0, none⟩ = some (.int .i64 x.k) ∧ w'.cell? ⟨qx, 1, none⟩ = some (.int .i64 x.n) ∧ w'.cell? ⟨qx, 2, none⟩ = some (.string x.s)) Y11 := ⟨(bwY11.cell (p := ⟨qx, 0, none⟩) (slt_cell y0)).trans y0, (bwY11.cell (p := ⟨qx, 1, none⟩) (slt_cell y1)).trans y1, (bwY11.cell (p := ⟨qx, 2, none⟩) (slt_cell y2)).trans y2⟩
                  obtain ⟨aohD11, chD11, rfl, _, hghD11⟩ := hD11.shape
                  refine hKa.out _ _ (fun _ => hSY11) ?_
                  clear hKa Ka
                  try simp only [Act.put, List.setIfInBounds_toArray, List.set_cons_zero, List.set_cons_succ]
                  refine wpAnyL_take (i := 12) 4 (v := .slice aohD11 M2.length chD11) rfl rfl (by kernel_rfl) (by kernel_rfl) (by kernel_rfl) (by kernel_rfl) (by kernel_rfl) (by kernel_rfl) (fun _ _ _ h => h) hSY11 (by rfl) (by intro w' hSw; go_simp <;> with_reducible rfl) ?_
                  simp only [Act.put, List.setIfInBounds_toArray, List.set_cons_zero, List.set_cons_succ]
                  refine wpAnyL_done (by kernel_rfl) ?_ _
                  have HMn : Hid (RqO 39 Y11 w.heap.size (.slice aohD11 M2.length chD11) M2) := hD11.lower HBd.out.size
                  have HTn : Hid (TA Y11 w.heap.size p v5 M2) := HTd.out.new bwY11
                  have HBn : Hid (Below w.heap.size w Y11) := HBd.out.trans (bwY11.mono HBd.out.size)
                  obtain ⟨gn, hgn⟩ := hghD11 (by omega)
                  subst hgn
                  clear hD11
                  go_wp2_with (go_at_call 13; refine (slen HTn.out).mono ?_; rintro r Y11 ⟨rfl, rfl⟩)
                  go_roundw
                  case rel => exact ⟨j + 1, M2, v5, gn, chD11, by omega, by omega, rfl, by go_num, HTn, HMn, HTab2, HOk2, HBn⟩
                  case measure => simp [intOf]; omega
              · go_simp
                generalize hqX1 : World.alloc _ _ = X1
                have bbX1 : Below Wd.heap.size Wd X1 := by rw [← hqX1]; exact sone_new _ _
                have hv : X1.heap[Wd.heap.size]? = some (.cells #[.int .i64 x.k, .int .i64 x.n, .string x.s] 39 (0, 0)) := by rw [← hqX1]; exact heap_alloc_new _ _
                have bwX1 : Below Wd.heap.size Wd X1 := bwWd.trans (bbX1.mono bwWd.size)
                have hSX1 : (fun w' : World => w'.cell? ⟨qx, 0, none⟩ = some (.int .i64 x.k) ∧ w'.cell? ⟨qx, 1, none⟩ = some (.int .i64 x.n) ∧ w'.cell? ⟨qx, 2, none⟩ = some (.string x.s)) X1 := ⟨(bwX1.cell (p := ⟨qx, 0, none⟩) (slt_cell y0)).trans y0, (bwX1.cell (p := ⟨qx, 1, none⟩) (slt_cell y1)).trans y1, (bwX1.cell (p := ⟨qx, 2, none⟩) (slt_cell y2)).trans y2⟩
                refine hKa.out _ _ (fun _ => hSX1) ?_
                clear hKa Ka hqX1
                try simp only [Act.put, List.setIfInBounds_toArray, List.set_cons_zero, List.set_cons_succ]
                have hvlt : Wd.heap.size < X1.heap.size := slt_blk hv
                refine wpAnyL_one (i := 0) (by kernel_rfl) rfl (fun Ka hKa => ?_)
                go_simp
                generalize hqX2 : World.alloc _ _ = X2
                have bbX2 : Below X1.heap.size X1 X2 := by rw [← hqX2]; exact sone_new _ _
                have hgX2 : X2.heap[X1.heap.size]? = some (.cells #[] 39 (0, 0)) := by rw [← hqX2]; exact heap_alloc_new _ _
                have bwX2 : Below Wd.heap.size Wd X2 := bwX1.trans (bbX2.mono bwX1.size)
                have hA : RqO 39 X2 Wd.heap.size (.slice (some ⟨X1.heap.size, 0, none⟩) 0 0) [] := (RqO.made hgX2).lower bwX1.size
                have hSX2 : (fun w' : World => w'.cell? ⟨qx, 0, none⟩ = some (.int .i64 x.k) ∧ w'.cell? ⟨qx, 1, none⟩ = some (.int .i64 x.n) ∧ w'.cell? ⟨qx, 2, none⟩ = some (.string x.s)) X2 := ⟨(bwX2.cell (p := ⟨qx, 0, none⟩) (slt_cell y0)).trans y0, (bwX2.cell (p := ⟨qx, 1, none⟩) (slt_cell y1)).trans y1, (bwX2.cell (p := ⟨qx, 2, none⟩) (slt_cell y2)).trans y2⟩
                refine hKa.out _ _ (fun _ => hSX2) ?_
                clear hKa Ka hqX2
                try simp only [Act.put, List.setIfInBounds_toArray, List.set_cons_zero, List.set_cons_succ]
                have hv := (bbX2.block _ hvlt).trans hv
                have hvlt2 : X1.heap.size < X2.heap.size := slt_blk hgX2
                refine wpAnyL_one (i := 4) (by kernel_rfl) rfl (fun Ka hKa => ?_)
                refine stp_appQ rqT_last rfl (.tmp 148) (.tmp 151) rfl (R := []) (S := (L.take jj)) rfl rfl hA (srcA X2 bwX2) (by have := HTab.out.few; simp; omega) bwX2.size ?_
                intro vhB4 X3 hB4 hfX3 hrX3
                obtain ⟨LA, eA⟩ : ∃ LA, [] ++ L.take jj = LA := ⟨_, rfl⟩
                have HLA : Hid ([] ++ L.take jj = LA) := eA
                rw [eA] at hB4
                clear eA
                have bwX3 : Below Wd.heap.size Wd X3 := bwX2.trans (hfX3.below bwX2.size (fun k hk => (hA.lt k hk).1))
                have hSX3 : (fun w' : World => w'.cell? ⟨qx, 0, none⟩ = some (.int .i64 x.k) ∧ w'.cell? ⟨qx, 1, none⟩ = some (.int .i64 x.n) ∧ w'.cell? ⟨qx, 2, none⟩ = some (.string x.s)) X3 := ⟨(bwX3.cell (p := ⟨qx, 0, none⟩) (slt_cell y0)).trans y0, (bwX3.cell (p := ⟨qx, 1, none⟩) (slt_cell y1)).trans y1, (bwX3.cell (p := ⟨qx, 2, none⟩) (slt_cell y2)).trans y2⟩
                obtain ⟨aohB4, chB4, rfl, _, hghB4⟩ := hB4.shape
                refine hKa.out _ _ (fun _ => hSX3) ?_
                clear hKa Ka
                try simp only [Act.put, List.setIfInBounds_toArray, List.set_cons_zero, List.set_cons_succ]
                have hv := (hfX3.block _ (by omega) (fun e => by have e4 : X1.heap.size = Wd.heap.size := Option.some.inj e; omega)).trans hv
                have hrow4 := hrX3
                obtain ⟨vb, hvb⟩ : ∃ vb, Wd.heap.size = vb := ⟨_, rfl⟩
                have hv : X3.heap[vb]? = some (.cells #[.int .i64 x.k, .int .i64 x.n, .string x.s] 39 (0, 0)) := by rw [← hvb]; exact hv
                rw [hvb] at hvlt ⊢
                have hLA : LA.length ≤ 64 := by rw [← HLA.out]; have := HTab.out.few; simp; omega
                have hne7 : ¬ (Value.slice aohB4 LA.length chB4).ownBlock = some vb := fun e => by rcases hrow4 with h | ⟨gg, h, h2⟩ <;> first | (have e4 : X1.heap.size = vb := Option.some.inj (h.symm.trans e); omega) | (have e4 : gg = vb := Option.some.inj (h.symm.trans e); omega)
                refine wpAnyL_one (i := 7) (by kernel_rfl) rfl (fun Ka hKa => ?_)
                refine stp_appQ rqT_last rfl (.tmp 152) (.tmp 154) rfl (R := LA) (S := [x0]) rfl rfl hB4 (show RqS _ _ [x0] by rw [HX0.out]; exact RqS.one (x := ⟨x.k, x.n, x.s⟩) hv 1 (Nat.le_refl _)) (by simp; omega) bwX3.size ?_
                intro vhC7 Y7 hC7 hfY7 hrY7
                obtain ⟨LB, eB⟩ : ∃ LB, LA ++ [x0] = LB := ⟨_, rfl⟩
                have HLB : Hid (LA ++ [x0] = LB) := eB
                have hLB : LB.length ≤ 65 := by rw [← eB]; simp; omega
                rw [eB] at hC7
                clear eB
                have bwY7 : Below Wd.heap.size Wd Y7 := bwX3.trans (hfY7.below bwX3.size (fun k hk => (hB4.lt k hk).1))
                have hSY7 : (fun w' : World => w'.cell? ⟨qx, 0, none⟩ = some (.int .i64 x.k) ∧ w'.cell? ⟨qx, 1, none⟩ = some (.int .i64 x.n) ∧ w'.cell? ⟨qx, 2, none⟩ = some (.string x.s)) Y7 := ⟨(bwY7.cell (p := ⟨qx, 0, none⟩) (slt_cell y0)).trans y0, (bwY7.cell (p := ⟨qx, 1, none⟩) (slt_cell y1)).trans y1, (bwY7.cell (p := ⟨qx, 2, none⟩) (slt_cell y2)).trans y2⟩
                obtain ⟨aohC7, chC7, rfl, _, hghC7⟩ := hC7.shape
                refine hKa.out _ _ (fun _ => hSY7) ?_
                clear hKa Ka
                try simp only [Act.put, List.setIfInBounds_toArray, List.set_cons_zero, List.set_cons_succ]
                refine wpAnyL_one (i := 11) (by kernel_rfl) rfl (fun Ka hKa => ?_)
                refine stp_appQ rqT_last rfl (.tmp 155) (.tmp 158) rfl (R := LB) (S := (L.drop jj)) rfl rfl hC7 (srcB Y7 bwY7) (by have := HTab.out.few; simp; omega) bwY7.size ?_
                intro vhD11 Y11 hD11 hfY11 hrY11
                have eM : LB ++ L.drop jj = M2 := by rw [HPut.out, ← HLB.out, ← HLA.out]; simp
                rw [eM] at hD11
                clear eM
                have bwY11 : Below Wd.heap.size Wd Y11 := bwY7.trans (hfY11.below bwY7.size (fun k hk => (hC7.lt k hk).1))
                have hSY11 : (fun w' : World => w'.cell? ⟨qx, 0, none⟩ = some (.int .i64 x.k) ∧ w'.cell? ⟨qx, 1, none⟩ = some (.int .i64 x.n) ∧ w'.cell? ⟨qx, 2, none⟩ = some (.string x.s)) Y11 := ⟨(bwY11.cell (p := ⟨qx, 0, none⟩) (slt_cell y0)).trans y0, (bwY11.cell (p := ⟨qx, 1, none⟩) (slt_cell y1)).trans y1, (bwY11.cell (p := ⟨qx, 2, none⟩) (slt_cell y2)).trans y2⟩
                obtain ⟨aohD11, chD11, rfl, _, hghD11⟩ := hD11.shape
                refine hKa.out _ _ (fun _ => hSY11) ?_
                clear hKa Ka
                try simp only [Act.put, List.setIfInBounds_toArray, List.set_cons_zero, List.set_cons_succ]
                refine wpAnyL_take (i := 12) 4 (v := .slice aohD11 M2.length chD11) rfl rfl (by kernel_rfl) (by kernel_rfl) (by kernel_rfl) (by kernel_rfl) (by kernel_rfl) (by kernel_rfl) (fun _ _ _ h => h) hSY11 (by rfl) (by intro w' hSw; go_simp <;> with_reducible rfl) ?_
                simp only [Act.put, List.setIfInBounds_toArray, List.set_cons_zero, List.set_cons_succ]
                refine wpAnyL_done (by kernel_rfl) ?_ _
                have HMn : Hid (RqO 39 Y11 w.heap.size (.slice aohD11 M2.length chD11) M2) := hD11.lower HBd.out.size
                have HTn : Hid (TA Y11 w.heap.size p v5 M2) := HTd.out.new bwY11
                have HBn : Hid (Below w.heap.size w Y11) := HBd.out.trans (bwY11.mono HBd.out.size)
                obtain ⟨gn, hgn⟩ := hghD11 (by omega)
                subst hgn
                clear hD11
                go_wp2_with (go_at_call 13; refine (slen HTn.out).mono ?_; rintro r Y11 ⟨rfl, rfl⟩)
                go_roundw
                case rel => exact ⟨j + 1, M2, v5, gn, chD11, by omega, by omega, rfl, by go_num, HTn, HMn, HTab2, HOk2, HBn⟩
                case measure => simp [intOf]; omega
    · have HOk2 : Hid (Okq L 200) := fun x hx => ⟨(HOk.out x hx).1, by have := (HOk.out x hx).2.1; omega, (HOk.out x hx).2.2⟩
      have HRn : Hid (reqsN L ≤ 67111424) := by
        show _ ≤ _
        have h1 := reqsN_le HOk2.out
        have h2 := HTab.out.few
        omega
      have hLl : L.length ≤ 64 := HTab.out.few
      by_cases hx1 : j < X.length
      · have hx2 : ¬ ((j : Int) < 200) := by omega
        have hx3 : (j : Int) < X.length := by omega
        clear hlt HX HO1 HOk
        go_upto_region 26 with (go_at_call 14; refine (newwriter_any _).mono ?_; rintro r w4 ⟨rfl, hW4, hb4⟩)
        have HT4 : Hid (TA w4 w.heap.size p v L) := HT.out.new hb4
        have HM4 : Hid (RqO 39 w4 w.heap.size (.slice (some ⟨g, 0, none⟩) L.length c) L) := HM.out.new hb4
        have HB4 : Hid (Below w.heap.size w w4) := HB.out.trans (hb4.mono HB.out.size)
        have HW4 : Hid (Wr w4 (wr.heap.size + 1) wr.heap.size (.slice none 0 0) []) := hW4
        have HX4 : Hid (w.heap.size ≤ wr.heap.size) := HB.out.size
        have HMlt : Hid (g < wr.heap.size) := (HM.out.lt g rfl).2
        clear hW4 hb4 HT HM HB
        obtain ⟨pw, hpw⟩ : ∃ pw, wr.heap.size = pw := ⟨_, rfl⟩
        rw [hpw] at HW4 HX4 HMlt ⊢
        clear hpw
        have hPu := sput HT4.out HW4.out (by omega) (fun x hx => ⟨(HOk2.out x hx).1, by have := (HOk2.out x hx).2.1; omega, by have := (HOk2.out x hx).2.2; omega⟩) (by have := HRn.out; simp; omega)
        go_upto_region 27 with (go_at_call 15; refine hPu.mono ?_; rintro r w5 ⟨rfl, hT5⟩)
        have HT5 : Hid (TA w5 w.heap.size p v L) := HT4.out.wrote HW4.out hT5
        obtain ⟨v5, hW5, hF5, hR5⟩ := hT5
        have HW5 : Hid (Wr w5 (pw + 1) pw v5 (tabB L)) := hW5
        have HM5 : Hid (RqO 39 w5 w.heap.size (.slice (some ⟨g, 0, none⟩) L.length c) L) := HM4.out.kept hF5 (fun k hk e => by
          have hk2 : g = k := Option.some.inj hk
          have := HMlt.out
          rcases e with e | e
          · omega
          · cases e)
        have HB5 : Hid (Below w.heap.size w w5) := HB4.out.trans (hF5.below HB4.out.size (fun k hk => by
          have := HX4.out
          rcases hk with hk | hk
          · omega
          · cases hk))
        clear hW5 hF5 hR5 hPu HT4 HB4 HW4 HM4
        have hcv : IntKind.u64.wrap (L.length : Int) = (L.length : Int) := by rw [IntKind.wrap_u64]; omega
        have hNu := refnumber_any L.length w5 (by omega)
        go_upto_region 28 with (go_at_call 16; refine hNu.mono ?_; rintro r w6 ⟨rfl, hb6⟩)
        have HT6 : Hid (TA w6 w.heap.size p v L) := HT5.out.new hb6
        have HM6 : Hid (RqO 39 w6 w.heap.size (.slice (some ⟨g, 0, none⟩) L.length c) L) := HM5.out.new hb6
        have HW6 : Hid (Wr w6 (pw + 1) pw v5 (tabB L)) := HW5.out.kept (Fr.ofBelow hb6 (fun _ => False)) (fun h => h) (fun _ _ h => h)
        have HB6 : Hid (Below w.heap.size w w6) := HB5.out.trans (hb6.mono HB5.out.size)
        clear hb6 hNu HT5 HM5 HW5 HB5 hcv
        have HSt : Hid (str (numB L.length) = str (numB L.length ++ (L.take 0).flatMap reqB)) := by show _ = _; simp
        go_wp2
        go_loopw [20, 21] (fun sv i wr => ∃ (m : Nat), m ≤ L.length ∧ sv = .string (str (numB L.length ++ (L.take m).flatMap reqB)) ∧ i = .int .i64 m ∧ Hid (Below w6.heap.size w6 wr)) (fun _ i _ => L.length - (intOf i).toNat)
        case atStart => exact ⟨0, Nat.zero_le _, by rw [HSt.out], rfl, Below.refl _ _⟩
        case round =>
          clear HSt
          obtain ⟨m, hm, rfl, rfl, HBr⟩ := hrel
          by_cases hml : m < L.length
          · have HT7 : Hid (TA wr w.heap.size p v L) := HT6.out.new HBr.out
            have HM7 : Hid (RqO 39 wr w.heap.size (.slice (some ⟨g, 0, none⟩) L.length c) L) := HM6.out.new HBr.out
            obtain ⟨f0, f1, f2⟩ := HM7.out.at_ m hml
            have HXo := HOk2.out _ (List.getElem_mem hml)
            have hOne := HTab.out.one _ (List.getElem_mem hml)
            have HLast : Hid (lastR L L[m].k = L[m]) := last_at HTab.out.rise m hml
            have HSn : Hid ((L.take (m + 1)).flatMap reqB = (L.take m).flatMap reqB ++ reqB L[m]) := reqsB_snoc L m hml
            have HLn : ((L.take m).flatMap reqB).length ≤ reqsN (L.take m) := reqs_len _ (fun x hx => by
              have := HOk2.out x (List.mem_of_mem_take hx)
              exact ⟨this.1, by omega, by omega⟩)
            have HN := reqsN_take L m hml
            generalize L[m] = x at f0 f1 f2 HXo hOne HLast HSn HN
            obtain ⟨nn, hnn⟩ : ∃ nn : Nat, x.n = nn := ⟨x.n.toNat, by omega⟩
            have HNn : Hid (x.n = nn) := hnn
            rw [hnn] at f1
            have hnl : nn ≤ 200 := by have := HXo.2.1; omega
            have hmL : (m : Int) < L.length := by omega
            have hrn := HRn.out
            have l0 : (str (numB L.length)).size ≤ 10 := numB_len10 (by omega)
            have s0 : (str (numB L.length ++ (L.take m).flatMap reqB)).size ≤ 70000000 := by
              have : (str (numB L.length ++ (L.take m).flatMap reqB)).size = (numB L.length).length + ((L.take m).flatMap reqB).length := List.length_append
              have l1 : (numB L.length).length ≤ 10 := numB_len10 (by omega)
              omega
            have s1 : (str (sgB x.k)).size ≤ 10 := sgB_len HXo.1
            have s2 : (str (numB nn)).size ≤ 10 := numB_len10 (by omega)
            have s3 : (str (textB x.s.data.toList)).size ≤ 1048586 := by have := (textB_len x.s (by have := HXo.2.2; omega)).1; have h2 := HXo.2.2; show (textB x.s.data.toList).length ≤ _; omega
            have hz1 : (str (sgB x.k)).size + (str (numB nn)).size ≤ 9223372036854775807 := by omega
            have hz2 : (str (sgB x.k)).size + (str (numB nn)).size + (str (textB x.s.data.toList)).size ≤ 9223372036854775807 := by omega
            have hz3 : (str (numB L.length ++ (L.take m).flatMap reqB)).size + ((str (sgB x.k)).size + (str (numB nn)).size + (str (textB x.s.data.toList)).size) ≤ 9223372036854775807 := by omega
            have HNw : Hid (str (numB L.length ++ (L.take m).flatMap reqB) ++ (str (sgB x.k) ++ str (numB nn) ++ str (textB x.s.data.toList)) = str (numB L.length ++ (L.take (m + 1)).flatMap reqB)) := by
              show _ = _
              have : nn = x.n.toNat := by omega
              rw [HSn.out, this]
              simp only [str_append]
              unfold reqB
              simp only [List.append_assoc]
            have hwu : IntKind.u64.wrap (nn : Int) = (nn : Int) := by rw [IntKind.wrap_u64]; omega
            have HK : Hid (I64 x.k) := HXo.1
            have HSz : Hid (x.s.size ≤ 140737488355328) := by show _ ≤ _; have := HXo.2.2; omega
            generalize str (numB L.length ++ (L.take m).flatMap reqB) = S0 at hz3 HNw s0 ⊢
            clear HXo hOne HSn HN HLn hnn hrn l0 s0 s1 s2 s3
            go_upto_region 31 with (fail)
            obtain ⟨Wd, hWd⟩ : ∃ Wd, wr.drew = Wd := ⟨_, rfl⟩
            have bd : Below wr.heap.size wr Wd := by rw [← hWd]; exact Below.drew (Below.refl _ _)
            have k0 := (bd.cell (p := ⟨g, m * 3, none⟩) (slt_cell f0)).trans f0
            have k1 := (bd.cell (p := ⟨g, m * 3 + 1, none⟩) (slt_cell f1)).trans f1
            have k2 := (bd.cell (p := ⟨g, m * 3 + 2, none⟩) (slt_cell f2)).trans f2
            have HBd : Hid (Below w6.heap.size w6 Wd) := HBr.out.trans (bd.mono HBr.out.size)
            refine wp_calmS ?_
            refine wp_region_L [] (fun w' : World => w'.cell? ⟨g, m * 3, none⟩ = some (.int .i64 x.k) ∧ w'.cell? ⟨g, m * 3 + 1, none⟩ = some (.int .i64 nn) ∧ w'.cell? ⟨g, m * 3 + 2, none⟩ = some (.string x.s)) (by kernel_rfl) ?_
            rw [hWd]
            have hS : (fun w' : World => w'.cell? ⟨g, m * 3, none⟩ = some (.int .i64 x.k) ∧ w'.cell? ⟨g, m * 3 + 1, none⟩ = some (.int .i64 nn) ∧ w'.cell? ⟨g, m * 3 + 2, none⟩ = some (.string x.s)) Wd := ⟨k0, k1, k2⟩
            clear hWd bd f0 f1 f2
            have hR1 := refsigned_s x.k Wd HK.out
            refine wpAnyL_take (i := 0) 179 (v := .string S0) rfl rfl (by kernel_rfl) (by kernel_rfl) (by kernel_rfl) (by kernel_rfl) (by kernel_rfl) (by kernel_rfl) (fun _ _ _ h => h) hS (by rfl) (by intro w' hSw; obtain ⟨k0, k1, k2⟩ := hSw; go_simp <;> with_reducible rfl) ?_
            simp only [Act.put, List.setIfInBounds_toArray, List.set_cons_zero, List.set_cons_succ]
            refine wpAnyL_take (i := 1) 180 (v := .slice (some ⟨g, 0, none⟩) L.length c) rfl rfl (by kernel_rfl) (by kernel_rfl) (by kernel_rfl) (by kernel_rfl) (by kernel_rfl) (by kernel_rfl) (fun _ _ _ h => h) hS (by rfl) (by intro w' hSw; obtain ⟨k0, k1, k2⟩ := hSw; go_simp <;> with_reducible rfl) ?_
            simp only [Act.put, List.setIfInBounds_toArray, List.set_cons_zero, List.set_cons_succ]
            refine wpAnyL_take (i := 2) 181 (v := .int .i64 m) rfl rfl (by kernel_rfl) (by kernel_rfl) (by kernel_rfl) (by kernel_rfl) (by kernel_rfl) (by kernel_rfl) (fun _ _ _ h => h) hS (by rfl) (by intro w' hSw; obtain ⟨k0, k1, k2⟩ := hSw; go_simp <;> with_reducible rfl) ?_
            simp only [Act.put, List.setIfInBounds_toArray, List.set_cons_zero, List.set_cons_succ]
            refine wpAnyL_take (i := 3) 182 (v := .pointer (some ⟨g, m * 3, none⟩)) rfl rfl (by kernel_rfl) (by kernel_rfl) (by kernel_rfl) (by kernel_rfl) (by kernel_rfl) (by kernel_rfl) (fun _ _ _ h => h) hS (by rfl) (by intro w' hSw; obtain ⟨k0, k1, k2⟩ := hSw; go_simp <;> with_reducible rfl) ?_
            simp only [Act.put, List.setIfInBounds_toArray, List.set_cons_zero, List.set_cons_succ]
            refine wpAnyL_take (i := 4) 183 (v := .pointer (some ⟨g, m * 3, none⟩)) rfl rfl (by kernel_rfl) (by kernel_rfl) (by kernel_rfl) (by kernel_rfl) (by kernel_rfl) (by kernel_rfl) (fun _ _ _ h => h) hS (by rfl) (by intro w' hSw; obtain ⟨k0, k1, k2⟩ := hSw; go_simp <;> with_reducible rfl) ?_
            simp only [Act.put, List.setIfInBounds_toArray, List.set_cons_zero, List.set_cons_succ]
            refine wpAnyL_take (i := 5) 184 (v := .int .i64 x.k) rfl rfl (by kernel_rfl) (by kernel_rfl) (by kernel_rfl) (by kernel_rfl) (by kernel_rfl) (by kernel_rfl) (fun _ _ _ h => h) hS (by rfl) (by intro w' hSw; obtain ⟨k0, k1, k2⟩ := hSw; go_simp <;> with_reducible rfl) ?_
            simp only [Act.put, List.setIfInBounds_toArray, List.set_cons_zero, List.set_cons_succ]
            refine wpAnyL_take (i := 7) 186 (v := .slice (some ⟨g, 0, none⟩) L.length c) rfl rfl (by kernel_rfl) (by kernel_rfl) (by kernel_rfl) (by kernel_rfl) (by kernel_rfl) (by kernel_rfl) (fun _ _ _ h => h) hS (by rfl) (by intro w' hSw; obtain ⟨k0, k1, k2⟩ := hSw; go_simp <;> with_reducible rfl) ?_
            simp only [Act.put, List.setIfInBounds_toArray, List.set_cons_zero, List.set_cons_succ]
            refine wpAnyL_take (i := 8) 187 (v := .int .i64 m) rfl rfl (by kernel_rfl) (by kernel_rfl) (by kernel_rfl) (by kernel_rfl) (by kernel_rfl) (by kernel_rfl) (fun _ _ _ h => h) hS (by rfl) (by intro w' hSw; obtain ⟨k0, k1, k2⟩ := hSw; go_simp <;> with_reducible rfl) ?_
            simp only [Act.put, List.setIfInBounds_toArray, List.set_cons_zero, List.set_cons_succ]
            refine wpAnyL_take (i := 9) 188 (v := .pointer (some ⟨g, m * 3, none⟩)) rfl rfl (by kernel_rfl) (by kernel_rfl) (by kernel_rfl) (by kernel_rfl) (by kernel_rfl) (by kernel_rfl) (fun _ _ _ h => h) hS (by rfl) (by intro w' hSw; obtain ⟨k0, k1, k2⟩ := hSw; go_simp <;> with_reducible rfl) ?_
            simp only [Act.put, List.setIfInBounds_toArray, List.set_cons_zero, List.set_cons_succ]
            refine wpAnyL_take (i := 10) 189 (v := .pointer (some ⟨g, m * 3 + 1, none⟩)) rfl rfl (by kernel_rfl) (by kernel_rfl) (by kernel_rfl) (by kernel_rfl) (by kernel_rfl) (by kernel_rfl) (fun _ _ _ h => h) hS (by rfl) (by intro w' hSw; obtain ⟨k0, k1, k2⟩ := hSw; go_simp <;> with_reducible rfl) ?_
            simp only [Act.put, List.setIfInBounds_toArray, List.set_cons_zero, List.set_cons_succ]
            refine wpAnyL_take (i := 11) 190 (v := .int .i64 nn) rfl rfl (by kernel_rfl) (by kernel_rfl) (by kernel_rfl) (by kernel_rfl) (by kernel_rfl) (by kernel_rfl) (fun _ _ _ h => h) hS (by rfl) (by intro w' hSw; obtain ⟨k0, k1, k2⟩ := hSw; go_simp <;> with_reducible rfl) ?_
            simp only [Act.put, List.setIfInBounds_toArray, List.set_cons_zero, List.set_cons_succ]
            refine wpAnyL_take (i := 12) 191 (v := .int .u64 nn) rfl rfl (by kernel_rfl) (by kernel_rfl) (by kernel_rfl) (by kernel_rfl) (by kernel_rfl) (by kernel_rfl) (fun _ _ _ h => h) hS (by rfl) (by intro w' hSw; obtain ⟨k0, k1, k2⟩ := hSw; go_simp <;> with_reducible rfl) ?_
            simp only [Act.put, List.setIfInBounds_toArray, List.set_cons_zero, List.set_cons_succ]
            refine wpAnyL_take (i := 15) 194 (v := .slice (some ⟨g, 0, none⟩) L.length c) rfl rfl (by kernel_rfl) (by kernel_rfl) (by kernel_rfl) (by kernel_rfl) (by kernel_rfl) (by kernel_rfl) (fun _ _ _ h => h) hS (by rfl) (by intro w' hSw; obtain ⟨k0, k1, k2⟩ := hSw; go_simp <;> with_reducible rfl) ?_
            simp only [Act.put, List.setIfInBounds_toArray, List.set_cons_zero, List.set_cons_succ]
            refine wpAnyL_take (i := 16) 195 (v := .int .i64 m) rfl rfl (by kernel_rfl) (by kernel_rfl) (by kernel_rfl) (by kernel_rfl) (by kernel_rfl) (by kernel_rfl) (fun _ _ _ h => h) hS (by rfl) (by intro w' hSw; obtain ⟨k0, k1, k2⟩ := hSw; go_simp <;> with_reducible rfl) ?_
            simp only [Act.put, List.setIfInBounds_toArray, List.set_cons_zero, List.set_cons_succ]
            refine wpAnyL_take (i := 17) 196 (v := .pointer (some ⟨g, m * 3, none⟩)) rfl rfl (by kernel_rfl) (by kernel_rfl) (by kernel_rfl) (by kernel_rfl) (by kernel_rfl) (by kernel_rfl) (fun _ _ _ h => h) hS (by rfl) (by intro w' hSw; obtain ⟨k0, k1, k2⟩ := hSw; go_simp <;> with_reducible rfl) ?_
            simp only [Act.put, List.setIfInBounds_toArray, List.set_cons_zero, List.set_cons_succ]
            refine wpAnyL_take (i := 18) 197 (v := .pointer (some ⟨g, m * 3 + 2, none⟩)) rfl rfl (by kernel_rfl) (by kernel_rfl) (by kernel_rfl) (by kernel_rfl) (by kernel_rfl) (by kernel_rfl) (fun _ _ _ h => h) hS (by rfl) (by intro w' hSw; obtain ⟨k0, k1, k2⟩ := hSw; go_simp <;> with_reducible rfl) ?_
            simp only [Act.put, List.setIfInBounds_toArray, List.set_cons_zero, List.set_cons_succ]
            refine wpAnyL_take (i := 19) 198 (v := .string x.s) rfl rfl (by kernel_rfl) (by kernel_rfl) (by kernel_rfl) (by kernel_rfl) (by kernel_rfl) (by kernel_rfl) (fun _ _ _ h => h) hS (by rfl) (by intro w' hSw; obtain ⟨k0, k1, k2⟩ := hSw; go_simp <;> with_reducible rfl) ?_
            simp only [Act.put, List.setIfInBounds_toArray, List.set_cons_zero, List.set_cons_succ]
            refine wpAnyL_one (i := 6) (by kernel_rfl) rfl (fun Ka hKa => ?_)
            go_simp
            refine Calls.mono hR1 ?_
            rintro r V1 ⟨rfl, hb1⟩
            have hS1 : (fun w' : World => w'.cell? ⟨g, m * 3, none⟩ = some (.int .i64 x.k) ∧ w'.cell? ⟨g, m * 3 + 1, none⟩ = some (.int .i64 nn) ∧ w'.cell? ⟨g, m * 3 + 2, none⟩ = some (.string x.s)) V1 := ⟨(hb1.cell (p := ⟨g, m * 3, none⟩) (slt_cell k0)).trans k0, (hb1.cell (p := ⟨g, m * 3 + 1, none⟩) (slt_cell k1)).trans k1, (hb1.cell (p := ⟨g, m * 3 + 2, none⟩) (slt_cell k2)).trans k2⟩
            refine hKa.out _ _ (fun _ => hS1) ?_
            clear hKa Ka
            try simp only [Act.put, List.setIfInBounds_toArray, List.set_cons_zero, List.set_cons_succ]
            have HBv1 : Hid (Below w6.heap.size w6 V1) := HBd.out.trans (hb1.mono HBd.out.size)
            have hR2 := refnumber_any nn V1 (by omega)
            clear hb1 hR1
            refine wpAnyL_one (i := 13) (by kernel_rfl) rfl (fun Ka hKa => ?_)
            go_simp
            refine Calls.mono hR2 ?_
            rintro r V2 ⟨rfl, hb2⟩
            have hS2 : (fun w' : World => w'.cell? ⟨g, m * 3, none⟩ = some (.int .i64 x.k) ∧ w'.cell? ⟨g, m * 3 + 1, none⟩ = some (.int .i64 nn) ∧ w'.cell? ⟨g, m * 3 + 2, none⟩ = some (.string x.s)) V2 := ⟨(hb2.cell (p := ⟨g, m * 3, none⟩) (slt_cell hS1.1)).trans hS1.1, (hb2.cell (p := ⟨g, m * 3 + 1, none⟩) (slt_cell hS1.2.1)).trans hS1.2.1, (hb2.cell (p := ⟨g, m * 3 + 2, none⟩) (slt_cell hS1.2.2)).trans hS1.2.2⟩
            refine hKa.out _ _ (fun _ => hS2) ?_
            clear hKa Ka
            try simp only [Act.put, List.setIfInBounds_toArray, List.set_cons_zero, List.set_cons_succ]
            have HBv2 : Hid (Below w6.heap.size w6 V2) := HBv1.out.trans (hb2.mono HBv1.out.size)
            clear hb2 hR2
            refine wpAnyL_take (i := 14) 193 (v := .string (str (sgB x.k) ++ str (numB nn))) rfl rfl (by kernel_rfl) (by kernel_rfl) (by kernel_rfl) (by kernel_rfl) (by kernel_rfl) (by kernel_rfl) (fun _ _ _ h => h) hS2 (by rfl) (by intro w' hSw; obtain ⟨k0, k1, k2⟩ := hSw; go_simp <;> with_reducible rfl) ?_
            simp only [Act.put, List.setIfInBounds_toArray, List.set_cons_zero, List.set_cons_succ]
            have hR3 := reftext_any x.s V2 HSz.out
            refine wpAnyL_one (i := 20) (by kernel_rfl) rfl (fun Ka hKa => ?_)
            go_simp
            refine Calls.mono hR3 ?_
            rintro r V3 ⟨rfl, hb3⟩
            have hS3 : (fun w' : World => w'.cell? ⟨g, m * 3, none⟩ = some (.int .i64 x.k) ∧ w'.cell? ⟨g, m * 3 + 1, none⟩ = some (.int .i64 nn) ∧ w'.cell? ⟨g, m * 3 + 2, none⟩ = some (.string x.s)) V3 := ⟨(hb3.cell (p := ⟨g, m * 3, none⟩) (slt_cell hS2.1)).trans hS2.1, (hb3.cell (p := ⟨g, m * 3 + 1, none⟩) (slt_cell hS2.2.1)).trans hS2.2.1, (hb3.cell (p := ⟨g, m * 3 + 2, none⟩) (slt_cell hS2.2.2)).trans hS2.2.2⟩
            refine hKa.out _ _ (fun _ => hS3) ?_
            clear hKa Ka
            try simp only [Act.put, List.setIfInBounds_toArray, List.set_cons_zero, List.set_cons_succ]
            have HBv3 : Hid (Below w6.heap.size w6 V3) := HBv2.out.trans (hb3.mono HBv2.out.size)
            clear hb3 hR3
            refine wpAnyL_take (i := 21) 200 (v := .string (str (sgB x.k) ++ str (numB nn) ++ str (textB x.s.data.toList))) rfl rfl (by kernel_rfl) (by kernel_rfl) (by kernel_rfl) (by kernel_rfl) (by kernel_rfl) (by kernel_rfl) (fun _ _ _ h => h) hS3 (by rfl) (by intro w' hSw; obtain ⟨k0, k1, k2⟩ := hSw; go_simp <;> with_reducible rfl) ?_
            simp only [Act.put, List.setIfInBounds_toArray, List.set_cons_zero, List.set_cons_succ]
            refine wpAnyL_take (i := 22) 201 (v := .string (S0 ++ (str (sgB x.k) ++ str (numB nn) ++ str (textB x.s.data.toList)))) rfl rfl (by kernel_rfl) (by kernel_rfl) (by kernel_rfl) (by kernel_rfl) (by kernel_rfl) (by kernel_rfl) (fun _ _ _ h => h) hS3 (by rfl) (by intro w' hSw; obtain ⟨k0, k1, k2⟩ := hSw; go_simp <;> with_reducible rfl) ?_
            simp only [Act.put, List.setIfInBounds_toArray, List.set_cons_zero, List.set_cons_succ]
            refine wpAnyL_take (i := 23) 20 (v := .string (S0 ++ (str (sgB x.k) ++ str (numB nn) ++ str (textB x.s.data.toList)))) rfl rfl (by kernel_rfl) (by kernel_rfl) (by kernel_rfl) (by kernel_rfl) (by kernel_rfl) (by kernel_rfl) (fun _ _ _ h => h) hS3 (by rfl) (by intro w' hSw; obtain ⟨k0, k1, k2⟩ := hSw; go_simp <;> with_reducible rfl) ?_
            simp only [Act.put, List.setIfInBounds_toArray, List.set_cons_zero, List.set_cons_succ]
            refine wpAnyL_done (by kernel_rfl) ?_ _
            rw [HNw.out]
            have HS4 : Hid ((fun w' : World => w'.cell? ⟨g, m * 3, none⟩ = some (.int .i64 x.k) ∧ w'.cell? ⟨g, m * 3 + 1, none⟩ = some (.int .i64 nn) ∧ w'.cell? ⟨g, m * 3 + 2, none⟩ = some (.string x.s)) V3) := hS3
            clear hS hS1 hS2 hS3 k0 k1 k2 hz1 hz2 hz3 HBd HBv1 HBv2 hwu
            go_upto_region 32 with (fail)
            obtain ⟨Ud, hUd⟩ : ∃ Ud, V3.drew = Ud := ⟨_, rfl⟩
            have bu : Below V3.heap.size V3 Ud := by rw [← hUd]; exact Below.drew (Below.refl _ _)
            have HBu : Hid (Below w6.heap.size w6 Ud) := HBv3.out.trans (bu.mono HBv3.out.size)
            have HTu : Hid (TA Ud w.heap.size p v L) := HT6.out.new HBu.out
            refine wp_calmS ?_
            refine wp_region_L [] (fun w' : World => w'.cell? ⟨g, m * 3, none⟩ = some (.int .i64 x.k) ∧ w'.cell? ⟨g, m * 3 + 1, none⟩ = some (.int .i64 nn) ∧ w'.cell? ⟨g, m * 3 + 2, none⟩ = some (.string x.s)) (by kernel_rfl) ?_
            rw [hUd]
            have hS : (fun w' : World => w'.cell? ⟨g, m * 3, none⟩ = some (.int .i64 x.k) ∧ w'.cell? ⟨g, m * 3 + 1, none⟩ = some (.int .i64 nn) ∧ w'.cell? ⟨g, m * 3 + 2, none⟩ = some (.string x.s)) Ud := ⟨(bu.cell (p := ⟨g, m * 3, none⟩) (slt_cell HS4.out.1)).trans HS4.out.1, (bu.cell (p := ⟨g, m * 3 + 1, none⟩) (slt_cell HS4.out.2.1)).trans HS4.out.2.1, (bu.cell (p := ⟨g, m * 3 + 2, none⟩) (slt_cell HS4.out.2.2)).trans HS4.out.2.2⟩
            clear hUd bu
            have hQ := sseq x.k HTu.out (by omega) HTab.out.rise
            rw [HLast.out, HNn.out] at hQ
            refine wpAnyL_take (i := 0) 202 (v := .pointer (some ⟨p, 0, none⟩)) rfl rfl (by kernel_rfl) (by kernel_rfl) (by kernel_rfl) (by kernel_rfl) (by kernel_rfl) (by kernel_rfl) (fun _ _ _ h => h) hS (by rfl) (by intro w' hSw; obtain ⟨k0, k1, k2⟩ := hSw; go_simp <;> with_reducible rfl) ?_
            simp only [Act.put, List.setIfInBounds_toArray, List.set_cons_zero, List.set_cons_succ]
            refine wpAnyL_take (i := 1) 203 (v := .slice (some ⟨g, 0, none⟩) L.length c) rfl rfl (by kernel_rfl) (by kernel_rfl) (by kernel_rfl) (by kernel_rfl) (by kernel_rfl) (by kernel_rfl) (fun _ _ _ h => h) hS (by rfl) (by intro w' hSw; obtain ⟨k0, k1, k2⟩ := hSw; go_simp <;> with_reducible rfl) ?_
            simp only [Act.put, List.setIfInBounds_toArray, List.set_cons_zero, List.set_cons_succ]
            refine wpAnyL_take (i := 2) 204 (v := .int .i64 m) rfl rfl (by kernel_rfl) (by kernel_rfl) (by kernel_rfl) (by kernel_rfl) (by kernel_rfl) (by kernel_rfl) (fun _ _ _ h => h) hS (by rfl) (by intro w' hSw; obtain ⟨k0, k1, k2⟩ := hSw; go_simp <;> with_reducible rfl) ?_
            simp only [Act.put, List.setIfInBounds_toArray, List.set_cons_zero, List.set_cons_succ]
            refine wpAnyL_take (i := 3) 205 (v := .pointer (some ⟨g, m * 3, none⟩)) rfl rfl (by kernel_rfl) (by kernel_rfl) (by kernel_rfl) (by kernel_rfl) (by kernel_rfl) (by kernel_rfl) (fun _ _ _ h => h) hS (by rfl) (by intro w' hSw; obtain ⟨k0, k1, k2⟩ := hSw; go_simp <;> with_reducible rfl) ?_
            simp only [Act.put, List.setIfInBounds_toArray, List.set_cons_zero, List.set_cons_succ]
            refine wpAnyL_take (i := 4) 206 (v := .pointer (some ⟨g, m * 3, none⟩)) rfl rfl (by kernel_rfl) (by kernel_rfl) (by kernel_rfl) (by kernel_rfl) (by kernel_rfl) (by kernel_rfl) (fun _ _ _ h => h) hS (by rfl) (by intro w' hSw; obtain ⟨k0, k1, k2⟩ := hSw; go_simp <;> with_reducible rfl) ?_
            simp only [Act.put, List.setIfInBounds_toArray, List.set_cons_zero, List.set_cons_succ]
            refine wpAnyL_take (i := 5) 207 (v := .int .i64 x.k) rfl rfl (by kernel_rfl) (by kernel_rfl) (by kernel_rfl) (by kernel_rfl) (by kernel_rfl) (by kernel_rfl) (fun _ _ _ h => h) hS (by rfl) (by intro w' hSw; obtain ⟨k0, k1, k2⟩ := hSw; go_simp <;> with_reducible rfl) ?_
            simp only [Act.put, List.setIfInBounds_toArray, List.set_cons_zero, List.set_cons_succ]
            refine wpAnyL_take (i := 7) 209 (v := .slice (some ⟨g, 0, none⟩) L.length c) rfl rfl (by kernel_rfl) (by kernel_rfl) (by kernel_rfl) (by kernel_rfl) (by kernel_rfl) (by kernel_rfl) (fun _ _ _ h => h) hS (by rfl) (by intro w' hSw; obtain ⟨k0, k1, k2⟩ := hSw; go_simp <;> with_reducible rfl) ?_
            simp only [Act.put, List.setIfInBounds_toArray, List.set_cons_zero, List.set_cons_succ]
            refine wpAnyL_take (i := 8) 210 (v := .int .i64 m) rfl rfl (by kernel_rfl) (by kernel_rfl) (by kernel_rfl) (by kernel_rfl) (by kernel_rfl) (by kernel_rfl) (fun _ _ _ h => h) hS (by rfl) (by intro w' hSw; obtain ⟨k0, k1, k2⟩ := hSw; go_simp <;> with_reducible rfl) ?_
            simp only [Act.put, List.setIfInBounds_toArray, List.set_cons_zero, List.set_cons_succ]
            refine wpAnyL_take (i := 9) 211 (v := .pointer (some ⟨g, m * 3, none⟩)) rfl rfl (by kernel_rfl) (by kernel_rfl) (by kernel_rfl) (by kernel_rfl) (by kernel_rfl) (by kernel_rfl) (fun _ _ _ h => h) hS (by rfl) (by intro w' hSw; obtain ⟨k0, k1, k2⟩ := hSw; go_simp <;> with_reducible rfl) ?_
            simp only [Act.put, List.setIfInBounds_toArray, List.set_cons_zero, List.set_cons_succ]
            refine wpAnyL_take (i := 10) 212 (v := .pointer (some ⟨g, m * 3 + 1, none⟩)) rfl rfl (by kernel_rfl) (by kernel_rfl) (by kernel_rfl) (by kernel_rfl) (by kernel_rfl) (by kernel_rfl) (fun _ _ _ h => h) hS (by rfl) (by intro w' hSw; obtain ⟨k0, k1, k2⟩ := hSw; go_simp <;> with_reducible rfl) ?_
            simp only [Act.put, List.setIfInBounds_toArray, List.set_cons_zero, List.set_cons_succ]
            refine wpAnyL_take (i := 11) 213 (v := .int .i64 nn) rfl rfl (by kernel_rfl) (by kernel_rfl) (by kernel_rfl) (by kernel_rfl) (by kernel_rfl) (by kernel_rfl) (fun _ _ _ h => h) hS (by rfl) (by intro w' hSw; obtain ⟨k0, k1, k2⟩ := hSw; go_simp <;> with_reducible rfl) ?_
            simp only [Act.put, List.setIfInBounds_toArray, List.set_cons_zero, List.set_cons_succ]
            refine wpAnyL_one (i := 6) (by kernel_rfl) rfl (fun Ka hKa => ?_)
            go_simp
            refine Calls.mono hQ ?_
            rintro r V5 ⟨rfl, hb5⟩
            have hS5 : (fun w' : World => w'.cell? ⟨g, m * 3, none⟩ = some (.int .i64 x.k) ∧ w'.cell? ⟨g, m * 3 + 1, none⟩ = some (.int .i64 nn) ∧ w'.cell? ⟨g, m * 3 + 2, none⟩ = some (.string x.s)) V5 := ⟨(hb5.cell (p := ⟨g, m * 3, none⟩) (slt_cell hS.1)).trans hS.1, (hb5.cell (p := ⟨g, m * 3 + 1, none⟩) (slt_cell hS.2.1)).trans hS.2.1, (hb5.cell (p := ⟨g, m * 3 + 2, none⟩) (slt_cell hS.2.2)).trans hS.2.2⟩
            refine hKa.out _ _ (fun _ => hS5) ?_
            clear hKa Ka
            try simp only [Act.put, List.setIfInBounds_toArray, List.set_cons_zero, List.set_cons_succ]
            have HBv5 : Hid (Below w6.heap.size w6 V5) := HBu.out.trans (hb5.mono HBu.out.size)
            clear hb5 hQ
            refine wpAnyL_take (i := 12) 214 (v := .bool false) rfl rfl (by kernel_rfl) (by kernel_rfl) (by kernel_rfl) (by kernel_rfl) (by kernel_rfl) (by kernel_rfl) (fun _ _ _ h => h) hS5 (by rfl) (by intro w' hSw; obtain ⟨k0, k1, k2⟩ := hSw; go_simp <;> with_reducible rfl) ?_
            simp only [Act.put, List.setIfInBounds_toArray, List.set_cons_zero, List.set_cons_succ]
            refine wpAnyL_done (by kernel_rfl) ?_ _
            clear hS hS5
            go_wp2
            go_roundw
            case rel => exact ⟨m + 1, by omega, rfl, by go_num, HBv5⟩
            case measure => simp [intOf]; omega
          · have hmL : ¬ ((m : Int) < L.length) := by omega
            have HStr : Hid (str (numB L.length ++ (L.take m).flatMap reqB) = str (tabB L)) := by
              show _ = _
              rw [List.take_of_length_le (by omega)]
              rfl
            rw [HStr.out]
            have HW7 : Hid (Wr wr (pw + 1) pw v5 (tabB L)) := HW6.out.kept (Fr.ofBelow HBr.out (fun _ => False)) (fun h => h) (fun _ _ h => h)
            have HB7 : Hid (Below w.heap.size w wr) := HB6.out.trans (HBr.out.mono HB6.out.size)
            have HSz : Hid ((str (tabB L)).size ≤ maxLen) := by
              show _ ≤ _
              have h1 := tab_len HTab.out HOk2.out (by decide)
              have h2 : (str (tabB L)).size = (tabB L).length := rfl
              unfold maxLen
              omega
            clear HT6 HM6 HW6 HB6 HBr
            go_upto_region 35 with (go_at_call 20; refine (newreader_any _ _).mono ?_; rintro r w8 ⟨rfl, hr8, hb8⟩)
            have HR8 : Hid (Rd w8 wr.heap.size (str (tabB L)) 0 0) := hr8
            have HW8 : Hid (Wr w8 (pw + 1) pw v5 (tabB L)) := HW7.out.kept (Fr.ofBelow hb8 (fun _ => False)) (fun h => h) (fun _ _ h => h)
            have HB8 : Hid (Below w.heap.size w w8) := HB7.out.trans (hb8.mono HB7.out.size)
            have HWl : Hid (pw < wr.heap.size ∧ ∀ k, v5.ownBlock = some k → k < wr.heap.size) := ⟨HW7.out.lt, HW7.out.olt⟩
            have HPr : Hid (w.heap.size ≤ wr.heap.size) := HB7.out.size
            clear hr8 hb8 HW7 HB7
            obtain ⟨pr, hpr⟩ : ∃ pr, wr.heap.size = pr := ⟨_, rfl⟩
            rw [hpr] at HR8 HWl HPr ⊢
            clear hpr
            have hTk := stake_enc HTab.out HOk2.out (by decide) HR8.out
            go_upto_region 36 with (go_at_call 21; refine hTk.mono ?_; rintro r w9 ⟨rfl, hr9, ⟨v9, ht9⟩, hf9⟩)
            have HR9 : Hid (Rd w9 pr (str (tabB L)) (tabB L).length 0) := hr9
            have HT9 : Hid (TA w9 w.heap.size w8.heap.size v9 L) := ht9.lower HB8.out.size
            have HW9 : Hid (Wr w9 (pw + 1) pw v5 (tabB L)) := HW8.out.kept hf9 (fun e => by have := HWl.out.1; omega) (fun k hk e => by have := HWl.out.2 k hk; omega)
            have HB9 : Hid (Below w.heap.size w w9) := HB8.out.trans (hf9.below HB8.out.size (fun k hk => by have := HPr.out; omega))
            clear hTk hr9 ht9 hf9 HR8 HW8 HB8
            obtain ⟨pk, hpk⟩ : ∃ pk, w8.heap.size = pk := ⟨_, rfl⟩
            rw [hpk] at HT9 ⊢
            clear hpk
            go_upto_region 37 with (go_at_call 14; refine (newwriter_any _).mono ?_; rintro r wa ⟨rfl, hWa, hba⟩)
            have HTa : Hid (TA wa w.heap.size pk v9 L) := HT9.out.new hba
            have HRa : Hid (Rd wa pr (str (tabB L)) (tabB L).length 0) := HR9.out.below hba
            have HWa : Hid (Wr wa (pw + 1) pw v5 (tabB L)) := HW9.out.kept (Fr.ofBelow hba (fun _ => False)) (fun h => h) (fun _ _ h => h)
            have HXa : Hid (Wr wa (w9.heap.size + 1) w9.heap.size (.slice none 0 0) []) := hWa
            have HBa : Hid (Below w.heap.size w wa) := HB9.out.trans (hba.mono HB9.out.size)
            have HPx : Hid (pr < w9.heap.size ∧ pw < w9.heap.size ∧ (∀ k, v5.ownBlock = some k → k < w9.heap.size) ∧ w.heap.size ≤ w9.heap.size) := ⟨slt_blk HR9.out, HW9.out.lt, HW9.out.olt, HB9.out.size⟩
            clear hWa hba HT9 HR9 HW9 HB9
            obtain ⟨px, hpx⟩ : ∃ px, w9.heap.size = px := ⟨_, rfl⟩
            rw [hpx] at HXa HPx ⊢
            clear hpx
            have hPu := sput HTa.out HXa.out (by omega) (fun x hx => ⟨(HOk2.out x hx).1, by have := (HOk2.out x hx).2.1; omega, by have := (HOk2.out x hx).2.2; omega⟩) (by have := HRn.out; simp; omega)
            go_upto_region 38 with (go_at_call 15; refine hPu.mono ?_; rintro r wb ⟨rfl, hTb⟩)
            obtain ⟨vb, hWb, hFb, hRb⟩ := hTb
            have HXb : Hid (Wr wb (px + 1) px vb (tabB L)) := hWb
            have HWb : Hid (Wr wb (pw + 1) pw v5 (tabB L)) := HWa.out.kept hFb (fun e => by
              have := HPx.out.2.1
              rcases e with e | e
              · omega
              · cases e) (fun k hk e => by
              have := HPx.out.2.2.1 k hk
              rcases e with e | e
              · omega
              · cases e)
            have HRb : Hid (Rd wb pr (str (tabB L)) (tabB L).length 0) := HRa.out.kept hFb (fun e => by
              have := HPx.out.1
              rcases e with e | e
              · omega
              · cases e)
            have HBb : Hid (Below w.heap.size w wb) := HBa.out.trans (hFb.below HBa.out.size (fun k hk => by
              have := HPx.out.2.2.2
              rcases hk with hk | hk
              · omega
              · cases hk))
            have HXp : Hid (px ≠ pr ∧ ∀ k, vb.ownBlock = some k → k ≠ pr) := by
              refine ⟨by have := HPx.out.1; omega, fun k hk e => ?_⟩
              obtain ⟨_, cc, ff, ht⟩ := srow_tag hWb.own hk
              have h2 := HRb.out
              unfold Rd at h2
              rw [e, h2] at ht
              simp at ht
            clear hWb hFb hRb hPu HTa HRa HWa HXa HBa
            have hEn := rend_any (a := (tabB L).length) HRb.out HSz.out (Nat.le_refl _)
            have eEn : rdEnd (str (tabB L)) (tabB L).length 0 = 0 := rdEnd_ge 0 (show ¬ (tabB L).length < (tabB L).length from Nat.lt_irrefl _)
            rw [eEn] at hEn
            have tk1 : Hid True := trivial
            go_wp2_with (first
              | (go_at_call 22; have _t := tk1; refine (wall_any HWb.out).mono ?_; rintro r wb ⟨rfl, rfl⟩; clear tk1)
              | (go_at_call 23; refine hEn.mono ?_; rintro r wc ⟨rfl, hrc, hfc⟩; have HXc : Hid (Wr wc (px + 1) px vb (tabB L)) := HXb.out.kept hfc HXp.out.1 HXp.out.2; have HBc : Hid (Below w.heap.size w wc) := HBb.out.trans (hfc.below HBb.out.size (fun k hk => by have := HPr.out; omega)))
              | (go_at_call 22; refine (wall_any HXc.out).mono ?_; rintro r wc ⟨rfl, rfl⟩))
            go_ret
            exact ⟨by simp, HBc.out⟩

      · have hx3 : ¬ ((j : Int) < X.length) := by omega
        clear hlt HX HO1 HOk
        go_upto_region 26 with (go_at_call 14; refine (newwriter_any _).mono ?_; rintro r w4 ⟨rfl, hW4, hb4⟩)
        have HT4 : Hid (TA w4 w.heap.size p v L) := HT.out.new hb4
        have HM4 : Hid (RqO 39 w4 w.heap.size (.slice (some ⟨g, 0, none⟩) L.length c) L) := HM.out.new hb4
        have HB4 : Hid (Below w.heap.size w w4) := HB.out.trans (hb4.mono HB.out.size)
        have HW4 : Hid (Wr w4 (wr.heap.size + 1) wr.heap.size (.slice none 0 0) []) := hW4
        have HX4 : Hid (w.heap.size ≤ wr.heap.size) := HB.out.size
        have HMlt : Hid (g < wr.heap.size) := (HM.out.lt g rfl).2
        clear hW4 hb4 HT HM HB
        obtain ⟨pw, hpw⟩ : ∃ pw, wr.heap.size = pw := ⟨_, rfl⟩
        rw [hpw] at HW4 HX4 HMlt ⊢
        clear hpw
        have hPu := sput HT4.out HW4.out (by omega) (fun x hx => ⟨(HOk2.out x hx).1, by have := (HOk2.out x hx).2.1; omega, by have := (HOk2.out x hx).2.2; omega⟩) (by have := HRn.out; simp; omega)
        go_upto_region 27 with (go_at_call 15; refine hPu.mono ?_; rintro r w5 ⟨rfl, hT5⟩)
        have HT5 : Hid (TA w5 w.heap.size p v L) := HT4.out.wrote HW4.out hT5
        obtain ⟨v5, hW5, hF5, hR5⟩ := hT5
        have HW5 : Hid (Wr w5 (pw + 1) pw v5 (tabB L)) := hW5
        have HM5 : Hid (RqO 39 w5 w.heap.size (.slice (some ⟨g, 0, none⟩) L.length c) L) := HM4.out.kept hF5 (fun k hk e => by
          have hk2 : g = k := Option.some.inj hk
          have := HMlt.out
          rcases e with e | e
          · omega
          · cases e)
        have HB5 : Hid (Below w.heap.size w w5) := HB4.out.trans (hF5.below HB4.out.size (fun k hk => by
          have := HX4.out
          rcases hk with hk | hk
          · omega
          · cases hk))
        clear hW5 hF5 hR5 hPu HT4 HB4 HW4 HM4
        have hcv : IntKind.u64.wrap (L.length : Int) = (L.length : Int) := by rw [IntKind.wrap_u64]; omega
        have hNu := refnumber_any L.length w5 (by omega)
        go_upto_region 28 with (go_at_call 16; refine hNu.mono ?_; rintro r w6 ⟨rfl, hb6⟩)
        have HT6 : Hid (TA w6 w.heap.size p v L) := HT5.out.new hb6
        have HM6 : Hid (RqO 39 w6 w.heap.size (.slice (some ⟨g, 0, none⟩) L.length c) L) := HM5.out.new hb6
        have HW6 : Hid (Wr w6 (pw + 1) pw v5 (tabB L)) := HW5.out.kept (Fr.ofBelow hb6 (fun _ => False)) (fun h => h) (fun _ _ h => h)
        have HB6 : Hid (Below w.heap.size w w6) := HB5.out.trans (hb6.mono HB5.out.size)
        clear hb6 hNu HT5 HM5 HW5 HB5 hcv
        have HSt : Hid (str (numB L.length) = str (numB L.length ++ (L.take 0).flatMap reqB)) := by show _ = _; simp
        go_wp2
        go_loopw [20, 21] (fun sv i wr => ∃ (m : Nat), m ≤ L.length ∧ sv = .string (str (numB L.length ++ (L.take m).flatMap reqB)) ∧ i = .int .i64 m ∧ Hid (Below w6.heap.size w6 wr)) (fun _ i _ => L.length - (intOf i).toNat)
        case atStart => exact ⟨0, Nat.zero_le _, by rw [HSt.out], rfl, Below.refl _ _⟩
        case round =>
          clear HSt
          obtain ⟨m, hm, rfl, rfl, HBr⟩ := hrel
          by_cases hml : m < L.length
          · have HT7 : Hid (TA wr w.heap.size p v L) := HT6.out.new HBr.out
            have HM7 : Hid (RqO 39 wr w.heap.size (.slice (some ⟨g, 0, none⟩) L.length c) L) := HM6.out.new HBr.out
            obtain ⟨f0, f1, f2⟩ := HM7.out.at_ m hml
            have HXo := HOk2.out _ (List.getElem_mem hml)
            have hOne := HTab.out.one _ (List.getElem_mem hml)
            have HLast : Hid (lastR L L[m].k = L[m]) := last_at HTab.out.rise m hml
            have HSn : Hid ((L.take (m + 1)).flatMap reqB = (L.take m).flatMap reqB ++ reqB L[m]) := reqsB_snoc L m hml
            have HLn : ((L.take m).flatMap reqB).length ≤ reqsN (L.take m) := reqs_len _ (fun x hx => by
              have := HOk2.out x (List.mem_of_mem_take hx)
              exact ⟨this.1, by omega, by omega⟩)
            have HN := reqsN_take L m hml
            generalize L[m] = x at f0 f1 f2 HXo hOne HLast HSn HN
            obtain ⟨nn, hnn⟩ : ∃ nn : Nat, x.n = nn := ⟨x.n.toNat, by omega⟩
            have HNn : Hid (x.n = nn) := hnn
            rw [hnn] at f1
            have hnl : nn ≤ 200 := by have := HXo.2.1; omega
            have hmL : (m : Int) < L.length := by omega
            have hrn := HRn.out
            have l0 : (str (numB L.length)).size ≤ 10 := numB_len10 (by omega)
            have s0 : (str (numB L.length ++ (L.take m).flatMap reqB)).size ≤ 70000000 := by
              have : (str (numB L.length ++ (L.take m).flatMap reqB)).size = (numB L.length).length + ((L.take m).flatMap reqB).length := List.length_append
              have l1 : (numB L.length).length ≤ 10 := numB_len10 (by omega)
              omega
            have s1 : (str (sgB x.k)).size ≤ 10 := sgB_len HXo.1
            have s2 : (str (numB nn)).size ≤ 10 := numB_len10 (by omega)
            have s3 : (str (textB x.s.data.toList)).size ≤ 1048586 := by have := (textB_len x.s (by have := HXo.2.2; omega)).1; have h2 := HXo.2.2; show (textB x.s.data.toList).length ≤ _; omega
            have hz1 : (str (sgB x.k)).size + (str (numB nn)).size ≤ 9223372036854775807 := by omega
            have hz2 : (str (sgB x.k)).size + (str (numB nn)).size + (str (textB x.s.data.toList)).size ≤ 9223372036854775807 := by omega
            have hz3 : (str (numB L.length ++ (L.take m).flatMap reqB)).size + ((str (sgB x.k)).size + (str (numB nn)).size + (str (textB x.s.data.toList)).size) ≤ 9223372036854775807 := by omega
            have HNw : Hid (str (numB L.length ++ (L.take m).flatMap reqB) ++ (str (sgB x.k) ++ str (numB nn) ++ str (textB x.s.data.toList)) = str (numB L.length ++ (L.take (m + 1)).flatMap reqB)) := by
              show _ = _
              have : nn = x.n.toNat := by omega
              rw [HSn.out, this]
              simp only [str_append]
              unfold reqB
              simp only [List.append_assoc]
            have hwu : IntKind.u64.wrap (nn : Int) = (nn : Int) := by rw [IntKind.wrap_u64]; omega
            have HK : Hid (I64 x.k) := HXo.1
            have HSz : Hid (x.s.size ≤ 140737488355328) := by show _ ≤ _; have := HXo.2.2; omega
            generalize str (numB L.length ++ (L.take m).flatMap reqB) = S0 at hz3 HNw s0 ⊢
            clear HXo hOne HSn HN HLn hnn hrn l0 s0 s1 s2 s3
            go_upto_region 31 with (fail)
            obtain ⟨Wd, hWd⟩ : ∃ Wd, wr.drew = Wd := ⟨_, rfl⟩
            have bd : Below wr.heap.size wr Wd := by rw [← hWd]; exact Below.drew (Below.refl _ _)
            have k0 := (bd.cell (p := ⟨g, m * 3, none⟩) (slt_cell f0)).trans f0
            have k1 := (bd.cell (p := ⟨g, m * 3 + 1, none⟩) (slt_cell f1)).trans f1
            have k2 := (bd.cell (p := ⟨g, m * 3 + 2, none⟩) (slt_cell f2)).trans f2
            have HBd : Hid (Below w6.heap.size w6 Wd) := HBr.out.trans (bd.mono HBr.out.size)
            refine wp_calmS ?_
            refine wp_region_L [] (fun w' : World => w'.cell? ⟨g, m * 3, none⟩ = some (.int .i64 x.k) ∧ w'.cell? ⟨g, m * 3 + 1, none⟩ = some (.int .i64 nn) ∧ w'.cell? ⟨g, m * 3 + 2, none⟩ = some (.string x.s)) (by kernel_rfl) ?_
            rw [hWd]
            have hS : (fun w' : World => w'.cell? ⟨g, m * 3, none⟩ = some (.int .i64 x.k) ∧ w'.cell? ⟨g, m * 3 + 1, none⟩ = some (.int .i64 nn) ∧ w'.cell? ⟨g, m * 3 + 2, none⟩ = some (.string x.s)) Wd := ⟨k0, k1, k2⟩
            clear hWd bd f0 f1 f2
            have hR1 := refsigned_s x.k Wd HK.out
            refine wpAnyL_take (i := 0) 179 (v := .string S0) rfl rfl (by kernel_rfl) (by kernel_rfl) (by kernel_rfl) (by kernel_rfl) (by kernel_rfl) (by kernel_rfl) (fun _ _ _ h => h) hS (by rfl) (by intro w' hSw; obtain ⟨k0, k1, k2⟩ := hSw; go_simp <;> with_reducible rfl) ?_
            simp only [Act.put, List.setIfInBounds_toArray, List.set_cons_zero, List.set_cons_succ]
            refine wpAnyL_take (i := 1) 180 (v := .slice (some ⟨g, 0, none⟩) L.length c) rfl rfl (by kernel_rfl) (by kernel_rfl) (by kernel_rfl) (by kernel_rfl) (by kernel_rfl) (by kernel_rfl) (fun _ _ _ h => h) hS (by rfl) (by intro w' hSw; obtain ⟨k0, k1, k2⟩ := hSw; go_simp <;> with_reducible rfl) ?_
            simp only [Act.put, List.setIfInBounds_toArray, List.set_cons_zero, List.set_cons_succ]
            refine wpAnyL_take (i := 2) 181 (v := .int .i64 m) rfl rfl (by kernel_rfl) (by kernel_rfl) (by kernel_rfl) (by kernel_rfl) (by kernel_rfl) (by kernel_rfl) (fun _ _ _ h => h) hS (by rfl) (by intro w' hSw; obtain ⟨k0, k1, k2⟩ := hSw; go_simp <;> with_reducible rfl) ?_
            simp only [Act.put, List.setIfInBounds_toArray, List.set_cons_zero, List.set_cons_succ]
            refine wpAnyL_take (i := 3) 182 (v := .pointer (some ⟨g, m * 3, none⟩)) rfl rfl (by kernel_rfl) (by kernel_rfl) (by kernel_rfl) (by kernel_rfl) (by kernel_rfl) (by kernel_rfl) (fun _ _ _ h => h) hS (by rfl) (by intro w' hSw; obtain ⟨k0, k1, k2⟩ := hSw; go_simp <;> with_reducible rfl) ?_
            simp only [Act.put, List.setIfInBounds_toArray, List.set_cons_zero, List.set_cons_succ]
            refine wpAnyL_take (i := 4) 183 (v := .pointer (some ⟨g, m * 3, none⟩)) rfl rfl (by kernel_rfl) (by kernel_rfl) (by kernel_rfl) (by kernel_rfl) (by kernel_rfl) (by kernel_rfl) (fun _ _ _ h => h) hS (by rfl) (by intro w' hSw; obtain ⟨k0, k1, k2⟩ := hSw; go_simp <;> with_reducible rfl) ?_
            simp only [Act.put, List.setIfInBounds_toArray, List.set_cons_zero, List.set_cons_succ]
            refine wpAnyL_take (i := 5) 184 (v := .int .i64 x.k) rfl rfl (by kernel_rfl) (by kernel_rfl) (by kernel_rfl) (by kernel_rfl) (by kernel_rfl) (by kernel_rfl) (fun _ _ _ h => h) hS (by rfl) (by intro w' hSw; obtain ⟨k0, k1, k2⟩ := hSw; go_simp <;> with_reducible rfl) ?_
            simp only [Act.put, List.setIfInBounds_toArray, List.set_cons_zero, List.set_cons_succ]
            refine wpAnyL_take (i := 7) 186 (v := .slice (some ⟨g, 0, none⟩) L.length c) rfl rfl (by kernel_rfl) (by kernel_rfl) (by kernel_rfl) (by kernel_rfl) (by kernel_rfl) (by kernel_rfl) (fun _ _ _ h => h) hS (by rfl) (by intro w' hSw; obtain ⟨k0, k1, k2⟩ := hSw; go_simp <;> with_reducible rfl) ?_
            simp only [Act.put, List.setIfInBounds_toArray, List.set_cons_zero, List.set_cons_succ]
            refine wpAnyL_take (i := 8) 187 (v := .int .i64 m) rfl rfl (by kernel_rfl) (by kernel_rfl) (by kernel_rfl) (by kernel_rfl) (by kernel_rfl) (by kernel_rfl) (fun _ _ _ h => h) hS (by rfl) (by intro w' hSw; obtain ⟨k0, k1, k2⟩ := hSw; go_simp <;> with_reducible rfl) ?_
            simp only [Act.put, List.setIfInBounds_toArray, List.set_cons_zero, List.set_cons_succ]
            refine wpAnyL_take (i := 9) 188 (v := .pointer (some ⟨g, m * 3, none⟩)) rfl rfl (by kernel_rfl) (by kernel_rfl) (by kernel_rfl) (by kernel_rfl) (by kernel_rfl) (by kernel_rfl) (fun _ _ _ h => h) hS (by rfl) (by intro w' hSw; obtain ⟨k0, k1, k2⟩ := hSw; go_simp <;> with_reducible rfl) ?_
            simp only [Act.put, List.setIfInBounds_toArray, List.set_cons_zero, List.set_cons_succ]
            refine wpAnyL_take (i := 10) 189 (v := .pointer (some ⟨g, m * 3 + 1, none⟩)) rfl rfl (by kernel_rfl) (by kernel_rfl) (by kernel_rfl) (by kernel_rfl) (by kernel_rfl) (by kernel_rfl) (fun _ _ _ h => h) hS (by rfl) (by intro w' hSw; obtain ⟨k0, k1, k2⟩ := hSw; go_simp <;> with_reducible rfl) ?_
            simp only [Act.put, List.setIfInBounds_toArray, List.set_cons_zero, List.set_cons_succ]
            refine wpAnyL_take (i := 11) 190 (v := .int .i64 nn) rfl rfl (by kernel_rfl) (by kernel_rfl) (by kernel_rfl) (by kernel_rfl) (by kernel_rfl) (by kernel_rfl) (fun _ _ _ h => h) hS (by rfl) (by intro w' hSw; obtain ⟨k0, k1, k2⟩ := hSw; go_simp <;> with_reducible rfl) ?_
            simp only [Act.put, List.setIfInBounds_toArray, List.set_cons_zero, List.set_cons_succ]
            refine wpAnyL_take (i := 12) 191 (v := .int .u64 nn) rfl rfl (by kernel_rfl) (by kernel_rfl) (by kernel_rfl) (by kernel_rfl) (by kernel_rfl) (by kernel_rfl) (fun _ _ _ h => h) hS (by rfl) (by intro w' hSw; obtain ⟨k0, k1, k2⟩ := hSw; go_simp <;> with_reducible rfl) ?_
            simp only [Act.put, List.setIfInBounds_toArray, List.set_cons_zero, List.set_cons_succ]
            refine wpAnyL_take (i := 15) 194 (v := .slice (some ⟨g, 0, none⟩) L.length c) rfl rfl (by kernel_rfl) (by kernel_rfl) (by kernel_rfl) (by kernel_rfl) (by kernel_rfl) (by kernel_rfl) (fun _ _ _ h => h) hS (by rfl) (by intro w' hSw; obtain ⟨k0, k1, k2⟩ := hSw; go_simp <;> with_reducible rfl) ?_
            simp only [Act.put, List.setIfInBounds_toArray, List.set_cons_zero, List.set_cons_succ]
            refine wpAnyL_take (i := 16) 195 (v := .int .i64 m) rfl rfl (by kernel_rfl) (by kernel_rfl) (by kernel_rfl) (by kernel_rfl) (by kernel_rfl) (by kernel_rfl) (fun _ _ _ h => h) hS (by rfl) (by intro w' hSw; obtain ⟨k0, k1, k2⟩ := hSw; go_simp <;> with_reducible rfl) ?_
            simp only [Act.put, List.setIfInBounds_toArray, List.set_cons_zero, List.set_cons_succ]
            refine wpAnyL_take (i := 17) 196 (v := .pointer (some ⟨g, m * 3, none⟩)) rfl rfl (by kernel_rfl) (by kernel_rfl) (by kernel_rfl) (by kernel_rfl) (by kernel_rfl) (by kernel_rfl) (fun _ _ _ h => h) hS (by rfl) (by intro w' hSw; obtain ⟨k0, k1, k2⟩ := hSw; go_simp <;> with_reducible rfl) ?_
            simp only [Act.put, List.setIfInBounds_toArray, List.set_cons_zero, List.set_cons_succ]
            refine wpAnyL_take (i := 18) 197 (v := .pointer (some ⟨g, m * 3 + 2, none⟩)) rfl rfl (by kernel_rfl) (by kernel_rfl) (by kernel_rfl) (by kernel_rfl) (by kernel_rfl) (by kernel_rfl) (fun _ _ _ h => h) hS (by rfl) (by intro w' hSw; obtain ⟨k0, k1, k2⟩ := hSw; go_simp <;> with_reducible rfl) ?_
            simp only [Act.put, List.setIfInBounds_toArray, List.set_cons_zero, List.set_cons_succ]
            refine wpAnyL_take (i := 19) 198 (v := .string x.s) rfl rfl (by kernel_rfl) (by kernel_rfl) (by kernel_rfl) (by kernel_rfl) (by kernel_rfl) (by kernel_rfl) (fun _ _ _ h => h) hS (by rfl) (by intro w' hSw; obtain ⟨k0, k1, k2⟩ := hSw; go_simp <;> with_reducible rfl) ?_
            simp only [Act.put, List.setIfInBounds_toArray, List.set_cons_zero, List.set_cons_succ]
            refine wpAnyL_one (i := 6) (by kernel_rfl) rfl (fun Ka hKa => ?_)
            go_simp
            refine Calls.mono hR1 ?_
            rintro r V1 ⟨rfl, hb1⟩
            have hS1 : (fun w' : World => w'.cell? ⟨g, m * 3, none⟩ = some (.int .i64 x.k) ∧ w'.cell? ⟨g, m * 3 + 1, none⟩ = some (.int .i64 nn) ∧ w'.cell? ⟨g, m * 3 + 2, none⟩ = some (.string x.s)) V1 := ⟨(hb1.cell (p := ⟨g, m * 3, none⟩) (slt_cell k0)).trans k0, (hb1.cell (p := ⟨g, m * 3 + 1, none⟩) (slt_cell k1)).trans k1, (hb1.cell (p := ⟨g, m * 3 + 2, none⟩) (slt_cell k2)).trans k2⟩
            refine hKa.out _ _ (fun _ => hS1) ?_
            clear hKa Ka
            try simp only [Act.put, List.setIfInBounds_toArray, List.set_cons_zero, List.set_cons_succ]
            have HBv1 : Hid (Below w6.heap.size w6 V1) := HBd.out.trans (hb1.mono HBd.out.size)
            have hR2 := refnumber_any nn V1 (by omega)
            clear hb1 hR1
            refine wpAnyL_one (i := 13) (by kernel_rfl) rfl (fun Ka hKa => ?_)
            go_simp
            refine Calls.mono hR2 ?_
            rintro r V2 ⟨rfl, hb2⟩
            have hS2 : (fun w' : World => w'.cell? ⟨g, m * 3, none⟩ = some (.int .i64 x.k) ∧ w'.cell? ⟨g, m * 3 + 1, none⟩ = some (.int .i64 nn) ∧ w'.cell? ⟨g, m * 3 + 2, none⟩ = some (.string x.s)) V2 := ⟨(hb2.cell (p := ⟨g, m * 3, none⟩) (slt_cell hS1.1)).trans hS1.1, (hb2.cell (p := ⟨g, m * 3 + 1, none⟩) (slt_cell hS1.2.1)).trans hS1.2.1, (hb2.cell (p := ⟨g, m * 3 + 2, none⟩) (slt_cell hS1.2.2)).trans hS1.2.2⟩
            refine hKa.out _ _ (fun _ => hS2) ?_
            clear hKa Ka
            try simp only [Act.put, List.setIfInBounds_toArray, List.set_cons_zero, List.set_cons_succ]
            have HBv2 : Hid (Below w6.heap.size w6 V2) := HBv1.out.trans (hb2.mono HBv1.out.size)
            clear hb2 hR2
            refine wpAnyL_take (i := 14) 193 (v := .string (str (sgB x.k) ++ str (numB nn))) rfl rfl (by kernel_rfl) (by kernel_rfl) (by kernel_rfl) (by kernel_rfl) (by kernel_rfl) (by kernel_rfl) (fun _ _ _ h => h) hS2 (by rfl) (by intro w' hSw; obtain ⟨k0, k1, k2⟩ := hSw; go_simp <;> with_reducible rfl) ?_
            simp only [Act.put, List.setIfInBounds_toArray, List.set_cons_zero, List.set_cons_succ]
            have hR3 := reftext_any x.s V2 HSz.out
            refine wpAnyL_one (i := 20) (by kernel_rfl) rfl (fun Ka hKa => ?_)
            go_simp
            refine Calls.mono hR3 ?_
            rintro r V3 ⟨rfl, hb3⟩
            have hS3 : (fun w' : World => w'.cell? ⟨g, m * 3, none⟩ = some (.int .i64 x.k) ∧ w'.cell? ⟨g, m * 3 + 1, none⟩ = some (.int .i64 nn) ∧ w'.cell? ⟨g, m * 3 + 2, none⟩ = some (.string x.s)) V3 := ⟨(hb3.cell (p := ⟨g, m * 3, none⟩) (slt_cell hS2.1)).trans hS2.1, (hb3.cell (p := ⟨g, m * 3 + 1, none⟩) (slt_cell hS2.2.1)).trans hS2.2.1, (hb3.cell (p := ⟨g, m * 3 + 2, none⟩) (slt_cell hS2.2.2)).trans hS2.2.2⟩
            refine hKa.out _ _ (fun _ => hS3) ?_
            clear hKa Ka
            try simp only [Act.put, List.setIfInBounds_toArray, List.set_cons_zero, List.set_cons_succ]
            have HBv3 : Hid (Below w6.heap.size w6 V3) := HBv2.out.trans (hb3.mono HBv2.out.size)
            clear hb3 hR3
            refine wpAnyL_take (i := 21) 200 (v := .string (str (sgB x.k) ++ str (numB nn) ++ str (textB x.s.data.toList))) rfl rfl (by kernel_rfl) (by kernel_rfl) (by kernel_rfl) (by kernel_rfl) (by kernel_rfl) (by kernel_rfl) (fun _ _ _ h => h) hS3 (by rfl) (by intro w' hSw; obtain ⟨k0, k1, k2⟩ := hSw; go_simp <;> with_reducible rfl) ?_
            simp only [Act.put, List.setIfInBounds_toArray, List.set_cons_zero, List.set_cons_succ]
            refine wpAnyL_take (i := 22) 201 (v := .string (S0 ++ (str (sgB x.k) ++ str (numB nn) ++ str (textB x.s.data.toList)))) rfl rfl (by kernel_rfl) (by kernel_rfl) (by kernel_rfl) (by kernel_rfl) (by kernel_rfl) (by kernel_rfl) (fun _ _ _ h => h) hS3 (by rfl) (by intro w' hSw; obtain ⟨k0, k1, k2⟩ := hSw; go_simp <;> with_reducible rfl) ?_
            simp only [Act.put, List.setIfInBounds_toArray, List.set_cons_zero, List.set_cons_succ]
            refine wpAnyL_take (i := 23) 20 (v := .string (S0 ++ (str (sgB x.k) ++ str (numB nn) ++ str (textB x.s.data.toList)))) rfl rfl (by kernel_rfl) (by kernel_rfl) (by kernel_rfl) (by kernel_rfl) (by kernel_rfl) (by kernel_rfl) (fun _ _ _ h => h) hS3 (by rfl) (by intro w' hSw; obtain ⟨k0, k1, k2⟩ := hSw; go_simp <;> with_reducible rfl) ?_
            simp only [Act.put, List.setIfInBounds_toArray, List.set_cons_zero, List.set_cons_succ]
            refine wpAnyL_done (by kernel_rfl) ?_ _
            rw [HNw.out]
            have HS4 : Hid ((fun w' : World => w'.cell? ⟨g, m * 3, none⟩ = some (.int .i64 x.k) ∧ w'.cell? ⟨g, m * 3 + 1, none⟩ = some (.int .i64 nn) ∧ w'.cell? ⟨g, m * 3 + 2, none⟩ = some (.string x.s)) V3) := hS3
            clear hS hS1 hS2 hS3 k0 k1 k2 hz1 hz2 hz3 HBd HBv1 HBv2 hwu
            go_upto_region 32 with (fail)
            obtain ⟨Ud, hUd⟩ : ∃ Ud, V3.drew = Ud := ⟨_, rfl⟩
            have bu : Below V3.heap.size V3 Ud := by rw [← hUd]; exact Below.drew (Below.refl _ _)
            have HBu : Hid (Below w6.heap.size w6 Ud) := HBv3.out.trans (bu.mono HBv3.out.size)
            have HTu : Hid (TA Ud w.heap.size p v L) := HT6.out.new HBu.out
            refine wp_calmS ?_
            refine wp_region_L [] (fun w' : World => w'.cell? ⟨g, m * 3, none⟩ = some (.int .i64 x.k) ∧ w'.cell? ⟨g, m * 3 + 1, none⟩ = some (.int .i64 nn) ∧ w'.cell? ⟨g, m * 3 + 2, none⟩ = some (.string x.s)) (by kernel_rfl) ?_
            rw [hUd]
            have hS : (fun w' : World => w'.cell? ⟨g, m * 3, none⟩ = some (.int .i64 x.k) ∧ w'.cell? ⟨g, m * 3 + 1, none⟩ = some (.int .i64 nn) ∧ w'.cell? ⟨g, m * 3 + 2, none⟩ = some (.string x.s)) Ud := ⟨(bu.cell (p := ⟨g, m * 3, none⟩) (slt_cell HS4.out.1)).trans HS4.out.1, (bu.cell (p := ⟨g, m * 3 + 1, none⟩) (slt_cell HS4.out.2.1)).trans HS4.out.2.1, (bu.cell (p := ⟨g, m * 3 + 2, none⟩) (slt_cell HS4.out.2.2)).trans HS4.out.2.2⟩
            clear hUd bu
            have hQ := sseq x.k HTu.out (by omega) HTab.out.rise
            rw [HLast.out, HNn.out] at hQ
            refine wpAnyL_take (i := 0) 202 (v := .pointer (some ⟨p, 0, none⟩)) rfl rfl (by kernel_rfl) (by kernel_rfl) (by kernel_rfl) (by kernel_rfl) (by kernel_rfl) (by kernel_rfl) (fun _ _ _ h => h) hS (by rfl) (by intro w' hSw; obtain ⟨k0, k1, k2⟩ := hSw; go_simp <;> with_reducible rfl) ?_
            simp only [Act.put, List.setIfInBounds_toArray, List.set_cons_zero, List.set_cons_succ]
            refine wpAnyL_take (i := 1) 203 (v := .slice (some ⟨g, 0, none⟩) L.length c) rfl rfl (by kernel_rfl) (by kernel_rfl) (by kernel_rfl) (by kernel_rfl) (by kernel_rfl) (by kernel_rfl) (fun _ _ _ h => h) hS (by rfl) (by intro w' hSw; obtain ⟨k0, k1, k2⟩ := hSw; go_simp <;> with_reducible rfl) ?_
            simp only [Act.put, List.setIfInBounds_toArray, List.set_cons_zero, List.set_cons_succ]
            refine wpAnyL_take (i := 2) 204 (v := .int .i64 m) rfl rfl (by kernel_rfl) (by kernel_rfl) (by kernel_rfl) (by kernel_rfl) (by kernel_rfl) (by kernel_rfl) (fun _ _ _ h => h) hS (by rfl) (by intro w' hSw; obtain ⟨k0, k1, k2⟩ := hSw; go_simp <;> with_reducible rfl) ?_
            simp only [Act.put, List.setIfInBounds_toArray, List.set_cons_zero, List.set_cons_succ]
            refine wpAnyL_take (i := 3) 205 (v := .pointer (some ⟨g, m * 3, none⟩)) rfl rfl (by kernel_rfl) (by kernel_rfl) (by kernel_rfl) (by kernel_rfl) (by kernel_rfl) (by kernel_rfl) (fun _ _ _ h => h) hS (by rfl) (by intro w' hSw; obtain ⟨k0, k1, k2⟩ := hSw; go_simp <;> with_reducible rfl) ?_
            simp only [Act.put, List.setIfInBounds_toArray, List.set_cons_zero, List.set_cons_succ]
            refine wpAnyL_take (i := 4) 206 (v := .pointer (some ⟨g, m * 3, none⟩)) rfl rfl (by kernel_rfl) (by kernel_rfl) (by kernel_rfl) (by kernel_rfl) (by kernel_rfl) (by kernel_rfl) (fun _ _ _ h => h) hS (by rfl) (by intro w' hSw; obtain ⟨k0, k1, k2⟩ := hSw; go_simp <;> with_reducible rfl) ?_
            simp only [Act.put, List.setIfInBounds_toArray, List.set_cons_zero, List.set_cons_succ]
            refine wpAnyL_take (i := 5) 207 (v := .int .i64 x.k) rfl rfl (by kernel_rfl) (by kernel_rfl) (by kernel_rfl) (by kernel_rfl) (by kernel_rfl) (by kernel_rfl) (fun _ _ _ h => h) hS (by rfl) (by intro w' hSw; obtain ⟨k0, k1, k2⟩ := hSw; go_simp <;> with_reducible rfl) ?_
            simp only [Act.put, List.setIfInBounds_toArray, List.set_cons_zero, List.set_cons_succ]
            refine wpAnyL_take (i := 7) 209 (v := .slice (some ⟨g, 0, none⟩) L.length c) rfl rfl (by kernel_rfl) (by kernel_rfl) (by kernel_rfl) (by kernel_rfl) (by kernel_rfl) (by kernel_rfl) (fun _ _ _ h => h) hS (by rfl) (by intro w' hSw; obtain ⟨k0, k1, k2⟩ := hSw; go_simp <;> with_reducible rfl) ?_
            simp only [Act.put, List.setIfInBounds_toArray, List.set_cons_zero, List.set_cons_succ]
            refine wpAnyL_take (i := 8) 210 (v := .int .i64 m) rfl rfl (by kernel_rfl) (by kernel_rfl) (by kernel_rfl) (by kernel_rfl) (by kernel_rfl) (by kernel_rfl) (fun _ _ _ h => h) hS (by rfl) (by intro w' hSw; obtain ⟨k0, k1, k2⟩ := hSw; go_simp <;> with_reducible rfl) ?_
            simp only [Act.put, List.setIfInBounds_toArray, List.set_cons_zero, List.set_cons_succ]
            refine wpAnyL_take (i := 9) 211 (v := .pointer (some ⟨g, m * 3, none⟩)) rfl rfl (by kernel_rfl) (by kernel_rfl) (by kernel_rfl) (by kernel_rfl) (by kernel_rfl) (by kernel_rfl) (fun _ _ _ h => h) hS (by rfl) (by intro w' hSw; obtain ⟨k0, k1, k2⟩ := hSw; go_simp <;> with_reducible rfl) ?_
            simp only [Act.put, List.setIfInBounds_toArray, List.set_cons_zero, List.set_cons_succ]
            refine wpAnyL_take (i := 10) 212 (v := .pointer (some ⟨g, m * 3 + 1, none⟩)) rfl rfl (by kernel_rfl) (by kernel_rfl) (by kernel_rfl) (by kernel_rfl) (by kernel_rfl) (by kernel_rfl) (fun _ _ _ h => h) hS (by rfl) (by intro w' hSw; obtain ⟨k0, k1, k2⟩ := hSw; go_simp <;> with_reducible rfl) ?_
            simp only [Act.put, List.setIfInBounds_toArray, List.set_cons_zero, List.set_cons_succ]
            refine wpAnyL_take (i := 11) 213 (v := .int .i64 nn) rfl rfl (by kernel_rfl) (by kernel_rfl) (by kernel_rfl) (by kernel_rfl) (by kernel_rfl) (by kernel_rfl) (fun _ _ _ h => h) hS (by rfl) (by intro w' hSw; obtain ⟨k0, k1, k2⟩ := hSw; go_simp <;> with_reducible rfl) ?_
            simp only [Act.put, List.setIfInBounds_toArray, List.set_cons_zero, List.set_cons_succ]
            refine wpAnyL_one (i := 6) (by kernel_rfl) rfl (fun Ka hKa => ?_)
            go_simp
            refine Calls.mono hQ ?_
            rintro r V5 ⟨rfl, hb5⟩
            have hS5 : (fun w' : World => w'.cell? ⟨g, m * 3, none⟩ = some (.int .i64 x.k) ∧ w'.cell? ⟨g, m * 3 + 1, none⟩ = some (.int .i64 nn) ∧ w'.cell? ⟨g, m * 3 + 2, none⟩ = some (.string x.s)) V5 := ⟨(hb5.cell (p := ⟨g, m * 3, none⟩) (slt_cell hS.1)).trans hS.1, (hb5.cell (p := ⟨g, m * 3 + 1, none⟩) (slt_cell hS.2.1)).trans hS.2.1, (hb5.cell (p := ⟨g, m * 3 + 2, none⟩) (slt_cell hS.2.2)).trans hS.2.2⟩
            refine hKa.out _ _ (fun _ => hS5) ?_
            clear hKa Ka
            try simp only [Act.put, List.setIfInBounds_toArray, List.set_cons_zero, List.set_cons_succ]
            have HBv5 : Hid (Below w6.heap.size w6 V5) := HBu.out.trans (hb5.mono HBu.out.size)
            clear hb5 hQ
            refine wpAnyL_take (i := 12) 214 (v := .bool false) rfl rfl (by kernel_rfl) (by kernel_rfl) (by kernel_rfl) (by kernel_rfl) (by kernel_rfl) (by kernel_rfl) (fun _ _ _ h => h) hS5 (by rfl) (by intro w' hSw; obtain ⟨k0, k1, k2⟩ := hSw; go_simp <;> with_reducible rfl) ?_
            simp only [Act.put, List.setIfInBounds_toArray, List.set_cons_zero, List.set_cons_succ]
            refine wpAnyL_done (by kernel_rfl) ?_ _
            clear hS hS5
            go_wp2
            go_roundw
            case rel => exact ⟨m + 1, by omega, rfl, by go_num, HBv5⟩
            case measure => simp [intOf]; omega
          · have hmL : ¬ ((m : Int) < L.length) := by omega
            have HStr : Hid (str (numB L.length ++ (L.take m).flatMap reqB) = str (tabB L)) := by
              show _ = _
              rw [List.take_of_length_le (by omega)]
              rfl
            rw [HStr.out]
            have HW7 : Hid (Wr wr (pw + 1) pw v5 (tabB L)) := HW6.out.kept (Fr.ofBelow HBr.out (fun _ => False)) (fun h => h) (fun _ _ h => h)
            have HB7 : Hid (Below w.heap.size w wr) := HB6.out.trans (HBr.out.mono HB6.out.size)
            have HSz : Hid ((str (tabB L)).size ≤ maxLen) := by
              show _ ≤ _
              have h1 := tab_len HTab.out HOk2.out (by decide)
              have h2 : (str (tabB L)).size = (tabB L).length := rfl
              unfold maxLen
              omega
            clear HT6 HM6 HW6 HB6 HBr
            go_upto_region 35 with (go_at_call 20; refine (newreader_any _ _).mono ?_; rintro r w8 ⟨rfl, hr8, hb8⟩)
            have HR8 : Hid (Rd w8 wr.heap.size (str (tabB L)) 0 0) := hr8
            have HW8 : Hid (Wr w8 (pw + 1) pw v5 (tabB L)) := HW7.out.kept (Fr.ofBelow hb8 (fun _ => False)) (fun h => h) (fun _ _ h => h)
            have HB8 : Hid (Below w.heap.size w w8) := HB7.out.trans (hb8.mono HB7.out.size)
            have HWl : Hid (pw < wr.heap.size ∧ ∀ k, v5.ownBlock = some k → k < wr.heap.size) := ⟨HW7.out.lt, HW7.out.olt⟩
            have HPr : Hid (w.heap.size ≤ wr.heap.size) := HB7.out.size
            clear hr8 hb8 HW7 HB7
            obtain ⟨pr, hpr⟩ : ∃ pr, wr.heap.size = pr := ⟨_, rfl⟩
            rw [hpr] at HR8 HWl HPr ⊢
            clear hpr
            have hTk := stake_enc HTab.out HOk2.out (by decide) HR8.out
            go_upto_region 36 with (go_at_call 21; refine hTk.mono ?_; rintro r w9 ⟨rfl, hr9, ⟨v9, ht9⟩, hf9⟩)
            have HR9 : Hid (Rd w9 pr (str (tabB L)) (tabB L).length 0) := hr9
            have HT9 : Hid (TA w9 w.heap.size w8.heap.size v9 L) := ht9.lower HB8.out.size
            have HW9 : Hid (Wr w9 (pw + 1) pw v5 (tabB L)) := HW8.out.kept hf9 (fun e => by have := HWl.out.1; omega) (fun k hk e => by have := HWl.out.2 k hk; omega)
            have HB9 : Hid (Below w.heap.size w w9) := HB8.out.trans (hf9.below HB8.out.size (fun k hk => by have := HPr.out; omega))
            clear hTk hr9 ht9 hf9 HR8 HW8 HB8
            obtain ⟨pk, hpk⟩ : ∃ pk, w8.heap.size = pk := ⟨_, rfl⟩
            rw [hpk] at HT9 ⊢
            clear hpk
            go_upto_region 37 with (go_at_call 14; refine (newwriter_any _).mono ?_; rintro r wa ⟨rfl, hWa, hba⟩)
            have HTa : Hid (TA wa w.heap.size pk v9 L) := HT9.out.new hba
            have HRa : Hid (Rd wa pr (str (tabB L)) (tabB L).length 0) := HR9.out.below hba
            have HWa : Hid (Wr wa (pw + 1) pw v5 (tabB L)) := HW9.out.kept (Fr.ofBelow hba (fun _ => False)) (fun h => h) (fun _ _ h => h)
            have HXa : Hid (Wr wa (w9.heap.size + 1) w9.heap.size (.slice none 0 0) []) := hWa
            have HBa : Hid (Below w.heap.size w wa) := HB9.out.trans (hba.mono HB9.out.size)
            have HPx : Hid (pr < w9.heap.size ∧ pw < w9.heap.size ∧ (∀ k, v5.ownBlock = some k → k < w9.heap.size) ∧ w.heap.size ≤ w9.heap.size) := ⟨slt_blk HR9.out, HW9.out.lt, HW9.out.olt, HB9.out.size⟩
            clear hWa hba HT9 HR9 HW9 HB9
            obtain ⟨px, hpx⟩ : ∃ px, w9.heap.size = px := ⟨_, rfl⟩
            rw [hpx] at HXa HPx ⊢
            clear hpx
            have hPu := sput HTa.out HXa.out (by omega) (fun x hx => ⟨(HOk2.out x hx).1, by have := (HOk2.out x hx).2.1; omega, by have := (HOk2.out x hx).2.2; omega⟩) (by have := HRn.out; simp; omega)
            go_upto_region 38 with (go_at_call 15; refine hPu.mono ?_; rintro r wb ⟨rfl, hTb⟩)
            obtain ⟨vb, hWb, hFb, hRb⟩ := hTb
            have HXb : Hid (Wr wb (px + 1) px vb (tabB L)) := hWb
            have HWb : Hid (Wr wb (pw + 1) pw v5 (tabB L)) := HWa.out.kept hFb (fun e => by
              have := HPx.out.2.1
              rcases e with e | e
              · omega
              · cases e) (fun k hk e => by
              have := HPx.out.2.2.1 k hk
              rcases e with e | e
              · omega
              · cases e)
            have HRb : Hid (Rd wb pr (str (tabB L)) (tabB L).length 0) := HRa.out.kept hFb (fun e => by
              have := HPx.out.1
              rcases e with e | e
              · omega
              · cases e)
            have HBb : Hid (Below w.heap.size w wb) := HBa.out.trans (hFb.below HBa.out.size (fun k hk => by
              have := HPx.out.2.2.2
              rcases hk with hk | hk
              · omega
              · cases hk))
            have HXp : Hid (px ≠ pr ∧ ∀ k, vb.ownBlock = some k → k ≠ pr) := by
              refine ⟨by have := HPx.out.1; omega, fun k hk e => ?_⟩
              obtain ⟨_, cc, ff, ht⟩ := srow_tag hWb.own hk
              have h2 := HRb.out
              unfold Rd at h2
              rw [e, h2] at ht
              simp at ht
            clear hWb hFb hRb hPu HTa HRa HWa HXa HBa
            have hEn := rend_any (a := (tabB L).length) HRb.out HSz.out (Nat.le_refl _)
            have eEn : rdEnd (str (tabB L)) (tabB L).length 0 = 0 := rdEnd_ge 0 (show ¬ (tabB L).length < (tabB L).length from Nat.lt_irrefl _)
            rw [eEn] at hEn
            have tk1 : Hid True := trivial
            go_wp2_with (first
              | (go_at_call 22; have _t := tk1; refine (wall_any HWb.out).mono ?_; rintro r wb ⟨rfl, rfl⟩; clear tk1)
              | (go_at_call 23; refine hEn.mono ?_; rintro r wc ⟨rfl, hrc, hfc⟩; have HXc : Hid (Wr wc (px + 1) px vb (tabB L)) := HXb.out.kept hfc HXp.out.1 HXp.out.2; have HBc : Hid (Below w.heap.size w wc) := HBb.out.trans (hfc.below HBb.out.size (fun k hk => by have := HPr.out; omega)))
              | (go_at_call 22; refine (wall_any HXc.out).mono ?_; rintro r wc ⟨rfl, rfl⟩))
            go_ret
            exact ⟨by simp, HBc.out⟩

end Go.Proofs.Ytdnakakichblgaa
