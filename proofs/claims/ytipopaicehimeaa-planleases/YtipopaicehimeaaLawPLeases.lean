/- PlanLeases: leases are renewed, and are over behind so many ticks. -/
import Derived.Test.YtipopaicehimeaaLawPL3
namespace Go.Proofs.Ytipopaicehimeaa
open Go.RowKit Go.Maps
attribute [local go_sem] Oper.semAt_some
set_option linter.unusedSimpArgs false in
set_option linter.unusedVariables false in
set_option maxRecDepth 100000 in
set_option maxHeartbeats 16000000 in
theorem law_pleases {w : World} {v : Value} {X : List Ac} (long now : Int) (h : GS ae w v X) (ho : ∀ x ∈ X, x.ok) (hnow : I6 now) (hXl : X.length ≤ 140737488355328) : Calls Try.prog 4 #[.int .i64 long, v, .int .i64 now] w fun r w' => r = .returned (.bool true) ∧ Below w.heap.size w w' := by
  have HX : Hid (GS ae w v X) := h
  obtain ⟨lo, lc, rfl, _⟩ := h.shape
  have HO : Hid (∀ x ∈ X, x.ok) := ho
  have HNow : Hid (I6 now) := hnow
  clear h ho hnow
  by_cases hbad : long < 1 ∨ 1048576 < long
  · have hN := lnew_bad long w hbad
    have hA := awake16 w
    by_cases hb1 : long < 1
    · clear hbad
      go_enter Try.func4, Try.ntmps4
      go_wp2_with (first
        | (go_at_call 12; refine hN.mono ?_; rintro r w ⟨rfl, rfl⟩)
        | (go_at_call 8; refine hA.mono ?_; rintro r w1 ⟨rfl, hb1⟩))
      go_ret
      exact ⟨rfl, hb1⟩
    · have hb2 : 1048576 < long := by omega
      clear hbad
      go_enter Try.func4, Try.ntmps4
      go_wp2_with (first
        | (go_at_call 12; refine hN.mono ?_; rintro r w ⟨rfl, rfl⟩)
        | (go_at_call 8; refine hA.mono ?_; rintro r w1 ⟨rfl, hb1⟩))
      go_ret
      exact ⟨rfl, hb1⟩
  have hl1 : 1 ≤ long := by omega
  have hl2 : long ≤ 1048576 := by omega
  have HLo : Hid (1 ≤ long ∧ long ≤ 1048576) := ⟨hl1, hl2⟩
  clear hbad
  have hN := lnew_ok long w hl1 hl2
  go_enter Try.func4, Try.ntmps4
  go_upto_region 2 with (go_at_call 12; refine hN.mono ?_; rintro r w1 ⟨rfl, hA1, hb1⟩)
  have HA1 : Hid (LA w1 w.heap.size w.heap.size long none []) := hA1
  have HB1 : Hid (Below w.heap.size w w1) := hb1
  clear hN hA1 hb1
  obtain ⟨p, hp⟩ : ∃ p, w.heap.size = p := ⟨_, rfl⟩
  have HA1 : Hid (LA w1 w.heap.size p long none []) := by rw [← hp]; exact HA1.out
  rw [hp]
  clear hp
  have hAw := awake16 w1
  go_upto_region 7 with (go_at_call 8; refine hAw.mono ?_; rintro r w2 ⟨rfl, hb2⟩)
  generalize hW : World.alloc _ _ = w3
  have b3 : Below w2.heap.size w2 w3 := by rw [← hW]; exact gone_new _ _
  have hg3 : w3.heap[w2.heap.size]? = some (.cells #[] 38 (0, 0)) := by rw [← hW]; exact heap_alloc_new _ _
  have HB2 : Hid (Below w.heap.size w w2) := HB1.out.trans (hb2.mono HB1.out.size)
  have HB3 : Hid (Below w.heap.size w w3) := HB2.out.trans (b3.mono HB2.out.size)
  have HA3 : Hid (LA w3 w.heap.size p long none []) := (HA1.out.new hb2).new b3
  have HM3 : Hid (LO w3 w.heap.size (.slice (some ⟨w2.heap.size, 0, none⟩) 0 0) []) := GO.lower (GO.made hg3) HB2.out.size
  clear hW b3 hg3 hb2 hAw HA1 HB1 HB2
  generalize w2.heap.size = g0 at HM3 ⊢
  go_wp2
  go_loopw [9, 10] (fun mv i wr => ∃ (j : Nat) (M : List Lz) (mb : Option Nat) (ao : Option Addr) (c : Nat), j ≤ X.length ∧ j ≤ 60 ∧ mv = .slice ao M.length c ∧ i = .int .i64 j ∧ Hid (LA wr w.heap.size p long mb M) ∧ Hid (LO wr w.heap.size (.slice ao M.length c) M) ∧ Hid (M.length ≤ j ∧ ∀ y ∈ M, y.ok) ∧ Hid (Below w.heap.size w wr)) (fun _ i _ => X.length - (intOf i).toNat)
  case atStart => exact ⟨0, [], none, _, 0, Nat.zero_le _, Nat.zero_le _, rfl, rfl, HA3, HM3, ⟨Nat.le_refl _, fun y hy => by cases hy⟩, HB3⟩
  case round =>
    clear HA3 HM3 HB3
    obtain ⟨j, M, mb, ao, c, hj, hj2, rfl, rfl, HA, HM, HMj, HB⟩ := hrel
    have HJ : Hid (j ≤ X.length ∧ j ≤ 60) := ⟨hj, hj2⟩
    by_cases hlt : j < X.length ∧ j < 60
    · obtain ⟨hlt, hlt2⟩ := hlt
      have HLt : Hid (j < X.length ∧ j < 60) := ⟨hlt, hlt2⟩
      obtain ⟨b0, o0, rfl, hc⟩ := GS.at_ ae_len HX.out j hlt
      have d0 := gnew_cell HB.out (hc 0 (.int .i64 X[j].d) (by decide) rfl)
      have d1 := gnew_cell HB.out (hc 1 (.int .i64 X[j].k) (by decide) rfl)
      have d2 := gnew_cell HB.out (hc 2 (.int .i64 X[j].l) (by decide) rfl)
      have d3 := gnew_cell HB.out (hc 3 (.int .i64 X[j].t) (by decide) rfl)
      have HXo : Hid (X[j].ok) := HO.out _ (List.getElem_mem hlt)
      generalize X[j] = x at d0 d1 d2 d3 HXo
      rw [Nat.add_zero] at d0
      rw [← Nat.add_assoc] at d1 d2 d3
      have hjn : (j : Int) < X.length := by omega
      have hj3 : (j : Int) < 60 := by omega
      clear hc
      rename World => wo
      go_upto_region 11 with (fail)
      generalize hW : World.alloc _ _ = W
      have bW : Below wo.heap.size wo W := by rw [← hW]; exact gone_new _ _
      have hZ : W.heap[wo.heap.size]? = some (.cells #[.int .i64 x.d, .int .i64 x.k, .int .i64 x.l, .int .i64 x.t] 36 (0, 0)) := by rw [← hW]; exact heap_alloc_new _ _
      have HA2 : Hid (LA W w.heap.size p long mb M) := HA.out.new bW
      have HM2 : Hid (LO W w.heap.size (.slice ao M.length c) M) := GO.new HM.out bW
      have HB2 : Hid (Below w.heap.size w W) := HB.out.trans (bW.mono HB.out.size)
      have HXq : Hid (p < wo.heap.size ∧ ∀ b, mb = some b → b < wo.heap.size) := ⟨HA.out.lt, fun b e => by subst e; exact HA.out.mp.2.2.lt⟩
      have HXr : Hid (∀ k, (Value.slice ao M.length c).ownBlock = some k → k < wo.heap.size) := fun k hk => (GO.lt HM.out k hk).2
      have HXw : Hid (w.heap.size ≤ wo.heap.size) := HB.out.size
      clear hW bW d0 d1 d2 d3 HA HM HB
      generalize wo.heap.size = q at hZ HXq HXr HXw ⊢
      have HZ : Hid (W.heap[q]? = some (.cells #[.int .i64 x.d, .int .i64 x.k, .int .i64 x.l, .int .i64 x.t] 36 (0, 0))) := hZ
      clear hZ
      have hMl : M.length ≤ 60 := by have := HMj.out.1; have := HJ.out.2; omega
      go_wp2
      go_loopw [12, 13] (fun av kv wr => ∃ (n q2 : Nat) (a : Int), n ≤ M.length ∧ kv = .int .i64 n ∧ av = .int .i64 a ∧ Hid (AtI M x.k n a) ∧ Hid (wr = W.drewN q2)) (fun _ kv _ => M.length - (intOf kv).toNat)
      case atStart => exact ⟨0, 0, -1, Nat.zero_le _, rfl, rfl, .inl ⟨rfl, fun i _ hi => by omega⟩, rfl⟩
      case round =>
        obtain ⟨n, q2, a, hn, rfl, rfl, HAt, HQ⟩ := hrel
        have HZw : Hid (wr.heap[q]? = some (.cells #[.int .i64 x.d, .int .i64 x.k, .int .i64 x.l, .int .i64 x.t] 36 (0, 0))) := by show _ = _; rw [HQ.out]; exact HZ.out
        obtain ⟨z0, z1, z2, z3⟩ := gbox4 HZw.out
        by_cases hnl : n < M.length
        · have HNl : Hid (n < M.length) := hnl
          obtain ⟨ao', c', hsh, _, hg⟩ := GO.shape HM2.out
          cases hsh
          obtain ⟨g, rfl⟩ := hg (by omega)
          obtain ⟨m0, _, _⟩ := LO.at_ HM2.out n hnl
          have m0 : wr.cell? ⟨g, n * 3, none⟩ = some (.int .i64 M[n].k) := by rw [HQ.out]; exact m0
          have HNo : Hid (M[n].k ≠ x.k → AtI M x.k (n + 1) a) := fun h => HAt.out.no hnl h
          have HYes : Hid (M[n].k = x.k → AtI M x.k (n + 1) n) := fun h => .inr ⟨n, hnl, by omega, rfl, h⟩
          generalize M[n].k = y at m0 HNo HYes
          clear hg
          by_cases hy : y = x.k
          · have HAt2 : Hid (AtI M x.k (n + 1) n) := HYes.out hy
            rw [hy] at m0
            clear HNo HYes hy
            go_wp2
            go_quiet (fail)
            go_wp2
            go_roundw
            case rel => exact ⟨n + 1, _, n, HNl.out, by go_num, rfl, HAt2, by rw [HQ.out]; exact (World.drewN_drewN _ _ _)⟩
            case measure => have := HNl.out; simp [intOf]; omega
          · have HAt2 : Hid (AtI M x.k (n + 1) a) := HNo.out hy
            have hyf : (y == x.k) = false := by simpa using hy
            clear HNo HYes
            go_wp2
            go_quiet (fail)
            go_wp2
            go_roundw
            case rel => exact ⟨n + 1, _, a, HNl.out, by go_num, rfl, HAt2, by rw [HQ.out]; exact (World.drewN_drewN _ _ _)⟩
            case measure => have := HNl.out; simp [intOf]; omega
        · obtain rfl : n = M.length := by omega
          have HA3 : Hid (LA wr w.heap.size p long mb M) := by show LA _ _ _ _ _ _; rw [HQ.out]; exact HA2.out.new (below_drewN (Below.refl _ _) q2)
          have HM3 : Hid (LO wr w.heap.size (.slice ao M.length c) M) := by show LO _ _ _ _; rw [HQ.out]; exact HM2.out
          have HB3 : Hid (Below w.heap.size w wr) := by show Below _ _ _; rw [HQ.out]; exact below_drewN HB2.out q2
          have HEnd := HAt.out.end_
          clear hnl HA2 HM2 HB2 HZ HQ HAt
          rcases HEnd with ⟨rfl, hgn⟩ | ⟨i, hi, rfl, hix⟩
          · have HG : Hid (getL M x.k = none) := hgn
            clear hgn
            by_cases hd : x.d = 3
            · rw [hd] at z0
              have hDr := ldrop HA3.out HXo.out.1 (M' := M) HA3.out.nod HMj.out.2 (fun z => by split; (next e => rw [e]; exact HG.out); rfl)
              rw [HG.out] at hDr
              simp only [Option.isSome_none] at hDr
              clear hd
              go_wp2_with (go_at_call 13; refine hDr.mono ?_; rintro r w4 ⟨rfl, mb4, hA4, hf4⟩)
              have HM4 : Hid (LO w4 w.heap.size (.slice ao M.length c) M) := LO.past HA3.out HM3.out hf4
              have HB4 : Hid (Below w.heap.size w w4) := LTo.below hf4 HA3.out HB3.out
              go_roundw
              case rel => exact ⟨j + 1, M, mb4, ao, c, by have := HLt.out; omega, by have := HLt.out; omega, rfl, by go_num, hA4, HM4, ⟨by have := HMj.out.1; omega, HMj.out.2⟩, HB4⟩
              case measure => have := HLt.out; simp [intOf]; omega
            · have hdf : (x.d == 3) = false := by simpa using hd
              have HYo : Hid (Lz.ok (Lz.mk x.k x.l x.t)) := HXo.out
              have HSg := snoc_get (y := Lz.mk x.k x.l x.t) HA3.out.nod HG.out
              have HSg2 : Hid (((M ++ [(Lz.mk x.k x.l x.t)]).map (·.k)).Nodup ∧ ∀ z, getL (M ++ [(Lz.mk x.k x.l x.t)]) z = if z = x.k then some (Lz.mk x.k x.l x.t) else getL M z) := HSg
              clear HSg hd
              go_upto_region 22 with (fail)
              obtain ⟨Wd, hWd⟩ : ∃ Wd, World.drew wr = Wd := ⟨_, rfl⟩
              have y0 : Wd.cell? ⟨q, 0, none⟩ = some (.int .i64 x.d) := by rw [← hWd]; exact z0
              have HQ2 : Hid (Wd = wr.drewN 1) := by show _ = _; rw [← hWd]; rfl
              refine wp_calmP ?_
              refine wp_region_L [] (fun w' : World => w'.cell? ⟨q, 0, none⟩ = some (.int .i64 x.d)) (by kernel_rfl) ?_
              rw [hWd]
              clear hWd
              have hS : (fun w' : World => w'.cell? ⟨q, 0, none⟩ = some (.int .i64 x.d)) Wd := y0
              refine wpAnyL_take (i := 0) 92 (v := .int .i64 (-1)) rfl rfl (by kernel_rfl) (by kernel_rfl) (by kernel_rfl) (by kernel_rfl) (by kernel_rfl) (by kernel_rfl) (fun _ _ _ h => h) hS (by rfl) (by intro w' hSw; have y0 := hSw; go_simp <;> with_reducible rfl) ?_
              simp only [Act.put, List.setIfInBounds_toArray, List.set_cons_zero, List.set_cons_succ]
              refine wpAnyL_take (i := 1) 93 (v := .bool true) rfl rfl (by kernel_rfl) (by kernel_rfl) (by kernel_rfl) (by kernel_rfl) (by kernel_rfl) (by kernel_rfl) (fun _ _ _ h => h) hS (by rfl) (by intro w' hSw; have y0 := hSw; go_simp <;> with_reducible rfl) ?_
              simp only [Act.put, List.setIfInBounds_toArray, List.set_cons_zero, List.set_cons_succ]
              refine wpAnyL_take (i := 2) 94 (v := .bool true) rfl rfl (by kernel_rfl) (by kernel_rfl) (by kernel_rfl) (by kernel_rfl) (by kernel_rfl) (by kernel_rfl) (fun _ _ _ h => h) hS (by rfl) (by intro w' hSw; have y0 := hSw; go_simp <;> with_reducible rfl) ?_
              simp only [Act.put, List.setIfInBounds_toArray, List.set_cons_zero, List.set_cons_succ]
              refine wpAnyL_skip (i := 3) 95 rfl rfl (by kernel_rfl) (by kernel_rfl) (by kernel_rfl) (by kernel_rfl) (by kernel_rfl) (by kernel_rfl) (fun _ _ _ h => h) hS (by rfl) ?_
              simp only [Act.put, List.setIfInBounds_toArray, List.set_cons_zero, List.set_cons_succ]
              refine wpAnyL_skip (i := 4) 96 rfl rfl (by kernel_rfl) (by kernel_rfl) (by kernel_rfl) (by kernel_rfl) (by kernel_rfl) (by kernel_rfl) (fun _ _ _ h => h) hS (by rfl) ?_
              simp only [Act.put, List.setIfInBounds_toArray, List.set_cons_zero, List.set_cons_succ]
              refine wpAnyL_skip (i := 5) 97 rfl rfl (by kernel_rfl) (by kernel_rfl) (by kernel_rfl) (by kernel_rfl) (by kernel_rfl) (by kernel_rfl) (fun _ _ _ h => h) hS (by rfl) ?_
              simp only [Act.put, List.setIfInBounds_toArray, List.set_cons_zero, List.set_cons_succ]
              refine wpAnyL_skip (i := 6) 98 rfl rfl (by kernel_rfl) (by kernel_rfl) (by kernel_rfl) (by kernel_rfl) (by kernel_rfl) (by kernel_rfl) (fun _ _ _ h => h) hS (by rfl) ?_
              simp only [Act.put, List.setIfInBounds_toArray, List.set_cons_zero, List.set_cons_succ]
              refine wpAnyL_skip (i := 7) 99 rfl rfl (by kernel_rfl) (by kernel_rfl) (by kernel_rfl) (by kernel_rfl) (by kernel_rfl) (by kernel_rfl) (fun _ _ _ h => h) hS (by rfl) ?_
              simp only [Act.put, List.setIfInBounds_toArray, List.set_cons_zero, List.set_cons_succ]
              refine wpAnyL_skip (i := 8) 100 rfl rfl (by kernel_rfl) (by kernel_rfl) (by kernel_rfl) (by kernel_rfl) (by kernel_rfl) (by kernel_rfl) (fun _ _ _ h => h) hS (by rfl) ?_
              simp only [Act.put, List.setIfInBounds_toArray, List.set_cons_zero, List.set_cons_succ]
              refine wpAnyL_skip (i := 9) 101 rfl rfl (by kernel_rfl) (by kernel_rfl) (by kernel_rfl) (by kernel_rfl) (by kernel_rfl) (by kernel_rfl) (fun _ _ _ h => h) hS (by rfl) ?_
              simp only [Act.put, List.setIfInBounds_toArray, List.set_cons_zero, List.set_cons_succ]
              refine wpAnyL_skip (i := 10) 102 rfl rfl (by kernel_rfl) (by kernel_rfl) (by kernel_rfl) (by kernel_rfl) (by kernel_rfl) (by kernel_rfl) (fun _ _ _ h => h) hS (by rfl) ?_
              simp only [Act.put, List.setIfInBounds_toArray, List.set_cons_zero, List.set_cons_succ]
              refine wpAnyL_take (i := 11) 103 (v := .bool true) rfl rfl (by kernel_rfl) (by kernel_rfl) (by kernel_rfl) (by kernel_rfl) (by kernel_rfl) (by kernel_rfl) (fun _ _ _ h => h) hS (by rfl) (by intro w' hSw; have y0 := hSw; go_simp <;> with_reducible rfl) ?_
              simp only [Act.put, List.setIfInBounds_toArray, List.set_cons_zero, List.set_cons_succ]
              refine wpAnyL_take (i := 12) 14 (v := .bool true) rfl rfl (by kernel_rfl) (by kernel_rfl) (by kernel_rfl) (by kernel_rfl) (by kernel_rfl) (by kernel_rfl) (fun _ _ _ h => h) hS (by rfl) (by intro w' hSw; have y0 := hSw; go_simp <;> with_reducible rfl) ?_
              simp only [Act.put, List.setIfInBounds_toArray, List.set_cons_zero, List.set_cons_succ]
              refine wpAnyL_done (by kernel_rfl) ?_ _
              clear hS
              go_upto_region 23 with (fail)
              obtain ⟨We, hWe⟩ : ∃ We, World.drew Wd = We := ⟨_, rfl⟩
              have y0 : We.cell? ⟨q, 0, none⟩ = some (.int .i64 x.d) := by rw [← hWe]; exact y0
              have HQ3 : Hid (We = wr.drewN 2) := by show _ = _; rw [← hWe, HQ2.out]; rfl
              refine wp_calmP ?_
              refine wp_region_L [] (fun w' : World => w'.cell? ⟨q, 0, none⟩ = some (.int .i64 x.d)) (by kernel_rfl) ?_
              rw [hWe]
              clear hWe
              have hS : (fun w' : World => w'.cell? ⟨q, 0, none⟩ = some (.int .i64 x.d)) We := y0
              refine wpAnyL_take (i := 0) 104 (v := .int .i64 (-1)) rfl rfl (by kernel_rfl) (by kernel_rfl) (by kernel_rfl) (by kernel_rfl) (by kernel_rfl) (by kernel_rfl) (fun _ _ _ h => h) hS (by rfl) (by intro w' hSw; have y0 := hSw; go_simp <;> with_reducible rfl) ?_
              simp only [Act.put, List.setIfInBounds_toArray, List.set_cons_zero, List.set_cons_succ]
              refine wpAnyL_take (i := 1) 105 (v := .bool false) rfl rfl (by kernel_rfl) (by kernel_rfl) (by kernel_rfl) (by kernel_rfl) (by kernel_rfl) (by kernel_rfl) (fun _ _ _ h => h) hS (by rfl) (by intro w' hSw; have y0 := hSw; go_simp <;> with_reducible rfl) ?_
              simp only [Act.put, List.setIfInBounds_toArray, List.set_cons_zero, List.set_cons_succ]
              refine wpAnyL_take (i := 2) 106 (v := .bool false) rfl rfl (by kernel_rfl) (by kernel_rfl) (by kernel_rfl) (by kernel_rfl) (by kernel_rfl) (by kernel_rfl) (fun _ _ _ h => h) hS (by rfl) (by intro w' hSw; have y0 := hSw; go_simp <;> with_reducible rfl) ?_
              simp only [Act.put, List.setIfInBounds_toArray, List.set_cons_zero, List.set_cons_succ]
              refine wpAnyL_skip (i := 3) 107 rfl rfl (by kernel_rfl) (by kernel_rfl) (by kernel_rfl) (by kernel_rfl) (by kernel_rfl) (by kernel_rfl) (fun _ _ _ h => h) hS (by rfl) ?_
              simp only [Act.put, List.setIfInBounds_toArray, List.set_cons_zero, List.set_cons_succ]
              refine wpAnyL_skip (i := 4) 108 rfl rfl (by kernel_rfl) (by kernel_rfl) (by kernel_rfl) (by kernel_rfl) (by kernel_rfl) (by kernel_rfl) (fun _ _ _ h => h) hS (by rfl) ?_
              simp only [Act.put, List.setIfInBounds_toArray, List.set_cons_zero, List.set_cons_succ]
              refine wpAnyL_skip (i := 5) 109 rfl rfl (by kernel_rfl) (by kernel_rfl) (by kernel_rfl) (by kernel_rfl) (by kernel_rfl) (by kernel_rfl) (fun _ _ _ h => h) hS (by rfl) ?_
              simp only [Act.put, List.setIfInBounds_toArray, List.set_cons_zero, List.set_cons_succ]
              refine wpAnyL_skip (i := 6) 110 rfl rfl (by kernel_rfl) (by kernel_rfl) (by kernel_rfl) (by kernel_rfl) (by kernel_rfl) (by kernel_rfl) (fun _ _ _ h => h) hS (by rfl) ?_
              simp only [Act.put, List.setIfInBounds_toArray, List.set_cons_zero, List.set_cons_succ]
              refine wpAnyL_skip (i := 7) 111 rfl rfl (by kernel_rfl) (by kernel_rfl) (by kernel_rfl) (by kernel_rfl) (by kernel_rfl) (by kernel_rfl) (fun _ _ _ h => h) hS (by rfl) ?_
              simp only [Act.put, List.setIfInBounds_toArray, List.set_cons_zero, List.set_cons_succ]
              refine wpAnyL_skip (i := 8) 112 rfl rfl (by kernel_rfl) (by kernel_rfl) (by kernel_rfl) (by kernel_rfl) (by kernel_rfl) (by kernel_rfl) (fun _ _ _ h => h) hS (by rfl) ?_
              simp only [Act.put, List.setIfInBounds_toArray, List.set_cons_zero, List.set_cons_succ]
              refine wpAnyL_skip (i := 9) 113 rfl rfl (by kernel_rfl) (by kernel_rfl) (by kernel_rfl) (by kernel_rfl) (by kernel_rfl) (by kernel_rfl) (fun _ _ _ h => h) hS (by rfl) ?_
              simp only [Act.put, List.setIfInBounds_toArray, List.set_cons_zero, List.set_cons_succ]
              refine wpAnyL_skip (i := 10) 114 rfl rfl (by kernel_rfl) (by kernel_rfl) (by kernel_rfl) (by kernel_rfl) (by kernel_rfl) (by kernel_rfl) (fun _ _ _ h => h) hS (by rfl) ?_
              simp only [Act.put, List.setIfInBounds_toArray, List.set_cons_zero, List.set_cons_succ]
              refine wpAnyL_skip (i := 11) 115 rfl rfl (by kernel_rfl) (by kernel_rfl) (by kernel_rfl) (by kernel_rfl) (by kernel_rfl) (by kernel_rfl) (fun _ _ _ h => h) hS (by rfl) ?_
              simp only [Act.put, List.setIfInBounds_toArray, List.set_cons_zero, List.set_cons_succ]
              refine wpAnyL_skip (i := 12) 116 rfl rfl (by kernel_rfl) (by kernel_rfl) (by kernel_rfl) (by kernel_rfl) (by kernel_rfl) (by kernel_rfl) (fun _ _ _ h => h) hS (by rfl) ?_
              simp only [Act.put, List.setIfInBounds_toArray, List.set_cons_zero, List.set_cons_succ]
              refine wpAnyL_skip (i := 13) 117 rfl rfl (by kernel_rfl) (by kernel_rfl) (by kernel_rfl) (by kernel_rfl) (by kernel_rfl) (by kernel_rfl) (fun _ _ _ h => h) hS (by rfl) ?_
              simp only [Act.put, List.setIfInBounds_toArray, List.set_cons_zero, List.set_cons_succ]
              refine wpAnyL_skip (i := 14) 118 rfl rfl (by kernel_rfl) (by kernel_rfl) (by kernel_rfl) (by kernel_rfl) (by kernel_rfl) (by kernel_rfl) (fun _ _ _ h => h) hS (by rfl) ?_
              simp only [Act.put, List.setIfInBounds_toArray, List.set_cons_zero, List.set_cons_succ]
              refine wpAnyL_skip (i := 15) 119 rfl rfl (by kernel_rfl) (by kernel_rfl) (by kernel_rfl) (by kernel_rfl) (by kernel_rfl) (by kernel_rfl) (fun _ _ _ h => h) hS (by rfl) ?_
              simp only [Act.put, List.setIfInBounds_toArray, List.set_cons_zero, List.set_cons_succ]
              refine wpAnyL_skip (i := 16) 120 rfl rfl (by kernel_rfl) (by kernel_rfl) (by kernel_rfl) (by kernel_rfl) (by kernel_rfl) (by kernel_rfl) (fun _ _ _ h => h) hS (by rfl) ?_
              simp only [Act.put, List.setIfInBounds_toArray, List.set_cons_zero, List.set_cons_succ]
              refine wpAnyL_skip (i := 17) 121 rfl rfl (by kernel_rfl) (by kernel_rfl) (by kernel_rfl) (by kernel_rfl) (by kernel_rfl) (by kernel_rfl) (fun _ _ _ h => h) hS (by rfl) ?_
              simp only [Act.put, List.setIfInBounds_toArray, List.set_cons_zero, List.set_cons_succ]
              refine wpAnyL_skip (i := 18) 122 rfl rfl (by kernel_rfl) (by kernel_rfl) (by kernel_rfl) (by kernel_rfl) (by kernel_rfl) (by kernel_rfl) (fun _ _ _ h => h) hS (by rfl) ?_
              simp only [Act.put, List.setIfInBounds_toArray, List.set_cons_zero, List.set_cons_succ]
              refine wpAnyL_skip (i := 19) 123 rfl rfl (by kernel_rfl) (by kernel_rfl) (by kernel_rfl) (by kernel_rfl) (by kernel_rfl) (by kernel_rfl) (fun _ _ _ h => h) hS (by rfl) ?_
              simp only [Act.put, List.setIfInBounds_toArray, List.set_cons_zero, List.set_cons_succ]
              refine wpAnyL_skip (i := 20) 124 rfl rfl (by kernel_rfl) (by kernel_rfl) (by kernel_rfl) (by kernel_rfl) (by kernel_rfl) (by kernel_rfl) (fun _ _ _ h => h) hS (by rfl) ?_
              simp only [Act.put, List.setIfInBounds_toArray, List.set_cons_zero, List.set_cons_succ]
              refine wpAnyL_take (i := 21) 125 (v := .bool false) rfl rfl (by kernel_rfl) (by kernel_rfl) (by kernel_rfl) (by kernel_rfl) (by kernel_rfl) (by kernel_rfl) (fun _ _ _ h => h) hS (by rfl) (by intro w' hSw; have y0 := hSw; go_simp <;> with_reducible rfl) ?_
              simp only [Act.put, List.setIfInBounds_toArray, List.set_cons_zero, List.set_cons_succ]
              refine wpAnyL_take (i := 22) 15 (v := .bool false) rfl rfl (by kernel_rfl) (by kernel_rfl) (by kernel_rfl) (by kernel_rfl) (by kernel_rfl) (by kernel_rfl) (fun _ _ _ h => h) hS (by rfl) (by intro w' hSw; have y0 := hSw; go_simp <;> with_reducible rfl) ?_
              simp only [Act.put, List.setIfInBounds_toArray, List.set_cons_zero, List.set_cons_succ]
              refine wpAnyL_done (by kernel_rfl) ?_ _
              clear hS
              have HA5 : Hid (LA We w.heap.size p long mb M) := by show LA _ _ _ _ _ _; rw [HQ3.out]; exact HA3.out.new (below_drewN (Below.refl _ _) 2)
              have HM5 : Hid (LO We w.heap.size (.slice ao M.length c) M) := by show LO _ _ _ _; rw [HQ3.out]; exact HM3.out
              have HB5 : Hid (Below w.heap.size w We) := by show Below _ _ _; rw [HQ3.out]; exact below_drewN HB3.out 2
              have HZ5 : Hid (We.heap[q]? = some (.cells #[.int .i64 x.d, .int .i64 x.k, .int .i64 x.l, .int .i64 x.t] 36 (0, 0))) := by show _ = _; rw [HQ3.out]; exact HZw.out
              clear HA3 HM3 HB3 HZw HQ2 HQ3 y0 z0 z1 z2 z3
              obtain ⟨z0, z1, z2, z3⟩ := gbox4 HZ5.out
              have hRen := lrenew_put HA5.out (by omega) HYo.out (fun z hz => by rw [show getL M x.k = none from HG.out] at hz; cases hz) HSg2.out.1 (fun z hz => by rcases List.mem_append.1 hz with hz | hz; exact HMj.out.2 z hz; rw [List.mem_singleton.1 hz]; exact HYo.out) HSg2.out.2
              rw [show getL M (Lz.mk x.k x.l x.t).k = none from HG.out] at hRen
              simp only [Option.isSome_none, Bool.not_false, Bool.true_or] at hRen
              go_upto_region 26 with (go_at_call 14; refine hRen.mono ?_; rintro r w4 ⟨rfl, mb4, hA4, hf4⟩)
              have HM4 : Hid (LO w4 w.heap.size (.slice ao M.length c) M) := LO.past HA5.out HM5.out hf4
              have HB4 : Hid (Below w.heap.size w w4) := LTo.below hf4 HA5.out HB5.out
              have HZ4 : Hid (w4.heap[q]? = some (.cells #[.int .i64 x.d, .int .i64 x.k, .int .i64 x.l, .int .i64 x.t] 36 (0, 0))) := (hf4.block q (glt_blk HZ5.out) (fun e => by rcases e with e | e; (have := HXq.out.1; omega); (have := HXq.out.2 q e; omega))).trans HZ5.out
              have HA4 : Hid (LA w4 w.heap.size p long mb4 (M ++ [(Lz.mk x.k x.l x.t)])) := hA4
              clear hRen hA4 hf4 HA5 HM5 HB5 HZ5
              obtain ⟨z0, z1, z2, z3⟩ := gbox4 HZ4.out
              go_wp2_with (at_builtin; refine wpl_appG gT_lz rfl rfl rfl rfl (R := M) (S := [(Lz.mk x.k x.l x.t)]) (GO.new HM4.out (gone_new _ _)) (GS.one (heap_alloc_new _ _) rfl 1 (Nat.le_refl _)) (by simp; omega) (by have := HB4.out.size; simp; omega) ?_; intro v6 w6 ho6 hf6 _)
              have f6 : Fr w4 w6 (fun k => (Value.slice ao M.length c).ownBlock = some k) := (Fr.ofBelow (gone_new _ _) _).trans hf6 (fun _ _ h => h)
              have HA6 : Hid (LA w6 w.heap.size p long mb4 (M ++ [(Lz.mk x.k x.l x.t)])) := LA.past HA4.out HM4.out f6
              have HB6 : Hid (Below w.heap.size w w6) := HB4.out.trans (f6.below HB4.out.size (fun k hk => (GO.lt HM4.out k hk).1))
              obtain ⟨ao6, c6, rfl, _, _⟩ := GO.shape ho6
              have HM6 : Hid (LO w6 w.heap.size (.slice ao6 (M ++ [(Lz.mk x.k x.l x.t)]).length c6) (M ++ [(Lz.mk x.k x.l x.t)])) := ho6
              clear ho6 hf6 f6
              go_roundw
              case rel => exact ⟨j + 1, _, mb4, ao6, c6, by have := HLt.out; omega, by have := HLt.out; omega, rfl, by go_num, HA6, HM6, ⟨by have := HMj.out.1; simp; omega, fun z hz => by rcases List.mem_append.1 hz with hz | hz; exact HMj.out.2 z hz; rw [List.mem_singleton.1 hz]; exact HYo.out⟩, HB6⟩
              case measure => have := HLt.out; simp [intOf]; omega
          · obtain ⟨ao', c', hsh, hcl, hg⟩ := GO.shape HM3.out
            cases hsh
            obtain ⟨g, rfl⟩ := hg (by omega)
            have HI : Hid (i < M.length) := hi
            have hiM : (i : Int) < M.length := by omega
            have hi0 : 0 ≤ (i : Int) := by omega
            clear hg
            by_cases hd : x.d = 3
            · rw [hd] at z0
              have HOg := out_get HA3.out.nod hi
              rw [hix] at HOg
              have HOg2 : Hid (((M.take i ++ M.drop (i + 1)).map (·.k)).Nodup ∧ ∀ z, getL (M.take i ++ M.drop (i + 1)) z = if z = x.k then none else getL M z) := HOg
              have HOo : Hid (∀ z ∈ M.take i ++ M.drop (i + 1), z.ok) := fun z hz => by rcases List.mem_append.1 hz with hz | hz; exact HMj.out.2 z (List.mem_of_mem_take hz); exact HMj.out.2 z (List.mem_of_mem_drop hz)
              have hDr := ldrop HA3.out HXo.out.1 HOg2.out.1 HOo.out HOg2.out.2
              have hgi := get_i HA3.out.nod hi
              rw [hix] at hgi
              rw [hgi] at hDr
              simp only [Option.isSome_some] at hDr
              clear hd HOg hgi hix
              go_upto_region 21 with (go_at_call 13; refine hDr.mono ?_; rintro r w4 ⟨rfl, mb4, hA4, hf4⟩)
              have HM4 : Hid (LO w4 w.heap.size (.slice (some ⟨g, 0, none⟩) M.length c) M) := LO.past HA3.out HM3.out hf4
              have HB4 : Hid (Below w.heap.size w w4) := LTo.below hf4 HA3.out HB3.out
              obtain ⟨M2, hM2⟩ : ∃ M2, M.take i ++ M.drop (i + 1) = M2 := ⟨_, rfl⟩
              have HM2e : Hid (M.take i ++ M.drop (i + 1) = M2) := hM2
              have HA4 : Hid (LA w4 w.heap.size p long mb4 M2) := by show LA _ _ _ _ _ _; rw [← hM2]; exact hA4
              have HM2l : Hid (M2.length ≤ j ∧ ∀ y ∈ M2, y.ok) := by
                show _ ∧ _
                rw [← hM2]
                refine ⟨?_, HOo.out⟩
                have := HMj.out.1
                simp
                omega
              clear hDr hA4 hf4 hM2 HA3 HM3 HB3 HOg2 HOo z0 z1 z2 z3
              obtain ⟨Wd, hWd⟩ : ∃ Wd, World.drew w4 = Wd := ⟨_, rfl⟩
              have bd : Below w4.heap.size w4 Wd := by rw [← hWd]; exact below_drewN (Below.refl _ _) 1
              have HMd : Hid (LO Wd w.heap.size (.slice (some ⟨g, 0, none⟩) M.length c) M) := GO.new HM4.out bd
              have HAd : Hid (LA Wd w.heap.size p long mb4 M2) := HA4.out.new bd
              have HBd : Hid (Below w.heap.size w Wd) := HB4.out.trans (bd.mono HB4.out.size)
              clear bd HM4 HA4 HB4
              have srcA : ∀ P, Below Wd.heap.size Wd P → LS P (.slice (some ⟨g, 0, none⟩) i c) (M.take i) := fun P hP => LO.front (GO.new HMd.out hP) (by omega)
              have hic : i ≤ c := by omega
              have hiw : IntKind.i64.wrap ((i : Int) + 1) = (i : Int) + 1 := IntWalk.i64_in _ (by omega)
              have hi1 : 0 ≤ (i : Int) + 1 := by omega
              have hi2 : (i : Int) + 1 ≤ M.length := by omega
              have hi3 : (i : Int) ≤ (i : Int) + 1 := by omega
              by_cases hcc : c = i + 1
              · have srcB : ∀ P, Below Wd.heap.size Wd P → LS P (.slice (some ⟨g, 0, none⟩) 0 0) (M.drop (i + 1)) := fun P hP => ls_none (by omega)
                subst hcc
                refine wp_calmP ?_
                refine wp_region_L [] (fun _ : World => True) (by kernel_rfl) ?_
                rw [hWd]
                clear hWd
                have hS : (fun _ : World => True) Wd := trivial
                refine wpAnyL_take (i := 1) 83 (v := .slice (some ⟨g, 0, none⟩) M.length (i + 1)) rfl rfl (by kernel_rfl) (by kernel_rfl) (by kernel_rfl) (by kernel_rfl) (by kernel_rfl) (by kernel_rfl) (fun _ _ _ h => h) hS (by rfl) (by intro w' hSw; skip; go_simp <;> with_reducible rfl) ?_
                simp only [Act.put, List.setIfInBounds_toArray, List.set_cons_zero, List.set_cons_succ]
                refine wpAnyL_take (i := 2) 84 (v := .int .i64 i) rfl rfl (by kernel_rfl) (by kernel_rfl) (by kernel_rfl) (by kernel_rfl) (by kernel_rfl) (by kernel_rfl) (fun _ _ _ h => h) hS (by rfl) (by intro w' hSw; skip; go_simp <;> with_reducible rfl) ?_
                simp only [Act.put, List.setIfInBounds_toArray, List.set_cons_zero, List.set_cons_succ]
                refine wpAnyL_take (i := 3) 85 (v := .slice (some ⟨g, 0, none⟩) i (i + 1)) rfl rfl (by kernel_rfl) (by kernel_rfl) (by kernel_rfl) (by kernel_rfl) (by kernel_rfl) (by kernel_rfl) (fun _ _ _ h => h) hS (by rfl) (by intro w' hSw; skip; go_simp <;> with_reducible rfl) ?_
                simp only [Act.put, List.setIfInBounds_toArray, List.set_cons_zero, List.set_cons_succ]
                refine wpAnyL_take (i := 5) 87 (v := .slice (some ⟨g, 0, none⟩) M.length (i + 1)) rfl rfl (by kernel_rfl) (by kernel_rfl) (by kernel_rfl) (by kernel_rfl) (by kernel_rfl) (by kernel_rfl) (fun _ _ _ h => h) hS (by rfl) (by intro w' hSw; skip; go_simp <;> with_reducible rfl) ?_
                simp only [Act.put, List.setIfInBounds_toArray, List.set_cons_zero, List.set_cons_succ]
                refine wpAnyL_take (i := 6) 88 (v := .int .i64 i) rfl rfl (by kernel_rfl) (by kernel_rfl) (by kernel_rfl) (by kernel_rfl) (by kernel_rfl) (by kernel_rfl) (fun _ _ _ h => h) hS (by rfl) (by intro w' hSw; skip; go_simp <;> with_reducible rfl) ?_
                simp only [Act.put, List.setIfInBounds_toArray, List.set_cons_zero, List.set_cons_succ]
                refine wpAnyL_take (i := 7) 89 (v := .int .i64 ((i : Int) + 1)) rfl rfl (by kernel_rfl) (by kernel_rfl) (by kernel_rfl) (by kernel_rfl) (by kernel_rfl) (by kernel_rfl) (fun _ _ _ h => h) hS (by rfl) (by intro w' hSw; skip; go_simp <;> with_reducible rfl) ?_
                simp only [Act.put, List.setIfInBounds_toArray, List.set_cons_zero, List.set_cons_succ]
                refine wpAnyL_take (i := 8) 90 (v := .slice (some ⟨g, 0, none⟩) (M.length - (i + 1)) 0) rfl rfl (by kernel_rfl) (by kernel_rfl) (by kernel_rfl) (by kernel_rfl) (by kernel_rfl) (by kernel_rfl) (fun _ _ _ h => h) hS (by rfl) (by intro w' hSw; skip; go_simp <;> with_reducible rfl) ?_
                simp only [Act.put, List.setIfInBounds_toArray, List.set_cons_zero, List.set_cons_succ]
                refine wpAnyL_one (i := 0) (by kernel_rfl) rfl (fun Ka hKa => ?_)
                go_simp
                generalize hq1 : World.alloc _ _ = X1
                have bX1 : Below Wd.heap.size Wd X1 := by rw [← hq1]; exact gone_new _ _
                have hg1 : X1.heap[Wd.heap.size]? = some (.cells #[] 38 (0, 0)) := by rw [← hq1]; exact heap_alloc_new _ _
                have hL1 : LO X1 Wd.heap.size (.slice (some ⟨Wd.heap.size, 0, none⟩) 0 0) [] := GO.made hg1
                refine hKa.out _ _ (fun _ => trivial) ?_
                clear hKa Ka hq1
                try simp only [Act.put, List.setIfInBounds_toArray, List.set_cons_zero, List.set_cons_succ]
                refine wpAnyL_one (i := 4) (by kernel_rfl) rfl (fun Ka hKa => ?_)
                refine stp_appG gT_lz rfl (.tmp 82) (.tmp 85) rfl (R := []) (S := M.take i) rfl rfl hL1 (srcA X1 bX1) (by simp; omega) bX1.size ?_
                intro v2 X2 hL2 hf2 hr2
                obtain ⟨LA2, eA⟩ : ∃ LA2, [] ++ M.take i = LA2 := ⟨_, rfl⟩
                have HLA : Hid ([] ++ M.take i = LA2) := eA
                have hLA : LA2.length ≤ 60 := by rw [← eA]; simp; omega
                rw [eA] at hL2
                clear eA
                have bX2 : Below Wd.heap.size Wd X2 := bX1.trans (hf2.below bX1.size (fun k hk => (GO.lt hL1 k hk).1))
                obtain ⟨ao2, c2, rfl, _, _⟩ := GO.shape hL2
                refine hKa.out _ _ (fun _ => trivial) ?_
                clear hKa Ka
                try simp only [Act.put, List.setIfInBounds_toArray, List.set_cons_zero, List.set_cons_succ]
                refine wpAnyL_one (i := 9) (by kernel_rfl) rfl (fun Ka hKa => ?_)
                refine stp_appG gT_lz rfl (.tmp 86) (.tmp 90) rfl (R := LA2) (S := M.drop (i + 1)) rfl rfl hL2 (srcB X2 bX2) (by simp; omega) bX2.size ?_
                intro v3 X3 hL3 hf3 hr3
                have eM : LA2 ++ M.drop (i + 1) = M2 := by rw [← HM2e.out, ← HLA.out]; simp
                rw [eM] at hL3
                clear eM
                have bX3 : Below Wd.heap.size Wd X3 := bX2.trans (hf3.below bX2.size (fun k hk => (GO.lt hL2 k hk).1))
                obtain ⟨ao3, c3, rfl, _, _⟩ := GO.shape hL3
                refine hKa.out _ _ (fun _ => trivial) ?_
                clear hKa Ka
                try simp only [Act.put, List.setIfInBounds_toArray, List.set_cons_zero, List.set_cons_succ]
                refine wpAnyL_take (i := 10) 9 (v := .slice ao3 M2.length c3) rfl rfl (by kernel_rfl) (by kernel_rfl) (by kernel_rfl) (by kernel_rfl) (by kernel_rfl) (by kernel_rfl) (fun _ _ _ h => h) trivial (by rfl) (by intro w' hSw; go_simp <;> with_reducible rfl) ?_
                simp only [Act.put, List.setIfInBounds_toArray, List.set_cons_zero, List.set_cons_succ]
                refine wpAnyL_done (by kernel_rfl) ?_ _
                have HM6 : Hid (LO X3 w.heap.size (.slice ao3 M2.length c3) M2) := GO.lower hL3 HBd.out.size
                have HA6 : Hid (LA X3 w.heap.size p long mb4 M2) := HAd.out.new bX3
                have HB6 : Hid (Below w.heap.size w X3) := HBd.out.trans (bX3.mono HBd.out.size)
                clear hL1 hL2 hL3 bX1 bX2 bX3 hf2 hf3 hr2 hr3 hg1
                go_wp2
                go_roundw
                case rel => exact ⟨j + 1, M2, mb4, ao3, c3, by have := HLt.out; omega, by have := HLt.out; omega, rfl, by go_num, HA6, HM6, ⟨by have := HM2l.out.1; omega, HM2l.out.2⟩, HB6⟩
                case measure => have := HLt.out; simp [intOf]; omega
              · have srcB : ∀ P, Below Wd.heap.size Wd P → LS P (.slice (some ⟨g, (i + 1) * 3, none⟩) (M.length - (i + 1)) (c - (i + 1))) (M.drop (i + 1)) := fun P hP => LO.back (GO.new HMd.out hP) (by omega)
                have hic1 : i + 1 ≤ M.length := by omega
                have hic2 : i + 1 ≤ c := by omega
                refine wp_calmP ?_
                refine wp_region_L [] (fun _ : World => True) (by kernel_rfl) ?_
                rw [hWd]
                clear hWd
                have hS : (fun _ : World => True) Wd := trivial
                refine wpAnyL_take (i := 1) 83 (v := .slice (some ⟨g, 0, none⟩) M.length (c)) rfl rfl (by kernel_rfl) (by kernel_rfl) (by kernel_rfl) (by kernel_rfl) (by kernel_rfl) (by kernel_rfl) (fun _ _ _ h => h) hS (by rfl) (by intro w' hSw; skip; go_simp <;> with_reducible rfl) ?_
                simp only [Act.put, List.setIfInBounds_toArray, List.set_cons_zero, List.set_cons_succ]
                refine wpAnyL_take (i := 2) 84 (v := .int .i64 i) rfl rfl (by kernel_rfl) (by kernel_rfl) (by kernel_rfl) (by kernel_rfl) (by kernel_rfl) (by kernel_rfl) (fun _ _ _ h => h) hS (by rfl) (by intro w' hSw; skip; go_simp <;> with_reducible rfl) ?_
                simp only [Act.put, List.setIfInBounds_toArray, List.set_cons_zero, List.set_cons_succ]
                refine wpAnyL_take (i := 3) 85 (v := .slice (some ⟨g, 0, none⟩) i (c)) rfl rfl (by kernel_rfl) (by kernel_rfl) (by kernel_rfl) (by kernel_rfl) (by kernel_rfl) (by kernel_rfl) (fun _ _ _ h => h) hS (by rfl) (by intro w' hSw; skip; go_simp <;> with_reducible rfl) ?_
                simp only [Act.put, List.setIfInBounds_toArray, List.set_cons_zero, List.set_cons_succ]
                refine wpAnyL_take (i := 5) 87 (v := .slice (some ⟨g, 0, none⟩) M.length (c)) rfl rfl (by kernel_rfl) (by kernel_rfl) (by kernel_rfl) (by kernel_rfl) (by kernel_rfl) (by kernel_rfl) (fun _ _ _ h => h) hS (by rfl) (by intro w' hSw; skip; go_simp <;> with_reducible rfl) ?_
                simp only [Act.put, List.setIfInBounds_toArray, List.set_cons_zero, List.set_cons_succ]
                refine wpAnyL_take (i := 6) 88 (v := .int .i64 i) rfl rfl (by kernel_rfl) (by kernel_rfl) (by kernel_rfl) (by kernel_rfl) (by kernel_rfl) (by kernel_rfl) (fun _ _ _ h => h) hS (by rfl) (by intro w' hSw; skip; go_simp <;> with_reducible rfl) ?_
                simp only [Act.put, List.setIfInBounds_toArray, List.set_cons_zero, List.set_cons_succ]
                refine wpAnyL_take (i := 7) 89 (v := .int .i64 ((i : Int) + 1)) rfl rfl (by kernel_rfl) (by kernel_rfl) (by kernel_rfl) (by kernel_rfl) (by kernel_rfl) (by kernel_rfl) (fun _ _ _ h => h) hS (by rfl) (by intro w' hSw; skip; go_simp <;> with_reducible rfl) ?_
                simp only [Act.put, List.setIfInBounds_toArray, List.set_cons_zero, List.set_cons_succ]
                refine wpAnyL_take (i := 8) 90 (v := .slice (some ⟨g, (i + 1) * 3, none⟩) (M.length - (i + 1)) (c - (i + 1))) rfl rfl (by kernel_rfl) (by kernel_rfl) (by kernel_rfl) (by kernel_rfl) (by kernel_rfl) (by kernel_rfl) (fun _ _ _ h => h) hS (by rfl) (by intro w' hSw; skip; go_simp <;> with_reducible rfl) ?_
                simp only [Act.put, List.setIfInBounds_toArray, List.set_cons_zero, List.set_cons_succ]
                refine wpAnyL_one (i := 0) (by kernel_rfl) rfl (fun Ka hKa => ?_)
                go_simp
                generalize hq1 : World.alloc _ _ = X1
                have bX1 : Below Wd.heap.size Wd X1 := by rw [← hq1]; exact gone_new _ _
                have hg1 : X1.heap[Wd.heap.size]? = some (.cells #[] 38 (0, 0)) := by rw [← hq1]; exact heap_alloc_new _ _
                have hL1 : LO X1 Wd.heap.size (.slice (some ⟨Wd.heap.size, 0, none⟩) 0 0) [] := GO.made hg1
                refine hKa.out _ _ (fun _ => trivial) ?_
                clear hKa Ka hq1
                try simp only [Act.put, List.setIfInBounds_toArray, List.set_cons_zero, List.set_cons_succ]
                refine wpAnyL_one (i := 4) (by kernel_rfl) rfl (fun Ka hKa => ?_)
                refine stp_appG gT_lz rfl (.tmp 82) (.tmp 85) rfl (R := []) (S := M.take i) rfl rfl hL1 (srcA X1 bX1) (by simp; omega) bX1.size ?_
                intro v2 X2 hL2 hf2 hr2
                obtain ⟨LA2, eA⟩ : ∃ LA2, [] ++ M.take i = LA2 := ⟨_, rfl⟩
                have HLA : Hid ([] ++ M.take i = LA2) := eA
                have hLA : LA2.length ≤ 60 := by rw [← eA]; simp; omega
                rw [eA] at hL2
                clear eA
                have bX2 : Below Wd.heap.size Wd X2 := bX1.trans (hf2.below bX1.size (fun k hk => (GO.lt hL1 k hk).1))
                obtain ⟨ao2, c2, rfl, _, _⟩ := GO.shape hL2
                refine hKa.out _ _ (fun _ => trivial) ?_
                clear hKa Ka
                try simp only [Act.put, List.setIfInBounds_toArray, List.set_cons_zero, List.set_cons_succ]
                refine wpAnyL_one (i := 9) (by kernel_rfl) rfl (fun Ka hKa => ?_)
                refine stp_appG gT_lz rfl (.tmp 86) (.tmp 90) rfl (R := LA2) (S := M.drop (i + 1)) rfl rfl hL2 (srcB X2 bX2) (by simp; omega) bX2.size ?_
                intro v3 X3 hL3 hf3 hr3
                have eM : LA2 ++ M.drop (i + 1) = M2 := by rw [← HM2e.out, ← HLA.out]; simp
                rw [eM] at hL3
                clear eM
                have bX3 : Below Wd.heap.size Wd X3 := bX2.trans (hf3.below bX2.size (fun k hk => (GO.lt hL2 k hk).1))
                obtain ⟨ao3, c3, rfl, _, _⟩ := GO.shape hL3
                refine hKa.out _ _ (fun _ => trivial) ?_
                clear hKa Ka
                try simp only [Act.put, List.setIfInBounds_toArray, List.set_cons_zero, List.set_cons_succ]
                refine wpAnyL_take (i := 10) 9 (v := .slice ao3 M2.length c3) rfl rfl (by kernel_rfl) (by kernel_rfl) (by kernel_rfl) (by kernel_rfl) (by kernel_rfl) (by kernel_rfl) (fun _ _ _ h => h) trivial (by rfl) (by intro w' hSw; go_simp <;> with_reducible rfl) ?_
                simp only [Act.put, List.setIfInBounds_toArray, List.set_cons_zero, List.set_cons_succ]
                refine wpAnyL_done (by kernel_rfl) ?_ _
                have HM6 : Hid (LO X3 w.heap.size (.slice ao3 M2.length c3) M2) := GO.lower hL3 HBd.out.size
                have HA6 : Hid (LA X3 w.heap.size p long mb4 M2) := HAd.out.new bX3
                have HB6 : Hid (Below w.heap.size w X3) := HBd.out.trans (bX3.mono HBd.out.size)
                clear hL1 hL2 hL3 bX1 bX2 bX3 hf2 hf3 hr2 hr3 hg1
                go_wp2
                go_roundw
                case rel => exact ⟨j + 1, M2, mb4, ao3, c3, by have := HLt.out; omega, by have := HLt.out; omega, rfl, by go_num, HA6, HM6, ⟨by have := HM2l.out.1; omega, HM2l.out.2⟩, HB6⟩
                case measure => have := HLt.out; simp [intOf]; omega
            · have hdf : (x.d == 3) = false := by simpa using hd
              have HYo : Hid (Lz.ok (Lz.mk x.k x.l x.t)) := HXo.out
              have HSg := set_get (y := Lz.mk x.k x.l x.t) HA3.out.nod hi hix.symm
              have HSg2 : Hid (((M.set i (Lz.mk x.k x.l x.t)).map (·.k)).Nodup ∧ ∀ z, getL (M.set i (Lz.mk x.k x.l x.t)) z = if z = x.k then some (Lz.mk x.k x.l x.t) else getL M z) := HSg
              have hgi := get_i HA3.out.nod hi
              rw [hix] at hgi
              obtain ⟨m0, m1, m2⟩ := LO.at_ HM3.out i hi
              have HGi : Hid (getL M x.k = some M[i]) := hgi
              generalize M[i] = y at m0 m1 m2 HGi
              clear HSg hd hgi hix
              obtain ⟨ot, hot⟩ : ∃ ot, (y.l != x.l) = ot := ⟨_, rfl⟩
              go_upto_region 22 with (fail)
              obtain ⟨Wd, hWd⟩ : ∃ Wd, World.drew wr = Wd := ⟨_, rfl⟩
              have y0 : Wd.cell? ⟨g, i * 3 + 1, none⟩ = some (.int .i64 y.l) := by rw [← hWd]; exact m1
              have y1 : Wd.cell? ⟨g, i * 3 + 2, none⟩ = some (.int .i64 y.t) := by rw [← hWd]; exact m2
              have y2 : Wd.cell? ⟨q, 2, none⟩ = some (.int .i64 x.l) := by rw [← hWd]; exact z2
              have y3 : Wd.cell? ⟨q, 3, none⟩ = some (.int .i64 x.t) := by rw [← hWd]; exact z3
              have HQ2 : Hid (Wd = wr.drewN 1) := by show _ = _; rw [← hWd]; rfl
              refine wp_calmP ?_
              refine wp_region_L [] (fun w' : World => w'.cell? ⟨g, i * 3 + 1, none⟩ = some (.int .i64 y.l) ∧ w'.cell? ⟨g, i * 3 + 2, none⟩ = some (.int .i64 y.t) ∧ w'.cell? ⟨q, 2, none⟩ = some (.int .i64 x.l) ∧ w'.cell? ⟨q, 3, none⟩ = some (.int .i64 x.t)) (by kernel_rfl) ?_
              rw [hWd]
              clear hWd
              have hS : (fun w' : World => w'.cell? ⟨g, i * 3 + 1, none⟩ = some (.int .i64 y.l) ∧ w'.cell? ⟨g, i * 3 + 2, none⟩ = some (.int .i64 y.t) ∧ w'.cell? ⟨q, 2, none⟩ = some (.int .i64 x.l) ∧ w'.cell? ⟨q, 3, none⟩ = some (.int .i64 x.t)) Wd := ⟨y0, y1, y2, y3⟩
              refine wpAnyL_take (i := 0) 92 (v := .int .i64 i) rfl rfl (by kernel_rfl) (by kernel_rfl) (by kernel_rfl) (by kernel_rfl) (by kernel_rfl) (by kernel_rfl) (fun _ _ _ h => h) hS (by rfl) (by intro w' hSw; obtain ⟨y0, y1, y2, y3⟩ := hSw; go_simp <;> with_reducible rfl) ?_
              simp only [Act.put, List.setIfInBounds_toArray, List.set_cons_zero, List.set_cons_succ]
              refine wpAnyL_take (i := 1) 93 (v := .bool false) rfl rfl (by kernel_rfl) (by kernel_rfl) (by kernel_rfl) (by kernel_rfl) (by kernel_rfl) (by kernel_rfl) (fun _ _ _ h => h) hS (by rfl) (by intro w' hSw; obtain ⟨y0, y1, y2, y3⟩ := hSw; go_simp <;> with_reducible rfl) ?_
              simp only [Act.put, List.setIfInBounds_toArray, List.set_cons_zero, List.set_cons_succ]
              refine wpAnyL_take (i := 2) 94 (v := .bool false) rfl rfl (by kernel_rfl) (by kernel_rfl) (by kernel_rfl) (by kernel_rfl) (by kernel_rfl) (by kernel_rfl) (fun _ _ _ h => h) hS (by rfl) (by intro w' hSw; obtain ⟨y0, y1, y2, y3⟩ := hSw; go_simp <;> with_reducible rfl) ?_
              simp only [Act.put, List.setIfInBounds_toArray, List.set_cons_zero, List.set_cons_succ]
              refine wpAnyL_take (i := 3) 95 (v := .slice (some ⟨g, 0, none⟩) M.length c) rfl rfl (by kernel_rfl) (by kernel_rfl) (by kernel_rfl) (by kernel_rfl) (by kernel_rfl) (by kernel_rfl) (fun _ _ _ h => h) hS (by rfl) (by intro w' hSw; obtain ⟨y0, y1, y2, y3⟩ := hSw; go_simp <;> with_reducible rfl) ?_
              simp only [Act.put, List.setIfInBounds_toArray, List.set_cons_zero, List.set_cons_succ]
              refine wpAnyL_take (i := 4) 96 (v := .int .i64 i) rfl rfl (by kernel_rfl) (by kernel_rfl) (by kernel_rfl) (by kernel_rfl) (by kernel_rfl) (by kernel_rfl) (fun _ _ _ h => h) hS (by rfl) (by intro w' hSw; obtain ⟨y0, y1, y2, y3⟩ := hSw; go_simp <;> with_reducible rfl) ?_
              simp only [Act.put, List.setIfInBounds_toArray, List.set_cons_zero, List.set_cons_succ]
              refine wpAnyL_take (i := 5) 97 (v := .pointer (some ⟨g, i * 3, none⟩)) rfl rfl (by kernel_rfl) (by kernel_rfl) (by kernel_rfl) (by kernel_rfl) (by kernel_rfl) (by kernel_rfl) (fun _ _ _ h => h) hS (by rfl) (by intro w' hSw; obtain ⟨y0, y1, y2, y3⟩ := hSw; go_simp <;> with_reducible rfl) ?_
              simp only [Act.put, List.setIfInBounds_toArray, List.set_cons_zero, List.set_cons_succ]
              refine wpAnyL_take (i := 6) 98 (v := .pointer (some ⟨g, i * 3 + 1, none⟩)) rfl rfl (by kernel_rfl) (by kernel_rfl) (by kernel_rfl) (by kernel_rfl) (by kernel_rfl) (by kernel_rfl) (fun _ _ _ h => h) hS (by rfl) (by intro w' hSw; obtain ⟨y0, y1, y2, y3⟩ := hSw; go_simp <;> with_reducible rfl) ?_
              simp only [Act.put, List.setIfInBounds_toArray, List.set_cons_zero, List.set_cons_succ]
              refine wpAnyL_take (i := 7) 99 (v := .int .i64 y.l) rfl rfl (by kernel_rfl) (by kernel_rfl) (by kernel_rfl) (by kernel_rfl) (by kernel_rfl) (by kernel_rfl) (fun _ _ _ h => h) hS (by rfl) (by intro w' hSw; obtain ⟨y0, y1, y2, y3⟩ := hSw; go_simp <;> with_reducible rfl) ?_
              simp only [Act.put, List.setIfInBounds_toArray, List.set_cons_zero, List.set_cons_succ]
              refine wpAnyL_take (i := 8) 100 (v := .pointer (some ⟨q, 2, none⟩)) rfl rfl (by kernel_rfl) (by kernel_rfl) (by kernel_rfl) (by kernel_rfl) (by kernel_rfl) (by kernel_rfl) (fun _ _ _ h => h) hS (by rfl) (by intro w' hSw; obtain ⟨y0, y1, y2, y3⟩ := hSw; go_simp <;> with_reducible rfl) ?_
              simp only [Act.put, List.setIfInBounds_toArray, List.set_cons_zero, List.set_cons_succ]
              refine wpAnyL_take (i := 9) 101 (v := .int .i64 x.l) rfl rfl (by kernel_rfl) (by kernel_rfl) (by kernel_rfl) (by kernel_rfl) (by kernel_rfl) (by kernel_rfl) (fun _ _ _ h => h) hS (by rfl) (by intro w' hSw; obtain ⟨y0, y1, y2, y3⟩ := hSw; go_simp <;> with_reducible rfl) ?_
              simp only [Act.put, List.setIfInBounds_toArray, List.set_cons_zero, List.set_cons_succ]
              refine wpAnyL_take (i := 10) 102 (v := .bool ot) rfl rfl (by kernel_rfl) (by kernel_rfl) (by kernel_rfl) (by kernel_rfl) (by kernel_rfl) (by kernel_rfl) (fun _ _ _ h => h) hS (by rfl) (by intro w' hSw; obtain ⟨y0, y1, y2, y3⟩ := hSw; go_simp <;> with_reducible rfl) ?_
              simp only [Act.put, List.setIfInBounds_toArray, List.set_cons_zero, List.set_cons_succ]
              refine wpAnyL_take (i := 11) 103 (v := .bool ot) rfl rfl (by kernel_rfl) (by kernel_rfl) (by kernel_rfl) (by kernel_rfl) (by kernel_rfl) (by kernel_rfl) (fun _ _ _ h => h) hS (by rfl) (by intro w' hSw; obtain ⟨y0, y1, y2, y3⟩ := hSw; go_simp <;> with_reducible rfl) ?_
              simp only [Act.put, List.setIfInBounds_toArray, List.set_cons_zero, List.set_cons_succ]
              refine wpAnyL_take (i := 12) 14 (v := .bool ot) rfl rfl (by kernel_rfl) (by kernel_rfl) (by kernel_rfl) (by kernel_rfl) (by kernel_rfl) (by kernel_rfl) (fun _ _ _ h => h) hS (by rfl) (by intro w' hSw; obtain ⟨y0, y1, y2, y3⟩ := hSw; go_simp <;> with_reducible rfl) ?_
              simp only [Act.put, List.setIfInBounds_toArray, List.set_cons_zero, List.set_cons_succ]
              refine wpAnyL_done (by kernel_rfl) ?_ _
              clear hS
              go_upto_region 23 with (fail)
              obtain ⟨We, hWe⟩ : ∃ We, World.drew Wd = We := ⟨_, rfl⟩
              have y0 : We.cell? ⟨g, i * 3 + 1, none⟩ = some (.int .i64 y.l) := by rw [← hWe]; exact y0
              have y1 : We.cell? ⟨g, i * 3 + 2, none⟩ = some (.int .i64 y.t) := by rw [← hWe]; exact y1
              have y2 : We.cell? ⟨q, 2, none⟩ = some (.int .i64 x.l) := by rw [← hWe]; exact y2
              have y3 : We.cell? ⟨q, 3, none⟩ = some (.int .i64 x.t) := by rw [← hWe]; exact y3
              have HQ3 : Hid (We = wr.drewN 2) := by show _ = _; rw [← hWe, HQ2.out]; rfl
              by_cases hs1 : x.l < y.l
              · have hsd1 : decide (x.l < y.l) = true := decide_eq_true hs1
                refine wp_calmP ?_
                refine wp_region_L [] (fun w' : World => w'.cell? ⟨g, i * 3 + 1, none⟩ = some (.int .i64 y.l) ∧ w'.cell? ⟨g, i * 3 + 2, none⟩ = some (.int .i64 y.t) ∧ w'.cell? ⟨q, 2, none⟩ = some (.int .i64 x.l) ∧ w'.cell? ⟨q, 3, none⟩ = some (.int .i64 x.t)) (by kernel_rfl) ?_
                rw [hWe]
                clear hWe
                have hS : (fun w' : World => w'.cell? ⟨g, i * 3 + 1, none⟩ = some (.int .i64 y.l) ∧ w'.cell? ⟨g, i * 3 + 2, none⟩ = some (.int .i64 y.t) ∧ w'.cell? ⟨q, 2, none⟩ = some (.int .i64 x.l) ∧ w'.cell? ⟨q, 3, none⟩ = some (.int .i64 x.t)) We := ⟨y0, y1, y2, y3⟩
                refine wpAnyL_take (i := 0) 104 (v := .int .i64 i) rfl rfl (by kernel_rfl) (by kernel_rfl) (by kernel_rfl) (by kernel_rfl) (by kernel_rfl) (by kernel_rfl) (fun _ _ _ h => h) hS (by rfl) (by intro w' hSw; obtain ⟨y0, y1, y2, y3⟩ := hSw; go_simp <;> with_reducible rfl) ?_
                simp only [Act.put, List.setIfInBounds_toArray, List.set_cons_zero, List.set_cons_succ]
                refine wpAnyL_take (i := 1) 105 (v := .bool true) rfl rfl (by kernel_rfl) (by kernel_rfl) (by kernel_rfl) (by kernel_rfl) (by kernel_rfl) (by kernel_rfl) (fun _ _ _ h => h) hS (by rfl) (by intro w' hSw; obtain ⟨y0, y1, y2, y3⟩ := hSw; go_simp <;> with_reducible rfl) ?_
                simp only [Act.put, List.setIfInBounds_toArray, List.set_cons_zero, List.set_cons_succ]
                refine wpAnyL_take (i := 2) 106 (v := .bool true) rfl rfl (by kernel_rfl) (by kernel_rfl) (by kernel_rfl) (by kernel_rfl) (by kernel_rfl) (by kernel_rfl) (fun _ _ _ h => h) hS (by rfl) (by intro w' hSw; obtain ⟨y0, y1, y2, y3⟩ := hSw; go_simp <;> with_reducible rfl) ?_
                simp only [Act.put, List.setIfInBounds_toArray, List.set_cons_zero, List.set_cons_succ]
                refine wpAnyL_take (i := 3) 107 (v := .pointer (some ⟨q, 2, none⟩)) rfl rfl (by kernel_rfl) (by kernel_rfl) (by kernel_rfl) (by kernel_rfl) (by kernel_rfl) (by kernel_rfl) (fun _ _ _ h => h) hS (by rfl) (by intro w' hSw; obtain ⟨y0, y1, y2, y3⟩ := hSw; go_simp <;> with_reducible rfl) ?_
                simp only [Act.put, List.setIfInBounds_toArray, List.set_cons_zero, List.set_cons_succ]
                refine wpAnyL_take (i := 4) 108 (v := .int .i64 x.l) rfl rfl (by kernel_rfl) (by kernel_rfl) (by kernel_rfl) (by kernel_rfl) (by kernel_rfl) (by kernel_rfl) (fun _ _ _ h => h) hS (by rfl) (by intro w' hSw; obtain ⟨y0, y1, y2, y3⟩ := hSw; go_simp <;> with_reducible rfl) ?_
                simp only [Act.put, List.setIfInBounds_toArray, List.set_cons_zero, List.set_cons_succ]
                refine wpAnyL_take (i := 5) 109 (v := .slice (some ⟨g, 0, none⟩) M.length c) rfl rfl (by kernel_rfl) (by kernel_rfl) (by kernel_rfl) (by kernel_rfl) (by kernel_rfl) (by kernel_rfl) (fun _ _ _ h => h) hS (by rfl) (by intro w' hSw; obtain ⟨y0, y1, y2, y3⟩ := hSw; go_simp <;> with_reducible rfl) ?_
                simp only [Act.put, List.setIfInBounds_toArray, List.set_cons_zero, List.set_cons_succ]
                refine wpAnyL_take (i := 6) 110 (v := .int .i64 i) rfl rfl (by kernel_rfl) (by kernel_rfl) (by kernel_rfl) (by kernel_rfl) (by kernel_rfl) (by kernel_rfl) (fun _ _ _ h => h) hS (by rfl) (by intro w' hSw; obtain ⟨y0, y1, y2, y3⟩ := hSw; go_simp <;> with_reducible rfl) ?_
                simp only [Act.put, List.setIfInBounds_toArray, List.set_cons_zero, List.set_cons_succ]
                refine wpAnyL_take (i := 7) 111 (v := .pointer (some ⟨g, i * 3, none⟩)) rfl rfl (by kernel_rfl) (by kernel_rfl) (by kernel_rfl) (by kernel_rfl) (by kernel_rfl) (by kernel_rfl) (fun _ _ _ h => h) hS (by rfl) (by intro w' hSw; obtain ⟨y0, y1, y2, y3⟩ := hSw; go_simp <;> with_reducible rfl) ?_
                simp only [Act.put, List.setIfInBounds_toArray, List.set_cons_zero, List.set_cons_succ]
                refine wpAnyL_take (i := 8) 112 (v := .pointer (some ⟨g, i * 3 + 1, none⟩)) rfl rfl (by kernel_rfl) (by kernel_rfl) (by kernel_rfl) (by kernel_rfl) (by kernel_rfl) (by kernel_rfl) (fun _ _ _ h => h) hS (by rfl) (by intro w' hSw; obtain ⟨y0, y1, y2, y3⟩ := hSw; go_simp <;> with_reducible rfl) ?_
                simp only [Act.put, List.setIfInBounds_toArray, List.set_cons_zero, List.set_cons_succ]
                refine wpAnyL_take (i := 9) 113 (v := .int .i64 y.l) rfl rfl (by kernel_rfl) (by kernel_rfl) (by kernel_rfl) (by kernel_rfl) (by kernel_rfl) (by kernel_rfl) (fun _ _ _ h => h) hS (by rfl) (by intro w' hSw; obtain ⟨y0, y1, y2, y3⟩ := hSw; go_simp <;> with_reducible rfl) ?_
                simp only [Act.put, List.setIfInBounds_toArray, List.set_cons_zero, List.set_cons_succ]
                refine wpAnyL_take (i := 10) 114 (v := .bool true) rfl rfl (by kernel_rfl) (by kernel_rfl) (by kernel_rfl) (by kernel_rfl) (by kernel_rfl) (by kernel_rfl) (fun _ _ _ h => h) hS (by rfl) (by intro w' hSw; obtain ⟨y0, y1, y2, y3⟩ := hSw; go_simp <;> with_reducible rfl) ?_
                simp only [Act.put, List.setIfInBounds_toArray, List.set_cons_zero, List.set_cons_succ]
                refine wpAnyL_take (i := 11) 115 (v := .bool true) rfl rfl (by kernel_rfl) (by kernel_rfl) (by kernel_rfl) (by kernel_rfl) (by kernel_rfl) (by kernel_rfl) (fun _ _ _ h => h) hS (by rfl) (by intro w' hSw; obtain ⟨y0, y1, y2, y3⟩ := hSw; go_simp <;> with_reducible rfl) ?_
                simp only [Act.put, List.setIfInBounds_toArray, List.set_cons_zero, List.set_cons_succ]
                refine wpAnyL_skip (i := 12) 116 rfl rfl (by kernel_rfl) (by kernel_rfl) (by kernel_rfl) (by kernel_rfl) (by kernel_rfl) (by kernel_rfl) (fun _ _ _ h => h) hS (by rfl) ?_
                simp only [Act.put, List.setIfInBounds_toArray, List.set_cons_zero, List.set_cons_succ]
                refine wpAnyL_skip (i := 13) 117 rfl rfl (by kernel_rfl) (by kernel_rfl) (by kernel_rfl) (by kernel_rfl) (by kernel_rfl) (by kernel_rfl) (fun _ _ _ h => h) hS (by rfl) ?_
                simp only [Act.put, List.setIfInBounds_toArray, List.set_cons_zero, List.set_cons_succ]
                refine wpAnyL_skip (i := 14) 118 rfl rfl (by kernel_rfl) (by kernel_rfl) (by kernel_rfl) (by kernel_rfl) (by kernel_rfl) (by kernel_rfl) (fun _ _ _ h => h) hS (by rfl) ?_
                simp only [Act.put, List.setIfInBounds_toArray, List.set_cons_zero, List.set_cons_succ]
                refine wpAnyL_skip (i := 15) 119 rfl rfl (by kernel_rfl) (by kernel_rfl) (by kernel_rfl) (by kernel_rfl) (by kernel_rfl) (by kernel_rfl) (fun _ _ _ h => h) hS (by rfl) ?_
                simp only [Act.put, List.setIfInBounds_toArray, List.set_cons_zero, List.set_cons_succ]
                refine wpAnyL_skip (i := 16) 120 rfl rfl (by kernel_rfl) (by kernel_rfl) (by kernel_rfl) (by kernel_rfl) (by kernel_rfl) (by kernel_rfl) (fun _ _ _ h => h) hS (by rfl) ?_
                simp only [Act.put, List.setIfInBounds_toArray, List.set_cons_zero, List.set_cons_succ]
                refine wpAnyL_skip (i := 17) 121 rfl rfl (by kernel_rfl) (by kernel_rfl) (by kernel_rfl) (by kernel_rfl) (by kernel_rfl) (by kernel_rfl) (fun _ _ _ h => h) hS (by rfl) ?_
                simp only [Act.put, List.setIfInBounds_toArray, List.set_cons_zero, List.set_cons_succ]
                refine wpAnyL_skip (i := 18) 122 rfl rfl (by kernel_rfl) (by kernel_rfl) (by kernel_rfl) (by kernel_rfl) (by kernel_rfl) (by kernel_rfl) (fun _ _ _ h => h) hS (by rfl) ?_
                simp only [Act.put, List.setIfInBounds_toArray, List.set_cons_zero, List.set_cons_succ]
                refine wpAnyL_skip (i := 19) 123 rfl rfl (by kernel_rfl) (by kernel_rfl) (by kernel_rfl) (by kernel_rfl) (by kernel_rfl) (by kernel_rfl) (fun _ _ _ h => h) hS (by rfl) ?_
                simp only [Act.put, List.setIfInBounds_toArray, List.set_cons_zero, List.set_cons_succ]
                refine wpAnyL_take (i := 20) 124 (v := .bool true) rfl rfl (by kernel_rfl) (by kernel_rfl) (by kernel_rfl) (by kernel_rfl) (by kernel_rfl) (by kernel_rfl) (fun _ _ _ h => h) hS (by rfl) (by intro w' hSw; obtain ⟨y0, y1, y2, y3⟩ := hSw; go_simp <;> with_reducible rfl) ?_
                simp only [Act.put, List.setIfInBounds_toArray, List.set_cons_zero, List.set_cons_succ]
                refine wpAnyL_take (i := 21) 125 (v := .bool true) rfl rfl (by kernel_rfl) (by kernel_rfl) (by kernel_rfl) (by kernel_rfl) (by kernel_rfl) (by kernel_rfl) (fun _ _ _ h => h) hS (by rfl) (by intro w' hSw; obtain ⟨y0, y1, y2, y3⟩ := hSw; go_simp <;> with_reducible rfl) ?_
                simp only [Act.put, List.setIfInBounds_toArray, List.set_cons_zero, List.set_cons_succ]
                refine wpAnyL_take (i := 22) 15 (v := .bool true) rfl rfl (by kernel_rfl) (by kernel_rfl) (by kernel_rfl) (by kernel_rfl) (by kernel_rfl) (by kernel_rfl) (fun _ _ _ h => h) hS (by rfl) (by intro w' hSw; obtain ⟨y0, y1, y2, y3⟩ := hSw; go_simp <;> with_reducible rfl) ?_
                simp only [Act.put, List.setIfInBounds_toArray, List.set_cons_zero, List.set_cons_succ]
                refine wpAnyL_done (by kernel_rfl) ?_ _
                clear hS
                have HA5 : Hid (LA We w.heap.size p long mb M) := by show LA _ _ _ _ _ _; rw [HQ3.out]; exact HA3.out.new (below_drewN (Below.refl _ _) 2)
                have HM5 : Hid (LO We w.heap.size (.slice (some ⟨g, 0, none⟩) M.length c) M) := by show LO _ _ _ _; rw [HQ3.out]; exact HM3.out
                have HB5 : Hid (Below w.heap.size w We) := by show Below _ _ _; rw [HQ3.out]; exact below_drewN HB3.out 2
                have HZ5 : Hid (We.heap[q]? = some (.cells #[.int .i64 x.d, .int .i64 x.k, .int .i64 x.l, .int .i64 x.t] 36 (0, 0))) := by show _ = _; rw [HQ3.out]; exact HZw.out
                clear HA3 HM3 HB3 HZw HQ2 HQ3 y0 y1 y2 y3 m0 m1 m2 z0 z1 z2 z3
                obtain ⟨z0, z1, z2, z3⟩ := gbox4 HZ5.out
                have hSt := lrenew_stale HA5.out HXo.out.1 HGi.out (l := x.l) (t := x.t) (.inl hs1)
                clear hot
                cases ot
                all_goals
                  go_wp2_with (go_at_call 14; refine hSt.mono ?_; rintro r w4 ⟨rfl, hb4⟩)
                  have HA4 : Hid (LA w4 w.heap.size p long mb M) := HA5.out.new hb4
                  have HM4 : Hid (LO w4 w.heap.size (.slice (some ⟨g, 0, none⟩) M.length c) M) := GO.new HM5.out hb4
                  have HB4 : Hid (Below w.heap.size w w4) := HB5.out.trans (hb4.mono HB5.out.size)
                  go_roundw
                  case rel => exact ⟨j + 1, M, mb, _, c, by have := HLt.out; omega, by have := HLt.out; omega, rfl, by go_num, HA4, HM4, ⟨by have := HMj.out.1; omega, HMj.out.2⟩, HB4⟩
                  case measure => have := HLt.out; simp [intOf]; omega
              · have hs1' : y.l ≤ x.l := by omega
                by_cases hs2 : x.t < y.t
                · have hsd2 : decide (x.t < y.t) = true := decide_eq_true hs2
                  refine wp_calmP ?_
                  refine wp_region_L [] (fun w' : World => w'.cell? ⟨g, i * 3 + 1, none⟩ = some (.int .i64 y.l) ∧ w'.cell? ⟨g, i * 3 + 2, none⟩ = some (.int .i64 y.t) ∧ w'.cell? ⟨q, 2, none⟩ = some (.int .i64 x.l) ∧ w'.cell? ⟨q, 3, none⟩ = some (.int .i64 x.t)) (by kernel_rfl) ?_
                  rw [hWe]
                  clear hWe
                  have hS : (fun w' : World => w'.cell? ⟨g, i * 3 + 1, none⟩ = some (.int .i64 y.l) ∧ w'.cell? ⟨g, i * 3 + 2, none⟩ = some (.int .i64 y.t) ∧ w'.cell? ⟨q, 2, none⟩ = some (.int .i64 x.l) ∧ w'.cell? ⟨q, 3, none⟩ = some (.int .i64 x.t)) We := ⟨y0, y1, y2, y3⟩
                  refine wpAnyL_take (i := 0) 104 (v := .int .i64 i) rfl rfl (by kernel_rfl) (by kernel_rfl) (by kernel_rfl) (by kernel_rfl) (by kernel_rfl) (by kernel_rfl) (fun _ _ _ h => h) hS (by rfl) (by intro w' hSw; obtain ⟨y0, y1, y2, y3⟩ := hSw; go_simp <;> with_reducible rfl) ?_
                  simp only [Act.put, List.setIfInBounds_toArray, List.set_cons_zero, List.set_cons_succ]
                  refine wpAnyL_take (i := 1) 105 (v := .bool true) rfl rfl (by kernel_rfl) (by kernel_rfl) (by kernel_rfl) (by kernel_rfl) (by kernel_rfl) (by kernel_rfl) (fun _ _ _ h => h) hS (by rfl) (by intro w' hSw; obtain ⟨y0, y1, y2, y3⟩ := hSw; go_simp <;> with_reducible rfl) ?_
                  simp only [Act.put, List.setIfInBounds_toArray, List.set_cons_zero, List.set_cons_succ]
                  refine wpAnyL_take (i := 2) 106 (v := .bool true) rfl rfl (by kernel_rfl) (by kernel_rfl) (by kernel_rfl) (by kernel_rfl) (by kernel_rfl) (by kernel_rfl) (fun _ _ _ h => h) hS (by rfl) (by intro w' hSw; obtain ⟨y0, y1, y2, y3⟩ := hSw; go_simp <;> with_reducible rfl) ?_
                  simp only [Act.put, List.setIfInBounds_toArray, List.set_cons_zero, List.set_cons_succ]
                  refine wpAnyL_take (i := 3) 107 (v := .pointer (some ⟨q, 2, none⟩)) rfl rfl (by kernel_rfl) (by kernel_rfl) (by kernel_rfl) (by kernel_rfl) (by kernel_rfl) (by kernel_rfl) (fun _ _ _ h => h) hS (by rfl) (by intro w' hSw; obtain ⟨y0, y1, y2, y3⟩ := hSw; go_simp <;> with_reducible rfl) ?_
                  simp only [Act.put, List.setIfInBounds_toArray, List.set_cons_zero, List.set_cons_succ]
                  refine wpAnyL_take (i := 4) 108 (v := .int .i64 x.l) rfl rfl (by kernel_rfl) (by kernel_rfl) (by kernel_rfl) (by kernel_rfl) (by kernel_rfl) (by kernel_rfl) (fun _ _ _ h => h) hS (by rfl) (by intro w' hSw; obtain ⟨y0, y1, y2, y3⟩ := hSw; go_simp <;> with_reducible rfl) ?_
                  simp only [Act.put, List.setIfInBounds_toArray, List.set_cons_zero, List.set_cons_succ]
                  refine wpAnyL_take (i := 5) 109 (v := .slice (some ⟨g, 0, none⟩) M.length c) rfl rfl (by kernel_rfl) (by kernel_rfl) (by kernel_rfl) (by kernel_rfl) (by kernel_rfl) (by kernel_rfl) (fun _ _ _ h => h) hS (by rfl) (by intro w' hSw; obtain ⟨y0, y1, y2, y3⟩ := hSw; go_simp <;> with_reducible rfl) ?_
                  simp only [Act.put, List.setIfInBounds_toArray, List.set_cons_zero, List.set_cons_succ]
                  refine wpAnyL_take (i := 6) 110 (v := .int .i64 i) rfl rfl (by kernel_rfl) (by kernel_rfl) (by kernel_rfl) (by kernel_rfl) (by kernel_rfl) (by kernel_rfl) (fun _ _ _ h => h) hS (by rfl) (by intro w' hSw; obtain ⟨y0, y1, y2, y3⟩ := hSw; go_simp <;> with_reducible rfl) ?_
                  simp only [Act.put, List.setIfInBounds_toArray, List.set_cons_zero, List.set_cons_succ]
                  refine wpAnyL_take (i := 7) 111 (v := .pointer (some ⟨g, i * 3, none⟩)) rfl rfl (by kernel_rfl) (by kernel_rfl) (by kernel_rfl) (by kernel_rfl) (by kernel_rfl) (by kernel_rfl) (fun _ _ _ h => h) hS (by rfl) (by intro w' hSw; obtain ⟨y0, y1, y2, y3⟩ := hSw; go_simp <;> with_reducible rfl) ?_
                  simp only [Act.put, List.setIfInBounds_toArray, List.set_cons_zero, List.set_cons_succ]
                  refine wpAnyL_take (i := 8) 112 (v := .pointer (some ⟨g, i * 3 + 1, none⟩)) rfl rfl (by kernel_rfl) (by kernel_rfl) (by kernel_rfl) (by kernel_rfl) (by kernel_rfl) (by kernel_rfl) (fun _ _ _ h => h) hS (by rfl) (by intro w' hSw; obtain ⟨y0, y1, y2, y3⟩ := hSw; go_simp <;> with_reducible rfl) ?_
                  simp only [Act.put, List.setIfInBounds_toArray, List.set_cons_zero, List.set_cons_succ]
                  refine wpAnyL_take (i := 9) 113 (v := .int .i64 y.l) rfl rfl (by kernel_rfl) (by kernel_rfl) (by kernel_rfl) (by kernel_rfl) (by kernel_rfl) (by kernel_rfl) (fun _ _ _ h => h) hS (by rfl) (by intro w' hSw; obtain ⟨y0, y1, y2, y3⟩ := hSw; go_simp <;> with_reducible rfl) ?_
                  simp only [Act.put, List.setIfInBounds_toArray, List.set_cons_zero, List.set_cons_succ]
                  refine wpAnyL_take (i := 10) 114 (v := .bool false) rfl rfl (by kernel_rfl) (by kernel_rfl) (by kernel_rfl) (by kernel_rfl) (by kernel_rfl) (by kernel_rfl) (fun _ _ _ h => h) hS (by rfl) (by intro w' hSw; obtain ⟨y0, y1, y2, y3⟩ := hSw; go_simp <;> with_reducible rfl) ?_
                  simp only [Act.put, List.setIfInBounds_toArray, List.set_cons_zero, List.set_cons_succ]
                  refine wpAnyL_take (i := 11) 115 (v := .bool false) rfl rfl (by kernel_rfl) (by kernel_rfl) (by kernel_rfl) (by kernel_rfl) (by kernel_rfl) (by kernel_rfl) (fun _ _ _ h => h) hS (by rfl) (by intro w' hSw; obtain ⟨y0, y1, y2, y3⟩ := hSw; go_simp <;> with_reducible rfl) ?_
                  simp only [Act.put, List.setIfInBounds_toArray, List.set_cons_zero, List.set_cons_succ]
                  refine wpAnyL_take (i := 12) 116 (v := .pointer (some ⟨q, 3, none⟩)) rfl rfl (by kernel_rfl) (by kernel_rfl) (by kernel_rfl) (by kernel_rfl) (by kernel_rfl) (by kernel_rfl) (fun _ _ _ h => h) hS (by rfl) (by intro w' hSw; obtain ⟨y0, y1, y2, y3⟩ := hSw; go_simp <;> with_reducible rfl) ?_
                  simp only [Act.put, List.setIfInBounds_toArray, List.set_cons_zero, List.set_cons_succ]
                  refine wpAnyL_take (i := 13) 117 (v := .int .i64 x.t) rfl rfl (by kernel_rfl) (by kernel_rfl) (by kernel_rfl) (by kernel_rfl) (by kernel_rfl) (by kernel_rfl) (fun _ _ _ h => h) hS (by rfl) (by intro w' hSw; obtain ⟨y0, y1, y2, y3⟩ := hSw; go_simp <;> with_reducible rfl) ?_
                  simp only [Act.put, List.setIfInBounds_toArray, List.set_cons_zero, List.set_cons_succ]
                  refine wpAnyL_take (i := 14) 118 (v := .slice (some ⟨g, 0, none⟩) M.length c) rfl rfl (by kernel_rfl) (by kernel_rfl) (by kernel_rfl) (by kernel_rfl) (by kernel_rfl) (by kernel_rfl) (fun _ _ _ h => h) hS (by rfl) (by intro w' hSw; obtain ⟨y0, y1, y2, y3⟩ := hSw; go_simp <;> with_reducible rfl) ?_
                  simp only [Act.put, List.setIfInBounds_toArray, List.set_cons_zero, List.set_cons_succ]
                  refine wpAnyL_take (i := 15) 119 (v := .int .i64 i) rfl rfl (by kernel_rfl) (by kernel_rfl) (by kernel_rfl) (by kernel_rfl) (by kernel_rfl) (by kernel_rfl) (fun _ _ _ h => h) hS (by rfl) (by intro w' hSw; obtain ⟨y0, y1, y2, y3⟩ := hSw; go_simp <;> with_reducible rfl) ?_
                  simp only [Act.put, List.setIfInBounds_toArray, List.set_cons_zero, List.set_cons_succ]
                  refine wpAnyL_take (i := 16) 120 (v := .pointer (some ⟨g, i * 3, none⟩)) rfl rfl (by kernel_rfl) (by kernel_rfl) (by kernel_rfl) (by kernel_rfl) (by kernel_rfl) (by kernel_rfl) (fun _ _ _ h => h) hS (by rfl) (by intro w' hSw; obtain ⟨y0, y1, y2, y3⟩ := hSw; go_simp <;> with_reducible rfl) ?_
                  simp only [Act.put, List.setIfInBounds_toArray, List.set_cons_zero, List.set_cons_succ]
                  refine wpAnyL_take (i := 17) 121 (v := .pointer (some ⟨g, i * 3 + 2, none⟩)) rfl rfl (by kernel_rfl) (by kernel_rfl) (by kernel_rfl) (by kernel_rfl) (by kernel_rfl) (by kernel_rfl) (fun _ _ _ h => h) hS (by rfl) (by intro w' hSw; obtain ⟨y0, y1, y2, y3⟩ := hSw; go_simp <;> with_reducible rfl) ?_
                  simp only [Act.put, List.setIfInBounds_toArray, List.set_cons_zero, List.set_cons_succ]
                  refine wpAnyL_take (i := 18) 122 (v := .int .i64 y.t) rfl rfl (by kernel_rfl) (by kernel_rfl) (by kernel_rfl) (by kernel_rfl) (by kernel_rfl) (by kernel_rfl) (fun _ _ _ h => h) hS (by rfl) (by intro w' hSw; obtain ⟨y0, y1, y2, y3⟩ := hSw; go_simp <;> with_reducible rfl) ?_
                  simp only [Act.put, List.setIfInBounds_toArray, List.set_cons_zero, List.set_cons_succ]
                  refine wpAnyL_take (i := 19) 123 (v := .bool true) rfl rfl (by kernel_rfl) (by kernel_rfl) (by kernel_rfl) (by kernel_rfl) (by kernel_rfl) (by kernel_rfl) (fun _ _ _ h => h) hS (by rfl) (by intro w' hSw; obtain ⟨y0, y1, y2, y3⟩ := hSw; go_simp <;> with_reducible rfl) ?_
                  simp only [Act.put, List.setIfInBounds_toArray, List.set_cons_zero, List.set_cons_succ]
                  refine wpAnyL_take (i := 20) 124 (v := .bool true) rfl rfl (by kernel_rfl) (by kernel_rfl) (by kernel_rfl) (by kernel_rfl) (by kernel_rfl) (by kernel_rfl) (fun _ _ _ h => h) hS (by rfl) (by intro w' hSw; obtain ⟨y0, y1, y2, y3⟩ := hSw; go_simp <;> with_reducible rfl) ?_
                  simp only [Act.put, List.setIfInBounds_toArray, List.set_cons_zero, List.set_cons_succ]
                  refine wpAnyL_take (i := 21) 125 (v := .bool true) rfl rfl (by kernel_rfl) (by kernel_rfl) (by kernel_rfl) (by kernel_rfl) (by kernel_rfl) (by kernel_rfl) (fun _ _ _ h => h) hS (by rfl) (by intro w' hSw; obtain ⟨y0, y1, y2, y3⟩ := hSw; go_simp <;> with_reducible rfl) ?_
                  simp only [Act.put, List.setIfInBounds_toArray, List.set_cons_zero, List.set_cons_succ]
                  refine wpAnyL_take (i := 22) 15 (v := .bool true) rfl rfl (by kernel_rfl) (by kernel_rfl) (by kernel_rfl) (by kernel_rfl) (by kernel_rfl) (by kernel_rfl) (fun _ _ _ h => h) hS (by rfl) (by intro w' hSw; obtain ⟨y0, y1, y2, y3⟩ := hSw; go_simp <;> with_reducible rfl) ?_
                  simp only [Act.put, List.setIfInBounds_toArray, List.set_cons_zero, List.set_cons_succ]
                  refine wpAnyL_done (by kernel_rfl) ?_ _
                  clear hS
                  have HA5 : Hid (LA We w.heap.size p long mb M) := by show LA _ _ _ _ _ _; rw [HQ3.out]; exact HA3.out.new (below_drewN (Below.refl _ _) 2)
                  have HM5 : Hid (LO We w.heap.size (.slice (some ⟨g, 0, none⟩) M.length c) M) := by show LO _ _ _ _; rw [HQ3.out]; exact HM3.out
                  have HB5 : Hid (Below w.heap.size w We) := by show Below _ _ _; rw [HQ3.out]; exact below_drewN HB3.out 2
                  have HZ5 : Hid (We.heap[q]? = some (.cells #[.int .i64 x.d, .int .i64 x.k, .int .i64 x.l, .int .i64 x.t] 36 (0, 0))) := by show _ = _; rw [HQ3.out]; exact HZw.out
                  clear HA3 HM3 HB3 HZw HQ2 HQ3 y0 y1 y2 y3 m0 m1 m2 z0 z1 z2 z3
                  obtain ⟨z0, z1, z2, z3⟩ := gbox4 HZ5.out
                  have hSt := lrenew_stale HA5.out HXo.out.1 HGi.out (l := x.l) (t := x.t) (.inr hs2)
                  clear hot
                  cases ot
                  all_goals
                    go_wp2_with (go_at_call 14; refine hSt.mono ?_; rintro r w4 ⟨rfl, hb4⟩)
                    have HA4 : Hid (LA w4 w.heap.size p long mb M) := HA5.out.new hb4
                    have HM4 : Hid (LO w4 w.heap.size (.slice (some ⟨g, 0, none⟩) M.length c) M) := GO.new HM5.out hb4
                    have HB4 : Hid (Below w.heap.size w w4) := HB5.out.trans (hb4.mono HB5.out.size)
                    go_roundw
                    case rel => exact ⟨j + 1, M, mb, _, c, by have := HLt.out; omega, by have := HLt.out; omega, rfl, by go_num, HA4, HM4, ⟨by have := HMj.out.1; omega, HMj.out.2⟩, HB4⟩
                    case measure => have := HLt.out; simp [intOf]; omega
                · have hs2' : y.t ≤ x.t := by omega
                  refine wp_calmP ?_
                  refine wp_region_L [] (fun w' : World => w'.cell? ⟨g, i * 3 + 1, none⟩ = some (.int .i64 y.l) ∧ w'.cell? ⟨g, i * 3 + 2, none⟩ = some (.int .i64 y.t) ∧ w'.cell? ⟨q, 2, none⟩ = some (.int .i64 x.l) ∧ w'.cell? ⟨q, 3, none⟩ = some (.int .i64 x.t)) (by kernel_rfl) ?_
                  rw [hWe]
                  clear hWe
                  have hS : (fun w' : World => w'.cell? ⟨g, i * 3 + 1, none⟩ = some (.int .i64 y.l) ∧ w'.cell? ⟨g, i * 3 + 2, none⟩ = some (.int .i64 y.t) ∧ w'.cell? ⟨q, 2, none⟩ = some (.int .i64 x.l) ∧ w'.cell? ⟨q, 3, none⟩ = some (.int .i64 x.t)) We := ⟨y0, y1, y2, y3⟩
                  refine wpAnyL_take (i := 0) 104 (v := .int .i64 i) rfl rfl (by kernel_rfl) (by kernel_rfl) (by kernel_rfl) (by kernel_rfl) (by kernel_rfl) (by kernel_rfl) (fun _ _ _ h => h) hS (by rfl) (by intro w' hSw; obtain ⟨y0, y1, y2, y3⟩ := hSw; go_simp <;> with_reducible rfl) ?_
                  simp only [Act.put, List.setIfInBounds_toArray, List.set_cons_zero, List.set_cons_succ]
                  refine wpAnyL_take (i := 1) 105 (v := .bool true) rfl rfl (by kernel_rfl) (by kernel_rfl) (by kernel_rfl) (by kernel_rfl) (by kernel_rfl) (by kernel_rfl) (fun _ _ _ h => h) hS (by rfl) (by intro w' hSw; obtain ⟨y0, y1, y2, y3⟩ := hSw; go_simp <;> with_reducible rfl) ?_
                  simp only [Act.put, List.setIfInBounds_toArray, List.set_cons_zero, List.set_cons_succ]
                  refine wpAnyL_take (i := 2) 106 (v := .bool true) rfl rfl (by kernel_rfl) (by kernel_rfl) (by kernel_rfl) (by kernel_rfl) (by kernel_rfl) (by kernel_rfl) (fun _ _ _ h => h) hS (by rfl) (by intro w' hSw; obtain ⟨y0, y1, y2, y3⟩ := hSw; go_simp <;> with_reducible rfl) ?_
                  simp only [Act.put, List.setIfInBounds_toArray, List.set_cons_zero, List.set_cons_succ]
                  refine wpAnyL_take (i := 3) 107 (v := .pointer (some ⟨q, 2, none⟩)) rfl rfl (by kernel_rfl) (by kernel_rfl) (by kernel_rfl) (by kernel_rfl) (by kernel_rfl) (by kernel_rfl) (fun _ _ _ h => h) hS (by rfl) (by intro w' hSw; obtain ⟨y0, y1, y2, y3⟩ := hSw; go_simp <;> with_reducible rfl) ?_
                  simp only [Act.put, List.setIfInBounds_toArray, List.set_cons_zero, List.set_cons_succ]
                  refine wpAnyL_take (i := 4) 108 (v := .int .i64 x.l) rfl rfl (by kernel_rfl) (by kernel_rfl) (by kernel_rfl) (by kernel_rfl) (by kernel_rfl) (by kernel_rfl) (fun _ _ _ h => h) hS (by rfl) (by intro w' hSw; obtain ⟨y0, y1, y2, y3⟩ := hSw; go_simp <;> with_reducible rfl) ?_
                  simp only [Act.put, List.setIfInBounds_toArray, List.set_cons_zero, List.set_cons_succ]
                  refine wpAnyL_take (i := 5) 109 (v := .slice (some ⟨g, 0, none⟩) M.length c) rfl rfl (by kernel_rfl) (by kernel_rfl) (by kernel_rfl) (by kernel_rfl) (by kernel_rfl) (by kernel_rfl) (fun _ _ _ h => h) hS (by rfl) (by intro w' hSw; obtain ⟨y0, y1, y2, y3⟩ := hSw; go_simp <;> with_reducible rfl) ?_
                  simp only [Act.put, List.setIfInBounds_toArray, List.set_cons_zero, List.set_cons_succ]
                  refine wpAnyL_take (i := 6) 110 (v := .int .i64 i) rfl rfl (by kernel_rfl) (by kernel_rfl) (by kernel_rfl) (by kernel_rfl) (by kernel_rfl) (by kernel_rfl) (fun _ _ _ h => h) hS (by rfl) (by intro w' hSw; obtain ⟨y0, y1, y2, y3⟩ := hSw; go_simp <;> with_reducible rfl) ?_
                  simp only [Act.put, List.setIfInBounds_toArray, List.set_cons_zero, List.set_cons_succ]
                  refine wpAnyL_take (i := 7) 111 (v := .pointer (some ⟨g, i * 3, none⟩)) rfl rfl (by kernel_rfl) (by kernel_rfl) (by kernel_rfl) (by kernel_rfl) (by kernel_rfl) (by kernel_rfl) (fun _ _ _ h => h) hS (by rfl) (by intro w' hSw; obtain ⟨y0, y1, y2, y3⟩ := hSw; go_simp <;> with_reducible rfl) ?_
                  simp only [Act.put, List.setIfInBounds_toArray, List.set_cons_zero, List.set_cons_succ]
                  refine wpAnyL_take (i := 8) 112 (v := .pointer (some ⟨g, i * 3 + 1, none⟩)) rfl rfl (by kernel_rfl) (by kernel_rfl) (by kernel_rfl) (by kernel_rfl) (by kernel_rfl) (by kernel_rfl) (fun _ _ _ h => h) hS (by rfl) (by intro w' hSw; obtain ⟨y0, y1, y2, y3⟩ := hSw; go_simp <;> with_reducible rfl) ?_
                  simp only [Act.put, List.setIfInBounds_toArray, List.set_cons_zero, List.set_cons_succ]
                  refine wpAnyL_take (i := 9) 113 (v := .int .i64 y.l) rfl rfl (by kernel_rfl) (by kernel_rfl) (by kernel_rfl) (by kernel_rfl) (by kernel_rfl) (by kernel_rfl) (fun _ _ _ h => h) hS (by rfl) (by intro w' hSw; obtain ⟨y0, y1, y2, y3⟩ := hSw; go_simp <;> with_reducible rfl) ?_
                  simp only [Act.put, List.setIfInBounds_toArray, List.set_cons_zero, List.set_cons_succ]
                  refine wpAnyL_take (i := 10) 114 (v := .bool false) rfl rfl (by kernel_rfl) (by kernel_rfl) (by kernel_rfl) (by kernel_rfl) (by kernel_rfl) (by kernel_rfl) (fun _ _ _ h => h) hS (by rfl) (by intro w' hSw; obtain ⟨y0, y1, y2, y3⟩ := hSw; go_simp <;> with_reducible rfl) ?_
                  simp only [Act.put, List.setIfInBounds_toArray, List.set_cons_zero, List.set_cons_succ]
                  refine wpAnyL_take (i := 11) 115 (v := .bool false) rfl rfl (by kernel_rfl) (by kernel_rfl) (by kernel_rfl) (by kernel_rfl) (by kernel_rfl) (by kernel_rfl) (fun _ _ _ h => h) hS (by rfl) (by intro w' hSw; obtain ⟨y0, y1, y2, y3⟩ := hSw; go_simp <;> with_reducible rfl) ?_
                  simp only [Act.put, List.setIfInBounds_toArray, List.set_cons_zero, List.set_cons_succ]
                  refine wpAnyL_take (i := 12) 116 (v := .pointer (some ⟨q, 3, none⟩)) rfl rfl (by kernel_rfl) (by kernel_rfl) (by kernel_rfl) (by kernel_rfl) (by kernel_rfl) (by kernel_rfl) (fun _ _ _ h => h) hS (by rfl) (by intro w' hSw; obtain ⟨y0, y1, y2, y3⟩ := hSw; go_simp <;> with_reducible rfl) ?_
                  simp only [Act.put, List.setIfInBounds_toArray, List.set_cons_zero, List.set_cons_succ]
                  refine wpAnyL_take (i := 13) 117 (v := .int .i64 x.t) rfl rfl (by kernel_rfl) (by kernel_rfl) (by kernel_rfl) (by kernel_rfl) (by kernel_rfl) (by kernel_rfl) (fun _ _ _ h => h) hS (by rfl) (by intro w' hSw; obtain ⟨y0, y1, y2, y3⟩ := hSw; go_simp <;> with_reducible rfl) ?_
                  simp only [Act.put, List.setIfInBounds_toArray, List.set_cons_zero, List.set_cons_succ]
                  refine wpAnyL_take (i := 14) 118 (v := .slice (some ⟨g, 0, none⟩) M.length c) rfl rfl (by kernel_rfl) (by kernel_rfl) (by kernel_rfl) (by kernel_rfl) (by kernel_rfl) (by kernel_rfl) (fun _ _ _ h => h) hS (by rfl) (by intro w' hSw; obtain ⟨y0, y1, y2, y3⟩ := hSw; go_simp <;> with_reducible rfl) ?_
                  simp only [Act.put, List.setIfInBounds_toArray, List.set_cons_zero, List.set_cons_succ]
                  refine wpAnyL_take (i := 15) 119 (v := .int .i64 i) rfl rfl (by kernel_rfl) (by kernel_rfl) (by kernel_rfl) (by kernel_rfl) (by kernel_rfl) (by kernel_rfl) (fun _ _ _ h => h) hS (by rfl) (by intro w' hSw; obtain ⟨y0, y1, y2, y3⟩ := hSw; go_simp <;> with_reducible rfl) ?_
                  simp only [Act.put, List.setIfInBounds_toArray, List.set_cons_zero, List.set_cons_succ]
                  refine wpAnyL_take (i := 16) 120 (v := .pointer (some ⟨g, i * 3, none⟩)) rfl rfl (by kernel_rfl) (by kernel_rfl) (by kernel_rfl) (by kernel_rfl) (by kernel_rfl) (by kernel_rfl) (fun _ _ _ h => h) hS (by rfl) (by intro w' hSw; obtain ⟨y0, y1, y2, y3⟩ := hSw; go_simp <;> with_reducible rfl) ?_
                  simp only [Act.put, List.setIfInBounds_toArray, List.set_cons_zero, List.set_cons_succ]
                  refine wpAnyL_take (i := 17) 121 (v := .pointer (some ⟨g, i * 3 + 2, none⟩)) rfl rfl (by kernel_rfl) (by kernel_rfl) (by kernel_rfl) (by kernel_rfl) (by kernel_rfl) (by kernel_rfl) (fun _ _ _ h => h) hS (by rfl) (by intro w' hSw; obtain ⟨y0, y1, y2, y3⟩ := hSw; go_simp <;> with_reducible rfl) ?_
                  simp only [Act.put, List.setIfInBounds_toArray, List.set_cons_zero, List.set_cons_succ]
                  refine wpAnyL_take (i := 18) 122 (v := .int .i64 y.t) rfl rfl (by kernel_rfl) (by kernel_rfl) (by kernel_rfl) (by kernel_rfl) (by kernel_rfl) (by kernel_rfl) (fun _ _ _ h => h) hS (by rfl) (by intro w' hSw; obtain ⟨y0, y1, y2, y3⟩ := hSw; go_simp <;> with_reducible rfl) ?_
                  simp only [Act.put, List.setIfInBounds_toArray, List.set_cons_zero, List.set_cons_succ]
                  refine wpAnyL_take (i := 19) 123 (v := .bool false) rfl rfl (by kernel_rfl) (by kernel_rfl) (by kernel_rfl) (by kernel_rfl) (by kernel_rfl) (by kernel_rfl) (fun _ _ _ h => h) hS (by rfl) (by intro w' hSw; obtain ⟨y0, y1, y2, y3⟩ := hSw; go_simp <;> with_reducible rfl) ?_
                  simp only [Act.put, List.setIfInBounds_toArray, List.set_cons_zero, List.set_cons_succ]
                  refine wpAnyL_take (i := 20) 124 (v := .bool false) rfl rfl (by kernel_rfl) (by kernel_rfl) (by kernel_rfl) (by kernel_rfl) (by kernel_rfl) (by kernel_rfl) (fun _ _ _ h => h) hS (by rfl) (by intro w' hSw; obtain ⟨y0, y1, y2, y3⟩ := hSw; go_simp <;> with_reducible rfl) ?_
                  simp only [Act.put, List.setIfInBounds_toArray, List.set_cons_zero, List.set_cons_succ]
                  refine wpAnyL_take (i := 21) 125 (v := .bool false) rfl rfl (by kernel_rfl) (by kernel_rfl) (by kernel_rfl) (by kernel_rfl) (by kernel_rfl) (by kernel_rfl) (fun _ _ _ h => h) hS (by rfl) (by intro w' hSw; obtain ⟨y0, y1, y2, y3⟩ := hSw; go_simp <;> with_reducible rfl) ?_
                  simp only [Act.put, List.setIfInBounds_toArray, List.set_cons_zero, List.set_cons_succ]
                  refine wpAnyL_take (i := 22) 15 (v := .bool false) rfl rfl (by kernel_rfl) (by kernel_rfl) (by kernel_rfl) (by kernel_rfl) (by kernel_rfl) (by kernel_rfl) (fun _ _ _ h => h) hS (by rfl) (by intro w' hSw; obtain ⟨y0, y1, y2, y3⟩ := hSw; go_simp <;> with_reducible rfl) ?_
                  simp only [Act.put, List.setIfInBounds_toArray, List.set_cons_zero, List.set_cons_succ]
                  refine wpAnyL_done (by kernel_rfl) ?_ _
                  clear hS
                  have HA5 : Hid (LA We w.heap.size p long mb M) := by show LA _ _ _ _ _ _; rw [HQ3.out]; exact HA3.out.new (below_drewN (Below.refl _ _) 2)
                  have HM5 : Hid (LO We w.heap.size (.slice (some ⟨g, 0, none⟩) M.length c) M) := by show LO _ _ _ _; rw [HQ3.out]; exact HM3.out
                  have HB5 : Hid (Below w.heap.size w We) := by show Below _ _ _; rw [HQ3.out]; exact below_drewN HB3.out 2
                  have HZ5 : Hid (We.heap[q]? = some (.cells #[.int .i64 x.d, .int .i64 x.k, .int .i64 x.l, .int .i64 x.t] 36 (0, 0))) := by show _ = _; rw [HQ3.out]; exact HZw.out
                  clear HA3 HM3 HB3 HZw HQ2 HQ3 y0 y1 y2 y3 m0 m1 m2 z0 z1 z2 z3
                  obtain ⟨z0, z1, z2, z3⟩ := gbox4 HZ5.out
                  have hRen := lrenew_put HA5.out (by omega) HYo.out (fun z hz => by rw [show getL M x.k = some y from HGi.out] at hz; cases hz; exact ⟨hs1', hs2'⟩) HSg2.out.1 (fun z hz => by rcases List.mem_or_eq_of_mem_set hz with hz | rfl; exact HMj.out.2 z hz; exact HYo.out) HSg2.out.2
                  rw [show getL M (Lz.mk x.k x.l x.t).k = some y from HGi.out] at hRen
                  simp only [Option.isSome_some, Bool.not_true, Bool.false_or, lzD, Option.getD_some, hot] at hRen
                  clear hot
                  cases ot
                  all_goals
                    go_upto_region 29 with (go_at_call 14; refine hRen.mono ?_; rintro r w4 ⟨rfl, mb4, hA4, hf4⟩)
                    have HM4 : Hid (LO w4 w.heap.size (.slice (some ⟨g, 0, none⟩) M.length c) M) := LO.past HA5.out HM5.out hf4
                    have HB4 : Hid (Below w.heap.size w w4) := LTo.below hf4 HA5.out HB5.out
                    have HZ4 : Hid (w4.heap[q]? = some (.cells #[.int .i64 x.d, .int .i64 x.k, .int .i64 x.l, .int .i64 x.t] 36 (0, 0))) := (hf4.block q (glt_blk HZ5.out) (fun e => by rcases e with e | e; (have := HXq.out.1; omega); (have := HXq.out.2 q e; omega))).trans HZ5.out
                    have HA4 : Hid (LA w4 w.heap.size p long mb4 (M.set i (Lz.mk x.k x.l x.t))) := hA4
                    clear hRen hA4 hf4 HA5 HM5 HB5 HZ5 z0 z1 z2 z3
                    obtain ⟨z0, z1, z2, z3⟩ := gbox4 HZ4.out
                    obtain ⟨n0, n1, n2⟩ := LO.at_ HM4.out i HI.out
                    have f0 := LO.fz HM4.out (i * 3)
                    have f1 := LO.fz HM4.out (i * 3 + 1)
                    have f2 := LO.fz HM4.out (i * 3 + 2)
                    have HM6 : Hid (LO (((w4.setCell ⟨g, i * 3, none⟩ (.int .i64 x.k)).setCell ⟨g, i * 3 + 1, none⟩ (.int .i64 x.l)).setCell ⟨g, i * 3 + 2, none⟩ (.int .i64 x.t)) w.heap.size (.slice (some ⟨g, 0, none⟩) M.length c) (M.set i (Lz.mk x.k x.l x.t))) := LO.set HM4.out i HI.out (Lz.mk x.k x.l x.t)
                    have f6 := fr_set3 w4 g (i * 3) (i * 3 + 1) (i * 3 + 2) (.int .i64 x.k) (.int .i64 x.l) (.int .i64 x.t)
                    have f7 := f6.mono (T := fun k => (Value.slice (some ⟨g, 0, none⟩) M.length c).ownBlock = some k) (fun k _ e => by rw [e]; rfl)
                    have HA6 := LA.past HA4.out HM4.out f7
                    have HB6 := HB4.out.trans (f7.below HB4.out.size (fun k hk => (GO.lt HM4.out k hk).1))
                    have HA7 : Hid (LA (((w4.setCell ⟨g, i * 3, none⟩ (.int .i64 x.k)).setCell ⟨g, i * 3 + 1, none⟩ (.int .i64 x.l)).setCell ⟨g, i * 3 + 2, none⟩ (.int .i64 x.t)) w.heap.size p long mb4 (M.set i (Lz.mk x.k x.l x.t))) := HA6
                    have HB7 : Hid (Below w.heap.size w (((w4.setCell ⟨g, i * 3, none⟩ (.int .i64 x.k)).setCell ⟨g, i * 3 + 1, none⟩ (.int .i64 x.l)).setCell ⟨g, i * 3 + 2, none⟩ (.int .i64 x.t))) := HB6
                    clear f6 f7 HA6 HB6
                    go_wp2
                    go_roundw
                    case rel => exact ⟨j + 1, M.set i (Lz.mk x.k x.l x.t), mb4, _, c, by have := HLt.out; omega, by have := HLt.out; omega, by rw [List.length_set], by go_num, HA7, by rw [List.length_set]; exact HM6, ⟨by have := HMj.out.1; rw [List.length_set]; omega, fun z hz => by rcases List.mem_or_eq_of_mem_set hz with hz | rfl; exact HMj.out.2 z hz; exact HYo.out⟩, HB7⟩
                    case measure => have := HLt.out; simp [intOf]; omega
    · have hMl : M.length ≤ 60 := by have := HMj.out.1; have := HJ.out.2; omega
      have HOk : Hid (∀ y ∈ M, y.ok) := HMj.out.2
      rename World => wo
      by_cases hlt1 : j < X.length
      · have hlt2 : ¬ j < 60 := fun h => hlt ⟨hlt1, h⟩
        have hc1 : (j : Int) < X.length := by omega
        have hc2 : (60 : Int) ≤ j := by omega
        clear hlt hlt1 hlt2
        go_upto_region 31 with (fail)
        generalize hW : World.alloc (World.alloc _ _) _ = W
        have bW : Below wo.heap.size wo W := by rw [← hW]; exact ((Below.refl _ _).alloc (Nat.le_refl _) _).alloc (by simp) _
        have hgl : W.heap[wo.heap.size]? = some (.cells #[] 3 (0, 0)) := by rw [← hW]; exact (Below.heap_alloc _ _ _ (by simp)).trans (heap_alloc_new _ _)
        have hgg : W.heap[wo.heap.size + 1]? = some (.cells #[] 3 (0, 0)) := by
          rw [← hW]
          have := heap_alloc_new (wo.alloc (.cells #[] 3)) (.cells #[] 3)
          rw [World.size_alloc] at this
          exact this
        have HA2 : Hid (LA W w.heap.size p long mb M) := HA.out.new bW
        have HM2 : Hid (LO W w.heap.size (.slice ao M.length c) M) := GO.new HM.out bW
        have HB2 : Hid (Below w.heap.size w W) := HB.out.trans (bW.mono HB.out.size)
        have HL2 : Hid (IO_ W w.heap.size (.slice (some ⟨wo.heap.size, 0, none⟩) 0 0) []) := GO.lower (GO.made hgl) HB.out.size
        have HG2 : Hid (IO_ W w.heap.size (.slice (some ⟨wo.heap.size + 1, 0, none⟩) 0 0) []) := GO.lower (GO.made hgg) (by have := HB.out.size; omega)
        have HAp : Hid (ApI (.slice (some ⟨wo.heap.size, 0, none⟩) 0 0) (.slice (some ⟨wo.heap.size + 1, 0, none⟩) 0 0)) := fun k h1 h2 => by
          have e1 : wo.heap.size = k := Option.some.inj h1
          have e2 : wo.heap.size + 1 = k := Option.some.inj h2
          omega
        clear hW bW hgl hgg HA HM HB
        generalize wo.heap.size + 1 = q2 at HG2 HAp ⊢
        generalize wo.heap.size = q1 at HL2 HAp ⊢
        go_wp2
        refine pl_loop3 hl1 hl2 HNow.out HOk.out hMl HL2.out HG2.out HAp.out HA2.out HM2.out HB2.out ?_
        intro wr y6 y16 y17 y18 y19 y20 y167 y168 y169 y170 y171 y172 y173 y174 y175 y176 y177 y178 y179 y180 y181 y182 y183 y184 y185 y186 y187 y188 y189 y190 y191 y192 y193 y194 y195 y196 y197 y198 y199 y200 y201 y202 y203 y204 y205 y206 y207 y208 y209 y210 y211 y212 y213 y214 y215 y216 y217 y218 y219 y220 y221 y222 y223 y224 y225 y226 y227 y228 y229 y230 hL3 hG3 hA3 hB3
        have HL : Hid (IO_ wr w.heap.size y16 (M.map (·.k))) := hL3
        have HG : Hid (IO_ wr w.heap.size y17 (goneL M long now)) := hG3
        have HA : Hid (LA wr w.heap.size p long mb M) := hA3
        have HB : Hid (Below w.heap.size w wr) := hB3
        clear hL3 hG3 hA3 hB3 HL2 HG2 HAp HA2 HM2 HB2
        rename_i KK hKK
        refine hKK _ _ ?_
        obtain ⟨lo2, lc2, hls, _, _⟩ := GO.shape HL.out
        obtain ⟨go2, gc2, hgs, _, _⟩ := GO.shape HG.out
        subst hls
        subst hgs
        have hLv := llive HA.out (by omega)
        have hlen1 : (M.map (·.k)).length * 8 ≤ 140737488355328 := by simp; omega
        have hlen2 : (goneL M long now).length * 8 ≤ 140737488355328 := by have := goneL_len M long now; omega
        have HRl1 : Hid ((risL (M.map (·.k))).length ≤ 140737488355328) := by show _ ≤ _; have := risL_len (M.map (·.k)); omega
        have HRl2 : Hid ((risL (goneL M long now)).length ≤ 140737488355328) := by show _ ≤ _; have := risL_len (goneL M long now); omega
        have HLn : Hid ((M.map (·.k)).length * 8 ≤ 140737488355328 ∧ (goneL M long now).length * 8 ≤ 140737488355328) := ⟨hlen1, hlen2⟩
        clear hlen1 hlen2
        have HML : Hid (M.map (·.k) = M.map (·.k)) := rfl
        generalize M.map (·.k) = KL at HL hLv HRl1 HLn ⊢
        have hGo : ∀ W : World, LA W w.heap.size p long mb M → Calls Try.prog 17 #[.pointer (some ⟨p, 0, none⟩), .int .i64 now] W fun r w' => ∃ v, r = .returned v ∧ IO_ w' W.heap.size v (risL (goneL M long now)) ∧ Below W.heap.size W w' := fun W h => by
          cases mb with
          | none => exact lgone_none h
          | some b => exact lgone_some h HLo.out.1 HLo.out.2 HNow.out (by omega)
        have HGo : Hid (∀ W : World, LA W w.heap.size p long mb M → Calls Try.prog 17 #[.pointer (some ⟨p, 0, none⟩), .int .i64 now] W fun r w' => ∃ v, r = .returned v ∧ IO_ w' W.heap.size v (risL (goneL M long now)) ∧ Below W.heap.size W w') := hGo
        clear hGo HML
        generalize goneL M long now = GL at HG HGo HRl2 HLn ⊢
        have tk1 : Hid True := trivial
        have tk2 : Hid True := trivial
        go_wp2_with (first
          | (go_at_call 16; refine hLv.mono ?_; rintro r w5 ⟨v5, rfl, hr5, hb5⟩; obtain ⟨ao5, c5, rfl, _, _⟩ := GO.shape hr5; have hRs := lrising (GO.toS (GO.new HL.out hb5)) HLn.out.1)
          | (go_at_call 7; have _t := tk1; refine hRs.mono ?_; rintro r w6 ⟨v6, rfl, hr6, hb6⟩; clear tk1 _t hRs; obtain ⟨ao6, c6, rfl, _, _⟩ := GO.shape hr6; have hSm := lsame (GO.toS (GO.new hr5 hb6)) (GO.toS hr6) HRl1.out; rw [decide_eq_true rfl] at hSm)
          | (go_at_call 10; have _t := tk2; refine hSm.mono ?_; rintro r w7 ⟨rfl, q7, hq7⟩; have hb7 : Below w6.heap.size w6 w7 := (by rw [hq7]; exact below_drewN (Below.refl _ _) q7); clear hq7 tk2 _t hSm; have HB6b : Hid (Below wr.heap.size wr w7) := (hb5.trans (hb6.mono hb5.size)).trans (hb7.mono (hb5.trans (hb6.mono hb5.size)).size); clear hb5 hb6 hb7 hr5 hr6; have hGn := HGo.out w7 (HA.out.new HB6b.out))
          | (go_at_call 17; refine hGn.mono ?_; rintro r w8 ⟨v8, rfl, hr8, hb8⟩; obtain ⟨ao8, c8, rfl, _, _⟩ := GO.shape hr8; have HB8b : Hid (Below wr.heap.size wr w8) := HB6b.out.trans (hb8.mono HB6b.out.size); have hRs := lrising (GO.toS (GO.new HG.out HB8b.out)) HLn.out.2)
          | (go_at_call 7; refine hRs.mono ?_; rintro r w9 ⟨v9, rfl, hr9, hb9⟩; obtain ⟨ao9, c9, rfl, _, _⟩ := GO.shape hr9; have hSm := lsame (GO.toS (GO.new hr8 hb9)) (GO.toS hr9) HRl2.out; rw [decide_eq_true rfl] at hSm)
          | (go_at_call 10; refine hSm.mono ?_; rintro r w10 ⟨rfl, q10, hq10⟩; have HQ10 : Hid (w10 = w9.drewN q10) := hq10; clear hq10))
        go_ret
        refine ⟨rfl, ?_⟩
        have b9 := HB8b.out.trans (hb9.mono HB8b.out.size)
        have b10 : Below wr.heap.size wr w10 := by rw [HQ10.out]; exact below_drewN b9 q10
        exact HB.out.trans (b10.mono HB.out.size)
      · have hc1 : (X.length : Int) ≤ j := by omega
        clear hlt hlt1
        go_upto_region 31 with (fail)
        generalize hW : World.alloc (World.alloc _ _) _ = W
        have bW : Below wo.heap.size wo W := by rw [← hW]; exact ((Below.refl _ _).alloc (Nat.le_refl _) _).alloc (by simp) _
        have hgl : W.heap[wo.heap.size]? = some (.cells #[] 3 (0, 0)) := by rw [← hW]; exact (Below.heap_alloc _ _ _ (by simp)).trans (heap_alloc_new _ _)
        have hgg : W.heap[wo.heap.size + 1]? = some (.cells #[] 3 (0, 0)) := by
          rw [← hW]
          have := heap_alloc_new (wo.alloc (.cells #[] 3)) (.cells #[] 3)
          rw [World.size_alloc] at this
          exact this
        have HA2 : Hid (LA W w.heap.size p long mb M) := HA.out.new bW
        have HM2 : Hid (LO W w.heap.size (.slice ao M.length c) M) := GO.new HM.out bW
        have HB2 : Hid (Below w.heap.size w W) := HB.out.trans (bW.mono HB.out.size)
        have HL2 : Hid (IO_ W w.heap.size (.slice (some ⟨wo.heap.size, 0, none⟩) 0 0) []) := GO.lower (GO.made hgl) HB.out.size
        have HG2 : Hid (IO_ W w.heap.size (.slice (some ⟨wo.heap.size + 1, 0, none⟩) 0 0) []) := GO.lower (GO.made hgg) (by have := HB.out.size; omega)
        have HAp : Hid (ApI (.slice (some ⟨wo.heap.size, 0, none⟩) 0 0) (.slice (some ⟨wo.heap.size + 1, 0, none⟩) 0 0)) := fun k h1 h2 => by
          have e1 : wo.heap.size = k := Option.some.inj h1
          have e2 : wo.heap.size + 1 = k := Option.some.inj h2
          omega
        clear hW bW hgl hgg HA HM HB
        generalize wo.heap.size + 1 = q2 at HG2 HAp ⊢
        generalize wo.heap.size = q1 at HL2 HAp ⊢
        go_wp2
        refine pl_loop3 hl1 hl2 HNow.out HOk.out hMl HL2.out HG2.out HAp.out HA2.out HM2.out HB2.out ?_
        intro wr y6 y16 y17 y18 y19 y20 y167 y168 y169 y170 y171 y172 y173 y174 y175 y176 y177 y178 y179 y180 y181 y182 y183 y184 y185 y186 y187 y188 y189 y190 y191 y192 y193 y194 y195 y196 y197 y198 y199 y200 y201 y202 y203 y204 y205 y206 y207 y208 y209 y210 y211 y212 y213 y214 y215 y216 y217 y218 y219 y220 y221 y222 y223 y224 y225 y226 y227 y228 y229 y230 hL3 hG3 hA3 hB3
        have HL : Hid (IO_ wr w.heap.size y16 (M.map (·.k))) := hL3
        have HG : Hid (IO_ wr w.heap.size y17 (goneL M long now)) := hG3
        have HA : Hid (LA wr w.heap.size p long mb M) := hA3
        have HB : Hid (Below w.heap.size w wr) := hB3
        clear hL3 hG3 hA3 hB3 HL2 HG2 HAp HA2 HM2 HB2
        rename_i KK hKK
        refine hKK _ _ ?_
        obtain ⟨lo2, lc2, hls, _, _⟩ := GO.shape HL.out
        obtain ⟨go2, gc2, hgs, _, _⟩ := GO.shape HG.out
        subst hls
        subst hgs
        have hLv := llive HA.out (by omega)
        have hlen1 : (M.map (·.k)).length * 8 ≤ 140737488355328 := by simp; omega
        have hlen2 : (goneL M long now).length * 8 ≤ 140737488355328 := by have := goneL_len M long now; omega
        have HRl1 : Hid ((risL (M.map (·.k))).length ≤ 140737488355328) := by show _ ≤ _; have := risL_len (M.map (·.k)); omega
        have HRl2 : Hid ((risL (goneL M long now)).length ≤ 140737488355328) := by show _ ≤ _; have := risL_len (goneL M long now); omega
        have HLn : Hid ((M.map (·.k)).length * 8 ≤ 140737488355328 ∧ (goneL M long now).length * 8 ≤ 140737488355328) := ⟨hlen1, hlen2⟩
        clear hlen1 hlen2
        have HML : Hid (M.map (·.k) = M.map (·.k)) := rfl
        generalize M.map (·.k) = KL at HL hLv HRl1 HLn ⊢
        have hGo : ∀ W : World, LA W w.heap.size p long mb M → Calls Try.prog 17 #[.pointer (some ⟨p, 0, none⟩), .int .i64 now] W fun r w' => ∃ v, r = .returned v ∧ IO_ w' W.heap.size v (risL (goneL M long now)) ∧ Below W.heap.size W w' := fun W h => by
          cases mb with
          | none => exact lgone_none h
          | some b => exact lgone_some h HLo.out.1 HLo.out.2 HNow.out (by omega)
        have HGo : Hid (∀ W : World, LA W w.heap.size p long mb M → Calls Try.prog 17 #[.pointer (some ⟨p, 0, none⟩), .int .i64 now] W fun r w' => ∃ v, r = .returned v ∧ IO_ w' W.heap.size v (risL (goneL M long now)) ∧ Below W.heap.size W w') := hGo
        clear hGo HML
        generalize goneL M long now = GL at HG HGo HRl2 HLn ⊢
        have tk1 : Hid True := trivial
        have tk2 : Hid True := trivial
        go_wp2_with (first
          | (go_at_call 16; refine hLv.mono ?_; rintro r w5 ⟨v5, rfl, hr5, hb5⟩; obtain ⟨ao5, c5, rfl, _, _⟩ := GO.shape hr5; have hRs := lrising (GO.toS (GO.new HL.out hb5)) HLn.out.1)
          | (go_at_call 7; have _t := tk1; refine hRs.mono ?_; rintro r w6 ⟨v6, rfl, hr6, hb6⟩; clear tk1 _t hRs; obtain ⟨ao6, c6, rfl, _, _⟩ := GO.shape hr6; have hSm := lsame (GO.toS (GO.new hr5 hb6)) (GO.toS hr6) HRl1.out; rw [decide_eq_true rfl] at hSm)
          | (go_at_call 10; have _t := tk2; refine hSm.mono ?_; rintro r w7 ⟨rfl, q7, hq7⟩; have hb7 : Below w6.heap.size w6 w7 := (by rw [hq7]; exact below_drewN (Below.refl _ _) q7); clear hq7 tk2 _t hSm; have HB6b : Hid (Below wr.heap.size wr w7) := (hb5.trans (hb6.mono hb5.size)).trans (hb7.mono (hb5.trans (hb6.mono hb5.size)).size); clear hb5 hb6 hb7 hr5 hr6; have hGn := HGo.out w7 (HA.out.new HB6b.out))
          | (go_at_call 17; refine hGn.mono ?_; rintro r w8 ⟨v8, rfl, hr8, hb8⟩; obtain ⟨ao8, c8, rfl, _, _⟩ := GO.shape hr8; have HB8b : Hid (Below wr.heap.size wr w8) := HB6b.out.trans (hb8.mono HB6b.out.size); have hRs := lrising (GO.toS (GO.new HG.out HB8b.out)) HLn.out.2)
          | (go_at_call 7; refine hRs.mono ?_; rintro r w9 ⟨v9, rfl, hr9, hb9⟩; obtain ⟨ao9, c9, rfl, _, _⟩ := GO.shape hr9; have hSm := lsame (GO.toS (GO.new hr8 hb9)) (GO.toS hr9) HRl2.out; rw [decide_eq_true rfl] at hSm)
          | (go_at_call 10; refine hSm.mono ?_; rintro r w10 ⟨rfl, q10, hq10⟩; have HQ10 : Hid (w10 = w9.drewN q10) := hq10; clear hq10))
        go_ret
        refine ⟨rfl, ?_⟩
        have b9 := HB8b.out.trans (hb9.mono HB8b.out.size)
        have b10 : Below wr.heap.size wr w10 := by rw [HQ10.out]; exact below_drewN b9 q10
        exact HB.out.trans (b10.mono HB.out.size)
end Go.Proofs.Ytipopaicehimeaa
