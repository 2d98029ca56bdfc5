import Derived.Test.YtmpbdaogdahiiaaGrRefKM
import Derived.Test.YtmpbdaogdahiiaaGrClone2M
import Derived.Test.YtmpbdaogdahiiaaGrThereM
import Derived.Test.YtmpbdaogdahiiaaSpFrM
import Derived.Test.YtmpbdaogdahiiaaGrDataM
import Derived.Test.YtmpbdaogdahiiaaProg
import Derived.WalkKit
import Derived.ProofKit
import Derived.OpenShut
import Derived.Deep.Slices
import Derived.Deep.Strs
import Derived.Lib.SmallJoins
import Derived.SizedLaws
section
/- good of layer 10. -/
namespace Go.Proofs.Ytmpbdaogdahiiaa
open Go.RowKit Go.Shelf
attribute [local go_sem] Oper.semAt_some
def wOk (v : Vx) : Bool := v.es.all fun e => decide (0 ≤ e.w)
def goodB (G : List Vx) : Bool := decide (chk G = 0) && decide (G.length ≤ 20) && G.all wOk
set_option maxRecDepth 100000 in
set_option maxHeartbeats 2000000 in
theorem good_any {w : World} {P : Nat → Prop} {ao : Option Addr} {G : List Vx} (cap : Nat) (h : VxAt w P ao G) (hok : ∀ v ∈ G, v.ok) (hl : G.length * 40 ≤ 140737488355328) :
    Calls Try.prog 10 #[.agg #[.slice ao G.length cap]] w fun r w' => r = .returned (.bool (goodB G)) ∧ Below w.heap.size w w' := by
  have HG : Hid (∀ W, Below w.heap.size w W → VxAt W (fun k => k < w.heap.size) ao G) := fun W hb => (h.mono (Q := fun k => k < w.heap.size) (fun k hk _ => hk)).new hb
  have HOk : Hid (∀ v ∈ G, v.ok) := hok
  have HB0 : Hid (Below w.heap.size w (w.alloc (.cells #[.slice ao G.length cap] 24))) := one_new _ _
  by_cases hc : chk G = 0
  · have HC : Hid _ := hc
    by_cases h20 : G.length ≤ 20
    · clear h hok hc
      go_enter Try.func10, Try.ntmps10
      go_wp2_with (first
        | (go_at_call 9; refine (ref_any G cap (HG.out _ HB0.out) HOk.out hl).mono ?_; rintro r w2 ⟨bo2, c2, rfl, hV2, hb2⟩; have x2 := (hb2.cell (p := ⟨w.heap.size, 0, none⟩) (by simp)).trans (cell_of_one (heap_alloc_new _ _)); have HB2 : Hid (Below w.heap.size w w2) := HB0.out.trans (hb2.mono HB0.out.size))
        | (go_at_call 29; refine (refcheck_any c2 hV2 (by omega) HOk.out).mono ?_; rintro r w3 ⟨rfl, hb3⟩; rw [HC.out]; have x3 := (hb3.cell (p := ⟨w.heap.size, 0, none⟩) (lt_cell x2)).trans x2; have HB3 : Hid (Below w.heap.size w w3) := HB2.out.trans (hb3.mono HB2.out.size)))
      clear x2 hV2 hb2 hb3 HB2 HB0
      obtain ⟨n, hn⟩ : ∃ n, G.length = n := ⟨_, rfl⟩
      have HN : Hid (G.length = n) := hn
      have hV3 := HG.out w3 HB3.out
      have HV3 : Hid _ := hV3
      rw [hn] at x3 h20 ⊢
      clear hV3 hn
      go_loopw [3, 4] (fun i _ wr => ∃ j : Nat, j ≤ n ∧ i = .int .i64 j ∧ wr = w3 ∧ Hid ((G.take j).all wOk = true)) (fun i _ _ => n - (intOf i).toNat)
      case atStart => exact ⟨0, Nat.zero_le _, rfl, rfl, rfl⟩
      case round =>
        obtain ⟨j, hj, rfl, rfl, HT⟩ := hrel
        by_cases hlt : j < n
        · have hjG : j < G.length := by rw [HN.out]; exact hlt
          obtain ⟨b, off, rfl, hP, hcl⟩ := HV3.out (by omega)
          obtain ⟨eo, ec, d0, d1, d2, hE⟩ := hcl j hjG
          obtain ⟨es, hes⟩ : ∃ es, G[j].es = es := ⟨_, rfl⟩
          rw [hes] at d2 hE
          have hle : es.length ≤ 8796093022208 := by rw [← hes]; exact (HOk.out _ (List.getElem_mem hjG)).len
          have HEs : Hid (wOk G[j] = es.all fun e => decide (0 ≤ e.w)) := by show _ = _; unfold wOk; rw [hes]
          have HE : Hid _ := hE
          clear hcl hE hes d0 d1
          go_wp2
          go_loopw [4] (fun i wr' => ∃ k : Nat, k ≤ es.length ∧ i = .int .i64 k ∧ wr' = wr ∧ Hid ((es.take k).all (fun e => decide (0 ≤ e.w)) = true)) (fun i _ => es.length - (intOf i).toNat)
          case atStart => exact ⟨0, Nat.zero_le _, rfl, rfl, rfl⟩
          case round =>
            obtain ⟨k, hk, rfl, rfl, HT2⟩ := hrel
            by_cases hlk : k < es.length
            · obtain ⟨eb, eoff, rfl, hPe, hce⟩ := HE.out (by omega)
              obtain ⟨a0, a1⟩ := hce k hlk
              have HS : Hid ((es.take (k + 1)).all (fun e => decide (0 ≤ e.w)) = decide (0 ≤ es[k].w)) := by
                show _ = _
                rw [List.take_add_one, List.getElem?_eq_getElem hlk, List.all_append, HT2.out]
                simp
              have HNo : Hid (¬ 0 ≤ es[k].w → goodB G = false) := fun hno => by
                have h1 : wOk G[j] = false := by
                  rw [HEs.out]
                  cases hx : es.all (fun e => decide (0 ≤ e.w)) with
                  | false => rfl
                  | true =>
                    have := List.all_eq_true.1 hx es[k] (List.getElem_mem hlk)
                    exact absurd (by simpa using this) hno
                have h2 : G.all wOk = false := by
                  cases hx : G.all wOk with
                  | false => rfl
                  | true =>
                    have := List.all_eq_true.1 hx G[j] (List.getElem_mem hjG)
                    rw [h1] at this
                    cases this
                unfold goodB
                rw [h2, Bool.and_false]
              generalize es[k].w = y at a1 HS HNo
              clear hce a0
              by_cases hy : y < 0
              · go_wp2
                go_ret
                exact ⟨by rw [HNo.out (by omega)]; rfl, HB3.out⟩
              · have hy2 : 0 ≤ y := by omega
                go_wp2
                go_roundw
                case rel => exact ⟨k + 1, by omega, by go_num, (by first | rfl | trivial), by rw [HS.out]; show decide _ = true; simp [hy2]⟩
                case measure => simp [intOf]; omega
            · obtain rfl : k = es.length := by omega
              have HT3 : Hid ((G.take (j + 1)).all wOk = true) := by
                show _ = _
                have h2 := HT2.out
                rw [List.take_of_length_le (Nat.le_refl _)] at h2
                rw [List.take_add_one, List.getElem?_eq_getElem hjG, List.all_append, HT.out]
                simp [HEs.out, h2]
              go_wp2
              go_roundw
              case rel => exact ⟨j + 1, by omega, by go_num, (by first | rfl | trivial), HT3⟩
              case measure => simp [intOf]; omega
        · obtain rfl : j = n := by omega
          have HYes : Hid (goodB G = true) := by
            show _ = _
            have h2 := HT.out
            rw [List.take_of_length_le (by have := HN.out; omega)] at h2
            have h3 := HN.out
            unfold goodB
            simp [HC.out, h2, h3, h20]
          go_wp2
          go_ret
          exact ⟨by rw [HYes.out]; rfl, HB3.out⟩
    · clear h hok hc
      have hf : goodB G = false := by unfold goodB; simp [h20]
      have h21 : (20 : Int) < G.length := by omega
      rw [hf]
      clear hf
      go_enter Try.func10, Try.ntmps10
      go_wp2_with (first
        | (go_at_call 9; refine (ref_any G cap (HG.out _ HB0.out) HOk.out hl).mono ?_; rintro r w2 ⟨bo2, c2, rfl, hV2, hb2⟩; have x2 := (hb2.cell (p := ⟨w.heap.size, 0, none⟩) (by simp)).trans (cell_of_one (heap_alloc_new _ _)); have HB2 : Hid (Below w.heap.size w w2) := HB0.out.trans (hb2.mono HB0.out.size))
        | (go_at_call 29; refine (refcheck_any c2 hV2 (by omega) HOk.out).mono ?_; rintro r w3 ⟨rfl, hb3⟩; rw [HC.out]; have x3 := (hb3.cell (p := ⟨w.heap.size, 0, none⟩) (lt_cell x2)).trans x2; have HB3 : Hid (Below w.heap.size w w3) := HB2.out.trans (hb3.mono HB2.out.size)))
      go_ret
      exact ⟨rfl, HB3.out⟩
  · have hf : goodB G = false := by unfold goodB; simp [hc]
    obtain ⟨c, hcc⟩ : ∃ c, chk G = c := ⟨_, rfl⟩
    have HC : Hid _ := hcc
    rw [hcc] at hc
    rw [hf]
    clear h hok hcc hf
    go_enter Try.func10, Try.ntmps10
    go_wp2_with (first
      | (go_at_call 9; refine (ref_any G cap (HG.out _ HB0.out) HOk.out hl).mono ?_; rintro r w2 ⟨bo2, c2, rfl, hV2, hb2⟩; have x2 := (hb2.cell (p := ⟨w.heap.size, 0, none⟩) (by simp)).trans (cell_of_one (heap_alloc_new _ _)); have HB2 : Hid (Below w.heap.size w w2) := HB0.out.trans (hb2.mono HB0.out.size))
      | (go_at_call 29; refine (refcheck_any c2 hV2 (by omega) HOk.out).mono ?_; rintro r w3 ⟨rfl, hb3⟩; rw [HC.out]; have x3 := (hb3.cell (p := ⟨w.heap.size, 0, none⟩) (lt_cell x2)).trans x2; have HB3 : Hid (Below w.heap.size w w3) := HB2.out.trans (hb3.mono HB2.out.size)))
    go_ret
    exact ⟨rfl, HB3.out⟩
end Go.Proofs.Ytmpbdaogdahiiaa
end

section
/- SpecDegrees: sums. -/
namespace Go.Proofs.Ytmpbdaogdahiiaa
open Go.RowKit Go.Shelf
attribute [local go_sem] Oper.semAt_some
theorem sumE_evs (G : List Vx) (hl : G.length ≤ 256) (hok : ∀ v ∈ G, v.ok) : ∀ k, k ≤ G.length → sumE (G.take k) = (evs (G.take k)).length ∧ (evs (G.take k)).length ≤ k * 8796093022208
  | 0, _ => by simp [sumE, evs]
  | k + 1, h => by
    obtain ⟨ih, ib⟩ := sumE_evs G hl hok k (by omega)
    have hk := (hok _ (List.getElem_mem (show k < G.length by omega))).len
    have e : (evs (G.take (k + 1))).length = (evs (G.take k)).length + G[k].es.length := by rw [evs_snoc G k (by omega)]; simp
    refine ⟨?_, by omega⟩
    rw [sumE_snoc G k (by omega), ih, e]
    unfold wrap64
    omega
theorem evs_few {G : List Vx} (hc : chk G = 0) (hok : ∀ v ∈ G, v.ok) : (evs G).length ≤ 2048 := by
  obtain ⟨hl, _⟩ := rise_of hc
  obtain ⟨h1, _⟩ := sumE_evs G hl hok G.length (Nat.le_refl _)
  rw [List.take_length] at h1
  unfold chk at hc
  split at hc
  · cases hc
  · split at hc
    · cases hc
    · rename_i h2
      have : ¬ 2048 < sumE G := fun h => h2 (Or.inl h)
      omega
theorem evs_take_le (G : List Vx) (k : Nat) : (evs (G.take k)).length ≤ (evs G).length := by
  have h : evs G = evs (G.take k) ++ evs (G.drop k) := by
    unfold evs
    rw [← List.flatMap_append, List.take_append_drop]
  rw [h, List.length_append]
  omega
theorem es_le {G : List Vx} {j : Nat} (h : j < G.length) : G[j].es.length ≤ (evs G).length := by
  have h1 := evs_take_le G (j + 1)
  rw [evs_snoc G j h, List.length_append, List.length_map] at h1
  omega
end Go.Proofs.Ytmpbdaogdahiiaa
end

section
/- SpecSets. -/
namespace Go.Proofs.Ytmpbdaogdahiiaa
open Go.RowKit Go.Shelf Go.Maps
attribute [local go_sem] Oper.semAt_some
set_option linter.unusedSimpArgs false in
set_option linter.unusedVariables false in
set_option maxRecDepth 100000 in
set_option maxHeartbeats 16000000 in
theorem law_sets {w : World} {P : Nat → Prop} {ao : Option Addr} (G : List Vx) (cap : Nat) (k : Int) (h : VxAt w P ao G) (hok : ∀ v ∈ G, v.ok) (hl : G.length * 40 ≤ 140737488355328) (hk : I64 k) :
    Calls Try.prog 4 #[.agg #[.slice ao G.length cap], .int .i64 k] w fun r w' => r = .returned (.bool true) ∧ Below w.heap.size w w' := by
  have HG : Hid (∀ W, Below w.heap.size w W → VxAt W (fun k => k < w.heap.size) ao G) := fun W hb => (h.mono (Q := fun k => k < w.heap.size) (fun k hk _ => hk)).new hb
  have HOk : Hid (∀ v ∈ G, v.ok) := hok
  have HB0 : Hid (Below w.heap.size w (w.alloc (.cells #[.slice ao G.length cap] 24))) := one_new _ _
  by_cases hg : goodB G = true
  · have hg' := hg
    unfold goodB at hg'
    rw [Bool.and_eq_true, Bool.and_eq_true] at hg'
    obtain ⟨⟨hc, h20⟩, _⟩ := hg'
    have hc : chk G = 0 := by simpa using hc
    have h20 : G.length ≤ 20 := by simpa using h20
    obtain ⟨_, hr⟩ := rise_of hc
    have hE := evs_few hc hok
    have hth : thereE G = true := (chk_ok hc).2.2.2.2
    have HR2 : Hid (Rows2 (nearR G) G.length) := rows2_near hr hth hE
    have HPw : Hid (∀ i, i < G.length → RiseI ((nearR G).getD i [])) := fun i hi => rise_pwS (nearR_row hr hth hE hi).1
    have HNb : Hid (∀ i a, i < G.length → a < G.length → nearD G i a = nbB (nearR G) i a) := fun i a hi ha => near_nb hr hth hE hi ha
    have HEs : Hid (∀ v ∈ G, v.es.length ≤ 1000000) := fun v hv => by
      obtain ⟨j, hj, rfl⟩ := List.getElem_of_mem hv
      have := es_le hj
      omega
    have HRi : Hid (Rise (ids G)) := hr
    have HCom : Hid (∀ W, Below w.heap.size w W → Calls Try.prog 12 #[.agg #[.slice ao G.length cap]] W fun r w' => (∃ m L c Fd, r = .returned (.slice (some ⟨m, 0, none⟩) G.length G.length) ∧ IB w' m L ∧ CI (nearR G) G.length (ids G) G.length Fd c L ∧ W.heap.size ≤ m) ∧ Below W.heap.size W w') := fun W hb => components_any cap (HG.out W hb) hok hr hth (by omega) hE
    have HTri : Hid (∀ W, Below w.heap.size w W → Calls Try.prog 13 #[.agg #[.slice ao G.length cap]] W fun r w' => (∃ m, r = .returned (.slice (some ⟨m, 0, none⟩) G.length G.length) ∧ IB w' m (tabF (tri (nearR G)) G.length G.length) ∧ W.heap.size ≤ m) ∧ Below W.heap.size W w') := fun W hb => triangles_any cap (HG.out W hb) hok hr hth (by omega) hE
    have HCore : Hid (∀ kk W, Below w.heap.size w W → Calls Try.prog 14 #[.agg #[.slice ao G.length cap], .int .i64 kk] W fun r w' => (∃ m L R, r = .returned (.slice (some ⟨m, 0, none⟩) G.length G.length) ∧ IB w' m L ∧ CoreI (nearR G) G.length kk L R ∧ (∀ i, i < G.length → 0 ≤ L.getD i 0 → kk ≤ L.getD i 0) ∧ W.heap.size ≤ m) ∧ Below W.heap.size W w') := fun kk W hb => core_any cap kk (HG.out W hb) hok hr hth (by omega) hE
    have HCol : Hid (∀ W, Below w.heap.size w W → Calls Try.prog 15 #[.agg #[.slice ao G.length cap]] W fun r w' => (∃ m C, r = .returned (.slice (some ⟨m, 0, none⟩) G.length G.length) ∧ IB w' m C ∧ C.length = G.length ∧ (∀ i, i < G.length → colOK (nearR G) C i) ∧ W.heap.size ≤ m) ∧ Below W.heap.size W w') := fun W hb => colors_any cap (HG.out W hb) hok hr hth (by omega) hE
    have HGd : Hid (goodB G = true) := hg
    have HK : Hid (I64 k) := hk
    clear h hok hc hg hr hth hk
    generalize nearR G = N at HR2 HPw HNb HCom HTri HCore HCol
    go_enter Try.func4, Try.ntmps4
    go_upto_region 5 with (first
      | (go_at_call 10; refine (good_any cap (HG.out _ HB0.out) HOk.out hl).mono ?_; rintro r w1 ⟨rfl, hb1⟩; rw [HGd.out]; have x1 := (hb1.cell (p := ⟨w.heap.size, 0, none⟩) (by simp)).trans (cell_of_one (heap_alloc_new _ _)); have HB1 : Hid (Below w.heap.size w w1) := HB0.out.trans (hb1.mono HB0.out.size))
      | (go_at_call 9; refine (ref_any G cap (HG.out _ HB1.out) HOk.out hl).mono ?_; rintro r w2 ⟨bo2, c2, rfl, hV2, hb2⟩; have x2 := (hb2.cell (p := ⟨w.heap.size, 0, none⟩) (lt_cell x1)).trans x1; have HB2 : Hid (Below w.heap.size w w2) := HB1.out.trans (hb2.mono HB1.out.size)))
    have HV2 : Hid (VxAt w2 (fun k => w1.heap.size ≤ k) bo2 G) := hV2
    clear hV2 hb1 hb2 x1 HB1
    obtain ⟨n, hn⟩ : ∃ n, G.length = n := ⟨_, rfl⟩
    have HN : Hid (G.length = n) := hn
    rw [hn] at x2 h20 HR2 HPw HNb HCom HTri HCore HCol ⊢
    clear hn
    generalize w.heap.size = q at x2 ⊢
    by_cases hk0 : k < 0
    · have hkb : (0 : Int) ≤ 0 ∧ (0 : Int) ≤ 5 := by omega
      have HCor : Hid (∀ W, Below w.heap.size w W → Calls Try.prog 14 #[.agg #[.slice ao n cap], .int .i64 0] W fun r w' => (∃ m L R, r = .returned (.slice (some ⟨m, 0, none⟩) n n) ∧ IB w' m L ∧ CoreI N n 0 L R ∧ (∀ i, i < n → 0 ≤ L.getD i 0 → 0 ≤ L.getD i 0) ∧ W.heap.size ≤ m) ∧ Below W.heap.size W w') := HCore.out 0
      clear HCore
      go_upto_region 8 with (fail)
      obtain ⟨Wd, hWd⟩ : ∃ Wd, World.drew w2 = Wd := ⟨_, rfl⟩
      have HBWd : Hid (Below w.heap.size w Wd) := by show Below _ _ _; rw [← hWd]; exact bel_drewN HB2.out 1
      have hbd : Below w2.heap.size w2 Wd := by rw [← hWd]; exact bel_drewN (Below.refl _ _) 1
      have hSWd : (fun w' : World => w'.cell? ⟨q, 0, none⟩ = some (.slice ao n cap)) Wd := by rw [← hWd]; exact x2
      have HVd : Hid (VxAt Wd (fun k => w1.heap.size ≤ k) bo2 G) := HV2.out.new hbd
      refine wp_calm ?_
      refine wp_region_L [] (fun w' : World => w'.cell? ⟨q, 0, none⟩ = some (.slice ao n cap)) (by kernel_rfl) ?_
      rw [hWd]
      clear hWd hbd
      have hS := hSWd
      refine wpAnyL_take (i := 0) 32 (v := .agg #[.slice ao n cap]) rfl rfl (by kernel_rfl) (by kernel_rfl) (by kernel_rfl) (by kernel_rfl) (by kernel_rfl) (by kernel_rfl) (fun _ _ _ h => h) hS (by rfl) (by intro w' hSw; have y0 := hSw; go_simp <;> with_reducible rfl) ?_
      simp only [Act.put, List.setIfInBounds_toArray, List.set_cons_zero, List.set_cons_succ]
      refine wpAnyL_take (i := 2) 34 (v := .agg #[.slice ao n cap]) rfl rfl (by kernel_rfl) (by kernel_rfl) (by kernel_rfl) (by kernel_rfl) (by kernel_rfl) (by kernel_rfl) (fun _ _ _ h => h) hS (by rfl) (by intro w' hSw; have y0 := hSw; go_simp <;> with_reducible rfl) ?_
      simp only [Act.put, List.setIfInBounds_toArray, List.set_cons_zero, List.set_cons_succ]
      refine wpAnyL_take (i := 4) 36 (v := .agg #[.slice ao n cap]) rfl rfl (by kernel_rfl) (by kernel_rfl) (by kernel_rfl) (by kernel_rfl) (by kernel_rfl) (by kernel_rfl) (fun _ _ _ h => h) hS (by rfl) (by intro w' hSw; have y0 := hSw; go_simp <;> with_reducible rfl) ?_
      simp only [Act.put, List.setIfInBounds_toArray, List.set_cons_zero, List.set_cons_succ]
      refine wpAnyL_take (i := 5) 37 (v := .int .i64 0) rfl rfl (by kernel_rfl) (by kernel_rfl) (by kernel_rfl) (by kernel_rfl) (by kernel_rfl) (by kernel_rfl) (fun _ _ _ h => h) hS (by rfl) (by intro w' hSw; have y0 := hSw; go_simp <;> with_reducible rfl) ?_
      simp only [Act.put, List.setIfInBounds_toArray, List.set_cons_zero, List.set_cons_succ]
      refine wpAnyL_take (i := 7) 39 (v := .agg #[.slice ao n cap]) rfl rfl (by kernel_rfl) (by kernel_rfl) (by kernel_rfl) (by kernel_rfl) (by kernel_rfl) (by kernel_rfl) (fun _ _ _ h => h) hS (by rfl) (by intro w' hSw; have y0 := hSw; go_simp <;> with_reducible rfl) ?_
      simp only [Act.put, List.setIfInBounds_toArray, List.set_cons_zero, List.set_cons_succ]
      refine wpAnyL_one (i := 1) (by kernel_rfl) rfl (fun Ka hKa => ?_)
      go_simp
      refine (HCom.out Wd HBWd.out).mono ?_
      rintro r w4 ⟨⟨mp, Lp, cc, Fd, rfl, hIp, hCI, hmp⟩, hbw4⟩
      have HBw4 : Hid (Below w.heap.size w w4) := HBWd.out.trans (hbw4.mono HBWd.out.size)
      have hSw4 : (fun w' : World => w'.cell? ⟨q, 0, none⟩ = some (.slice ao n cap)) w4 := (hbw4.cell (p := ⟨q, 0, none⟩) (lt_cell hSWd)).trans hSWd
      refine hKa.out _ _ (fun _ => hSw4) ?_
      clear hKa Ka
      try simp only [Act.put, List.setIfInBounds_toArray, List.set_cons_zero, List.set_cons_succ]
      refine wpAnyL_one (i := 3) (by kernel_rfl) rfl (fun Ka hKa => ?_)
      go_simp
      refine (HTri.out w4 HBw4.out).mono ?_
      rintro r w5 ⟨⟨mt, rfl, hIt, hmt⟩, hbw5⟩
      have HBw5 : Hid (Below w.heap.size w w5) := HBw4.out.trans (hbw5.mono HBw4.out.size)
      have hSw5 : (fun w' : World => w'.cell? ⟨q, 0, none⟩ = some (.slice ao n cap)) w5 := (hbw5.cell (p := ⟨q, 0, none⟩) (lt_cell hSw4)).trans hSw4
      refine hKa.out _ _ (fun _ => hSw5) ?_
      clear hKa Ka
      try simp only [Act.put, List.setIfInBounds_toArray, List.set_cons_zero, List.set_cons_succ]
      refine wpAnyL_one (i := 6) (by kernel_rfl) rfl (fun Ka hKa => ?_)
      go_simp
      refine (HCor.out w5 HBw5.out).mono ?_
      rintro r w6 ⟨⟨mc, Lc, R, rfl, hIc, hCC, hCk, hmc⟩, hbw6⟩
      have HBw6 : Hid (Below w.heap.size w w6) := HBw5.out.trans (hbw6.mono HBw5.out.size)
      have hSw6 : (fun w' : World => w'.cell? ⟨q, 0, none⟩ = some (.slice ao n cap)) w6 := (hbw6.cell (p := ⟨q, 0, none⟩) (lt_cell hSw5)).trans hSw5
      refine hKa.out _ _ (fun _ => hSw6) ?_
      clear hKa Ka
      try simp only [Act.put, List.setIfInBounds_toArray, List.set_cons_zero, List.set_cons_succ]
      refine wpAnyL_one (i := 8) (by kernel_rfl) rfl (fun Ka hKa => ?_)
      go_simp
      refine (HCol.out w6 HBw6.out).mono ?_
      rintro r w7 ⟨⟨mo, C, rfl, hIo, hCl, hCo, hmo⟩, hbw7⟩
      have HBw7 : Hid (Below w.heap.size w w7) := HBw6.out.trans (hbw7.mono HBw6.out.size)
      have hSw7 : (fun w' : World => w'.cell? ⟨q, 0, none⟩ = some (.slice ao n cap)) w7 := (hbw7.cell (p := ⟨q, 0, none⟩) (lt_cell hSw6)).trans hSw6
      refine hKa.out _ _ (fun _ => hSw7) ?_
      clear hKa Ka
      try simp only [Act.put, List.setIfInBounds_toArray, List.set_cons_zero, List.set_cons_succ]
      refine wpAnyL_take (i := 9) 7 (v := .slice (some ⟨mp, 0, none⟩) n n) rfl rfl (by kernel_rfl) (by kernel_rfl) (by kernel_rfl) (by kernel_rfl) (by kernel_rfl) (by kernel_rfl) (fun _ _ _ h => h) hSw7 (by rfl) (by intro w' hSw; go_simp <;> with_reducible rfl) ?_
      simp only [Act.put, List.setIfInBounds_toArray, List.set_cons_zero, List.set_cons_succ]
      refine wpAnyL_take (i := 10) 8 (v := .slice (some ⟨mt, 0, none⟩) n n) rfl rfl (by kernel_rfl) (by kernel_rfl) (by kernel_rfl) (by kernel_rfl) (by kernel_rfl) (by kernel_rfl) (fun _ _ _ h => h) hSw7 (by rfl) (by intro w' hSw; go_simp <;> with_reducible rfl) ?_
      simp only [Act.put, List.setIfInBounds_toArray, List.set_cons_zero, List.set_cons_succ]
      refine wpAnyL_take (i := 11) 9 (v := .slice (some ⟨mc, 0, none⟩) n n) rfl rfl (by kernel_rfl) (by kernel_rfl) (by kernel_rfl) (by kernel_rfl) (by kernel_rfl) (by kernel_rfl) (fun _ _ _ h => h) hSw7 (by rfl) (by intro w' hSw; go_simp <;> with_reducible rfl) ?_
      simp only [Act.put, List.setIfInBounds_toArray, List.set_cons_zero, List.set_cons_succ]
      refine wpAnyL_take (i := 12) 10 (v := .slice (some ⟨mo, 0, none⟩) n n) rfl rfl (by kernel_rfl) (by kernel_rfl) (by kernel_rfl) (by kernel_rfl) (by kernel_rfl) (by kernel_rfl) (fun _ _ _ h => h) hSw7 (by rfl) (by intro w' hSw; go_simp <;> with_reducible rfl) ?_
      simp only [Act.put, List.setIfInBounds_toArray, List.set_cons_zero, List.set_cons_succ]
      refine wpAnyL_done (by kernel_rfl) ?_ _
      have HBw : Hid (Below w.heap.size w w7) := HBw7
      have HIp : Hid (IB w7 mp Lp) := ((hIp.new hbw5).new hbw6).new hbw7
      have HIt : Hid (IB w7 mt (tabF (tri N) n n)) := (hIt.new hbw6).new hbw7
      have HIc : Hid (IB w7 mc Lc) := hIc.new hbw7
      have HIo : Hid (IB w7 mo C) := hIo
      have bdw : Below Wd.heap.size Wd w7 := ((hbw4.trans (hbw5.mono hbw4.size)).trans (hbw6.mono (hbw4.trans (hbw5.mono hbw4.size)).size)).trans (hbw7.mono ((hbw4.trans (hbw5.mono hbw4.size)).trans (hbw6.mono (hbw4.trans (hbw5.mono hbw4.size)).size)).size)
      have HV7 : Hid (VxAt w7 (fun k => w1.heap.size ≤ k) bo2 G) := HVd.out.new bdw
      have HCI : Hid (CI N n (ids G) n Fd cc Lp) := hCI
      have HCC : Hid (CoreI N n 0 Lc R) := hCC
      have HCk : Hid (∀ i, i < n → 0 ≤ Lc.getD i 0 → 0 ≤ Lc.getD i 0) := hCk
      have HCo : Hid (∀ i, i < n → colOK N C i) := hCo
      have HCl : Hid (C.length = n) := hCl
      clear hIp hIt hIc hIo hCI hCC hCk hCo hCl hbw4 hbw5 hbw6 hbw7 bdw hSw4 hSw5 hSw6 hSw7 hSWd hS HBw4 HBw5 HBw6 HBWd HVd hmp hmt hmc hmo
      have hNr : ∀ W i a, Below w7.heap.size w7 W → i < n → a < n → Calls Try.prog 17 #[.slice bo2 n c2, .int .i64 (i : Nat), .int .i64 (a : Nat)] W fun r w' => r = .returned (.bool (nbB N i a)) ∧ Below W.heap.size W w' := fun W i a hb hi ha => by
        have := near_any c2 (HV7.out.new hb) (by rw [HN.out]; exact hi) (by rw [HN.out]; exact ha) HEs.out
        rw [HN.out, HNb.out i a hi ha] at this
        exact this
      have hFn : ∀ W i, Below w7.heap.size w7 W → i < n → Calls Try.prog 16 #[.slice bo2 n c2, .int .i64 (Lp.getD i 0)] W fun r w' => r = .returned (.tuple #[.int .i64 (cc i : Nat), .bool true]) ∧ Below W.heap.size W w' := fun W i hb hi => by
        have h1 := sf_find HRi.out (by rw [HN.out]; exact HCI.out) (i := i) (by rw [HN.out]; exact hi)
        have := reffind_any c2 (Lp.getD i 0) (HV7.out.new hb) (by rw [HN.out]; omega)
        rw [HN.out, h1.1, h1.2] at this
        exact this
      have HNr : Hid (∀ W i a, Below w7.heap.size w7 W → i < n → a < n → Calls Try.prog 17 #[.slice bo2 n c2, .int .i64 (i : Nat), .int .i64 (a : Nat)] W fun r w' => r = .returned (.bool (nbB N i a)) ∧ Below W.heap.size W w') := hNr
      have HFn : Hid (∀ W i, Below w7.heap.size w7 W → i < n → Calls Try.prog 16 #[.slice bo2 n c2, .int .i64 (Lp.getD i 0)] W fun r w' => r = .returned (.tuple #[.int .i64 (cc i : Nat), .bool true]) ∧ Below W.heap.size W w') := hFn
      clear hNr hFn
      go_wp2
      refine ss_loop1 (w := w7) h20 HNr.out HFn.out HIp.out HCI.out.lenL HIt.out (tabF_len _ _ _) HIc.out HCC.out.len HIo.out HCl.out (fun i hi => sf_cc HCI.out hi) (fun i a hi ha hb => sf_par HCI.out hi ha hb) (fun i a hi ha hb => sf_col HR2.out HCo.out hi ha hb) (fun a ha => sf_c64 HCo.out ha) (fun i hi => by rw [← tri_is HR2.out HPw.out hi]; simp [tabF, List.getD, hi]) (fun i hi d hd => sf_cB HR2.out HCo.out hi d hd) (fun i hi => sf_cA HCo.out hi) (fun i hi h0 => by have e := inC_is HR2.out HPw.out HCC.out hi h0; exact ⟨e, by rw [← e]; exact HCk.out i hi h0⟩) (Below.refl _ _) ?_
      intro wx y4 y11 y12 y13 y14 y15 y16 y17 y18 y19 y63 y64 y65 y66 y67 y68 y69 y70 y71 y72 y73 y74 y75 y76 y77 y78 y79 y80 y81 y82 y83 y84 y85 y86 y87 y88 y89 y90 y91 y92 y93 y94 y95 y96 y97 y98 y99 y100 y101 y102 y103 y104 y105 y106 y107 y108 y109 y110 y111 y112 y113 y114 y115 y116 y117 y118 y119 y120 y121 y122 y123 y124 y125 y126 y127 y128 y129 y130 y131 y132 y133 y134 y135 y136 y137 y138 y139 y140 y141 y142 y143 y144 y145 y146 y147 y148 y149 y150 y151 y152 y153 y154 y155 y156 y157 y158 y159 y160 y161 y162 y163 y164 y165 y166 y167 y168 y169 y170 y171 y172 y173 y174 y175 y176 y177 y178 y179 y180 y181 y182 y183 y184 y185 y186 y187 y188 y189 y190 y191 y192 y193 y194 y195 y196 y197 y198 y199 y200 y201 y202 y203 y204 y205 y206 y207 y208 y209 y210 y211 y212 y213 y214 y215 hbx
      have HBx : Hid (Below w7.heap.size w7 wx) := hbx
      clear hbx
      go_wp2_with (first
        | (go_at_call 11; refine (awake10 _).mono ?_; rintro r w9 ⟨rfl, hb9⟩; have HB9 : Hid (Below w7.heap.size w7 w9) := HBx.out.trans (hb9.mono HBx.out.size); have hGr := greatest_any c2 (HV7.out.new HB9.out) HEs.out (by rw [HN.out]; omega) (N := N) (by rw [HN.out]; exact HR2.out) (by rw [HN.out]; exact HPw.out) (by rw [HN.out]; exact HNb.out) (IB.new HIc.out HB9.out) (R := R) (k := 0) (by rw [HN.out]; exact HCC.out) (by rw [HN.out]; exact HCk.out); rw [HN.out] at hGr)
        | (go_at_call 18; refine hGr.mono ?_; rintro r w10 ⟨rfl, hb10⟩))
      go_ret
      have b9 := HB9.out.trans (hb10.mono HB9.out.size)
      exact ⟨rfl, HBw.out.trans (b9.mono HBw.out.size)⟩
    · have hk1 : 0 ≤ k := by omega
      go_upto_region 8 with (fail)
      have hkb : 0 ≤ k % 6 ∧ k % 6 ≤ 5 := by omega
      generalize k % 6 = kk at hkb ⊢
      have HCor : Hid (∀ W, Below w.heap.size w W → Calls Try.prog 14 #[.agg #[.slice ao n cap], .int .i64 kk] W fun r w' => (∃ m L R, r = .returned (.slice (some ⟨m, 0, none⟩) n n) ∧ IB w' m L ∧ CoreI N n kk L R ∧ (∀ i, i < n → 0 ≤ L.getD i 0 → kk ≤ L.getD i 0) ∧ W.heap.size ≤ m) ∧ Below W.heap.size W w') := HCore.out kk
      clear HCore
      obtain ⟨Wd, hWd⟩ : ∃ Wd, World.drew w2 = Wd := ⟨_, rfl⟩
      have HBWd : Hid (Below w.heap.size w Wd) := by show Below _ _ _; rw [← hWd]; exact bel_drewN HB2.out 1
      have hbd : Below w2.heap.size w2 Wd := by rw [← hWd]; exact bel_drewN (Below.refl _ _) 1
      have hSWd : (fun w' : World => w'.cell? ⟨q, 0, none⟩ = some (.slice ao n cap)) Wd := by rw [← hWd]; exact x2
      have HVd : Hid (VxAt Wd (fun k => w1.heap.size ≤ k) bo2 G) := HV2.out.new hbd
      refine wp_calm ?_
      refine wp_region_L [] (fun w' : World => w'.cell? ⟨q, 0, none⟩ = some (.slice ao n cap)) (by kernel_rfl) ?_
      rw [hWd]
      clear hWd hbd
      have hS := hSWd
      refine wpAnyL_take (i := 0) 32 (v := .agg #[.slice ao n cap]) rfl rfl (by kernel_rfl) (by kernel_rfl) (by kernel_rfl) (by kernel_rfl) (by kernel_rfl) (by kernel_rfl) (fun _ _ _ h => h) hS (by rfl) (by intro w' hSw; have y0 := hSw; go_simp <;> with_reducible rfl) ?_
      simp only [Act.put, List.setIfInBounds_toArray, List.set_cons_zero, List.set_cons_succ]
      refine wpAnyL_take (i := 2) 34 (v := .agg #[.slice ao n cap]) rfl rfl (by kernel_rfl) (by kernel_rfl) (by kernel_rfl) (by kernel_rfl) (by kernel_rfl) (by kernel_rfl) (fun _ _ _ h => h) hS (by rfl) (by intro w' hSw; have y0 := hSw; go_simp <;> with_reducible rfl) ?_
      simp only [Act.put, List.setIfInBounds_toArray, List.set_cons_zero, List.set_cons_succ]
      refine wpAnyL_take (i := 4) 36 (v := .agg #[.slice ao n cap]) rfl rfl (by kernel_rfl) (by kernel_rfl) (by kernel_rfl) (by kernel_rfl) (by kernel_rfl) (by kernel_rfl) (fun _ _ _ h => h) hS (by rfl) (by intro w' hSw; have y0 := hSw; go_simp <;> with_reducible rfl) ?_
      simp only [Act.put, List.setIfInBounds_toArray, List.set_cons_zero, List.set_cons_succ]
      refine wpAnyL_take (i := 5) 37 (v := .int .i64 kk) rfl rfl (by kernel_rfl) (by kernel_rfl) (by kernel_rfl) (by kernel_rfl) (by kernel_rfl) (by kernel_rfl) (fun _ _ _ h => h) hS (by rfl) (by intro w' hSw; have y0 := hSw; go_simp <;> with_reducible rfl) ?_
      simp only [Act.put, List.setIfInBounds_toArray, List.set_cons_zero, List.set_cons_succ]
      refine wpAnyL_take (i := 7) 39 (v := .agg #[.slice ao n cap]) rfl rfl (by kernel_rfl) (by kernel_rfl) (by kernel_rfl) (by kernel_rfl) (by kernel_rfl) (by kernel_rfl) (fun _ _ _ h => h) hS (by rfl) (by intro w' hSw; have y0 := hSw; go_simp <;> with_reducible rfl) ?_
      simp only [Act.put, List.setIfInBounds_toArray, List.set_cons_zero, List.set_cons_succ]
      refine wpAnyL_one (i := 1) (by kernel_rfl) rfl (fun Ka hKa => ?_)
      go_simp
      refine (HCom.out Wd HBWd.out).mono ?_
      rintro r w4 ⟨⟨mp, Lp, cc, Fd, rfl, hIp, hCI, hmp⟩, hbw4⟩
      have HBw4 : Hid (Below w.heap.size w w4) := HBWd.out.trans (hbw4.mono HBWd.out.size)
      have hSw4 : (fun w' : World => w'.cell? ⟨q, 0, none⟩ = some (.slice ao n cap)) w4 := (hbw4.cell (p := ⟨q, 0, none⟩) (lt_cell hSWd)).trans hSWd
      refine hKa.out _ _ (fun _ => hSw4) ?_
      clear hKa Ka
      try simp only [Act.put, List.setIfInBounds_toArray, List.set_cons_zero, List.set_cons_succ]
      refine wpAnyL_one (i := 3) (by kernel_rfl) rfl (fun Ka hKa => ?_)
      go_simp
      refine (HTri.out w4 HBw4.out).mono ?_
      rintro r w5 ⟨⟨mt, rfl, hIt, hmt⟩, hbw5⟩
      have HBw5 : Hid (Below w.heap.size w w5) := HBw4.out.trans (hbw5.mono HBw4.out.size)
      have hSw5 : (fun w' : World => w'.cell? ⟨q, 0, none⟩ = some (.slice ao n cap)) w5 := (hbw5.cell (p := ⟨q, 0, none⟩) (lt_cell hSw4)).trans hSw4
      refine hKa.out _ _ (fun _ => hSw5) ?_
      clear hKa Ka
      try simp only [Act.put, List.setIfInBounds_toArray, List.set_cons_zero, List.set_cons_succ]
      refine wpAnyL_one (i := 6) (by kernel_rfl) rfl (fun Ka hKa => ?_)
      go_simp
      refine (HCor.out w5 HBw5.out).mono ?_
      rintro r w6 ⟨⟨mc, Lc, R, rfl, hIc, hCC, hCk, hmc⟩, hbw6⟩
      have HBw6 : Hid (Below w.heap.size w w6) := HBw5.out.trans (hbw6.mono HBw5.out.size)
      have hSw6 : (fun w' : World => w'.cell? ⟨q, 0, none⟩ = some (.slice ao n cap)) w6 := (hbw6.cell (p := ⟨q, 0, none⟩) (lt_cell hSw5)).trans hSw5
      refine hKa.out _ _ (fun _ => hSw6) ?_
      clear hKa Ka
      try simp only [Act.put, List.setIfInBounds_toArray, List.set_cons_zero, List.set_cons_succ]
      refine wpAnyL_one (i := 8) (by kernel_rfl) rfl (fun Ka hKa => ?_)
      go_simp
      refine (HCol.out w6 HBw6.out).mono ?_
      rintro r w7 ⟨⟨mo, C, rfl, hIo, hCl, hCo, hmo⟩, hbw7⟩
      have HBw7 : Hid (Below w.heap.size w w7) := HBw6.out.trans (hbw7.mono HBw6.out.size)
      have hSw7 : (fun w' : World => w'.cell? ⟨q, 0, none⟩ = some (.slice ao n cap)) w7 := (hbw7.cell (p := ⟨q, 0, none⟩) (lt_cell hSw6)).trans hSw6
      refine hKa.out _ _ (fun _ => hSw7) ?_
      clear hKa Ka
      try simp only [Act.put, List.setIfInBounds_toArray, List.set_cons_zero, List.set_cons_succ]
      refine wpAnyL_take (i := 9) 7 (v := .slice (some ⟨mp, 0, none⟩) n n) rfl rfl (by kernel_rfl) (by kernel_rfl) (by kernel_rfl) (by kernel_rfl) (by kernel_rfl) (by kernel_rfl) (fun _ _ _ h => h) hSw7 (by rfl) (by intro w' hSw; go_simp <;> with_reducible rfl) ?_
      simp only [Act.put, List.setIfInBounds_toArray, List.set_cons_zero, List.set_cons_succ]
      refine wpAnyL_take (i := 10) 8 (v := .slice (some ⟨mt, 0, none⟩) n n) rfl rfl (by kernel_rfl) (by kernel_rfl) (by kernel_rfl) (by kernel_rfl) (by kernel_rfl) (by kernel_rfl) (fun _ _ _ h => h) hSw7 (by rfl) (by intro w' hSw; go_simp <;> with_reducible rfl) ?_
      simp only [Act.put, List.setIfInBounds_toArray, List.set_cons_zero, List.set_cons_succ]
      refine wpAnyL_take (i := 11) 9 (v := .slice (some ⟨mc, 0, none⟩) n n) rfl rfl (by kernel_rfl) (by kernel_rfl) (by kernel_rfl) (by kernel_rfl) (by kernel_rfl) (by kernel_rfl) (fun _ _ _ h => h) hSw7 (by rfl) (by intro w' hSw; go_simp <;> with_reducible rfl) ?_
      simp only [Act.put, List.setIfInBounds_toArray, List.set_cons_zero, List.set_cons_succ]
      refine wpAnyL_take (i := 12) 10 (v := .slice (some ⟨mo, 0, none⟩) n n) rfl rfl (by kernel_rfl) (by kernel_rfl) (by kernel_rfl) (by kernel_rfl) (by kernel_rfl) (by kernel_rfl) (fun _ _ _ h => h) hSw7 (by rfl) (by intro w' hSw; go_simp <;> with_reducible rfl) ?_
      simp only [Act.put, List.setIfInBounds_toArray, List.set_cons_zero, List.set_cons_succ]
      refine wpAnyL_done (by kernel_rfl) ?_ _
      have HBw : Hid (Below w.heap.size w w7) := HBw7
      have HIp : Hid (IB w7 mp Lp) := ((hIp.new hbw5).new hbw6).new hbw7
      have HIt : Hid (IB w7 mt (tabF (tri N) n n)) := (hIt.new hbw6).new hbw7
      have HIc : Hid (IB w7 mc Lc) := hIc.new hbw7
      have HIo : Hid (IB w7 mo C) := hIo
      have bdw : Below Wd.heap.size Wd w7 := ((hbw4.trans (hbw5.mono hbw4.size)).trans (hbw6.mono (hbw4.trans (hbw5.mono hbw4.size)).size)).trans (hbw7.mono ((hbw4.trans (hbw5.mono hbw4.size)).trans (hbw6.mono (hbw4.trans (hbw5.mono hbw4.size)).size)).size)
      have HV7 : Hid (VxAt w7 (fun k => w1.heap.size ≤ k) bo2 G) := HVd.out.new bdw
      have HCI : Hid (CI N n (ids G) n Fd cc Lp) := hCI
      have HCC : Hid (CoreI N n kk Lc R) := hCC
      have HCk : Hid (∀ i, i < n → 0 ≤ Lc.getD i 0 → kk ≤ Lc.getD i 0) := hCk
      have HCo : Hid (∀ i, i < n → colOK N C i) := hCo
      have HCl : Hid (C.length = n) := hCl
      clear hIp hIt hIc hIo hCI hCC hCk hCo hCl hbw4 hbw5 hbw6 hbw7 bdw hSw4 hSw5 hSw6 hSw7 hSWd hS HBw4 HBw5 HBw6 HBWd HVd hmp hmt hmc hmo
      have hNr : ∀ W i a, Below w7.heap.size w7 W → i < n → a < n → Calls Try.prog 17 #[.slice bo2 n c2, .int .i64 (i : Nat), .int .i64 (a : Nat)] W fun r w' => r = .returned (.bool (nbB N i a)) ∧ Below W.heap.size W w' := fun W i a hb hi ha => by
        have := near_any c2 (HV7.out.new hb) (by rw [HN.out]; exact hi) (by rw [HN.out]; exact ha) HEs.out
        rw [HN.out, HNb.out i a hi ha] at this
        exact this
      have hFn : ∀ W i, Below w7.heap.size w7 W → i < n → Calls Try.prog 16 #[.slice bo2 n c2, .int .i64 (Lp.getD i 0)] W fun r w' => r = .returned (.tuple #[.int .i64 (cc i : Nat), .bool true]) ∧ Below W.heap.size W w' := fun W i hb hi => by
        have h1 := sf_find HRi.out (by rw [HN.out]; exact HCI.out) (i := i) (by rw [HN.out]; exact hi)
        have := reffind_any c2 (Lp.getD i 0) (HV7.out.new hb) (by rw [HN.out]; omega)
        rw [HN.out, h1.1, h1.2] at this
        exact this
      have HNr : Hid (∀ W i a, Below w7.heap.size w7 W → i < n → a < n → Calls Try.prog 17 #[.slice bo2 n c2, .int .i64 (i : Nat), .int .i64 (a : Nat)] W fun r w' => r = .returned (.bool (nbB N i a)) ∧ Below W.heap.size W w') := hNr
      have HFn : Hid (∀ W i, Below w7.heap.size w7 W → i < n → Calls Try.prog 16 #[.slice bo2 n c2, .int .i64 (Lp.getD i 0)] W fun r w' => r = .returned (.tuple #[.int .i64 (cc i : Nat), .bool true]) ∧ Below W.heap.size W w') := hFn
      clear hNr hFn
      go_wp2
      refine ss_loop1 (w := w7) h20 HNr.out HFn.out HIp.out HCI.out.lenL HIt.out (tabF_len _ _ _) HIc.out HCC.out.len HIo.out HCl.out (fun i hi => sf_cc HCI.out hi) (fun i a hi ha hb => sf_par HCI.out hi ha hb) (fun i a hi ha hb => sf_col HR2.out HCo.out hi ha hb) (fun a ha => sf_c64 HCo.out ha) (fun i hi => by rw [← tri_is HR2.out HPw.out hi]; simp [tabF, List.getD, hi]) (fun i hi d hd => sf_cB HR2.out HCo.out hi d hd) (fun i hi => sf_cA HCo.out hi) (fun i hi h0 => by have e := inC_is HR2.out HPw.out HCC.out hi h0; exact ⟨e, by rw [← e]; exact HCk.out i hi h0⟩) (Below.refl _ _) ?_
      intro wx y4 y11 y12 y13 y14 y15 y16 y17 y18 y19 y63 y64 y65 y66 y67 y68 y69 y70 y71 y72 y73 y74 y75 y76 y77 y78 y79 y80 y81 y82 y83 y84 y85 y86 y87 y88 y89 y90 y91 y92 y93 y94 y95 y96 y97 y98 y99 y100 y101 y102 y103 y104 y105 y106 y107 y108 y109 y110 y111 y112 y113 y114 y115 y116 y117 y118 y119 y120 y121 y122 y123 y124 y125 y126 y127 y128 y129 y130 y131 y132 y133 y134 y135 y136 y137 y138 y139 y140 y141 y142 y143 y144 y145 y146 y147 y148 y149 y150 y151 y152 y153 y154 y155 y156 y157 y158 y159 y160 y161 y162 y163 y164 y165 y166 y167 y168 y169 y170 y171 y172 y173 y174 y175 y176 y177 y178 y179 y180 y181 y182 y183 y184 y185 y186 y187 y188 y189 y190 y191 y192 y193 y194 y195 y196 y197 y198 y199 y200 y201 y202 y203 y204 y205 y206 y207 y208 y209 y210 y211 y212 y213 y214 y215 hbx
      have HBx : Hid (Below w7.heap.size w7 wx) := hbx
      clear hbx
      go_wp2_with (first
        | (go_at_call 11; refine (awake10 _).mono ?_; rintro r w9 ⟨rfl, hb9⟩; have HB9 : Hid (Below w7.heap.size w7 w9) := HBx.out.trans (hb9.mono HBx.out.size); have hGr := greatest_any c2 (HV7.out.new HB9.out) HEs.out (by rw [HN.out]; omega) (N := N) (by rw [HN.out]; exact HR2.out) (by rw [HN.out]; exact HPw.out) (by rw [HN.out]; exact HNb.out) (IB.new HIc.out HB9.out) (R := R) (k := kk) (by rw [HN.out]; exact HCC.out) (by rw [HN.out]; exact HCk.out); rw [HN.out] at hGr)
        | (go_at_call 18; refine hGr.mono ?_; rintro r w10 ⟨rfl, hb10⟩))
      go_ret
      have b9 := HB9.out.trans (hb10.mono HB9.out.size)
      exact ⟨rfl, HBw.out.trans (b9.mono HBw.out.size)⟩
  · have hg : goodB G = false := by simpa using hg
    have HGd : Hid _ := hg
    clear h hok hg
    go_enter Try.func4, Try.ntmps4
    go_wp2_with (first
      | (go_at_call 10; refine (good_any cap (HG.out _ HB0.out) HOk.out hl).mono ?_; rintro r w1 ⟨rfl, hb1⟩; rw [HGd.out]; have HB1 : Hid (Below w.heap.size w w1) := HB0.out.trans (hb1.mono HB0.out.size))
      | (go_at_call 11; refine (awake10 _).mono ?_; rintro r w2 ⟨rfl, hb2⟩))
    go_ret
    exact ⟨rfl, HB1.out.trans (hb2.mono HB1.out.size)⟩
end Go.Proofs.Ytmpbdaogdahiiaa
end

section
/- How edges, vertices and graphs that came in are opened. -/
namespace Go.Proofs.Ytmpbdaogdahiiaa
open Go.RowKit Go.Deep Go.Joins Go.ChangeShapes
theorem cellsL : Try.prog.cellsOf 2 = 1 := by kernel_rfl
theorem cellsEs : Try.prog.cellsOf 56 = 1 := by kernel_rfl
theorem cellsVs : Try.prog.cellsOf 22 = 1 := by kernel_rfl
theorem cellsEd : Try.prog.cellsOf 55 = 2 := by kernel_rfl
theorem cellsVx : Try.prog.cellsOf 58 = 3 := by kernel_rfl
theorem cellsGr : Try.prog.cellsOf 24 = 1 := by kernel_rfl
theorem two_of {α : Type} {l : List α} (h : l.length = 2) : ∃ a b, l = [a, b] := by
  match l, h with
  | [a, b], _ => exact ⟨a, b, rfl⟩
theorem three_of {α : Type} {l : List α} (h : l.length = 3) : ∃ a b c, l = [a, b, c] := by
  match l, h with
  | [a, b, c], _ => exact ⟨a, b, c, rfl⟩
theorem add_none {b off : Nat} (j i : Nat) : (((⟨b, off, none⟩ : Addr).add j).add i) = ⟨b, off + j + i, none⟩ := by
  rw [add_add]
  unfold Addr.add
  split <;> simp_all <;> omega
section
variable {H : Type} {enc : TypeId × Value → H} {w : World} {base : Nat} {spare : Nat → Bool} {held : Bool}
def Ed.data (e : Ed) : DataW H := .agg [.lit (.int .i64 e.t), .lit (.int .i64 e.w)]
theorem i64_of {a : Int} (h : (Lit.int .i64 a).wf = true) : I64 a := by have := bounds_i64 h; unfold I64; omega
theorem open_ed {n : Nat} {cs : List Value} {x : DataW H × List MemPlace} (h : DataW.trod enc Try.prog w base spare held n 55 cs = some x) :
    ∃ y : Ed, cs = [.int .i64 y.t, .int .i64 y.w] ∧ x.1 = y.data ∧ y.ok := by
  obtain ⟨y0, y1, m, rfl, hl, h0, h1⟩ := trod_struct2 Try.underlying55 h
  rw [cellsEd] at hl
  obtain ⟨v0, v1, rfl⟩ := two_of hl
  simp only [cellsL] at h0 h1
  obtain ⟨a, e0, rfl, wa⟩ := DataW.trod_int Try.underlying2 h0
  obtain ⟨b, e1, rfl, wb⟩ := DataW.trod_int Try.underlying2 h1
  simp at e0 e1
  subst e0 e1
  exact ⟨⟨a, b⟩, rfl, rfl, ⟨i64_of wa, i64_of wb⟩⟩
theorem open_eds {n : Nat} {cs : List Value} {x : DataW H × List MemPlace} (h : DataW.trod enc Try.prog w base spare held n 56 cs = some x) :
    ∃ (ao : Option Addr) (cap : Nat) (L : List Ed), cs = [.slice ao L.length cap] ∧ (∀ y ∈ L, y.ok) ∧ L.length ≤ maxLen ∧ EdAt w (fun k => k < w.heap.size) ao L ∧ ((x.1 = .nil ∧ L = []) ∨ ∃ sp, x.1 = .slice (L.map Ed.data) sp) := by
  rcases open_slice Try.underlying56 h with ⟨h0, h1⟩ | ⟨a, len, cap, m, k, D, Pl, rfl, hb, hl, hm, hmm, rfl, hx⟩
  · exact ⟨none, 0, [], h0, fun y hy => (by cases hy), by simp, fun h => absurd h (by simp), Or.inl ⟨by rw [h1], rfl⟩⟩
  · have hlm : len ≤ m := by rw [hmm]; split <;> omega
    have each : ∀ i, i < len → ∃ y : Ed, w.cells? base (a.add (i * 2)) 2 = some [.int .i64 y.t, .int .i64 y.w] ∧ D i = y.data ∧ y.ok := by
      intro i hi
      obtain ⟨cs', h1, h2⟩ := hx i (by omega)
      rw [cellsEd] at h1
      obtain ⟨y, rfl, h3, h4⟩ := open_ed h2
      exact ⟨y, h1, h3, h4⟩
    haveI : Inhabited Ed := ⟨⟨0, 0⟩⟩
    obtain ⟨q, hq⟩ := choose_lt each
    have hlen : ((List.range len).map q).length = len := by simp
    refine ⟨some a, cap, (List.range len).map q, by rw [hlen], ?_, by rw [hlen]; omega, ?_, Or.inr ⟨(List.range (m - len)).map fun j => D (len + j), ?_⟩⟩
    · intro y hy
      obtain ⟨i, hi, rfl⟩ := List.mem_map.1 hy
      exact (hq i (List.mem_range.1 hi)).2.2
    · intro hpos
      rw [hlen] at hpos
      obtain ⟨_, _, hc0⟩ := World.cells?_some (hq 0 hpos).1
      have hs0 := World.cell?_spot (hc0 0 (by simp))
      have hspot : a.spot = none := by simpa [Addr.add] using hs0
      obtain ⟨b, off, spot⟩ := a
      simp only at hspot
      subst hspot
      have hcell : ∀ j (_ : j < len), w.cell? ⟨b, off + j * 2, none⟩ = some (.int .i64 (q j).t) ∧ w.cell? ⟨b, off + j * 2 + 1, none⟩ = some (.int .i64 (q j).w) := by
        intro j hj
        obtain ⟨_, _, hc⟩ := World.cells?_some (hq j hj).1
        have e0 := hc 0 (by simp)
        have e1 := hc 1 (by simp)
        rw [add_none] at e0 e1
        simp at e0 e1
        exact ⟨e0, e1⟩
      refine ⟨b, off, rfl, lt_cell (hcell 0 hpos).1, ?_⟩
      intro j hj
      have hj' : j < len := by simpa using hj
      simp only [List.getElem_map, List.getElem_range]
      exact hcell j hj'
    · show DataW.slice _ _ = _
      rw [List.map_map]
      congr 1
      exact List.map_congr_left (fun i hi => (hq i (List.mem_range.1 hi)).2.1)
/-- A vertex's three cells, opened. -/
theorem open_vx {n : Nat} {cs : List Value} {x : DataW H × List MemPlace} (h : DataW.trod enc Try.prog w base spare held n 58 cs = some x) :
    ∃ (y : Vx) (eo : Option Addr) (ec : Nat) (dx : DataW H), cs = [.int .i64 y.id, .int .i64 y.val, .slice eo y.es.length ec] ∧ I64 y.id ∧ I64 y.val ∧ (∀ e ∈ y.es, e.ok) ∧ y.es.length ≤ maxLen ∧ EdAt w (fun k => k < w.heap.size) eo y.es ∧ x.1 = .agg [.lit (.int .i64 y.id), .lit (.int .i64 y.val), dx] ∧ ((dx = .nil ∧ y.es = []) ∨ ∃ sp, dx = .slice (y.es.map Ed.data) sp) := by
  obtain ⟨y0, y1, y2, m, rfl, hl, h0, h1, h2⟩ := trod_struct3 Try.underlying58 h
  rw [cellsVx] at hl
  obtain ⟨v0, v1, v2, rfl⟩ := three_of hl
  simp only [cellsL, cellsEs] at h0 h1 h2
  obtain ⟨a, e0, rfl, wa⟩ := DataW.trod_int Try.underlying2 h0
  obtain ⟨b, e1, rfl, wb⟩ := DataW.trod_int Try.underlying2 h1
  obtain ⟨ao, cap, L, hcs, hok, hm, hE, hd⟩ := open_eds h2
  simp at e0 e1 hcs
  subst e0 e1 hcs
  exact ⟨⟨a, b, L⟩, ao, cap, y2.1, rfl, i64_of wa, i64_of wb, hok, hm, hE, rfl, hd⟩
end
end Go.Proofs.Ytmpbdaogdahiiaa
end

section
/- How a graph that came in is opened, with its bounds. -/
namespace Go.Proofs.Ytmpbdaogdahiiaa
open Go.RowKit Go.Deep Go.Joins Go.ChangeShapes
theorem bytesEd : Try.prog.bytesOf 55 = 16 := by kernel_rfl
theorem bytesVx : Try.prog.bytesOf 58 = 40 := by kernel_rfl
theorem mem_weightsAll {H : Type} {P : Program} {e : TypeId} : ∀ {ds : List (DataW H)} {d : DataW H} {n : Nat}, d ∈ ds → n ∈ d.weights P e → n ∈ DataW.weightsAll P e ds
  | [], _, _, h, _ => by cases h
  | d0 :: ds, d, n, h, hn => by
    simp only [DataW.weightsAll, List.mem_append]
    rcases List.mem_cons.1 h with rfl | h
    · exact Or.inl hn
    · exact Or.inr (mem_weightsAll h hn)
section
variable {H : Type} {enc : TypeId × Value → H} {w : World} {base : Nat} {spare : Nat → Bool} {held : Bool}
theorem vx_weight {y : Vx} {dx : DataW H} (hd : (dx = .nil ∧ y.es = []) ∨ ∃ sp, dx = .slice (y.es.map Ed.data) sp) (hw : ∀ m ∈ (DataW.agg [.lit (.int .i64 y.id), .lit (.int .i64 y.val), dx] : DataW H).weights Try.prog 58, m ≤ reachBytes) : y.es.length ≤ 8796093022208 := by
  rcases hd with ⟨_, h⟩ | ⟨sp, rfl⟩
  · rw [h]; simp
  · have := hw ((y.es.length + sp.length) * 16) (by
      have hu := Try.underlying58
      have hv := Try.underlying56
      simp [DataW.weights, DataW.weightsEach, hu, hv, bytesEd])
    unfold reachBytes at this
    omega
theorem open_vs {n : Nat} {cs : List Value} {x : DataW H × List MemPlace} (h : DataW.trod enc Try.prog w base spare held n 22 cs = some x) (hw : ∀ m ∈ x.1.weights Try.prog 22, m ≤ reachBytes) :
    ∃ (ao : Option Addr) (cap : Nat) (G : List Vx), cs = [.slice ao G.length cap] ∧ (∀ y ∈ G, y.ok) ∧ G.length * 40 ≤ 140737488355328 ∧ VxAt w (fun k => k < w.heap.size) ao G := by
  rcases open_slice Try.underlying22 h with ⟨h0, h1⟩ | ⟨a, len, cap, m, k, D, Pl, rfl, hb, hl, hm, hmm, rfl, hx⟩
  · exact ⟨none, 0, [], h0, fun y hy => (by cases hy), by simp, fun h => absurd h (by simp)⟩
  · have hlm : len ≤ m := by rw [hmm]; split <;> omega
    have hv := Try.underlying22
    have hlen40 : len * 40 ≤ 140737488355328 := by
      have := hw ((((List.range len).map D).length + ((List.range (m - len)).map fun j => D (len + j)).length) * 40) (by simp [DataW.weights, hv, bytesVx])
      unfold reachBytes at this
      simp only [List.length_map, List.length_range] at this
      omega
    have each : ∀ i, i < len → ∃ y : Vx, (∃ eo ec, w.cells? base (a.add (i * 3)) 3 = some [.int .i64 y.id, .int .i64 y.val, .slice eo y.es.length ec] ∧ EdAt w (fun k => k < w.heap.size) eo y.es) ∧ y.ok := by
      intro i hi
      obtain ⟨cs', h1, h2⟩ := hx i (by omega)
      rw [cellsVx] at h1
      obtain ⟨y, eo, ec, dx, rfl, hid, hvl, hes, _, hE, hD, hd⟩ := open_vx h2
      refine ⟨y, ⟨eo, ec, h1, hE⟩, hid, hvl, hes, vx_weight hd (fun m hm => hw m ?_)⟩
      simp only [DataW.weights, hv]
      refine List.mem_cons_of_mem _ (List.mem_append_left _ (mem_weightsAll (d := D i) (List.mem_map.2 ⟨i, List.mem_range.2 hi, rfl⟩) ?_))
      have hD' : D i = _ := hD
      rw [hD']
      exact hm
    haveI : Inhabited Vx := ⟨⟨0, 0, []⟩⟩
    obtain ⟨q, hq⟩ := choose_lt each
    have hlen : ((List.range len).map q).length = len := by simp
    refine ⟨some a, cap, (List.range len).map q, by rw [hlen], ?_, by rw [hlen]; exact hlen40, ?_⟩
    · intro y hy
      obtain ⟨i, hi, rfl⟩ := List.mem_map.1 hy
      exact (hq i (List.mem_range.1 hi)).2
    · intro hpos
      rw [hlen] at hpos
      obtain ⟨eo0, ec0, hq0, _⟩ := (hq 0 hpos).1
      obtain ⟨_, _, hc0⟩ := World.cells?_some hq0
      have hs0 := World.cell?_spot (hc0 0 (by simp))
      have hspot : a.spot = none := by simpa [Addr.add] using hs0
      obtain ⟨b, off, spot⟩ := a
      simp only at hspot
      subst hspot
      have hcell : ∀ j (_ : j < len), VxCell w (fun k => k < w.heap.size) b (off + j * 3) (q j) := by
        intro j hj
        obtain ⟨eo, ec, hqj, hE⟩ := (hq j hj).1
        obtain ⟨_, _, hc⟩ := World.cells?_some hqj
        have e0 := hc 0 (by simp)
        have e1 := hc 1 (by simp)
        have e2 := hc 2 (by simp)
        rw [add_none] at e0 e1 e2
        simp at e0 e1 e2
        exact ⟨eo, ec, e0, e1, e2, hE⟩
      refine ⟨b, off, rfl, ?_, ?_⟩
      · obtain ⟨_, _, e0, _⟩ := hcell 0 hpos
        exact lt_cell e0
      · intro j hj
        have hj' : j < len := by simpa using hj
        simp only [List.getElem_map, List.getElem_range]
        exact hcell j hj'
theorem open_gr {n : Nat} {cs : List Value} {x : DataW H × List MemPlace} (h : DataW.trod enc Try.prog w base spare held n 24 cs = some x) (hw : ∀ m ∈ x.1.weights Try.prog 24, m ≤ reachBytes) :
    ∃ (ao : Option Addr) (cap : Nat) (G : List Vx), cs = [.slice ao G.length cap] ∧ (∀ y ∈ G, y.ok) ∧ G.length * 40 ≤ 140737488355328 ∧ VxAt w (fun k => k < w.heap.size) ao G := by
  obtain ⟨y0, m, rfl, hl, h0⟩ := trod_struct1 Try.underlying24 h
  rw [cellsGr] at hl
  obtain ⟨v0, rfl⟩ : ∃ v, cs = [v] := List.length_eq_one_iff.1 hl
  simp only [cellsVs] at h0
  refine open_vs (x := y0) (by simpa using h0) (fun k hk => hw k ?_)
  have hu := Try.underlying24
  simp [DataW.weights, DataW.weightsEach, hu]
  exact hk
end
end Go.Proofs.Ytmpbdaogdahiiaa
end
