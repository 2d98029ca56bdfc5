import Derived.Test.YtbilpiodoincgaaSpAwM
import Derived.Test.YtbilpiodoincgaaGrRefKM
/- good of layer 10. -/
namespace Go.Proofs.Ytbilpiodoincgaa
open Go.RowKit Go.Shelf
attribute [local go_sem] Oper.semAt_some
def wOk (v : Vx) : Bool := v.es.all fun e => decide (0 ≤ e.w)
def goodB (G : List Vx) : Bool := decide (chk G = 0) && decide (G.length ≤ 20) && G.all wOk
set_option maxRecDepth 100000 in
set_option maxHeartbeats 2000000 in
theorem good_any {w : World} {P : Nat → Prop} {ao : Option Addr} {G : List Vx} (cap : Nat) (h : VxAt w P ao G) (hok : ∀ v ∈ G, v.ok) (hl : G.length * 40 ≤ 140737488355328) :
    Calls Try.prog 14 #[.agg #[.slice ao G.length cap]] w fun r w' => r = .returned (.bool (goodB G)) ∧ Below w.heap.size w w' := by
  have HG : Hid (∀ W, Below w.heap.size w W → VxAt W (fun k => k < w.heap.size) ao G) := fun W hb => (h.mono (Q := fun k => k < w.heap.size) (fun k hk _ => hk)).new hb
  have HOk : Hid (∀ v ∈ G, v.ok) := hok
  have HB0 : Hid (Below w.heap.size w (w.alloc (.cells #[.slice ao G.length cap] 24))) := one_new _ _
  by_cases hc : chk G = 0
  · have HC : Hid _ := hc
    by_cases h20 : G.length ≤ 20
    · clear h hok hc
      go_enter Try.func14, Try.ntmps14
      go_wp2_with (first
        | (go_at_call 13; refine (ref_any G cap (HG.out _ HB0.out) HOk.out hl).mono ?_; rintro r w2 ⟨bo2, c2, rfl, hV2, hb2⟩; have x2 := (hb2.cell (p := ⟨w.heap.size, 0, none⟩) (by simp)).trans (cell_of_one (heap_alloc_new _ _)); have HB2 : Hid (Below w.heap.size w w2) := HB0.out.trans (hb2.mono HB0.out.size))
        | (go_at_call 40; refine (refcheck_any c2 hV2 (by omega) HOk.out).mono ?_; rintro r w3 ⟨rfl, hb3⟩; rw [HC.out]; have x3 := (hb3.cell (p := ⟨w.heap.size, 0, none⟩) (lt_cell x2)).trans x2; have HB3 : Hid (Below w.heap.size w w3) := HB2.out.trans (hb3.mono HB2.out.size)))
      clear x2 hV2 hb2 hb3 HB2 HB0
      obtain ⟨n, hn⟩ : ∃ n, G.length = n := ⟨_, rfl⟩
      have HN : Hid (G.length = n) := hn
      have hV3 := HG.out w3 HB3.out
      have HV3 : Hid _ := hV3
      rw [hn] at x3 h20 ⊢
      clear hV3 hn
      go_loopw [3, 4] (fun i _ wr => ∃ j : Nat, j ≤ n ∧ i = .int .i64 j ∧ wr = w3 ∧ Hid ((G.take j).all wOk = true)) (fun i _ _ => n - (intOf i).toNat)
      case atStart => exact ⟨0, Nat.zero_le _, rfl, rfl, rfl⟩
      case round =>
        obtain ⟨j, hj, rfl, rfl, HT⟩ := hrel
        by_cases hlt : j < n
        · have hjG : j < G.length := by rw [HN.out]; exact hlt
          obtain ⟨b, off, rfl, hP, hcl⟩ := HV3.out (by omega)
          obtain ⟨eo, ec, d0, d1, d2, hE⟩ := hcl j hjG
          obtain ⟨es, hes⟩ : ∃ es, G[j].es = es := ⟨_, rfl⟩
          rw [hes] at d2 hE
          have hle : es.length ≤ 8796093022208 := by rw [← hes]; exact (HOk.out _ (List.getElem_mem hjG)).len
          have HEs : Hid (wOk G[j] = es.all fun e => decide (0 ≤ e.w)) := by show _ = _; unfold wOk; rw [hes]
          have HE : Hid _ := hE
          clear hcl hE hes d0 d1
          go_wp2
          go_loopw [4] (fun i wr' => ∃ k : Nat, k ≤ es.length ∧ i = .int .i64 k ∧ wr' = wr ∧ Hid ((es.take k).all (fun e => decide (0 ≤ e.w)) = true)) (fun i _ => es.length - (intOf i).toNat)
          case atStart => exact ⟨0, Nat.zero_le _, rfl, rfl, rfl⟩
          case round =>
            obtain ⟨k, hk, rfl, rfl, HT2⟩ := hrel
            by_cases hlk : k < es.length
            · obtain ⟨eb, eoff, rfl, hPe, hce⟩ := HE.out (by omega)
              obtain ⟨a0, a1⟩ := hce k hlk
              have HS : Hid ((es.take (k + 1)).all (fun e => decide (0 ≤ e.w)) = decide (0 ≤ es[k].w)) := by
                show _ = _
                rw [List.take_add_one, List.getElem?_eq_getElem hlk, List.all_append, HT2.out]
                simp
              have HNo : Hid (¬ 0 ≤ es[k].w → goodB G = false) := fun hno => by
                have h1 : wOk G[j] = false := by
                  rw [HEs.out]
                  cases hx : es.all (fun e => decide (0 ≤ e.w)) with
                  | false => rfl
                  | true =>
                    have := List.all_eq_true.1 hx es[k] (List.getElem_mem hlk)
                    exact absurd (by simpa using this) hno
                have h2 : G.all wOk = false := by
                  cases hx : G.all wOk with
                  | false => rfl
                  | true =>
                    have := List.all_eq_true.1 hx G[j] (List.getElem_mem hjG)
                    rw [h1] at this
                    cases this
                unfold goodB
                rw [h2, Bool.and_false]
              generalize es[k].w = y at a1 HS HNo
              clear hce a0
              by_cases hy : y < 0
              · go_wp2
                go_ret
                exact ⟨by rw [HNo.out (by omega)]; rfl, HB3.out⟩
              · have hy2 : 0 ≤ y := by omega
                go_wp2
                go_roundw
                case rel => exact ⟨k + 1, by omega, by go_num, (by first | rfl | trivial), by rw [HS.out]; show decide _ = true; simp [hy2]⟩
                case measure => simp [intOf]; omega
            · obtain rfl : k = es.length := by omega
              have HT3 : Hid ((G.take (j + 1)).all wOk = true) := by
                show _ = _
                have h2 := HT2.out
                rw [List.take_of_length_le (Nat.le_refl _)] at h2
                rw [List.take_add_one, List.getElem?_eq_getElem hjG, List.all_append, HT.out]
                simp [HEs.out, h2]
              go_wp2
              go_roundw
              case rel => exact ⟨j + 1, by omega, by go_num, (by first | rfl | trivial), HT3⟩
              case measure => simp [intOf]; omega
        · obtain rfl : j = n := by omega
          have HYes : Hid (goodB G = true) := by
            show _ = _
            have h2 := HT.out
            rw [List.take_of_length_le (by have := HN.out; omega)] at h2
            have h3 := HN.out
            unfold goodB
            simp [HC.out, h2, h3, h20]
          go_wp2
          go_ret
          exact ⟨by rw [HYes.out]; rfl, HB3.out⟩
    · clear h hok hc
      have hf : goodB G = false := by unfold goodB; simp [h20]
      have h21 : (20 : Int) < G.length := by omega
      rw [hf]
      clear hf
      go_enter Try.func14, Try.ntmps14
      go_wp2_with (first
        | (go_at_call 13; refine (ref_any G cap (HG.out _ HB0.out) HOk.out hl).mono ?_; rintro r w2 ⟨bo2, c2, rfl, hV2, hb2⟩; have x2 := (hb2.cell (p := ⟨w.heap.size, 0, none⟩) (by simp)).trans (cell_of_one (heap_alloc_new _ _)); have HB2 : Hid (Below w.heap.size w w2) := HB0.out.trans (hb2.mono HB0.out.size))
        | (go_at_call 40; refine (refcheck_any c2 hV2 (by omega) HOk.out).mono ?_; rintro r w3 ⟨rfl, hb3⟩; rw [HC.out]; have x3 := (hb3.cell (p := ⟨w.heap.size, 0, none⟩) (lt_cell x2)).trans x2; have HB3 : Hid (Below w.heap.size w w3) := HB2.out.trans (hb3.mono HB2.out.size)))
      go_ret
      exact ⟨rfl, HB3.out⟩
  · have hf : goodB G = false := by unfold goodB; simp [hc]
    obtain ⟨c, hcc⟩ : ∃ c, chk G = c := ⟨_, rfl⟩
    have HC : Hid _ := hcc
    rw [hcc] at hc
    rw [hf]
    clear h hok hcc hf
    go_enter Try.func14, Try.ntmps14
    go_wp2_with (first
      | (go_at_call 13; refine (ref_any G cap (HG.out _ HB0.out) HOk.out hl).mono ?_; rintro r w2 ⟨bo2, c2, rfl, hV2, hb2⟩; have x2 := (hb2.cell (p := ⟨w.heap.size, 0, none⟩) (by simp)).trans (cell_of_one (heap_alloc_new _ _)); have HB2 : Hid (Below w.heap.size w w2) := HB0.out.trans (hb2.mono HB0.out.size))
      | (go_at_call 40; refine (refcheck_any c2 hV2 (by omega) HOk.out).mono ?_; rintro r w3 ⟨rfl, hb3⟩; rw [HC.out]; have x3 := (hb3.cell (p := ⟨w.heap.size, 0, none⟩) (lt_cell x2)).trans x2; have HB3 : Hid (Below w.heap.size w w3) := HB2.out.trans (hb3.mono HB2.out.size)))
    go_ret
    exact ⟨rfl, HB3.out⟩
end Go.Proofs.Ytbilpiodoincgaa
