import Derived.Test.YtbilpiodoincgaaSpDsM
/- SpecDegrees. -/
namespace Go.Proofs.Ytbilpiodoincgaa
open Go.RowKit Go.Shelf
attribute [local go_sem] Oper.semAt_some
set_option maxRecDepth 100000 in
set_option maxHeartbeats 8000000 in
theorem law_degrees {w : World} {P : Nat → Prop} {ao : Option Addr} (G : List Vx) (cap : Nat) (h : VxAt w P ao G) (hok : ∀ v ∈ G, v.ok) (hl : G.length * 40 ≤ 140737488355328) :
    Calls Try.prog 8 #[.agg #[.slice ao G.length cap]] w fun r w' => r = .returned (.bool true) ∧ Below w.heap.size w w' := by
  have HG : Hid (∀ W, Below w.heap.size w W → VxAt W (fun k => k < w.heap.size) ao G) := fun W hb => (h.mono (Q := fun k => k < w.heap.size) (fun k hk _ => hk)).new hb
  have HOk : Hid (∀ v ∈ G, v.ok) := hok
  have HB0 : Hid (Below w.heap.size w (w.alloc (.cells #[.slice ao G.length cap] 24))) := one_new _ _
  by_cases hg : goodB G = true
  · have hg' := hg
    unfold goodB at hg'
    rw [Bool.and_eq_true, Bool.and_eq_true] at hg'
    obtain ⟨⟨hc, h20⟩, _⟩ := hg'
    have hc : chk G = 0 := by simpa using hc
    have h20 : G.length ≤ 20 := by simpa using h20
    obtain ⟨_, hr⟩ := rise_of hc
    have hE := evs_few hc hok
    have hth : thereE G = true := (chk_ok hc).2.2.2.2
    have HD : Hid (∀ W, Below w.heap.size w W → Calls Try.prog 28 #[.agg #[.slice ao G.length cap]] W fun r w' => (∃ m, r = .returned (.slice (some ⟨m, 0, none⟩) G.length G.length) ∧ IB w' m (G.map fun v => (degV G v : Int)) ∧ W.heap.size ≤ m) ∧ Below W.heap.size W w') := fun W hb => by
      have := degrees_any cap (HG.out W hb) hok hr hth (by omega) hE (G.map (rowO (ids G))) (outRows hr) (outIn hr hth) (by rw [outSum]; exact hE)
      rw [deg_tab hr hth] at this
      exact this
    have HGd : Hid _ := hg
    have HAll : Hid _ := sumD_all hr hth
    have HSum : Hid (sumE G = (evs G).length) := by have := (sumE_evs G (by omega) hok G.length (Nat.le_refl _)).1; rw [List.take_length] at this; exact this
    clear h hok hc hg hr hth
    go_enter Try.func8, Try.ntmps8
    go_wp2_with (first
      | (go_at_call 14; refine (good_any cap (HG.out _ HB0.out) HOk.out hl).mono ?_; rintro r w1 ⟨rfl, hb1⟩; rw [HGd.out]; have x1 := (hb1.cell (p := ⟨w.heap.size, 0, none⟩) (by simp)).trans (cell_of_one (heap_alloc_new _ _)); have HB1 : Hid (Below w.heap.size w w1) := HB0.out.trans (hb1.mono HB0.out.size))
      | (go_at_call 13; refine (ref_any G cap (HG.out _ HB1.out) HOk.out hl).mono ?_; rintro r w2 ⟨bo2, c2, rfl, hV2, hb2⟩; have x2 := (hb2.cell (p := ⟨w.heap.size, 0, none⟩) (lt_cell x1)).trans x1; have HB2 : Hid (Below w.heap.size w w2) := HB1.out.trans (hb2.mono HB1.out.size))
      | (go_at_call 28; refine (HD.out _ HB2.out).mono ?_; rintro r w3 ⟨⟨m, rfl, hI3, hm3⟩, hb3⟩; have HB3 : Hid (Below w.heap.size w w3) := HB2.out.trans (hb3.mono HB2.out.size)))
    obtain ⟨n, hn⟩ : ∃ n, G.length = n := ⟨_, rfl⟩
    have HN : Hid (G.length = n) := hn
    have HV3 : Hid _ := hV2.new hb3
    have HI3 : Hid _ := hI3
    rw [hn] at x2 h20 ⊢
    clear hn hV2 hI3 hb1 hb2 hb3 x1 HD
    go_loopw [5, 6, 7, 8, 9] (fun a i _ _ _ wr => ∃ j : Nat, j ≤ n ∧ i = .int .i64 j ∧ a = .int .i64 (sumD G j : Nat) ∧ Hid (Below w3.heap.size w3 wr)) (fun _ i _ _ _ _ => n - (intOf i).toNat)
    case atStart => exact ⟨0, Nat.zero_le _, rfl, rfl, Below.refl _ _⟩
    case round =>
      obtain ⟨j, hj, rfl, rfl, HBr⟩ := hrel
      by_cases hlt : j < n
      · have hjG : j < G.length := by rw [HN.out]; exact hlt
        obtain ⟨b, off, rfl, hP, hcl⟩ := HV3.out (by omega)
        have HCl : Hid _ := hcl
        obtain ⟨eo, ec, d0, d1, d2, hEd⟩ := hcl j hjG
        have hjm : j < (G.map fun v => (degV G v : Int)).length := by rw [List.length_map]; exact hjG
        have HY0 : Hid _ := (IB.cell HI3.out hjm).1
        have y0 := HY0.out
        rw [List.getElem_map] at y0
        have hdv : degV G G[j] = G[j].es.length + toN (evs G) G[j].id := rfl
        have hel := es_le hjG
        have hsd := sumD_le hE j (by omega)
        have HSs : Hid _ := sumD_succ hjG
        have htl := toN_le (evs G) G[j].id
        generalize degV G G[j] = dv at y0 hdv HSs
        generalize hL0 : G[j].es.length = L0 at d2 hdv hel
        generalize hid : G[j].id = id0 at d0 hdv htl
        have HY : Hid (w3.cell? ⟨m, j, none⟩ = _) := y0
        have HD0 : Hid (w3.cell? ⟨b, off + j * 3, none⟩ = _) := d0
        have d2' := (HBr.out.cell (p := ⟨b, off + j * 3 + 2, none⟩) (lt_cell d2)).trans d2
        clear hcl hEd d1 hL0 hid hjm HY0 y0 d0 d2
        have hji : (j : Int) < (n : Int) := by omega
        go_wp2
        go_loopw [7, 8, 9] (fun c k' _ wr' => ∃ k : Nat, k ≤ n ∧ k' = .int .i64 k ∧ c = .int .i64 ((L0 + toN (evs (G.take k)) id0 : Nat) : Int) ∧ Hid (Below w3.heap.size w3 wr')) (fun _ k' _ _ => n - (intOf k').toNat)
        case atStart => exact ⟨0, Nat.zero_le _, rfl, by simp [toN, evs], HBr⟩
        case round =>
          obtain ⟨k, hk, rfl, rfl, HBm⟩ := hrel
          clear d2'
          by_cases hlk : k < n
          · have hkG : k < G.length := by rw [HN.out]; exact hlk
            obtain ⟨fo, fc, e0, e1, e2, hEk⟩ := HCl.out k hkG
            have hek := es_le hkG
            have htk := toN_le (evs (G.take k)) id0
            have hevk := evs_take_le G k
            have HEs : Hid (toN (evs (G.take (k + 1))) id0 = toN (evs (G.take k)) id0 + toN (G[k].es.map fun e => (G[k].id, e)) id0) := by
              show _ = _
              rw [evs_snoc G k hkG, toN_app]
            obtain ⟨es, hes⟩ : ∃ es, G[k].es = es := ⟨_, rfl⟩
            rw [hes] at e2 hEk hek HEs
            generalize G[k].id = xk at HEs
            generalize toN (evs (G.take k)) id0 = A at htk HEs ⊢
            have HEk : Hid _ := hEk
            have HE2 : Hid (w3.cell? ⟨b, off + k * 3 + 2, none⟩ = _) := e2
            have e2' := (HBm.out.cell (p := ⟨b, off + k * 3 + 2, none⟩) (lt_cell e2)).trans e2
            clear e0 e1 hEk hes e2
            go_wp2
            go_loopw [7, 9] (fun c e' wr'' => ∃ e : Nat, e ≤ es.length ∧ e' = .int .i64 e ∧ c = .int .i64 ((L0 + A + toN ((es.take e).map fun d => (xk, d)) id0 : Nat) : Int) ∧ Hid (Below w3.heap.size w3 wr'')) (fun _ e' _ => es.length - (intOf e').toNat)
            case atStart => exact ⟨0, Nat.zero_le _, rfl, by simp [toN], HBm⟩
            case round =>
              obtain ⟨e, he, rfl, rfl, HBi⟩ := hrel
              clear e2'
              have e3 := (HBi.out.cell (p := ⟨b, off + k * 3 + 2, none⟩) (lt_cell HE2.out)).trans HE2.out
              by_cases hle : e < es.length
              · obtain ⟨eb, eoff, rfl, hPe, hce⟩ := HEk.out (by omega)
                obtain ⟨a0, a1⟩ := hce e hle
                have hB := toN_le ((es.take e).map fun d => (xk, d)) id0
                rw [List.length_map, List.length_take] at hB
                have HS : Hid (toN ((es.take (e + 1)).map fun d => (xk, d)) id0 = toN ((es.take e).map fun d => (xk, d)) id0 + if es[e].t = id0 then 1 else 0) := by
                  show _ = _
                  rw [List.take_add_one, List.getElem?_eq_getElem hle, List.map_append, toN_app]
                  congr 1
                  by_cases ee : es[e].t = id0
                  · simp [toN, ee]
                  · simp [toN, ee]
                generalize es[e].t = te at a0 HS
                generalize toN ((es.take e).map fun d => (xk, d)) id0 = Bn at hB HS ⊢
                have b0 := (HBi.out.cell (p := ⟨eb, eoff + e * 2, none⟩) (lt_cell a0)).trans a0
                have b1 := (HBi.out.cell (p := ⟨b, off + j * 3, none⟩) (lt_cell HD0.out)).trans HD0.out
                clear hce a1 a0
                go_upto_region 18 with (fail)
                have hS0 : (fun w' : World => w'.cell? ⟨b, off + k * 3 + 2, none⟩ = some (.slice (some ⟨eb, eoff, none⟩) es.length fc) ∧ w'.cell? ⟨eb, eoff + e * 2, none⟩ = some (.int .i64 te) ∧ w'.cell? ⟨b, off + j * 3, none⟩ = some (.int .i64 id0)) wr.drew := ⟨e3, b0, b1⟩
                have HBd : Hid (Below w3.heap.size w3 wr.drew) := HBi.out.drew
                refine wp_calm ?_
                refine wp_region_L [] (fun w' : World => w'.cell? ⟨b, off + k * 3 + 2, none⟩ = some (.slice (some ⟨eb, eoff, none⟩) es.length fc) ∧ w'.cell? ⟨eb, eoff + e * 2, none⟩ = some (.int .i64 te) ∧ w'.cell? ⟨b, off + j * 3, none⟩ = some (.int .i64 id0)) (by kernel_rfl) ?_
                refine wpAnyL_take (i := 0) 51 (v := .slice (some ⟨b, off, none⟩) n c2) rfl rfl (by kernel_rfl) (by kernel_rfl) (by kernel_rfl) (by kernel_rfl) (by kernel_rfl) (by kernel_rfl) (fun _ _ _ h => h) hS0 (by rfl) (by intro w' hSw; (try dsimp only at hSw); obtain ⟨hSa, hSb, hSc⟩ := hSw; go_simp <;> with_reducible rfl) ?_
                simp only [Act.put, List.setIfInBounds_toArray, List.set_cons_zero, List.set_cons_succ]
                refine wpAnyL_take (i := 1) 52 (v := .int .i64 (k : Int)) rfl rfl (by kernel_rfl) (by kernel_rfl) (by kernel_rfl) (by kernel_rfl) (by kernel_rfl) (by kernel_rfl) (fun _ _ _ h => h) hS0 (by rfl) (by intro w' hSw; (try dsimp only at hSw); obtain ⟨hSa, hSb, hSc⟩ := hSw; go_simp <;> with_reducible rfl) ?_
                simp only [Act.put, List.setIfInBounds_toArray, List.set_cons_zero, List.set_cons_succ]
                refine wpAnyL_take (i := 2) 53 (v := .pointer (some ⟨b, off + k * 3, none⟩)) rfl rfl (by kernel_rfl) (by kernel_rfl) (by kernel_rfl) (by kernel_rfl) (by kernel_rfl) (by kernel_rfl) (fun _ _ _ h => h) hS0 (by rfl) (by intro w' hSw; (try dsimp only at hSw); obtain ⟨hSa, hSb, hSc⟩ := hSw; go_simp <;> with_reducible rfl) ?_
                simp only [Act.put, List.setIfInBounds_toArray, List.set_cons_zero, List.set_cons_succ]
                refine wpAnyL_take (i := 3) 54 (v := .pointer (some ⟨b, off + k * 3 + 2, none⟩)) rfl rfl (by kernel_rfl) (by kernel_rfl) (by kernel_rfl) (by kernel_rfl) (by kernel_rfl) (by kernel_rfl) (fun _ _ _ h => h) hS0 (by rfl) (by intro w' hSw; (try dsimp only at hSw); obtain ⟨hSa, hSb, hSc⟩ := hSw; go_simp <;> with_reducible rfl) ?_
                simp only [Act.put, List.setIfInBounds_toArray, List.set_cons_zero, List.set_cons_succ]
                refine wpAnyL_take (i := 4) 55 (v := .slice (some ⟨eb, eoff, none⟩) es.length fc) rfl rfl (by kernel_rfl) (by kernel_rfl) (by kernel_rfl) (by kernel_rfl) (by kernel_rfl) (by kernel_rfl) (fun _ _ _ h => h) hS0 (by rfl) (by intro w' hSw; (try dsimp only at hSw); obtain ⟨hSa, hSb, hSc⟩ := hSw; go_simp <;> with_reducible rfl) ?_
                simp only [Act.put, List.setIfInBounds_toArray, List.set_cons_zero, List.set_cons_succ]
                refine wpAnyL_take (i := 5) 56 (v := .int .i64 (e : Int)) rfl rfl (by kernel_rfl) (by kernel_rfl) (by kernel_rfl) (by kernel_rfl) (by kernel_rfl) (by kernel_rfl) (fun _ _ _ h => h) hS0 (by rfl) (by intro w' hSw; (try dsimp only at hSw); obtain ⟨hSa, hSb, hSc⟩ := hSw; go_simp <;> with_reducible rfl) ?_
                simp only [Act.put, List.setIfInBounds_toArray, List.set_cons_zero, List.set_cons_succ]
                refine wpAnyL_take (i := 6) 57 (v := .pointer (some ⟨eb, eoff + e * 2, none⟩)) rfl rfl (by kernel_rfl) (by kernel_rfl) (by kernel_rfl) (by kernel_rfl) (by kernel_rfl) (by kernel_rfl) (fun _ _ _ h => h) hS0 (by rfl) (by intro w' hSw; (try dsimp only at hSw); obtain ⟨hSa, hSb, hSc⟩ := hSw; go_simp <;> with_reducible rfl) ?_
                simp only [Act.put, List.setIfInBounds_toArray, List.set_cons_zero, List.set_cons_succ]
                refine wpAnyL_take (i := 7) 58 (v := .pointer (some ⟨eb, eoff + e * 2, none⟩)) rfl rfl (by kernel_rfl) (by kernel_rfl) (by kernel_rfl) (by kernel_rfl) (by kernel_rfl) (by kernel_rfl) (fun _ _ _ h => h) hS0 (by rfl) (by intro w' hSw; (try dsimp only at hSw); obtain ⟨hSa, hSb, hSc⟩ := hSw; go_simp <;> with_reducible rfl) ?_
                simp only [Act.put, List.setIfInBounds_toArray, List.set_cons_zero, List.set_cons_succ]
                refine wpAnyL_take (i := 8) 59 (v := .int .i64 te) rfl rfl (by kernel_rfl) (by kernel_rfl) (by kernel_rfl) (by kernel_rfl) (by kernel_rfl) (by kernel_rfl) (fun _ _ _ h => h) hS0 (by rfl) (by intro w' hSw; (try dsimp only at hSw); obtain ⟨hSa, hSb, hSc⟩ := hSw; go_simp <;> with_reducible rfl) ?_
                simp only [Act.put, List.setIfInBounds_toArray, List.set_cons_zero, List.set_cons_succ]
                refine wpAnyL_take (i := 9) 60 (v := .slice (some ⟨b, off, none⟩) n c2) rfl rfl (by kernel_rfl) (by kernel_rfl) (by kernel_rfl) (by kernel_rfl) (by kernel_rfl) (by kernel_rfl) (fun _ _ _ h => h) hS0 (by rfl) (by intro w' hSw; (try dsimp only at hSw); obtain ⟨hSa, hSb, hSc⟩ := hSw; go_simp <;> with_reducible rfl) ?_
                simp only [Act.put, List.setIfInBounds_toArray, List.set_cons_zero, List.set_cons_succ]
                refine wpAnyL_take (i := 10) 61 (v := .int .i64 (j : Int)) rfl rfl (by kernel_rfl) (by kernel_rfl) (by kernel_rfl) (by kernel_rfl) (by kernel_rfl) (by kernel_rfl) (fun _ _ _ h => h) hS0 (by rfl) (by intro w' hSw; (try dsimp only at hSw); obtain ⟨hSa, hSb, hSc⟩ := hSw; go_simp <;> with_reducible rfl) ?_
                simp only [Act.put, List.setIfInBounds_toArray, List.set_cons_zero, List.set_cons_succ]
                refine wpAnyL_take (i := 11) 62 (v := .pointer (some ⟨b, off + j * 3, none⟩)) rfl rfl (by kernel_rfl) (by kernel_rfl) (by kernel_rfl) (by kernel_rfl) (by kernel_rfl) (by kernel_rfl) (fun _ _ _ h => h) hS0 (by rfl) (by intro w' hSw; (try dsimp only at hSw); obtain ⟨hSa, hSb, hSc⟩ := hSw; go_simp <;> with_reducible rfl) ?_
                simp only [Act.put, List.setIfInBounds_toArray, List.set_cons_zero, List.set_cons_succ]
                refine wpAnyL_take (i := 12) 63 (v := .pointer (some ⟨b, off + j * 3, none⟩)) rfl rfl (by kernel_rfl) (by kernel_rfl) (by kernel_rfl) (by kernel_rfl) (by kernel_rfl) (by kernel_rfl) (fun _ _ _ h => h) hS0 (by rfl) (by intro w' hSw; (try dsimp only at hSw); obtain ⟨hSa, hSb, hSc⟩ := hSw; go_simp <;> with_reducible rfl) ?_
                simp only [Act.put, List.setIfInBounds_toArray, List.set_cons_zero, List.set_cons_succ]
                refine wpAnyL_take (i := 13) 64 (v := .int .i64 id0) rfl rfl (by kernel_rfl) (by kernel_rfl) (by kernel_rfl) (by kernel_rfl) (by kernel_rfl) (by kernel_rfl) (fun _ _ _ h => h) hS0 (by rfl) (by intro w' hSw; (try dsimp only at hSw); obtain ⟨hSa, hSb, hSc⟩ := hSw; go_simp <;> with_reducible rfl) ?_
                simp only [Act.put, List.setIfInBounds_toArray, List.set_cons_zero, List.set_cons_succ]
                refine wpAnyL_take (i := 14) 65 (v := .bool (te == id0)) rfl rfl (by kernel_rfl) (by kernel_rfl) (by kernel_rfl) (by kernel_rfl) (by kernel_rfl) (by kernel_rfl) (fun _ _ _ h => h) hS0 (by rfl) (by intro w' hSw; (try dsimp only at hSw); obtain ⟨hSa, hSb, hSc⟩ := hSw; go_simp <;> with_reducible rfl) ?_
                simp only [Act.put, List.setIfInBounds_toArray, List.set_cons_zero, List.set_cons_succ]
                refine wpAnyL_done (by kernel_rfl) ?_ _
                generalize World.drew wr = Wd at HBd ⊢
                clear hS0 e3 b0 b1
                by_cases ht : te = id0
                · subst ht
                  go_wp2
                  go_roundw
                  case rel => exact ⟨e + 1, by omega, by go_num, by rw [HS.out, if_pos rfl]; go_num, HBd⟩
                  case measure => simp [intOf]; omega
                · have ht2 : (te == id0) = false := by simpa using ht
                  go_wp2
                  go_roundw
                  case rel => exact ⟨e + 1, by omega, by go_num, by rw [HS.out, if_neg ht]; rfl, HBd⟩
                  case measure => simp [intOf]; omega
              · obtain rfl : e = es.length := by omega
                have HE5 : Hid (L0 + A + toN ((es.take es.length).map fun d => (xk, d)) id0 = L0 + toN (evs (G.take (k + 1))) id0) := by
                  show _ = _
                  rw [HEs.out, List.take_length]
                  omega
                rw [HE5.out]
                go_wp2
                go_roundw
                case rel => exact ⟨k + 1, by omega, by go_num, rfl, HBi⟩
                case measure => simp [intOf]; omega
          · obtain rfl : k = n := by omega
            have HE3 : Hid (L0 + toN (evs (G.take k)) id0 = dv) := by
              show _ = _
              rw [List.take_of_length_le (by have := HN.out; omega), hdv]
            have y1 := (HBm.out.cell (p := ⟨m, j, none⟩) (lt_cell HY.out)).trans HY.out
            rw [HE3.out]
            go_wp2
            go_roundw
            case rel => exact ⟨j + 1, by omega, by go_num, by rw [HSs.out]; go_num, HBm⟩
            case measure => simp [intOf]; omega
      · obtain rfl : j = n := by omega
        have HEd : Hid (∀ W, Below w3.heap.size w3 W → Calls Try.prog 29 #[.slice bo2 j c2] W fun r w' => r = .returned (.int .i64 ((evs G).length : Nat)) ∧ Below W.heap.size W w') := fun W hb => by
          have := refedges_any c2 (VxAt.new HV3.out hb) (by omega)
          rw [HN.out, HSum.out] at this
          exact this
        have HA2 : Hid (sumD G j = 2 * (evs G).length) := by show _ = _; rw [← HN.out]; exact HAll.out
        rw [HA2.out]
        clear HV3 HAll HSum HI3
        generalize (evs G).length = E at HEd HA2 hE ⊢
        have hww : wrap64 (2 * (E : Int)) = 2 * (E : Int) := by unfold wrap64; omega
        go_wp2_with (first
          | (go_at_call 15; refine (awake10 _).mono ?_; rintro r w5 ⟨rfl, hb5⟩; have HB5 : Hid (Below w3.heap.size w3 w5) := HBr.out.trans (hb5.mono HBr.out.size))
          | (go_at_call 29; refine (HEd.out _ HB5.out).mono ?_; rintro r w6 ⟨rfl, hb6⟩))
        go_ret
        exact ⟨rfl, HB3.out.trans ((HB5.out.trans (hb6.mono HB5.out.size)).mono HB3.out.size)⟩
  · have hg : goodB G = false := by simpa using hg
    have HGd : Hid _ := hg
    clear h hok hg
    go_enter Try.func8, Try.ntmps8
    go_wp2_with (first
      | (go_at_call 14; refine (good_any cap (HG.out _ HB0.out) HOk.out hl).mono ?_; rintro r w1 ⟨rfl, hb1⟩; rw [HGd.out]; have HB1 : Hid (Below w.heap.size w w1) := HB0.out.trans (hb1.mono HB0.out.size))
      | (go_at_call 15; refine (awake10 _).mono ?_; rintro r w2 ⟨rfl, hb2⟩))
    go_ret
    exact ⟨rfl, HB1.out.trans (hb2.mono HB1.out.size)⟩
end Go.Proofs.Ytbilpiodoincgaa
