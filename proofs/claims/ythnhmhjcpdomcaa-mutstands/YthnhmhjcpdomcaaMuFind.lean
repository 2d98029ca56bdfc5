/- Find of a greater graph, and the place of an edge. -/
import Derived.Test.YthnhmhjcpdomcaaGrFind2
namespace Go.Proofs.Ythnhmhjcpdomcaa
open Go.RowKit
set_option maxRecDepth 100000 in
set_option maxHeartbeats 4000000 in
theorem bsearchW_any {w : World} {P : Nat → Prop} {ao : Option Addr} {G : List Vx} (cap : Nat) (x : Int) (h : VxAt w P ao G) (hl : G.length ≤ 1073741824) (hr : Rise (ids G)) :
    Calls Try.prog 97 #[.slice ao G.length cap, .int .i64 x, .func (.func 98) #[] #[]] w fun r w' => r = .returned (.tuple #[.int .i64 (findN (ids G) x), .bool (foundB (ids G) x)]) ∧ Below w.heap.size w w' := by
  have HR : Hid (Rise (ids G)) := hr
  clear hr
  go_enter Try.func97, Try.ntmps97
  go_wp2
  go_loopw [9, 10, 11] (fun u v _ wr => ∃ (i j : Nat), i ≤ j ∧ j ≤ G.length ∧ u = .int .i64 i ∧ v = .int .i64 j ∧ Hid (∀ q (h : q < (ids G).length), q < i → (ids G)[q] < x) ∧ Hid (∀ q (h : q < (ids G).length), j ≤ q → x ≤ (ids G)[q]) ∧ Below w.heap.size w wr) (fun u v _ _ => (intOf v).toNat - (intOf u).toNat)
  case atStart => exact ⟨0, G.length, Nat.zero_le _, Nat.le_refl _, rfl, rfl, fun q _ hq => absurd hq (by omega), fun q hq hq' => absurd hq (by rw [ids_len]; omega), Below.refl _ _⟩
  case round =>
    obtain ⟨i, j, hij, hj, rfl, rfl, H1, H2, hb⟩ := hrel
    by_cases hlt : i < j
    · obtain ⟨m, HM⟩ : ∃ m : Nat, Hid (m = (i + j) / 2) := ⟨_, rfl⟩
      have hm : m = (i + j) / 2 := HM.out
      have hmi : i ≤ m := by omega
      have hmj : m < j := by omega
      have hmG : m < G.length := by omega
      obtain ⟨b, off, rfl, hP, hc⟩ := h (by omega)
      obtain ⟨eo, ec, c0, c1, c2, c3⟩ := hc m hmG
      have hbb := lt_cell c0
      have d0 := (hb.cell (p := ⟨b, off + m * 3, none⟩) hbb).trans c0
      have d1 := (hb.cell (p := ⟨b, off + m * 3 + 1, none⟩) hbb).trans c1
      have d2 := (hb.cell (p := ⟨b, off + m * 3 + 2, none⟩) hbb).trans c2
      have HG : Hid ((ids G)[m]'(by rw [ids_len]; exact hmG) = G[m].id) := ids_get G m hmG
      generalize G[m] = y at d0 d1 d2 HG
      have hdv : ((i : Int) + (j : Int)) / 2 = m := by omega
      have hF := fun w => find1_any y.id y.val x eo y.es.length ec w
      clear c0 c1 c2 c3 hc hm
      by_cases hy : y.id < x
      · rw [show cmpI y.id x = -1 from if_pos hy] at hF
        go_wp2_with (go_at_call 98; refine (hF _).mono ?_; rintro r w1 ⟨rfl, hb1⟩)
        go_roundw
        case rel => exact ⟨m + 1, j, by omega, by omega, by go_num, rfl, below_step HR.out (by rw [ids_len]; exact hmG) HG.out hy, H2, hb.trans (hb1.mono hb.size)⟩
        case measure => simp [intOf]; omega
      · obtain ⟨c, hcc, hc0⟩ : ∃ c, cmpI y.id x = c ∧ ¬ c < 0 := ⟨_, rfl, by unfold cmpI; rw [if_neg hy]; split <;> omega⟩
        rw [hcc] at hF
        clear hcc
        go_wp2_with (go_at_call 98; refine (hF _).mono ?_; rintro r w1 ⟨rfl, hb1⟩)
        go_roundw
        case rel => exact ⟨i, m, by omega, by omega, rfl, rfl, H1, above_step HR.out (by rw [ids_len]; exact hmG) HG.out (by omega), hb.trans (hb1.mono hb.size)⟩
        case measure => simp [intOf]; omega
    · obtain rfl : i = j := by omega
      have HF : Hid (findN (ids G) x = i) := findN_eq (by rw [ids_len]; exact hj) H1.out (fun q hq hqi => by have := H2.out q hq hqi; omega)
      by_cases hin : i < G.length
      · obtain ⟨b, off, rfl, hP, hc⟩ := h (by omega)
        obtain ⟨eo, ec, c0, c1, c2, c3⟩ := hc i hin
        have hbb := lt_cell c0
        have d0 := (hb.cell (p := ⟨b, off + i * 3, none⟩) hbb).trans c0
        have d1 := (hb.cell (p := ⟨b, off + i * 3 + 1, none⟩) hbb).trans c1
        have d2 := (hb.cell (p := ⟨b, off + i * 3 + 2, none⟩) hbb).trans c2
        have HG : Hid ((ids G)[i]'(by rw [ids_len]; exact hin) = G[i].id) := ids_get G i hin
        have HX : Hid (¬ G[i].id < x) := by
          show ¬ _
          rw [← HG.out]
          have := H2.out i (by rw [ids_len]; exact hin) (Nat.le_refl _)
          omega
        have HB : Hid (foundB (ids G) x = (cmpI G[i].id x == 0)) := by
          show _ = _
          unfold foundB
          rw [HF.out, List.getElem?_eq_getElem (by rw [ids_len]; exact hin), HG.out]
          exact found_cmp HX.out
        generalize G[i] = y at d0 d1 d2 HG HX HB
        have hF := fun w => find1_any y.id y.val x eo y.es.length ec w
        clear c0 c1 c2 c3 hc
        generalize cmpI y.id x = c at hF HB
        go_wp2_with (go_at_call 98; refine (hF _).mono ?_; rintro r w1 ⟨rfl, hb1⟩)
        go_ret2
        exact ⟨by rw [HF.out, HB.out]; rfl, hb.trans (hb1.mono hb.size)⟩
      · have HB : Hid (foundB (ids G) x = false) := by
          show _ = _
          unfold foundB
          rw [HF.out, List.getElem?_eq_none (by rw [ids_len]; omega)]; rfl
        go_wp2
        go_ret2
        exact ⟨by rw [HF.out, HB.out]; rfl, hb⟩
theorem findW_any {w : World} {P : Nat → Prop} {ao : Option Addr} {G : List Vx} (cap : Nat) (x : Int) (h : VxAt w P ao G) (hl : G.length ≤ 1073741824) (hr : Rise (ids G)) :
    Calls Try.prog 71 #[.agg #[.slice ao G.length cap], .int .i64 x] w fun r w' => r = .returned (.tuple #[.int .i64 (findN (ids G) x), .bool (foundB (ids G) x)]) ∧ Below w.heap.size w w' := by
  have hB := fun o => bsearchW_any (w := w.alloc o) cap x (h.new ((Below.refl _ _).alloc (Nat.le_refl _) _)) hl hr
  clear h hr
  go_enter Try.func71, Try.ntmps71
  go_wp2_with (go_at_call 97; refine (hB _).mono ?_; rintro r w1 ⟨rfl, hb1⟩)
  go_ret2
  exact ⟨rfl, ((Below.refl _ _).alloc (Nat.le_refl _) _).trans (hb1.mono (by simp))⟩
theorem findE1_any (x y i : Int) (w : World) :
    Calls Try.prog 121 #[.agg #[.int .i64 x, .int .i64 y], .int .i64 i] w fun r w' => r = .returned (.int .i64 (cmpI x i)) ∧ Below w.heap.size w w' := by
  go_enter Try.func121, Try.ntmps121
  go_wp2_with (go_at_call 50; refine (compare_any _ _ _).mono ?_; rintro r w1 ⟨rfl, rfl⟩)
  go_ret
  exact ⟨rfl, (Below.refl _ _).alloc (Nat.le_refl _) _⟩
set_option maxRecDepth 100000 in
set_option maxHeartbeats 4000000 in
theorem bsearchE_any {w : World} {P : Nat → Prop} {ao : Option Addr} {G : List Ed} (cap : Nat) (x : Int) (h : EdAt w P ao G) (hl : G.length ≤ 1073741824) (hr : Rise (ends G)) :
    Calls Try.prog 120 #[.slice ao G.length cap, .int .i64 x, .func (.func 121) #[] #[]] w fun r w' => r = .returned (.tuple #[.int .i64 (findN (ends G) x), .bool (foundB (ends G) x)]) ∧ Below w.heap.size w w' := by
  have HR : Hid (Rise (ends G)) := hr
  clear hr
  go_enter Try.func120, Try.ntmps120
  go_wp2
  go_loopw [9, 10, 11] (fun u v _ wr => ∃ (i j : Nat), i ≤ j ∧ j ≤ G.length ∧ u = .int .i64 i ∧ v = .int .i64 j ∧ Hid (∀ q (h : q < (ends G).length), q < i → (ends G)[q] < x) ∧ Hid (∀ q (h : q < (ends G).length), j ≤ q → x ≤ (ends G)[q]) ∧ Below w.heap.size w wr) (fun u v _ _ => (intOf v).toNat - (intOf u).toNat)
  case atStart => exact ⟨0, G.length, Nat.zero_le _, Nat.le_refl _, rfl, rfl, fun q _ hq => absurd hq (by omega), fun q hq hq' => absurd hq (by rw [ends_len]; omega), Below.refl _ _⟩
  case round =>
    obtain ⟨i, j, hij, hj, rfl, rfl, H1, H2, hb⟩ := hrel
    by_cases hlt : i < j
    · obtain ⟨m, HM⟩ : ∃ m : Nat, Hid (m = (i + j) / 2) := ⟨_, rfl⟩
      have hm : m = (i + j) / 2 := HM.out
      have hmi : i ≤ m := by omega
      have hmj : m < j := by omega
      have hmG : m < G.length := by omega
      obtain ⟨b, off, rfl, hP, hc⟩ := h (by omega)
      obtain ⟨c0, c1⟩ := hc m hmG
      have hbb := lt_cell c0
      have d0 := (hb.cell (p := ⟨b, off + m * 2, none⟩) hbb).trans c0
      have d1 := (hb.cell (p := ⟨b, off + m * 2 + 1, none⟩) hbb).trans c1
      have HG : Hid ((ends G)[m]'(by rw [ends_len]; exact hmG) = G[m].t) := ends_get G m hmG
      generalize G[m] = y at d0 d1 HG
      have hdv : ((i : Int) + (j : Int)) / 2 = m := by omega
      have hF := fun w => findE1_any y.t y.w x w
      clear c0 c1 hc hm
      by_cases hy : y.t < x
      · rw [show cmpI y.t x = -1 from if_pos hy] at hF
        go_wp2_with (go_at_call 121; refine (hF _).mono ?_; rintro r w1 ⟨rfl, hb1⟩)
        go_roundw
        case rel => exact ⟨m + 1, j, by omega, by omega, by go_num, rfl, below_step HR.out (by rw [ends_len]; exact hmG) HG.out hy, H2, hb.trans (hb1.mono hb.size)⟩
        case measure => simp [intOf]; omega
      · obtain ⟨c, hcc, hc0⟩ : ∃ c, cmpI y.t x = c ∧ ¬ c < 0 := ⟨_, rfl, by unfold cmpI; rw [if_neg hy]; split <;> omega⟩
        rw [hcc] at hF
        clear hcc
        go_wp2_with (go_at_call 121; refine (hF _).mono ?_; rintro r w1 ⟨rfl, hb1⟩)
        go_roundw
        case rel => exact ⟨i, m, by omega, by omega, rfl, rfl, H1, above_step HR.out (by rw [ends_len]; exact hmG) HG.out (by omega), hb.trans (hb1.mono hb.size)⟩
        case measure => simp [intOf]; omega
    · obtain rfl : i = j := by omega
      have HF : Hid (findN (ends G) x = i) := findN_eq (by rw [ends_len]; exact hj) H1.out (fun q hq hqi => by have := H2.out q hq hqi; omega)
      by_cases hin : i < G.length
      · obtain ⟨b, off, rfl, hP, hc⟩ := h (by omega)
        obtain ⟨c0, c1⟩ := hc i hin
        have hbb := lt_cell c0
        have d0 := (hb.cell (p := ⟨b, off + i * 2, none⟩) hbb).trans c0
        have d1 := (hb.cell (p := ⟨b, off + i * 2 + 1, none⟩) hbb).trans c1
        have HG : Hid ((ends G)[i]'(by rw [ends_len]; exact hin) = G[i].t) := ends_get G i hin
        have HX : Hid (¬ G[i].t < x) := by
          show ¬ _
          rw [← HG.out]
          have := H2.out i (by rw [ends_len]; exact hin) (Nat.le_refl _)
          omega
        have HB : Hid (foundB (ends G) x = (cmpI G[i].t x == 0)) := by
          show _ = _
          unfold foundB
          rw [HF.out, List.getElem?_eq_getElem (by rw [ends_len]; exact hin), HG.out]
          exact found_cmp HX.out
        generalize G[i] = y at d0 d1 HG HX HB
        have hF := fun w => findE1_any y.t y.w x w
        clear c0 c1 hc
        generalize cmpI y.t x = c at hF HB
        go_wp2_with (go_at_call 121; refine (hF _).mono ?_; rintro r w1 ⟨rfl, hb1⟩)
        go_ret2
        exact ⟨by rw [HF.out, HB.out]; rfl, hb.trans (hb1.mono hb.size)⟩
      · have HB : Hid (foundB (ends G) x = false) := by
          show _ = _
          unfold foundB
          rw [HF.out, List.getElem?_eq_none (by rw [ends_len]; omega)]; rfl
        go_wp2
        go_ret2
        exact ⟨by rw [HF.out, HB.out]; rfl, hb⟩
theorem findedge_any {w : World} {P : Nat → Prop} {ao : Option Addr} {G : List Ed} (cap : Nat) (x : Int) (h : EdAt w P ao G) (hl : G.length ≤ 1073741824) (hr : Rise (ends G)) :
    Calls Try.prog 99 #[.slice ao G.length cap, .int .i64 x] w fun r w' => r = .returned (.tuple #[.int .i64 (findN (ends G) x), .bool (foundB (ends G) x)]) ∧ Below w.heap.size w w' := by
  have hB := bsearchE_any (w := w) cap x h hl hr
  clear h hr
  go_enter Try.func99, Try.ntmps99
  go_wp2_with (go_at_call 120; refine hB.mono ?_; rintro r w1 ⟨rfl, hb1⟩)
  go_ret2
  exact ⟨rfl, hb1⟩
end Go.Proofs.Ythnhmhjcpdomcaa
