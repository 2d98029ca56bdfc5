import Derived.Test.YthkfbaoeimjgaaaGreatGrFindM
/- What Find returns of vertices that rise: where a number is, or would stand. -/
namespace Go.Proofs.YthkfbaoeimjgaaaGreat
open Go.RowKit
theorem below_step {l : List Int} (hr : Rise l) {m : Nat} (h : m < l.length) {x y : Int} (hm : l[m] = y) (hy : y < x) : ∀ q (h : q < l.length), q < m + 1 → l[q] < x := by
  intro q hq hqm
  by_cases e : q = m
  · subst e; omega
  · have := hr.lt m q h (by omega); omega
theorem above_step {l : List Int} (hr : Rise l) {m : Nat} (h : m < l.length) {x y : Int} (hm : l[m] = y) (hy : x ≤ y) : ∀ q (h : q < l.length), m ≤ q → x ≤ l[q] := by
  intro q hq hqm
  by_cases e : q = m
  · subst e; omega
  · have := hr.lt q m hq (by omega); omega
theorem found_cmp {y x : Int} (h : ¬ y < x) : ((some y : Option Int) == some x) = (cmpI y x == 0) := by
  unfold cmpI
  rw [if_neg h, Bool.eq_iff_iff]
  split <;> simp <;> omega

set_option maxRecDepth 100000 in
set_option maxHeartbeats 4000000 in
theorem bsearch_any {w : World} {P : Nat → Prop} {ao : Option Addr} {G : List Vx} (cap : Nat) (x : Int) (h : VxAt w P ao G) (hl : G.length ≤ 256) (hr : Rise (ids G)) :
    Calls Tryz.prog 239 #[.slice ao G.length cap, .int .i64 x, .func (.func 240) #[] #[]] w fun r w' => r = .returned (.tuple #[.int .i64 (findN (ids G) x), .bool (foundB (ids G) x)]) ∧ Below w.heap.size w w' := by
  have HR : Hid (Rise (ids G)) := hr
  clear hr
  go_enter Tryz.func239, Tryz.ntmps239
  go_wp2
  go_loopw [9, 10, 11] (fun u v _ wr => ∃ (i j : Nat), i ≤ j ∧ j ≤ G.length ∧ u = .int .i64 i ∧ v = .int .i64 j ∧ Hid (∀ q (h : q < (ids G).length), q < i → (ids G)[q] < x) ∧ Hid (∀ q (h : q < (ids G).length), j ≤ q → x ≤ (ids G)[q]) ∧ Below w.heap.size w wr) (fun u v _ _ => (intOf v).toNat - (intOf u).toNat)
  case atStart => exact ⟨0, G.length, Nat.zero_le _, Nat.le_refl _, rfl, rfl, fun q _ hq => absurd hq (by omega), fun q hq hq' => absurd hq (by rw [ids_len]; omega), Below.refl _ _⟩
  case round =>
    obtain ⟨i, j, hij, hj, rfl, rfl, H1, H2, hb⟩ := hrel
    by_cases hlt : i < j
    · obtain ⟨m, HM⟩ : ∃ m : Nat, Hid (m = (i + j) / 2) := ⟨_, rfl⟩
      have hm : m = (i + j) / 2 := HM.out
      have hmi : i ≤ m := by omega
      have hmj : m < j := by omega
      have hmG : m < G.length := by omega
      obtain ⟨b, off, rfl, hP, hc⟩ := h (by omega)
      obtain ⟨eo, ec, c0, c1, c2, c3⟩ := hc m hmG
      have hbb := lt_cell c0
      have d0 := (hb.cell (p := ⟨b, off + m * 3, none⟩) hbb).trans c0
      have d1 := (hb.cell (p := ⟨b, off + m * 3 + 1, none⟩) hbb).trans c1
      have d2 := (hb.cell (p := ⟨b, off + m * 3 + 2, none⟩) hbb).trans c2
      have HG : Hid ((ids G)[m]'(by rw [ids_len]; exact hmG) = G[m].id) := ids_get G m hmG
      generalize G[m] = y at d0 d1 d2 HG
      have hdv : ((i : Int) + (j : Int)) / 2 = m := by omega
      have hF := fun w => find1_any y.id y.val x eo y.es.length ec w
      clear c0 c1 c2 c3 hc hm
      by_cases hy : y.id < x
      · rw [show cmpI y.id x = -1 from if_pos hy] at hF
        go_wp2_with (go_at_call 240; refine (hF _).mono ?_; rintro r w1 ⟨rfl, hb1⟩)
        go_roundw
        case rel => exact ⟨m + 1, j, by omega, by omega, by go_num, rfl, below_step HR.out (by rw [ids_len]; exact hmG) HG.out hy, H2, hb.trans (hb1.mono hb.size)⟩
        case measure => simp [intOf]; omega
      · obtain ⟨c, hcc, hc0⟩ : ∃ c, cmpI y.id x = c ∧ ¬ c < 0 := ⟨_, rfl, by unfold cmpI; rw [if_neg hy]; split <;> omega⟩
        rw [hcc] at hF
        clear hcc
        go_wp2_with (go_at_call 240; refine (hF _).mono ?_; rintro r w1 ⟨rfl, hb1⟩)
        go_roundw
        case rel => exact ⟨i, m, by omega, by omega, rfl, rfl, H1, above_step HR.out (by rw [ids_len]; exact hmG) HG.out (by omega), hb.trans (hb1.mono hb.size)⟩
        case measure => simp [intOf]; omega
    · obtain rfl : i = j := by omega
      have HF : Hid (findN (ids G) x = i) := findN_eq (by rw [ids_len]; exact hj) H1.out (fun q hq hqi => by have := H2.out q hq hqi; omega)
      by_cases hin : i < G.length
      · obtain ⟨b, off, rfl, hP, hc⟩ := h (by omega)
        obtain ⟨eo, ec, c0, c1, c2, c3⟩ := hc i hin
        have hbb := lt_cell c0
        have d0 := (hb.cell (p := ⟨b, off + i * 3, none⟩) hbb).trans c0
        have d1 := (hb.cell (p := ⟨b, off + i * 3 + 1, none⟩) hbb).trans c1
        have d2 := (hb.cell (p := ⟨b, off + i * 3 + 2, none⟩) hbb).trans c2
        have HG : Hid ((ids G)[i]'(by rw [ids_len]; exact hin) = G[i].id) := ids_get G i hin
        have HX : Hid (¬ G[i].id < x) := by
          show ¬ _
          rw [← HG.out]
          have := H2.out i (by rw [ids_len]; exact hin) (Nat.le_refl _)
          omega
        have HB : Hid (foundB (ids G) x = (cmpI G[i].id x == 0)) := by
          show _ = _
          unfold foundB
          rw [HF.out, List.getElem?_eq_getElem (by rw [ids_len]; exact hin), HG.out]
          exact found_cmp HX.out
        generalize G[i] = y at d0 d1 d2 HG HX HB
        have hF := fun w => find1_any y.id y.val x eo y.es.length ec w
        clear c0 c1 c2 c3 hc
        generalize cmpI y.id x = c at hF HB
        go_wp2_with (go_at_call 240; refine (hF _).mono ?_; rintro r w1 ⟨rfl, hb1⟩)
        go_ret2
        exact ⟨by rw [HF.out, HB.out]; rfl, hb.trans (hb1.mono hb.size)⟩
      · have HB : Hid (foundB (ids G) x = false) := by
          show _ = _
          unfold foundB
          rw [HF.out, List.getElem?_eq_none (by rw [ids_len]; omega)]; rfl
        go_wp2
        go_ret2
        exact ⟨by rw [HF.out, HB.out]; rfl, hb⟩
theorem find_any {w : World} {P : Nat → Prop} {ao : Option Addr} {G : List Vx} (cap : Nat) (x : Int) (h : VxAt w P ao G) (hl : G.length ≤ 256) (hr : Rise (ids G)) :
    Calls Tryz.prog 195 #[.agg #[.slice ao G.length cap], .int .i64 x] w fun r w' => r = .returned (.tuple #[.int .i64 (findN (ids G) x), .bool (foundB (ids G) x)]) ∧ Below w.heap.size w w' := by
  have hB := fun o => bsearch_any (w := w.alloc o) cap x (h.new ((Below.refl _ _).alloc (Nat.le_refl _) _)) hl hr
  clear h hr
  go_enter Tryz.func195, Tryz.ntmps195
  go_wp2_with (go_at_call 239; refine (hB _).mono ?_; rintro r w1 ⟨rfl, hb1⟩)
  go_ret2
  exact ⟨rfl, ((Below.refl _ _).alloc (Nat.le_refl _) _).trans (hb1.mono (by simp))⟩
end Go.Proofs.YthkfbaoeimjgaaaGreat
