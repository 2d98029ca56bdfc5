/- The document's For and Without. -/
import Derived.Test.YtfajkfngjfhkoaaCbBefore
namespace Go.Proofs.Ytfajkfngjfhkoaa
open Go.RowKit
set_option maxRecDepth 100000 in
set_option maxHeartbeats 1000000 in
theorem forR_any {w : World} {P : Nat → Prop} {ao : Option Addr} (L : List Msg) (id : Int) (cap : Nat) (h : MsAt w P ao L) (hl : L.length * 32 ≤ 140737488355328) :
    Calls Try.prog 29 #[.slice ao L.length cap, .int .i64 id] w fun r w' => ∃ g c, r = .returned (.slice (some ⟨g, 0, none⟩) (toV L id).length c) ∧ w.heap.size ≤ g ∧ Mo w' 66 (.slice (some ⟨g, 0, none⟩) (toV L id).length c) (toV L id) ∧ Below w.heap.size w w' := by
  obtain ⟨i0, hi, hz0, hz1, hz2⟩ := info_parts infoR
  have HG : Hid (MsAt w P ao L) := h
  clear h
  go_enter Try.func29, Try.ntmps29
  go_wp2
  go_loopw [5, 6] (fun u i wr => ∃ (j m g c : Nat), j ≤ L.length ∧ m ≤ j ∧ w.heap.size ≤ g ∧ u = .slice (some ⟨g, 0, none⟩) m c ∧ i = .int .i64 j ∧ Hid (m = (toV (L.take j) id).length) ∧ Mo wr 66 (.slice (some ⟨g, 0, none⟩) m c) (toV (L.take j) id) ∧ Below w.heap.size w wr) (fun _ i _ => L.length - (intOf i).toNat)
  case atStart =>
    exact ⟨0, 0, w.heap.size, 0, Nat.zero_le _, Nat.le_refl _, Nat.le_refl _, rfl, rfl, (rfl : (0 : Nat) = 0), World.ownsRow_made w #[] 0 (Nat.zero_le _) (by decide) (by simp), (Below.refl _ w).alloc (Nat.le_refl _) _⟩
  case round =>
    obtain ⟨j, m, g, c, hj, hm, hg, rfl, rfl, HL, hR, hb⟩ := hrel
    by_cases hlt : j < L.length
    · obtain ⟨b, off, rfl, hP, hc⟩ := HG.out (by omega)
      obtain ⟨e0, e1, e2, e3⟩ := hc j hlt
      have d0 := (hb.cell (p := ⟨b, off + j * 4, none⟩) (lt_cell e0)).trans e0
      have d1 := (hb.cell (p := ⟨b, off + j * 4 + 1, none⟩) (lt_cell e0)).trans e1
      have d2 := (hb.cell (p := ⟨b, off + j * 4 + 2, none⟩) (lt_cell e0)).trans e2
      have d3 := (hb.cell (p := ⟨b, off + j * 4 + 3, none⟩) (lt_cell e0)).trans e3
      have HS : Hid (toV (L.take (j + 1)) id = toV (L.take j) id ++ toV [L[j]] id) := by
        show _ = _
        rw [List.take_succ_eq_append_getElem hlt]
        unfold toV
        exact List.filter_append ..
      generalize L[j] = y at d0 d1 d2 d3 HS
      have HR : Hid _ := hR
      have HB : Hid _ := hb
      clear e0 e1 e2 e3 hc hR hb
      by_cases ht : y.t = id
      · have htb : (y.t == id) = true := by simpa using ht
        have htn : (y.t != id) = false := by simpa using ht
        clear ht
        have H1 : Hid (toV (L.take (j + 1)) id = toV (L.take j) id ++ [y]) := by show _ = _; rw [HS.out]; simp [toV, htb]
        clear HS
        go_wp2_with (at_builtin; refine wpList_append_own_at _ rfl _ _ 57 rfl 0 66 i0 (.agg #[.int .i64 0, .int .i64 0, .int .i64 0, .int .i64 0]) 4 32 Try.underlying57 hi hz0 hz1 hz2 rfl (by decide) (.slice (some ⟨g, 0, none⟩) m c) _ _ rfl (Mo.alloc HR.out _) ⟨wr.heap.size, 0, none⟩ 1 1 [.int .i64 y.f, .int .i64 y.t, .int .i64 y.a, .int .i64 y.v] rfl rfl (m_four (heap_alloc_new _ _)) (msgOne y) (by rw [← HL.out]; unfold maxLen; omega) (by rw [← HL.out]; omega) (Nat.zero_le _) ?_)
        intro v' w4 hown hgrow hne hat
        have hM4 : Mo w4 66 v' (toV (L.take (j + 1)) id) := by rw [H1.out]; exact Mo.snoc hown
        have hB4 : Below w.heap.size w w4 := (HB.out.alloc HB.out.size _).trans ((Fr.grown hgrow (S := fun k => k = g) (fun k hk => by cases hk; rfl)).below (by have := HB.out.size; simp; omega) (fun k hk => by omega))
        obtain ⟨g', c', rfl, hg'⟩ : ∃ g' c', v' = .slice (some ⟨g', 0, none⟩) (m + 1) c' ∧ w.heap.size ≤ g' := by
          have hsz := HB.out.size
          rcases hown.2 with ⟨h1, h2⟩ | ⟨g', c', cur, rfl, _⟩
          · omega
          · refine ⟨g', c', by rw [← HL.out], ?_⟩
            rcases hat with e | e
            · simp only [Value.ownBlock, Option.some.injEq] at e; omega
            · simp only [Value.ownBlock, Option.some.injEq] at e; omega
        have HM4 : Hid _ := hM4
        have HB4 : Hid _ := hB4
        clear hM4 hB4 hown hgrow hne hat
        go_wp2
        go_roundw
        case rel => exact ⟨j + 1, m + 1, g', c', by omega, by omega, hg', rfl, by go_num, (by rw [H1.out, List.length_append, ← HL.out]; rfl : m + 1 = (toV (L.take (j + 1)) id).length), HM4.out, HB4.out⟩
        case measure => simp [intOf]; omega
      · have htb : (y.t == id) = false := by simpa using ht
        have htn : (y.t != id) = true := by simpa using ht
        clear ht
        have H1 : Hid (toV (L.take (j + 1)) id = toV (L.take j) id) := by show _ = _; rw [HS.out]; simp [toV, htb]
        clear HS
        go_wp2
        go_roundw
        case rel => exact ⟨j + 1, m, g, c, by omega, by omega, hg, rfl, by go_num, (by rw [H1.out]; exact HL.out : m = (toV (L.take (j + 1)) id).length), by rw [H1.out]; exact HR.out, HB.out⟩
        case measure => simp [intOf]; omega
    · obtain rfl : j = L.length := by omega
      rw [List.take_length] at hR HL
      have HR : Hid _ := hR
      have HB : Hid _ := hb
      clear hR hb
      go_wp2
      go_ret
      have e := HL.out
      exact ⟨g, c, by rw [← e]; rfl, hg, by rw [← e]; exact HR.out, HB.out⟩
set_option maxRecDepth 100000 in
set_option maxHeartbeats 1000000 in
theorem withoutR_any {w : World} {P : Nat → Prop} {ao : Option Addr} (L : List Msg) (id : Int) (cap : Nat) (h : MsAt w P ao L) (hl : L.length * 32 ≤ 140737488355328) :
    Calls Try.prog 25 #[.slice ao L.length cap, .int .i64 id] w fun r w' => ∃ g c, r = .returned (.slice (some ⟨g, 0, none⟩) (offV L id).length c) ∧ w.heap.size ≤ g ∧ Mo w' 66 (.slice (some ⟨g, 0, none⟩) (offV L id).length c) (offV L id) ∧ Below w.heap.size w w' := by
  obtain ⟨i0, hi, hz0, hz1, hz2⟩ := info_parts infoR
  have HG : Hid (MsAt w P ao L) := h
  clear h
  go_enter Try.func25, Try.ntmps25
  go_wp2
  go_loopw [5, 6] (fun u i wr => ∃ (j m g c : Nat), j ≤ L.length ∧ m ≤ j ∧ w.heap.size ≤ g ∧ u = .slice (some ⟨g, 0, none⟩) m c ∧ i = .int .i64 j ∧ Hid (m = (offV (L.take j) id).length) ∧ Mo wr 66 (.slice (some ⟨g, 0, none⟩) m c) (offV (L.take j) id) ∧ Below w.heap.size w wr) (fun _ i _ => L.length - (intOf i).toNat)
  case atStart =>
    exact ⟨0, 0, w.heap.size, 0, Nat.zero_le _, Nat.le_refl _, Nat.le_refl _, rfl, rfl, (rfl : (0 : Nat) = 0), World.ownsRow_made w #[] 0 (Nat.zero_le _) (by decide) (by simp), (Below.refl _ w).alloc (Nat.le_refl _) _⟩
  case round =>
    obtain ⟨j, m, g, c, hj, hm, hg, rfl, rfl, HL, hR, hb⟩ := hrel
    by_cases hlt : j < L.length
    · obtain ⟨b, off, rfl, hP, hc⟩ := HG.out (by omega)
      obtain ⟨e0, e1, e2, e3⟩ := hc j hlt
      have d0 := (hb.cell (p := ⟨b, off + j * 4, none⟩) (lt_cell e0)).trans e0
      have d1 := (hb.cell (p := ⟨b, off + j * 4 + 1, none⟩) (lt_cell e0)).trans e1
      have d2 := (hb.cell (p := ⟨b, off + j * 4 + 2, none⟩) (lt_cell e0)).trans e2
      have d3 := (hb.cell (p := ⟨b, off + j * 4 + 3, none⟩) (lt_cell e0)).trans e3
      have HS : Hid (offV (L.take (j + 1)) id = offV (L.take j) id ++ offV [L[j]] id) := by
        show _ = _
        rw [List.take_succ_eq_append_getElem hlt]
        unfold offV
        exact List.filter_append ..
      generalize L[j] = y at d0 d1 d2 d3 HS
      have HR : Hid _ := hR
      have HB : Hid _ := hb
      clear e0 e1 e2 e3 hc hR hb
      by_cases ht : y.t = id
      · have htb : (y.t == id) = true := by simpa using ht
        have htn : (y.t != id) = false := by simpa using ht
        clear ht
        have H1 : Hid (offV (L.take (j + 1)) id = offV (L.take j) id) := by show _ = _; rw [HS.out]; simp [offV, htb]
        clear HS
        go_wp2
        go_roundw
        case rel => exact ⟨j + 1, m, g, c, by omega, by omega, hg, rfl, by go_num, (by rw [H1.out]; exact HL.out : m = (offV (L.take (j + 1)) id).length), by rw [H1.out]; exact HR.out, HB.out⟩
        case measure => simp [intOf]; omega
      · have htb : (y.t == id) = false := by simpa using ht
        have htn : (y.t != id) = true := by simpa using ht
        clear ht
        have H1 : Hid (offV (L.take (j + 1)) id = offV (L.take j) id ++ [y]) := by show _ = _; rw [HS.out]; simp [offV, htb]
        clear HS
        go_wp2_with (at_builtin; refine wpList_append_own_at _ rfl _ _ 57 rfl 0 66 i0 (.agg #[.int .i64 0, .int .i64 0, .int .i64 0, .int .i64 0]) 4 32 Try.underlying57 hi hz0 hz1 hz2 rfl (by decide) (.slice (some ⟨g, 0, none⟩) m c) _ _ rfl (Mo.alloc HR.out _) ⟨wr.heap.size, 0, none⟩ 1 1 [.int .i64 y.f, .int .i64 y.t, .int .i64 y.a, .int .i64 y.v] rfl rfl (m_four (heap_alloc_new _ _)) (msgOne y) (by rw [← HL.out]; unfold maxLen; omega) (by rw [← HL.out]; omega) (Nat.zero_le _) ?_)
        intro v' w4 hown hgrow hne hat
        have hM4 : Mo w4 66 v' (offV (L.take (j + 1)) id) := by rw [H1.out]; exact Mo.snoc hown
        have hB4 : Below w.heap.size w w4 := (HB.out.alloc HB.out.size _).trans ((Fr.grown hgrow (S := fun k => k = g) (fun k hk => by cases hk; rfl)).below (by have := HB.out.size; simp; omega) (fun k hk => by omega))
        obtain ⟨g', c', rfl, hg'⟩ : ∃ g' c', v' = .slice (some ⟨g', 0, none⟩) (m + 1) c' ∧ w.heap.size ≤ g' := by
          have hsz := HB.out.size
          rcases hown.2 with ⟨h1, h2⟩ | ⟨g', c', cur, rfl, _⟩
          · omega
          · refine ⟨g', c', by rw [← HL.out], ?_⟩
            rcases hat with e | e
            · simp only [Value.ownBlock, Option.some.injEq] at e; omega
            · simp only [Value.ownBlock, Option.some.injEq] at e; omega
        have HM4 : Hid _ := hM4
        have HB4 : Hid _ := hB4
        clear hM4 hB4 hown hgrow hne hat
        go_wp2
        go_roundw
        case rel => exact ⟨j + 1, m + 1, g', c', by omega, by omega, hg', rfl, by go_num, (by rw [H1.out, List.length_append, ← HL.out]; rfl : m + 1 = (offV (L.take (j + 1)) id).length), HM4.out, HB4.out⟩
        case measure => simp [intOf]; omega
    · obtain rfl : j = L.length := by omega
      rw [List.take_length] at hR HL
      have HR : Hid _ := hR
      have HB : Hid _ := hb
      clear hR hb
      go_wp2
      go_ret
      have e := HL.out
      exact ⟨g, c, by rw [← e]; rfl, hg, by rw [← e]; exact HR.out, HB.out⟩
end Go.Proofs.Ytfajkfngjfhkoaa
