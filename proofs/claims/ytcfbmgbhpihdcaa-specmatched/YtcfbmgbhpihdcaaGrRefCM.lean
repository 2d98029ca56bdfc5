import Derived.Test.YtcfbmgbhpihdcaaSpFaM
import Derived.Test.YtcfbmgbhpihdcaaGrWalk2M
import Derived.Test.YtcfbmgbhpihdcaaGrSameM
section
/- What awake of layer 10 returns: true. -/
namespace Go.Proofs.Ytcfbmgbhpihdcaa
open Go.RowKit Go.Shelf
attribute [local go_sem] Oper.semAt_some
def G10 : List Vx := [⟨1, 0, [⟨2, 5⟩]⟩, ⟨2, 0, [⟨3, 2⟩]⟩, ⟨3, 0, []⟩]
theorem G10_ok : ∀ v ∈ G10, v.ok := by
  intro v hv
  simp only [G10, List.mem_cons, List.not_mem_nil, or_false] at hv
  rcases hv with rfl | rfl | rfl
  · refine ⟨by unfold I64; decide, by unfold I64; decide, fun e he => ?_, by decide⟩
    simp only [List.mem_cons, List.not_mem_nil, or_false] at he
    subst he
    exact ⟨by unfold I64; decide, by unfold I64; decide⟩
  · refine ⟨by unfold I64; decide, by unfold I64; decide, fun e he => ?_, by decide⟩
    simp only [List.mem_cons, List.not_mem_nil, or_false] at he
    subst he
    exact ⟨by unfold I64; decide, by unfold I64; decide⟩
  · exact ⟨by unfold I64; decide, by unfold I64; decide, fun e he => (by cases he), by decide⟩
theorem far10 {w : World} {P : Nat → Prop} {ao : Option Addr} (cap : Nat) (h : VxAt w P ao G10) : Calls Try.prog 17 #[.agg #[.slice ao 3 cap], .int .i64 1, .bool false] w fun r w' => (∃ m, r = .returned (.tuple #[.slice (some ⟨m, 0, none⟩) 3 3, .int .i64 0]) ∧ IB w' m [0, 5, 7]) ∧ Below w.heap.size w w' :=
  far_way cap G10 rfl h G10_ok rfl (by decide +kernel) (by decide +kernel) rfl
theorem way_at {W : World} {b1 b2 b3 : Nat} {f1 f2 f3 : Nat × Nat} (e1 : W.heap[b1]? = some (.cells #[.int .i64 2, .int .i64 5] 67 f1)) (e2 : W.heap[b2]? = some (.cells #[.int .i64 3, .int .i64 2] 67 f2)) (e3 : W.heap[b3]? = some (.cells #[.int .i64 1, .int .i64 0, .slice (some ⟨b1, 0, none⟩) 1 1, .int .i64 2, .int .i64 0, .slice (some ⟨b2, 0, none⟩) 1 1, .int .i64 3, .int .i64 0, .slice none 0 0] 70 f3)) : VxAt W (fun _ => True) (some ⟨b3, 0, none⟩) G10 := by
  intro _
  refine ⟨b3, 0, rfl, trivial, fun j hj => ?_⟩
  match j, hj with
  | 0, _ =>
    refine ⟨some ⟨b1, 0, none⟩, 1, by simp [World.cell?, e3, G10], by simp [World.cell?, e3, G10], by simp [World.cell?, e3, G10], fun _ => ⟨b1, 0, rfl, trivial, fun i hi => ?_⟩⟩
    match i, hi with
    | 0, _ => exact ⟨by simp [World.cell?, e1, G10], by simp [World.cell?, e1, G10]⟩
  | 1, _ =>
    refine ⟨some ⟨b2, 0, none⟩, 1, by simp [World.cell?, e3, G10], by simp [World.cell?, e3, G10], by simp [World.cell?, e3, G10], fun _ => ⟨b2, 0, rfl, trivial, fun i hi => ?_⟩⟩
    match i, hi with
    | 0, _ => exact ⟨by simp [World.cell?, e2, G10], by simp [World.cell?, e2, G10]⟩
  | 2, _ => exact ⟨none, 0, by simp [World.cell?, e3, G10], by simp [World.cell?, e3, G10], by simp [World.cell?, e3, G10], fun h => absurd h (by simp [G10])⟩
theorem way_made (w : World) : VxAt ((((w.alloc (.cells #[.int .i64 2, .int .i64 5] 67)).alloc (.cells #[.int .i64 3, .int .i64 2] 67)).alloc (.cells #[.int .i64 1, .int .i64 0, .slice (some ⟨w.heap.size, 0, none⟩) 1 1, .int .i64 2, .int .i64 0, .slice (some ⟨w.heap.size + 1, 0, none⟩) 1 1, .int .i64 3, .int .i64 0, .slice none 0 0] 70)).alloc (.cells #[.slice (some ⟨w.heap.size + 1 + 1, 0, none⟩) 3 3] 24)) (fun _ => True) (some ⟨w.heap.size + 1 + 1, 0, none⟩) G10 ∧ Below w.heap.size w ((((w.alloc (.cells #[.int .i64 2, .int .i64 5] 67)).alloc (.cells #[.int .i64 3, .int .i64 2] 67)).alloc (.cells #[.int .i64 1, .int .i64 0, .slice (some ⟨w.heap.size, 0, none⟩) 1 1, .int .i64 2, .int .i64 0, .slice (some ⟨w.heap.size + 1, 0, none⟩) 1 1, .int .i64 3, .int .i64 0, .slice none 0 0] 70)).alloc (.cells #[.slice (some ⟨w.heap.size + 1 + 1, 0, none⟩) 3 3] 24)) := by
  have b1 := one_new w (.cells #[.int .i64 2, .int .i64 5] 67)
  have h1 := heap_alloc_new w (.cells #[.int .i64 2, .int .i64 5] 67)
  have b2 := one_new (w.alloc (.cells #[.int .i64 2, .int .i64 5] 67)) (.cells #[.int .i64 3, .int .i64 2] 67)
  have h2 := heap_alloc_new (w.alloc (.cells #[.int .i64 2, .int .i64 5] 67)) (.cells #[.int .i64 3, .int .i64 2] 67)
  have b3 := one_new ((w.alloc (.cells #[.int .i64 2, .int .i64 5] 67)).alloc (.cells #[.int .i64 3, .int .i64 2] 67)) (.cells #[.int .i64 1, .int .i64 0, .slice (some ⟨w.heap.size, 0, none⟩) 1 1, .int .i64 2, .int .i64 0, .slice (some ⟨w.heap.size + 1, 0, none⟩) 1 1, .int .i64 3, .int .i64 0, .slice none 0 0] 70)
  have h3 := heap_alloc_new ((w.alloc (.cells #[.int .i64 2, .int .i64 5] 67)).alloc (.cells #[.int .i64 3, .int .i64 2] 67)) (.cells #[.int .i64 1, .int .i64 0, .slice (some ⟨w.heap.size, 0, none⟩) 1 1, .int .i64 2, .int .i64 0, .slice (some ⟨w.heap.size + 1, 0, none⟩) 1 1, .int .i64 3, .int .i64 0, .slice none 0 0] 70)
  have b4 := one_new (((w.alloc (.cells #[.int .i64 2, .int .i64 5] 67)).alloc (.cells #[.int .i64 3, .int .i64 2] 67)).alloc (.cells #[.int .i64 1, .int .i64 0, .slice (some ⟨w.heap.size, 0, none⟩) 1 1, .int .i64 2, .int .i64 0, .slice (some ⟨w.heap.size + 1, 0, none⟩) 1 1, .int .i64 3, .int .i64 0, .slice none 0 0] 70)) (.cells #[.slice (some ⟨w.heap.size + 1 + 1, 0, none⟩) 3 3] 24)
  simp only [World.size_alloc] at b2 h2 b3 h3 b4
  have b34 := b3.trans (b4.mono (by omega))
  have b24 := b2.trans (b34.mono (by omega))
  refine ⟨way_at (b1 := w.heap.size) (b2 := w.heap.size + 1) (f1 := (0, 0)) (f2 := (0, 0)) (f3 := (0, 0)) ?_ ?_ ?_, b1.trans (b24.mono (by omega))⟩
  · exact (b24.block _ (by omega)).trans h1
  · exact (b34.block _ (by omega)).trans h2
  · exact (b4.block _ (by omega)).trans h3
set_option maxRecDepth 100000 in
set_option maxHeartbeats 400000 in
theorem awake10 (w : World) : Calls Try.prog 15 #[] w fun r w' => r = .returned (.bool true) ∧ Below w.heap.size w w' := by
  obtain ⟨hA, hB⟩ := way_made w
  have HA : Hid _ := hA
  have HB : Hid _ := hB
  clear hA hB
  go_enter Try.func15, Try.ntmps15
  go_wp2_with (go_at_call 17; refine (far10 3 HA.out).mono ?_; rintro r w5 ⟨⟨m, rfl, hI⟩, hb5⟩; have c2 := (IB.cell hI (j := 2) (by decide)).1; have c3 : w5.cell? ⟨m, 2, none⟩ = some (.int .i64 7) := c2; clear c2)
  go_ret
  exact ⟨rfl, HB.out.trans (hb5.mono HB.out.size)⟩
end Go.Proofs.Ytcfbmgbhpihdcaa
end

section
/- What the document's Edges, Find and Check return. -/
namespace Go.Proofs.Ytcfbmgbhpihdcaa
open Go.RowKit

set_option maxRecDepth 100000 in
theorem refedges_any {w : World} {P : Nat → Prop} {ao : Option Addr} {G : List Vx} (cap : Nat) (h : VxAt w P ao G) (hl : G.length ≤ 9223372036854775807) :
    Calls Try.prog 29 #[.slice ao G.length cap] w fun r w' => r = .returned (.int .i64 (sumE G)) ∧ Below w.heap.size w w' := by
  go_enter Try.func29, Try.ntmps29
  go_wp2
  go_loopw [3, 4] (fun n i wr => ∃ (k : Nat), k ≤ G.length ∧ i = .int .i64 k ∧ n = .int .i64 (sumE (G.take k)) ∧ Below w.heap.size w wr) (fun _ i _ => G.length - (intOf i).toNat)
  case atStart => exact ⟨0, Nat.zero_le _, rfl, rfl, Below.refl _ _⟩
  case round =>
    obtain ⟨k, hk, rfl, rfl, hb⟩ := hrel
    by_cases hlt : k < G.length
    · obtain ⟨b, off, rfl, hP, hc⟩ := h (by omega)
      obtain ⟨eo, ec, c0, c1, c2, _⟩ := hc k hlt
      have hbb := lt_cell c0
      have d2 := (hb.cell (p := ⟨b, off + k * 3 + 2, none⟩) hbb).trans c2
      have HS : Hid _ := sumE_snoc G k hlt
      clear c0 c1 c2 hc
      generalize G[k] = y at d2 HS
      go_wp2
      go_roundw
      case rel => exact ⟨k + 1, by omega, by go_num, by rw [HS.out], hb⟩
      case measure => simp [intOf]; omega
    · obtain rfl : k = G.length := by omega
      go_wp2
      go_ret
      exact ⟨by rw [List.take_length]; rfl, hb⟩
theorem findN_from {l : List Int} {x : Int} {k : Nat} (hk : k ≤ l.length) (h1 : ∀ j (h : j < l.length), j < k → l[j] < x) (h2 : ∀ h : k < l.length, ¬ l[k] < x) : findN l x = k := by
  have hle := findN_le l x
  rcases Nat.lt_trichotomy (findN l x) k with h | h | h
  · exact absurd (h1 _ (by omega) h) (findN_stop l x (by omega))
  · exact h
  · obtain ⟨h', h''⟩ := findN_lt l x k h
    exact absurd h'' (h2 h')

set_option maxRecDepth 100000 in
set_option maxHeartbeats 1000000 in
theorem reffind_any {w : World} {P : Nat → Prop} {ao : Option Addr} {G : List Vx} (cap : Nat) (x : Int) (h : VxAt w P ao G) (hl : G.length ≤ 9223372036854775807) :
    Calls Try.prog 16 #[.slice ao G.length cap, .int .i64 x] w fun r w' => r = .returned (.tuple #[.int .i64 (findN (ids G) x), .bool (foundB (ids G) x)]) ∧ Below w.heap.size w w' := by
  go_enter Try.func16, Try.ntmps16
  go_wp2
  go_loopw [6] (fun i wr => ∃ (k : Nat), k ≤ G.length ∧ i = .int .i64 k ∧ Hid (∀ j (h : j < (ids G).length), j < k → (ids G)[j] < x) ∧ Below w.heap.size w wr) (fun i _ => G.length - (intOf i).toNat)
  case atStart => exact ⟨0, Nat.zero_le _, rfl, fun j _ hj => absurd hj (by omega), Below.refl _ _⟩
  case round =>
    obtain ⟨k, hk, rfl, HR, hb⟩ := hrel
    by_cases hlt : k < G.length
    · obtain ⟨b, off, rfl, hP, hc⟩ := h (by omega)
      obtain ⟨eo, ec, c0, c1, c2, _⟩ := hc k hlt
      have hbb := lt_cell c0
      have d0 := (hb.cell (p := ⟨b, off + k * 3, none⟩) hbb).trans c0
      have HG : Hid ((ids G)[k]'(by rw [ids_len]; exact hlt) = G[k].id) := ids_get G k hlt
      clear c0 c1 c2 hc
      generalize G[k] = y at d0 HG
      by_cases hy : y.id < x
      · go_wp2
        go_roundw
        case rel => exact ⟨k + 1, by omega, by go_num, (fun j hj hjk => by
          by_cases e : j = k
          · subst e; rw [HG.out]; exact hy
          · exact HR.out j hj (by omega)), hb⟩
        case measure => simp [intOf]; omega
      · have HF : Hid (findN (ids G) x = k) := findN_from (by rw [ids_len]; exact hk) HR.out (fun h => by rw [HG.out]; exact hy)
        have HB : Hid (foundB (ids G) x = (y.id == x)) := by
          show _ = _
          unfold foundB
          rw [HF.out, List.getElem?_eq_getElem (by rw [ids_len]; exact hlt), HG.out]
          rfl
        go_wp2
        go_quiet (fail)
        go_wp2
        go_ret2
        exact ⟨by rw [HF.out, HB.out]; rfl, bel_drewN hb _⟩
    · have HF : Hid (findN (ids G) x = k) := findN_from (by rw [ids_len]; exact hk) HR.out (fun h => by rw [ids_len] at h; exact absurd h hlt)
      have HB : Hid (foundB (ids G) x = false) := by
        show _ = _
        unfold foundB
        rw [HF.out, List.getElem?_eq_none (by rw [ids_len]; omega)]; rfl
      have hd : decide ((k : Int) < (G.length : Int)) = false := by rw [decide_eq_false_iff_not]; omega
      go_wp2
      go_quiet (fail)
      go_wp2
      go_ret2
      exact ⟨by rw [HF.out, HB.out]; rfl, bel_drewN hb _⟩
end Go.Proofs.Ytcfbmgbhpihdcaa
end
