import Derived.Test.YtfidojdolbmjdaaSpFaM
import Derived.Test.YtfidojdolbmjdaaGrWalk2M
import Derived.Test.YtfidojdolbmjdaaGrSameM
import Derived.Test.YtfidojdolbmjdaaGrThereM
import Derived.Test.YtfidojdolbmjdaaSpLbM
section
/- What awake of layer 10 returns: true. -/
namespace Go.Proofs.Ytfidojdolbmjdaa
open Go.RowKit Go.Shelf
attribute [local go_sem] Oper.semAt_some
def G10 : List Vx := [⟨1, 0, [⟨2, 5⟩]⟩, ⟨2, 0, [⟨3, 2⟩]⟩, ⟨3, 0, []⟩]
theorem G10_ok : ∀ v ∈ G10, v.ok := by
  intro v hv
  simp only [G10, List.mem_cons, List.not_mem_nil, or_false] at hv
  rcases hv with rfl | rfl | rfl
  · refine ⟨by unfold I64; decide, by unfold I64; decide, fun e he => ?_, by decide⟩
    simp only [List.mem_cons, List.not_mem_nil, or_false] at he
    subst he
    exact ⟨by unfold I64; decide, by unfold I64; decide⟩
  · refine ⟨by unfold I64; decide, by unfold I64; decide, fun e he => ?_, by decide⟩
    simp only [List.mem_cons, List.not_mem_nil, or_false] at he
    subst he
    exact ⟨by unfold I64; decide, by unfold I64; decide⟩
  · exact ⟨by unfold I64; decide, by unfold I64; decide, fun e he => (by cases he), by decide⟩
theorem far10 {w : World} {P : Nat → Prop} {ao : Option Addr} (cap : Nat) (h : VxAt w P ao G10) : Calls Try.prog 25 #[.agg #[.slice ao 3 cap], .int .i64 1, .bool false] w fun r w' => (∃ m, r = .returned (.tuple #[.slice (some ⟨m, 0, none⟩) 3 3, .int .i64 0]) ∧ IB w' m [0, 5, 7]) ∧ Below w.heap.size w w' :=
  far_way cap G10 rfl h G10_ok rfl (by decide +kernel) (by decide +kernel) rfl
theorem way_at {W : World} {b1 b2 b3 : Nat} {f1 f2 f3 : Nat × Nat} (e1 : W.heap[b1]? = some (.cells #[.int .i64 2, .int .i64 5] 53 f1)) (e2 : W.heap[b2]? = some (.cells #[.int .i64 3, .int .i64 2] 53 f2)) (e3 : W.heap[b3]? = some (.cells #[.int .i64 1, .int .i64 0, .slice (some ⟨b1, 0, none⟩) 1 1, .int .i64 2, .int .i64 0, .slice (some ⟨b2, 0, none⟩) 1 1, .int .i64 3, .int .i64 0, .slice none 0 0] 56 f3)) : VxAt W (fun _ => True) (some ⟨b3, 0, none⟩) G10 := by
  intro _
  refine ⟨b3, 0, rfl, trivial, fun j hj => ?_⟩
  match j, hj with
  | 0, _ =>
    refine ⟨some ⟨b1, 0, none⟩, 1, by simp [World.cell?, e3, G10], by simp [World.cell?, e3, G10], by simp [World.cell?, e3, G10], fun _ => ⟨b1, 0, rfl, trivial, fun i hi => ?_⟩⟩
    match i, hi with
    | 0, _ => exact ⟨by simp [World.cell?, e1, G10], by simp [World.cell?, e1, G10]⟩
  | 1, _ =>
    refine ⟨some ⟨b2, 0, none⟩, 1, by simp [World.cell?, e3, G10], by simp [World.cell?, e3, G10], by simp [World.cell?, e3, G10], fun _ => ⟨b2, 0, rfl, trivial, fun i hi => ?_⟩⟩
    match i, hi with
    | 0, _ => exact ⟨by simp [World.cell?, e2, G10], by simp [World.cell?, e2, G10]⟩
  | 2, _ => exact ⟨none, 0, by simp [World.cell?, e3, G10], by simp [World.cell?, e3, G10], by simp [World.cell?, e3, G10], fun h => absurd h (by simp [G10])⟩
theorem way_made (w : World) : VxAt ((((w.alloc (.cells #[.int .i64 2, .int .i64 5] 53)).alloc (.cells #[.int .i64 3, .int .i64 2] 53)).alloc (.cells #[.int .i64 1, .int .i64 0, .slice (some ⟨w.heap.size, 0, none⟩) 1 1, .int .i64 2, .int .i64 0, .slice (some ⟨w.heap.size + 1, 0, none⟩) 1 1, .int .i64 3, .int .i64 0, .slice none 0 0] 56)).alloc (.cells #[.slice (some ⟨w.heap.size + 1 + 1, 0, none⟩) 3 3] 24)) (fun _ => True) (some ⟨w.heap.size + 1 + 1, 0, none⟩) G10 ∧ Below w.heap.size w ((((w.alloc (.cells #[.int .i64 2, .int .i64 5] 53)).alloc (.cells #[.int .i64 3, .int .i64 2] 53)).alloc (.cells #[.int .i64 1, .int .i64 0, .slice (some ⟨w.heap.size, 0, none⟩) 1 1, .int .i64 2, .int .i64 0, .slice (some ⟨w.heap.size + 1, 0, none⟩) 1 1, .int .i64 3, .int .i64 0, .slice none 0 0] 56)).alloc (.cells #[.slice (some ⟨w.heap.size + 1 + 1, 0, none⟩) 3 3] 24)) := by
  have b1 := one_new w (.cells #[.int .i64 2, .int .i64 5] 53)
  have h1 := heap_alloc_new w (.cells #[.int .i64 2, .int .i64 5] 53)
  have b2 := one_new (w.alloc (.cells #[.int .i64 2, .int .i64 5] 53)) (.cells #[.int .i64 3, .int .i64 2] 53)
  have h2 := heap_alloc_new (w.alloc (.cells #[.int .i64 2, .int .i64 5] 53)) (.cells #[.int .i64 3, .int .i64 2] 53)
  have b3 := one_new ((w.alloc (.cells #[.int .i64 2, .int .i64 5] 53)).alloc (.cells #[.int .i64 3, .int .i64 2] 53)) (.cells #[.int .i64 1, .int .i64 0, .slice (some ⟨w.heap.size, 0, none⟩) 1 1, .int .i64 2, .int .i64 0, .slice (some ⟨w.heap.size + 1, 0, none⟩) 1 1, .int .i64 3, .int .i64 0, .slice none 0 0] 56)
  have h3 := heap_alloc_new ((w.alloc (.cells #[.int .i64 2, .int .i64 5] 53)).alloc (.cells #[.int .i64 3, .int .i64 2] 53)) (.cells #[.int .i64 1, .int .i64 0, .slice (some ⟨w.heap.size, 0, none⟩) 1 1, .int .i64 2, .int .i64 0, .slice (some ⟨w.heap.size + 1, 0, none⟩) 1 1, .int .i64 3, .int .i64 0, .slice none 0 0] 56)
  have b4 := one_new (((w.alloc (.cells #[.int .i64 2, .int .i64 5] 53)).alloc (.cells #[.int .i64 3, .int .i64 2] 53)).alloc (.cells #[.int .i64 1, .int .i64 0, .slice (some ⟨w.heap.size, 0, none⟩) 1 1, .int .i64 2, .int .i64 0, .slice (some ⟨w.heap.size + 1, 0, none⟩) 1 1, .int .i64 3, .int .i64 0, .slice none 0 0] 56)) (.cells #[.slice (some ⟨w.heap.size + 1 + 1, 0, none⟩) 3 3] 24)
  simp only [World.size_alloc] at b2 h2 b3 h3 b4
  have b34 := b3.trans (b4.mono (by omega))
  have b24 := b2.trans (b34.mono (by omega))
  refine ⟨way_at (b1 := w.heap.size) (b2 := w.heap.size + 1) (f1 := (0, 0)) (f2 := (0, 0)) (f3 := (0, 0)) ?_ ?_ ?_, b1.trans (b24.mono (by omega))⟩
  · exact (b24.block _ (by omega)).trans h1
  · exact (b34.block _ (by omega)).trans h2
  · exact (b4.block _ (by omega)).trans h3
set_option maxRecDepth 100000 in
set_option maxHeartbeats 400000 in
theorem awake10 (w : World) : Calls Try.prog 11 #[] w fun r w' => r = .returned (.bool true) ∧ Below w.heap.size w w' := by
  obtain ⟨hA, hB⟩ := way_made w
  have HA : Hid _ := hA
  have HB : Hid _ := hB
  clear hA hB
  go_enter Try.func11, Try.ntmps11
  go_wp2_with (go_at_call 25; refine (far10 3 HA.out).mono ?_; rintro r w5 ⟨⟨m, rfl, hI⟩, hb5⟩; have c2 := (IB.cell hI (j := 2) (by decide)).1; have c3 : w5.cell? ⟨m, 2, none⟩ = some (.int .i64 7) := c2; clear c2)
  go_ret
  exact ⟨rfl, HB.out.trans (hb5.mono HB.out.size)⟩
end Go.Proofs.Ytfidojdolbmjdaa
end

section
/- What the document's Edges, Find and Check return. -/
namespace Go.Proofs.Ytfidojdolbmjdaa
open Go.RowKit

set_option maxRecDepth 100000 in
theorem refedges_any {w : World} {P : Nat → Prop} {ao : Option Addr} {G : List Vx} (cap : Nat) (h : VxAt w P ao G) (hl : G.length ≤ 9223372036854775807) :
    Calls Try.prog 45 #[.slice ao G.length cap] w fun r w' => r = .returned (.int .i64 (sumE G)) ∧ Below w.heap.size w w' := by
  go_enter Try.func45, Try.ntmps45
  go_wp2
  go_loopw [3, 4] (fun n i wr => ∃ (k : Nat), k ≤ G.length ∧ i = .int .i64 k ∧ n = .int .i64 (sumE (G.take k)) ∧ Below w.heap.size w wr) (fun _ i _ => G.length - (intOf i).toNat)
  case atStart => exact ⟨0, Nat.zero_le _, rfl, rfl, Below.refl _ _⟩
  case round =>
    obtain ⟨k, hk, rfl, rfl, hb⟩ := hrel
    by_cases hlt : k < G.length
    · obtain ⟨b, off, rfl, hP, hc⟩ := h (by omega)
      obtain ⟨eo, ec, c0, c1, c2, _⟩ := hc k hlt
      have hbb := lt_cell c0
      have d2 := (hb.cell (p := ⟨b, off + k * 3 + 2, none⟩) hbb).trans c2
      have HS : Hid _ := sumE_snoc G k hlt
      clear c0 c1 c2 hc
      generalize G[k] = y at d2 HS
      go_wp2
      go_roundw
      case rel => exact ⟨k + 1, by omega, by go_num, by rw [HS.out], hb⟩
      case measure => simp [intOf]; omega
    · obtain rfl : k = G.length := by omega
      go_wp2
      go_ret
      exact ⟨by rw [List.take_length]; rfl, hb⟩
theorem findN_from {l : List Int} {x : Int} {k : Nat} (hk : k ≤ l.length) (h1 : ∀ j (h : j < l.length), j < k → l[j] < x) (h2 : ∀ h : k < l.length, ¬ l[k] < x) : findN l x = k := by
  have hle := findN_le l x
  rcases Nat.lt_trichotomy (findN l x) k with h | h | h
  · exact absurd (h1 _ (by omega) h) (findN_stop l x (by omega))
  · exact h
  · obtain ⟨h', h''⟩ := findN_lt l x k h
    exact absurd h'' (h2 h')

set_option maxRecDepth 100000 in
set_option maxHeartbeats 1000000 in
theorem reffind_any {w : World} {P : Nat → Prop} {ao : Option Addr} {G : List Vx} (cap : Nat) (x : Int) (h : VxAt w P ao G) (hl : G.length ≤ 9223372036854775807) :
    Calls Try.prog 46 #[.slice ao G.length cap, .int .i64 x] w fun r w' => r = .returned (.tuple #[.int .i64 (findN (ids G) x), .bool (foundB (ids G) x)]) ∧ Below w.heap.size w w' := by
  go_enter Try.func46, Try.ntmps46
  go_wp2
  go_loopw [6] (fun i wr => ∃ (k : Nat), k ≤ G.length ∧ i = .int .i64 k ∧ Hid (∀ j (h : j < (ids G).length), j < k → (ids G)[j] < x) ∧ Below w.heap.size w wr) (fun i _ => G.length - (intOf i).toNat)
  case atStart => exact ⟨0, Nat.zero_le _, rfl, fun j _ hj => absurd hj (by omega), Below.refl _ _⟩
  case round =>
    obtain ⟨k, hk, rfl, HR, hb⟩ := hrel
    by_cases hlt : k < G.length
    · obtain ⟨b, off, rfl, hP, hc⟩ := h (by omega)
      obtain ⟨eo, ec, c0, c1, c2, _⟩ := hc k hlt
      have hbb := lt_cell c0
      have d0 := (hb.cell (p := ⟨b, off + k * 3, none⟩) hbb).trans c0
      have HG : Hid ((ids G)[k]'(by rw [ids_len]; exact hlt) = G[k].id) := ids_get G k hlt
      clear c0 c1 c2 hc
      generalize G[k] = y at d0 HG
      by_cases hy : y.id < x
      · go_wp2
        go_roundw
        case rel => exact ⟨k + 1, by omega, by go_num, (fun j hj hjk => by
          by_cases e : j = k
          · subst e; rw [HG.out]; exact hy
          · exact HR.out j hj (by omega)), hb⟩
        case measure => simp [intOf]; omega
      · have HF : Hid (findN (ids G) x = k) := findN_from (by rw [ids_len]; exact hk) HR.out (fun h => by rw [HG.out]; exact hy)
        have HB : Hid (foundB (ids G) x = (y.id == x)) := by
          show _ = _
          unfold foundB
          rw [HF.out, List.getElem?_eq_getElem (by rw [ids_len]; exact hlt), HG.out]
          rfl
        go_wp2
        go_quiet (fail)
        go_wp2
        go_ret2
        exact ⟨by rw [HF.out, HB.out]; rfl, bel_drewN hb _⟩
    · have HF : Hid (findN (ids G) x = k) := findN_from (by rw [ids_len]; exact hk) HR.out (fun h => by rw [ids_len] at h; exact absurd h hlt)
      have HB : Hid (foundB (ids G) x = false) := by
        show _ = _
        unfold foundB
        rw [HF.out, List.getElem?_eq_none (by rw [ids_len]; omega)]; rfl
      have hd : decide ((k : Int) < (G.length : Int)) = false := by rw [decide_eq_false_iff_not]; omega
      go_wp2
      go_quiet (fail)
      go_wp2
      go_ret2
      exact ⟨by rw [HF.out, HB.out]; rfl, bel_drewN hb _⟩
end Go.Proofs.Ytfidojdolbmjdaa
end

section
/- What the document's Check returns. -/
namespace Go.Proofs.Ytfidojdolbmjdaa
open Go.RowKit
/-- A vertex's edges rise, and their ends are there. -/
def GoodE (G : List Vx) (L : List Ed) (n : Nat) : Prop := (∀ j (h : j < L.length), j < n → (ids G).contains L[j].t = true) ∧ ∀ j (h : j + 1 < L.length), j + 1 < n → L[j].t < L[j + 1].t
theorem good_all {G : List Vx} (H : ∀ j (h : j < G.length), GoodE G G[j].es G[j].es.length) : risesE G = true ∧ thereE G = true := by
  constructor
  · refine risesE_all (fun j hj => (riseB_iff _).2 (fun i hi => ?_))
    have := (H j hj).2 i (by rw [ends_len] at hi; exact hi) (by rw [ends_len] at hi; exact hi)
    rw [ends_get _ _ (by rw [ends_len] at hi; omega), ends_get _ _ (by rw [ends_len] at hi; exact hi)]
    exact this
  · unfold thereE
    rw [List.all_eq_true]
    intro v hv
    obtain ⟨j, hj, rfl⟩ := List.getElem_of_mem hv
    rw [List.all_eq_true]
    intro e he
    obtain ⟨i, hi, rfl⟩ := List.getElem_of_mem he
    exact (H j hj).1 i hi hi
theorem bad_there {G : List Vx} {j i : Nat} (hj : j < G.length) (hi : i < G[j].es.length) (h : (ids G).contains G[j].es[i].t = false) : thereE G = false := by
  unfold thereE
  rw [Bool.eq_false_iff]
  intro ha
  rw [List.all_eq_true] at ha
  have h1 := ha _ (List.getElem_mem hj)
  rw [List.all_eq_true] at h1
  have h2 := h1 _ (List.getElem_mem hi)
  rw [h] at h2
  cases h2
theorem bad_rise {G : List Vx} {j i : Nat} (hj : j < G.length) (hi : i + 1 < G[j].es.length) (h : ¬ G[j].es[i].t < G[j].es[i + 1].t) : risesE G = false := by
  refine risesE_at hj (rise_false (j := i) (by rw [ends_len]; exact hi) ?_)
  rw [ends_get _ _ (by omega), ends_get _ _ hi]
  exact h

set_option maxRecDepth 100000 in
set_option maxHeartbeats 2000000 in
theorem refcheck_any {w : World} {P : Nat → Prop} {ao : Option Addr} {G : List Vx} (cap : Nat) (h : VxAt w P ao G) (hl : G.length ≤ 9223372036854775807) (hok : ∀ v ∈ G, v.ok) :
    Calls Try.prog 24 #[.slice ao G.length cap] w fun r w' => r = .returned (.int .i64 (chk G)) ∧ Below w.heap.size w w' := by
  by_cases hlen : 256 < G.length
  · have HC : Hid (chk G = 30) := if_pos (Or.inl hlen)
    go_enter Try.func24, Try.ntmps24
    go_wp2
    go_ret
    exact ⟨by rw [HC.out]; rfl, Below.refl _ _⟩
  · have HV : Hid (VxAt w P ao G) := h
    have HO : Hid (∀ v ∈ G, v.ok) := hok
    clear h hok
    go_enter Try.func24, Try.ntmps24
    go_wp2
    go_loopw [3] (fun i wr => ∃ (k : Nat), 1 ≤ k ∧ k ≤ max G.length 1 ∧ i = .int .i64 k ∧ Hid (∀ j (h : j + 1 < (ids G).length), j + 1 < k → (ids G)[j] < (ids G)[j + 1]) ∧ Below w.heap.size w wr) (fun i _ => G.length - (intOf i).toNat)
    case atStart => exact ⟨1, Nat.le_refl _, by omega, rfl, fun j _ hj => absurd hj (by omega), Below.refl _ _⟩
    case round =>
      obtain ⟨k, hk1, hk, rfl, HR, hb⟩ := hrel
      by_cases hlt : k < G.length
      · obtain ⟨b, off, rfl, hP, hc⟩ := HV.out (by omega)
        obtain ⟨m, HK⟩ : ∃ m, Hid (k = m + 1) := ⟨k - 1, (by omega : k = k - 1 + 1)⟩
        have hmk : k = m + 1 := HK.out
        have hm0 : m < G.length := by omega
        obtain ⟨eo, ec, c0, _, _, _⟩ := hc m hm0
        obtain ⟨fo, fc, f0, _, _, _⟩ := hc k hlt
        have hbb := lt_cell c0
        have d0 := (hb.cell (p := ⟨b, off + m * 3, none⟩) hbb).trans c0
        have g0 := (hb.cell (p := ⟨b, off + k * 3, none⟩) hbb).trans f0
        have HM : Hid ((ids G)[m]'(by rw [ids_len]; omega) = G[m].id) := ids_get G m hm0
        have HN : Hid ((ids G)[k]'(by rw [ids_len]; omega) = G[k].id) := ids_get G k hlt
        have hm1 : IntKind.i64.wrap ((k : Int) - 1) = m := by rw [IntKind.wrap_i64]; omega
        have hm2 : wrap64 ((k : Int) - 1) = m := by unfold wrap64; omega
        clear c0 f0 hc hmk
        generalize G[m] = y at d0 HM
        generalize G[k] = z at g0 HN
        go_wp2
        go_quiet (fail)
        by_cases hr : z.id ≤ y.id
        · have HC : Hid (chk G = 30) := if_pos (Or.inr (rise_at HK.out (by rw [ids_len]; exact hlt) HM.out HN.out hr))
          go_wp2
          go_ret
          exact ⟨by rw [HC.out]; rfl, bel_drewN hb _⟩
        · go_wp2
          go_roundw
          case rel => exact ⟨k + 1, by omega, by omega, by go_num, rise_step HK.out (by rw [ids_len]; exact hlt) HM.out HN.out (by omega) HR.out, bel_drewN hb _⟩
          case measure => simp [intOf]; omega
      · have HRi : Hid (Rise (ids G)) := fun j hj => HR.out j hj (by rw [ids_len] at hj; omega)
        have HRb : Hid (riseB (ids G) = true) := (riseB_iff _).2 HRi.out
        have HC : Hid (chk G = if 2048 < sumE G ∨ risesE G = false ∨ thereE G = false then 31 else 0) := if_neg (by rw [HRb.out]; simp; omega)
        have HVr : Hid (VxAt wr P ao G) := HV.out.new hb
        have hE := refedges_any cap HVr.out hl
        by_cases hs : 2048 < sumE G
        · go_wp2_with (go_at_call 45; refine hE.mono ?_; rintro r w1 ⟨rfl, hb1⟩)
          go_ret
          exact ⟨by rw [HC.out, if_pos (Or.inl hs)]; rfl, hb.trans (hb1.mono hb.size)⟩
        · go_wp2_with (go_at_call 45; refine hE.mono ?_; rintro r w1 ⟨rfl, hb1⟩)
          have hbA : Below w.heap.size w w1 := hb.trans (hb1.mono hb.size)
          have HVA : Hid (VxAt w1 P ao G) := HVr.out.new hb1
          clear hE hb1
          go_loopw [4, 5, 6, 7, 8] (fun i _ _ _ _ wx => ∃ (j : Nat), j ≤ G.length ∧ i = .int .i64 j ∧ Hid (∀ q (h : q < G.length), q < j → GoodE G G[q].es G[q].es.length) ∧ Below w.heap.size w wx) (fun i _ _ _ _ _ => G.length - (intOf i).toNat)
          case atStart => exact ⟨0, Nat.zero_le _, rfl, fun q _ hq => absurd hq (by omega), hbA⟩
          case round =>
            obtain ⟨j, hj, rfl, HQ, hbx⟩ := hrel
            by_cases hjl : j < G.length
            · obtain ⟨b, off, rfl, hP, hc⟩ := HV.out (by omega)
              obtain ⟨eo, ec, e0, e1, e2, e3⟩ := hc j hjl
              have hbb := lt_cell e0
              have d2 := (hbx.cell (p := ⟨b, off + j * 3 + 2, none⟩) hbb).trans e2
              have HE : Hid (EdAt w P eo G[j].es) := e3
              have hel : G[j].es.length ≤ 9223372036854775807 := Nat.le_trans (HO.out _ (List.getElem_mem hjl)).len (by decide)
              have HB1 : Hid (∀ y, G[j] = y → ∀ i (h : i < y.es.length), (ids G).contains y.es[i].t = false → thereE G = false) := fun y e i hi hcn => by subst e; exact bad_there hjl hi hcn
              have HB2 : Hid (∀ y, G[j] = y → ∀ i (h : i + 1 < y.es.length), ¬ y.es[i].t < y.es[i + 1].t → risesE G = false) := fun y e i hi hcn => by subst e; exact bad_rise hjl hi hcn
              have HB3 : Hid (∀ y, G[j] = y → GoodE G y.es y.es.length → ∀ q (h : q < G.length), q < j + 1 → GoodE G G[q].es G[q].es.length) := fun y e hg q hq hqj => by
                by_cases eq : q = j
                · subst eq; rw [e]; exact hg
                · exact HQ.out q hq (by omega)
              obtain ⟨y, hy⟩ : ∃ y, G[j] = y := ⟨_, rfl⟩
              have HY : Hid (G[j] = y) := hy
              rw [hy] at d2 HE hel
              clear hy e0 e1 e2 e3 hc
              go_wp2
              go_loopw [6, 7, 8] (fun i _ _ wx => ∃ (k : Nat), k ≤ y.es.length ∧ i = .int .i64 k ∧ Hid (GoodE G y.es k) ∧ Below w.heap.size w wx) (fun i _ _ _ => y.es.length - (intOf i).toNat)
              case atStart => exact ⟨0, Nat.zero_le _, rfl, ⟨fun q _ hq => absurd hq (by omega), fun q _ hq => absurd hq (by omega)⟩, hbx⟩
              case round =>
                obtain ⟨k, hk, rfl, HD, hby⟩ := hrel
                by_cases hkl : k < y.es.length
                · obtain ⟨eb, eoff, rfl, hPe, hce⟩ := HE.out (by omega)
                  have f0 := (hby.cell (p := ⟨eb, eoff + k * 2, none⟩) (lt_cell (hce k hkl).1)).trans (hce k hkl).1
                  have hF := reffind_any cap y.es[k].t (HV.out.new hby) hl
                  have HP1 : Hid (foundB (ids G) y.es[k].t = (ids G).contains y.es[k].t) := foundB_iff HRi.out _
                  have HN : Hid (∀ z, y.es[k] = z → (ids G).contains z.t = false → thereE G = false) := fun z e hcn => HB1.out y HY.out k hkl (by rw [e]; exact hcn)
                  cases hfb : foundB (ids G) y.es[k].t with
                  | false =>
                    rw [hfb] at hF HP1
                    have HT : Hid (thereE G = false) := HB1.out y HY.out k hkl HP1.out.symm
                    clear hfb hce
                    generalize y.es[k] = z at f0 hF
                    go_wp2_with (go_at_call 46; refine hF.mono ?_; rintro r w2 ⟨rfl, hb2⟩)
                    go_quiet (fail)
                    go_wp2
                    go_ret
                    exact ⟨by rw [HC.out, if_pos (Or.inr (Or.inr HT.out))]; rfl, bel_drewN (hby.trans (hb2.mono hby.size)) _⟩
                  | true =>
                    rw [hfb] at hF HP1
                    by_cases hk0 : k = 0
                    · have HG : Hid (GoodE G y.es (k + 1)) := ⟨fun q hq hqk => by
                        obtain rfl : q = k := by omega
                        exact HP1.out.symm, fun q _ hq => absurd hq (by omega)⟩
                      have hd : decide (0 < k) = false := by rw [decide_eq_false_iff_not]; omega
                      clear hfb hce hk0
                      generalize y.es[k] = z at f0 hF
                      go_wp2_with (go_at_call 46; refine hF.mono ?_; rintro r w2 ⟨rfl, hb2⟩)
                      go_quiet (fail)
                      go_wp2
                      go_roundw
                      case rel => exact ⟨k + 1, by omega, by go_num, HG.out, bel_drewN (hby.trans (hb2.mono hby.size)) _⟩
                      case measure => simp [intOf]; omega
                    · obtain ⟨m, HK⟩ : ∃ m, Hid (k = m + 1) := ⟨k - 1, (by omega : k = k - 1 + 1)⟩
                      have hmk : k = m + 1 := HK.out
                      have hm0 : m < y.es.length := by omega
                      have g0 := (hby.cell (p := ⟨eb, eoff + m * 2, none⟩) (lt_cell (hce m hm0).1)).trans (hce m hm0).1
                      have hm1 : IntKind.i64.wrap ((k : Int) - 1) = m := by rw [IntKind.wrap_i64]; omega
                      have hm2 : wrap64 ((k : Int) - 1) = m := by unfold wrap64; omega
                      have hpos : decide (0 < k) = true := by rw [decide_eq_true_iff]; omega
                      have hebw : eb < w.heap.size := lt_cell (hce k hkl).1
                      have HG : Hid (∀ u z, y.es[m] = u → y.es[k] = z → u.t < z.t → GoodE G y.es (k + 1)) := fun u z hu hz hlt2 => ⟨fun q hq hqk => by
                        by_cases e : q = k
                        · subst e; exact HP1.out.symm
                        · exact HD.out.1 q hq (by omega), fun q hq hqk => by
                        by_cases e : q = m
                        · subst e; subst hmk; rw [hu, hz]; exact hlt2
                        · exact HD.out.2 q hq (by omega)⟩
                      have HX : Hid (∀ u z, y.es[m] = u → y.es[k] = z → ¬ u.t < z.t → risesE G = false) := fun u z hu hz hn => HB2.out y HY.out m (by omega) (by subst hmk; rw [hu, hz]; omega)
                      obtain ⟨u, hu⟩ : ∃ u, y.es[m] = u := ⟨_, rfl⟩
                      obtain ⟨z, hz⟩ : ∃ z, y.es[k] = z := ⟨_, rfl⟩
                      have HU : Hid (y.es[m] = u) := hu
                      have HZ : Hid (y.es[k] = z) := hz
                      rw [hu] at g0
                      rw [hz] at f0 hF
                      clear hfb hce hk0 hu hz hmk
                      go_wp2_with (go_at_call 46; refine hF.mono ?_; rintro r w2 ⟨rfl, hb2⟩; have f1 := (hb2.cell (p := ⟨eb, eoff + k * 2, none⟩) (Nat.lt_of_lt_of_le hebw hby.size)).trans f0; have g1 := (hb2.cell (p := ⟨eb, eoff + m * 2, none⟩) (Nat.lt_of_lt_of_le hebw hby.size)).trans g0)
                      go_quiet (fail)
                      by_cases hr : z.t ≤ u.t
                      · have HT : Hid (risesE G = false) := HX.out u z HU.out HZ.out (by omega)
                        go_wp2
                        go_ret
                        exact ⟨by rw [HC.out, if_pos (Or.inr (Or.inl HT.out))]; rfl, bel_drewN (hby.trans (hb2.mono hby.size)) _⟩
                      · go_wp2
                        go_roundw
                        case rel => exact ⟨k + 1, by omega, by go_num, HG.out u z HU.out HZ.out (by omega), bel_drewN (hby.trans (hb2.mono hby.size)) _⟩
                        case measure => simp [intOf]; omega
                · obtain rfl : k = y.es.length := by omega
                  go_wp2
                  go_roundw
                  case rel => exact ⟨j + 1, by omega, by go_num, HB3.out y HY.out HD.out, hby⟩
                  case measure => simp [intOf]; omega
            · have HT := good_all (fun q hq => HQ.out q hq (by omega))
              have HE0 : Hid (chk G = 0) := HC.out.trans (if_neg (by rw [HT.1, HT.2]; simp; omega))
              clear HT
              go_wp2
              go_ret
              exact ⟨by rw [HE0.out]; rfl, hbx⟩
theorem rise_of {G : List Vx} (h : chk G = 0) : G.length ≤ 256 ∧ Rise (ids G) := by
  unfold chk at h
  split at h
  · cases h
  · rename_i hn
    refine ⟨by omega, (riseB_iff _).1 ?_⟩
    cases hb : riseB (ids G) with
    | true => rfl
    | false => exact absurd (Or.inr hb) hn
end Go.Proofs.Ytfidojdolbmjdaa
end

section
/- good of layer 10. -/
namespace Go.Proofs.Ytfidojdolbmjdaa
open Go.RowKit Go.Shelf
attribute [local go_sem] Oper.semAt_some
def wOk (v : Vx) : Bool := v.es.all fun e => decide (0 ≤ e.w)
def goodB (G : List Vx) : Bool := decide (chk G = 0) && decide (G.length ≤ 20) && G.all wOk
set_option maxRecDepth 100000 in
set_option maxHeartbeats 2000000 in
theorem good_any {w : World} {P : Nat → Prop} {ao : Option Addr} {G : List Vx} (cap : Nat) (h : VxAt w P ao G) (hok : ∀ v ∈ G, v.ok) (hl : G.length * 40 ≤ 140737488355328) :
    Calls Try.prog 10 #[.agg #[.slice ao G.length cap]] w fun r w' => r = .returned (.bool (goodB G)) ∧ Below w.heap.size w w' := by
  have HG : Hid (∀ W, Below w.heap.size w W → VxAt W (fun k => k < w.heap.size) ao G) := fun W hb => (h.mono (Q := fun k => k < w.heap.size) (fun k hk _ => hk)).new hb
  have HOk : Hid (∀ v ∈ G, v.ok) := hok
  have HB0 : Hid (Below w.heap.size w (w.alloc (.cells #[.slice ao G.length cap] 24))) := one_new _ _
  by_cases hc : chk G = 0
  · have HC : Hid _ := hc
    by_cases h20 : G.length ≤ 20
    · clear h hok hc
      go_enter Try.func10, Try.ntmps10
      go_wp2_with (first
        | (go_at_call 9; refine (ref_any G cap (HG.out _ HB0.out) HOk.out hl).mono ?_; rintro r w2 ⟨bo2, c2, rfl, hV2, hb2⟩; have x2 := (hb2.cell (p := ⟨w.heap.size, 0, none⟩) (by simp)).trans (cell_of_one (heap_alloc_new _ _)); have HB2 : Hid (Below w.heap.size w w2) := HB0.out.trans (hb2.mono HB0.out.size))
        | (go_at_call 24; refine (refcheck_any c2 hV2 (by omega) HOk.out).mono ?_; rintro r w3 ⟨rfl, hb3⟩; rw [HC.out]; have x3 := (hb3.cell (p := ⟨w.heap.size, 0, none⟩) (lt_cell x2)).trans x2; have HB3 : Hid (Below w.heap.size w w3) := HB2.out.trans (hb3.mono HB2.out.size)))
      clear x2 hV2 hb2 hb3 HB2 HB0
      obtain ⟨n, hn⟩ : ∃ n, G.length = n := ⟨_, rfl⟩
      have HN : Hid (G.length = n) := hn
      have hV3 := HG.out w3 HB3.out
      have HV3 : Hid _ := hV3
      rw [hn] at x3 h20 ⊢
      clear hV3 hn
      go_loopw [3, 4] (fun i _ wr => ∃ j : Nat, j ≤ n ∧ i = .int .i64 j ∧ wr = w3 ∧ Hid ((G.take j).all wOk = true)) (fun i _ _ => n - (intOf i).toNat)
      case atStart => exact ⟨0, Nat.zero_le _, rfl, rfl, rfl⟩
      case round =>
        obtain ⟨j, hj, rfl, rfl, HT⟩ := hrel
        by_cases hlt : j < n
        · have hjG : j < G.length := by rw [HN.out]; exact hlt
          obtain ⟨b, off, rfl, hP, hcl⟩ := HV3.out (by omega)
          obtain ⟨eo, ec, d0, d1, d2, hE⟩ := hcl j hjG
          obtain ⟨es, hes⟩ : ∃ es, G[j].es = es := ⟨_, rfl⟩
          rw [hes] at d2 hE
          have hle : es.length ≤ 8796093022208 := by rw [← hes]; exact (HOk.out _ (List.getElem_mem hjG)).len
          have HEs : Hid (wOk G[j] = es.all fun e => decide (0 ≤ e.w)) := by show _ = _; unfold wOk; rw [hes]
          have HE : Hid _ := hE
          clear hcl hE hes d0 d1
          go_wp2
          go_loopw [4] (fun i wr' => ∃ k : Nat, k ≤ es.length ∧ i = .int .i64 k ∧ wr' = wr ∧ Hid ((es.take k).all (fun e => decide (0 ≤ e.w)) = true)) (fun i _ => es.length - (intOf i).toNat)
          case atStart => exact ⟨0, Nat.zero_le _, rfl, rfl, rfl⟩
          case round =>
            obtain ⟨k, hk, rfl, rfl, HT2⟩ := hrel
            by_cases hlk : k < es.length
            · obtain ⟨eb, eoff, rfl, hPe, hce⟩ := HE.out (by omega)
              obtain ⟨a0, a1⟩ := hce k hlk
              have HS : Hid ((es.take (k + 1)).all (fun e => decide (0 ≤ e.w)) = decide (0 ≤ es[k].w)) := by
                show _ = _
                rw [List.take_add_one, List.getElem?_eq_getElem hlk, List.all_append, HT2.out]
                simp
              have HNo : Hid (¬ 0 ≤ es[k].w → goodB G = false) := fun hno => by
                have h1 : wOk G[j] = false := by
                  rw [HEs.out]
                  cases hx : es.all (fun e => decide (0 ≤ e.w)) with
                  | false => rfl
                  | true =>
                    have := List.all_eq_true.1 hx es[k] (List.getElem_mem hlk)
                    exact absurd (by simpa using this) hno
                have h2 : G.all wOk = false := by
                  cases hx : G.all wOk with
                  | false => rfl
                  | true =>
                    have := List.all_eq_true.1 hx G[j] (List.getElem_mem hjG)
                    rw [h1] at this
                    cases this
                unfold goodB
                rw [h2, Bool.and_false]
              generalize es[k].w = y at a1 HS HNo
              clear hce a0
              by_cases hy : y < 0
              · go_wp2
                go_ret
                exact ⟨by rw [HNo.out (by omega)]; rfl, HB3.out⟩
              · have hy2 : 0 ≤ y := by omega
                go_wp2
                go_roundw
                case rel => exact ⟨k + 1, by omega, by go_num, (by first | rfl | trivial), by rw [HS.out]; show decide _ = true; simp [hy2]⟩
                case measure => simp [intOf]; omega
            · obtain rfl : k = es.length := by omega
              have HT3 : Hid ((G.take (j + 1)).all wOk = true) := by
                show _ = _
                have h2 := HT2.out
                rw [List.take_of_length_le (Nat.le_refl _)] at h2
                rw [List.take_add_one, List.getElem?_eq_getElem hjG, List.all_append, HT.out]
                simp [HEs.out, h2]
              go_wp2
              go_roundw
              case rel => exact ⟨j + 1, by omega, by go_num, (by first | rfl | trivial), HT3⟩
              case measure => simp [intOf]; omega
        · obtain rfl : j = n := by omega
          have HYes : Hid (goodB G = true) := by
            show _ = _
            have h2 := HT.out
            rw [List.take_of_length_le (by have := HN.out; omega)] at h2
            have h3 := HN.out
            unfold goodB
            simp [HC.out, h2, h3, h20]
          go_wp2
          go_ret
          exact ⟨by rw [HYes.out]; rfl, HB3.out⟩
    · clear h hok hc
      have hf : goodB G = false := by unfold goodB; simp [h20]
      have h21 : (20 : Int) < G.length := by omega
      rw [hf]
      clear hf
      go_enter Try.func10, Try.ntmps10
      go_wp2_with (first
        | (go_at_call 9; refine (ref_any G cap (HG.out _ HB0.out) HOk.out hl).mono ?_; rintro r w2 ⟨bo2, c2, rfl, hV2, hb2⟩; have x2 := (hb2.cell (p := ⟨w.heap.size, 0, none⟩) (by simp)).trans (cell_of_one (heap_alloc_new _ _)); have HB2 : Hid (Below w.heap.size w w2) := HB0.out.trans (hb2.mono HB0.out.size))
        | (go_at_call 24; refine (refcheck_any c2 hV2 (by omega) HOk.out).mono ?_; rintro r w3 ⟨rfl, hb3⟩; rw [HC.out]; have x3 := (hb3.cell (p := ⟨w.heap.size, 0, none⟩) (lt_cell x2)).trans x2; have HB3 : Hid (Below w.heap.size w w3) := HB2.out.trans (hb3.mono HB2.out.size)))
      go_ret
      exact ⟨rfl, HB3.out⟩
  · have hf : goodB G = false := by unfold goodB; simp [hc]
    obtain ⟨c, hcc⟩ : ∃ c, chk G = c := ⟨_, rfl⟩
    have HC : Hid _ := hcc
    rw [hcc] at hc
    rw [hf]
    clear h hok hcc hf
    go_enter Try.func10, Try.ntmps10
    go_wp2_with (first
      | (go_at_call 9; refine (ref_any G cap (HG.out _ HB0.out) HOk.out hl).mono ?_; rintro r w2 ⟨bo2, c2, rfl, hV2, hb2⟩; have x2 := (hb2.cell (p := ⟨w.heap.size, 0, none⟩) (by simp)).trans (cell_of_one (heap_alloc_new _ _)); have HB2 : Hid (Below w.heap.size w w2) := HB0.out.trans (hb2.mono HB0.out.size))
      | (go_at_call 24; refine (refcheck_any c2 hV2 (by omega) HOk.out).mono ?_; rintro r w3 ⟨rfl, hb3⟩; rw [HC.out]; have x3 := (hb3.cell (p := ⟨w.heap.size, 0, none⟩) (lt_cell x2)).trans x2; have HB3 : Hid (Below w.heap.size w w3) := HB2.out.trans (hb3.mono HB2.out.size)))
    go_ret
    exact ⟨rfl, HB3.out⟩
end Go.Proofs.Ytfidojdolbmjdaa
end

section
/- The rows of a web, out of a graph. -/
namespace Go.Proofs.Ytfidojdolbmjdaa
open Go.RowKit Go.Shelf
/-- A vertex's edges, by places. -/
def rowO (I : List Int) (v : Vx) : List Ed := v.es.map fun e => ⟨(findN I e.t : Nat), e.w⟩
theorem rise_less {l : List Int} (h : Rise l) : ∀ (d i : Nat) (h' : i + d + 1 < l.length), l[i] < l[i + d + 1]
  | 0, i, h' => h i h'
  | d + 1, i, h' => by
    have h1 := rise_less h d i (by omega)
    have h2 := h (i + d + 1) (by omega)
    have e : i + (d + 1) + 1 = i + d + 1 + 1 := by omega
    simp only [e]
    omega
theorem rise_two {l : List Int} (h : Rise l) {i j : Nat} (hj : j < l.length) (hij : i < j) : l[i] < l[j] := by
  have := rise_less h (j - i - 1) i (by omega)
  have e : i + (j - i - 1) + 1 = j := by omega
  simp only [e] at this
  exact this
theorem findN_self {l : List Int} (h : Rise l) {j : Nat} (hj : j < l.length) : findN l l[j] = j :=
  findN_eq (Nat.le_of_lt hj) (fun i _ hi => rise_two h hj hi) (fun i hi hji => by
    by_cases e : i = j
    · subst e; omega
    · have := rise_two h hi (show j < i by omega)
      omega)
theorem foldA (I : List Int) (x : Int) (a : Nat) (hx : findN I x = a) : ∀ (L : List Ed) (s : List (List Ed) × List (List Int)), a < s.1.length → ((L.map fun e => (x, e)).foldl (stepW I) s).1 = s.1.set a (s.1.getD a [] ++ L.map fun e => ⟨(findN I e.t : Nat), e.w⟩)
  | [], s, h => by
    simp only [List.map_nil, List.foldl_nil, List.append_nil]
    apply List.ext_getElem?
    intro k
    rw [List.getElem?_set]
    by_cases e : a = k
    · subst e; simp [h, List.getD]
    · simp [e]
  | e :: L, s, h => by
    rw [List.map_cons, List.foldl_cons, foldA I x a hx L _ (by simp [stepW, addW, h])]
    simp only [stepW, hx, addW]
    rw [List.set_set]
    congr 1
    simp [List.getD, h]
theorem foldO {G : List Vx} (hr : Rise (ids G)) : ∀ j, j ≤ G.length → (foldW (ids G) G.length (evs (G.take j))).1 = (G.take j).map (rowO (ids G)) ++ List.replicate (G.length - j) []
  | 0, _ => by simp [evs, foldW]
  | j + 1, h => by
    have hj : j < G.length := by omega
    have ih := foldO hr j (by omega)
    have hid : findN (ids G) G[j].id = j := by
      have hji : j < (ids G).length := by rw [ids_len]; exact hj
      have := findN_self hr hji
      have e : (ids G)[j] = G[j].id := by simp [ids]
      rw [e] at this
      exact this
    rw [evs_snoc G j hj]
    unfold foldW at ih ⊢
    rw [List.foldl_append, foldA (ids G) G[j].id j hid _ _ (by rw [ih]; simp; omega), ih]
    have e1 : ((G.take j).map (rowO (ids G))).length = j := by simp; omega
    have e2 : List.replicate (G.length - j) ([] : List Ed) = [] :: List.replicate (G.length - (j + 1)) [] := by
      rw [← List.replicate_succ]; congr 1; omega
    rw [e2]
    have e3 : ((G.take j).map (rowO (ids G)) ++ [] :: List.replicate (G.length - (j + 1)) []).getD j [] = [] := by
      rw [List.getD, List.getElem?_append_right (by omega), e1]; simp
    rw [e3, List.set_append_right _ _ (by omega), e1, Nat.sub_self, List.set_cons_zero, List.nil_append, List.take_add_one, List.getElem?_eq_getElem hj]
    simp only [Option.toList_some, List.map_append, List.map_cons, List.map_nil, List.append_assoc, List.cons_append, List.nil_append]
    rfl
theorem outRows {G : List Vx} (hr : Rise (ids G)) : (foldW (ids G) G.length (evs G)).1 = G.map (rowO (ids G)) := by
  have := foldO hr G.length (Nat.le_refl _)
  rw [List.take_length] at this
  simpa using this
theorem outSum (I : List Int) : ∀ G : List Vx, ((G.map (rowO I)).map List.length).sum = (evs G).length
  | [] => rfl
  | v :: G => by
    have := outSum I G
    unfold evs at this ⊢
    simp [rowO] at this ⊢
    omega
theorem outIn {G : List Vx} (hr : Rise (ids G)) (hth : thereE G = true) : ∀ l ∈ G.map (rowO (ids G)), ∀ e ∈ l, 0 ≤ e.t ∧ e.t < G.length := by
  intro l hl e he
  obtain ⟨v, hv, rfl⟩ := List.mem_map.1 hl
  obtain ⟨d, hd, rfl⟩ := List.mem_map.1 he
  have h1 : (v.id, d) ∈ evs G := List.mem_flatMap.2 ⟨v, hv, List.mem_map.2 ⟨d, hd, rfl⟩⟩
  have h2 := (found_mem hr (ev_ids h1 hth).2).2
  rw [ids_len] at h2
  exact ⟨by simp, by simpa using h2⟩
end Go.Proofs.Ytfidojdolbmjdaa
end

section
/- spec.Ranks and spec.Labels: so many turns. -/
namespace Go.Proofs.Ytfidojdolbmjdaa
open Go.RowKit Go.Shelf
attribute [local go_sem] Oper.semAt_some
theorem enters_rk : ∀ args w, (callFunc 28 args).run Try.prog w = .ok (.enter 28 args) w := enters_of Try.func28 (by kernel_rfl) rfl
theorem enters_lb : ∀ args w, (callFunc 29 args).run Try.prog w = .ok (.enter 29 args) w := enters_of Try.func29 (by kernel_rfl) rfl
/-- A graph's rows, by places. -/
def rowsG (G : List Vx) : List (List Ed) := G.map (rowO (ids G))
theorem rowsG_in {G : List Vx} (hr : Rise (ids G)) (hth : thereE G = true) (k : Nat) : ∀ e ∈ (rowsG G).getD k [], 0 ≤ e.t ∧ e.t < G.length := by
  intro e he
  by_cases hk : k < (rowsG G).length
  · rw [← get_dd hk] at he
    exact outIn hr hth _ (List.getElem_mem hk) e he
  · rw [List.getD, List.getElem?_eq_none (by omega)] at he
    cases he
theorem sum_mem : ∀ (L : List Nat) (x : Nat), x ∈ L → x ≤ L.sum
  | a :: L, x, h => by
    rw [List.sum_cons]
    rcases List.mem_cons.1 h with rfl | h
    · omega
    · have := sum_mem L x h; omega
theorem rowsG_len {G : List Vx} (he : (evs G).length ≤ 2048) (k : Nat) : ((rowsG G).getD k []).length ≤ 2048 := by
  by_cases hk : k < (rowsG G).length
  · rw [← get_dd hk]
    have h1 := sum_mem (((rowsG G)).map List.length) (rowsG G)[k].length (List.mem_map.2 ⟨_, List.getElem_mem hk, rfl⟩)
    have h2 := outSum (ids G) G
    unfold rowsG at h1 h2 ⊢
    omega
  · rw [List.getD, List.getElem?_eq_none (by omega)]
    simp
theorem rowsG_n (G : List Vx) : (rowsG G).length = G.length := by simp [rowsG]
def ranksN (G : List Vx) (t : Nat) : List Int := iterT (rankT (rowsG G) G.length) t (List.replicate G.length (1000000 / (G.length : Int)))
def labelsN (G : List Vx) (t : Nat) : List Int := iterT (labT (rowsG G) G.length) t (ids G)
theorem ranksN_ok {G : List Vx} (hr : Rise (ids G)) (hth : thereE G = true) (t : Nat) : RkOk G.length (ranksN G t) := iter_ok (fun _ h => rankT_ok (fun k e he => by have := rowsG_in hr hth k e he; omega) h) t _ (first_ok _)
theorem labelsN_len (G : List Vx) (t : Nat) : (labelsN G t).length = G.length := iter_ok (p := fun X => X.length = G.length) (fun _ _ => labT_len _ _ _) t _ (ids_len G)
set_option maxRecDepth 100000 in
set_option maxHeartbeats 4000000 in
theorem labels_any {w : World} {P : Nat → Prop} {ao : Option Addr} {G : List Vx} (cap : Nat) (h : VxAt w P ao G) (hok : ∀ v ∈ G, v.ok) (hr : Rise (ids G)) (hth : thereE G = true) (hl : G.length ≤ 256) (he : (evs G).length ≤ 2048) {t : Nat} (ht : t ≤ 1000) :
    Calls Try.prog 13 #[.agg #[.slice ao G.length cap], .int .i64 t] w fun r w' => (∃ u, r = .returned u ∧ RwI w' 2 0 u (labelsN G t)) ∧ Below w.heap.size w w' := by
  have hmf : ∀ (fn : Fn) (first cap : Array Value) (w : World), (Instr.makeFunc fn first cap).run Try.prog w = .ok (.func fn first cap) w := fun _ _ _ _ => rfl
  obtain ⟨n, hn⟩ : ∃ n, G.length = n := ⟨_, rfl⟩
  have HWv : Hid (∀ W, Below w.heap.size w W → Calls Try.prog 26 #[.agg #[.slice ao n cap]] W fun r w' => (∃ gi ci g1 g2 B, r = .returned (.agg #[.slice (some ⟨gi, 0, none⟩) n ci, .slice (some ⟨g1, 0, none⟩) n n, .slice (some ⟨g2, 0, none⟩) n n]) ∧ WebAt w' W.heap.size gi ci g1 g2 B n (ids G) (rowsG G) ((foldW (ids G) n (evs G)).2.map nearL)) ∧ Below W.heap.size W w') := fun W hb => by
    have := weave_any cap (h.new hb) hok hr hth hl he
    rw [outRows hr, hn] at this
    exact this
  have HIn : Hid (∀ k, ∀ e ∈ (rowsG G).getD k [], 0 ≤ e.t ∧ e.t < n) := by rw [← hn]; exact rowsG_in hr hth
  have HLe : Hid (∀ k, ((rowsG G).getD k []).length ≤ 2048) := rowsG_len he
  have HGn : Hid ((rowsG G).length = n) := by show _ = _; rw [rowsG_n, hn]
  have HIl : Hid ((ids G).length = n) := by show _ = _; rw [ids_len, hn]
  have hn256 : n ≤ 256 := by omega
  have HN : Hid (G.length = n) := hn
  rw [hn]
  clear h hok hr hth he hl hn
  go_enter Try.func13, Try.ntmps13
  go_upto_region 2 with (go_at_call 26; refine (HWv.out _ (one_new _ _)).mono ?_; rintro r w1 ⟨⟨gi, ci, g1, g2, B, rfl, hw1⟩, hb1⟩)
  have HB1 : Hid (Below w.heap.size w w1) := (one_new w _).trans (hb1.mono (by rw [World.size_alloc]; omega))
  generalize hW2 : World.alloc w1 _ = W2
  obtain ⟨wb, hwb⟩ : ∃ wb, w1.heap.size = wb := ⟨_, rfl⟩
  have hbx := heap_alloc_new w1 (.cells #[.slice (some ⟨gi, 0, none⟩) n ci, .slice (some ⟨g1, 0, none⟩) n n, .slice (some ⟨g2, 0, none⟩) n n] 70)
  have HB2 : Hid (Below w1.heap.size w1 W2) := by rw [← hW2]; exact one_new _ _
  rw [hW2, hwb] at hbx
  rw [hwb]
  obtain ⟨c0, c1, c2⟩ := box3 hbx
  have HW : Hid (WebAt W2 _ gi ci g1 g2 B n (ids G) (rowsG G) _) := hw1.new HB2.out
  have HC1 : Hid (W2.cell? ⟨wb, 1, none⟩ = some (.slice (some ⟨g1, 0, none⟩) n n)) := c1
  have HT : Hid (TurnF W2 29 #[.pointer (some ⟨wb, 0, none⟩)] (labT (rowsG G) n) (fun X => X.length = n)) := by
    obtain ⟨vs, hM⟩ := HW.out.om
    exact ⟨enters_lb, fun W v X hb hv hX => labels1_any ((hb.cell (lt_cell HC1.out)).trans HC1.out) (hM.new hb) hv hX HGn.out HIn.out HLe.out hn256⟩
  have HBe : Hid (Calls Try.prog 27 #[.int .i64 t, .slice (some ⟨gi, 0, none⟩) n ci, .func (.func 29) #[] #[.pointer (some ⟨wb, 0, none⟩)]] W2 fun r w' => ∃ u, r = .returned u ∧ RwI w' 2 0 u (iterT (labT (rowsG G) n) t (ids G)) ∧ Below W2.heap.size W2 w') := behind_any HT.out (ri_low HW.out.idr (Nat.zero_le _)) HIl.out (fun _ h => h) (fun _ _ => labT_len _ _ _) (by omega) ht
  clear hw1 hb1 hbx hW2 hwb HT HW HC1 HWv
  go_wp2_with (go_at_call 27; refine HBe.out.mono ?_; rintro r w3 ⟨u, rfl, hu, hb3⟩)
  go_ret
  have hs := HB1.out.size
  refine ⟨⟨u, rfl, ?_⟩, HB1.out.trans ((HB2.out.trans (hb3.mono HB2.out.size)).mono hs)⟩
  unfold labelsN
  rw [HN.out]
  exact hu
set_option maxRecDepth 100000 in
set_option maxHeartbeats 4000000 in
theorem ranks_any {w : World} {P : Nat → Prop} {ao : Option Addr} {G : List Vx} (cap : Nat) (h : VxAt w P ao G) (hok : ∀ v ∈ G, v.ok) (hr : Rise (ids G)) (hth : thereE G = true) (hl : G.length ≤ 256) (he : (evs G).length ≤ 2048) {t : Nat} (ht : t ≤ 1000) :
    Calls Try.prog 12 #[.agg #[.slice ao G.length cap], .int .i64 t] w fun r w' => (∃ u, r = .returned u ∧ RwI w' 2 0 u (ranksN G t)) ∧ Below w.heap.size w w' := by
  have hmf : ∀ (fn : Fn) (first cap : Array Value) (w : World), (Instr.makeFunc fn first cap).run Try.prog w = .ok (.func fn first cap) w := fun _ _ _ _ => rfl
  obtain ⟨i0, hi, hz0, hz1, hz2⟩ := info_parts infoSI
  obtain ⟨n, hn⟩ : ∃ n, G.length = n := ⟨_, rfl⟩
  have hn256 : n ≤ 256 := by omega
  have hmk : ∀ W : World, (Instr.makeSlice 36 (.int .i64 (n : Int)) (.int .i64 (n : Int))).run Try.prog W = .ok (.slice (some ⟨W.heap.size, 0, none⟩) n n) (W.alloc (.cells (madeCells #[.int .i64 0] n) 2)) := fun W => by
    have := run_make (P := Try.prog) W 36 2 i0 (.int .i64 0) Try.underlying36 hi hz0 .i64 .i64 n n (by omega) (by omega) (by rw [hz2]; omega) (by omega)
    simpa [hz1, Value.cells] using this
  have HWv : Hid (∀ W, Below w.heap.size w W → Calls Try.prog 26 #[.agg #[.slice ao n cap]] W fun r w' => (∃ gi ci g1 g2 B, r = .returned (.agg #[.slice (some ⟨gi, 0, none⟩) n ci, .slice (some ⟨g1, 0, none⟩) n n, .slice (some ⟨g2, 0, none⟩) n n]) ∧ WebAt w' W.heap.size gi ci g1 g2 B n (ids G) (rowsG G) ((foldW (ids G) n (evs G)).2.map nearL)) ∧ Below W.heap.size W w') := fun W hb => by
    have := weave_any cap (h.new hb) hok hr hth hl he
    rw [outRows hr, hn] at this
    exact this
  have HIn : Hid (∀ k, ∀ e ∈ (rowsG G).getD k [], 0 ≤ e.t ∧ e.t < n) := by rw [← hn]; exact rowsG_in hr hth
  have HLe : Hid (∀ k, ((rowsG G).getD k []).length ≤ 2048) := rowsG_len he
  have HGn : Hid ((rowsG G).length = n) := by show _ = _; rw [rowsG_n, hn]
  have HN : Hid (G.length = n) := hn
  rw [hn]
  clear h hok hr hth he hl hn
  -- how many, at least one
  obtain ⟨mn, hmn⟩ : ∃ mn : Nat, max 1 n = mn := ⟨_, rfl⟩
  have hmn0 : 0 < mn ∧ mn ≤ 256 := by omega
  have hmx : max (1 : Int) (n : Int) = (mn : Int) := by omega
  have HMn : Hid (0 < n → mn = n) := fun h => by omega
  have hq1 : Int.tdiv 1000000 (mn : Int) = 1000000 / (mn : Int) := Int.tdiv_eq_ediv_of_nonneg (by decide)
  have hq2 : Int.tdiv 150000 (mn : Int) = 150000 / (mn : Int) := Int.tdiv_eq_ediv_of_nonneg (by decide)
  have hne : ¬ (mn : Int) = 0 := by omega
  obtain ⟨a1, ha1⟩ : ∃ a1, 1000000 / (mn : Int) = a1 := ⟨_, rfl⟩
  obtain ⟨a2, ha2⟩ : ∃ a2, 150000 / (mn : Int) = a2 := ⟨_, rfl⟩
  have hA1 : 0 ≤ a1 ∧ a1 ≤ 1000000 := by rw [← ha1]; exact ⟨Int.ediv_nonneg (by decide) (by omega), Int.ediv_le_self _ (by decide)⟩
  have hA2 : 0 ≤ a2 ∧ a2 ≤ 150000 := by rw [← ha2]; exact ⟨Int.ediv_nonneg (by decide) (by omega), Int.ediv_le_self _ (by decide)⟩
  have hw1 : IntKind.i64.wrap a1 = a1 := IntWalk.i64_in _ (by omega)
  have hw2 : IntKind.i64.wrap a2 = a2 := IntWalk.i64_in _ (by omega)
  have HA1 : Hid (0 < n → a1 = 1000000 / (n : Int)) := fun h => by rw [← ha1, HMn.out h]
  have HA2 : Hid (0 < n → a2 = 150000 / (n : Int)) := fun h => by rw [← ha2, HMn.out h]
  rw [ha1] at hq1
  rw [ha2] at hq2
  clear hmn hA1 hA2
  go_enter Try.func12, Try.ntmps12
  go_upto_region 2 with (go_at_call 26; refine (HWv.out _ (one_new _ _)).mono ?_; rintro r w1 ⟨⟨gi, ci, g1, g2, B, rfl, hw1⟩, hb1⟩)
  have HB1 : Hid (Below w.heap.size w w1) := (one_new w _).trans (hb1.mono (by rw [World.size_alloc]; omega))
  generalize hW2 : World.alloc w1 _ = W2
  obtain ⟨wb, hwb⟩ : ∃ wb, w1.heap.size = wb := ⟨_, rfl⟩
  have hbx := heap_alloc_new w1 (.cells #[.slice (some ⟨gi, 0, none⟩) n ci, .slice (some ⟨g1, 0, none⟩) n n, .slice (some ⟨g2, 0, none⟩) n n] 70)
  have HB2 : Hid (Below w1.heap.size w1 W2) := by rw [← hW2]; exact one_new _ _
  rw [hW2, hwb] at hbx
  rw [hwb]
  obtain ⟨c0, c1, c2⟩ := box3 hbx
  have HW : Hid (WebAt W2 _ gi ci g1 g2 B n (ids G) (rowsG G) _) := hw1.new HB2.out
  have HC1 : Hid (W2.cell? ⟨wb, 1, none⟩ = some (.slice (some ⟨g1, 0, none⟩) n n)) := c1
  clear hw1 hb1 hbx hW2 hwb HWv c1 c2
  go_upto_region 4 with (fail)
  generalize hW3 : World.alloc W2 _ = W3
  obtain ⟨m, hm⟩ : ∃ m, W2.heap.size = m := ⟨_, rfl⟩
  have HI3 : Hid (IB W3 m (midL (List.replicate n a1) (List.replicate n 0) 0)) := by
    rw [midL_zero, ← hW3, ← hm]
    exact IB.made _ _
  have HF3 : Hid (Fr W2 W3 (fun k => k = m)) := by rw [← hW3]; exact Fr.alloc _ _ _
  have HM2 : Hid (W2.heap.size = m) := hm
  rw [hm]
  clear hW3 hm c0 hmk
  go_wp2
  go_loopw [8, 22] (fun _ i wr => ∃ j : Nat, j ≤ n ∧ i = .int .i64 j ∧ Hid (IB wr m (midL (List.replicate n a1) (List.replicate n 0) j)) ∧ Hid (Fr W2 wr (fun k => k = m))) (fun _ i _ => n - (intOf i).toNat)
  case atStart => exact ⟨0, Nat.zero_le _, rfl, HI3.out, HF3.out⟩
  case round =>
    obtain ⟨j, hj, rfl, HI, HF⟩ := hrel
    by_cases hlt : j < n
    · have hjl : j < (midL (List.replicate n a1) (List.replicate n 0) j).length := by rw [midL_len (n := n) (by simp) (by simp) j hj]; exact hlt
      obtain ⟨z0, z1⟩ := IB.cell HI.out hjl
      have HSt : Hid ((midL (List.replicate n a1) (List.replicate n 0) j).set j a1 = midL (List.replicate n a1) (List.replicate n 0) (j + 1)) := by
        have := midL_set (Fa := List.replicate n a1) (R := List.replicate n 0) (n := n) (by simp) (by simp) hlt
        rw [show (List.replicate n a1).getD j 0 = a1 by simp [List.getD, hlt]] at this
        exact this
      go_wp2
      generalize hW5 : World.setCell wr _ _ = W5
      have HI5 : Hid (IB W5 m (midL (List.replicate n a1) (List.replicate n 0) (j + 1))) := by
        rw [← HSt.out, ← hW5]
        exact IB.set HI.out _ _
      have HF5 : Hid (Fr W2 W5 (fun q => q = m)) := by rw [← hW5]; exact HF.out.trans (Fr.setCell (S := fun q => q = m) _ _ _ rfl) (fun _ _ h => h)
      go_roundw
      case rel => exact ⟨j + 1, by omega, by go_num, HI5, HF5⟩
      case measure => simp [intOf]; omega
    · obtain rfl : j = n := by omega
      have HI6 : Hid (IB wr m (List.replicate j (1000000 / (j : Int)))) := by
        have := HI.out
        rw [midL_end (n := j) (by simp) (by simp)] at this
        by_cases h0 : 0 < j
        · rw [← HA1.out h0]; exact this
        · obtain rfl : j = 0 := by omega
          exact this
      clear HI
      go_upto_region 10 with (fail)
      generalize hW7 : World.alloc wr _ = W7
      obtain ⟨ob, hob⟩ : ∃ ob, wr.heap.size = ob := ⟨_, rfl⟩
      have hbx := heap_alloc_new wr (.cells #[.int .i64 a2] 2)
      rw [hW7, hob] at hbx
      rw [hob]
      have HB7 : Hid (Below wr.heap.size wr W7) := by rw [← hW7]; exact one_new _ _
      have HOb : Hid (W7.cell? ⟨ob, 0, none⟩ = some (.int .i64 a2)) := cell_of_one hbx
      have HB27 : Hid (Below W2.heap.size W2 W7) := ((Below.refl _ W2).trans (HF.out.below (Nat.le_refl _) (fun k hk => by have := HM2.out; omega))).trans (HB7.out.mono HF.out.size)
      have HI7 : Hid (IB W7 m (List.replicate j (1000000 / (j : Int)))) := IB.new HI6.out HB7.out
      have HT : Hid (TurnF W7 28 #[.pointer (some ⟨wb, 0, none⟩), .pointer (some ⟨ob, 0, none⟩)] (rankT (rowsG G) j) (RkOk j)) := by
        obtain ⟨vs, hM⟩ := (HW.out.new HB27.out).om
        have hc := (HB27.out.cell (lt_cell HC1.out)).trans HC1.out
        exact ⟨enters_rk, fun W v X hb hv hX => ranks1_any ((hb.cell (lt_cell hc)).trans hc) ((hb.cell (lt_cell HOb.out)).trans HOb.out) HA2.out (hM.new hb) hv hX HGn.out HIn.out HLe.out hn256⟩
      have HBe : Hid (Calls Try.prog 27 #[.int .i64 t, .slice (some ⟨m, 0, none⟩) j j, .func (.func 28) #[] #[.pointer (some ⟨wb, 0, none⟩), .pointer (some ⟨ob, 0, none⟩)]] W7 fun r w' => ∃ u, r = .returned u ∧ RwI w' 2 0 u (iterT (rankT (rowsG G) j) t (List.replicate j (1000000 / (j : Int)))) ∧ Below W7.heap.size W7 w') := behind_any HT.out (ri_of_ib HI7.out (by simp) (Nat.zero_le _) (by omega)) (first_ok j) (fun _ h => h.1) (fun _ h => rankT_ok (fun k e he => by have := HIn.out k e he; omega) h) (by omega) ht
      clear hbx hW7 hob HT HW HC1
      go_wp2_with (go_at_call 27; refine HBe.out.mono ?_; rintro r w3 ⟨u, rfl, hu, hb3⟩)
      go_ret
      have hs := HB1.out.size
      refine ⟨⟨u, rfl, ?_⟩, HB1.out.trans ((HB2.out.trans ((HB27.out.trans (hb3.mono HB27.out.size)).mono HB2.out.size)).mono hs)⟩
      unfold ranksN
      rw [HN.out]
      exact hu
end Go.Proofs.Ytfidojdolbmjdaa
end
