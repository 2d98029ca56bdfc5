import Derived.Test.YtckjjajncgmddaaVwTmM
import Derived.Test.YtckjjajncgmddaaFrameWM
/- The law's numbers, and all. -/
namespace Go.Proofs.Ytckjjajncgmddaa
open Go.RowKit
attribute [local go_sem] Oper.semAt_some
/-- All are numbers of chapter 13's room. -/
def okNs (L : List Int) : Bool := L.all fun x => decide (0 ≤ x) && decide (x < 2147483648)
theorem okNs_no {L : List Int} {j : Nat} (hj : j < L.length) (h : ¬ (0 ≤ L[j] ∧ L[j] < 2147483648)) : okNs L = false := by
  unfold okNs
  rw [List.all_eq_false]
  refine ⟨L[j], List.getElem_mem hj, ?_⟩
  simpa using h
theorem okNs_yes {L : List Int} (h : ∀ j (hj : j < L.length), 0 ≤ L[j] ∧ L[j] < 2147483648) : okNs L = true := by
  unfold okNs
  rw [List.all_eq_true]
  intro x hx
  obtain ⟨j, hj, rfl⟩ := List.getElem_of_mem hx
  simpa using h j hj
set_option maxRecDepth 100000 in
set_option maxHeartbeats 2000000 in
theorem nums_any {w : World} {g o c : Nat} {L : List Int} (hL : ∀ j (hj : j < L.length), w.cell? ⟨g, o + j, none⟩ = some (.int .i64 L[j])) (hl : L.length ≤ 1000000) :
    Calls Try.prog 6 #[.slice (some ⟨g, o, none⟩) L.length c] w fun r w' => r = .returned (.bool (okNs L)) ∧ w' = w := by
  have HL : Hid _ := hL
  obtain ⟨n, hn⟩ : ∃ n, L.length = n := ⟨_, rfl⟩
  have HN : Hid (L.length = n) := hn
  rw [hn] at hl ⊢
  clear hL hn
  go_enter Try.func6, Try.ntmps6
  go_wp2
  go_loopw [2, 3] (fun _ i wr => ∃ j : Nat, j ≤ n ∧ i = .int .i64 j ∧ Hid (∀ k (hk : k < L.length), k < j → 0 ≤ L[k] ∧ L[k] < 2147483648) ∧ Hid (wr = w)) (fun _ i _ => n - (intOf i).toNat)
  case atStart => exact ⟨0, Nat.zero_le _, rfl, fun k _ hk => absurd hk (by omega), rfl⟩
  case round =>
    obtain ⟨j, hj, rfl, HR, HW⟩ := hrel
    by_cases hlt : j < n
    · have hlt' : j < L.length := by have := HN.out; omega
      have c0 := HL.out j hlt'
      rw [← HW.out] at c0
      have HA : Hid (∀ x, L[j] = x → 0 ≤ x → x < 2147483648 → ∀ k (hk : k < L.length), k < j + 1 → 0 ≤ L[k] ∧ L[k] < 2147483648) := fun x hx h0 h1 k hk hkj => by
        by_cases e : k = j
        · subst e; rw [hx]; exact ⟨h0, h1⟩
        · exact HR.out k hk (by omega)
      have HX : Hid (∀ x, L[j] = x → ¬ (0 ≤ x ∧ x < 2147483648) → okNs L = false) := fun x hx h => okNs_no hlt' (by rw [hx]; exact h)
      obtain ⟨x, hx⟩ : ∃ x, L[j] = x := ⟨_, rfl⟩
      have HE : Hid (L[j] = x) := hx
      rw [hx] at c0
      have hjI : (j : Int) < n := by omega
      clear hx
      by_cases h0 : x < 0
      · go_wp2
        go_ret
        exact ⟨by rw [HX.out x HE.out (by omega)]; rfl, HW.out⟩
      · have h0' : 0 ≤ x := by omega
        by_cases h1 : 2147483648 ≤ x
        · go_wp2
          go_ret
          exact ⟨by rw [HX.out x HE.out (by omega)]; rfl, HW.out⟩
        · have h1' : x < 2147483648 := by omega
          go_wp2
          go_roundw
          case rel => exact ⟨j + 1, by omega, by go_num, HA.out x HE.out h0' h1', HW.out⟩
          case measure => simp [intOf]; omega
    · have hjI : (n : Int) ≤ j := by omega
      go_wp2
      go_ret
      exact ⟨by rw [okNs_yes fun k hk => HR.out k hk (by have := HN.out; omega)]; rfl, HW.out⟩
set_option maxRecDepth 100000 in
set_option maxHeartbeats 2000000 in
theorem all_nine (w : World) (k fr tt vw nm ix cm bi bv : Int) (base : ByteArray) (eo : Option Addr) (n ec : Nat) :
    Calls Try.prog 7 #[.agg #[.int .i64 k, .int .i64 fr, .int .i64 tt, .int .i64 vw, .int .i64 nm, .int .i64 ix, .int .i64 cm, .int .i64 bi, .int .i64 bv, .string base, .slice eo n ec]] w fun r w' => ∃ g, r = .returned (.slice (some ⟨g, 0, none⟩) 9 9) ∧ Below w.heap.size w w' ∧ ∀ j (hj : j < [k, fr, tt, vw, nm, ix, cm, bi, bv].length), w'.cell? ⟨g, j, none⟩ = some (.int .i64 [k, fr, tt, vw, nm, ix, cm, bi, bv][j]) := by
  go_enter Try.func7, Try.ntmps7
  go_upto_region 1 with (fail)
  generalize hW : World.alloc _ _ = W
  have hB : Below w.heap.size w W := by rw [← hW]; exact vone_new _ _
  have hZ : W.heap[w.heap.size]? = some (.cells #[.int .i64 k, .int .i64 fr, .int .i64 tt, .int .i64 vw, .int .i64 nm, .int .i64 ix, .int .i64 cm, .int .i64 bi, .int .i64 bv, .string base, .slice eo n ec] 24 (0, 0)) := by rw [← hW]; exact heap_alloc_new w _
  obtain ⟨q, hq⟩ : ∃ q, w.heap.size = q := ⟨_, rfl⟩
  have HQ : Hid (w.heap.size = q) := hq
  rw [hq] at hB hZ ⊢
  obtain ⟨a0, a1, a2, a3, a4, a5, a6, a7, a8, a9, a10⟩ := vmbox hZ
  have HB : Hid (Below w.heap.size w W) := by show Below _ _ _; rw [hq]; exact hB
  clear hW hB hZ hq
  go_wp2
  generalize hW2 : World.alloc _ _ = W2
  have b2 : Below W.heap.size W W2 := by rw [← hW2]; exact vone_new _ _
  have hZ2 : W2.heap[W.heap.size]? = some (.cells #[.int .i64 k, .int .i64 fr, .int .i64 tt, .int .i64 vw, .int .i64 nm, .int .i64 ix, .int .i64 cm, .int .i64 bi, .int .i64 bv] 3 (0, 0)) := by rw [← hW2]; exact heap_alloc_new W _
  clear hW2
  go_ret
  refine ⟨W.heap.size, rfl, HB.out.trans (b2.mono HB.out.size), fun j hj => ?_⟩
  have hj' : j = 0 ∨ j = 1 ∨ j = 2 ∨ j = 3 ∨ j = 4 ∨ j = 5 ∨ j = 6 ∨ j = 7 ∨ j = 8 := by omega
  rcases hj' with rfl | rfl | rfl | rfl | rfl | rfl | rfl | rfl | rfl <;> simp [World.cell?, hZ2]
end Go.Proofs.Ytckjjajncgmddaa
