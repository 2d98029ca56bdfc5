/- Where a session stands: cmp.Compare, slices.BinarySearchFunc over requests, find. -/
import Derived.Test.YtdnakakichblgaaSsRow
import Derived.Test.YtdnakakichblgaaNumW
namespace Go.Proofs.Ytdnakakichblgaa
open Go.RowKit
def c3s (x y : Int) : Int := if x < y then -1 else if y < x then 1 else 0
theorem snan (x : Int) (w : World) : Calls Try.prog 60 #[.int .i64 x] w fun e w' => e = .returned (.bool false) ∧ w' = w := by
  have hx : (x != x) = false := by simp
  go_enter Try.func60, Try.ntmps60
  go_wp2
  go_ret
  exact ⟨by simp, rfl⟩
theorem scmp (x y : Int) (w : World) : Calls Try.prog 55 #[.int .i64 x, .int .i64 y] w fun e w' => e = .returned (.int .i64 (c3s x y)) ∧ w' = w := by
  by_cases h : x < y
  · have e : c3s x y = -1 := by unfold c3s; rw [if_pos h]
    rw [e]
    go_enter Try.func55, Try.ntmps55
    go_wp2_with (go_at_call 60; refine (snan _ _).mono ?_; rintro r w1 ⟨rfl, rfl⟩)
    go_ret
    exact ⟨rfl, rfl⟩
  · by_cases h' : y < x
    · have e : c3s x y = 1 := by unfold c3s; rw [if_neg h, if_pos h']
      rw [e]
      go_enter Try.func55, Try.ntmps55
      go_wp2_with (go_at_call 60; refine (snan _ _).mono ?_; rintro r w1 ⟨rfl, rfl⟩)
      go_ret
      exact ⟨rfl, rfl⟩
    · have e : c3s x y = 0 := by unfold c3s; rw [if_neg h, if_neg h']
      rw [e]
      go_enter Try.func55, Try.ntmps55
      go_wp2_with (go_at_call 60; refine (snan _ _).mono ?_; rintro r w1 ⟨rfl, rfl⟩)
      go_ret
      exact ⟨rfl, rfl⟩
theorem sfind1 (k n : Int) (s : ByteArray) (x : Int) (w : World) :
    Calls Try.prog 54 #[.agg #[.int .i64 k, .int .i64 n, .string s], .int .i64 x] w fun r w' => r = .returned (.int .i64 (c3s k x)) ∧ Below w.heap.size w w' := by
  go_enter Try.func54, Try.ntmps54
  go_wp2_with (go_at_call 55; refine (scmp _ _ _).mono ?_; rintro r w1 ⟨rfl, rfl⟩)
  go_ret
  exact ⟨rfl, (Below.refl _ _).alloc (Nat.le_refl _) _⟩
theorem rise_lt {L : List Req} (h : RiseQ L) {i j : Nat} (hij : i < j) (hj : j < L.length) : L[i].k < L[j].k := List.pairwise_iff_getElem.1 h i j (by omega) hj hij
theorem pos_eq {L : List Req} {k : Int} {i : Nat} (hi : i ≤ L.length) (h1 : ∀ q (h : q < L.length), q < i → L[q].k < k) (h2 : ∀ q (h : q < L.length), i ≤ q → k ≤ L[q].k) : posR L k = i := by
  have e := posR_at (A := L.take i) (C := L.drop i) (k := k) (fun x hx => by
    obtain ⟨q, hq, rfl⟩ := List.getElem_of_mem hx
    rw [List.length_take] at hq
    rw [List.getElem_take]
    exact h1 q (by omega) (by omega)) (fun x hx => by
    obtain ⟨q, hq, rfl⟩ := List.getElem_of_mem hx
    rw [List.length_drop] at hq
    rw [List.getElem_drop]
    have := h2 (i + q) (by omega) (by omega)
    omega)
  rw [List.take_append_drop, List.length_take] at e
  omega
set_option maxRecDepth 100000 in
set_option maxHeartbeats 4000000 in
theorem sbsearch {w : World} {v : Value} {G : List Req} (x : Int) (h : RqS w v G) (hl : G.length ≤ 1073741824) (hr : RiseQ G) :
    Calls Try.prog 53 #[v, .int .i64 x, .func (.func 54) #[] #[]] w fun r w' => r = .returned (.tuple #[.int .i64 (posR G x), .bool (isR G x)]) ∧ Below w.heap.size w w' := by
  have HR : Hid (RiseQ G) := hr
  clear hr
  obtain ⟨ao, cap, rfl, hcap, hC⟩ := h
  have HC : Hid (0 < G.length → ∃ b off, ao = some ⟨b, off, none⟩ ∧ ∀ j (h : j < G.length), w.cell? ⟨b, off + j * 3, none⟩ = some (.int .i64 G[j].k) ∧ w.cell? ⟨b, off + j * 3 + 1, none⟩ = some (.int .i64 G[j].n) ∧ w.cell? ⟨b, off + j * 3 + 2, none⟩ = some (.string G[j].s)) := hC
  clear hC hcap
  go_enter Try.func53, Try.ntmps53
  go_wp2
  go_loopw [9, 10, 11] (fun u v _ wr => ∃ (i j : Nat), i ≤ j ∧ j ≤ G.length ∧ u = .int .i64 i ∧ v = .int .i64 j ∧ Hid (∀ q (h : q < G.length), q < i → G[q].k < x) ∧ Hid (∀ q (h : q < G.length), j ≤ q → x ≤ G[q].k) ∧ Below w.heap.size w wr) (fun u v _ _ => (intOf v).toNat - (intOf u).toNat)
  case atStart => exact ⟨0, G.length, Nat.zero_le _, Nat.le_refl _, rfl, rfl, fun q _ hq => absurd hq (by omega), fun q hq hq' => absurd hq (by omega), Below.refl _ _⟩
  case round =>
    obtain ⟨i, j, hij, hj, rfl, rfl, H1, H2, hb⟩ := hrel
    by_cases hlt : i < j
    · obtain ⟨m, HM⟩ : ∃ m : Nat, Hid (m = (i + j) / 2) := ⟨_, rfl⟩
      have hm : m = (i + j) / 2 := HM.out
      have hmi : i ≤ m := by omega
      have hmj : m < j := by omega
      have hmG : m < G.length := by omega
      obtain ⟨b, off, rfl, hc⟩ := HC.out (by omega)
      obtain ⟨c0, c1, c2⟩ := hc m hmG
      have hbb := slt_cell c0
      have d0 := (hb.cell (p := ⟨b, off + m * 3, none⟩) hbb).trans c0
      have d1 := (hb.cell (p := ⟨b, off + m * 3 + 1, none⟩) hbb).trans c1
      have d2 := (hb.cell (p := ⟨b, off + m * 3 + 2, none⟩) hbb).trans c2
      have hdv : ((i : Int) + (j : Int)) / 2 = m := by omega
      have HU : Hid (G[m].k < x → ∀ q (h : q < G.length), q < m + 1 → G[q].k < x) := fun hy q hq hqm => by
        by_cases e : q = m
        · subst e; exact hy
        · have := rise_lt HR.out (show q < m by omega) hmG
          omega
      have HV : Hid (x ≤ G[m].k → ∀ q (h : q < G.length), m ≤ q → x ≤ G[q].k) := fun hy q hq hqm => by
        by_cases e : q = m
        · subst e; exact hy
        · have := rise_lt HR.out (show m < q by omega) hq
          omega
      generalize G[m] = y at d0 d1 d2 HU HV
      have hF := fun w => sfind1 y.k y.n y.s x w
      clear c0 c1 c2 hc hm
      by_cases hy : y.k < x
      · rw [show c3s y.k x = -1 from if_pos hy] at hF
        have HU2 : Hid (∀ q (h : q < G.length), q < m + 1 → G[q].k < x) := HU.out hy
        go_wp2_with (go_at_call 54; refine (hF _).mono ?_; rintro r w1 ⟨rfl, hb1⟩)
        go_roundw
        case rel => exact ⟨m + 1, j, by omega, by omega, by go_num, rfl, HU2, H2, hb.trans (hb1.mono hb.size)⟩
        case measure => simp [intOf]; omega
      · obtain ⟨c, hcc, hc0⟩ : ∃ c, c3s y.k x = c ∧ ¬ c < 0 := ⟨_, rfl, by unfold c3s; rw [if_neg hy]; split <;> omega⟩
        rw [hcc] at hF
        have HV2 : Hid (∀ q (h : q < G.length), m ≤ q → x ≤ G[q].k) := HV.out (by omega)
        clear hcc
        go_wp2_with (go_at_call 54; refine (hF _).mono ?_; rintro r w1 ⟨rfl, hb1⟩)
        go_roundw
        case rel => exact ⟨i, m, by omega, by omega, rfl, rfl, H1, HV2, hb.trans (hb1.mono hb.size)⟩
        case measure => simp [intOf]; omega
    · obtain rfl : i = j := by omega
      have HF : Hid (posR G x = i) := pos_eq hj H1.out H2.out
      by_cases hin : i < G.length
      · obtain ⟨b, off, rfl, hc⟩ := HC.out (by omega)
        obtain ⟨c0, c1, c2⟩ := hc i hin
        have hbb := slt_cell c0
        have d0 := (hb.cell (p := ⟨b, off + i * 3, none⟩) hbb).trans c0
        have d1 := (hb.cell (p := ⟨b, off + i * 3 + 1, none⟩) hbb).trans c1
        have d2 := (hb.cell (p := ⟨b, off + i * 3 + 2, none⟩) hbb).trans c2
        have HX : Hid (x ≤ G[i].k) := H2.out i hin (Nat.le_refl _)
        have HB : Hid (isR G x = (c3s G[i].k x == 0)) := by
          show _ = _
          have h1 := HX.out
          unfold isR
          rw [HF.out, List.getElem?_eq_getElem hin]
          unfold c3s
          simp only
          rw [if_neg (by omega)]
          split
          · simp
            omega
          · simp
            omega
        generalize G[i] = y at d0 d1 d2 HX HB
        have hF := fun w => sfind1 y.k y.n y.s x w
        clear c0 c1 c2 hc
        generalize c3s y.k x = c at hF HB
        go_wp2_with (go_at_call 54; refine (hF _).mono ?_; rintro r w1 ⟨rfl, hb1⟩)
        go_ret2
        exact ⟨by rw [HF.out, HB.out]; rfl, hb.trans (hb1.mono hb.size)⟩
      · have HB : Hid (isR G x = false) := by
          show _ = _
          unfold isR
          rw [HF.out, List.getElem?_eq_none (by omega)]
        go_wp2
        go_ret2
        exact ⟨by rw [HF.out, HB.out]; rfl, hb⟩
end Go.Proofs.Ytdnakakichblgaa
