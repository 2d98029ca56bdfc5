/- What Same returns of two graphs. -/
import Derived.Test.YtnijacbfcffnpaaGrEq
namespace Go.Proofs.Ytnijacbfcffnpaa
open Go.RowKit

def sameEd (a b : Ed) : Bool := a.t == b.t && a.w == b.w
def sameEs : List Ed → List Ed → Bool
  | [], [] => true
  | a :: l, b :: m => sameEd a b && sameEs l m
  | _, _ => false
def sameVx (a b : Vx) : Bool := a.id == b.id && (a.val == b.val && sameEs a.es b.es)
def sameG : List Vx → List Vx → Bool
  | [], [] => true
  | a :: l, b :: m => sameVx a b && sameG l m
  | _, _ => false
theorem sameEd_iff (a b : Ed) : sameEd a b = true ↔ a = b := by
  cases a; cases b; simp [sameEd]
theorem sameEs_iff : ∀ (a b : List Ed), sameEs a b = true ↔ a = b
  | [], [] => by simp [sameEs]
  | [], b :: m => by simp [sameEs]
  | a :: l, [] => by simp [sameEs]
  | a :: l, b :: m => by simp [sameEs, sameEd_iff, sameEs_iff l m]
theorem sameVx_iff (a b : Vx) : sameVx a b = true ↔ a = b := by
  cases a; cases b; simp [sameVx, sameEs_iff]
theorem sameG_iff : ∀ (a b : List Vx), sameG a b = true ↔ a = b
  | [], [] => by simp [sameG]
  | [], b :: m => by simp [sameG]
  | a :: l, [] => by simp [sameG]
  | a :: l, b :: m => by simp [sameG, sameVx_iff, sameG_iff l m]
theorem sameEs_len {a b : List Ed} (h : a.length ≠ b.length) : sameEs a b = false := by
  rw [Bool.eq_false_iff]
  intro e
  exact h (by rw [(sameEs_iff a b).1 e])
theorem sameG_len {a b : List Vx} (h : a.length ≠ b.length) : sameG a b = false := by
  rw [Bool.eq_false_iff]
  intro e
  exact h (by rw [(sameG_iff a b).1 e])
theorem sameEs_at {a b : List Ed} {k : Nat} (h : k < a.length) (h' : k < b.length) (hn : a[k] ≠ b[k]) : sameEs a b = false := by
  rw [Bool.eq_false_iff]
  intro e
  obtain rfl := (sameEs_iff a b).1 e
  exact hn rfl
theorem sameG_at {a b : List Vx} {k : Nat} (h : k < a.length) (h' : k < b.length) (hn : a[k] ≠ b[k]) : sameG a b = false := by
  rw [Bool.eq_false_iff]
  intro e
  obtain rfl := (sameG_iff a b).1 e
  exact hn rfl
theorem sameEs_all {a b : List Ed} (hl : a.length = b.length) (H : ∀ j (h : j < a.length) (h' : j < b.length), a[j] = b[j]) : sameEs a b = true := (sameEs_iff a b).2 (List.ext_getElem hl H)
theorem sameG_all {a b : List Vx} (hl : a.length = b.length) (H : ∀ j (h : j < a.length) (h' : j < b.length), a[j] = b[j]) : sameG a b = true := (sameG_iff a b).2 (List.ext_getElem hl H)
theorem step_all {α : Type} {a b : List α} {k : Nat} (hk : k < a.length) (hk' : k < b.length) {y z : α} (hy : a[k] = y) (hz : b[k] = z) (e : y = z) (H : ∀ j (h : j < a.length) (h' : j < b.length), j < k → a[j] = b[j]) : ∀ j (h : j < a.length) (h' : j < b.length), j < k + 1 → a[j] = b[j] := by
  intro j h h' hj
  by_cases ej : j = k
  · subst ej; rw [hy, hz, e]
  · exact H j h h' (by omega)
theorem bel_drewN {B : Nat} {w wr : World} (h : Below B w wr) (n : Nat) : Below B w (wr.drewN n) := by
  induction n with
  | zero => exact h
  | succ n ih => exact ih.drew
theorem ed_ne {y z : Ed} (h : ¬ y = z) : (!y.t == z.t || !y.w == z.w) = true := by
  cases y; cases z
  simp at h ⊢
  omega
set_option maxRecDepth 100000 in
set_option maxHeartbeats 4000000 in
theorem equal_any {w : World} {P Q : Nat → Prop} {ao bo : Option Addr} {L M : List Ed} (ca cb : Nat) (hL : EdAt w P ao L) (hM : EdAt w Q bo M) (hl : L.length ≤ 9223372036854775807) :
    Calls Try.prog 69 #[.slice ao L.length ca, .slice bo M.length cb] w fun r w' => r = .returned (.bool (sameEs L M)) ∧ Below w.heap.size w w' := by
  by_cases hlen : L.length = M.length
  · go_enter Try.func69, Try.ntmps69
    go_wp2
    go_loopw [5, 13] (fun _ i wr => ∃ k : Nat, k ≤ L.length ∧ i = .int .i64 k ∧ Hid (∀ j (h : j < L.length) (h' : j < M.length), j < k → L[j] = M[j]) ∧ Below w.heap.size w wr) (fun _ i _ => L.length - (intOf i).toNat)
    case atStart => exact ⟨0, Nat.zero_le _, rfl, fun j _ _ hj => absurd hj (by omega), Below.refl _ _⟩
    case round =>
      obtain ⟨k, hk, rfl, HR, hb⟩ := hrel
      by_cases hlt : k < L.length
      · have hltM : k < M.length := by omega
        obtain ⟨b, off, rfl, hP, hc⟩ := hL (by omega)
        obtain ⟨b', off', rfl, hP', hc'⟩ := hM (by omega)
        obtain ⟨c0, c1⟩ := hc k hlt
        obtain ⟨e0, e1⟩ := hc' k hltM
        have d0 := (hb.cell (p := ⟨b, off + k * 2, none⟩) (lt_cell c0)).trans c0
        have d1 := (hb.cell (p := ⟨b, off + k * 2 + 1, none⟩) (lt_cell c0)).trans c1
        have f0 := (hb.cell (p := ⟨b', off' + k * 2, none⟩) (lt_cell e0)).trans e0
        have f1 := (hb.cell (p := ⟨b', off' + k * 2 + 1, none⟩) (lt_cell e0)).trans e1
        have HA : Hid (∀ y z, L[k] = y → M[k] = z → y = z → ∀ j (h : j < L.length) (h' : j < M.length), j < k + 1 → L[j] = M[j]) := fun y z hy hz e => step_all hlt hltM hy hz e HR.out
        have HB : Hid (∀ y z, L[k] = y → M[k] = z → y ≠ z → sameEs L M = false) := fun y z hy hz e => sameEs_at hlt hltM (by rw [hy, hz]; exact e)
        obtain ⟨y, hy⟩ : ∃ y, L[k] = y := ⟨_, rfl⟩
        obtain ⟨z, hz⟩ : ∃ z, M[k] = z := ⟨_, rfl⟩
        have HY : Hid (L[k] = y) := hy
        have HZ : Hid (M[k] = z) := hz
        rw [hy] at d0 d1
        rw [hz] at f0 f1
        clear hy hz c0 c1 e0 e1 hc hc'
        have hq1 := fun w x' y' => run_guard60 w x' y' y.t y.w z.t z.w
        have hq2 := fun w => run_neq60 w y.t y.w z.t z.w
        go_wp2
        go_quiet (fail)
        by_cases e : y = z
        · rw [show (!y.t == z.t || !y.w == z.w) = false by rw [e]; simp]
          go_wp2
          go_roundw
          case rel => exact ⟨k + 1, by omega, by go_num, HA.out y z HY.out HZ.out e, bel_drewN hb _⟩
          case measure => simp [intOf]; omega
        · rw [show (!y.t == z.t || !y.w == z.w) = true from ed_ne e]
          have HF : Hid (sameEs L M = false) := HB.out y z HY.out HZ.out e
          go_wp2
          go_ret
          exact ⟨by rw [HF.out]; rfl, bel_drewN hb _⟩
      · obtain rfl : k = L.length := by omega
        have HT : Hid (sameEs L M = true) := sameEs_all hlen (fun j h h' => HR.out j h h' h)
        go_wp2
        go_ret
        exact ⟨by rw [HT.out]; rfl, hb⟩
  · have HC : Hid (sameEs L M = false) := sameEs_len hlen
    have hne : ((L.length : Int) == (M.length : Int)) = false := by rw [beq_eq_false_iff_ne]; omega
    go_enter Try.func69, Try.ntmps69
    go_wp2
    go_ret
    exact ⟨by rw [HC.out]; rfl, Below.refl _ _⟩

set_option maxRecDepth 100000 in
set_option maxHeartbeats 1000000 in
theorem samevertex_any {w : World} {P Q : Nat → Prop} {ao bo : Option Addr} (x y : Vx) (ca cb : Nat) (hL : EdAt w P ao x.es) (hM : EdAt w Q bo y.es) (hl : x.es.length ≤ 9223372036854775807) :
    Calls Try.prog 48 #[.agg #[.int .i64 x.id, .int .i64 x.val, .slice ao x.es.length ca], .agg #[.int .i64 y.id, .int .i64 y.val, .slice bo y.es.length cb]] w fun r w' => r = .returned (.bool (sameVx x y)) ∧ Below w.heap.size w w' := by
  have hb2 := fun (o1 o2 : Obj) => b2 w o1 o2
  have hE := fun (o1 o2 : Obj) => equal_any ca cb (hL.new (hb2 o1 o2)) (hM.new (hb2 o1 o2)) hl
  by_cases h1 : x.id = y.id
  · by_cases h2 : x.val = y.val
    · have HV : Hid (sameVx x y = sameEs x.es y.es) := by show _ = _; unfold sameVx; rw [h1, h2]; simp
      go_enter Try.func48, Try.ntmps48
      go_wp2_with (go_at_call 69; refine (hE _ _).mono ?_; rintro r w1 ⟨rfl, hb1⟩)
      go_ret
      exact ⟨by rw [HV.out]; rfl, (b2 w _ _).trans (hb1.mono (by simp; omega))⟩
    · have HV : Hid (sameVx x y = false) := by show _ = _; unfold sameVx; simp [h2]
      have k2 : (x.val == y.val) = false := by rw [beq_eq_false_iff_ne]; exact h2
      go_enter Try.func48, Try.ntmps48
      go_wp2
      go_ret
      exact ⟨by rw [HV.out]; rfl, b2 w _ _⟩
  · have HV : Hid (sameVx x y = false) := by show _ = _; unfold sameVx; simp [h1]
    have k1 : (x.id == y.id) = false := by rw [beq_eq_false_iff_ne]; exact h1
    go_enter Try.func48, Try.ntmps48
    go_wp2
    go_ret
    exact ⟨by rw [HV.out]; rfl, b2 w _ _⟩

set_option maxRecDepth 100000 in
set_option maxHeartbeats 4000000 in
theorem equalfunc_n {w : World} {P Q : Nat → Prop} {ao bo : Option Addr} {L M : List Vx} (n ca cb : Nat) (hL : VxAt w P ao L) (hM : VxAt w Q bo M) (hl : n ≤ 9223372036854775807) (hok : ∀ v ∈ L, v.es.length ≤ 9223372036854775807) (HN : Hid (L.length = n)) (HM : Hid (M.length = n)) :
    Calls Try.prog 47 #[.slice ao n ca, .slice bo n cb, .func (.func 48) #[] #[]] w fun r w' => r = .returned (.bool (sameG L M)) ∧ Below w.heap.size w w' := by
  have hLL : Hid (VxAt w P ao L) := hL
  have hMM : Hid (VxAt w Q bo M) := hM
  clear hL hM
  go_enter Try.func47, Try.ntmps47
  go_wp2
  go_loopw [7, 8, 9, 17] (fun _ _ _ i wr => ∃ k : Nat, k ≤ n ∧ i = .int .i64 k ∧ Hid (∀ j (h : j < L.length) (h' : j < M.length), j < k → L[j] = M[j]) ∧ Below w.heap.size w wr) (fun _ _ _ i _ => n - (intOf i).toNat)
  case atStart => exact ⟨0, Nat.zero_le _, rfl, fun j _ _ hj => absurd hj (by omega), Below.refl _ _⟩
  case round =>
    obtain ⟨k, hk, rfl, HR, hb⟩ := hrel
    by_cases hlt : k < n
    · have hltL : k < L.length := by have := HN.out; omega
      have hltM : k < M.length := by have := HM.out; omega
      obtain ⟨b, off, rfl, hP, hc⟩ := hLL.out (by omega)
      obtain ⟨b', off', rfl, hP', hc'⟩ := hMM.out (by omega)
      obtain ⟨eo, ec, c0, c1, c2, c3⟩ := hc k hltL
      obtain ⟨fo, fc, e0, e1, e2, e3⟩ := hc' k hltM
      have hbb := lt_cell e0
      have hbw : b' < wr.heap.size := Nat.lt_of_lt_of_le hbb hb.size
      have d0 := (hb.cell (p := ⟨b, off + k * 3, none⟩) (lt_cell c0)).trans c0
      have d1 := (hb.cell (p := ⟨b, off + k * 3 + 1, none⟩) (lt_cell c0)).trans c1
      have d2 := (hb.cell (p := ⟨b, off + k * 3 + 2, none⟩) (lt_cell c0)).trans c2
      have f0 := (hb.cell (p := ⟨b', off' + k * 3, none⟩) (lt_cell e0)).trans e0
      have f1 := (hb.cell (p := ⟨b', off' + k * 3 + 1, none⟩) (lt_cell e0)).trans e1
      have f2 := (hb.cell (p := ⟨b', off' + k * 3 + 2, none⟩) (lt_cell e0)).trans e2
      have d3 := c3.new hb
      have f3 := e3.new hb
      have HA : Hid (∀ y z, L[k] = y → M[k] = z → y = z → ∀ j (h : j < L.length) (h' : j < M.length), j < k + 1 → L[j] = M[j]) := fun y z hy hz e => step_all hltL hltM hy hz e HR.out
      have HB : Hid (∀ y z, L[k] = y → M[k] = z → y ≠ z → sameG L M = false) := fun y z hy hz e => sameG_at hltL hltM (by rw [hy, hz]; exact e)
      have hle := hok _ (List.getElem_mem hltL)
      obtain ⟨y, hy⟩ : ∃ y, L[k] = y := ⟨_, rfl⟩
      obtain ⟨z, hz⟩ : ∃ z, M[k] = z := ⟨_, rfl⟩
      have HY : Hid (L[k] = y) := hy
      have HZ : Hid (M[k] = z) := hz
      rw [hy] at d0 d1 d2 d3 hle
      rw [hz] at f0 f1 f2 f3
      clear hy hz c0 c1 c2 c3 e0 e1 e2 e3 hc hc'
      have hS := fun (o1 o2 : Obj) => samevertex_any (w := (wr.alloc o1).alloc o2) y z ec fc (d3.new (b2 wr o1 o2)) (f3.new (b2 wr o1 o2)) hle
      by_cases e : y = z
      · simp only [(sameVx_iff y z).2 e] at hS
        have HE : Hid (y = z) := e
        clear e
        go_wp2_with (go_at_call 48; refine (hS _ _).mono ?_; rintro r w1 ⟨rfl, hb1⟩)
        go_roundw
        case rel => exact ⟨k + 1, by omega, by go_num, HA.out y z HY.out HZ.out HE.out, hb.trans (((b2 wr _ _).trans (hb1.mono (by simp; omega))).mono hb.size)⟩
        case measure => simp [intOf]; omega
      · have hv : sameVx y z = false := by rw [Bool.eq_false_iff]; exact fun h => e ((sameVx_iff y z).1 h)
        simp only [hv] at hS
        have HF : Hid (sameG L M = false) := HB.out y z HY.out HZ.out e
        clear e hv
        go_wp2_with (go_at_call 48; refine (hS _ _).mono ?_; rintro r w1 ⟨rfl, hb1⟩)
        go_ret
        exact ⟨by rw [HF.out]; rfl, hb.trans (((b2 wr _ _).trans (hb1.mono (by simp; omega))).mono hb.size)⟩
    · obtain rfl : k = n := by omega
      have HT : Hid (sameG L M = true) := sameG_all (HN.out.trans HM.out.symm) (fun j h h' => HR.out j h h' (by rw [← HN.out]; exact h))
      go_wp2
      go_ret
      exact ⟨by rw [HT.out]; rfl, hb⟩
set_option maxRecDepth 100000 in
theorem equalfunc_any {w : World} {P Q : Nat → Prop} {ao bo : Option Addr} {L M : List Vx} (ca cb : Nat) (hL : VxAt w P ao L) (hM : VxAt w Q bo M) (hl : L.length ≤ 9223372036854775807) (hok : ∀ v ∈ L, v.es.length ≤ 9223372036854775807) :
    Calls Try.prog 47 #[.slice ao L.length ca, .slice bo M.length cb, .func (.func 48) #[] #[]] w fun r w' => r = .returned (.bool (sameG L M)) ∧ Below w.heap.size w w' := by
  by_cases hlen : L.length = M.length
  · rw [← hlen]
    exact equalfunc_n L.length ca cb hL hM hl hok rfl hlen.symm
  · have HC : Hid (sameG L M = false) := sameG_len hlen
    have hne : ((L.length : Int) == (M.length : Int)) = false := by rw [beq_eq_false_iff_ne]; omega
    go_enter Try.func47, Try.ntmps47
    go_wp2
    go_ret
    exact ⟨by rw [HC.out]; rfl, Below.refl _ _⟩

set_option maxRecDepth 100000 in
theorem same_any {w : World} {P Q : Nat → Prop} {ao bo : Option Addr} {L M : List Vx} (ca cb : Nat) (hL : VxAt w P ao L) (hM : VxAt w Q bo M) (hl : L.length ≤ 9223372036854775807) (hok : ∀ v ∈ L, v.es.length ≤ 9223372036854775807) :
    Calls Try.prog 22 #[.agg #[.slice ao L.length ca], .agg #[.slice bo M.length cb]] w fun r w' => r = .returned (.bool (sameG L M)) ∧ Below w.heap.size w w' := by
  have hE := fun (o1 o2 : Obj) => equalfunc_any ca cb (hL.new (b2 w o1 o2)) (hM.new (b2 w o1 o2)) hl hok
  clear hok
  go_enter Try.func22, Try.ntmps22
  go_wp2_with (go_at_call 47; refine (hE _ _).mono ?_; rintro r w1 ⟨rfl, hb1⟩)
  go_ret
  exact ⟨rfl, (b2 w _ _).trans (hb1.mono (by simp; omega))⟩
end Go.Proofs.Ytnijacbfcffnpaa
