import Derived.Test.YthnhmhjcpdomcaaGrEqM
import Derived.Test.YthnhmhjcpdomcaaGrWalk2
import Derived.Test.YthnhmhjcpdomcaaGrThere
import Derived.Test.YthnhmhjcpdomcaaMuThat
import Derived.Test.YthnhmhjcpdomcaaMuOrdM
import Derived.OrdersHeld
import Derived.Deep.RegionHeld
import Derived.Deep.RegionWith
import Derived.OrdersIn
section
/- What Same returns of two graphs. -/
namespace Go.Proofs.Ythnhmhjcpdomcaa
open Go.RowKit

def sameEd (a b : Ed) : Bool := a.t == b.t && a.w == b.w
def sameEs : List Ed → List Ed → Bool
  | [], [] => true
  | a :: l, b :: m => sameEd a b && sameEs l m
  | _, _ => false
def sameVx (a b : Vx) : Bool := a.id == b.id && (a.val == b.val && sameEs a.es b.es)
def sameG : List Vx → List Vx → Bool
  | [], [] => true
  | a :: l, b :: m => sameVx a b && sameG l m
  | _, _ => false
theorem sameEd_iff (a b : Ed) : sameEd a b = true ↔ a = b := by
  cases a; cases b; simp [sameEd]
theorem sameEs_iff : ∀ (a b : List Ed), sameEs a b = true ↔ a = b
  | [], [] => by simp [sameEs]
  | [], b :: m => by simp [sameEs]
  | a :: l, [] => by simp [sameEs]
  | a :: l, b :: m => by simp [sameEs, sameEd_iff, sameEs_iff l m]
theorem sameVx_iff (a b : Vx) : sameVx a b = true ↔ a = b := by
  cases a; cases b; simp [sameVx, sameEs_iff]
theorem sameG_iff : ∀ (a b : List Vx), sameG a b = true ↔ a = b
  | [], [] => by simp [sameG]
  | [], b :: m => by simp [sameG]
  | a :: l, [] => by simp [sameG]
  | a :: l, b :: m => by simp [sameG, sameVx_iff, sameG_iff l m]
theorem sameEs_len {a b : List Ed} (h : a.length ≠ b.length) : sameEs a b = false := by
  rw [Bool.eq_false_iff]
  intro e
  exact h (by rw [(sameEs_iff a b).1 e])
theorem sameG_len {a b : List Vx} (h : a.length ≠ b.length) : sameG a b = false := by
  rw [Bool.eq_false_iff]
  intro e
  exact h (by rw [(sameG_iff a b).1 e])
theorem sameEs_at {a b : List Ed} {k : Nat} (h : k < a.length) (h' : k < b.length) (hn : a[k] ≠ b[k]) : sameEs a b = false := by
  rw [Bool.eq_false_iff]
  intro e
  obtain rfl := (sameEs_iff a b).1 e
  exact hn rfl
theorem sameG_at {a b : List Vx} {k : Nat} (h : k < a.length) (h' : k < b.length) (hn : a[k] ≠ b[k]) : sameG a b = false := by
  rw [Bool.eq_false_iff]
  intro e
  obtain rfl := (sameG_iff a b).1 e
  exact hn rfl
theorem sameEs_all {a b : List Ed} (hl : a.length = b.length) (H : ∀ j (h : j < a.length) (h' : j < b.length), a[j] = b[j]) : sameEs a b = true := (sameEs_iff a b).2 (List.ext_getElem hl H)
theorem sameG_all {a b : List Vx} (hl : a.length = b.length) (H : ∀ j (h : j < a.length) (h' : j < b.length), a[j] = b[j]) : sameG a b = true := (sameG_iff a b).2 (List.ext_getElem hl H)
theorem step_all {α : Type} {a b : List α} {k : Nat} (hk : k < a.length) (hk' : k < b.length) {y z : α} (hy : a[k] = y) (hz : b[k] = z) (e : y = z) (H : ∀ j (h : j < a.length) (h' : j < b.length), j < k → a[j] = b[j]) : ∀ j (h : j < a.length) (h' : j < b.length), j < k + 1 → a[j] = b[j] := by
  intro j h h' hj
  by_cases ej : j = k
  · subst ej; rw [hy, hz, e]
  · exact H j h h' (by omega)
theorem bel_drewN {B : Nat} {w wr : World} (h : Below B w wr) (n : Nat) : Below B w (wr.drewN n) := by
  induction n with
  | zero => exact h
  | succ n ih => exact ih.drew
theorem ed_ne {y z : Ed} (h : ¬ y = z) : (!y.t == z.t || !y.w == z.w) = true := by
  cases y; cases z
  simp at h ⊢
  omega
set_option maxRecDepth 100000 in
set_option maxHeartbeats 4000000 in
theorem equal_any {w : World} {P Q : Nat → Prop} {ao bo : Option Addr} {L M : List Ed} (ca cb : Nat) (hL : EdAt w P ao L) (hM : EdAt w Q bo M) (hl : L.length ≤ 9223372036854775807) :
    Calls Try.prog 79 #[.slice ao L.length ca, .slice bo M.length cb] w fun r w' => r = .returned (.bool (sameEs L M)) ∧ Below w.heap.size w w' := by
  by_cases hlen : L.length = M.length
  · go_enter Try.func79, Try.ntmps79
    go_wp2
    go_loopw [5, 13] (fun _ i wr => ∃ k : Nat, k ≤ L.length ∧ i = .int .i64 k ∧ Hid (∀ j (h : j < L.length) (h' : j < M.length), j < k → L[j] = M[j]) ∧ Below w.heap.size w wr) (fun _ i _ => L.length - (intOf i).toNat)
    case atStart => exact ⟨0, Nat.zero_le _, rfl, fun j _ _ hj => absurd hj (by omega), Below.refl _ _⟩
    case round =>
      obtain ⟨k, hk, rfl, HR, hb⟩ := hrel
      by_cases hlt : k < L.length
      · have hltM : k < M.length := by omega
        obtain ⟨b, off, rfl, hP, hc⟩ := hL (by omega)
        obtain ⟨b', off', rfl, hP', hc'⟩ := hM (by omega)
        obtain ⟨c0, c1⟩ := hc k hlt
        obtain ⟨e0, e1⟩ := hc' k hltM
        have d0 := (hb.cell (p := ⟨b, off + k * 2, none⟩) (lt_cell c0)).trans c0
        have d1 := (hb.cell (p := ⟨b, off + k * 2 + 1, none⟩) (lt_cell c0)).trans c1
        have f0 := (hb.cell (p := ⟨b', off' + k * 2, none⟩) (lt_cell e0)).trans e0
        have f1 := (hb.cell (p := ⟨b', off' + k * 2 + 1, none⟩) (lt_cell e0)).trans e1
        have HA : Hid (∀ y z, L[k] = y → M[k] = z → y = z → ∀ j (h : j < L.length) (h' : j < M.length), j < k + 1 → L[j] = M[j]) := fun y z hy hz e => step_all hlt hltM hy hz e HR.out
        have HB : Hid (∀ y z, L[k] = y → M[k] = z → y ≠ z → sameEs L M = false) := fun y z hy hz e => sameEs_at hlt hltM (by rw [hy, hz]; exact e)
        obtain ⟨y, hy⟩ : ∃ y, L[k] = y := ⟨_, rfl⟩
        obtain ⟨z, hz⟩ : ∃ z, M[k] = z := ⟨_, rfl⟩
        have HY : Hid (L[k] = y) := hy
        have HZ : Hid (M[k] = z) := hz
        rw [hy] at d0 d1
        rw [hz] at f0 f1
        clear hy hz c0 c1 e0 e1 hc hc'
        have hq1 := fun w x' y' => run_guard60 w x' y' y.t y.w z.t z.w
        have hq2 := fun w => run_neq60 w y.t y.w z.t z.w
        go_wp2
        go_quiet (fail)
        by_cases e : y = z
        · rw [show (!y.t == z.t || !y.w == z.w) = false by rw [e]; simp]
          go_wp2
          go_roundw
          case rel => exact ⟨k + 1, by omega, by go_num, HA.out y z HY.out HZ.out e, bel_drewN hb _⟩
          case measure => simp [intOf]; omega
        · rw [show (!y.t == z.t || !y.w == z.w) = true from ed_ne e]
          have HF : Hid (sameEs L M = false) := HB.out y z HY.out HZ.out e
          go_wp2
          go_ret
          exact ⟨by rw [HF.out]; rfl, bel_drewN hb _⟩
      · obtain rfl : k = L.length := by omega
        have HT : Hid (sameEs L M = true) := sameEs_all hlen (fun j h h' => HR.out j h h' h)
        go_wp2
        go_ret
        exact ⟨by rw [HT.out]; rfl, hb⟩
  · have HC : Hid (sameEs L M = false) := sameEs_len hlen
    have hne : ((L.length : Int) == (M.length : Int)) = false := by rw [beq_eq_false_iff_ne]; omega
    go_enter Try.func79, Try.ntmps79
    go_wp2
    go_ret
    exact ⟨by rw [HC.out]; rfl, Below.refl _ _⟩

set_option maxRecDepth 100000 in
set_option maxHeartbeats 1000000 in
theorem samevertex_any {w : World} {P Q : Nat → Prop} {ao bo : Option Addr} (x y : Vx) (ca cb : Nat) (hL : EdAt w P ao x.es) (hM : EdAt w Q bo y.es) (hl : x.es.length ≤ 9223372036854775807) :
    Calls Try.prog 52 #[.agg #[.int .i64 x.id, .int .i64 x.val, .slice ao x.es.length ca], .agg #[.int .i64 y.id, .int .i64 y.val, .slice bo y.es.length cb]] w fun r w' => r = .returned (.bool (sameVx x y)) ∧ Below w.heap.size w w' := by
  have hb2 := fun (o1 o2 : Obj) => b2 w o1 o2
  have hE := fun (o1 o2 : Obj) => equal_any ca cb (hL.new (hb2 o1 o2)) (hM.new (hb2 o1 o2)) hl
  by_cases h1 : x.id = y.id
  · by_cases h2 : x.val = y.val
    · have HV : Hid (sameVx x y = sameEs x.es y.es) := by show _ = _; unfold sameVx; rw [h1, h2]; simp
      go_enter Try.func52, Try.ntmps52
      go_wp2_with (go_at_call 79; refine (hE _ _).mono ?_; rintro r w1 ⟨rfl, hb1⟩)
      go_ret
      exact ⟨by rw [HV.out]; rfl, (b2 w _ _).trans (hb1.mono (by simp; omega))⟩
    · have HV : Hid (sameVx x y = false) := by show _ = _; unfold sameVx; simp [h2]
      have k2 : (x.val == y.val) = false := by rw [beq_eq_false_iff_ne]; exact h2
      go_enter Try.func52, Try.ntmps52
      go_wp2
      go_ret
      exact ⟨by rw [HV.out]; rfl, b2 w _ _⟩
  · have HV : Hid (sameVx x y = false) := by show _ = _; unfold sameVx; simp [h1]
    have k1 : (x.id == y.id) = false := by rw [beq_eq_false_iff_ne]; exact h1
    go_enter Try.func52, Try.ntmps52
    go_wp2
    go_ret
    exact ⟨by rw [HV.out]; rfl, b2 w _ _⟩

set_option maxRecDepth 100000 in
set_option maxHeartbeats 4000000 in
theorem equalfunc_n {w : World} {P Q : Nat → Prop} {ao bo : Option Addr} {L M : List Vx} (n ca cb : Nat) (hL : VxAt w P ao L) (hM : VxAt w Q bo M) (hl : n ≤ 9223372036854775807) (hok : ∀ v ∈ L, v.es.length ≤ 9223372036854775807) (HN : Hid (L.length = n)) (HM : Hid (M.length = n)) :
    Calls Try.prog 51 #[.slice ao n ca, .slice bo n cb, .func (.func 52) #[] #[]] w fun r w' => r = .returned (.bool (sameG L M)) ∧ Below w.heap.size w w' := by
  have hLL : Hid (VxAt w P ao L) := hL
  have hMM : Hid (VxAt w Q bo M) := hM
  clear hL hM
  go_enter Try.func51, Try.ntmps51
  go_wp2
  go_loopw [7, 8, 9, 17] (fun _ _ _ i wr => ∃ k : Nat, k ≤ n ∧ i = .int .i64 k ∧ Hid (∀ j (h : j < L.length) (h' : j < M.length), j < k → L[j] = M[j]) ∧ Below w.heap.size w wr) (fun _ _ _ i _ => n - (intOf i).toNat)
  case atStart => exact ⟨0, Nat.zero_le _, rfl, fun j _ _ hj => absurd hj (by omega), Below.refl _ _⟩
  case round =>
    obtain ⟨k, hk, rfl, HR, hb⟩ := hrel
    by_cases hlt : k < n
    · have hltL : k < L.length := by have := HN.out; omega
      have hltM : k < M.length := by have := HM.out; omega
      obtain ⟨b, off, rfl, hP, hc⟩ := hLL.out (by omega)
      obtain ⟨b', off', rfl, hP', hc'⟩ := hMM.out (by omega)
      obtain ⟨eo, ec, c0, c1, c2, c3⟩ := hc k hltL
      obtain ⟨fo, fc, e0, e1, e2, e3⟩ := hc' k hltM
      have hbb := lt_cell e0
      have hbw : b' < wr.heap.size := Nat.lt_of_lt_of_le hbb hb.size
      have d0 := (hb.cell (p := ⟨b, off + k * 3, none⟩) (lt_cell c0)).trans c0
      have d1 := (hb.cell (p := ⟨b, off + k * 3 + 1, none⟩) (lt_cell c0)).trans c1
      have d2 := (hb.cell (p := ⟨b, off + k * 3 + 2, none⟩) (lt_cell c0)).trans c2
      have f0 := (hb.cell (p := ⟨b', off' + k * 3, none⟩) (lt_cell e0)).trans e0
      have f1 := (hb.cell (p := ⟨b', off' + k * 3 + 1, none⟩) (lt_cell e0)).trans e1
      have f2 := (hb.cell (p := ⟨b', off' + k * 3 + 2, none⟩) (lt_cell e0)).trans e2
      have d3 := c3.new hb
      have f3 := e3.new hb
      have HA : Hid (∀ y z, L[k] = y → M[k] = z → y = z → ∀ j (h : j < L.length) (h' : j < M.length), j < k + 1 → L[j] = M[j]) := fun y z hy hz e => step_all hltL hltM hy hz e HR.out
      have HB : Hid (∀ y z, L[k] = y → M[k] = z → y ≠ z → sameG L M = false) := fun y z hy hz e => sameG_at hltL hltM (by rw [hy, hz]; exact e)
      have hle := hok _ (List.getElem_mem hltL)
      obtain ⟨y, hy⟩ : ∃ y, L[k] = y := ⟨_, rfl⟩
      obtain ⟨z, hz⟩ : ∃ z, M[k] = z := ⟨_, rfl⟩
      have HY : Hid (L[k] = y) := hy
      have HZ : Hid (M[k] = z) := hz
      rw [hy] at d0 d1 d2 d3 hle
      rw [hz] at f0 f1 f2 f3
      clear hy hz c0 c1 c2 c3 e0 e1 e2 e3 hc hc'
      have hS := fun (o1 o2 : Obj) => samevertex_any (w := (wr.alloc o1).alloc o2) y z ec fc (d3.new (b2 wr o1 o2)) (f3.new (b2 wr o1 o2)) hle
      by_cases e : y = z
      · simp only [(sameVx_iff y z).2 e] at hS
        have HE : Hid (y = z) := e
        clear e
        go_wp2_with (go_at_call 52; refine (hS _ _).mono ?_; rintro r w1 ⟨rfl, hb1⟩)
        go_roundw
        case rel => exact ⟨k + 1, by omega, by go_num, HA.out y z HY.out HZ.out HE.out, hb.trans (((b2 wr _ _).trans (hb1.mono (by simp; omega))).mono hb.size)⟩
        case measure => simp [intOf]; omega
      · have hv : sameVx y z = false := by rw [Bool.eq_false_iff]; exact fun h => e ((sameVx_iff y z).1 h)
        simp only [hv] at hS
        have HF : Hid (sameG L M = false) := HB.out y z HY.out HZ.out e
        clear e hv
        go_wp2_with (go_at_call 52; refine (hS _ _).mono ?_; rintro r w1 ⟨rfl, hb1⟩)
        go_ret
        exact ⟨by rw [HF.out]; rfl, hb.trans (((b2 wr _ _).trans (hb1.mono (by simp; omega))).mono hb.size)⟩
    · obtain rfl : k = n := by omega
      have HT : Hid (sameG L M = true) := sameG_all (HN.out.trans HM.out.symm) (fun j h h' => HR.out j h h' (by rw [← HN.out]; exact h))
      go_wp2
      go_ret
      exact ⟨by rw [HT.out]; rfl, hb⟩
set_option maxRecDepth 100000 in
theorem equalfunc_any {w : World} {P Q : Nat → Prop} {ao bo : Option Addr} {L M : List Vx} (ca cb : Nat) (hL : VxAt w P ao L) (hM : VxAt w Q bo M) (hl : L.length ≤ 9223372036854775807) (hok : ∀ v ∈ L, v.es.length ≤ 9223372036854775807) :
    Calls Try.prog 51 #[.slice ao L.length ca, .slice bo M.length cb, .func (.func 52) #[] #[]] w fun r w' => r = .returned (.bool (sameG L M)) ∧ Below w.heap.size w w' := by
  by_cases hlen : L.length = M.length
  · rw [← hlen]
    exact equalfunc_n L.length ca cb hL hM hl hok rfl hlen.symm
  · have HC : Hid (sameG L M = false) := sameG_len hlen
    have hne : ((L.length : Int) == (M.length : Int)) = false := by rw [beq_eq_false_iff_ne]; omega
    go_enter Try.func51, Try.ntmps51
    go_wp2
    go_ret
    exact ⟨by rw [HC.out]; rfl, Below.refl _ _⟩

set_option maxRecDepth 100000 in
theorem same_any {w : World} {P Q : Nat → Prop} {ao bo : Option Addr} {L M : List Vx} (ca cb : Nat) (hL : VxAt w P ao L) (hM : VxAt w Q bo M) (hl : L.length ≤ 9223372036854775807) (hok : ∀ v ∈ L, v.es.length ≤ 9223372036854775807) :
    Calls Try.prog 21 #[.agg #[.slice ao L.length ca], .agg #[.slice bo M.length cb]] w fun r w' => r = .returned (.bool (sameG L M)) ∧ Below w.heap.size w w' := by
  have hE := fun (o1 o2 : Obj) => equalfunc_any ca cb (hL.new (b2 w o1 o2)) (hM.new (b2 w o1 o2)) hl hok
  clear hok
  go_enter Try.func21, Try.ntmps21
  go_wp2_with (go_at_call 51; refine (hE _ _).mono ?_; rintro r w1 ⟨rfl, hb1⟩)
  go_ret
  exact ⟨rfl, (b2 w _ _).trans (hb1.mono (by simp; omega))⟩
end Go.Proofs.Ythnhmhjcpdomcaa
end

section
/- What the document's Edges, Find and Check return. -/
namespace Go.Proofs.Ythnhmhjcpdomcaa
open Go.RowKit

set_option maxRecDepth 100000 in
theorem refedges_any {w : World} {P : Nat → Prop} {ao : Option Addr} {G : List Vx} (cap : Nat) (h : VxAt w P ao G) (hl : G.length ≤ 9223372036854775807) :
    Calls Try.prog 43 #[.slice ao G.length cap] w fun r w' => r = .returned (.int .i64 (sumE G)) ∧ Below w.heap.size w w' := by
  go_enter Try.func43, Try.ntmps43
  go_wp2
  go_loopw [3, 4] (fun n i wr => ∃ (k : Nat), k ≤ G.length ∧ i = .int .i64 k ∧ n = .int .i64 (sumE (G.take k)) ∧ Below w.heap.size w wr) (fun _ i _ => G.length - (intOf i).toNat)
  case atStart => exact ⟨0, Nat.zero_le _, rfl, rfl, Below.refl _ _⟩
  case round =>
    obtain ⟨k, hk, rfl, rfl, hb⟩ := hrel
    by_cases hlt : k < G.length
    · obtain ⟨b, off, rfl, hP, hc⟩ := h (by omega)
      obtain ⟨eo, ec, c0, c1, c2, _⟩ := hc k hlt
      have hbb := lt_cell c0
      have d2 := (hb.cell (p := ⟨b, off + k * 3 + 2, none⟩) hbb).trans c2
      have HS : Hid _ := sumE_snoc G k hlt
      clear c0 c1 c2 hc
      generalize G[k] = y at d2 HS
      go_wp2
      go_roundw
      case rel => exact ⟨k + 1, by omega, by go_num, by rw [HS.out], hb⟩
      case measure => simp [intOf]; omega
    · obtain rfl : k = G.length := by omega
      go_wp2
      go_ret
      exact ⟨by rw [List.take_length]; rfl, hb⟩
theorem findN_from {l : List Int} {x : Int} {k : Nat} (hk : k ≤ l.length) (h1 : ∀ j (h : j < l.length), j < k → l[j] < x) (h2 : ∀ h : k < l.length, ¬ l[k] < x) : findN l x = k := by
  have hle := findN_le l x
  rcases Nat.lt_trichotomy (findN l x) k with h | h | h
  · exact absurd (h1 _ (by omega) h) (findN_stop l x (by omega))
  · exact h
  · obtain ⟨h', h''⟩ := findN_lt l x k h
    exact absurd h'' (h2 h')

set_option maxRecDepth 100000 in
set_option maxHeartbeats 1000000 in
theorem reffind_any {w : World} {P : Nat → Prop} {ao : Option Addr} {G : List Vx} (cap : Nat) (x : Int) (h : VxAt w P ao G) (hl : G.length ≤ 9223372036854775807) :
    Calls Try.prog 35 #[.slice ao G.length cap, .int .i64 x] w fun r w' => r = .returned (.tuple #[.int .i64 (findN (ids G) x), .bool (foundB (ids G) x)]) ∧ Below w.heap.size w w' := by
  go_enter Try.func35, Try.ntmps35
  go_wp2
  go_loopw [6] (fun i wr => ∃ (k : Nat), k ≤ G.length ∧ i = .int .i64 k ∧ Hid (∀ j (h : j < (ids G).length), j < k → (ids G)[j] < x) ∧ Below w.heap.size w wr) (fun i _ => G.length - (intOf i).toNat)
  case atStart => exact ⟨0, Nat.zero_le _, rfl, fun j _ hj => absurd hj (by omega), Below.refl _ _⟩
  case round =>
    obtain ⟨k, hk, rfl, HR, hb⟩ := hrel
    by_cases hlt : k < G.length
    · obtain ⟨b, off, rfl, hP, hc⟩ := h (by omega)
      obtain ⟨eo, ec, c0, c1, c2, _⟩ := hc k hlt
      have hbb := lt_cell c0
      have d0 := (hb.cell (p := ⟨b, off + k * 3, none⟩) hbb).trans c0
      have HG : Hid ((ids G)[k]'(by rw [ids_len]; exact hlt) = G[k].id) := ids_get G k hlt
      clear c0 c1 c2 hc
      generalize G[k] = y at d0 HG
      by_cases hy : y.id < x
      · go_wp2
        go_roundw
        case rel => exact ⟨k + 1, by omega, by go_num, (fun j hj hjk => by
          by_cases e : j = k
          · subst e; rw [HG.out]; exact hy
          · exact HR.out j hj (by omega)), hb⟩
        case measure => simp [intOf]; omega
      · have HF : Hid (findN (ids G) x = k) := findN_from (by rw [ids_len]; exact hk) HR.out (fun h => by rw [HG.out]; exact hy)
        have HB : Hid (foundB (ids G) x = (y.id == x)) := by
          show _ = _
          unfold foundB
          rw [HF.out, List.getElem?_eq_getElem (by rw [ids_len]; exact hlt), HG.out]
          rfl
        go_wp2
        go_quiet (fail)
        go_wp2
        go_ret2
        exact ⟨by rw [HF.out, HB.out]; rfl, bel_drewN hb _⟩
    · have HF : Hid (findN (ids G) x = k) := findN_from (by rw [ids_len]; exact hk) HR.out (fun h => by rw [ids_len] at h; exact absurd h hlt)
      have HB : Hid (foundB (ids G) x = false) := by
        show _ = _
        unfold foundB
        rw [HF.out, List.getElem?_eq_none (by rw [ids_len]; omega)]; rfl
      have hd : decide ((k : Int) < (G.length : Int)) = false := by rw [decide_eq_false_iff_not]; omega
      go_wp2
      go_quiet (fail)
      go_wp2
      go_ret2
      exact ⟨by rw [HF.out, HB.out]; rfl, bel_drewN hb _⟩
end Go.Proofs.Ythnhmhjcpdomcaa
end

section
/- What the document's Check returns. -/
namespace Go.Proofs.Ythnhmhjcpdomcaa
open Go.RowKit
/-- A vertex's edges rise, and their ends are there. -/
def GoodE (G : List Vx) (L : List Ed) (n : Nat) : Prop := (∀ j (h : j < L.length), j < n → (ids G).contains L[j].t = true) ∧ ∀ j (h : j + 1 < L.length), j + 1 < n → L[j].t < L[j + 1].t
theorem good_all {G : List Vx} (H : ∀ j (h : j < G.length), GoodE G G[j].es G[j].es.length) : risesE G = true ∧ thereE G = true := by
  constructor
  · refine risesE_all (fun j hj => (riseB_iff _).2 (fun i hi => ?_))
    have := (H j hj).2 i (by rw [ends_len] at hi; exact hi) (by rw [ends_len] at hi; exact hi)
    rw [ends_get _ _ (by rw [ends_len] at hi; omega), ends_get _ _ (by rw [ends_len] at hi; exact hi)]
    exact this
  · unfold thereE
    rw [List.all_eq_true]
    intro v hv
    obtain ⟨j, hj, rfl⟩ := List.getElem_of_mem hv
    rw [List.all_eq_true]
    intro e he
    obtain ⟨i, hi, rfl⟩ := List.getElem_of_mem he
    exact (H j hj).1 i hi hi
theorem bad_there {G : List Vx} {j i : Nat} (hj : j < G.length) (hi : i < G[j].es.length) (h : (ids G).contains G[j].es[i].t = false) : thereE G = false := by
  unfold thereE
  rw [Bool.eq_false_iff]
  intro ha
  rw [List.all_eq_true] at ha
  have h1 := ha _ (List.getElem_mem hj)
  rw [List.all_eq_true] at h1
  have h2 := h1 _ (List.getElem_mem hi)
  rw [h] at h2
  cases h2
theorem bad_rise {G : List Vx} {j i : Nat} (hj : j < G.length) (hi : i + 1 < G[j].es.length) (h : ¬ G[j].es[i].t < G[j].es[i + 1].t) : risesE G = false := by
  refine risesE_at hj (rise_false (j := i) (by rw [ends_len]; exact hi) ?_)
  rw [ends_get _ _ (by omega), ends_get _ _ hi]
  exact h

set_option maxRecDepth 100000 in
set_option maxHeartbeats 2000000 in
theorem refcheck_any {w : World} {P : Nat → Prop} {ao : Option Addr} {G : List Vx} (cap : Nat) (h : VxAt w P ao G) (hl : G.length ≤ 9223372036854775807) (hok : ∀ v ∈ G, v.ok) :
    Calls Try.prog 14 #[.slice ao G.length cap] w fun r w' => r = .returned (.int .i64 (chk G)) ∧ Below w.heap.size w w' := by
  by_cases hlen : 256 < G.length
  · have HC : Hid (chk G = 30) := if_pos (Or.inl hlen)
    go_enter Try.func14, Try.ntmps14
    go_wp2
    go_ret
    exact ⟨by rw [HC.out]; rfl, Below.refl _ _⟩
  · have HV : Hid (VxAt w P ao G) := h
    have HO : Hid (∀ v ∈ G, v.ok) := hok
    clear h hok
    go_enter Try.func14, Try.ntmps14
    go_wp2
    go_loopw [3] (fun i wr => ∃ (k : Nat), 1 ≤ k ∧ k ≤ max G.length 1 ∧ i = .int .i64 k ∧ Hid (∀ j (h : j + 1 < (ids G).length), j + 1 < k → (ids G)[j] < (ids G)[j + 1]) ∧ Below w.heap.size w wr) (fun i _ => G.length - (intOf i).toNat)
    case atStart => exact ⟨1, Nat.le_refl _, by omega, rfl, fun j _ hj => absurd hj (by omega), Below.refl _ _⟩
    case round =>
      obtain ⟨k, hk1, hk, rfl, HR, hb⟩ := hrel
      by_cases hlt : k < G.length
      · obtain ⟨b, off, rfl, hP, hc⟩ := HV.out (by omega)
        obtain ⟨m, HK⟩ : ∃ m, Hid (k = m + 1) := ⟨k - 1, (by omega : k = k - 1 + 1)⟩
        have hmk : k = m + 1 := HK.out
        have hm0 : m < G.length := by omega
        obtain ⟨eo, ec, c0, _, _, _⟩ := hc m hm0
        obtain ⟨fo, fc, f0, _, _, _⟩ := hc k hlt
        have hbb := lt_cell c0
        have d0 := (hb.cell (p := ⟨b, off + m * 3, none⟩) hbb).trans c0
        have g0 := (hb.cell (p := ⟨b, off + k * 3, none⟩) hbb).trans f0
        have HM : Hid ((ids G)[m]'(by rw [ids_len]; omega) = G[m].id) := ids_get G m hm0
        have HN : Hid ((ids G)[k]'(by rw [ids_len]; omega) = G[k].id) := ids_get G k hlt
        have hm1 : IntKind.i64.wrap ((k : Int) - 1) = m := by rw [IntKind.wrap_i64]; omega
        have hm2 : wrap64 ((k : Int) - 1) = m := by unfold wrap64; omega
        clear c0 f0 hc hmk
        generalize G[m] = y at d0 HM
        generalize G[k] = z at g0 HN
        go_wp2
        go_quiet (fail)
        by_cases hr : z.id ≤ y.id
        · have HC : Hid (chk G = 30) := if_pos (Or.inr (rise_at HK.out (by rw [ids_len]; exact hlt) HM.out HN.out hr))
          go_wp2
          go_ret
          exact ⟨by rw [HC.out]; rfl, bel_drewN hb _⟩
        · go_wp2
          go_roundw
          case rel => exact ⟨k + 1, by omega, by omega, by go_num, rise_step HK.out (by rw [ids_len]; exact hlt) HM.out HN.out (by omega) HR.out, bel_drewN hb _⟩
          case measure => simp [intOf]; omega
      · have HRi : Hid (Rise (ids G)) := fun j hj => HR.out j hj (by rw [ids_len] at hj; omega)
        have HRb : Hid (riseB (ids G) = true) := (riseB_iff _).2 HRi.out
        have HC : Hid (chk G = if 2048 < sumE G ∨ risesE G = false ∨ thereE G = false then 31 else 0) := if_neg (by rw [HRb.out]; simp; omega)
        have HVr : Hid (VxAt wr P ao G) := HV.out.new hb
        have hE := refedges_any cap HVr.out hl
        by_cases hs : 2048 < sumE G
        · go_wp2_with (go_at_call 43; refine hE.mono ?_; rintro r w1 ⟨rfl, hb1⟩)
          go_ret
          exact ⟨by rw [HC.out, if_pos (Or.inl hs)]; rfl, hb.trans (hb1.mono hb.size)⟩
        · go_wp2_with (go_at_call 43; refine hE.mono ?_; rintro r w1 ⟨rfl, hb1⟩)
          have hbA : Below w.heap.size w w1 := hb.trans (hb1.mono hb.size)
          have HVA : Hid (VxAt w1 P ao G) := HVr.out.new hb1
          clear hE hb1
          go_loopw [4, 5, 6, 7, 8] (fun i _ _ _ _ wx => ∃ (j : Nat), j ≤ G.length ∧ i = .int .i64 j ∧ Hid (∀ q (h : q < G.length), q < j → GoodE G G[q].es G[q].es.length) ∧ Below w.heap.size w wx) (fun i _ _ _ _ _ => G.length - (intOf i).toNat)
          case atStart => exact ⟨0, Nat.zero_le _, rfl, fun q _ hq => absurd hq (by omega), hbA⟩
          case round =>
            obtain ⟨j, hj, rfl, HQ, hbx⟩ := hrel
            by_cases hjl : j < G.length
            · obtain ⟨b, off, rfl, hP, hc⟩ := HV.out (by omega)
              obtain ⟨eo, ec, e0, e1, e2, e3⟩ := hc j hjl
              have hbb := lt_cell e0
              have d2 := (hbx.cell (p := ⟨b, off + j * 3 + 2, none⟩) hbb).trans e2
              have HE : Hid (EdAt w P eo G[j].es) := e3
              have hel : G[j].es.length ≤ 9223372036854775807 := Nat.le_trans (HO.out _ (List.getElem_mem hjl)).len (by decide)
              have HB1 : Hid (∀ y, G[j] = y → ∀ i (h : i < y.es.length), (ids G).contains y.es[i].t = false → thereE G = false) := fun y e i hi hcn => by subst e; exact bad_there hjl hi hcn
              have HB2 : Hid (∀ y, G[j] = y → ∀ i (h : i + 1 < y.es.length), ¬ y.es[i].t < y.es[i + 1].t → risesE G = false) := fun y e i hi hcn => by subst e; exact bad_rise hjl hi hcn
              have HB3 : Hid (∀ y, G[j] = y → GoodE G y.es y.es.length → ∀ q (h : q < G.length), q < j + 1 → GoodE G G[q].es G[q].es.length) := fun y e hg q hq hqj => by
                by_cases eq : q = j
                · subst eq; rw [e]; exact hg
                · exact HQ.out q hq (by omega)
              obtain ⟨y, hy⟩ : ∃ y, G[j] = y := ⟨_, rfl⟩
              have HY : Hid (G[j] = y) := hy
              rw [hy] at d2 HE hel
              clear hy e0 e1 e2 e3 hc
              go_wp2
              go_loopw [6, 7, 8] (fun i _ _ wx => ∃ (k : Nat), k ≤ y.es.length ∧ i = .int .i64 k ∧ Hid (GoodE G y.es k) ∧ Below w.heap.size w wx) (fun i _ _ _ => y.es.length - (intOf i).toNat)
              case atStart => exact ⟨0, Nat.zero_le _, rfl, ⟨fun q _ hq => absurd hq (by omega), fun q _ hq => absurd hq (by omega)⟩, hbx⟩
              case round =>
                obtain ⟨k, hk, rfl, HD, hby⟩ := hrel
                by_cases hkl : k < y.es.length
                · obtain ⟨eb, eoff, rfl, hPe, hce⟩ := HE.out (by omega)
                  have f0 := (hby.cell (p := ⟨eb, eoff + k * 2, none⟩) (lt_cell (hce k hkl).1)).trans (hce k hkl).1
                  have hF := reffind_any cap y.es[k].t (HV.out.new hby) hl
                  have HP1 : Hid (foundB (ids G) y.es[k].t = (ids G).contains y.es[k].t) := foundB_iff HRi.out _
                  have HN : Hid (∀ z, y.es[k] = z → (ids G).contains z.t = false → thereE G = false) := fun z e hcn => HB1.out y HY.out k hkl (by rw [e]; exact hcn)
                  cases hfb : foundB (ids G) y.es[k].t with
                  | false =>
                    rw [hfb] at hF HP1
                    have HT : Hid (thereE G = false) := HB1.out y HY.out k hkl HP1.out.symm
                    clear hfb hce
                    generalize y.es[k] = z at f0 hF
                    go_wp2_with (go_at_call 35; refine hF.mono ?_; rintro r w2 ⟨rfl, hb2⟩)
                    go_quiet (fail)
                    go_wp2
                    go_ret
                    exact ⟨by rw [HC.out, if_pos (Or.inr (Or.inr HT.out))]; rfl, bel_drewN (hby.trans (hb2.mono hby.size)) _⟩
                  | true =>
                    rw [hfb] at hF HP1
                    by_cases hk0 : k = 0
                    · have HG : Hid (GoodE G y.es (k + 1)) := ⟨fun q hq hqk => by
                        obtain rfl : q = k := by omega
                        exact HP1.out.symm, fun q _ hq => absurd hq (by omega)⟩
                      have hd : decide (0 < k) = false := by rw [decide_eq_false_iff_not]; omega
                      clear hfb hce hk0
                      generalize y.es[k] = z at f0 hF
                      go_wp2_with (go_at_call 35; refine hF.mono ?_; rintro r w2 ⟨rfl, hb2⟩)
                      go_quiet (fail)
                      go_wp2
                      go_roundw
                      case rel => exact ⟨k + 1, by omega, by go_num, HG.out, bel_drewN (hby.trans (hb2.mono hby.size)) _⟩
                      case measure => simp [intOf]; omega
                    · obtain ⟨m, HK⟩ : ∃ m, Hid (k = m + 1) := ⟨k - 1, (by omega : k = k - 1 + 1)⟩
                      have hmk : k = m + 1 := HK.out
                      have hm0 : m < y.es.length := by omega
                      have g0 := (hby.cell (p := ⟨eb, eoff + m * 2, none⟩) (lt_cell (hce m hm0).1)).trans (hce m hm0).1
                      have hm1 : IntKind.i64.wrap ((k : Int) - 1) = m := by rw [IntKind.wrap_i64]; omega
                      have hm2 : wrap64 ((k : Int) - 1) = m := by unfold wrap64; omega
                      have hpos : decide (0 < k) = true := by rw [decide_eq_true_iff]; omega
                      have hebw : eb < w.heap.size := lt_cell (hce k hkl).1
                      have HG : Hid (∀ u z, y.es[m] = u → y.es[k] = z → u.t < z.t → GoodE G y.es (k + 1)) := fun u z hu hz hlt2 => ⟨fun q hq hqk => by
                        by_cases e : q = k
                        · subst e; exact HP1.out.symm
                        · exact HD.out.1 q hq (by omega), fun q hq hqk => by
                        by_cases e : q = m
                        · subst e; subst hmk; rw [hu, hz]; exact hlt2
                        · exact HD.out.2 q hq (by omega)⟩
                      have HX : Hid (∀ u z, y.es[m] = u → y.es[k] = z → ¬ u.t < z.t → risesE G = false) := fun u z hu hz hn => HB2.out y HY.out m (by omega) (by subst hmk; rw [hu, hz]; omega)
                      obtain ⟨u, hu⟩ : ∃ u, y.es[m] = u := ⟨_, rfl⟩
                      obtain ⟨z, hz⟩ : ∃ z, y.es[k] = z := ⟨_, rfl⟩
                      have HU : Hid (y.es[m] = u) := hu
                      have HZ : Hid (y.es[k] = z) := hz
                      rw [hu] at g0
                      rw [hz] at f0 hF
                      clear hfb hce hk0 hu hz hmk
                      go_wp2_with (go_at_call 35; refine hF.mono ?_; rintro r w2 ⟨rfl, hb2⟩; have f1 := (hb2.cell (p := ⟨eb, eoff + k * 2, none⟩) (Nat.lt_of_lt_of_le hebw hby.size)).trans f0; have g1 := (hb2.cell (p := ⟨eb, eoff + m * 2, none⟩) (Nat.lt_of_lt_of_le hebw hby.size)).trans g0)
                      go_quiet (fail)
                      by_cases hr : z.t ≤ u.t
                      · have HT : Hid (risesE G = false) := HX.out u z HU.out HZ.out (by omega)
                        go_wp2
                        go_ret
                        exact ⟨by rw [HC.out, if_pos (Or.inr (Or.inl HT.out))]; rfl, bel_drewN (hby.trans (hb2.mono hby.size)) _⟩
                      · go_wp2
                        go_roundw
                        case rel => exact ⟨k + 1, by omega, by go_num, HG.out u z HU.out HZ.out (by omega), bel_drewN (hby.trans (hb2.mono hby.size)) _⟩
                        case measure => simp [intOf]; omega
                · obtain rfl : k = y.es.length := by omega
                  go_wp2
                  go_roundw
                  case rel => exact ⟨j + 1, by omega, by go_num, HB3.out y HY.out HD.out, hby⟩
                  case measure => simp [intOf]; omega
            · have HT := good_all (fun q hq => HQ.out q hq (by omega))
              have HE0 : Hid (chk G = 0) := HC.out.trans (if_neg (by rw [HT.1, HT.2]; simp; omega))
              clear HT
              go_wp2
              go_ret
              exact ⟨by rw [HE0.out]; rfl, hbx⟩
theorem rise_of {G : List Vx} (h : chk G = 0) : G.length ≤ 256 ∧ Rise (ids G) := by
  unfold chk at h
  split at h
  · cases h
  · rename_i hn
    refine ⟨by omega, (riseB_iff _).1 ?_⟩
    cases hb : riseB (ids G) with
    | true => rfl
    | false => exact absurd (Or.inr hb) hn
end Go.Proofs.Ythnhmhjcpdomcaa
end

section
/- What the laws of requests share: the graph's box. -/
namespace Go.Proofs.Ythnhmhjcpdomcaa
open Go.RowKit Go.Sort
/-- The graph's box stands. -/
structure OB (w W : World) (ao : Option Addr) (n cap : Nat) : Prop where
  box : W.heap[w.heap.size]? = some (.cells #[.slice ao n cap] 24 (0, 0))
  low : Below w.heap.size w W
theorem OB.new {w W W' : World} {ao : Option Addr} {n cap : Nat} (h : OB w W ao n cap) (hb : Below W.heap.size W W') : OB w W' ao n cap :=
  ⟨(hb.block _ (Array.getElem?_eq_some_iff.1 h.box).1).trans h.box, h.low.trans (hb.mono h.low.size)⟩
theorem OB.cell {w W : World} {ao : Option Addr} {n cap : Nat} (h : OB w W ao n cap) : W.cell? ⟨w.heap.size, 0, none⟩ = some (.slice ao n cap) := by simp [World.cell?, h.box]
theorem OB.start (w : World) (ao : Option Addr) (n cap : Nat) : OB w (w.alloc (.cells #[.slice ao n cap] 24)) ao n cap := ⟨heap_alloc_new _ _, one_newU _ _⟩
theorem OB.fr {w W W' : World} {ao : Option Addr} {n cap : Nat} {S : Nat → Prop} (h : OB w W ao n cap) (f : Fr W W' S) (hS : ∀ k, S k → w.heap.size + 1 ≤ k) : OB w W' ao n cap :=
  ⟨(f.block _ (Array.getElem?_eq_some_iff.1 h.box).1 (fun e => by have := hS _ e; omega)).trans h.box, h.low.trans (f.below h.low.size (fun k e => by have := hS k e; omega))⟩
theorem OB.lt {w W : World} {ao : Option Addr} {n cap : Nat} (h : OB w W ao n cap) : w.heap.size + 1 ≤ W.heap.size := (Array.getElem?_eq_some_iff.1 h.box).1
theorem chk_bdU (G : List Vx) : chk G = 0 ∨ chk G = 30 ∨ chk G = 31 := by
  unfold chk
  split
  · simp
  · split <;> simp
/-- A row of one's own, as it is read. -/
theorem UO.at_ {w : World} {base : Nat} {ao : Option Addr} {n c : Nat} {L : List Mu} (h : UO w base (.slice ao n c) L) : UsAt w (fun k => base ≤ k) ao L ∧ n = L.length := by
  rcases h.2 with ⟨h1, h2⟩ | ⟨g, cap, cur, h1, hb, hg, hn, hc, hcs, ht⟩
  · cases h1
    exact ⟨fun hl => by omega, h2.symm⟩
  · cases h1
    exact ⟨fun _ => ⟨g, 0, rfl, hb, fun j hj => by rw [Nat.zero_add]; exact UO.cells h hj⟩, rfl⟩
end Go.Proofs.Ythnhmhjcpdomcaa
end

section
/- MutOrders: whoever asks first, the graph behind all requests is the same. -/
namespace Go.Proofs.Ythnhmhjcpdomcaa
open Go.RowKit Go.Sort
set_option maxRecDepth 100000 in
set_option maxHeartbeats 1000000 in
/-- What may not be, or is too much. -/
theorem mord_bad {w : World} {P : Nat → Prop} {ao bo : Option Addr} (G : List Vx) (cap : Nat) (n cap2 : Nat) (turn : Int) (h : VxAt w P ao G) (hok : ∀ v ∈ G, v.ok) (hl : G.length * 40 ≤ 140737488355328) (hz : chk G ≠ 0 ∨ 60 < n) :
    Calls Try.prog 5 #[.agg #[.slice ao G.length cap], .slice bo n cap2, .int .i64 turn] w fun r w' => r = .returned (.bool true) ∧ Below w.heap.size w w' := by
  have HG : Hid (∀ W, Below w.heap.size w W → VxAt W P ao G) := fun W hb => h.new hb
  have HOk : Hid (∀ v ∈ G, v.ok) := hok
  have HS0 : Hid _ := OB.start w ao G.length cap
  clear h hok
  by_cases hc0 : chk G = 0
  · have hn : (60 : Int) < n := by rcases hz with e | e; · exact absurd hc0 e
                                   · omega
    have HC : Hid _ := hc0
    clear hz hc0
    go_enter Try.func5, Try.ntmps5
    go_wp2_with (first
      | (go_at_call 13; refine (ref_any G cap (HG.out _ HS0.out.low) HOk.out hl).mono ?_; rintro r w2 ⟨bo2, c2, rfl, hV2, hb2⟩; have hS2 := OB.new HS0.out hb2)
      | (go_at_call 14; refine (refcheck_any c2 hV2 (by omega) HOk.out).mono ?_; rintro r w3 ⟨rfl, hb3⟩; rw [HC.out]; have hS3 := hS2.new hb3)
      | (go_at_call 15; refine (awake6 _).mono ?_; rintro r w4 ⟨rfl, hb4⟩; have hS4 := hS3.new hb4))
    go_ret
    exact ⟨rfl, hS4.low⟩
  · obtain ⟨c, hc⟩ : ∃ c, chk G = c := ⟨_, rfl⟩
    have hc1 : (c != 0) = true := by rw [← hc]; simpa using hc0
    have HC : Hid _ := hc
    clear hz hc0 hc
    go_enter Try.func5, Try.ntmps5
    go_wp2_with (first
      | (go_at_call 13; refine (ref_any G cap (HG.out _ HS0.out.low) HOk.out hl).mono ?_; rintro r w2 ⟨bo2, c2, rfl, hV2, hb2⟩; have hS2 := OB.new HS0.out hb2)
      | (go_at_call 14; refine (refcheck_any c2 hV2 (by omega) HOk.out).mono ?_; rintro r w3 ⟨rfl, hb3⟩; rw [HC.out]; have hS3 := hS2.new hb3)
      | (go_at_call 15; refine (awake6 _).mono ?_; rintro r w4 ⟨rfl, hb4⟩; have hS4 := hS3.new hb4))
    go_ret
    exact ⟨rfl, hS4.low⟩
end Go.Proofs.Ythnhmhjcpdomcaa
end

section
/- A region that draws its order, by what holds behind whatever has come up: one step an operation. -/
namespace Go.Proofs.Ythnhmhjcpdomcaa
open Go
/-- The slots of a region laid over a frame. -/
def puts (A : Act) (X : Nat → Value) : List Nat → Act
  | [] => A
  | d :: ds => (puts A X ds).put (some d) (X d)
def upd (X : Nat → Value) (d : Nat) (v : Value) : Nat → Value := fun k => if k = d then v else X k
theorem puts_defers (A : Act) (X : Nat → Value) : ∀ ds, (puts A X ds).defers = A.defers
  | [] => rfl
  | _ :: ds => puts_defers A X ds
theorem puts_size (A : Act) (X : Nat → Value) : ∀ ds, (puts A X ds).tmps.size = A.tmps.size
  | [] => rfl
  | d :: ds => by show (Array.setIfInBounds _ _ _).size = _; rw [Array.size_setIfInBounds]; exact puts_size A X ds
theorem puts_at (A : Act) (X : Nat → Value) (k : Nat) : ∀ ds : List Nat, (puts A X ds).tmps[k]? = if k ∈ ds ∧ k < A.tmps.size then some (X k) else A.tmps[k]?
  | [] => by simp [puts]
  | d :: ds => by
    show (Array.setIfInBounds (puts A X ds).tmps d (X d))[k]? = _
    rw [Array.getElem?_setIfInBounds, puts_size, puts_at A X k ds]
    by_cases hk : d = k
    · subst hk
      by_cases hl : d < A.tmps.size
      · simp [hl]
      · simp [hl]
    · have : k ≠ d := fun e => hk e.symm
      simp [hk, this]
theorem act_ext {a b : Act} (h1 : a.defers = b.defers) (h2 : ∀ k : Nat, a.tmps[k]? = b.tmps[k]?) : a = b := by
  obtain ⟨a1, a2⟩ := a
  obtain ⟨b1, b2⟩ := b
  have : a1 = b1 := Array.ext_getElem? h2
  simp only at h1
  rw [this, h1]
theorem puts_put {A : Act} {X : Nat → Value} {ds : List Nat} {d : Nat} (v : Value) (hd : d ∈ ds) : (puts A X ds).put (some d) v = puts A (upd X d v) ds := by
  refine act_ext ?_ ?_
  · rw [puts_defers]; exact puts_defers A X ds
  · intro k
    show (Array.setIfInBounds (puts A X ds).tmps d v)[k]? = _
    rw [Array.getElem?_setIfInBounds, puts_size, puts_at, puts_at]
    by_cases hk : d = k
    · subst hk
      by_cases hl : d < A.tmps.size
      · simp [hl, hd, upd]
      · simp [hl]
    · have : k ≠ d := fun e => hk e.symm
      simp [hk, this, upd]
theorem puts_self (A : Act) (ds : List Nat) : puts A (fun k => A.tmps.getD k undef) ds = A := by
  refine act_ext (puts_defers _ _ _) fun k => ?_
  rw [puts_at]
  split
  · rename_i h; simp [h.2]
  · rfl
theorem eval_in {A : Act} {X : Nat → Value} {ds : List Nat} {k : Nat} (hk : k ∈ ds) (hl : k < A.tmps.size) : (puts A X ds).eval (.tmp k) = X k := by
  show Array.getD _ _ _ = _
  rw [Array.getD_eq_getD_getElem?, puts_at, if_pos ⟨hk, hl⟩]
  rfl
theorem eval_out {A : Act} {X : Nat → Value} {ds : List Nat} {k : Nat} (hk : k ∉ ds) : (puts A X ds).eval (.tmp k) = A.eval (.tmp k) := by
  show Array.getD _ _ _ = Array.getD _ _ _
  rw [Array.getD_eq_getD_getElem?, puts_at, if_neg (fun h => hk h.1), Array.getD_eq_getD_getElem?]
section
variable {P : Program} {Q : Exit → Act → World → Prop} {md : Region.Mode}
/-- Number k must come up ahead of the operation. -/
def needs (md : Region.Mode) (o : Oper) (k : Nat) : Bool := o.after.any fun e => Region.binds md e && e.on == k
/-- One step for each operation. -/
def Steps (P : Program) (md : Region.Mode) (Q : Exit → Act → World → Prop) (A : Act) (ds : List Nat) (J : (Nat → Prop) → (Nat → Value) → World → Prop) : Nat → List Oper → Prop
  | _, [] => True
  | i, o :: os => (∀ on X W, J on X W → ¬ on i → (∀ k, needs md o k = true → on k) → o.wp P (puts A X ds) W (fun a' W' => ∃ X', a' = puts A X' ds ∧ J (fun k => k = i ∨ on k) X' W') Q) ∧ Steps P md Q A ds J (i + 1) os
theorem Steps.at_ {A : Act} {ds : List Nat} {J : (Nat → Prop) → (Nat → Value) → World → Prop} : ∀ {os : List Oper} {i : Nat}, Steps P md Q A ds J i os → ∀ {j : Nat} {o : Oper}, os[j]? = some o →
    ∀ on X W, J on X W → ¬ on (i + j) → (∀ k, needs md o k = true → on k) → o.wp P (puts A X ds) W (fun a' W' => ∃ X', a' = puts A X' ds ∧ J (fun k => k = i + j ∨ on k) X' W') Q
  | [], _, _, _, _, h => by cases h
  | _ :: _, i, h, 0, _, e => by cases e; exact h.1
  | _ :: os, i, h, j + 1, _, e => by
    have := Steps.at_ h.2 (j := j) e
    rwa [show i + 1 + j = i + (j + 1) by omega] at this
/-- No operation is guarded, and each waits for earlier ones alone. -/
def plainB (md : Region.Mode) (ops : List Oper) : Bool := (List.range ops.length).all fun i => match ops[i]? with
  | some o => o.guard.isNone && o.after.all fun e => !Region.binds md e || decide (e.on < i)
  | none => true
theorem plainB_at {ops : List Oper} (h : plainB md ops = true) {i : Nat} {o : Oper} (ho : ops[i]? = some o) : o.guard = none ∧ ∀ e ∈ o.after, Region.binds md e = true → e.on < i := by
  have hlt : i < ops.length := (List.getElem?_eq_some_iff.1 ho).1
  have := List.all_eq_true.1 h i (List.mem_range.2 hlt)
  rw [ho] at this
  simp only [Bool.and_eq_true, Option.isNone_iff_eq_none] at this
  refine ⟨this.1, fun e he hb => ?_⟩
  have := Array.all_eq_true'.1 this.2 e he
  rw [hb] at this
  simpa using this
def onL (listed : Array Bool) : Nat → Prop := fun k => listed.getD k false = true
theorem onL_set {listed : Array Bool} {i : Nat} (hi : i < listed.size) : onL (listed.setIfInBounds i true) = fun k => k = i ∨ onL listed k := by
  funext k
  unfold onL
  rw [Array.getD_eq_getD_getElem?, Array.getElem?_setIfInBounds, Array.getD_eq_getD_getElem?]
  by_cases hk : i = k
  · subst hk; simp [hi]
  · have : k ≠ i := fun e => hk e.symm
    simp [hk, this]
def offs (listed : Array Bool) : Nat := (listed.toList.filter (· == false)).length
theorem offs_set {listed : Array Bool} {i : Nat} (h : listed.getD i true = false) : offs (listed.setIfInBounds i true) + 1 = offs listed := by
  obtain ⟨l⟩ := listed
  unfold offs
  rw [Array.getD_eq_getD_getElem?] at h
  simp only [List.getElem?_toArray, List.setIfInBounds_toArray] at h ⊢
  induction l generalizing i with
  | nil => simp at h
  | cons b l ih =>
    cases i with
    | zero =>
      simp at h
      subst h
      simp
    | succ i =>
      have := ih (i := i) (by simpa using h)
      cases b <;> simp at this ⊢ <;> omega
theorem all_on {ops : List Oper} (hp : plainB md ops = true) {listed : Array Bool} (hs : listed.size = ops.length) (hr : Region.ready md ops.toArray listed = []) : ∀ i, i < ops.length → onL listed i := by
  intro i
  induction i using Nat.strongRecOn with
  | ind i ih =>
    intro hi
    by_cases h : listed.getD i true = false
    · exfalso
      have : i ∈ Region.ready md ops.toArray listed := by
        refine mem_ready.2 ⟨h, ops[i], by simp [hi], fun e he hb => ?_⟩
        have hlt := (plainB_at hp (i := i) (o := ops[i]) (by simp [hi])).2 e he hb
        exact ih e.on hlt (by omega)
      rw [hr] at this
      cases this
    · unfold onL
      rw [Array.getD_eq_getD_getElem?] at h ⊢
      have hil : i < listed.size := by omega
      simp [hil] at h ⊢
      exact h
theorem wpAny_J {ops : List Oper} {A : Act} {ds : List Nat} (J : (Nat → Prop) → (Nat → Value) → World → Prop) (hp : plainB md ops = true) (hst : Steps P md Q A ds J 0 ops)
    (hdone : ∀ on X W, J on X W → (∀ i, i < ops.length → on i) → Q .normal (puts A X ds) W) :
    ∀ (fuel : Nat) (listed : Array Bool) (X : Nat → Value) (W : World), listed.size = ops.length → offs listed ≤ fuel → J (onL listed) X W → wpAny P md ops.toArray Q fuel listed (puts A X ds) W
  | 0, listed, X, W, hs, ho, hJ => by
    have hr : Region.ready md ops.toArray listed = [] := by
      cases hr : Region.ready md ops.toArray listed with
      | nil => rfl
      | cons i l =>
        have : i ∈ Region.ready md ops.toArray listed := by rw [hr]; exact List.mem_cons_self
        have := offs_set (mem_ready.1 this).1
        omega
    exact ⟨hr, hdone _ _ _ hJ (all_on hp hs hr)⟩
  | fuel + 1, listed, X, W, hs, ho, hJ => by
    refine ⟨fun hr => hdone _ _ _ hJ (all_on hp hs hr), fun i hi => ?_⟩
    obtain ⟨hn, o, hoi, hd⟩ := mem_ready.1 hi
    have hoi' : ops[i]? = some o := by simpa using hoi
    have hlt : i < listed.size := by rw [hs]; exact (List.getElem?_eq_some_iff.1 hoi').1
    have hstep := Steps.at_ hst hoi' (onL listed) X W hJ (by
      rw [Nat.zero_add]
      unfold onL
      rw [Array.getD_eq_getD_getElem?] at hn ⊢
      simp [hlt] at hn ⊢
      exact hn) (fun k hk => by
      obtain ⟨e, he, h2⟩ := Array.any_eq_true'.1 hk
      rw [Bool.and_eq_true] at h2
      have := hd e he h2.1
      rwa [show e.on = k by simpa using h2.2] at this)
    unfold wpOp
    rw [hoi]
    have hw : Region.wanted o (yielded ops.toArray (puts A X ds).tmps) = true := by simp [Region.wanted, (plainB_at hp hoi').1]
    simp only [hw, if_true]
    refine .inl (Oper.wp_mono ?_ hstep)
    rintro a' W' ⟨X', rfl, hJ'⟩
    refine wpAny_J J hp hst hdone fuel _ X' W' (by simpa using hs) (by have := offs_set hn; omega) ?_
    rw [onL_set hlt]
    rwa [Nat.zero_add] at hJ'
/-- The whole region. -/
theorem wp_region_J {id : Nat} {ops : List Oper} {a : Act} {w : World} (ds : List Nat) (J : (Nat → Prop) → (Nat → Value) → World → Prop) (hm : P.follows .mixedOrders = true) (hp : plainB .any ops = true)
    (h0 : J (fun _ => False) (fun k => a.tmps.getD k undef) w.drew) (hst : Steps P .any Q a ds J 0 ops)
    (hdone : ∀ on X W, J on X W → (∀ i, i < ops.length → on i) → Q .normal (puts a X ds) W) : (Code.region id ops.toArray true).wp P Q a w := by
  refine wp_region_any hm ?_
  have h := wpAny_J (md := .any) J hp hst hdone ops.length (Array.replicate ops.length false) (fun k => a.tmps.getD k undef) w.drew (by simp) (by
    unfold offs
    refine Nat.le_trans (List.length_filter_le _ _) ?_
    simp) (by
    have : onL (Array.replicate ops.length false) = fun _ => False := by
      funext k
      unfold onL
      rw [Array.getD_eq_getD_getElem?, Array.getElem?_replicate]
      split <;> simp
    rw [this]
    exact h0)
  rw [puts_self] at h
  simpa using h
theorem op_value {o : Oper} {a : Act} {w w' : World} {v : Value} {K : Act → World → Prop} (h : (execOp a.eval o).run P w = .ok (.value v) w') (hK : K (a.put o.dst v) w') : o.wp P a w K Q := by
  unfold Oper.wp
  rw [h]
  exact hK
theorem op_skip {o : Oper} {a : Act} {w w' : World} {K : Act → World → Prop} (h : (execOp a.eval o).run P w = .ok .skip w') (hK : K (a.put o.dst undef) w') : o.wp P a w K Q := by
  unfold Oper.wp
  rw [h]
  exact hK
theorem op_call {o : Oper} {a : Act} {w : World} {f : FuncId} {vs : Array Value} {K : Act → World → Prop} (h : (execOp a.eval o).run P w = .ok (.enter f vs) w) (hK : Calls P f vs w fun r w' => ∃ v, r = .returned v ∧ K (a.put o.dst v) w') : o.wp P a w K Q := by
  unfold Oper.wp
  rw [h]
  refine Calls.mono hK ?_
  rintro e w' ⟨v, rfl, h'⟩
  exact h'
end
/-- A region of a function's code. -/
def regionJ (n : Nat) : Code → Option Code
  | .region m ops d => if m = n then some (.region m ops d) else none
  | .loop c => regionJ n c
  | .seq a b => match regionJ n a with
    | some c => some c
    | none => regionJ n b
  | .block _ c => regionJ n c
  | .scope c => regionJ n c
  | .cond _ a b => match regionJ n a with
    | some c => some c
    | none => regionJ n b
  | _ => none
end Go.Proofs.Ythnhmhjcpdomcaa
end
