import Derived.Test.YthnhmhjcpdomcaaGrWalk1
import Derived.Test.YthnhmhjcpdomcaaRegI
import Derived.Test.YthnhmhjcpdomcaaMuApplyM
import Derived.Maps.AppendAt
import Derived.Test.YthnhmhjcpdomcaaGrWalk2
import Derived.Test.YthnhmhjcpdomcaaGrThere
import Derived.Test.YthnhmhjcpdomcaaMuThat
section
/- Two edges held against one another: the operation itself. -/
namespace Go.Proofs.Ythnhmhjcpdomcaa
open Go.RowKit
theorem sizeI64 : (Try.prog.info? 2).map (fun i => i.size) = some 1 := by kernel_rfl
theorem part_at (w : World) (a b : Int) : (part 2 #[.int .i64 a, .int .i64 b] 0).run Try.prog w = .ok (.int .i64 a) w ∧ (part 2 #[.int .i64 a, .int .i64 b] 1).run Try.prog w = .ok (.int .i64 b) w := by
  obtain ⟨i, hi, hs⟩ := Option.map_eq_some_iff.1 sizeI64
  constructor <;> simp [part, typeInfo, hi, hs, sizeOf]
theorem run_equal2 (w : World) (a b : Int) : (Op.equalIn 9999 2 (.int .i64 a) (.int .i64 b)).run Try.prog w = .ok (a == b) w := by
  unfold Op.equalIn
  simp [run_underlying Try.underlying2]
theorem run_equal60 (w : World) (a b c d : Int) : (Op.equalIn 10000 81 (.agg #[.int .i64 a, .int .i64 b]) (.agg #[.int .i64 c, .int .i64 d])).run Try.prog w = .ok (a == c && b == d) w := by
  unfold Op.equalIn
  simp [run_underlying Try.underlying81, (part_at _ _ _).1, (part_at _ _ _).2, run_equal2]
  by_cases h1 : a = c <;> by_cases h2 : b = d <;> simp [h1, h2]
theorem run_neq60 (w : World) (a b c d : Int) : (binOp .neq 81 (.agg #[.int .i64 a, .int .i64 b]) (.agg #[.int .i64 c, .int .i64 d])).run Try.prog w = .ok (.bool (!(a == c && b == d))) w := by
  simp only [binOp]
  simp [Op.equal, Op.maxDepth, run_equal60]
theorem run_guard60 (w : World) (x y : Operand) (a b c d : Int) : (eqGuard .neq 81 x y (.agg #[.int .i64 a, .int .i64 b]) (.agg #[.int .i64 c, .int .i64 d])).run Try.prog w = .ok () w := by
  unfold eqGuard
  simp
end Go.Proofs.Ythnhmhjcpdomcaa
end

section
/- What Same returns of two graphs. -/
namespace Go.Proofs.Ythnhmhjcpdomcaa
open Go.RowKit

def sameEd (a b : Ed) : Bool := a.t == b.t && a.w == b.w
def sameEs : List Ed → List Ed → Bool
  | [], [] => true
  | a :: l, b :: m => sameEd a b && sameEs l m
  | _, _ => false
def sameVx (a b : Vx) : Bool := a.id == b.id && (a.val == b.val && sameEs a.es b.es)
def sameG : List Vx → List Vx → Bool
  | [], [] => true
  | a :: l, b :: m => sameVx a b && sameG l m
  | _, _ => false
theorem sameEd_iff (a b : Ed) : sameEd a b = true ↔ a = b := by
  cases a; cases b; simp [sameEd]
theorem sameEs_iff : ∀ (a b : List Ed), sameEs a b = true ↔ a = b
  | [], [] => by simp [sameEs]
  | [], b :: m => by simp [sameEs]
  | a :: l, [] => by simp [sameEs]
  | a :: l, b :: m => by simp [sameEs, sameEd_iff, sameEs_iff l m]
theorem sameVx_iff (a b : Vx) : sameVx a b = true ↔ a = b := by
  cases a; cases b; simp [sameVx, sameEs_iff]
theorem sameG_iff : ∀ (a b : List Vx), sameG a b = true ↔ a = b
  | [], [] => by simp [sameG]
  | [], b :: m => by simp [sameG]
  | a :: l, [] => by simp [sameG]
  | a :: l, b :: m => by simp [sameG, sameVx_iff, sameG_iff l m]
theorem sameEs_len {a b : List Ed} (h : a.length ≠ b.length) : sameEs a b = false := by
  rw [Bool.eq_false_iff]
  intro e
  exact h (by rw [(sameEs_iff a b).1 e])
theorem sameG_len {a b : List Vx} (h : a.length ≠ b.length) : sameG a b = false := by
  rw [Bool.eq_false_iff]
  intro e
  exact h (by rw [(sameG_iff a b).1 e])
theorem sameEs_at {a b : List Ed} {k : Nat} (h : k < a.length) (h' : k < b.length) (hn : a[k] ≠ b[k]) : sameEs a b = false := by
  rw [Bool.eq_false_iff]
  intro e
  obtain rfl := (sameEs_iff a b).1 e
  exact hn rfl
theorem sameG_at {a b : List Vx} {k : Nat} (h : k < a.length) (h' : k < b.length) (hn : a[k] ≠ b[k]) : sameG a b = false := by
  rw [Bool.eq_false_iff]
  intro e
  obtain rfl := (sameG_iff a b).1 e
  exact hn rfl
theorem sameEs_all {a b : List Ed} (hl : a.length = b.length) (H : ∀ j (h : j < a.length) (h' : j < b.length), a[j] = b[j]) : sameEs a b = true := (sameEs_iff a b).2 (List.ext_getElem hl H)
theorem sameG_all {a b : List Vx} (hl : a.length = b.length) (H : ∀ j (h : j < a.length) (h' : j < b.length), a[j] = b[j]) : sameG a b = true := (sameG_iff a b).2 (List.ext_getElem hl H)
theorem step_all {α : Type} {a b : List α} {k : Nat} (hk : k < a.length) (hk' : k < b.length) {y z : α} (hy : a[k] = y) (hz : b[k] = z) (e : y = z) (H : ∀ j (h : j < a.length) (h' : j < b.length), j < k → a[j] = b[j]) : ∀ j (h : j < a.length) (h' : j < b.length), j < k + 1 → a[j] = b[j] := by
  intro j h h' hj
  by_cases ej : j = k
  · subst ej; rw [hy, hz, e]
  · exact H j h h' (by omega)
theorem bel_drewN {B : Nat} {w wr : World} (h : Below B w wr) (n : Nat) : Below B w (wr.drewN n) := by
  induction n with
  | zero => exact h
  | succ n ih => exact ih.drew
theorem ed_ne {y z : Ed} (h : ¬ y = z) : (!y.t == z.t || !y.w == z.w) = true := by
  cases y; cases z
  simp at h ⊢
  omega
set_option maxRecDepth 100000 in
set_option maxHeartbeats 4000000 in
theorem equal_any {w : World} {P Q : Nat → Prop} {ao bo : Option Addr} {L M : List Ed} (ca cb : Nat) (hL : EdAt w P ao L) (hM : EdAt w Q bo M) (hl : L.length ≤ 9223372036854775807) :
    Calls Try.prog 79 #[.slice ao L.length ca, .slice bo M.length cb] w fun r w' => r = .returned (.bool (sameEs L M)) ∧ Below w.heap.size w w' := by
  by_cases hlen : L.length = M.length
  · go_enter Try.func79, Try.ntmps79
    go_wp2
    go_loopw [5, 13] (fun _ i wr => ∃ k : Nat, k ≤ L.length ∧ i = .int .i64 k ∧ Hid (∀ j (h : j < L.length) (h' : j < M.length), j < k → L[j] = M[j]) ∧ Below w.heap.size w wr) (fun _ i _ => L.length - (intOf i).toNat)
    case atStart => exact ⟨0, Nat.zero_le _, rfl, fun j _ _ hj => absurd hj (by omega), Below.refl _ _⟩
    case round =>
      obtain ⟨k, hk, rfl, HR, hb⟩ := hrel
      by_cases hlt : k < L.length
      · have hltM : k < M.length := by omega
        obtain ⟨b, off, rfl, hP, hc⟩ := hL (by omega)
        obtain ⟨b', off', rfl, hP', hc'⟩ := hM (by omega)
        obtain ⟨c0, c1⟩ := hc k hlt
        obtain ⟨e0, e1⟩ := hc' k hltM
        have d0 := (hb.cell (p := ⟨b, off + k * 2, none⟩) (lt_cell c0)).trans c0
        have d1 := (hb.cell (p := ⟨b, off + k * 2 + 1, none⟩) (lt_cell c0)).trans c1
        have f0 := (hb.cell (p := ⟨b', off' + k * 2, none⟩) (lt_cell e0)).trans e0
        have f1 := (hb.cell (p := ⟨b', off' + k * 2 + 1, none⟩) (lt_cell e0)).trans e1
        have HA : Hid (∀ y z, L[k] = y → M[k] = z → y = z → ∀ j (h : j < L.length) (h' : j < M.length), j < k + 1 → L[j] = M[j]) := fun y z hy hz e => step_all hlt hltM hy hz e HR.out
        have HB : Hid (∀ y z, L[k] = y → M[k] = z → y ≠ z → sameEs L M = false) := fun y z hy hz e => sameEs_at hlt hltM (by rw [hy, hz]; exact e)
        obtain ⟨y, hy⟩ : ∃ y, L[k] = y := ⟨_, rfl⟩
        obtain ⟨z, hz⟩ : ∃ z, M[k] = z := ⟨_, rfl⟩
        have HY : Hid (L[k] = y) := hy
        have HZ : Hid (M[k] = z) := hz
        rw [hy] at d0 d1
        rw [hz] at f0 f1
        clear hy hz c0 c1 e0 e1 hc hc'
        have hq1 := fun w x' y' => run_guard60 w x' y' y.t y.w z.t z.w
        have hq2 := fun w => run_neq60 w y.t y.w z.t z.w
        go_wp2
        go_quiet (fail)
        by_cases e : y = z
        · rw [show (!y.t == z.t || !y.w == z.w) = false by rw [e]; simp]
          go_wp2
          go_roundw
          case rel => exact ⟨k + 1, by omega, by go_num, HA.out y z HY.out HZ.out e, bel_drewN hb _⟩
          case measure => simp [intOf]; omega
        · rw [show (!y.t == z.t || !y.w == z.w) = true from ed_ne e]
          have HF : Hid (sameEs L M = false) := HB.out y z HY.out HZ.out e
          go_wp2
          go_ret
          exact ⟨by rw [HF.out]; rfl, bel_drewN hb _⟩
      · obtain rfl : k = L.length := by omega
        have HT : Hid (sameEs L M = true) := sameEs_all hlen (fun j h h' => HR.out j h h' h)
        go_wp2
        go_ret
        exact ⟨by rw [HT.out]; rfl, hb⟩
  · have HC : Hid (sameEs L M = false) := sameEs_len hlen
    have hne : ((L.length : Int) == (M.length : Int)) = false := by rw [beq_eq_false_iff_ne]; omega
    go_enter Try.func79, Try.ntmps79
    go_wp2
    go_ret
    exact ⟨by rw [HC.out]; rfl, Below.refl _ _⟩

set_option maxRecDepth 100000 in
set_option maxHeartbeats 1000000 in
theorem samevertex_any {w : World} {P Q : Nat → Prop} {ao bo : Option Addr} (x y : Vx) (ca cb : Nat) (hL : EdAt w P ao x.es) (hM : EdAt w Q bo y.es) (hl : x.es.length ≤ 9223372036854775807) :
    Calls Try.prog 52 #[.agg #[.int .i64 x.id, .int .i64 x.val, .slice ao x.es.length ca], .agg #[.int .i64 y.id, .int .i64 y.val, .slice bo y.es.length cb]] w fun r w' => r = .returned (.bool (sameVx x y)) ∧ Below w.heap.size w w' := by
  have hb2 := fun (o1 o2 : Obj) => b2 w o1 o2
  have hE := fun (o1 o2 : Obj) => equal_any ca cb (hL.new (hb2 o1 o2)) (hM.new (hb2 o1 o2)) hl
  by_cases h1 : x.id = y.id
  · by_cases h2 : x.val = y.val
    · have HV : Hid (sameVx x y = sameEs x.es y.es) := by show _ = _; unfold sameVx; rw [h1, h2]; simp
      go_enter Try.func52, Try.ntmps52
      go_wp2_with (go_at_call 79; refine (hE _ _).mono ?_; rintro r w1 ⟨rfl, hb1⟩)
      go_ret
      exact ⟨by rw [HV.out]; rfl, (b2 w _ _).trans (hb1.mono (by simp; omega))⟩
    · have HV : Hid (sameVx x y = false) := by show _ = _; unfold sameVx; simp [h2]
      have k2 : (x.val == y.val) = false := by rw [beq_eq_false_iff_ne]; exact h2
      go_enter Try.func52, Try.ntmps52
      go_wp2
      go_ret
      exact ⟨by rw [HV.out]; rfl, b2 w _ _⟩
  · have HV : Hid (sameVx x y = false) := by show _ = _; unfold sameVx; simp [h1]
    have k1 : (x.id == y.id) = false := by rw [beq_eq_false_iff_ne]; exact h1
    go_enter Try.func52, Try.ntmps52
    go_wp2
    go_ret
    exact ⟨by rw [HV.out]; rfl, b2 w _ _⟩

set_option maxRecDepth 100000 in
set_option maxHeartbeats 4000000 in
theorem equalfunc_n {w : World} {P Q : Nat → Prop} {ao bo : Option Addr} {L M : List Vx} (n ca cb : Nat) (hL : VxAt w P ao L) (hM : VxAt w Q bo M) (hl : n ≤ 9223372036854775807) (hok : ∀ v ∈ L, v.es.length ≤ 9223372036854775807) (HN : Hid (L.length = n)) (HM : Hid (M.length = n)) :
    Calls Try.prog 51 #[.slice ao n ca, .slice bo n cb, .func (.func 52) #[] #[]] w fun r w' => r = .returned (.bool (sameG L M)) ∧ Below w.heap.size w w' := by
  have hLL : Hid (VxAt w P ao L) := hL
  have hMM : Hid (VxAt w Q bo M) := hM
  clear hL hM
  go_enter Try.func51, Try.ntmps51
  go_wp2
  go_loopw [7, 8, 9, 17] (fun _ _ _ i wr => ∃ k : Nat, k ≤ n ∧ i = .int .i64 k ∧ Hid (∀ j (h : j < L.length) (h' : j < M.length), j < k → L[j] = M[j]) ∧ Below w.heap.size w wr) (fun _ _ _ i _ => n - (intOf i).toNat)
  case atStart => exact ⟨0, Nat.zero_le _, rfl, fun j _ _ hj => absurd hj (by omega), Below.refl _ _⟩
  case round =>
    obtain ⟨k, hk, rfl, HR, hb⟩ := hrel
    by_cases hlt : k < n
    · have hltL : k < L.length := by have := HN.out; omega
      have hltM : k < M.length := by have := HM.out; omega
      obtain ⟨b, off, rfl, hP, hc⟩ := hLL.out (by omega)
      obtain ⟨b', off', rfl, hP', hc'⟩ := hMM.out (by omega)
      obtain ⟨eo, ec, c0, c1, c2, c3⟩ := hc k hltL
      obtain ⟨fo, fc, e0, e1, e2, e3⟩ := hc' k hltM
      have hbb := lt_cell e0
      have hbw : b' < wr.heap.size := Nat.lt_of_lt_of_le hbb hb.size
      have d0 := (hb.cell (p := ⟨b, off + k * 3, none⟩) (lt_cell c0)).trans c0
      have d1 := (hb.cell (p := ⟨b, off + k * 3 + 1, none⟩) (lt_cell c0)).trans c1
      have d2 := (hb.cell (p := ⟨b, off + k * 3 + 2, none⟩) (lt_cell c0)).trans c2
      have f0 := (hb.cell (p := ⟨b', off' + k * 3, none⟩) (lt_cell e0)).trans e0
      have f1 := (hb.cell (p := ⟨b', off' + k * 3 + 1, none⟩) (lt_cell e0)).trans e1
      have f2 := (hb.cell (p := ⟨b', off' + k * 3 + 2, none⟩) (lt_cell e0)).trans e2
      have d3 := c3.new hb
      have f3 := e3.new hb
      have HA : Hid (∀ y z, L[k] = y → M[k] = z → y = z → ∀ j (h : j < L.length) (h' : j < M.length), j < k + 1 → L[j] = M[j]) := fun y z hy hz e => step_all hltL hltM hy hz e HR.out
      have HB : Hid (∀ y z, L[k] = y → M[k] = z → y ≠ z → sameG L M = false) := fun y z hy hz e => sameG_at hltL hltM (by rw [hy, hz]; exact e)
      have hle := hok _ (List.getElem_mem hltL)
      obtain ⟨y, hy⟩ : ∃ y, L[k] = y := ⟨_, rfl⟩
      obtain ⟨z, hz⟩ : ∃ z, M[k] = z := ⟨_, rfl⟩
      have HY : Hid (L[k] = y) := hy
      have HZ : Hid (M[k] = z) := hz
      rw [hy] at d0 d1 d2 d3 hle
      rw [hz] at f0 f1 f2 f3
      clear hy hz c0 c1 c2 c3 e0 e1 e2 e3 hc hc'
      have hS := fun (o1 o2 : Obj) => samevertex_any (w := (wr.alloc o1).alloc o2) y z ec fc (d3.new (b2 wr o1 o2)) (f3.new (b2 wr o1 o2)) hle
      by_cases e : y = z
      · simp only [(sameVx_iff y z).2 e] at hS
        have HE : Hid (y = z) := e
        clear e
        go_wp2_with (go_at_call 52; refine (hS _ _).mono ?_; rintro r w1 ⟨rfl, hb1⟩)
        go_roundw
        case rel => exact ⟨k + 1, by omega, by go_num, HA.out y z HY.out HZ.out HE.out, hb.trans (((b2 wr _ _).trans (hb1.mono (by simp; omega))).mono hb.size)⟩
        case measure => simp [intOf]; omega
      · have hv : sameVx y z = false := by rw [Bool.eq_false_iff]; exact fun h => e ((sameVx_iff y z).1 h)
        simp only [hv] at hS
        have HF : Hid (sameG L M = false) := HB.out y z HY.out HZ.out e
        clear e hv
        go_wp2_with (go_at_call 52; refine (hS _ _).mono ?_; rintro r w1 ⟨rfl, hb1⟩)
        go_ret
        exact ⟨by rw [HF.out]; rfl, hb.trans (((b2 wr _ _).trans (hb1.mono (by simp; omega))).mono hb.size)⟩
    · obtain rfl : k = n := by omega
      have HT : Hid (sameG L M = true) := sameG_all (HN.out.trans HM.out.symm) (fun j h h' => HR.out j h h' (by rw [← HN.out]; exact h))
      go_wp2
      go_ret
      exact ⟨by rw [HT.out]; rfl, hb⟩
set_option maxRecDepth 100000 in
theorem equalfunc_any {w : World} {P Q : Nat → Prop} {ao bo : Option Addr} {L M : List Vx} (ca cb : Nat) (hL : VxAt w P ao L) (hM : VxAt w Q bo M) (hl : L.length ≤ 9223372036854775807) (hok : ∀ v ∈ L, v.es.length ≤ 9223372036854775807) :
    Calls Try.prog 51 #[.slice ao L.length ca, .slice bo M.length cb, .func (.func 52) #[] #[]] w fun r w' => r = .returned (.bool (sameG L M)) ∧ Below w.heap.size w w' := by
  by_cases hlen : L.length = M.length
  · rw [← hlen]
    exact equalfunc_n L.length ca cb hL hM hl hok rfl hlen.symm
  · have HC : Hid (sameG L M = false) := sameG_len hlen
    have hne : ((L.length : Int) == (M.length : Int)) = false := by rw [beq_eq_false_iff_ne]; omega
    go_enter Try.func51, Try.ntmps51
    go_wp2
    go_ret
    exact ⟨by rw [HC.out]; rfl, Below.refl _ _⟩

set_option maxRecDepth 100000 in
theorem same_any {w : World} {P Q : Nat → Prop} {ao bo : Option Addr} {L M : List Vx} (ca cb : Nat) (hL : VxAt w P ao L) (hM : VxAt w Q bo M) (hl : L.length ≤ 9223372036854775807) (hok : ∀ v ∈ L, v.es.length ≤ 9223372036854775807) :
    Calls Try.prog 21 #[.agg #[.slice ao L.length ca], .agg #[.slice bo M.length cb]] w fun r w' => r = .returned (.bool (sameG L M)) ∧ Below w.heap.size w w' := by
  have hE := fun (o1 o2 : Obj) => equalfunc_any ca cb (hL.new (b2 w o1 o2)) (hM.new (b2 w o1 o2)) hl hok
  clear hok
  go_enter Try.func21, Try.ntmps21
  go_wp2_with (go_at_call 51; refine (hE _ _).mono ?_; rintro r w1 ⟨rfl, hb1⟩)
  go_ret
  exact ⟨rfl, (b2 w _ _).trans (hb1.mono (by simp; omega))⟩
end Go.Proofs.Ythnhmhjcpdomcaa
end

section
/- Requests appended onto a row of one's own, as one operation; Apply and Same over lengths in letters. -/
namespace Go.Proofs.Ythnhmhjcpdomcaa
open Go.RowKit Go.Sort
theorem run_append_none {P : Program} (w : World) (t ty e : TypeId) (i : TypeInfo) (ht : P.underlying t = some (.slice e)) (hi : P.info? e = some i) (base bo : Option Addr) (n c c2 : Nat) (hle : n ≤ c) :
    (Builtin.append_ #[t, t] ty #[.slice base n c, .slice bo 0 c2]).run P w = .ok (.slice base n c) w := by
  cases base <;> cases bo <;> simp [Builtin.append_, run_underlying ht, sizeOf, typeInfo, hi, hle, storeCells, loadCells, loadCellsFrom, Builtin.lenOf, Builtin.firstCells]
theorem mus_one (E : List Mu) : ∀ u ∈ E.flatMap muCells, u.oneCell' = true := by
  intro u hu
  obtain ⟨y, _, h⟩ := List.mem_flatMap.1 hu
  exact muOne y u h
theorem op_appendU {o : Oper} {a : Act} {w : World} {K : Act → World → Prop} {Q : Exit → Act → World → Prop} {R : Nat → Prop} {s x : Operand} (hop : o.op = .call { callee := .builtin .append, args := #[s, x], argTypes := #[35, 35] })
    (base : Nat) (v : Value) (D E : List Mu) {bo : Option Addr} {c m : Nat} (hs : a.eval s = v) (hown : UO w base v D) (hm : m = E.length) (hx : a.eval x = .slice bo m c) (hE : UsAt w R bo E) (h63 : D.length + E.length ≤ 1000000) (hbase : base ≤ w.heap.size)
    (h : ∀ v' w', UO w' base v' (D ++ E) → w.grownBy w' v.ownBlock → (v'.ownBlock = v.ownBlock ∨ v'.ownBlock = some w.heap.size) → K (a.put o.dst v') w') : o.wp Try.prog a w K Q := by
  obtain ⟨i0, hi, hz0, hz1, hz2⟩ := info_parts infoMu
  subst hm
  by_cases hl : 0 < E.length
  · obtain ⟨b, off, rfl, _⟩ := hE hl
    obtain ⟨v', w', hr, h2, h3, _, h5⟩ := run_append_own_at (P := Try.prog) w base 35 o.type 38 i0 (.agg #[.int .i64 0, .int .i64 0, .int .i64 0, .int .i64 0]) 4 32 Try.underlying35 hi hz0 hz1 hz2 rfl (by decide) v D.length (D.flatMap muCells) hown ⟨b, off, none⟩ E.length c (E.flatMap muCells) (mu_len E) hE.flat (mus_one E) (by unfold maxLen; omega) (by omega) hbase
    unfold Oper.wp execOp
    simp only [hop, resolve, invoke, builtin, Sem.run_bind, Sem.run_pure, Result.andThen_ok, List.map_toArray, List.map_cons, List.map_nil, hs, hx, hr]
    refine h v' w' ?_ h3 h5
    unfold UO
    rw [List.length_append, List.flatMap_append]
    exact h2
  · have e0 : E = [] := List.length_eq_zero_iff.1 (by omega)
    subst e0
    have hle : ∃ so n cc, v = .slice so n cc ∧ n ≤ cc := by
      rcases hown.2 with ⟨h1, _⟩ | ⟨g, cap, cur, h1, _, _, hn, _⟩
      · exact ⟨_, _, _, h1, Nat.le_refl _⟩
      · exact ⟨_, _, _, h1, hn⟩
    obtain ⟨so, n, cc, rfl, hle⟩ := hle
    have hr := run_append_none (P := Try.prog) w 35 o.type 38 i0 Try.underlying35 hi so bo n cc c hle
    unfold Oper.wp execOp
    simp only [hop, resolve, invoke, builtin, Sem.run_bind, Sem.run_pure, Result.andThen_ok, List.map_toArray, List.map_cons, List.map_nil, hs, hx, List.length_nil, hr]
    refine h _ _ ?_ (World.grownBy.refl _ _) (.inl rfl)
    rw [List.append_nil]
    exact hown
theorem apply_nv {w : World} {P Q : Nat → Prop} {ao bo : Option Addr} (G : List Vx) (cap : Nat) (L : List Mu) (cap2 : Nat) {gn n : Nat} (hgn : gn = G.length) (hn : n = L.length) (hG : VxAt w P ao G) (hok : ∀ v ∈ G, v.ok) (hf : Fine G) {N : Nat} (hu : Up N G) (hN : N + n ≤ 1073741824) (hL : UsAt w Q bo L) (hk : ∀ m ∈ L, 1 ≤ m.k ∧ m.k ≤ 4) {AG : List Vx} {an : Nat} (hA : appG G L = (AG, an)) :
    Calls Try.prog 16 #[.agg #[.slice ao gn cap], .slice bo n cap2] w fun r w' => ∃ so sc, r = .returned (.tuple #[.agg #[.slice so AG.length sc], .int .i64 an]) ∧ VxAt w' (fun k => w.heap.size ≤ k ∧ k < w'.heap.size) so AG ∧ Below w.heap.size w w' := by
  subst hn hgn
  refine (apply_any G cap L cap2 hG hok hf hu hN hL hk).mono ?_
  rintro r w' ⟨sv, M, rfl, h1, h2, h3⟩
  obtain ⟨so, sc, rfl, hV⟩ := h2.at_
  rw [hA] at h1 ⊢
  simp only at h1 ⊢
  rw [h1] at hV
  have hl : M.length = AG.length := by rw [← h1, List.length_map]
  rw [hl]
  exact ⟨so, sc, rfl, hV.kept (Fr.refl _ (fun _ => False)) (fun k hk hp => ⟨fun h => h, hp, hk⟩), h3⟩
theorem same_nv {w : World} {P Q : Nat → Prop} {ao bo : Option Addr} {L : List Vx} (ca cb : Nat) (hL : VxAt w P ao L) (hM : VxAt w Q bo L) (hl : L.length ≤ 9223372036854775807) (hok : ∀ v ∈ L, v.es.length ≤ 9223372036854775807) :
    Calls Try.prog 21 #[.agg #[.slice ao L.length ca], .agg #[.slice bo L.length cb]] w fun r w' => r = .returned (.bool true) ∧ Below w.heap.size w w' := by
  have h := same_any ca cb hL hM hl hok
  rw [(sameG_iff L L).2 rfl] at h
  exact h
end Go.Proofs.Ythnhmhjcpdomcaa
end

section
/- The law's own call: an edge is put in. -/
namespace Go.Proofs.Ythnhmhjcpdomcaa
open Go.RowKit Go.Sort
theorem aw_app : appG [⟨1, 0, []⟩, ⟨2, 0, []⟩] [⟨4, 1, 2, 5⟩] = ([⟨1, 0, [⟨2, 5⟩]⟩, ⟨2, 0, []⟩], 1) := by
  unfold appG thatC
  rw [sortU_one]
  rfl
theorem aw_fine : Fine [⟨1, 0, []⟩, ⟨2, 0, []⟩] := ⟨by decide, by intro v hv; simp at hv; rcases hv with rfl | rfl <;> exact List.Pairwise.nil⟩
theorem aw_graph {W : World} {b : Nat} {t : TypeId} {f : Nat × Nat} (h : W.heap[b]? = some (.cells #[.int .i64 1, .int .i64 0, .slice none 0 0, .int .i64 2, .int .i64 0, .slice none 0 0] t f)) : VxAt W (fun _ => True) (some ⟨b, 0, none⟩) [⟨1, 0, []⟩, ⟨2, 0, []⟩] := by
  intro _
  refine ⟨b, 0, rfl, trivial, fun j hj => ?_⟩
  match j, hj with
  | 0, _ => exact ⟨none, 0, by simp [World.cell?, h], by simp [World.cell?, h], by simp [World.cell?, h], fun hp => absurd hp (by simp)⟩
  | 1, _ => exact ⟨none, 0, by simp [World.cell?, h], by simp [World.cell?, h], by simp [World.cell?, h], fun hp => absurd hp (by simp)⟩
theorem aw_list {W : World} {b : Nat} {t : TypeId} {f : Nat × Nat} (h : W.heap[b]? = some (.cells #[.int .i64 4, .int .i64 1, .int .i64 2, .int .i64 5] t f)) : UsAt W (fun _ => True) (some ⟨b, 0, none⟩) [⟨4, 1, 2, 5⟩] := by
  intro _
  refine ⟨b, 0, rfl, trivial, fun j hj => ?_⟩
  match j, hj with
  | 0, _ => exact ⟨by simp [World.cell?, h], by simp [World.cell?, h], by simp [World.cell?, h], by simp [World.cell?, h]⟩
theorem aw_ok : ∀ v ∈ ([⟨1, 0, []⟩, ⟨2, 0, []⟩] : List Vx), v.ok := by
  intro v hv
  simp at hv
  rcases hv with rfl | rfl <;> exact ⟨⟨by decide, by decide⟩, ⟨by decide, by decide⟩, fun e he => (by cases he), by decide⟩
theorem aw_call {w : World} {a b : Nat} {t t' : TypeId} {f f' : Nat × Nat} (h : w.heap[a]? = some (.cells #[.int .i64 1, .int .i64 0, .slice none 0 0, .int .i64 2, .int .i64 0, .slice none 0 0] t f)) (h' : w.heap[b]? = some (.cells #[.int .i64 4, .int .i64 1, .int .i64 2, .int .i64 5] t' f')) :
    Calls Try.prog 16 #[.agg #[.slice (some ⟨a, 0, none⟩) 2 2], .slice (some ⟨b, 0, none⟩) 1 1] w fun r w' => ∃ so c, r = .returned (.tuple #[.agg #[.slice so 2 c], .int .i64 1]) ∧ VxAt w' (fun _ => True) so [⟨1, 0, [⟨2, 5⟩]⟩, ⟨2, 0, []⟩] ∧ Below w.heap.size w w' := by
  refine (apply_any (w := w) [⟨1, 0, []⟩, ⟨2, 0, []⟩] 2 [⟨4, 1, 2, 5⟩] 1 (aw_graph h) aw_ok aw_fine (N := 2) ⟨by decide, by intro v hv; simp at hv; rcases hv with rfl | rfl <;> decide⟩ (by decide) (aw_list h') (by intro m hm; simp at hm; subst hm; decide)).mono ?_
  rintro r w' ⟨sv, M, rfl, h1, h2, h3⟩
  rw [aw_app] at h1 ⊢
  obtain ⟨ao, c, rfl, hV⟩ := h2.at_
  have hl : M.length = 2 := by have := congrArg List.length h1; simpa using this
  rw [h1] at hV
  rw [hl]
  exact ⟨ao, c, rfl, hV.mono (fun _ _ _ => trivial), h3⟩
set_option maxRecDepth 100000 in
theorem awake6 (w : World) : Calls Try.prog 15 #[] w fun r w' => r = .returned (.bool true) ∧ Below w.heap.size w w' := by
  obtain ⟨W0, hW0⟩ : ∃ W0, (w.alloc (.cells #[.int .i64 1, .int .i64 0, .slice none 0 0, .int .i64 2, .int .i64 0, .slice none 0 0] 84)).alloc (.cells #[.int .i64 4, .int .i64 1, .int .i64 2, .int .i64 5] 38) = W0 := ⟨_, rfl⟩
  have hb0 : Below w.heap.size w W0 := by rw [← hW0]; exact b2 _ _ _
  have hg0 : W0.heap[w.heap.size]? = some (.cells #[.int .i64 1, .int .i64 0, .slice none 0 0, .int .i64 2, .int .i64 0, .slice none 0 0] 84 (0, 0)) := by rw [← hW0]; exact (Below.heap_alloc _ _ _ (by simp)).trans (heap_alloc_new _ _)
  have hr0 : W0.heap[w.heap.size + 1]? = some (.cells #[.int .i64 4, .int .i64 1, .int .i64 2, .int .i64 5] 38 (0, 0)) := by
    have := heap_alloc_new (w.alloc (.cells #[.int .i64 1, .int .i64 0, .slice none 0 0, .int .i64 2, .int .i64 0, .slice none 0 0] 84)) (.cells #[.int .i64 4, .int .i64 1, .int .i64 2, .int .i64 5] 38)
    rw [World.size_alloc, hW0] at this
    exact this
  have HG : Hid _ := hg0
  have HR : Hid _ := hr0
  have HB : Hid _ := hb0
  have HE : Hid (sumE [⟨1, 0, [⟨2, 5⟩]⟩, ⟨2, 0, []⟩] = 1) := by show _ = _; simp [sumE, wrap64]
  clear hg0 hr0 hb0
  go_enter Try.func15, Try.ntmps15
  go_wp2_with (first
    | (go_at_call 16; refine (aw_call (w := W0) HG.out HR.out).mono ?_; rintro r w1 ⟨so, c, rfl, hv, hb1⟩; have HV : Hid _ := hv; have HB1 : Hid _ := hb1; clear hv hb1)
    | (go_at_call 41; refine (edges_any (G := [⟨1, 0, [⟨2, 5⟩]⟩, ⟨2, 0, []⟩]) c (VxAt.new HV.out (one_new _ _)) (by decide)).mono ?_; rw [HE.out]; rintro r w2 ⟨rfl, hb2⟩; have HB2 : Hid _ := hb2; clear hb2))
  go_ret
  refine ⟨rfl, ?_⟩
  have h1 := HB.out.trans (HB1.out.mono HB.out.size)
  exact (h1.alloc h1.size _).trans (HB2.out.mono (by have := (h1.alloc h1.size (.cells #[.slice so 2 c] 24)).size; exact this))
end Go.Proofs.Ythnhmhjcpdomcaa
end

section
/- What the document's Edges, Find and Check return. -/
namespace Go.Proofs.Ythnhmhjcpdomcaa
open Go.RowKit

set_option maxRecDepth 100000 in
theorem refedges_any {w : World} {P : Nat → Prop} {ao : Option Addr} {G : List Vx} (cap : Nat) (h : VxAt w P ao G) (hl : G.length ≤ 9223372036854775807) :
    Calls Try.prog 43 #[.slice ao G.length cap] w fun r w' => r = .returned (.int .i64 (sumE G)) ∧ Below w.heap.size w w' := by
  go_enter Try.func43, Try.ntmps43
  go_wp2
  go_loopw [3, 4] (fun n i wr => ∃ (k : Nat), k ≤ G.length ∧ i = .int .i64 k ∧ n = .int .i64 (sumE (G.take k)) ∧ Below w.heap.size w wr) (fun _ i _ => G.length - (intOf i).toNat)
  case atStart => exact ⟨0, Nat.zero_le _, rfl, rfl, Below.refl _ _⟩
  case round =>
    obtain ⟨k, hk, rfl, rfl, hb⟩ := hrel
    by_cases hlt : k < G.length
    · obtain ⟨b, off, rfl, hP, hc⟩ := h (by omega)
      obtain ⟨eo, ec, c0, c1, c2, _⟩ := hc k hlt
      have hbb := lt_cell c0
      have d2 := (hb.cell (p := ⟨b, off + k * 3 + 2, none⟩) hbb).trans c2
      have HS : Hid _ := sumE_snoc G k hlt
      clear c0 c1 c2 hc
      generalize G[k] = y at d2 HS
      go_wp2
      go_roundw
      case rel => exact ⟨k + 1, by omega, by go_num, by rw [HS.out], hb⟩
      case measure => simp [intOf]; omega
    · obtain rfl : k = G.length := by omega
      go_wp2
      go_ret
      exact ⟨by rw [List.take_length]; rfl, hb⟩
theorem findN_from {l : List Int} {x : Int} {k : Nat} (hk : k ≤ l.length) (h1 : ∀ j (h : j < l.length), j < k → l[j] < x) (h2 : ∀ h : k < l.length, ¬ l[k] < x) : findN l x = k := by
  have hle := findN_le l x
  rcases Nat.lt_trichotomy (findN l x) k with h | h | h
  · exact absurd (h1 _ (by omega) h) (findN_stop l x (by omega))
  · exact h
  · obtain ⟨h', h''⟩ := findN_lt l x k h
    exact absurd h'' (h2 h')

set_option maxRecDepth 100000 in
set_option maxHeartbeats 1000000 in
theorem reffind_any {w : World} {P : Nat → Prop} {ao : Option Addr} {G : List Vx} (cap : Nat) (x : Int) (h : VxAt w P ao G) (hl : G.length ≤ 9223372036854775807) :
    Calls Try.prog 35 #[.slice ao G.length cap, .int .i64 x] w fun r w' => r = .returned (.tuple #[.int .i64 (findN (ids G) x), .bool (foundB (ids G) x)]) ∧ Below w.heap.size w w' := by
  go_enter Try.func35, Try.ntmps35
  go_wp2
  go_loopw [6] (fun i wr => ∃ (k : Nat), k ≤ G.length ∧ i = .int .i64 k ∧ Hid (∀ j (h : j < (ids G).length), j < k → (ids G)[j] < x) ∧ Below w.heap.size w wr) (fun i _ => G.length - (intOf i).toNat)
  case atStart => exact ⟨0, Nat.zero_le _, rfl, fun j _ hj => absurd hj (by omega), Below.refl _ _⟩
  case round =>
    obtain ⟨k, hk, rfl, HR, hb⟩ := hrel
    by_cases hlt : k < G.length
    · obtain ⟨b, off, rfl, hP, hc⟩ := h (by omega)
      obtain ⟨eo, ec, c0, c1, c2, _⟩ := hc k hlt
      have hbb := lt_cell c0
      have d0 := (hb.cell (p := ⟨b, off + k * 3, none⟩) hbb).trans c0
      have HG : Hid ((ids G)[k]'(by rw [ids_len]; exact hlt) = G[k].id) := ids_get G k hlt
      clear c0 c1 c2 hc
      generalize G[k] = y at d0 HG
      by_cases hy : y.id < x
      · go_wp2
        go_roundw
        case rel => exact ⟨k + 1, by omega, by go_num, (fun j hj hjk => by
          by_cases e : j = k
          · subst e; rw [HG.out]; exact hy
          · exact HR.out j hj (by omega)), hb⟩
        case measure => simp [intOf]; omega
      · have HF : Hid (findN (ids G) x = k) := findN_from (by rw [ids_len]; exact hk) HR.out (fun h => by rw [HG.out]; exact hy)
        have HB : Hid (foundB (ids G) x = (y.id == x)) := by
          show _ = _
          unfold foundB
          rw [HF.out, List.getElem?_eq_getElem (by rw [ids_len]; exact hlt), HG.out]
          rfl
        go_wp2
        go_quiet (fail)
        go_wp2
        go_ret2
        exact ⟨by rw [HF.out, HB.out]; rfl, bel_drewN hb _⟩
    · have HF : Hid (findN (ids G) x = k) := findN_from (by rw [ids_len]; exact hk) HR.out (fun h => by rw [ids_len] at h; exact absurd h hlt)
      have HB : Hid (foundB (ids G) x = false) := by
        show _ = _
        unfold foundB
        rw [HF.out, List.getElem?_eq_none (by rw [ids_len]; omega)]; rfl
      have hd : decide ((k : Int) < (G.length : Int)) = false := by rw [decide_eq_false_iff_not]; omega
      go_wp2
      go_quiet (fail)
      go_wp2
      go_ret2
      exact ⟨by rw [HF.out, HB.out]; rfl, bel_drewN hb _⟩
end Go.Proofs.Ythnhmhjcpdomcaa
end

section
/- What the document's Check returns. -/
namespace Go.Proofs.Ythnhmhjcpdomcaa
open Go.RowKit
/-- A vertex's edges rise, and their ends are there. -/
def GoodE (G : List Vx) (L : List Ed) (n : Nat) : Prop := (∀ j (h : j < L.length), j < n → (ids G).contains L[j].t = true) ∧ ∀ j (h : j + 1 < L.length), j + 1 < n → L[j].t < L[j + 1].t
theorem good_all {G : List Vx} (H : ∀ j (h : j < G.length), GoodE G G[j].es G[j].es.length) : risesE G = true ∧ thereE G = true := by
  constructor
  · refine risesE_all (fun j hj => (riseB_iff _).2 (fun i hi => ?_))
    have := (H j hj).2 i (by rw [ends_len] at hi; exact hi) (by rw [ends_len] at hi; exact hi)
    rw [ends_get _ _ (by rw [ends_len] at hi; omega), ends_get _ _ (by rw [ends_len] at hi; exact hi)]
    exact this
  · unfold thereE
    rw [List.all_eq_true]
    intro v hv
    obtain ⟨j, hj, rfl⟩ := List.getElem_of_mem hv
    rw [List.all_eq_true]
    intro e he
    obtain ⟨i, hi, rfl⟩ := List.getElem_of_mem he
    exact (H j hj).1 i hi hi
theorem bad_there {G : List Vx} {j i : Nat} (hj : j < G.length) (hi : i < G[j].es.length) (h : (ids G).contains G[j].es[i].t = false) : thereE G = false := by
  unfold thereE
  rw [Bool.eq_false_iff]
  intro ha
  rw [List.all_eq_true] at ha
  have h1 := ha _ (List.getElem_mem hj)
  rw [List.all_eq_true] at h1
  have h2 := h1 _ (List.getElem_mem hi)
  rw [h] at h2
  cases h2
theorem bad_rise {G : List Vx} {j i : Nat} (hj : j < G.length) (hi : i + 1 < G[j].es.length) (h : ¬ G[j].es[i].t < G[j].es[i + 1].t) : risesE G = false := by
  refine risesE_at hj (rise_false (j := i) (by rw [ends_len]; exact hi) ?_)
  rw [ends_get _ _ (by omega), ends_get _ _ hi]
  exact h

set_option maxRecDepth 100000 in
set_option maxHeartbeats 2000000 in
theorem refcheck_any {w : World} {P : Nat → Prop} {ao : Option Addr} {G : List Vx} (cap : Nat) (h : VxAt w P ao G) (hl : G.length ≤ 9223372036854775807) (hok : ∀ v ∈ G, v.ok) :
    Calls Try.prog 14 #[.slice ao G.length cap] w fun r w' => r = .returned (.int .i64 (chk G)) ∧ Below w.heap.size w w' := by
  by_cases hlen : 256 < G.length
  · have HC : Hid (chk G = 30) := if_pos (Or.inl hlen)
    go_enter Try.func14, Try.ntmps14
    go_wp2
    go_ret
    exact ⟨by rw [HC.out]; rfl, Below.refl _ _⟩
  · have HV : Hid (VxAt w P ao G) := h
    have HO : Hid (∀ v ∈ G, v.ok) := hok
    clear h hok
    go_enter Try.func14, Try.ntmps14
    go_wp2
    go_loopw [3] (fun i wr => ∃ (k : Nat), 1 ≤ k ∧ k ≤ max G.length 1 ∧ i = .int .i64 k ∧ Hid (∀ j (h : j + 1 < (ids G).length), j + 1 < k → (ids G)[j] < (ids G)[j + 1]) ∧ Below w.heap.size w wr) (fun i _ => G.length - (intOf i).toNat)
    case atStart => exact ⟨1, Nat.le_refl _, by omega, rfl, fun j _ hj => absurd hj (by omega), Below.refl _ _⟩
    case round =>
      obtain ⟨k, hk1, hk, rfl, HR, hb⟩ := hrel
      by_cases hlt : k < G.length
      · obtain ⟨b, off, rfl, hP, hc⟩ := HV.out (by omega)
        obtain ⟨m, HK⟩ : ∃ m, Hid (k = m + 1) := ⟨k - 1, (by omega : k = k - 1 + 1)⟩
        have hmk : k = m + 1 := HK.out
        have hm0 : m < G.length := by omega
        obtain ⟨eo, ec, c0, _, _, _⟩ := hc m hm0
        obtain ⟨fo, fc, f0, _, _, _⟩ := hc k hlt
        have hbb := lt_cell c0
        have d0 := (hb.cell (p := ⟨b, off + m * 3, none⟩) hbb).trans c0
        have g0 := (hb.cell (p := ⟨b, off + k * 3, none⟩) hbb).trans f0
        have HM : Hid ((ids G)[m]'(by rw [ids_len]; omega) = G[m].id) := ids_get G m hm0
        have HN : Hid ((ids G)[k]'(by rw [ids_len]; omega) = G[k].id) := ids_get G k hlt
        have hm1 : IntKind.i64.wrap ((k : Int) - 1) = m := by rw [IntKind.wrap_i64]; omega
        have hm2 : wrap64 ((k : Int) - 1) = m := by unfold wrap64; omega
        clear c0 f0 hc hmk
        generalize G[m] = y at d0 HM
        generalize G[k] = z at g0 HN
        go_wp2
        go_quiet (fail)
        by_cases hr : z.id ≤ y.id
        · have HC : Hid (chk G = 30) := if_pos (Or.inr (rise_at HK.out (by rw [ids_len]; exact hlt) HM.out HN.out hr))
          go_wp2
          go_ret
          exact ⟨by rw [HC.out]; rfl, bel_drewN hb _⟩
        · go_wp2
          go_roundw
          case rel => exact ⟨k + 1, by omega, by omega, by go_num, rise_step HK.out (by rw [ids_len]; exact hlt) HM.out HN.out (by omega) HR.out, bel_drewN hb _⟩
          case measure => simp [intOf]; omega
      · have HRi : Hid (Rise (ids G)) := fun j hj => HR.out j hj (by rw [ids_len] at hj; omega)
        have HRb : Hid (riseB (ids G) = true) := (riseB_iff _).2 HRi.out
        have HC : Hid (chk G = if 2048 < sumE G ∨ risesE G = false ∨ thereE G = false then 31 else 0) := if_neg (by rw [HRb.out]; simp; omega)
        have HVr : Hid (VxAt wr P ao G) := HV.out.new hb
        have hE := refedges_any cap HVr.out hl
        by_cases hs : 2048 < sumE G
        · go_wp2_with (go_at_call 43; refine hE.mono ?_; rintro r w1 ⟨rfl, hb1⟩)
          go_ret
          exact ⟨by rw [HC.out, if_pos (Or.inl hs)]; rfl, hb.trans (hb1.mono hb.size)⟩
        · go_wp2_with (go_at_call 43; refine hE.mono ?_; rintro r w1 ⟨rfl, hb1⟩)
          have hbA : Below w.heap.size w w1 := hb.trans (hb1.mono hb.size)
          have HVA : Hid (VxAt w1 P ao G) := HVr.out.new hb1
          clear hE hb1
          go_loopw [4, 5, 6, 7, 8] (fun i _ _ _ _ wx => ∃ (j : Nat), j ≤ G.length ∧ i = .int .i64 j ∧ Hid (∀ q (h : q < G.length), q < j → GoodE G G[q].es G[q].es.length) ∧ Below w.heap.size w wx) (fun i _ _ _ _ _ => G.length - (intOf i).toNat)
          case atStart => exact ⟨0, Nat.zero_le _, rfl, fun q _ hq => absurd hq (by omega), hbA⟩
          case round =>
            obtain ⟨j, hj, rfl, HQ, hbx⟩ := hrel
            by_cases hjl : j < G.length
            · obtain ⟨b, off, rfl, hP, hc⟩ := HV.out (by omega)
              obtain ⟨eo, ec, e0, e1, e2, e3⟩ := hc j hjl
              have hbb := lt_cell e0
              have d2 := (hbx.cell (p := ⟨b, off + j * 3 + 2, none⟩) hbb).trans e2
              have HE : Hid (EdAt w P eo G[j].es) := e3
              have hel : G[j].es.length ≤ 9223372036854775807 := Nat.le_trans (HO.out _ (List.getElem_mem hjl)).len (by decide)
              have HB1 : Hid (∀ y, G[j] = y → ∀ i (h : i < y.es.length), (ids G).contains y.es[i].t = false → thereE G = false) := fun y e i hi hcn => by subst e; exact bad_there hjl hi hcn
              have HB2 : Hid (∀ y, G[j] = y → ∀ i (h : i + 1 < y.es.length), ¬ y.es[i].t < y.es[i + 1].t → risesE G = false) := fun y e i hi hcn => by subst e; exact bad_rise hjl hi hcn
              have HB3 : Hid (∀ y, G[j] = y → GoodE G y.es y.es.length → ∀ q (h : q < G.length), q < j + 1 → GoodE G G[q].es G[q].es.length) := fun y e hg q hq hqj => by
                by_cases eq : q = j
                · subst eq; rw [e]; exact hg
                · exact HQ.out q hq (by omega)
              obtain ⟨y, hy⟩ : ∃ y, G[j] = y := ⟨_, rfl⟩
              have HY : Hid (G[j] = y) := hy
              rw [hy] at d2 HE hel
              clear hy e0 e1 e2 e3 hc
              go_wp2
              go_loopw [6, 7, 8] (fun i _ _ wx => ∃ (k : Nat), k ≤ y.es.length ∧ i = .int .i64 k ∧ Hid (GoodE G y.es k) ∧ Below w.heap.size w wx) (fun i _ _ _ => y.es.length - (intOf i).toNat)
              case atStart => exact ⟨0, Nat.zero_le _, rfl, ⟨fun q _ hq => absurd hq (by omega), fun q _ hq => absurd hq (by omega)⟩, hbx⟩
              case round =>
                obtain ⟨k, hk, rfl, HD, hby⟩ := hrel
                by_cases hkl : k < y.es.length
                · obtain ⟨eb, eoff, rfl, hPe, hce⟩ := HE.out (by omega)
                  have f0 := (hby.cell (p := ⟨eb, eoff + k * 2, none⟩) (lt_cell (hce k hkl).1)).trans (hce k hkl).1
                  have hF := reffind_any cap y.es[k].t (HV.out.new hby) hl
                  have HP1 : Hid (foundB (ids G) y.es[k].t = (ids G).contains y.es[k].t) := foundB_iff HRi.out _
                  have HN : Hid (∀ z, y.es[k] = z → (ids G).contains z.t = false → thereE G = false) := fun z e hcn => HB1.out y HY.out k hkl (by rw [e]; exact hcn)
                  cases hfb : foundB (ids G) y.es[k].t with
                  | false =>
                    rw [hfb] at hF HP1
                    have HT : Hid (thereE G = false) := HB1.out y HY.out k hkl HP1.out.symm
                    clear hfb hce
                    generalize y.es[k] = z at f0 hF
                    go_wp2_with (go_at_call 35; refine hF.mono ?_; rintro r w2 ⟨rfl, hb2⟩)
                    go_quiet (fail)
                    go_wp2
                    go_ret
                    exact ⟨by rw [HC.out, if_pos (Or.inr (Or.inr HT.out))]; rfl, bel_drewN (hby.trans (hb2.mono hby.size)) _⟩
                  | true =>
                    rw [hfb] at hF HP1
                    by_cases hk0 : k = 0
                    · have HG : Hid (GoodE G y.es (k + 1)) := ⟨fun q hq hqk => by
                        obtain rfl : q = k := by omega
                        exact HP1.out.symm, fun q _ hq => absurd hq (by omega)⟩
                      have hd : decide (0 < k) = false := by rw [decide_eq_false_iff_not]; omega
                      clear hfb hce hk0
                      generalize y.es[k] = z at f0 hF
                      go_wp2_with (go_at_call 35; refine hF.mono ?_; rintro r w2 ⟨rfl, hb2⟩)
                      go_quiet (fail)
                      go_wp2
                      go_roundw
                      case rel => exact ⟨k + 1, by omega, by go_num, HG.out, bel_drewN (hby.trans (hb2.mono hby.size)) _⟩
                      case measure => simp [intOf]; omega
                    · obtain ⟨m, HK⟩ : ∃ m, Hid (k = m + 1) := ⟨k - 1, (by omega : k = k - 1 + 1)⟩
                      have hmk : k = m + 1 := HK.out
                      have hm0 : m < y.es.length := by omega
                      have g0 := (hby.cell (p := ⟨eb, eoff + m * 2, none⟩) (lt_cell (hce m hm0).1)).trans (hce m hm0).1
                      have hm1 : IntKind.i64.wrap ((k : Int) - 1) = m := by rw [IntKind.wrap_i64]; omega
                      have hm2 : wrap64 ((k : Int) - 1) = m := by unfold wrap64; omega
                      have hpos : decide (0 < k) = true := by rw [decide_eq_true_iff]; omega
                      have hebw : eb < w.heap.size := lt_cell (hce k hkl).1
                      have HG : Hid (∀ u z, y.es[m] = u → y.es[k] = z → u.t < z.t → GoodE G y.es (k + 1)) := fun u z hu hz hlt2 => ⟨fun q hq hqk => by
                        by_cases e : q = k
                        · subst e; exact HP1.out.symm
                        · exact HD.out.1 q hq (by omega), fun q hq hqk => by
                        by_cases e : q = m
                        · subst e; subst hmk; rw [hu, hz]; exact hlt2
                        · exact HD.out.2 q hq (by omega)⟩
                      have HX : Hid (∀ u z, y.es[m] = u → y.es[k] = z → ¬ u.t < z.t → risesE G = false) := fun u z hu hz hn => HB2.out y HY.out m (by omega) (by subst hmk; rw [hu, hz]; omega)
                      obtain ⟨u, hu⟩ : ∃ u, y.es[m] = u := ⟨_, rfl⟩
                      obtain ⟨z, hz⟩ : ∃ z, y.es[k] = z := ⟨_, rfl⟩
                      have HU : Hid (y.es[m] = u) := hu
                      have HZ : Hid (y.es[k] = z) := hz
                      rw [hu] at g0
                      rw [hz] at f0 hF
                      clear hfb hce hk0 hu hz hmk
                      go_wp2_with (go_at_call 35; refine hF.mono ?_; rintro r w2 ⟨rfl, hb2⟩; have f1 := (hb2.cell (p := ⟨eb, eoff + k * 2, none⟩) (Nat.lt_of_lt_of_le hebw hby.size)).trans f0; have g1 := (hb2.cell (p := ⟨eb, eoff + m * 2, none⟩) (Nat.lt_of_lt_of_le hebw hby.size)).trans g0)
                      go_quiet (fail)
                      by_cases hr : z.t ≤ u.t
                      · have HT : Hid (risesE G = false) := HX.out u z HU.out HZ.out (by omega)
                        go_wp2
                        go_ret
                        exact ⟨by rw [HC.out, if_pos (Or.inr (Or.inl HT.out))]; rfl, bel_drewN (hby.trans (hb2.mono hby.size)) _⟩
                      · go_wp2
                        go_roundw
                        case rel => exact ⟨k + 1, by omega, by go_num, HG.out u z HU.out HZ.out (by omega), bel_drewN (hby.trans (hb2.mono hby.size)) _⟩
                        case measure => simp [intOf]; omega
                · obtain rfl : k = y.es.length := by omega
                  go_wp2
                  go_roundw
                  case rel => exact ⟨j + 1, by omega, by go_num, HB3.out y HY.out HD.out, hby⟩
                  case measure => simp [intOf]; omega
            · have HT := good_all (fun q hq => HQ.out q hq (by omega))
              have HE0 : Hid (chk G = 0) := HC.out.trans (if_neg (by rw [HT.1, HT.2]; simp; omega))
              clear HT
              go_wp2
              go_ret
              exact ⟨by rw [HE0.out]; rfl, hbx⟩
theorem rise_of {G : List Vx} (h : chk G = 0) : G.length ≤ 256 ∧ Rise (ids G) := by
  unfold chk at h
  split at h
  · cases h
  · rename_i hn
    refine ⟨by omega, (riseB_iff _).1 ?_⟩
    cases hb : riseB (ids G) with
    | true => rfl
    | false => exact absurd (Or.inr hb) hn
end Go.Proofs.Ythnhmhjcpdomcaa
end

section
/- What the laws of requests share: the graph's box. -/
namespace Go.Proofs.Ythnhmhjcpdomcaa
open Go.RowKit Go.Sort
/-- The graph's box stands. -/
structure OB (w W : World) (ao : Option Addr) (n cap : Nat) : Prop where
  box : W.heap[w.heap.size]? = some (.cells #[.slice ao n cap] 24 (0, 0))
  low : Below w.heap.size w W
theorem OB.new {w W W' : World} {ao : Option Addr} {n cap : Nat} (h : OB w W ao n cap) (hb : Below W.heap.size W W') : OB w W' ao n cap :=
  ⟨(hb.block _ (Array.getElem?_eq_some_iff.1 h.box).1).trans h.box, h.low.trans (hb.mono h.low.size)⟩
theorem OB.cell {w W : World} {ao : Option Addr} {n cap : Nat} (h : OB w W ao n cap) : W.cell? ⟨w.heap.size, 0, none⟩ = some (.slice ao n cap) := by simp [World.cell?, h.box]
theorem OB.start (w : World) (ao : Option Addr) (n cap : Nat) : OB w (w.alloc (.cells #[.slice ao n cap] 24)) ao n cap := ⟨heap_alloc_new _ _, one_newU _ _⟩
theorem OB.fr {w W W' : World} {ao : Option Addr} {n cap : Nat} {S : Nat → Prop} (h : OB w W ao n cap) (f : Fr W W' S) (hS : ∀ k, S k → w.heap.size + 1 ≤ k) : OB w W' ao n cap :=
  ⟨(f.block _ (Array.getElem?_eq_some_iff.1 h.box).1 (fun e => by have := hS _ e; omega)).trans h.box, h.low.trans (f.below h.low.size (fun k e => by have := hS k e; omega))⟩
theorem OB.lt {w W : World} {ao : Option Addr} {n cap : Nat} (h : OB w W ao n cap) : w.heap.size + 1 ≤ W.heap.size := (Array.getElem?_eq_some_iff.1 h.box).1
theorem chk_bdU (G : List Vx) : chk G = 0 ∨ chk G = 30 ∨ chk G = 31 := by
  unfold chk
  split
  · simp
  · split <;> simp
/-- A row of one's own, as it is read. -/
theorem UO.at_ {w : World} {base : Nat} {ao : Option Addr} {n c : Nat} {L : List Mu} (h : UO w base (.slice ao n c) L) : UsAt w (fun k => base ≤ k) ao L ∧ n = L.length := by
  rcases h.2 with ⟨h1, h2⟩ | ⟨g, cap, cur, h1, hb, hg, hn, hc, hcs, ht⟩
  · cases h1
    exact ⟨fun hl => by omega, h2.symm⟩
  · cases h1
    exact ⟨fun _ => ⟨g, 0, rfl, hb, fun j hj => by rw [Nat.zero_add]; exact UO.cells h hj⟩, rfl⟩
end Go.Proofs.Ythnhmhjcpdomcaa
end
