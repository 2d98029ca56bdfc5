import Derived.Test.YtidghoipmggklaaGreatProg
import Derived.Test.YtidghoipmggklaaGreatGrDataM
import Derived.Test.YtidghoipmggklaaGreatRefReaderM
import Derived.Test.YtidghoipmggklaaGreatWriterWM
import Derived.WalkKit
import Derived.WalkSpells
import Derived.WalkLawsBesides
import Derived.Deep.QuietTactic
import Derived.BigQuiet
import Derived.Deep.RegionWith
import Derived.Test.YtidghoipmggklaaGreatGrIterM
section
/- What rising, Edges and endsRise return. -/
namespace Go.Proofs.YtidghoipmggklaaGreat
open Go.RowKit

theorem vertexnumber_any (x y : Int) (ao : Option Addr) (n c : Nat) (w : World) :
    Calls Tryz.prog 150 #[.agg #[.int .i64 x, .int .i64 y, .slice ao n c]] w fun r w' => r = .returned (.int .i64 x) ∧ Below w.heap.size w w' := by
  go_enter Tryz.func150, Tryz.ntmps150
  go_wp2
  go_ret
  exact ⟨rfl, (Below.refl _ _).alloc (Nat.le_refl _) _⟩
theorem edgeend_any (x y : Int) (w : World) :
    Calls Tryz.prog 193 #[.agg #[.int .i64 x, .int .i64 y]] w fun r w' => r = .returned (.int .i64 x) ∧ Below w.heap.size w w' := by
  go_enter Tryz.func193, Tryz.ntmps193
  go_wp2
  go_ret
  exact ⟨rfl, (Below.refl _ _).alloc (Nat.le_refl _) _⟩

set_option maxRecDepth 100000 in
theorem edges_any {w : World} {P : Nat → Prop} {ao : Option Addr} {G : List Vx} (cap : Nat) (h : VxAt w P ao G) (hl : G.length ≤ 9223372036854775807) :
    Calls Tryz.prog 151 #[.agg #[.slice ao G.length cap]] w fun r w' => r = .returned (.int .i64 (sumE G)) ∧ Below w.heap.size w w' := by
  go_enter Tryz.func151, Tryz.ntmps151
  go_wp2
  go_loopw [3, 5, 9] (fun n _ i wr => ∃ (k : Nat), k ≤ G.length ∧ i = .int .i64 k ∧ n = .int .i64 (sumE (G.take k)) ∧ Below w.heap.size w wr) (fun _ _ i _ => G.length - (intOf i).toNat)
  case atStart => exact ⟨0, Nat.zero_le _, rfl, rfl, (Below.refl _ _).alloc (Nat.le_refl _) _⟩
  case round =>
    obtain ⟨k, hk, rfl, rfl, hb⟩ := hrel
    by_cases hlt : k < G.length
    · obtain ⟨b, off, rfl, hP, hc⟩ := h (by omega)
      obtain ⟨eo, ec, c0, c1, c2, _⟩ := hc k hlt
      have hbb := lt_cell c0
      have d0 := (hb.cell (p := ⟨b, off + k * 3, none⟩) hbb).trans c0
      have d1 := (hb.cell (p := ⟨b, off + k * 3 + 1, none⟩) hbb).trans c1
      have d2 := (hb.cell (p := ⟨b, off + k * 3 + 2, none⟩) hbb).trans c2
      have HS : Hid _ := sumE_snoc G k hlt
      clear c0 c1 c2 hc
      generalize G[k] = y at d0 d1 d2 HS
      go_wp2
      go_roundw
      case rel => exact ⟨k + 1, by omega, by go_num, by rw [HS.out], hb.alloc hb.size _⟩
      case measure => simp [intOf]; omega
    · obtain rfl : k = G.length := by omega
      go_wp2
      go_ret
      exact ⟨by rw [List.take_length]; rfl, hb⟩
theorem rise_false {l : List Int} {j : Nat} (h : j + 1 < l.length) (hn : ¬ l[j] < l[j + 1]) : riseB l = false := by
  rw [Bool.eq_false_iff]
  intro hr
  exact hn ((riseB_iff l).1 hr j h)
theorem rise_at {l : List Int} {k m : Nat} {x y : Int} (hk : k = m + 1) (h : k < l.length) (hm : l[m]'(by omega) = x) (hn : l[k] = y) (hr : y ≤ x) : riseB l = false := by
  subst hk
  exact rise_false h (by rw [hm, hn]; omega)
theorem rise_step {l : List Int} {k m : Nat} {x y : Int} (hk : k = m + 1) (h : k < l.length) (hm : l[m]'(by omega) = x) (hn : l[k] = y) (hr : x < y) (H : ∀ j (h : j + 1 < l.length), j + 1 < k → l[j] < l[j + 1]) : ∀ j (h : j + 1 < l.length), j + 1 < k + 1 → l[j] < l[j + 1] := by
  subst hk
  intro j hj hjk
  by_cases e : j = m
  · subst e; rw [hm, hn]; exact hr
  · exact H j hj (by omega)

set_option maxRecDepth 100000 in
set_option maxHeartbeats 4000000 in
theorem rising_v {w : World} {P : Nat → Prop} {ao : Option Addr} {G : List Vx} (cap : Nat) (h : VxAt w P ao G) (hl : G.length ≤ 9223372036854775807) :
    Calls Tryz.prog 149 #[.slice ao G.length cap, .func (.func 150) #[] #[]] w fun r w' => r = .returned (.bool (riseB (ids G))) ∧ Below w.heap.size w w' := by
  go_enter Tryz.func149, Tryz.ntmps149
  go_wp2
  go_loopw [5] (fun i wr => ∃ (k : Nat), 1 ≤ k ∧ k ≤ max G.length 1 ∧ i = .int .i64 k ∧ Hid (∀ j (h : j + 1 < (ids G).length), j + 1 < k → (ids G)[j] < (ids G)[j + 1]) ∧ Below w.heap.size w wr) (fun i _ => G.length - (intOf i).toNat)
  case atStart => exact ⟨1, Nat.le_refl _, by omega, rfl, fun j _ hj => absurd hj (by omega), Below.refl _ _⟩
  case round =>
    obtain ⟨k, hk1, hk, rfl, HR, hb⟩ := hrel
    by_cases hlt : k < G.length
    · obtain ⟨b, off, rfl, hP, hc⟩ := h (by omega)
      obtain ⟨m, HK⟩ : ∃ m, Hid (k = m + 1) := ⟨k - 1, (by omega : k = k - 1 + 1)⟩
      have hmk : k = m + 1 := HK.out
      have hm0 : m < G.length := by omega
      obtain ⟨eo, ec, c0, c1, c2, _⟩ := hc m hm0
      obtain ⟨fo, fc, f0, f1, f2, _⟩ := hc k hlt
      have hbb := lt_cell c0
      have hbw : b < wr.heap.size := Nat.lt_of_lt_of_le hbb hb.size
      have d0 := (hb.cell (p := ⟨b, off + m * 3, none⟩) hbb).trans c0
      have d1 := (hb.cell (p := ⟨b, off + m * 3 + 1, none⟩) hbb).trans c1
      have d2 := (hb.cell (p := ⟨b, off + m * 3 + 2, none⟩) hbb).trans c2
      have g0 := (hb.cell (p := ⟨b, off + k * 3, none⟩) hbb).trans f0
      have g1 := (hb.cell (p := ⟨b, off + k * 3 + 1, none⟩) hbb).trans f1
      have g2 := (hb.cell (p := ⟨b, off + k * 3 + 2, none⟩) hbb).trans f2
      have HM : Hid ((ids G)[m]'(by rw [ids_len]; omega) = G[m].id) := ids_get G m hm0
      have HN : Hid ((ids G)[k]'(by rw [ids_len]; omega) = G[k].id) := ids_get G k hlt
      have hm1 : IntKind.i64.wrap ((k : Int) - 1) = m := by rw [IntKind.wrap_i64]; omega
      have hm2 : wrap64 ((k : Int) - 1) = m := by unfold wrap64; omega
      clear c0 c1 c2 f0 f1 f2 hc hmk
      generalize G[m] = y at d0 d1 d2 HM
      generalize G[k] = z at g0 g1 g2 HN
      go_wp2
      go_region_with (go_at_call 150; refine (vertexnumber_any _ _ _ _ _ _).mono ?_; rintro r w1 ⟨rfl, hb1⟩; first | (have hbA := hb.trans ((below_c hb1).mono hb.size); have e0 := (hb1.cell (p := ⟨b, off + k * 3, none⟩) hbw).trans g0; have e1 := (hb1.cell (p := ⟨b, off + k * 3 + 1, none⟩) hbw).trans g1; have e2 := (hb1.cell (p := ⟨b, off + k * 3 + 2, none⟩) hbw).trans g2) | (have hbB := hbA.trans (hb1.mono hbA.size)))
      all_goals
        by_cases hr : z.id ≤ y.id
        · go_wp2
          go_ret
          exact ⟨by rw [rise_at HK.out (by rw [ids_len]; exact hlt) HM.out HN.out hr]; rfl, hbB⟩
        · go_wp2
          go_roundw
          case rel => exact ⟨k + 1, by omega, by omega, by go_num, rise_step HK.out (by rw [ids_len]; exact hlt) HM.out HN.out (by omega) HR.out, hbB⟩
          case measure => simp [intOf]; omega
    · go_wp2
      go_ret
      exact ⟨by rw [(riseB_iff _).2 (fun j hj => HR.out j hj (by rw [ids_len] at hj; omega))]; rfl, hb⟩
end Go.Proofs.YtidghoipmggklaaGreat
end

section
/- What Find returns of vertices that rise: where a number is, or would stand. -/
namespace Go.Proofs.YtidghoipmggklaaGreat
open Go.RowKit
def cmpI (x y : Int) : Int := if x < y then -1 else if y < x then 1 else 0

theorem isnan_any (x : Int) (w : World) : Calls Tryz.prog 244 #[.int .i64 x] w fun r w' => r = .returned (.bool false) ∧ w' = w := by
  go_enter Tryz.func244, Tryz.ntmps244
  go_wp2
  go_ret
  exact ⟨by simp, rfl⟩
theorem compare_any (x y : Int) (w : World) : Calls Tryz.prog 201 #[.int .i64 x, .int .i64 y] w fun r w' => r = .returned (.int .i64 (cmpI x y)) ∧ w' = w := by
  unfold cmpI
  by_cases h1 : x < y
  · rw [if_pos h1]
    go_enter Tryz.func201, Tryz.ntmps201
    go_wp2_with (go_at_call 244; refine (isnan_any _ _).mono ?_; rintro r w1 ⟨rfl, rfl⟩)
    go_ret
    exact ⟨rfl, rfl⟩
  · rw [if_neg h1]
    by_cases h2 : y < x
    · rw [if_pos h2]
      go_enter Tryz.func201, Tryz.ntmps201
      go_wp2_with (go_at_call 244; refine (isnan_any _ _).mono ?_; rintro r w1 ⟨rfl, rfl⟩)
      go_ret
      exact ⟨rfl, rfl⟩
    · rw [if_neg h2]
      go_enter Tryz.func201, Tryz.ntmps201
      go_wp2_with (go_at_call 244; refine (isnan_any _ _).mono ?_; rintro r w1 ⟨rfl, rfl⟩)
      go_ret
      exact ⟨rfl, rfl⟩
theorem find1_any (x y i : Int) (ao : Option Addr) (n c : Nat) (w : World) :
    Calls Tryz.prog 240 #[.agg #[.int .i64 x, .int .i64 y, .slice ao n c], .int .i64 i] w fun r w' => r = .returned (.int .i64 (cmpI x i)) ∧ Below w.heap.size w w' := by
  go_enter Tryz.func240, Tryz.ntmps240
  go_wp2_with (go_at_call 201; refine (compare_any _ _ _).mono ?_; rintro r w1 ⟨rfl, rfl⟩)
  go_ret
  exact ⟨rfl, (Below.refl _ _).alloc (Nat.le_refl _) _⟩
end Go.Proofs.YtidghoipmggklaaGreat
end

section
/- What Find returns of vertices that rise: where a number is, or would stand. -/
namespace Go.Proofs.YtidghoipmggklaaGreat
open Go.RowKit
theorem below_step {l : List Int} (hr : Rise l) {m : Nat} (h : m < l.length) {x y : Int} (hm : l[m] = y) (hy : y < x) : ∀ q (h : q < l.length), q < m + 1 → l[q] < x := by
  intro q hq hqm
  by_cases e : q = m
  · subst e; omega
  · have := hr.lt m q h (by omega); omega
theorem above_step {l : List Int} (hr : Rise l) {m : Nat} (h : m < l.length) {x y : Int} (hm : l[m] = y) (hy : x ≤ y) : ∀ q (h : q < l.length), m ≤ q → x ≤ l[q] := by
  intro q hq hqm
  by_cases e : q = m
  · subst e; omega
  · have := hr.lt q m hq (by omega); omega
theorem found_cmp {y x : Int} (h : ¬ y < x) : ((some y : Option Int) == some x) = (cmpI y x == 0) := by
  unfold cmpI
  rw [if_neg h, Bool.eq_iff_iff]
  split <;> simp <;> omega

set_option maxRecDepth 100000 in
set_option maxHeartbeats 4000000 in
theorem bsearch_any {w : World} {P : Nat → Prop} {ao : Option Addr} {G : List Vx} (cap : Nat) (x : Int) (h : VxAt w P ao G) (hl : G.length ≤ 256) (hr : Rise (ids G)) :
    Calls Tryz.prog 239 #[.slice ao G.length cap, .int .i64 x, .func (.func 240) #[] #[]] w fun r w' => r = .returned (.tuple #[.int .i64 (findN (ids G) x), .bool (foundB (ids G) x)]) ∧ Below w.heap.size w w' := by
  have HR : Hid (Rise (ids G)) := hr
  clear hr
  go_enter Tryz.func239, Tryz.ntmps239
  go_wp2
  go_loopw [9, 10, 11] (fun u v _ wr => ∃ (i j : Nat), i ≤ j ∧ j ≤ G.length ∧ u = .int .i64 i ∧ v = .int .i64 j ∧ Hid (∀ q (h : q < (ids G).length), q < i → (ids G)[q] < x) ∧ Hid (∀ q (h : q < (ids G).length), j ≤ q → x ≤ (ids G)[q]) ∧ Below w.heap.size w wr) (fun u v _ _ => (intOf v).toNat - (intOf u).toNat)
  case atStart => exact ⟨0, G.length, Nat.zero_le _, Nat.le_refl _, rfl, rfl, fun q _ hq => absurd hq (by omega), fun q hq hq' => absurd hq (by rw [ids_len]; omega), Below.refl _ _⟩
  case round =>
    obtain ⟨i, j, hij, hj, rfl, rfl, H1, H2, hb⟩ := hrel
    by_cases hlt : i < j
    · obtain ⟨m, HM⟩ : ∃ m : Nat, Hid (m = (i + j) / 2) := ⟨_, rfl⟩
      have hm : m = (i + j) / 2 := HM.out
      have hmi : i ≤ m := by omega
      have hmj : m < j := by omega
      have hmG : m < G.length := by omega
      obtain ⟨b, off, rfl, hP, hc⟩ := h (by omega)
      obtain ⟨eo, ec, c0, c1, c2, c3⟩ := hc m hmG
      have hbb := lt_cell c0
      have d0 := (hb.cell (p := ⟨b, off + m * 3, none⟩) hbb).trans c0
      have d1 := (hb.cell (p := ⟨b, off + m * 3 + 1, none⟩) hbb).trans c1
      have d2 := (hb.cell (p := ⟨b, off + m * 3 + 2, none⟩) hbb).trans c2
      have HG : Hid ((ids G)[m]'(by rw [ids_len]; exact hmG) = G[m].id) := ids_get G m hmG
      generalize G[m] = y at d0 d1 d2 HG
      have hdv : ((i : Int) + (j : Int)) / 2 = m := by omega
      have hF := fun w => find1_any y.id y.val x eo y.es.length ec w
      clear c0 c1 c2 c3 hc hm
      by_cases hy : y.id < x
      · rw [show cmpI y.id x = -1 from if_pos hy] at hF
        go_wp2_with (go_at_call 240; refine (hF _).mono ?_; rintro r w1 ⟨rfl, hb1⟩)
        go_roundw
        case rel => exact ⟨m + 1, j, by omega, by omega, by go_num, rfl, below_step HR.out (by rw [ids_len]; exact hmG) HG.out hy, H2, hb.trans (hb1.mono hb.size)⟩
        case measure => simp [intOf]; omega
      · obtain ⟨c, hcc, hc0⟩ : ∃ c, cmpI y.id x = c ∧ ¬ c < 0 := ⟨_, rfl, by unfold cmpI; rw [if_neg hy]; split <;> omega⟩
        rw [hcc] at hF
        clear hcc
        go_wp2_with (go_at_call 240; refine (hF _).mono ?_; rintro r w1 ⟨rfl, hb1⟩)
        go_roundw
        case rel => exact ⟨i, m, by omega, by omega, rfl, rfl, H1, above_step HR.out (by rw [ids_len]; exact hmG) HG.out (by omega), hb.trans (hb1.mono hb.size)⟩
        case measure => simp [intOf]; omega
    · obtain rfl : i = j := by omega
      have HF : Hid (findN (ids G) x = i) := findN_eq (by rw [ids_len]; exact hj) H1.out (fun q hq hqi => by have := H2.out q hq hqi; omega)
      by_cases hin : i < G.length
      · obtain ⟨b, off, rfl, hP, hc⟩ := h (by omega)
        obtain ⟨eo, ec, c0, c1, c2, c3⟩ := hc i hin
        have hbb := lt_cell c0
        have d0 := (hb.cell (p := ⟨b, off + i * 3, none⟩) hbb).trans c0
        have d1 := (hb.cell (p := ⟨b, off + i * 3 + 1, none⟩) hbb).trans c1
        have d2 := (hb.cell (p := ⟨b, off + i * 3 + 2, none⟩) hbb).trans c2
        have HG : Hid ((ids G)[i]'(by rw [ids_len]; exact hin) = G[i].id) := ids_get G i hin
        have HX : Hid (¬ G[i].id < x) := by
          show ¬ _
          rw [← HG.out]
          have := H2.out i (by rw [ids_len]; exact hin) (Nat.le_refl _)
          omega
        have HB : Hid (foundB (ids G) x = (cmpI G[i].id x == 0)) := by
          show _ = _
          unfold foundB
          rw [HF.out, List.getElem?_eq_getElem (by rw [ids_len]; exact hin), HG.out]
          exact found_cmp HX.out
        generalize G[i] = y at d0 d1 d2 HG HX HB
        have hF := fun w => find1_any y.id y.val x eo y.es.length ec w
        clear c0 c1 c2 c3 hc
        generalize cmpI y.id x = c at hF HB
        go_wp2_with (go_at_call 240; refine (hF _).mono ?_; rintro r w1 ⟨rfl, hb1⟩)
        go_ret2
        exact ⟨by rw [HF.out, HB.out]; rfl, hb.trans (hb1.mono hb.size)⟩
      · have HB : Hid (foundB (ids G) x = false) := by
          show _ = _
          unfold foundB
          rw [HF.out, List.getElem?_eq_none (by rw [ids_len]; omega)]; rfl
        go_wp2
        go_ret2
        exact ⟨by rw [HF.out, HB.out]; rfl, hb⟩
theorem find_any {w : World} {P : Nat → Prop} {ao : Option Addr} {G : List Vx} (cap : Nat) (x : Int) (h : VxAt w P ao G) (hl : G.length ≤ 256) (hr : Rise (ids G)) :
    Calls Tryz.prog 195 #[.agg #[.slice ao G.length cap], .int .i64 x] w fun r w' => r = .returned (.tuple #[.int .i64 (findN (ids G) x), .bool (foundB (ids G) x)]) ∧ Below w.heap.size w w' := by
  have hB := fun o => bsearch_any (w := w.alloc o) cap x (h.new ((Below.refl _ _).alloc (Nat.le_refl _) _)) hl hr
  clear h hr
  go_enter Tryz.func195, Tryz.ntmps195
  go_wp2_with (go_at_call 239; refine (hB _).mono ?_; rintro r w1 ⟨rfl, hb1⟩)
  go_ret2
  exact ⟨rfl, ((Below.refl _ _).alloc (Nat.le_refl _) _).trans (hb1.mono (by simp))⟩
end Go.Proofs.YtidghoipmggklaaGreat
end

section
/- What endsAreThere returns: whether all edges' ends are vertices, of vertices that rise. -/
namespace Go.Proofs.YtidghoipmggklaaGreat
open Go.RowKit Go.Shelf
attribute [local go_sem] Oper.semAt_some

theorem edges_fn {w : World} (ao : Option Addr) (n cap : Nat) :
    Calls Tryz.prog 194 #[.agg #[.slice ao n cap]] w fun r w' => r = .returned (.func (.func 238) #[] #[.pointer (some ⟨w.heap.size, 0, none⟩)]) ∧ w' = w.alloc (.cells #[.slice ao n cap] 24) := by
  have hmf : ∀ (fn : Fn) (first cap : Array Value) (w : World), (Instr.makeFunc fn first cap).run Tryz.prog w = .ok (.func fn first cap) w := fun _ _ _ _ => rfl
  go_enter Tryz.func194, Tryz.ntmps194
  go_wp2
  go_ret
  exact ⟨rfl, rfl⟩
theorem thereE_iff {G : List Vx} (hr : Rise (ids G)) : thereE G = true ↔ ∀ x ∈ evs G, foundB (ids G) x.2.t = true := by
  unfold thereE evs
  simp only [List.all_eq_true, List.mem_flatMap, List.mem_map]
  constructor
  · rintro h x ⟨v, hv, e, he, rfl⟩
    rw [foundB_iff hr]
    exact h v hv e he
  · intro h v hv e he
    rw [← foundB_iff hr]
    exact h (v.id, e) ⟨v, hv, e, he, rfl⟩
theorem box2 {W : World} {b : Nat} {t : TypeId} {u0 u1 : Value} (h : W.heap[b]? = some (.cells #[u0, u1] t (0, 0))) : W.cell? ⟨b, 0, none⟩ = some u0 ∧ W.cell? ⟨b, 1, none⟩ = some u1 := by
  simp [World.cell?, h]
theorem blk_own (B : Nat) (o : Obj) (ho : o.isCells = true) : Own (fun (_ : Unit) W => W.heap[B]? = some o) := by
  intro _ X Y row hv hg hrow
  refine (hg.block B (Array.getElem?_eq_some_iff.1 hv).1 (fun e' => ?_)).trans hv
  obtain ⟨o', ho', hc⟩ := hrow B e'.symm
  rw [hv] at ho'; cases ho'; rw [ho] at hc; cases hc
theorem boxed_keep {A B : World} {row : Option Nat} {k : Nat} {t : TypeId} {v : Value} (h : Boxed A k t v) (hg : A.grownBy B row) (hr : ∀ r, row = some r → ∃ o : Obj, A.heap[r]? = some o ∧ o.isCells = false) : Boxed B k t v :=
  boxed_own k t (fun (_ : Unit) => v) () A B row h hg hr

set_option maxRecDepth 100000 in
set_option maxHeartbeats 4000000 in
theorem there_any {w : World} {ao : Option Addr} {G : List Vx} (cap : Nat) (h : VxAt w (fun k => k < w.heap.size) ao G) (hl : G.length ≤ 256) (hr : Rise (ids G)) (hok : ∀ v ∈ G, v.ok) :
    Calls Tryz.prog 153 #[.agg #[.slice ao G.length cap]] w fun r w' => r = .returned (.bool (thereE G)) ∧ Below w.heap.size w w' := by
  refine (callsIn_wide (n := 5)).1 ?_
  refine callsIn_of_wp_marks Tryz.func153 rfl trivial ?_ rfl
  simp only [Tryz.ntmps153, List.size_toArray, List.length_cons, List.length_nil, Nat.reduceAdd, Nat.reduceSub, Array.replicate_succ, Array.replicate_zero, List.push_toArray, List.append_toArray, List.nil_append, List.cons_append]
  gi_wp2_with (refine ⟨trivial, ?_⟩; gi_at_call 194; refine (callsIn_wide.2 (edges_fn _ _ _)).mono ?_; rintro r w1 ⟨rfl, rfl⟩)
  have bG0 := Boxed.new w 24 (.slice ao G.length cap)
  have bR0 := Boxed.new (w.alloc (.cells #[.slice ao G.length cap] 24)) 4 (.bool false)
  have bE0 := Boxed.new ((w.alloc (.cells #[.slice ao G.length cap] 24)).alloc (.cells #[.bool false] 4)) 24 (.slice ao G.length cap)
  simp only [World.size_alloc] at bR0 bE0
  have hB0 : Below w.heap.size w (((w.alloc (.cells #[.slice ao G.length cap] 24)).alloc (.cells #[.bool false] 4)).alloc (.cells #[.slice ao G.length cap] 24)) := (((Below.refl _ w).alloc (Nat.le_refl _) _).alloc (by simp) _).alloc (by simp; omega) _
  have bG1 := (bG0.alloc (.cells #[.bool false] 4)).alloc (.cells #[.slice ao G.length cap] 24)
  have bR1 := bR0.alloc (.cells #[.slice ao G.length cap] 24)
  have hsz : (((w.alloc (.cells #[.slice ao G.length cap] 24)).alloc (.cells #[.bool false] 4)).alloc (.cells #[.slice ao G.length cap] 24)).heap.size = w.heap.size + 3 := by simp
  obtain ⟨W0, hW0⟩ : ∃ W0, (((w.alloc (.cells #[.slice ao G.length cap] 24)).alloc (.cells #[.bool false] 4)).alloc (.cells #[.slice ao G.length cap] 24)) = W0 := ⟨_, rfl⟩
  rw [hW0] at hB0 bG1 bR1 bE0 hsz ⊢
  clear bG0 bR0
  refine wpIn_rangeFunc_ownH rfl (by decide) (gf := 238) (lb := #[.pointer (some ⟨w.heap.size + 1 + 1, 0, none⟩)]) rfl trivial (enters_of Tryz.func238 (by kernel_rfl) rfl)
    (edges_stops Fence.wide 4 trivial rfl (by decide) (w.heap.size + 1 + 1) w.heap.size ao cap G (Nat.le_trans hl (by decide)) hok W0 (by omega) (by omega) bE0.cell (h.below hB0 (fun _ _ h => h))) Kc.trans (Kc.put (by omega)) (Below.refl _ _) (fun _ => rfl)
    (fun pre W => (Boxed W w.heap.size 24 (.slice ao G.length cap) ∧ Boxed W (w.heap.size + 1) 4 (.bool false) ∧ (∀ x ∈ pre, foundB (ids G) x.2.t = true)) ∧ Below w.heap.size w W)
    (fun c pre W => (c = .ret ∧ (∃ x ∈ pre, foundB (ids G) x.2.t = false) ∧ Boxed W (w.heap.size + 1) 4 (.bool false)) ∧ Below w.heap.size w W)
    (OwnFrom.and (Own.from (fun s A B row hs hg hr => ⟨boxed_keep hs.1 hg hr, boxed_keep hs.2.1 hg hr, hs.2.2⟩) _) (ownFrom_below (Nat.le_refl _) (by omega)))
    (fun c => OwnFrom.and (Own.from (fun s A B row hs hg hr => ⟨hs.1, hs.2.1, boxed_keep hs.2.2 hg hr⟩) _) (ownFrom_below (Nat.le_refl _) (by omega)))
    ⟨⟨bG1, bR1, by simp⟩, hB0⟩
    (fun x a' W => ∃ Bx, w.heap.size + 1 < Bx ∧ W.heap[Bx]? = some (.cells #[.int .i64 x.2.t, .int .i64 x.2.w] 111 (0, 0)) ∧ a' = { tmps := #[.agg #[.slice ao G.length cap], .pointer (some ⟨w.heap.size, 0, none⟩), .pointer (some ⟨w.heap.size + 1, 0, none⟩), undef, .pointer (some ⟨Bx, 0, none⟩), undef, undef, .agg #[.slice ao G.length cap], .func (.func 238) #[] #[.pointer (some ⟨w.heap.size + 1 + 1, 0, none⟩)], .int .i64 x.1, .agg #[.int .i64 x.2.t, .int .i64 x.2.w], undef, undef, undef, undef, undef, undef, undef, undef, undef], defers := [] })
    (fun x a' _ A B row hs hg hr => by
      obtain ⟨Bx, h1, h2, h3⟩ := hs
      exact ⟨Bx, h1, blk_own Bx _ rfl () A B row h2 hg (fun r e => (hr r e).2), h3⟩) ?assign ?body ?done ?stop
  case assign =>
    rintro l pre x W K ⟨⟨bG, bR, hall⟩, hB⟩ hK
    dsimp only [encE]
    gi_wp2
    exact hK _ _ ((KeepsOthers.alloc _ _).from _) (Kc.ofNew ((Below.refl _ _).alloc (Nat.le_refl _) _) hB.size) ⟨⟨bG.alloc _, bR.alloc _, hall⟩, hB.alloc hB.size _⟩ ⟨W.heap.size, bR.lt, heap_alloc_new _ _, rfl⟩
  case body =>
    rintro l pre x a' W hl0 ⟨r, hr0⟩ ⟨⟨bG, bR, hall⟩, hB⟩ ⟨Bx, hBx, bX, rfl⟩ _
    obtain ⟨q0, q1⟩ := box2 bX
    have g0 := bG.cell
    have hF := find_any cap x.2.t (h.below hB (fun _ _ h => h)) hl hr
    have bR' := fun w1 (hb : Below W.heap.size W w1) => (show Boxed w1 _ _ _ from (hb.block _ bR.lt).trans bR)
    have bG' := fun w1 (hb : Below W.heap.size W w1) => (show Boxed w1 _ _ _ from (hb.block _ bG.lt).trans bG)
    have HB : Hid _ := bR'
    have HG : Hid _ := bG'
    clear bR' bG'
    cases hf : foundB (ids G) x.2.t with
    | false =>
      rw [hf] at hF
      gi_wp2_with (refine ⟨trivial, ?_⟩; gi_at_call 195; refine (CallsIn.inRound l (callsIn_wide.2 hF)).mono ?_; rintro r w1 ⟨rfl, hb1⟩; have c1 := (HB.out w1 hb1).cell; have f1 := (HB.out w1 hb1).frozen)
      have ko : KeepsOthers W w1 := ⟨hb1.size, fun k o hk _ => (hb1.block k (Array.getElem?_eq_some_iff.1 hk).1).trans hk⟩
      have hb2 : Below w.heap.size w w1 := hB.trans (hb1.mono hB.size)
      exact ⟨(ko.trans (KeepsOthers.setCell _ _ _)).from _, ⟨rfl, ⟨x, by simp, hf⟩, (HB.out w1 hb1).set _⟩, hb2.setCell (p := ⟨w.heap.size + 1, 0, none⟩) (by simp) _⟩
    | true =>
      rw [hf] at hF
      gi_wp2_with (refine ⟨trivial, ?_⟩; gi_at_call 195; refine (CallsIn.inRound l (callsIn_wide.2 hF)).mono ?_; rintro r w1 ⟨rfl, hb1⟩; have c1 := (HB.out w1 hb1).cell; have f1 := (HB.out w1 hb1).frozen)
      have ko : KeepsOthers W w1 := ⟨hb1.size, fun k o hk _ => (hb1.block k (Array.getElem?_eq_some_iff.1 hk).1).trans hk⟩
      have hb2 : Below w.heap.size w w1 := hB.trans (hb1.mono hB.size)
      refine ⟨ko.from _, Kc.ofNew hb1 hB.size, ⟨HG.out w1 hb1, HB.out w1 hb1, fun z hz => ?_⟩, hb2⟩
      rcases List.mem_append.1 hz with hz | hz
      · exact hall z hz
      · obtain rfl : z = x := by simpa using hz
        exact hf
  case done =>
    rintro D ys W hD rfl ⟨⟨bG, bR, hall⟩, hB⟩ hK
    have cR := bR.cell
    have fR := bR.frozen
    gi_wp2
    have hK' := (KeepsOthers.setCell W ⟨w.heap.size + 1, 0, none⟩ (.bool true)).same D _ hK rfl
    refine ⟨by simp, .inl ⟨_, _, rfl, run_takeDeferred hK', ?_⟩⟩
    have hc5 := cell_kept (World.cell?_setCell_same' W ⟨w.heap.size + 1, 0, none⟩ (.bool true) (by rw [cR]; rfl)) (grownBy_putObj' _ D (.deferred none)) (fun r e => by cases e; exact ⟨_, hK', rfl⟩)
    refine ⟨.bool true, ?_, by rw [(thereE_iff hr).2 hall], (hB.setCell (p := ⟨w.heap.size + 1, 0, none⟩) (by simp) _).trans (belowK_b (w := w) (Nat.le_refl _) _ D _ _ (by omega) hK' rfl rfl)⟩
    simp [results, Tryz.results153, go_sem, hc5]
  case stop =>
    rintro D c pre W hD hpre ⟨⟨rfl, ⟨x, hx, hf⟩, bR⟩, hB⟩ hK
    gi_wp2
    refine ⟨by simp, .inl ⟨_, _, rfl, run_takeDeferred hK, ?_⟩⟩
    have hc5 := cell_kept bR.cell (grownBy_putObj' _ D (.deferred none)) (fun r e => by cases e; exact ⟨_, hK, rfl⟩)
    have ht : thereE G = false := by
      rw [Bool.eq_false_iff]
      intro ht
      have := (thereE_iff hr).1 ht x (hpre.subset hx)
      rw [hf] at this
      cases this
    refine ⟨.bool false, ?_, by rw [ht], hB.trans (belowK_b (w := w) (Nat.le_refl _) W D _ _ (by omega) hK rfl rfl)⟩
    simp [results, Tryz.results153, go_sem, hc5]
end Go.Proofs.YtidghoipmggklaaGreat
end

section
/- What rising returns of edges, and endsRise of a graph. -/
namespace Go.Proofs.YtidghoipmggklaaGreat
open Go.RowKit

set_option maxRecDepth 100000 in
set_option maxHeartbeats 4000000 in
theorem rising_e {w : World} {P : Nat → Prop} {ao : Option Addr} {L : List Ed} (cap : Nat) (h : EdAt w P ao L) (hl : L.length ≤ 9223372036854775807) :
    Calls Tryz.prog 192 #[.slice ao L.length cap, .func (.func 193) #[] #[]] w fun r w' => r = .returned (.bool (riseB (ends L))) ∧ Below w.heap.size w w' := by
  go_enter Tryz.func192, Tryz.ntmps192
  go_wp2
  go_loopw [5] (fun i wr => ∃ (k : Nat), 1 ≤ k ∧ k ≤ max L.length 1 ∧ i = .int .i64 k ∧ Hid (∀ j (h : j + 1 < (ends L).length), j + 1 < k → (ends L)[j] < (ends L)[j + 1]) ∧ Below w.heap.size w wr) (fun i _ => L.length - (intOf i).toNat)
  case atStart => exact ⟨1, Nat.le_refl _, by omega, rfl, fun j _ hj => absurd hj (by omega), Below.refl _ _⟩
  case round =>
    obtain ⟨k, hk1, hk, rfl, HR, hb⟩ := hrel
    by_cases hlt : k < L.length
    · obtain ⟨b, off, rfl, hP, hc⟩ := h (by omega)
      obtain ⟨m, HK⟩ : ∃ m, Hid (k = m + 1) := ⟨k - 1, (by omega : k = k - 1 + 1)⟩
      have hmk : k = m + 1 := HK.out
      have hm0 : m < L.length := by omega
      obtain ⟨c0, c1⟩ := hc m hm0
      obtain ⟨f0, f1⟩ := hc k hlt
      have hbb := lt_cell c0
      have hbw : b < wr.heap.size := Nat.lt_of_lt_of_le hbb hb.size
      have d0 := (hb.cell (p := ⟨b, off + m * 2, none⟩) hbb).trans c0
      have d1 := (hb.cell (p := ⟨b, off + m * 2 + 1, none⟩) hbb).trans c1
      have g0 := (hb.cell (p := ⟨b, off + k * 2, none⟩) hbb).trans f0
      have g1 := (hb.cell (p := ⟨b, off + k * 2 + 1, none⟩) hbb).trans f1
      have HM : Hid ((ends L)[m]'(by rw [ends_len]; omega) = L[m].t) := ends_get L m hm0
      have HN : Hid ((ends L)[k]'(by rw [ends_len]; omega) = L[k].t) := ends_get L k hlt
      have hm1 : IntKind.i64.wrap ((k : Int) - 1) = m := by rw [IntKind.wrap_i64]; omega
      have hm2 : wrap64 ((k : Int) - 1) = m := by unfold wrap64; omega
      clear c0 c1 f0 f1 hc hmk
      generalize L[m] = y at d0 d1 HM
      generalize L[k] = z at g0 g1 HN
      go_wp2
      go_region_with (go_at_call 193; refine (edgeend_any _ _ _).mono ?_; rintro r w1 ⟨rfl, hb1⟩; first | (have hbA := hb.trans ((below_c hb1).mono hb.size); have e0 := (hb1.cell (p := ⟨b, off + k * 2, none⟩) hbw).trans g0; have e1 := (hb1.cell (p := ⟨b, off + k * 2 + 1, none⟩) hbw).trans g1) | (have hbB := hbA.trans (hb1.mono hbA.size)))
      all_goals
        by_cases hr : z.t ≤ y.t
        · go_wp2
          go_ret
          exact ⟨by rw [rise_at HK.out (by rw [ends_len]; exact hlt) HM.out HN.out hr]; rfl, hbB⟩
        · go_wp2
          go_roundw
          case rel => exact ⟨k + 1, by omega, by omega, by go_num, rise_step HK.out (by rw [ends_len]; exact hlt) HM.out HN.out (by omega) HR.out, hbB⟩
          case measure => simp [intOf]; omega
    · go_wp2
      go_ret
      exact ⟨by rw [(riseB_iff _).2 (fun j hj => HR.out j hj (by rw [ends_len] at hj; omega))]; rfl, hb⟩
theorem risesE_at {G : List Vx} {k : Nat} (h : k < G.length) (hr : riseB (ends G[k].es) = false) : risesE G = false := by
  unfold risesE
  rw [Bool.eq_false_iff]
  intro ha
  rw [List.all_eq_true] at ha
  have := ha _ (List.getElem_mem h)
  rw [hr] at this
  cases this
theorem risesE_all {G : List Vx} (H : ∀ j (h : j < G.length), riseB (ends G[j].es) = true) : risesE G = true := by
  unfold risesE
  rw [List.all_eq_true]
  intro v hv
  obtain ⟨j, hj, rfl⟩ := List.getElem_of_mem hv
  exact H j hj

set_option maxRecDepth 100000 in
set_option maxHeartbeats 4000000 in
theorem endsrise_any {w : World} {P : Nat → Prop} {ao : Option Addr} {G : List Vx} (cap : Nat) (h : VxAt w P ao G) (hl : G.length ≤ 9223372036854775807) (hok : ∀ v ∈ G, v.ok) :
    Calls Tryz.prog 152 #[.agg #[.slice ao G.length cap]] w fun r w' => r = .returned (.bool (risesE G)) ∧ Below w.heap.size w w' := by
  go_enter Tryz.func152, Tryz.ntmps152
  go_wp2
  go_loopw [4, 8] (fun _ i wr => ∃ (k : Nat), k ≤ G.length ∧ i = .int .i64 k ∧ Hid (∀ j (h : j < G.length), j < k → riseB (ends G[j].es) = true) ∧ Below w.heap.size w wr) (fun _ i _ => G.length - (intOf i).toNat)
  case atStart => exact ⟨0, Nat.zero_le _, rfl, fun j _ hj => absurd hj (by omega), (Below.refl _ _).alloc (Nat.le_refl _) _⟩
  case round =>
    obtain ⟨k, hk, rfl, HR, hb⟩ := hrel
    by_cases hlt : k < G.length
    · obtain ⟨b, off, rfl, hP, hc⟩ := h (by omega)
      obtain ⟨eo, ec, c0, c1, c2, c3⟩ := hc k hlt
      have hbb := lt_cell c0
      have d0 := (hb.cell (p := ⟨b, off + k * 3, none⟩) hbb).trans c0
      have d1 := (hb.cell (p := ⟨b, off + k * 3 + 1, none⟩) hbb).trans c1
      have d2 := (hb.cell (p := ⟨b, off + k * 3 + 2, none⟩) hbb).trans c2
      have d3 := c3.new hb
      have HG : Hid (∀ y, G[k] = y → riseB (ends y.es) = false → risesE G = false) := fun y e hr => risesE_at hlt (by rw [e]; exact hr)
      have HS : Hid (∀ y, G[k] = y → riseB (ends y.es) = true → ∀ j (h : j < G.length), j < k + 1 → riseB (ends G[j].es) = true) := fun y e hr j hj hjk => by
        by_cases ej : j = k
        · subst ej; rw [e]; exact hr
        · exact HR.out j hj (by omega)
      have hlen : G[k].es.length ≤ 9223372036854775807 := Nat.le_trans (hok _ (List.getElem_mem hlt)).len (by decide)
      have HE : Hid (∃ y, G[k] = y) := ⟨_, rfl⟩
      clear c0 c1 c2 c3 hc
      obtain ⟨y, hy⟩ := HE.out
      have HY : Hid (G[k] = y) := hy
      rw [hy] at d0 d1 d2 d3 hlen
      clear hy
      have hR := fun o => rising_e (w := wr.alloc o) ec (d3.new ((Below.refl _ _).alloc (Nat.le_refl _) _)) hlen
      cases hrb : riseB (ends y.es) with
      | false =>
        rw [hrb] at hR
        go_wp2_with (go_at_call 192; refine (hR _).mono ?_; rintro r w1 ⟨rfl, hb1⟩)
        go_ret
        exact ⟨by rw [HG.out y HY.out hrb]; rfl, (hb.alloc hb.size _).trans (hb1.mono (by have := hb.size; simp; omega))⟩
      | true =>
        rw [hrb] at hR
        go_wp2_with (go_at_call 192; refine (hR _).mono ?_; rintro r w1 ⟨rfl, hb1⟩)
        go_roundw
        case rel => exact ⟨k + 1, by omega, by go_num, HS.out y HY.out hrb, (hb.alloc hb.size _).trans (hb1.mono (by have := hb.size; simp; omega))⟩
        case measure => simp [intOf]; omega
    · go_wp2
      go_ret
      exact ⟨by rw [risesE_all (fun j hj => HR.out j hj (by omega))]; rfl, hb⟩
end Go.Proofs.YtidghoipmggklaaGreat
end
