/- graph.All: the iterator over a copy's edges. -/
import Derived.Test.YtmgjlamglhpnaaaGreatGrClone2M
import Derived.Test.YtmgjlamglhpnaaaGreatGrThereM
import Derived.Test.YtmgjlamglhpnaaaGreatGrWalk2M
namespace Go.Proofs.YtmgjlamglhpnaaaGreat
set_option maxRecDepth 100000
section
open Go.RowKit Go.Shelf
attribute [local go_sem] Oper.semAt_some
theorem ga_one (w : World) (o : Obj) : Below w.heap.size w (w.alloc o) := (Below.refl _ _).alloc (Nat.le_refl _) _
theorem ga_new {w w' : World} {P : Nat → Prop} {ao : Option Addr} {G : List Vx} (h : VxAt w P ao G) (hb : Below w.heap.size w w') : VxAt w' P ao G := h.kept (Fr.ofBelow hb (fun _ => False)) (fun _ _ hp => ⟨fun h => h, hp⟩)
theorem ga_cell {W : World} {b : Nat} {t : TypeId} {u : Value} (h : W.heap[b]? = some (.cells #[u] t (0, 0))) : W.cell? ⟨b, 0, none⟩ = some u := by simp [World.cell?, h]
theorem allG_fn {w : World} {P : Nat → Prop} {ao : Option Addr} (G : List Vx) (cap : Nat) (h : VxAt w P ao G) (hok : ∀ v ∈ G, v.ok) (hl : G.length * 40 ≤ 140737488355328) :
  Calls Tryz.prog 120 #[.agg #[.slice ao G.length cap]] w fun r w' => ∃ Bs fo c, r = .returned (.func (.func 117) #[] #[.pointer (some ⟨Bs, 0, none⟩)]) ∧ w'.cell? ⟨Bs, 0, none⟩ = some (.slice fo G.length c) ∧ VxAt w' (fun k => k < w'.heap.size) fo G ∧ Bs < w'.heap.size ∧ Below w.heap.size w w' := by
 have HG := ga_new h (ga_one w (.cells #[.slice ao G.length cap] 24))
 have HH : Hid _ := HG
 have HOk : Hid _ := hok
 clear h HG hok
 go_enter Tryz.func120, Tryz.ntmps120
 go_wp2_with (first
  | (go_at_call 80; refine (clone_any G cap HH.out HOk.out hl).mono ?_; rintro r w1 ⟨bo, c, rfl, hV, hb1⟩)
  | (go_at_call 98; refine (edges_fn _ _ _).mono ?_; rintro r w2 ⟨rfl, rfl⟩))
 go_ret
 have hs := hb1.size
 rw [World.size_alloc] at hs
 refine ⟨w1.heap.size, bo, c, rfl, ga_cell (heap_alloc_new _ _), ?_, by simp, ?_⟩
 ·exact (ga_new hV (ga_one _ _)).kept (Fr.refl _ (fun _ => False)) (fun k hk hp => ⟨fun h => h, hk⟩)
 ·exact ((ga_one w _).trans (hb1.mono (by rw [World.size_alloc]; omega))).alloc (by omega) _
def negE (G : List Vx) : Bool := (evs G).any fun x => decide (x.2.w < 0)
def noNeg (l : List (Int × Ed)) : Prop := ∀ x ∈ l, ¬ x.2.w < 0
def someNeg (l : List (Int × Ed)) : Prop := ∃ x ∈ l, x.2.w < 0
set_option maxHeartbeats 4000000 in
theorem below0_any {w : World} {P : Nat → Prop} {ao : Option Addr} {G : List Vx} (cap : Nat) (h : VxAt w P ao G) (hok : ∀ v ∈ G, v.ok) (hl : G.length ≤ 256) :
  Calls Tryz.prog 101 #[.agg #[.slice ao G.length cap]] w fun r w' => r = .returned (.bool (negE G)) ∧ Below w.heap.size w w' := by
 refine (callsIn_wide (n := 5)).1 ?_
 refine callsIn_of_wp_marks Tryz.func101 rfl trivial ?_ rfl
 simp only [Tryz.ntmps101, List.size_toArray, List.length_cons, List.length_nil, Nat.reduceAdd, Nat.reduceSub, Array.replicate_succ, Array.replicate_zero, List.push_toArray, List.append_toArray, List.nil_append, List.cons_append]
 obtain ⟨W1, hW1⟩ : ∃ W1, (w.alloc (.cells #[.slice ao G.length cap] 24)).alloc (.cells #[.bool false] 4) = W1 := ⟨_, rfl⟩
 have hB1 : Below w.heap.size w W1 := by rw [← hW1]; exact (ga_one _ _).trans ((ga_one _ _).mono (by simp))
 have hG1 : W1.cell? ⟨w.heap.size, 0, none⟩ = some (.slice ao G.length cap) := by
  rw [← hW1]
  exact ga_cell (((ga_one _ _).block _ (by simp)).trans (heap_alloc_new _ _))
 have bR0 : Boxed W1 (w.heap.size + 1) 4 (.bool false) := by
  rw [← hW1]
  have := Boxed.new (w.alloc (.cells #[.slice ao G.length cap] 24)) 4 (.bool false)
  rw [World.size_alloc] at this
  exact this
 have HV1 : Hid _ := ga_new h hB1
 gi_wp2_with (refine ⟨trivial, ?_⟩; gi_at_call 120; refine (callsIn_wide.2 (allG_fn G cap HV1.out hok (by omega))).mono ?_; rintro r w1 ⟨Bs, fo, c, rfl, hBs, hV2, hBl, hb1⟩)
 have bR1 : Boxed w1 (w.heap.size + 1) 4 (.bool false) := (hb1.block _ bR0.lt).trans bR0
 have hbw : Below w.heap.size w w1 := hB1.trans (hb1.mono hB1.size)
 have hsz1 : w.heap.size + 2 ≤ w1.heap.size := by have := hb1.size; have : W1.heap.size = w.heap.size + 2 := (by rw [← hW1]; simp); omega
 clear hW1 hG1 bR0 HV1 h hb1 hB1
 refine wpIn_rangeFunc_ownH rfl (by decide) (gf := 117) (lb := #[.pointer (some ⟨Bs, 0, none⟩)]) rfl trivial (enters_of Tryz.func117 (by kernel_rfl) rfl)
  (edges_stops Fence.wide 4 trivial rfl (by decide) Bs w1.heap.size fo c G (Nat.le_trans hl (by decide)) hok w1 hBl (Nat.le_refl _) hBs hV2) Kc.trans (Kc.put (Nat.le_refl _)) (Below.refl _ _) (fun _ => rfl)
  (fun pre W => (Boxed W (w.heap.size + 1) 4 (.bool false) ∧ noNeg pre) ∧ Below w1.heap.size w1 W)
  (fun c pre W => (c = .ret ∧ someNeg pre ∧ Boxed W (w.heap.size + 1) 4 (.bool true)) ∧ Below w.heap.size w W)
  (OwnFrom.and (Own.from (fun s A B row hs hg hr => ⟨boxed_keep hs.1 hg hr, hs.2⟩) _) (ownFrom_below (Nat.le_refl _) (Nat.le_refl _)))
  (fun c => OwnFrom.and (Own.from (fun s A B row hs hg hr => ⟨hs.1, hs.2.1, boxed_keep hs.2.2 hg hr⟩) _) (ownFrom_below (Nat.le_refl _) (by omega)))
  ⟨⟨bR1, (fun x hx => (by simp at hx))⟩, Below.refl _ _⟩
  (fun x a' W => ∃ Bx, w.heap.size + 1 < Bx ∧ W.heap[Bx]? = some (.cells #[.int .i64 x.2.t, .int .i64 x.2.w] 62 (0, 0)) ∧ a' = { tmps := #[.agg #[.slice ao G.length cap], .pointer (some ⟨w.heap.size, 0, none⟩), .pointer (some ⟨w.heap.size + 1, 0, none⟩), undef, .pointer (some ⟨Bx, 0, none⟩), .agg #[.slice ao G.length cap], .func (.func 117) #[] #[.pointer (some ⟨Bs, 0, none⟩)], .int .i64 x.1, .agg #[.int .i64 x.2.t, .int .i64 x.2.w], undef, undef, undef], defers := [] })
  (fun x a' _ A B row hs hg hr => by
   obtain ⟨Bx, h1, h2, h3⟩ := hs
   exact ⟨Bx, h1, blk_own Bx _ rfl () A B row h2 hg (fun r e => (hr r e).2), h3⟩) ?assign ?body ?done ?stop
 case assign =>
  rintro l pre x W K ⟨⟨bR, hall⟩, hB⟩ hK
  dsimp only [encE]
  gi_wp2
  exact hK _ _ ((KeepsOthers.alloc _ _).from _) (Kc.ofNew ((Below.refl _ _).alloc (Nat.le_refl _) _) hB.size) ⟨⟨bR.alloc _, hall⟩, hB.alloc hB.size _⟩ ⟨W.heap.size, bR.lt, heap_alloc_new _ _, rfl⟩
 case body =>
  rintro l pre x a' W hl0 ⟨r, hr0⟩ ⟨⟨bR, hall⟩, hB⟩ ⟨Bx, hBx, bX, rfl⟩ _
  obtain ⟨q0, q1⟩ := box2 bX
  have cR := bR.cell
  have fR := bR.frozen
  by_cases hx : x.2.w < 0
  ·gi_wp2
   exact ⟨(KeepsOthers.setCell _ _ _).from _, ⟨rfl, ⟨x, by simp, hx⟩, bR.set _⟩, (hbw.trans (hB.mono hbw.size)).setCell (p := ⟨w.heap.size + 1, 0, none⟩) (by simp) _⟩
  ·gi_wp2
   refine ⟨(KeepsOthers.refl _).from _, Kc.refl _ _ _, ⟨bR, fun z hz => ?_⟩, hB⟩
   rcases List.mem_append.1 hz with hz | hz
   ·exact hall z hz
   ·obtain rfl : z = x := by simpa using hz
    exact Int.not_lt.2 hx
 case done =>
  rintro D ys W hD rfl ⟨⟨bR, hall⟩, hB⟩ hK
  have cR := bR.cell
  have fR := bR.frozen
  gi_wp2
  have hK' := (KeepsOthers.setCell W ⟨w.heap.size + 1, 0, none⟩ (.bool false)).same D _ hK rfl
  refine ⟨by simp, .inl ⟨_, _, rfl, run_takeDeferred hK', ?_⟩⟩
  have hc5 := cell_kept (World.cell?_setCell_same' W ⟨w.heap.size + 1, 0, none⟩ (.bool false) (by rw [cR]; rfl)) (grownBy_putObj' _ D (.deferred none)) (fun r e => by cases e; exact ⟨_, hK', rfl⟩)
  have hN : negE G = false := by
   unfold negE
   rw [List.any_eq_false]
   intro x hx
   simpa using hall x hx
  have hBw := hbw.trans (hB.mono hbw.size)
  refine ⟨.bool false, ?_, by rw [hN], (hBw.setCell (p := ⟨w.heap.size + 1, 0, none⟩) (by simp) _).trans (belowK_b (w := w) (Nat.le_refl _) _ D _ _ (by omega) hK' rfl rfl)⟩
  simp [results, Tryz.results101, go_sem, hc5]
 case stop =>
  rintro D c pre W hD hpre ⟨⟨rfl, hex, bR⟩, hB⟩ hK
  obtain ⟨x, hx, hw⟩ := hex
  gi_wp2
  refine ⟨by simp, .inl ⟨_, _, rfl, run_takeDeferred hK, ?_⟩⟩
  have hc5 := cell_kept bR.cell (grownBy_putObj' _ D (.deferred none)) (fun r e => by cases e; exact ⟨_, hK, rfl⟩)
  have hN : negE G = true := by
   unfold negE
   rw [List.any_eq_true]
   exact ⟨x, hpre.subset hx, by simpa using hw⟩
  refine ⟨.bool true, ?_, by rw [hN], hB.trans (belowK_b (w := w) (Nat.le_refl _) W D _ _ (by omega) hK rfl rfl)⟩
  simp [results, Tryz.results101, go_sem, hc5]
end
section
open Go.RowKit
theorem refedges_any {w : World} {P : Nat → Prop} {ao : Option Addr} {G : List Vx} (cap : Nat) (h : VxAt w P ao G) (hl : G.length ≤ 9223372036854775807) :
  Calls Tryz.prog 48 #[.slice ao G.length cap] w fun r w' => r = .returned (.int .i64 (sumE G)) ∧ Below w.heap.size w w' := by
 go_enter Tryz.func48, Tryz.ntmps48
 go_wp2
 go_loopw [3, 4] (fun n i wr => ∃ (k : Nat), k ≤ G.length ∧ i = .int .i64 k ∧ n = .int .i64 (sumE (G.take k)) ∧ Below w.heap.size w wr) (fun _ i _ => G.length - (intOf i).toNat)
 case atStart => exact ⟨0, Nat.zero_le _, rfl, rfl, Below.refl _ _⟩
 case round =>
  obtain ⟨k, hk, rfl, rfl, hb⟩ := hrel
  by_cases hlt : k < G.length
  ·obtain ⟨b, off, rfl, hP, hc⟩ := h (by omega)
   obtain ⟨eo, ec, c0, c1, c2, _⟩ := hc k hlt
   have hbb := lt_cell c0
   have d2 := (hb.cell (p := ⟨b, off + k * 3 + 2, none⟩) hbb).trans c2
   have HS : Hid _ := sumE_snoc G k hlt
   clear c0 c1 c2 hc
   generalize G[k] = y at d2 HS
   go_wp2
   go_roundw
   case rel => exact ⟨k + 1, by omega, by go_num, by rw [HS.out], hb⟩
   case measure => simp [intOf]; omega
  ·obtain rfl : k = G.length := by omega
   go_wp2
   go_ret
   exact ⟨by rw [List.take_length]; rfl, hb⟩
theorem findN_from {l : List Int} {x : Int} {k : Nat} (hk : k ≤ l.length) (h1 : ∀ j (h : j < l.length), j < k → l[j] < x) (h2 : ∀ h : k < l.length, ¬ l[k] < x) : findN l x = k := by
 have hle := findN_le l x
 rcases Nat.lt_trichotomy (findN l x) k with h | h | h
 ·exact absurd (h1 _ (by omega) h) (findN_stop l x (by omega))
 ·exact h
 ·obtain ⟨h', h''⟩ := findN_lt l x k h
  exact absurd h'' (h2 h')
set_option maxHeartbeats 1000000 in
theorem reffind_any {w : World} {P : Nat → Prop} {ao : Option Addr} {G : List Vx} (cap : Nat) (x : Int) (h : VxAt w P ao G) (hl : G.length ≤ 9223372036854775807) :
  Calls Tryz.prog 49 #[.slice ao G.length cap, .int .i64 x] w fun r w' => r = .returned (.tuple #[.int .i64 (findN (ids G) x), .bool (foundB (ids G) x)]) ∧ Below w.heap.size w w' := by
 go_enter Tryz.func49, Tryz.ntmps49
 go_wp2
 go_loopw [6] (fun i wr => ∃ (k : Nat), k ≤ G.length ∧ i = .int .i64 k ∧ Hid (∀ j (h : j < (ids G).length), j < k → (ids G)[j] < x) ∧ Below w.heap.size w wr) (fun i _ => G.length - (intOf i).toNat)
 case atStart => exact ⟨0, Nat.zero_le _, rfl, fun j _ hj => absurd hj (by omega), Below.refl _ _⟩
 case round =>
  obtain ⟨k, hk, rfl, HR, hb⟩ := hrel
  by_cases hlt : k < G.length
  ·obtain ⟨b, off, rfl, hP, hc⟩ := h (by omega)
   obtain ⟨eo, ec, c0, c1, c2, _⟩ := hc k hlt
   have hbb := lt_cell c0
   have d0 := (hb.cell (p := ⟨b, off + k * 3, none⟩) hbb).trans c0
   have HG : Hid ((ids G)[k]'(by rw [ids_len]; exact hlt) = G[k].id) := ids_get G k hlt
   clear c0 c1 c2 hc
   generalize G[k] = y at d0 HG
   by_cases hy : y.id < x
   ·go_wp2
    go_roundw
    case rel => exact ⟨k + 1, by omega, by go_num, (fun j hj hjk => by
     by_cases e : j = k
     ·subst e; rw [HG.out]; exact hy
     ·exact HR.out j hj (by omega)), hb⟩
    case measure => simp [intOf]; omega
   ·have HF : Hid (findN (ids G) x = k) := findN_from (by rw [ids_len]; exact hk) HR.out (fun h => by rw [HG.out]; exact hy)
    have HB : Hid (foundB (ids G) x = (y.id == x)) := by
     show _ = _
     unfold foundB
     rw [HF.out, List.getElem?_eq_getElem (by rw [ids_len]; exact hlt), HG.out]
     rfl
    go_wp2
    go_quiet (fail)
    go_wp2
    go_ret2
    exact ⟨by rw [HF.out, HB.out]; rfl, bel_drewN hb _⟩
  ·have HF : Hid (findN (ids G) x = k) := findN_from (by rw [ids_len]; exact hk) HR.out (fun h => by rw [ids_len] at h; exact absurd h hlt)
   have HB : Hid (foundB (ids G) x = false) := by
    show _ = _
    unfold foundB
    rw [HF.out, List.getElem?_eq_none (by rw [ids_len]; omega)]; rfl
   have hd : decide ((k : Int) < (G.length : Int)) = false := by rw [decide_eq_false_iff_not]; omega
   go_wp2
   go_quiet (fail)
   go_wp2
   go_ret2
   exact ⟨by rw [HF.out, HB.out]; rfl, bel_drewN hb _⟩
end
section
open Go.RowKit
def kNm : List ByteArray := [⟨#[98, 102, 115]⟩, ⟨#[99, 99]⟩, ⟨#[99, 111, 108, 111, 114, 115]⟩, ⟨#[100, 101, 103, 114, 101, 101]⟩, ⟨#[107, 99, 111, 114, 101]⟩, ⟨#[108, 97, 98, 101, 108, 115]⟩, ⟨#[109, 97, 116, 99, 104, 105, 110, 103]⟩, ⟨#[112, 97, 103, 101, 114, 97, 110, 107]⟩, ⟨#[115, 115, 115, 112]⟩, ⟨#[116, 114, 105, 97, 110, 103, 108, 101, 115]⟩]
theorem kc_row {w W : World} (L : List ByteArray) (h : w.alloc (.cells (L.map Value.string).toArray 9) = W) : (∀ j (hj : j < L.length), W.cell? ⟨w.heap.size, j, none⟩ = some (.string L[j])) ∧ Below w.heap.size w W := by
 have hh : W.heap[w.heap.size]? = some (.cells (L.map Value.string).toArray 9 (0, 0)) := by rw [← h]; exact heap_alloc_new _ _
 refine ⟨fun j hj => ?_, by rw [← h]; exact (Below.refl _ _).alloc (Nat.le_refl _) _⟩
 simp [World.cell?, hh, hj]
theorem kc_names (w : World) : Calls Tryz.prog 47 #[] w fun r w' => r = .returned (.slice (some ⟨w.heap.size, 0, none⟩) 10 10) ∧ w' = w.alloc (.cells (kNm.map Value.string).toArray 9) := by
 go_enter Tryz.func47, Tryz.ntmps47
 go_wp2
 go_ret
 exact ⟨rfl, rfl⟩
set_option maxHeartbeats 1000000 in
theorem rknown_any (s : ByteArray) (w : World) (hs : ∃ y ∈ kNm, (y.toList == s.toList) = true) : Calls Tryz.prog 18 #[.string s] w fun r w' => r = .returned (.bool true) ∧ Below w.heap.size w w' := by
 have HS : Hid _ := hs
 clear hs
 go_enter Tryz.func18, Tryz.ntmps18
 go_wp2_with (go_at_call 47; refine (kc_names _).mono ?_; rintro r w1 ⟨rfl, hw1⟩; obtain ⟨hc1, hb1⟩ := kc_row kNm hw1.symm; have HC1 : Hid _ := hc1; have HB1 : Hid _ := hb1; clear hw1 hc1 hb1)
 go_loopw [2, 4] (fun _ i wr => ∃ j : Nat, j ≤ 10 ∧ i = .int .i64 j ∧ Hid (∀ y ∈ kNm.take j, (y.toList == s.toList) = false) ∧ wr = w1) (fun _ i _ => 10 - (intOf i).toNat)
 case atStart => exact ⟨0, Nat.zero_le _, rfl, (fun y hy => (by simp at hy)), rfl⟩
 case round =>
  obtain ⟨j, hj, rfl, HF, rfl⟩ := hrel
  by_cases hlt : j < 10
  ·have c1 := HC1.out j hlt
   have HN : Hid (∀ y ∈ kNm.take (j + 1), y ∈ kNm.take j ∨ y = kNm[j]'hlt) := fun y hy => by
    rw [List.take_succ_eq_append_getElem hlt] at hy
    rcases List.mem_append.1 hy with hy | hy
    ·exact Or.inl hy
    ·exact Or.inr (by simpa using hy)
   generalize kNm[j]'hlt = y at c1 HN
   cases hy : (y.toList == s.toList)
   ·have HY : Hid _ := hy
    go_wp2
    go_roundw
    case rel =>
     refine ⟨j + 1, by omega, by go_num, fun z hz => ?_, by first | rfl | trivial⟩
     rcases HN.out z hz with h | rfl
     ·exact HF.out z h
     ·exact HY.out
    case measure => simp [intOf]; omega
   ·go_wp2
    go_ret
    exact ⟨rfl, HB1.out⟩
  ·obtain rfl : j = 10 := by omega
   exfalso
   obtain ⟨y, hy, h1⟩ := HS.out
   have := HF.out y (by rw [List.take_of_length_le (by decide)]; exact hy)
   rw [h1] at this
   cases this
def checkN (s : ByteArray) (G : List Vx) (L : List Int) : Int := if isBfs s then srcN G L else if isSp s then (if negE G then 71 else srcN G L) else if isPr s then turnN L else if isCc s || isDeg s then noneN L else 70
theorem negE_no {G : List Vx} (h : ∀ x ∈ evs G, ¬ x.2.w < 0) : negE G = false := by
 unfold negE
 rw [List.any_eq_false]
 intro x hx
 simpa using h x hx
theorem negE_yes {G : List Vx} {x : Int × Ed} (hx : x ∈ evs G) (h : x.2.w < 0) : negE G = true := by
 unfold negE
 rw [List.any_eq_true]
 exact ⟨x, hx, by simpa using h⟩
theorem rfind_n {w : World} {P : Nat → Prop} {ao : Option Addr} {G : List Vx} (n cap : Nat) (x : Int) (hn : n = G.length) (h : VxAt w P ao G) (hl : G.length ≤ 256) :
  Calls Tryz.prog 49 #[.slice ao n cap, .int .i64 x] w fun r w' => r = .returned (.tuple #[.int .i64 (findN (ids G) x), .bool (foundB (ids G) x)]) ∧ Below w.heap.size w w' := by
 subst hn
 exact reffind_any cap x h (by omega)
section
variable {w : World} {P : Nat → Prop} {ao po : Option Addr} {s : ByteArray} {G : List Vx} {L : List Int} {n cap pn pc : Nat}
set_option maxHeartbeats 2000000 in
theorem rcheck_bfs (h1 : (s.toList == [98, 102, 115]) = true) (hn : n = G.length) (hp : pn = L.length) (hG : VxAt w P ao G) (hL : IsAt w po L) (hl : G.length ≤ 256) :
  Calls Tryz.prog 20 #[.string s, .slice ao n cap, .slice po pn pc] w fun r w' => r = .returned (.int .i64 (srcN G L)) ∧ Below w.heap.size w w' := by
 have e := eq_of_beq h1
 have h2 : (s.toList == [115, 115, 115, 112]) = false := by rw [e]; rfl
 by_cases hp1 : pn = 1
 ·obtain ⟨b, off, rfl, hc⟩ := hL.one (by omega)
  have HT : Hid (srcN G L = if foundB (ids G) (L.getD 0 0) = true then 0 else 71) := by
   show _ = _
   unfold srcN
   have : L.length = 1 := by omega
   simp [this]
  generalize L.getD 0 0 = x at hc HT
  subst hp1
  rw [HT.out]
  obtain ⟨fb, hfb⟩ : ∃ fb, foundB (ids G) x = fb := ⟨_, rfl⟩
  have HF : Hid _ := hfb
  rw [hfb]
  have HN : Hid _ := hn
  have HG : Hid _ := hG
  clear hn hp hL hG HT hfb e
  go_enter Tryz.func20, Tryz.ntmps20
  cases fb
  ·go_wp2_with (go_at_call 49; refine (rfind_n n cap x HN.out HG.out hl).mono ?_; rintro r w1 ⟨rfl, hb1⟩; rw [HF.out]; have HB1 : Hid _ := hb1; clear hb1)
   go_ret
   exact ⟨by simp, HB1.out⟩
  ·go_wp2_with (go_at_call 49; refine (rfind_n n cap x HN.out HG.out hl).mono ?_; rintro r w1 ⟨rfl, hb1⟩; rw [HF.out]; have HB1 : Hid _ := hb1; clear hb1)
   go_loopw [6, 10, 11] (fun _ i _ wr => i = .int .i64 0 ∧ wr = w1) (fun _ _ _ _ => 0)
   case atStart => exact ⟨rfl, rfl⟩
   case round =>
    obtain ⟨rfl, rfl⟩ := hrel
    by_cases h0 : 0 < n
    ·go_wp2
     go_ret
     exact ⟨by simp, HB1.out⟩
    ·go_wp2
     go_ret
     exact ⟨by simp, HB1.out⟩
 ·have HT : Hid (srcN G L = 71) := by
   show _ = _
   unfold srcN
   rw [if_neg (by omega)]
  rw [HT.out]
  have hb : ((pn : Int) != 1) = true := by simp; omega
  clear hn hp hL hG HT e
  go_enter Tryz.func20, Tryz.ntmps20
  go_wp2
  all_goals first | (exfalso; omega) | (go_ret; exact ⟨rfl, Below.refl _ _⟩)
set_option maxHeartbeats 2000000 in
theorem rcheck_pr (h4 : (s.toList == [112, 97, 103, 101, 114, 97, 110, 107]) = true) (hp : pn = L.length) (hL : IsAt w po L) :
  Calls Tryz.prog 20 #[.string s, .slice ao n cap, .slice po pn pc] w fun r w' => r = .returned (.int .i64 (turnN L)) ∧ Below w.heap.size w w' := by
 have e := eq_of_beq h4
 have h1 : (s.toList == [98, 102, 115]) = false := by rw [e]; rfl
 have h2 : (s.toList == [115, 115, 115, 112]) = false := by rw [e]; rfl
 by_cases hp1 : pn = 1
 ·obtain ⟨b, off, rfl, hc⟩ := hL.one (by omega)
  have HT : Hid (turnN L = if 0 ≤ L.getD 0 0 ∧ L.getD 0 0 ≤ 100 then 0 else 71) := by
   show _ = _
   unfold turnN
   have : L.length = 1 := by omega
   simp [this]
  generalize L.getD 0 0 = x at hc HT
  subst hp1
  rw [HT.out]
  clear hp hL HT e
  go_enter Tryz.func20, Tryz.ntmps20
  by_cases g0 : x < 0
  ·go_wp2
   all_goals first | (exfalso; omega) | (go_ret; exact ⟨by first | rfl | (rw [if_neg (by omega)]; rfl), Below.refl _ _⟩)
  ·by_cases g1 : 100 < x
   ·go_wp2
    all_goals first | (exfalso; omega) | (go_ret; exact ⟨by first | rfl | (rw [if_neg (by omega)]; rfl), Below.refl _ _⟩)
   ·go_wp2
    all_goals first | (exfalso; omega) | (go_ret; exact ⟨by first | rfl | (rw [if_pos (by omega)]; rfl), Below.refl _ _⟩)
 ·have HT : Hid (turnN L = 71) := by
   show _ = _
   unfold turnN
   rw [if_neg (by omega)]
  rw [HT.out]
  have hb : ((pn : Int) != 1) = true := by simp; omega
  clear hp hL HT e
  go_enter Tryz.func20, Tryz.ntmps20
  go_wp2
  all_goals first | (exfalso; omega) | (go_ret; exact ⟨rfl, Below.refl _ _⟩)
set_option maxHeartbeats 2000000 in
theorem rcheck_none (h1 : (s.toList == [98, 102, 115]) = false) (h2 : (s.toList == [115, 115, 115, 112]) = false) (h4 : (s.toList == [112, 97, 103, 101, 114, 97, 110, 107]) = false) (h5 : (s.toList == [108, 97, 98, 101, 108, 115]) = false) (h6 : (s.toList == [107, 99, 111, 114, 101]) = false) (hk : ∃ y ∈ kNm, (y.toList == s.toList) = true) (hp : pn = L.length) :
  Calls Tryz.prog 20 #[.string s, .slice ao n cap, .slice po pn pc] w fun r w' => r = .returned (.int .i64 (noneN L)) ∧ Below w.heap.size w w' := by
 have HK : Hid _ := hk
 unfold noneN
 rw [← hp]
 by_cases h0 : pn = 0
 ·subst h0
  clear hp hk
  go_enter Tryz.func20, Tryz.ntmps20
  go_wp2_with (go_at_call 18; refine (rknown_any s _ HK.out).mono ?_; rintro r w1 ⟨rfl, hb1⟩; have HB1 : Hid _ := hb1; clear hb1)
  go_ret
  exact ⟨by simp, HB1.out⟩
 ·have hb : ((pn : Int) != 0) = true := by simp; omega
  clear hp hk
  go_enter Tryz.func20, Tryz.ntmps20
  go_wp2_with (go_at_call 18; refine (rknown_any s _ HK.out).mono ?_; rintro r w1 ⟨rfl, hb1⟩; have HB1 : Hid _ := hb1; clear hb1)
  all_goals first | (exfalso; omega) | (go_ret; exact ⟨by simp, HB1.out⟩)
set_option maxHeartbeats 4000000 in
theorem rcheck_sp (h2 : (s.toList == [115, 115, 115, 112]) = true) (hn : n = G.length) (hp : pn = L.length) (hG : VxAt w P ao G) (hok : ∀ v ∈ G, v.ok) (hL : IsAt w po L) (hl : G.length ≤ 256) :
  Calls Tryz.prog 20 #[.string s, .slice ao n cap, .slice po pn pc] w fun r w' => r = .returned (.int .i64 (if negE G then 71 else srcN G L)) ∧ Below w.heap.size w w' := by
 have e := eq_of_beq h2
 obtain ⟨R, hR⟩ : ∃ R : Int, (if negE G then 71 else srcN G L) = R := ⟨_, rfl⟩
 have HR1 : Hid (negE G = true → R = 71) := fun h => by rw [← hR, h]; rfl
 have HR0 : Hid (negE G = false → R = srcN G L) := fun h => by rw [← hR, h]; rfl
 rw [hR]
 clear hR
 have h1 : (s.toList == [98, 102, 115]) = false := by rw [e]; rfl
 by_cases hp1 : pn = 1
 ·obtain ⟨b, off, rfl, hc⟩ := hL.one (by omega)
  have HT : Hid (srcN G L = if foundB (ids G) (L.getD 0 0) = true then 0 else 71) := by
   show _ = _
   unfold srcN
   have : L.length = 1 := by omega
   simp [this]
  generalize L.getD 0 0 = x at hc HT
  subst hp1
  obtain ⟨fb, hfb⟩ : ∃ fb, foundB (ids G) x = fb := ⟨_, rfl⟩
  rw [hfb] at HT
  rw [HT.out] at HR0
  have HF : Hid _ := hfb
  have HN : Hid _ := hn
  have HG : Hid _ := hG
  have HOk : Hid _ := hok
  have hn6 : n ≤ 256 := by omega
  clear hn hp hL hG HT hfb e hok
  go_enter Tryz.func20, Tryz.ntmps20
  cases fb
  ·obtain rfl : R = 71 := by
    cases hN : negE G
    ·exact HR0.out hN
    ·exact HR1.out hN
   go_wp2_with (go_at_call 49; refine (rfind_n n cap x HN.out HG.out hl).mono ?_; rintro r w1 ⟨rfl, hb1⟩; rw [HF.out]; have HB1 : Hid _ := hb1; clear hb1)
   go_ret
   exact ⟨rfl, HB1.out⟩
  ·go_wp2_with (go_at_call 49; refine (rfind_n n cap x HN.out HG.out hl).mono ?_; rintro r w1 ⟨rfl, hb1⟩; rw [HF.out]; have HB1 : Hid _ := hb1; have HG1 : Hid _ := kc_new HG.out hb1; clear hb1)
   go_loopw [6, 10, 11] (fun _ i _ wr => ∃ k : Nat, k ≤ n ∧ i = .int .i64 k ∧ noNeg (evs (G.take k)) ∧ wr = w1) (fun _ i _ _ => n - (intOf i).toNat)
   case atStart => exact ⟨0, Nat.zero_le _, rfl, (fun x hx => (by simp [evs] at hx)), rfl⟩
   case round =>
    obtain ⟨k, hk, rfl, HNo, rfl⟩ := hrel
    by_cases hlt : k < n
    ·have hkG : k < G.length := by have := HN.out; omega
     obtain ⟨b', off', rfl, hP, hcs⟩ := HG1.out (by omega)
     obtain ⟨eo, ec, c0, c1, c2, hE⟩ := hcs k hkG
     have HS : Hid _ := evs_snoc G k hkG
     have HM : Hid (∀ e ∈ G[k].es, (G[k].id, e) ∈ evs G) := fun e he => by
      unfold evs
      exact List.mem_flatMap.2 ⟨G[k], List.getElem_mem hkG, List.mem_map.2 ⟨e, he, rfl⟩⟩
     have hlen : G[k].es.length ≤ 9223372036854775807 := Nat.le_trans (HOk.out _ (List.getElem_mem hkG)).len (by decide)
     have HE : Hid _ := hE
     generalize G[k] = y at c0 c1 c2 HS HM HE hlen
     have HNk : Hid (noNeg (evs (G.take k))) := HNo
     clear hcs hE HNo
     go_wp2
     go_loopw [6, 11] (fun _ j wx => ∃ m : Nat, m ≤ y.es.length ∧ j = .int .i64 m ∧ noNeg ((y.es.take m).map fun e => (y.id, e)) ∧ wx = wr) (fun _ j _ => y.es.length - (intOf j).toNat)
     case atStart => exact ⟨0, Nat.zero_le _, rfl, (fun x hx => (by simp at hx)), rfl⟩
     case round =>
      obtain ⟨m, hm, rfl, HNm, rfl⟩ := hrel
      by_cases hml : m < y.es.length
      ·obtain ⟨be, oe, rfl, _, hce⟩ := HE.out (by omega)
       obtain ⟨_, d1⟩ := hce m hml
       have HSm : Hid _ := take_snoc_map hml y.id
       have HMm : Hid _ := HM.out y.es[m] (List.getElem_mem hml)
       generalize y.es[m] = z at d1 HSm HMm
       have HNm2 : Hid (noNeg ((y.es.take m).map fun e => (y.id, e))) := HNm
       clear hce HNm
       by_cases hz : z.w < 0
       ·obtain rfl : R = 71 := HR1.out (negE_yes HMm.out hz)
        have hzb : decide (z.w < 0) = true := decide_eq_true hz
        go_wp2
        all_goals first | (exfalso; omega) | (go_ret; exact ⟨rfl, HB1.out⟩)
       ·go_wp2
        go_roundw
        case rel =>
         refine ⟨m + 1, by omega, by go_num, ?_, by first | rfl | trivial⟩
         rw [HSm.out]
         intro q hq
         rcases List.mem_append.1 hq with hq | hq
         ·exact HNm2.out q hq
         ·obtain rfl : q = (y.id, z) := by simpa using hq
          exact by first | exact hz | exact Int.not_lt.2 hz
        case measure => simp [intOf]; omega
      ·obtain rfl : m = y.es.length := by omega
       rw [List.take_length] at HNm
       have HNm2 : Hid (noNeg (y.es.map fun e => (y.id, e))) := HNm
       clear HNm
       go_wp2
       go_roundw
       case rel =>
        refine ⟨k + 1, by omega, by go_num, ?_, by first | rfl | trivial⟩
        rw [HS.out]
        intro q hq
        rcases List.mem_append.1 hq with hq | hq
        ·exact HNk.out q hq
        ·exact HNm2.out q hq
       case measure => simp [intOf]; omega
    ·obtain rfl : k = n := by omega
     obtain rfl : R = 0 := HR0.out (negE_no (by rw [HN.out, List.take_length] at HNo; exact HNo))
     clear HNo
     go_wp2
     go_ret
     exact ⟨rfl, HB1.out⟩
 ·have HT : Hid (srcN G L = 71) := by
   show _ = _
   unfold srcN
   rw [if_neg (by omega)]
  obtain rfl : R = 71 := by
   cases hN : negE G
   ·rw [HR0.out hN, HT.out]
   ·exact HR1.out hN
  have hb : ((pn : Int) != 1) = true := by simp; omega
  clear hn hp hL hG HT e hok
  go_enter Tryz.func20, Tryz.ntmps20
  go_wp2
  all_goals first | (exfalso; omega) | (go_ret; exact ⟨rfl, Below.refl _ _⟩)
end
end
section
open Go.RowKit
section
variable {w : World} {P : Nat → Prop} {ao po : Option Addr} {s : ByteArray} {G : List Vx} {L : List Int} {n cap pn pc : Nat}
theorem below0_n (hn : n = G.length) (h : VxAt w P ao G) (hok : ∀ v ∈ G, v.ok) (hl : G.length ≤ 256) :
  Calls Tryz.prog 101 #[.agg #[.slice ao n cap]] w fun r w' => r = .returned (.bool (negE G)) ∧ Below w.heap.size w w' := by
 subst hn
 exact below0_any cap h hok hl
set_option maxHeartbeats 2000000 in
theorem kcheck_any (hn : n = G.length) (hp : pn = L.length) (hG : VxAt w P ao G) (hok : ∀ v ∈ G, v.ok) (hL : IsAt w po L) (hl : G.length ≤ 256) (hr : Rise (ids G)) :
  Calls Tryz.prog 79 #[.string s, .agg #[.slice ao n cap], .slice po pn pc] w fun r w' => r = .returned (.int .i64 (checkN s G L)) ∧ Below w.heap.size w w' := by
 obtain ⟨W0, hW0⟩ : ∃ W0, w.alloc (.cells #[.slice ao n cap] 24) = W0 := ⟨_, rfl⟩
 have hB0 : Below w.heap.size w W0 := by rw [← hW0]; exact (Below.refl _ _).alloc (Nat.le_refl _) _
 have hcg : W0.cell? ⟨w.heap.size, 0, none⟩ = some (.slice ao n cap) := by
  have hh : W0.heap[w.heap.size]? = some (.cells #[.slice ao n cap] 24 (0, 0)) := by rw [← hW0]; exact heap_alloc_new _ _
  simp [World.cell?, hh]
 have HS : Hid (∀ W, Below W0.heap.size W0 W → Calls Tryz.prog 100 #[.agg #[.slice ao n cap], .slice po pn pc] W fun r w' => r = .returned (.int .i64 (srcN G L)) ∧ Below W.heap.size W w') := fun W hb => source_any G L n cap pn pc hn hp (kc_new (kc_new hG hB0) hb) ((hL.new hB0).new hb) hl hr
 have HN : Hid (Calls Tryz.prog 101 #[.agg #[.slice ao n cap]] W0 fun r w' => r = .returned (.bool (negE G)) ∧ Below W0.heap.size W0 w') := below0_n hn (kc_new hG hB0) hok hl
 have HT : Hid (Calls Tryz.prog 76 #[.slice po pn pc] W0 fun r w' => r = .returned (.int .i64 (turnN L)) ∧ w' = W0) := turns_any L pn pc W0 hp (hL.new hB0)
 have HO : Hid (Calls Tryz.prog 78 #[.slice po pn pc] W0 fun r w' => r = .returned (.int .i64 (noneN L)) ∧ w' = W0) := none_any L pn pc W0 hp
 have HB0 : Hid _ := hB0
 clear hn hp hG hok hL hl hr hB0
 unfold checkN isBfs isSp isPr isCc isDeg
 cases h1 : (s.toList == [98, 102, 115])
 ·cases h5 : (s.toList == [115, 115, 115, 112])
  ·cases h4 : (s.toList == [112, 97, 103, 101, 114, 97, 110, 107])
   ·cases h2 : (s.toList == [99, 99])
    ·cases h3 : (s.toList == [100, 101, 103, 114, 101, 101])
     ·go_enter Tryz.func79, Tryz.ntmps79
      go_wp2
      go_ret
      exact ⟨rfl, HB0.out⟩
     ·simp only [Bool.false_eq_true, if_false, Bool.false_or, if_true]
      generalize noneN L = R at HO
      go_enter Tryz.func79, Tryz.ntmps79
      go_wp2_with (go_at_call 78; refine HO.out.mono ?_; rintro r w1 ⟨rfl, rfl⟩)
      go_ret
      exact ⟨rfl, HB0.out⟩
    ·simp only [Bool.false_eq_true, if_false, Bool.true_or, if_true]
     generalize noneN L = R at HO
     go_enter Tryz.func79, Tryz.ntmps79
     go_wp2_with (go_at_call 78; refine HO.out.mono ?_; rintro r w1 ⟨rfl, rfl⟩)
     go_ret
     exact ⟨rfl, HB0.out⟩
   ·simp only [Bool.false_eq_true, if_false, if_true]
    generalize turnN L = R at HT
    go_enter Tryz.func79, Tryz.ntmps79
    go_wp2_with (go_at_call 76; refine HT.out.mono ?_; rintro r w1 ⟨rfl, rfl⟩)
    go_ret
    exact ⟨rfl, HB0.out⟩
  ·simp only [Bool.false_eq_true, if_false, if_true]
   generalize srcN G L = R at HS
   cases hng : negE G
   ·rw [hng] at HN
    simp only [Bool.false_eq_true, if_false]
    go_enter Tryz.func79, Tryz.ntmps79
    go_wp2_with (first
     | (go_at_call 101; refine HN.out.mono ?_; rintro r w1 ⟨rfl, hb1⟩; have c1 := (hb1.cell (p := ⟨w.heap.size, 0, none⟩) (lt_cell hcg)).trans hcg; have HB1 : Hid _ := hb1; clear hb1)
     | (go_at_call 100; refine (HS.out _ HB1.out).mono ?_; rintro r w2 ⟨rfl, hb2⟩; have HB2 : Hid _ := HB1.out.trans (hb2.mono HB1.out.size); clear hb2))
    go_ret
    exact ⟨rfl, HB0.out.trans (HB2.out.mono HB0.out.size)⟩
   ·rw [hng] at HN
    simp only [if_true]
    go_enter Tryz.func79, Tryz.ntmps79
    go_wp2_with (go_at_call 101; refine HN.out.mono ?_; rintro r w1 ⟨rfl, hb1⟩; have HB1 : Hid _ := hb1; clear hb1)
    go_ret
    exact ⟨rfl, HB0.out.trans (HB1.out.mono HB0.out.size)⟩
 ·simp only [if_true]
  generalize srcN G L = R at HS
  go_enter Tryz.func79, Tryz.ntmps79
  go_wp2_with (go_at_call 100; refine (HS.out _ (Below.refl _ _)).mono ?_; rintro r w2 ⟨rfl, hb2⟩; have HB2 : Hid _ := hb2; clear hb2)
  go_ret
  exact ⟨rfl, HB0.out.trans (HB2.out.mono HB0.out.size)⟩
theorem rcheck_any (hs : ownS s = true) (hn : n = G.length) (hp : pn = L.length) (hG : VxAt w P ao G) (hok : ∀ v ∈ G, v.ok) (hL : IsAt w po L) (hl : G.length ≤ 256) :
  Calls Tryz.prog 20 #[.string s, .slice ao n cap, .slice po pn pc] w fun r w' => r = .returned (.int .i64 (checkN s G L)) ∧ Below w.heap.size w w' := by
 unfold checkN
 cases h1 : isBfs s
 ·cases h5 : isSp s
  ·cases h4 : isPr s
   ·have hcd : (isCc s || isDeg s) = true := by
     unfold ownS at hs
     rw [h1, h5, h4] at hs
     simpa using hs
    simp only [Bool.false_eq_true, if_false, hcd, if_true]
    rcases Bool.or_eq_true_iff.1 hcd with hc | hc
    ·have e : s.toList = [99, 99] := eq_of_beq hc
     exact rcheck_none h1 h5 h4 (by rw [e]; rfl) (by rw [e]; rfl) ⟨⟨#[99, 99]⟩, by simp [kNm], by rw [e]; kernel_rfl⟩ hp
    ·have e : s.toList = [100, 101, 103, 114, 101, 101] := eq_of_beq hc
     exact rcheck_none h1 h5 h4 (by rw [e]; rfl) (by rw [e]; rfl) ⟨⟨#[100, 101, 103, 114, 101, 101]⟩, by simp [kNm], by rw [e]; kernel_rfl⟩ hp
   ·simp only [Bool.false_eq_true, if_false, if_true]
    exact rcheck_pr h4 hp hL
  ·simp only [Bool.false_eq_true, if_false, if_true]
   exact rcheck_sp h5 hn hp hG hok hL hl
 ·simp only [if_true]
  exact rcheck_bfs h1 hn hp hG hL hl
theorem check_none (hs : ownS s = false) : checkN s G L = 70 := by
 unfold ownS at hs
 simp only [Bool.or_eq_false_iff] at hs
 obtain ⟨⟨⟨⟨h1, h2⟩, h3⟩, h4⟩, h5⟩ := hs
 unfold checkN
 rw [h1, h5, h4, h2, h3]
 rfl
end
end
section
open Go.RowKit
abbrev isCol (s : ByteArray) : Bool := s.toList == [99, 111, 108, 111, 114, 115]
abbrev isLab (s : ByteArray) : Bool := s.toList == [108, 97, 98, 101, 108, 115]
abbrev isMat (s : ByteArray) : Bool := s.toList == [109, 97, 116, 99, 104, 105, 110, 103]
abbrev isTri (s : ByteArray) : Bool := s.toList == [116, 114, 105, 97, 110, 103, 108, 101, 115]
def allS (s : ByteArray) : Bool := kNm.any (fun y => y.toList == s.toList)
def coreN (L : List Int) : Int := if L.length = 1 ∧ 0 ≤ L.getD 0 0 ∧ L.getD 0 0 ≤ 256 then 0 else 71
def mcheckN (s : ByteArray) (G : List Vx) (L : List Int) : Int := if isLab s then turnN L else if isKc s then coreN L else if isCol s || isMat s || isTri s then noneN L else checkN s G L
theorem beq_sym (a b : List UInt8) : (a == b) = (b == a) := by
 rw [Bool.eq_iff_iff, beq_iff_eq, beq_iff_eq]
 exact eq_comm
theorem all_ten (s : ByteArray) : allS s = (isBfs s || (isCc s || (isCol s || (isDeg s || (isKc s || (isLab s || (isMat s || (isPr s || (isSp s || (isTri s)))))))))) := by
 have e0 : (⟨#[98, 102, 115]⟩ : ByteArray).toList = [98, 102, 115] := by kernel_rfl
 have e1 : (⟨#[99, 99]⟩ : ByteArray).toList = [99, 99] := by kernel_rfl
 have e2 : (⟨#[99, 111, 108, 111, 114, 115]⟩ : ByteArray).toList = [99, 111, 108, 111, 114, 115] := by kernel_rfl
 have e3 : (⟨#[100, 101, 103, 114, 101, 101]⟩ : ByteArray).toList = [100, 101, 103, 114, 101, 101] := by kernel_rfl
 have e4 : (⟨#[107, 99, 111, 114, 101]⟩ : ByteArray).toList = [107, 99, 111, 114, 101] := by kernel_rfl
 have e5 : (⟨#[108, 97, 98, 101, 108, 115]⟩ : ByteArray).toList = [108, 97, 98, 101, 108, 115] := by kernel_rfl
 have e6 : (⟨#[109, 97, 116, 99, 104, 105, 110, 103]⟩ : ByteArray).toList = [109, 97, 116, 99, 104, 105, 110, 103] := by kernel_rfl
 have e7 : (⟨#[112, 97, 103, 101, 114, 97, 110, 107]⟩ : ByteArray).toList = [112, 97, 103, 101, 114, 97, 110, 107] := by kernel_rfl
 have e8 : (⟨#[115, 115, 115, 112]⟩ : ByteArray).toList = [115, 115, 115, 112] := by kernel_rfl
 have e9 : (⟨#[116, 114, 105, 97, 110, 103, 108, 101, 115]⟩ : ByteArray).toList = [116, 114, 105, 97, 110, 103, 108, 101, 115] := by kernel_rfl
 unfold allS kNm
 simp only [List.any_cons, List.any_nil, e0, e1, e2, e3, e4, e5, e6, e7, e8, e9, Bool.or_false]
 rw [beq_sym [98, 102, 115], beq_sym [99, 99], beq_sym [99, 111, 108, 111, 114, 115], beq_sym [100, 101, 103, 114, 101, 101], beq_sym [107, 99, 111, 114, 101], beq_sym [108, 97, 98, 101, 108, 115], beq_sym [109, 97, 116, 99, 104, 105, 110, 103], beq_sym [112, 97, 103, 101, 114, 97, 110, 107], beq_sym [115, 115, 115, 112], beq_sym [116, 114, 105, 97, 110, 103, 108, 101, 115]]
theorem core_any {ao : Option Addr} (L : List Int) (n cap : Nat) (w : World) (hn : n = L.length) (hL : IsAt w ao L) : Calls Tryz.prog 77 #[.slice ao n cap] w fun r w' => r = .returned (.int .i64 (coreN L)) ∧ w' = w := by
 by_cases h1 : n = 1
 ·obtain ⟨b, off, rfl, hc⟩ := hL.one (by omega)
  have HT : Hid (coreN L = if 0 ≤ L.getD 0 0 ∧ L.getD 0 0 ≤ 256 then 0 else 71) := by
   show _ = _
   unfold coreN
   have : L.length = 1 := by omega
   simp [this]
  generalize L.getD 0 0 = x at hc HT
  subst h1
  rw [HT.out]
  clear hn hL HT
  go_enter Tryz.func77, Tryz.ntmps77
  by_cases g0 : x < 0
  ·go_wp2
   all_goals first | (exfalso; omega) | (go_ret; exact ⟨by first | rfl | (rw [if_neg (by omega)]; rfl), rfl⟩)
  ·by_cases g1 : 256 < x
   ·go_wp2
    all_goals first | (exfalso; omega) | (go_ret; exact ⟨by first | rfl | (rw [if_neg (by omega)]; rfl), rfl⟩)
   ·go_wp2
    all_goals first | (exfalso; omega) | (go_ret; exact ⟨by first | rfl | (rw [if_pos (by omega)]; rfl), rfl⟩)
 ·have HT : Hid (coreN L = 71) := by
   show _ = _
   unfold coreN
   rw [if_neg (by omega)]
  rw [HT.out]
  have hb : ((n : Int) != 1) = true := by simp; omega
  clear hn hL HT
  go_enter Tryz.func77, Tryz.ntmps77
  go_wp2
  all_goals first | (exfalso; omega) | (go_ret; exact ⟨rfl, rfl⟩)
theorem kc_progs (w : World) : Calls Tryz.prog 70 #[] w fun r w' => r = .returned (.slice (some ⟨w.heap.size, 0, none⟩) 10 10) ∧ w' = w.alloc (.cells (kNm.map Value.string).toArray 9) := by
 go_enter Tryz.func70, Tryz.ntmps70
 go_wp2
 go_ret
 exact ⟨rfl, rfl⟩
set_option maxHeartbeats 1000000 in
theorem index_any (s : ByteArray) (w : World) (b : Nat) (hc : ∀ j (hj : j < kNm.length), w.cell? ⟨b, j, none⟩ = some (.string kNm[j])) : Calls Tryz.prog 95 #[.slice (some ⟨b, 0, none⟩) 10 10, .string s] w fun r w' => ∃ k : Int, r = .returned (.int .i64 k) ∧ decide (0 ≤ k) = allS s ∧ w' = w := by
 have HC : Hid _ := hc
 clear hc
 go_enter Tryz.func95, Tryz.ntmps95
 go_wp2
 go_loopw [5, 8] (fun _ i wr => ∃ j : Nat, j ≤ 10 ∧ i = .int .i64 j ∧ Hid (∀ y ∈ kNm.take j, (y.toList == s.toList) = false) ∧ wr = w) (fun _ i _ => 10 - (intOf i).toNat)
 case atStart => exact ⟨0, Nat.zero_le _, rfl, (fun y hy => (by simp at hy)), rfl⟩
 case round =>
  obtain ⟨j, hj, rfl, HF, rfl⟩ := hrel
  by_cases hlt : j < 10
  ·have c1 := HC.out j hlt
   have HN : Hid (∀ y ∈ kNm.take (j + 1), y ∈ kNm.take j ∨ y = kNm[j]'hlt) := fun y hy => by
    rw [List.take_succ_eq_append_getElem hlt] at hy
    rcases List.mem_append.1 hy with hy | hy
    ·exact Or.inl hy
    ·exact Or.inr (by simpa using hy)
   have HMem : Hid (kNm[j]'hlt ∈ kNm) := List.getElem_mem hlt
   generalize kNm[j]'hlt = y at c1 HN HMem
   have hsy := beq_sym s.toList y.toList
   cases hy : (y.toList == s.toList)
   ·rw [hy] at hsy
    have HY : Hid _ := hy
    clear hy
    go_wp2
    go_roundw
    case rel =>
     refine ⟨j + 1, by omega, by go_num, fun z hz => ?_, by first | rfl | trivial⟩
     rcases HN.out z hz with h | rfl
     ·exact HF.out z h
     ·exact HY.out
    case measure => simp [intOf]; omega
   ·rw [hy] at hsy
    have HA : Hid (allS s = true) := List.any_eq_true.2 ⟨y, HMem.out, hy⟩
    clear hy
    go_wp2
    go_ret
    exact ⟨j, rfl, by rw [HA.out]; simp, rfl⟩
  ·obtain rfl : j = 10 := by omega
   have HA : Hid (allS s = false) := by
    show _ = _
    unfold allS
    rw [List.any_eq_false]
    intro y hy
    rw [HF.out y (by rw [List.take_of_length_le (by decide)]; exact hy)]
    simp
   go_wp2
   go_ret
   exact ⟨-1, rfl, by rw [HA.out]; rfl, rfl⟩
theorem contains_any (s : ByteArray) (w : World) (b : Nat) (hc : ∀ j (hj : j < kNm.length), w.cell? ⟨b, j, none⟩ = some (.string kNm[j])) : Calls Tryz.prog 69 #[.slice (some ⟨b, 0, none⟩) 10 10, .string s] w fun r w' => r = .returned (.bool (allS s)) ∧ w' = w := by
 have HC : Hid _ := hc
 clear hc
 go_enter Tryz.func69, Tryz.ntmps69
 go_wp2_with (go_at_call 95; refine (index_any s _ b HC.out).mono ?_; rintro r w1 ⟨k, rfl, hk, rfl⟩; have HK : Hid _ := hk; clear hk)
 go_ret
 exact ⟨by rw [HK.out]; rfl, rfl⟩
theorem mknown_any (s : ByteArray) (w : World) : Calls Tryz.prog 43 #[.string s] w fun r w' => r = .returned (.bool (allS s)) ∧ Below w.heap.size w w' := by
 go_enter Tryz.func43, Tryz.ntmps43
 go_wp2_with (first
  | (go_at_call 70; refine (kc_progs _).mono ?_; rintro r w1 ⟨rfl, hw1⟩; obtain ⟨hc1, hb1⟩ := kc_row kNm hw1.symm; have HC1 : Hid _ := hc1; have HB1 : Hid _ := hb1; clear hw1 hc1 hb1)
  | (go_at_call 69; refine (contains_any s _ _ HC1.out).mono ?_; rintro r w2 ⟨rfl, rfl⟩))
 go_ret
 exact ⟨rfl, HB1.out⟩
set_option maxHeartbeats 1000000 in
theorem rknown_all (s : ByteArray) (w : World) : Calls Tryz.prog 18 #[.string s] w fun r w' => r = .returned (.bool (allS s)) ∧ Below w.heap.size w w' := by
 cases hs : allS s
 ·have HS : Hid (∀ y ∈ kNm, (y.toList == s.toList) = false) := fun y hy => by
   unfold allS at hs
   rw [List.any_eq_false] at hs
   simpa using hs y hy
  clear hs
  go_enter Tryz.func18, Tryz.ntmps18
  go_wp2_with (go_at_call 47; refine (kc_names _).mono ?_; rintro r w1 ⟨rfl, hw1⟩; obtain ⟨hc1, hb1⟩ := kc_row kNm hw1.symm; have HC1 : Hid _ := hc1; have HB1 : Hid _ := hb1; clear hw1 hc1 hb1)
  go_loopw [2, 4] (fun _ i wr => ∃ j : Nat, j ≤ 10 ∧ i = .int .i64 j ∧ wr = w1) (fun _ i _ => 10 - (intOf i).toNat)
  case atStart => exact ⟨0, Nat.zero_le _, rfl, rfl⟩
  case round =>
   obtain ⟨j, hj, rfl, rfl⟩ := hrel
   by_cases hlt : j < 10
   ·have c1 := HC1.out j hlt
    have hy := HS.out _ (List.getElem_mem hlt)
    generalize kNm[j]'hlt = y at c1 hy
    go_wp2
    go_roundw
    case rel => exact ⟨j + 1, by omega, by go_num, by first | rfl | trivial⟩
    case measure => simp [intOf]; omega
   ·obtain rfl : j = 10 := by omega
    go_wp2
    go_ret
    exact ⟨rfl, HB1.out⟩
 ·refine rknown_any s w ?_
  unfold allS at hs
  rw [List.any_eq_true] at hs
  exact hs
section
variable {w : World} {P : Nat → Prop} {ao po : Option Addr} {s : ByteArray} {G : List Vx} {L : List Int} {n cap pn pc : Nat}
set_option maxHeartbeats 2000000 in
theorem rcheck_lab (h4 : (s.toList == [108, 97, 98, 101, 108, 115]) = true) (hp : pn = L.length) (hL : IsAt w po L) :
  Calls Tryz.prog 20 #[.string s, .slice ao n cap, .slice po pn pc] w fun r w' => r = .returned (.int .i64 (turnN L)) ∧ Below w.heap.size w w' := by
 have e := eq_of_beq h4
 have h1 : (s.toList == [98, 102, 115]) = false := by rw [e]; rfl
 have h2 : (s.toList == [115, 115, 115, 112]) = false := by rw [e]; rfl
 have h3 : (s.toList == [112, 97, 103, 101, 114, 97, 110, 107]) = false := by rw [e]; rfl
 by_cases hp1 : pn = 1
 ·obtain ⟨b, off, rfl, hc⟩ := hL.one (by omega)
  have HT : Hid (turnN L = if 0 ≤ L.getD 0 0 ∧ L.getD 0 0 ≤ 100 then 0 else 71) := by
   show _ = _
   unfold turnN
   have : L.length = 1 := by omega
   simp [this]
  generalize L.getD 0 0 = x at hc HT
  subst hp1
  rw [HT.out]
  clear hp hL HT e
  go_enter Tryz.func20, Tryz.ntmps20
  by_cases g0 : x < 0
  ·go_wp2
   all_goals first | (exfalso; omega) | (go_ret; exact ⟨by first | rfl | (rw [if_neg (by omega)]; rfl), Below.refl _ _⟩)
  ·by_cases g1 : 100 < x
   ·go_wp2
    all_goals first | (exfalso; omega) | (go_ret; exact ⟨by first | rfl | (rw [if_neg (by omega)]; rfl), Below.refl _ _⟩)
   ·go_wp2
    all_goals first | (exfalso; omega) | (go_ret; exact ⟨by first | rfl | (rw [if_pos (by omega)]; rfl), Below.refl _ _⟩)
 ·have HT : Hid (turnN L = 71) := by
   show _ = _
   unfold turnN
   rw [if_neg (by omega)]
  rw [HT.out]
  have hb : ((pn : Int) != 1) = true := by simp; omega
  clear hp hL HT e
  go_enter Tryz.func20, Tryz.ntmps20
  go_wp2
  all_goals first | (exfalso; omega) | (go_ret; exact ⟨rfl, Below.refl _ _⟩)
set_option maxHeartbeats 2000000 in
theorem rcheck_kc (h4 : (s.toList == [107, 99, 111, 114, 101]) = true) (hp : pn = L.length) (hL : IsAt w po L) :
  Calls Tryz.prog 20 #[.string s, .slice ao n cap, .slice po pn pc] w fun r w' => r = .returned (.int .i64 (coreN L)) ∧ Below w.heap.size w w' := by
 have e := eq_of_beq h4
 have h1 : (s.toList == [98, 102, 115]) = false := by rw [e]; rfl
 have h2 : (s.toList == [115, 115, 115, 112]) = false := by rw [e]; rfl
 have h5 : (s.toList == [108, 97, 98, 101, 108, 115]) = false := by rw [e]; rfl
 have h3 : (s.toList == [112, 97, 103, 101, 114, 97, 110, 107]) = false := by rw [e]; rfl
 by_cases hp1 : pn = 1
 ·obtain ⟨b, off, rfl, hc⟩ := hL.one (by omega)
  have HT : Hid (coreN L = if 0 ≤ L.getD 0 0 ∧ L.getD 0 0 ≤ 256 then 0 else 71) := by
   show _ = _
   unfold coreN
   have : L.length = 1 := by omega
   simp [this]
  generalize L.getD 0 0 = x at hc HT
  subst hp1
  rw [HT.out]
  clear hp hL HT e
  go_enter Tryz.func20, Tryz.ntmps20
  by_cases g0 : x < 0
  ·go_wp2
   all_goals first | (exfalso; omega) | (go_ret; exact ⟨by first | rfl | (rw [if_neg (by omega)]; rfl), Below.refl _ _⟩)
  ·by_cases g1 : 256 < x
   ·go_wp2
    all_goals first | (exfalso; omega) | (go_ret; exact ⟨by first | rfl | (rw [if_neg (by omega)]; rfl), Below.refl _ _⟩)
   ·go_wp2
    all_goals first | (exfalso; omega) | (go_ret; exact ⟨by first | rfl | (rw [if_pos (by omega)]; rfl), Below.refl _ _⟩)
 ·have HT : Hid (coreN L = 71) := by
   show _ = _
   unfold coreN
   rw [if_neg (by omega)]
  rw [HT.out]
  have hb : ((pn : Int) != 1) = true := by simp; omega
  clear hp hL HT e
  go_enter Tryz.func20, Tryz.ntmps20
  go_wp2
  all_goals first | (exfalso; omega) | (go_ret; exact ⟨rfl, Below.refl _ _⟩)
set_option maxHeartbeats 1000000 in
theorem rcheck_un (h1 : (s.toList == [98, 102, 115]) = false) (h2 : (s.toList == [115, 115, 115, 112]) = false) (h4 : (s.toList == [112, 97, 103, 101, 114, 97, 110, 107]) = false) (h5 : (s.toList == [108, 97, 98, 101, 108, 115]) = false) (h6 : (s.toList == [107, 99, 111, 114, 101]) = false) (hk : allS s = false) :
  Calls Tryz.prog 20 #[.string s, .slice ao n cap, .slice po pn pc] w fun r w' => r = .returned (.int .i64 70) ∧ Below w.heap.size w w' := by
 have HK : Hid _ := hk
 clear hk
 go_enter Tryz.func20, Tryz.ntmps20
 go_wp2_with (go_at_call 18; refine (rknown_all s _).mono ?_; rintro r w1 ⟨rfl, hb1⟩; rw [HK.out]; have HB1 : Hid _ := hb1; clear hb1)
 go_ret
 exact ⟨rfl, HB1.out⟩
theorem rcheck_all (hn : n = G.length) (hp : pn = L.length) (hG : VxAt w P ao G) (hok : ∀ v ∈ G, v.ok) (hL : IsAt w po L) (hl : G.length ≤ 256) :
  Calls Tryz.prog 20 #[.string s, .slice ao n cap, .slice po pn pc] w fun r w' => r = .returned (.int .i64 (mcheckN s G L)) ∧ Below w.heap.size w w' := by
 unfold mcheckN
 cases h5 : isLab s
 ·cases h6 : isKc s
  ·cases hx : (isCol s || isMat s || isTri s)
   ·simp only [Bool.false_eq_true, if_false]
    cases ho : ownS s
    ·rw [check_none ho]
     have hx2 := hx
     have ho2 := ho
     unfold ownS at ho2
     simp only [Bool.or_eq_false_iff] at ho2 hx2
     obtain ⟨⟨⟨⟨g1, g2⟩, g3⟩, g4⟩, g8⟩ := ho2
     obtain ⟨⟨g5, g6⟩, g7⟩ := hx2
     exact rcheck_un g1 g8 g4 h5 h6 (by rw [all_ten, g1, g2, g3, g4, g5, g6, g7, g8, h5, h6]; rfl)
    ·exact rcheck_any ho hn hp hG hok hL hl
   ·simp only [Bool.false_eq_true, if_false, if_true]
    rcases Bool.or_eq_true_iff.1 hx with hx | hc
    ·rcases Bool.or_eq_true_iff.1 hx with hc | hc
     ·have e : s.toList = [99, 111, 108, 111, 114, 115] := eq_of_beq hc
      exact rcheck_none (by rw [e]; rfl) (by rw [e]; rfl) (by rw [e]; rfl) h5 h6 ⟨⟨#[99, 111, 108, 111, 114, 115]⟩, by simp [kNm], by rw [e]; kernel_rfl⟩ hp
     ·have e : s.toList = [109, 97, 116, 99, 104, 105, 110, 103] := eq_of_beq hc
      exact rcheck_none (by rw [e]; rfl) (by rw [e]; rfl) (by rw [e]; rfl) h5 h6 ⟨⟨#[109, 97, 116, 99, 104, 105, 110, 103]⟩, by simp [kNm], by rw [e]; kernel_rfl⟩ hp
    ·have e : s.toList = [116, 114, 105, 97, 110, 103, 108, 101, 115] := eq_of_beq hc
     exact rcheck_none (by rw [e]; rfl) (by rw [e]; rfl) (by rw [e]; rfl) h5 h6 ⟨⟨#[116, 114, 105, 97, 110, 103, 108, 101, 115]⟩, by simp [kNm], by rw [e]; kernel_rfl⟩ hp
  ·simp only [Bool.false_eq_true, if_false, if_true]
   exact rcheck_kc h6 hp hL
 ·simp only [if_true]
  exact rcheck_lab h5 hp hL
set_option linter.unusedSimpArgs false in
set_option maxHeartbeats 1000000 in
theorem mocheck_any (hn : n = G.length) (hp : pn = L.length) (hG : VxAt w P ao G) (hok : ∀ v ∈ G, v.ok) (hL : IsAt w po L) (hl : G.length ≤ 256) (hr : Rise (ids G)) :
  Calls Tryz.prog 45 #[.string s, .agg #[.slice ao n cap], .slice po pn pc] w fun r w' => r = .returned (.int .i64 (mcheckN s G L)) ∧ Below w.heap.size w w' := by
 obtain ⟨W0, hW0⟩ : ∃ W0, w.alloc (.cells #[.slice ao n cap] 24) = W0 := ⟨_, rfl⟩
 have hB0 : Below w.heap.size w W0 := by rw [← hW0]; exact (Below.refl _ _).alloc (Nat.le_refl _) _
 have hcg : W0.cell? ⟨w.heap.size, 0, none⟩ = some (.slice ao n cap) := by
  have hh : W0.heap[w.heap.size]? = some (.cells #[.slice ao n cap] 24 (0, 0)) := by rw [← hW0]; exact heap_alloc_new _ _
  simp [World.cell?, hh]
 have HK : Hid (Calls Tryz.prog 79 #[.string s, .agg #[.slice ao n cap], .slice po pn pc] W0 fun r w' => r = .returned (.int .i64 (checkN s G L)) ∧ Below W0.heap.size W0 w') := kcheck_any hn hp (kc_new hG hB0) hok (hL.new hB0) hl hr
 have HT : Hid (Calls Tryz.prog 76 #[.slice po pn pc] W0 fun r w' => r = .returned (.int .i64 (turnN L)) ∧ w' = W0) := turns_any L pn pc W0 hp (hL.new hB0)
 have HC : Hid (Calls Tryz.prog 77 #[.slice po pn pc] W0 fun r w' => r = .returned (.int .i64 (coreN L)) ∧ w' = W0) := core_any L pn pc W0 hp (hL.new hB0)
 have HO : Hid (Calls Tryz.prog 78 #[.slice po pn pc] W0 fun r w' => r = .returned (.int .i64 (noneN L)) ∧ w' = W0) := none_any L pn pc W0 hp
 have HB0 : Hid _ := hB0
 clear hn hp hG hok hL hl hr hB0
 unfold mcheckN isLab isKc isCol isMat isTri
 generalize checkN s G L = R0 at HK
 generalize turnN L = R1 at HT
 generalize coreN L = R2 at HC
 generalize noneN L = R3 at HO
 cases h1 : (s.toList == [108, 97, 98, 101, 108, 115])
 ·cases h2 : (s.toList == [107, 99, 111, 114, 101])
  ·cases h3 : (s.toList == [99, 111, 108, 111, 114, 115])
   ·cases h4 : (s.toList == [109, 97, 116, 99, 104, 105, 110, 103])
    ·cases h5 : (s.toList == [116, 114, 105, 97, 110, 103, 108, 101, 115])
     ·simp only [Bool.false_eq_true, if_false, Bool.or_self]
      go_enter Tryz.func45, Tryz.ntmps45
      go_wp2_with (go_at_call 79; refine HK.out.mono ?_; rintro r w1 ⟨rfl, hb1⟩; have HB1 : Hid _ := hb1; clear hb1)
      go_ret
      exact ⟨rfl, HB0.out.trans (HB1.out.mono HB0.out.size)⟩
     ·simp only [Bool.false_eq_true, if_false, if_true, Bool.or_true, Bool.or_false, Bool.true_or, Bool.false_or]
      go_enter Tryz.func45, Tryz.ntmps45
      go_wp2_with (go_at_call 78; refine HO.out.mono ?_; rintro r w1 ⟨rfl, rfl⟩)
      go_ret
      exact ⟨rfl, HB0.out⟩
    ·simp only [Bool.false_eq_true, if_false, if_true, Bool.or_true, Bool.or_false, Bool.true_or, Bool.false_or]
     go_enter Tryz.func45, Tryz.ntmps45
     go_wp2_with (go_at_call 78; refine HO.out.mono ?_; rintro r w1 ⟨rfl, rfl⟩)
     go_ret
     exact ⟨rfl, HB0.out⟩
   ·simp only [Bool.false_eq_true, if_false, if_true, Bool.or_true, Bool.or_false, Bool.true_or, Bool.false_or]
    go_enter Tryz.func45, Tryz.ntmps45
    go_wp2_with (go_at_call 78; refine HO.out.mono ?_; rintro r w1 ⟨rfl, rfl⟩)
    go_ret
    exact ⟨rfl, HB0.out⟩
  ·simp only [Bool.false_eq_true, if_false, if_true]
   go_enter Tryz.func45, Tryz.ntmps45
   go_wp2_with (go_at_call 77; refine HC.out.mono ?_; rintro r w1 ⟨rfl, rfl⟩)
   go_ret
   exact ⟨rfl, HB0.out⟩
 ·simp only [if_true]
  go_enter Tryz.func45, Tryz.ntmps45
  go_wp2_with (go_at_call 76; refine HT.out.mono ?_; rintro r w1 ⟨rfl, rfl⟩)
  go_ret
  exact ⟨rfl, HB0.out⟩
end
end
end Go.Proofs.YtmgjlamglhpnaaaGreat
