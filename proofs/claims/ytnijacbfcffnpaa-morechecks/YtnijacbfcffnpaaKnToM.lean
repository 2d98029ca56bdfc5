import Derived.Test.YtnijacbfcffnpaaAgGetM
import Derived.Test.YtnijacbfcffnpaaKnData
import Derived.Laws.Tables
import Derived.Laws.OwnMore
import Derived.Test.YtnijacbfcffnpaaRegM
import Derived.Test.YtnijacbfcffnpaaMoOth
import Derived.Test.YtnijacbfcffnpaaGrData
import Derived.Test.YtnijacbfcffnpaaProg
import Derived.Maps.OwnSet
import Derived.WalkKit
import Derived.OwnWalk
import Derived.Below
import Derived.Test.YtnijacbfcffnpaaCbMath
import Derived.Test.YtnijacbfcffnpaaNum
section
/- An aggregate to which one number was given. -/
namespace Go.Proofs.Ytnijacbfcffnpaa
open Go.RowKit
theorem size_ag : (Try.prog.info? 72).map (·.size) = some 10 := by kernel_rfl
theorem ag_setRow {w0 w : World} {g : Nat} (hb : Below w0.heap.size w0 w) (hg : w0.heap.size ≤ g) (cs : Array Value) : Below w0.heap.size w0 (w.setRow g cs) := hb.trans ((fr_setRow w g cs).below hb.size (fun k hk => by omega))
set_option maxRecDepth 100000 in
set_option maxHeartbeats 1000000 in
theorem given0 (x : Int) (w : World) (hx : I64 x) : Calls Try.prog 76 #[.int .i64 0, .int .i64 x] w fun r w' => r = .returned (.agg #[.bool true, .bool false, .bool false, .bool false, .bool false, .int .i64 x, .int .i64 0, .int .i64 0, .int .i64 0, .int .i64 0]) ∧ Below w.heap.size w w' := by
  have HA : Hid (∀ W, Calls Try.prog 107 #[.agg #[.bool false, .bool false, .bool false, .bool false, .bool false, .int .i64 0, .int .i64 0, .int .i64 0, .int .i64 0, .int .i64 0], .int .i64 0, .int .i64 x] W fun r w' => r = .returned (.tuple #[.agg #[.bool true, .bool false, .bool false, .bool false, .bool false, .int .i64 x, .int .i64 0, .int .i64 0, .int .i64 0, .int .i64 0], .int .i64 0]) ∧ Below W.heap.size W w') := fun W => (aAdd_any (fun _ => none) 0 x W (fun i y h => by cases h) hx).mono (fun r w' h => ⟨h.1.trans rfl, h.2⟩)
  obtain ⟨W0, hW0⟩ : ∃ W0, w.alloc (.cells #[.bool false, .bool false, .bool false, .bool false, .bool false, .int .i64 0, .int .i64 0, .int .i64 0, .int .i64 0, .int .i64 0] 72) = W0 := ⟨_, rfl⟩
  have hB0 : Below w.heap.size w W0 := by rw [← hW0]; exact (Below.refl _ _).alloc (Nat.le_refl _) _
  have hc : W0.heap[w.heap.size]? = some (.cells #[.bool false, .bool false, .bool false, .bool false, .bool false, .int .i64 0, .int .i64 0, .int .i64 0, .int .i64 0, .int .i64 0] 72 (0, 0)) := by rw [← hW0]; exact heap_alloc_new _ _
  have HC : Hid _ := hc
  have HB0 : Hid _ := hB0
  have HS0 : Hid (W0.heap.size = w.heap.size + 1) := by show _ = _; rw [← hW0]; simp
  clear hc hB0
  go_enter Try.func76, Try.ntmps76
  go_upto_region 2 with (first
    | (go_at_call 107; refine (HA.out _).mono ?_; rintro r w1 ⟨rfl, hb1⟩; have HB1 : Hid _ := hb1; clear hb1)
    | (refine wpList_store_row rfl 72 _ _ rfl w1.heap.size #[.bool true, .bool false, .bool false, .bool false, .bool false, .int .i64 x, .int .i64 0, .int .i64 0, .int .i64 0, .int .i64 0] rfl rfl 72 #[.bool false, .bool false, .bool false, .bool false, .bool false, .int .i64 0, .int .i64 0, .int .i64 0, .int .i64 0, .int .i64 0] (heap_alloc_new _ _) size_ag rfl (by simp [Value.oneCell']) ?_))
  generalize hW : World.setRow _ _ _ = W
  have hR1 : W.heap[w1.heap.size]? = some (.cells #[.bool true, .bool false, .bool false, .bool false, .bool false, .int .i64 x, .int .i64 0, .int .i64 0, .int .i64 0, .int .i64 0] 72 (0, 0)) := by rw [← hW]; exact setRow_heap _ _ _ _ _ _ (heap_alloc_new _ _)
  have hb2 : Below w1.heap.size w1 W := by rw [← hW]; exact ag_setRow ((Below.refl _ _).alloc (Nat.le_refl _) _) (Nat.le_refl _) _
  have HR1 : Hid _ := hR1
  have HB2 : Hid (Below W0.heap.size W0 W) := HB1.out.trans (hb2.mono HB1.out.size)
  have HC2 : Hid (W.heap[w.heap.size]? = some (.cells #[.bool false, .bool false, .bool false, .bool false, .bool false, .int .i64 0, .int .i64 0, .int .i64 0, .int .i64 0, .int .i64 0] 72 (0, 0))) := (HB2.out.block _ (by have := HS0.out; omega)).trans HC.out
  clear hW hR1 hb2
  go_wp2_with (first
    | (refine wpList_load_row rfl 72 _ rfl w1.heap.size rfl 72 #[.bool true, .bool false, .bool false, .bool false, .bool false, .int .i64 x, .int .i64 0, .int .i64 0, .int .i64 0, .int .i64 0] (0, 0) _ HR1.out Try.underlying72 rfl size_ag ?_)
    | (refine wpList_store_row rfl 72 _ _ rfl w.heap.size #[.bool true, .bool false, .bool false, .bool false, .bool false, .int .i64 x, .int .i64 0, .int .i64 0, .int .i64 0, .int .i64 0] rfl rfl 72 #[.bool false, .bool false, .bool false, .bool false, .bool false, .int .i64 0, .int .i64 0, .int .i64 0, .int .i64 0, .int .i64 0] HC2.out size_ag rfl (by simp [Value.oneCell']) ?_))
  refine bodyPost_ret (v := .agg #[.bool true, .bool false, .bool false, .bool false, .bool false, .int .i64 x, .int .i64 0, .int .i64 0, .int .i64 0, .int .i64 0]) (results_cell_row Try.results76 _ _ w.heap.size 72 _ (0, 0) _ rfl (setRow_heap _ _ _ _ _ _ HC2.out) Try.underlying72 rfl size_ag) rfl ?_
  exact ⟨rfl, ag_setRow (HB0.out.trans (HB2.out.mono HB0.out.size)) (Nat.le_refl _) _⟩
set_option maxRecDepth 100000 in
set_option maxHeartbeats 1000000 in
theorem given4 (x : Int) (w : World) (hx : I64 x) : Calls Try.prog 76 #[.int .i64 4, .int .i64 x] w fun r w' => r = .returned (.agg #[.bool false, .bool false, .bool false, .bool false, .bool true, .int .i64 0, .int .i64 0, .int .i64 0, .int .i64 0, .int .i64 x]) ∧ Below w.heap.size w w' := by
  have HA : Hid (∀ W, Calls Try.prog 107 #[.agg #[.bool false, .bool false, .bool false, .bool false, .bool false, .int .i64 0, .int .i64 0, .int .i64 0, .int .i64 0, .int .i64 0], .int .i64 4, .int .i64 x] W fun r w' => r = .returned (.tuple #[.agg #[.bool false, .bool false, .bool false, .bool false, .bool true, .int .i64 0, .int .i64 0, .int .i64 0, .int .i64 0, .int .i64 x], .int .i64 0]) ∧ Below W.heap.size W w') := fun W => (aAdd_any (fun _ => none) 4 x W (fun i y h => by cases h) hx).mono (fun r w' h => ⟨h.1.trans rfl, h.2⟩)
  obtain ⟨W0, hW0⟩ : ∃ W0, w.alloc (.cells #[.bool false, .bool false, .bool false, .bool false, .bool false, .int .i64 0, .int .i64 0, .int .i64 0, .int .i64 0, .int .i64 0] 72) = W0 := ⟨_, rfl⟩
  have hB0 : Below w.heap.size w W0 := by rw [← hW0]; exact (Below.refl _ _).alloc (Nat.le_refl _) _
  have hc : W0.heap[w.heap.size]? = some (.cells #[.bool false, .bool false, .bool false, .bool false, .bool false, .int .i64 0, .int .i64 0, .int .i64 0, .int .i64 0, .int .i64 0] 72 (0, 0)) := by rw [← hW0]; exact heap_alloc_new _ _
  have HC : Hid _ := hc
  have HB0 : Hid _ := hB0
  have HS0 : Hid (W0.heap.size = w.heap.size + 1) := by show _ = _; rw [← hW0]; simp
  clear hc hB0
  go_enter Try.func76, Try.ntmps76
  go_upto_region 2 with (first
    | (go_at_call 107; refine (HA.out _).mono ?_; rintro r w1 ⟨rfl, hb1⟩; have HB1 : Hid _ := hb1; clear hb1)
    | (refine wpList_store_row rfl 72 _ _ rfl w1.heap.size #[.bool false, .bool false, .bool false, .bool false, .bool true, .int .i64 0, .int .i64 0, .int .i64 0, .int .i64 0, .int .i64 x] rfl rfl 72 #[.bool false, .bool false, .bool false, .bool false, .bool false, .int .i64 0, .int .i64 0, .int .i64 0, .int .i64 0, .int .i64 0] (heap_alloc_new _ _) size_ag rfl (by simp [Value.oneCell']) ?_))
  generalize hW : World.setRow _ _ _ = W
  have hR1 : W.heap[w1.heap.size]? = some (.cells #[.bool false, .bool false, .bool false, .bool false, .bool true, .int .i64 0, .int .i64 0, .int .i64 0, .int .i64 0, .int .i64 x] 72 (0, 0)) := by rw [← hW]; exact setRow_heap _ _ _ _ _ _ (heap_alloc_new _ _)
  have hb2 : Below w1.heap.size w1 W := by rw [← hW]; exact ag_setRow ((Below.refl _ _).alloc (Nat.le_refl _) _) (Nat.le_refl _) _
  have HR1 : Hid _ := hR1
  have HB2 : Hid (Below W0.heap.size W0 W) := HB1.out.trans (hb2.mono HB1.out.size)
  have HC2 : Hid (W.heap[w.heap.size]? = some (.cells #[.bool false, .bool false, .bool false, .bool false, .bool false, .int .i64 0, .int .i64 0, .int .i64 0, .int .i64 0, .int .i64 0] 72 (0, 0))) := (HB2.out.block _ (by have := HS0.out; omega)).trans HC.out
  clear hW hR1 hb2
  go_wp2_with (first
    | (refine wpList_load_row rfl 72 _ rfl w1.heap.size rfl 72 #[.bool false, .bool false, .bool false, .bool false, .bool true, .int .i64 0, .int .i64 0, .int .i64 0, .int .i64 0, .int .i64 x] (0, 0) _ HR1.out Try.underlying72 rfl size_ag ?_)
    | (refine wpList_store_row rfl 72 _ _ rfl w.heap.size #[.bool false, .bool false, .bool false, .bool false, .bool true, .int .i64 0, .int .i64 0, .int .i64 0, .int .i64 0, .int .i64 x] rfl rfl 72 #[.bool false, .bool false, .bool false, .bool false, .bool false, .int .i64 0, .int .i64 0, .int .i64 0, .int .i64 0, .int .i64 0] HC2.out size_ag rfl (by simp [Value.oneCell']) ?_))
  refine bodyPost_ret (v := .agg #[.bool false, .bool false, .bool false, .bool false, .bool true, .int .i64 0, .int .i64 0, .int .i64 0, .int .i64 0, .int .i64 x]) (results_cell_row Try.results76 _ _ w.heap.size 72 _ (0, 0) _ rfl (setRow_heap _ _ _ _ _ _ HC2.out) Try.underlying72 rfl size_ag) rfl ?_
  exact ⟨rfl, ag_setRow (HB0.out.trans (HB2.out.mono HB0.out.size)) (Nat.le_refl _) _⟩
end Go.Proofs.Ytnijacbfcffnpaa
end

section
/- Region 10 of colors: what it tells. -/
namespace Go.Proofs.Ytnijacbfcffnpaa
open Go.RowKit
set_option maxRecDepth 100000 in
set_option maxHeartbeats 4000000 in
theorem colors_r10 {W0 : World} {A : Act} {st id va ma : Int} {eo mo po : Option Addr} {en ec mn mc pn pc : Nat} {ha ag0 ag1 ag2 ag3 ag4 ag5 ag6 ag7 ag8 ag9 : Value} {bx bo : Nat} {c ch : Int} {AB : List Int} {K : Act → World → Prop} {Q' : Exit → Act → World → Prop} (hsz : A.tmps.size = 51) (hA1 : A.eval (.tmp 1) = .pointer (some ⟨bx, 0, none⟩)) (hA2 : A.eval (.tmp 2) = .pointer (some ⟨bo, 0, none⟩)) (hA3 : A.eval (.tmp 3) = .int .i64 c) (hA6 : A.eval (.tmp 6) = .int .i64 ch) (hIn : InBox W0 bx #[.int .i64 st, .int .i64 id, .int .i64 va, .slice eo en ec, ha, .slice mo mn mc, ag0, ag1, ag2, ag3, ag4, ag5, ag6, ag7, ag8, ag9, .int .i64 ma, .slice po pn pc]) (hOut : OutBox W0 bo #[.int .i64 0, .bool false, .slice none 0 0, .slice none 0 0, .bool false, .bool false, .bool false, .bool false, .bool false, .int .i64 0, .int .i64 0, .int .i64 0, .int .i64 0, .int .i64 0, .int .i64 0]) (hch : I64 ch) (hl : AB.length ≤ 1048576) (hAb : ∀ W, Below W0.heap.size W0 W → Calls Try.prog 75 #[(.agg #[.int .i64 st, .int .i64 id, .int .i64 va, .slice eo en ec, ha, .slice mo mn mc, ag0, ag1, ag2, ag3, ag4, ag5, ag6, ag7, ag8, ag9, .int .i64 ma, .slice po pn pc])] W fun r w' => ∃ ao cc, r = .returned (.slice ao AB.length cc) ∧ IsAt w' ao AB ∧ Below W.heap.size W w')
    (HK : ∀ X W W1 ao cc, Below W0.heap.size W0 W → W1 = W.setRow bo #[.int .i64 c, .bool false, (.slice ao AB.length cc), .slice none 0 0, .bool false, .bool false, .bool false, .bool false, .bool true, .int .i64 0, .int .i64 0, .int .i64 0, .int .i64 0, .int .i64 ch, .int .i64 0] → KM W W0.heap.size (.slice ao AB.length cc) (tellL id c AB) → K (puts A X [42, 43, 44, 45, 46, 47, 48, 49, 50]) W1) :
    Code.wp Try.prog ((Try.f50.body.bind (regionJ 10)).getD .skip) (Exit.then K Q') A W0 := by
  obtain ⟨ds, hds⟩ : ∃ ds, [42, 43, 44, 45, 46, 47, 48, 49, 50] = ds := ⟨_, rfl⟩
  have hlt : ∀ d ∈ [42, 43, 44, 45, 46, 47, 48, 49, 50], d < A.tmps.size := by rw [hsz]; decide
  have hin : ∀ {X : Nat → Value} {k : Nat}, k ∈ [42, 43, 44, 45, 46, 47, 48, 49, 50] → (puts A X ds).eval (.tmp k) = X k := fun hk => by rw [← hds]; exact eval_in hk (hlt _ hk)
  have hout : ∀ {X : Nat → Value} {k : Nat}, k ∉ [42, 43, 44, 45, 46, 47, 48, 49, 50] → (puts A X ds).eval (.tmp k) = A.eval (.tmp k) := fun hk => by rw [← hds]; exact eval_out hk
  have g0 : ds.getD 0 0 = 42 := by rw [← hds]; rfl
  have g1 : ds.getD 1 0 = 43 := by rw [← hds]; rfl
  have g2 : ds.getD 2 0 = 44 := by rw [← hds]; rfl
  have g3 : ds.getD 3 0 = 45 := by rw [← hds]; rfl
  have g4 : ds.getD 4 0 = 46 := by rw [← hds]; rfl
  have g5 : ds.getD 5 0 = 47 := by rw [← hds]; rfl
  have g6 : ds.getD 6 0 = 48 := by rw [← hds]; rfl
  have g7 : ds.getD 7 0 = 49 := by rw [← hds]; rfl
  have g8 : ds.getD 8 0 = 50 := by rw [← hds]; rfl
  obtain ⟨gb, hgbE⟩ : ∃ gb : Nat → Bool, (fun j => true) = gb := ⟨_, rfl⟩
  obtain ⟨V, hV, e0, e1, e2, e3, e4, e5, e6, e7, e8⟩ : ∃ V : Nat → Value → World → Prop, (∀ i v W W', V i v W → Below W.heap.size W W' → V i v W') ∧ (∀ v W, V 0 v W = (v = .int .i64 c)) ∧ (∀ v W, V 1 v W = (v = (.agg #[.int .i64 st, .int .i64 id, .int .i64 va, .slice eo en ec, ha, .slice mo mn mc, ag0, ag1, ag2, ag3, ag4, ag5, ag6, ag7, ag8, ag9, .int .i64 ma, .slice po pn pc]))) ∧ (∀ v W, V 2 v W = (v = .int .i64 c)) ∧ (∀ v W, V 3 v W = (v = (.agg #[.int .i64 st, .int .i64 id, .int .i64 va, .slice eo en ec, ha, .slice mo mn mc, ag0, ag1, ag2, ag3, ag4, ag5, ag6, ag7, ag8, ag9, .int .i64 ma, .slice po pn pc]))) ∧ (∀ v W, V 4 v W = (∃ ao cc, v = .slice ao AB.length cc ∧ IsAt W ao AB)) ∧ (∀ v W, V 5 v W = (∃ ao cc, v = .slice ao AB.length cc ∧ KM W W0.heap.size (.slice ao AB.length cc) (tellL id c AB))) ∧ (∀ v W, V 6 v W = (v = .int .i64 ch)) ∧ (∀ v W, V 7 v W = (v = .agg #[.bool false, .bool false, .bool false, .bool false, .bool true, .int .i64 0, .int .i64 0, .int .i64 0, .int .i64 0, .int .i64 ch])) ∧ (∀ v W, V 8 v W = (∃ ao cc, v = .agg #[.int .i64 c, .bool false, .slice ao AB.length cc, .slice none 0 0, .bool false, .bool false, .bool false, .bool false, .bool true, .int .i64 0, .int .i64 0, .int .i64 0, .int .i64 0, .int .i64 ch, .int .i64 0] ∧ KM W W0.heap.size (.slice ao AB.length cc) (tellL id c AB))) := by
    refine ⟨fun i v W => match i with
      | 0 => v = .int .i64 c
      | 1 => v = (.agg #[.int .i64 st, .int .i64 id, .int .i64 va, .slice eo en ec, ha, .slice mo mn mc, ag0, ag1, ag2, ag3, ag4, ag5, ag6, ag7, ag8, ag9, .int .i64 ma, .slice po pn pc])
      | 2 => v = .int .i64 c
      | 3 => v = (.agg #[.int .i64 st, .int .i64 id, .int .i64 va, .slice eo en ec, ha, .slice mo mn mc, ag0, ag1, ag2, ag3, ag4, ag5, ag6, ag7, ag8, ag9, .int .i64 ma, .slice po pn pc])
      | 4 => ∃ ao cc, v = .slice ao AB.length cc ∧ IsAt W ao AB
      | 5 => ∃ ao cc, v = .slice ao AB.length cc ∧ KM W W0.heap.size (.slice ao AB.length cc) (tellL id c AB)
      | 6 => v = .int .i64 ch
      | 7 => v = .agg #[.bool false, .bool false, .bool false, .bool false, .bool true, .int .i64 0, .int .i64 0, .int .i64 0, .int .i64 0, .int .i64 ch]
      | 8 => ∃ ao cc, v = .agg #[.int .i64 c, .bool false, .slice ao AB.length cc, .slice none 0 0, .bool false, .bool false, .bool false, .bool false, .bool true, .int .i64 0, .int .i64 0, .int .i64 0, .int .i64 0, .int .i64 ch, .int .i64 0] ∧ KM W W0.heap.size (.slice ao AB.length cc) (tellL id c AB)
      | _ => True, ?_, fun _ _ => rfl, fun _ _ => rfl, fun _ _ => rfl, fun _ _ => rfl, fun _ _ => rfl, fun _ _ => rfl, fun _ _ => rfl, fun _ _ => rfl, fun _ _ => rfl⟩
    intro i v W W' h hb
    match i, h with
    | 0, h => exact h
    | 1, h => exact h
    | 2, h => exact h
    | 3, h => exact h
    | 4, h => exact (by obtain ⟨ao, cc, h1, h2⟩ := h; exact ⟨ao, cc, h1, IsAt.new h2 hb⟩)
    | 5, h => exact (by obtain ⟨ao, cc, h1, h2⟩ := h; exact ⟨ao, cc, h1, k_new h2 hb⟩)
    | 6, h => exact h
    | 7, h => exact h
    | 8, h => exact (by obtain ⟨ao, cc, h1, h2⟩ := h; exact ⟨ao, cc, h1, k_new h2 hb⟩)
    | _ + 9, _ => trivial
  conv => arg 2; whnf
  refine wp_region_M 9 rfl ds V gb (by kernel_rfl) (by kernel_rfl) (by kernel_rfl) (by rw [← hds]; kernel_rfl) (by rw [← hds]; exact hlt) hV ?_ ?_ ?_
  · intro i o j want ho hg v W hv
    have hj : j ∈ ([] : List Nat) := guards_at (by kernel_rfl) ho hg
    cases hj
  · refine ⟨?_, ?_, ?_, ?_, ?_, ?_, ?_, ?_, ?_, trivial⟩
    · refine ⟨fun _ X W hb hd hu => ?_, fun h => absurd (show true = false from h) (by decide)⟩
      have h0 := hout (X := X) (k := 3) (by decide)
      rw [hA3] at h0
      refine v_value (V := V 0) (v := .int .i64 c) ?_ (by rw [e0])
      generalize (puts A X ds).eval = ρ at h0 ⊢
      go_simp
    · refine ⟨fun _ X W hb hd hu => ?_, fun h => absurd (show true = false from h) (by decide)⟩
      have h0 := hout (X := X) (k := 1) (by decide)
      rw [hA1] at h0
      exact wp_load_row 79 _ rfl bx h0 79 #[.int .i64 st, .int .i64 id, .int .i64 va, .slice eo en ec, ha, .slice mo mn mc, ag0, ag1, ag2, ag3, ag4, ag5, ag6, ag7, ag8, ag9, .int .i64 ma, .slice po pn pc] (0, 0) _ ((hb.block _ (Array.getElem?_eq_some_iff.1 hIn).1).trans hIn) Try.underlying79 rfl size_in ⟨_, rfl, by rw [e1], Below.refl _ _⟩
    · refine ⟨fun _ X W hb hd hu => ?_, fun h => absurd (show true = false from h) (by decide)⟩
      have h0 := hout (X := X) (k := 3) (by decide)
      rw [hA3] at h0
      refine v_value (V := V 2) (v := .int .i64 c) ?_ (by rw [e2])
      generalize (puts A X ds).eval = ρ at h0 ⊢
      go_simp
    · refine ⟨fun _ X W hb hd hu => ?_, fun h => absurd (show true = false from h) (by decide)⟩
      have h0 := hout (X := X) (k := 1) (by decide)
      rw [hA1] at h0
      exact wp_load_row 79 _ rfl bx h0 79 #[.int .i64 st, .int .i64 id, .int .i64 va, .slice eo en ec, ha, .slice mo mn mc, ag0, ag1, ag2, ag3, ag4, ag5, ag6, ag7, ag8, ag9, .int .i64 ma, .slice po pn pc] (0, 0) _ ((hb.block _ (Array.getElem?_eq_some_iff.1 hIn).1).trans hIn) Try.underlying79 rfl size_in ⟨_, rfl, by rw [e3], Below.refl _ _⟩
    · refine ⟨fun _ X W hb hd hu => ?_, fun h => absurd (show true = false from h) (by decide)⟩
      have d0 := hd 3 (by kernel_rfl)
      rw [e3, g3] at d0
      have h0 := (hin (X := X) (k := 45) (by decide)).trans d0
      have hf : (puts A X ds).eval (.func 75) = .func (.func 75) #[] #[] := rfl
      refine v_call (V := V 4) (f := 75) (vs := #[(.agg #[.int .i64 st, .int .i64 id, .int .i64 va, .slice eo en ec, ha, .slice mo mn mc, ag0, ag1, ag2, ag3, ag4, ag5, ag6, ag7, ag8, ag9, .int .i64 ma, .slice po pn pc])]) ?_ ?_
      · generalize (puts A X ds).eval = ρ at h0 hf ⊢
        go_simp
      · refine (hAb W hb).mono ?_
        rintro r W' ⟨ao, cc, rfl, hI, hb'⟩
        exact ⟨_, rfl, by rw [e4]; exact ⟨ao, cc, rfl, hI⟩, hb'⟩
    · refine ⟨fun _ X W hb hd hu => ?_, fun h => absurd (show true = false from h) (by decide)⟩
      have d0 := hd 1 (by kernel_rfl)
      rw [e1, g1] at d0
      have h0 := (hin (X := X) (k := 43) (by decide)).trans d0
      have d1 := hd 2 (by kernel_rfl)
      rw [e2, g2] at d1
      have h1 := (hin (X := X) (k := 44) (by decide)).trans d1
      have d2 := hd 4 (by kernel_rfl)
      rw [e4, g4] at d2
      obtain ⟨ao, cc, d2, hI⟩ := d2
      have h2 := (hin (X := X) (k := 46) (by decide)).trans d2
      have hf : (puts A X ds).eval (.func 74) = .func (.func 74) #[] #[] := rfl
      refine v_call (V := V 5) (f := 74) (vs := #[(.agg #[.int .i64 st, .int .i64 id, .int .i64 va, .slice eo en ec, ha, .slice mo mn mc, ag0, ag1, ag2, ag3, ag4, ag5, ag6, ag7, ag8, ag9, .int .i64 ma, .slice po pn pc]), .int .i64 c, .slice ao AB.length cc]) ?_ ?_
      · generalize (puts A X ds).eval = ρ at h0 h1 h2 hf ⊢
        go_simp
      · refine (tell_any c AB rfl hI hl).mono ?_
        rintro r W' ⟨tv, rfl, hK, hb'⟩
        obtain ⟨ao1, c1, rfl⟩ := k_shape hK
        rw [tellL_len] at hK ⊢
        exact ⟨_, rfl, by rw [e5]; exact ⟨ao1, c1, rfl, k_low hK hb.size⟩, hb'⟩
    · refine ⟨fun _ X W hb hd hu => ?_, fun h => absurd (show true = false from h) (by decide)⟩
      have h0 := hout (X := X) (k := 6) (by decide)
      rw [hA6] at h0
      refine v_value (V := V 6) (v := .int .i64 ch) ?_ (by rw [e6])
      generalize (puts A X ds).eval = ρ at h0 ⊢
      go_simp
    · refine ⟨fun _ X W hb hd hu => ?_, fun h => absurd (show true = false from h) (by decide)⟩
      have d0 := hd 6 (by kernel_rfl)
      rw [e6, g6] at d0
      have h0 := (hin (X := X) (k := 48) (by decide)).trans d0
      have h1 : (puts A X ds).eval (.const (.int .i64 4)) = .int .i64 4 := rfl
      have hf : (puts A X ds).eval (.func 76) = .func (.func 76) #[] #[] := rfl
      refine v_call (V := V 7) (f := 76) (vs := #[.int .i64 4, .int .i64 ch]) ?_ ?_
      · generalize (puts A X ds).eval = ρ at h0 h1 hf ⊢
        go_simp
      · refine (given4 ch W hch).mono ?_
        rintro r W' ⟨rfl, hb'⟩
        exact ⟨_, rfl, by rw [e7], hb'⟩
    · refine ⟨fun _ X W hb hd hu => ?_, fun h => absurd (show true = false from h) (by decide)⟩
      have d0 := hd 0 (by kernel_rfl)
      rw [e0, g0] at d0
      have h0 := (hin (X := X) (k := 42) (by decide)).trans d0
      have d1 := hd 5 (by kernel_rfl)
      rw [e5, g5] at d1
      obtain ⟨ao, cc, d1, hK⟩ := d1
      have h1 := (hin (X := X) (k := 47) (by decide)).trans d1
      have d2 := hd 7 (by kernel_rfl)
      rw [e7, g7] at d2
      have h2 := (hin (X := X) (k := 49) (by decide)).trans d2
      refine v_value (V := V 8) (v := .agg #[.int .i64 c, .bool false, .slice ao AB.length cc, .slice none 0 0, .bool false, .bool false, .bool false, .bool false, .bool true, .int .i64 0, .int .i64 0, .int .i64 0, .int .i64 0, .int .i64 ch, .int .i64 0]) ?_ (by rw [e8]; exact ⟨ao, cc, rfl, hK⟩)
      generalize (puts A X ds).eval = ρ at h0 h1 h2 ⊢
      go_simp
  · intro X W hb hall
    have r8 := hall 8 (by decide)
    rw [e8, g8] at r8
    obtain ⟨ao, cc, r8, hK⟩ := r8
    have h8 := (hin (X := X) (k := 50) (by decide)).trans r8
    have h2 := hout (X := X) (k := 2) (by decide)
    rw [hA2] at h2
    refine wp_store_row 74 _ _ rfl bo #[.int .i64 c, .bool false, (.slice ao AB.length cc), .slice none 0 0, .bool false, .bool false, .bool false, .bool false, .bool true, .int .i64 0, .int .i64 0, .int .i64 0, .int .i64 0, .int .i64 ch, .int .i64 0] h2 h8 74 _ ((hb.block _ (Array.getElem?_eq_some_iff.1 hOut).1).trans hOut) size_out rfl (by simp [Value.oneCell']) ?_
    have := HK X W _ ao cc hb rfl hK
    rw [hds] at this
    exact this
end Go.Proofs.Ytnijacbfcffnpaa
end

section
/- A set of numbers: a map to nothing. How it lies, what is asked of it, what is put. -/
namespace Go.Proofs.Ytnijacbfcffnpaa
open Go.RowKit Go.Maps
/-- A map that has the numbers that f names. -/
def SetAt (w : World) (b n : Nat) (f : Int → Bool) : Prop := ∃ D : DataW Unit, w.ownsMap Try.prog 2 unitElem b n D ∧ ∀ x, Maps.has D (.int .i64 x) = f x
theorem skeyOf {id : Int} (h : I64 id) : keyOf Try.prog 2 (.int .i64 id) = some (.int .i64 id) := keyOf_int_mk Try.underlying2 (WalkArith.wf_i64 ⟨h.1, h.2⟩)
theorem slaw64 : Keyed Try.prog 2 := int_keyed Try.underlying2
theorem SetAt.made (w : World) : SetAt (w.alloc (.map #[] 0)) w.heap.size 0 (fun _ => false) := ⟨_, World.ownsMap_made w _ _ _, fun _ => rfl⟩
theorem SetAt.same {w w' : World} {b n : Nat} {f : Int → Bool} (h : SetAt w b n f) (e : w'.heap[b]? = w.heap[b]?) : SetAt w' b n f := by
  obtain ⟨D, ⟨es, clock, hb, r⟩, hat⟩ := h
  exact ⟨D, ⟨es, clock, e.trans hb, r⟩, hat⟩
theorem SetAt.lt {w : World} {b n : Nat} {f : Int → Bool} (h : SetAt w b n f) : b < w.heap.size := by
  obtain ⟨D, h, _⟩ := h
  exact h.lt
theorem SetAt.new {w w' : World} {b n : Nat} {f : Int → Bool} (h : SetAt w b n f) (hb : Below w.heap.size w w') : SetAt w' b n f := h.same (hb.block b h.lt)
theorem SetAt.look {w : World} {b n : Nat} {f : Int → Bool} (h : SetAt w b n f) {x : Int} (hx : I64 x) : (Instr.lookup 147 (.map (some b)) (.int .i64 x) true).run Try.prog w = .ok (.tuple #[.agg #[], .bool (f x)]) w := by
  obtain ⟨D, h, hat⟩ := h
  obtain ⟨v, ps, hrun, hv⟩ := h.look_ok slaw64 Try.underlying147 (z := .agg #[]) (by go_simp) unitElem_mk (skeyOf hx)
  obtain ⟨rfl, _⟩ := unitElem_inv hv
  rw [hrun, hat x]
theorem skey_ne {i j : Int} (h : i ≠ j) : (Lit.int .i64 i) ≠ (Lit.int .i64 j) := by
  intro e
  cases e
  exact h rfl
theorem SetAt.put {w : World} {b n : Nat} {f : Int → Bool} (h : SetAt w b n f) (hn : n < maxLen) {x : Int} (hx : I64 x) : ∃ w', (Instr.mapUpdate 147 (.map (some b)) (.int .i64 x) (.agg #[])).run Try.prog w = .ok () w' ∧ SetAt w' b (n + 1) (fun y => f y || y == x) ∧ Fr w w' (fun k => k = b) := by
  obtain ⟨D, h, hat⟩ := h
  obtain ⟨w', hrun, h1, h2⟩ := h.store slaw64 Try.underlying147 hn (skeyOf hx) unitElem_mk
  refine ⟨w', hrun, ⟨_, h1, fun y => ?_⟩, Fr.grown h2.grown (fun k e => by cases e; rfl)⟩
  simp only
  by_cases e : y = x
  · subst e
    rw [has_put_same h.isMap (show WideAt.IsKeyLit (.int .i64 y) from trivial)]
    simp
  · rw [has_put_other (skey_ne e), hat]
    simp [e]
end Go.Proofs.Ytnijacbfcffnpaa
end

section
/- Messages as they lie in memory. -/
namespace Go.Proofs.Ytnijacbfcffnpaa
open Go.RowKit
/-- Messages lie in memory from an address on, in a block that P names. -/
def MsAt (w : World) (P : Nat → Prop) (ao : Option Addr) (L : List Msg) : Prop :=
  0 < L.length → ∃ b off, ao = some ⟨b, off, none⟩ ∧ P b ∧ ∀ j (h : j < L.length), w.cell? ⟨b, off + j * 4, none⟩ = some (.int .i64 L[j].f) ∧ w.cell? ⟨b, off + j * 4 + 1, none⟩ = some (.int .i64 L[j].t) ∧ w.cell? ⟨b, off + j * 4 + 2, none⟩ = some (.int .i64 L[j].a) ∧ w.cell? ⟨b, off + j * 4 + 3, none⟩ = some (.int .i64 L[j].v)
theorem MsAt.kept {w w' : World} {P Q S : Nat → Prop} {ao : Option Addr} {L : List Msg} (h : MsAt w P ao L) (f : Fr w w' S) (hs : ∀ k, k < w.heap.size → P k → ¬ S k ∧ Q k) : MsAt w' Q ao L := by
  intro hl
  obtain ⟨b, off, e, hb, hc⟩ := h hl
  have hlt := lt_cell (hc 0 hl).1
  have hn := (hs b hlt hb).1
  exact ⟨b, off, e, (hs b hlt hb).2, fun j hj => ⟨fr_cell f hn (hc j hj).1, fr_cell f hn (hc j hj).2.1, fr_cell f hn (hc j hj).2.2.1, fr_cell f hn (hc j hj).2.2.2⟩⟩
theorem MsAt.new {w w' : World} {P : Nat → Prop} {ao : Option Addr} {L : List Msg} (h : MsAt w P ao L) (hb : Below w.heap.size w w') : MsAt w' P ao L := h.kept (Fr.ofBelow hb (fun _ => False)) (fun _ _ hp => ⟨fun h => h, hp⟩)
theorem MsAt.mono {w : World} {P Q : Nat → Prop} {ao : Option Addr} {L : List Msg} (h : MsAt w P ao L) (hs : ∀ k, k < w.heap.size → P k → Q k) : MsAt w Q ao L := h.kept (Fr.refl w (fun _ => False)) (fun k hk hp => ⟨fun h => h, hs k hk hp⟩)
end Go.Proofs.Ytnijacbfcffnpaa
end

section
/- The least number from 0 on that no message says. -/
namespace Go.Proofs.Ytnijacbfcffnpaa
open Go.RowKit Go.Maps
/-- Does a message say it? -/
def saidB (L : List Msg) (x : Int) : Bool := L.any (fun m => x == m.v)
theorem said_snoc (L : List Msg) (j : Nat) (h : j < L.length) : saidB (L.take (j + 1)) = fun y => saidB (L.take j) y || y == L[j].v := by
  funext y
  unfold saidB
  rw [List.take_succ_eq_append_getElem h, List.any_append]
  simp
theorem pigeon : ∀ (k : Nat) (L : List Int), (∀ i : Nat, i < k → (i : Int) ∈ L) → k ≤ L.length
  | 0, _, _ => Nat.zero_le _
  | k + 1, L, h => by
    have hk := h k (Nat.lt_succ_self k)
    have := pigeon k (L.erase k) (fun i hi => (List.mem_erase_of_ne (by omega)).2 (h i (by omega)))
    rw [List.length_erase_of_mem hk] at this
    have := List.length_pos_of_mem hk
    omega
theorem said_few {L : List Msg} {k : Nat} (h : ∀ i : Nat, i < k → saidB L i = true) : k ≤ L.length := by
  have := pigeon k (L.map (fun m => m.v)) (fun i hi => by
    have := h i hi
    unfold saidB at this
    rw [List.any_eq_true] at this
    obtain ⟨m, hm, e⟩ := this
    rw [eq_of_beq e]
    exact List.mem_map.2 ⟨m, hm, rfl⟩)
  rwa [List.length_map] at this
/-- It is the least number that none of them says. -/
def LeastUn (L : List Msg) (k : Nat) : Prop := (∀ i : Nat, i < k → saidB L i = true) ∧ saidB L k = false
theorem LeastUn.one {L : List Msg} {a b : Nat} (ha : LeastUn L a) (hb : LeastUn L b) : a = b := by
  rcases Nat.lt_trichotomy a b with h | h | h
  · have := hb.1 a h
    rw [ha.2] at this
    cases this
  · exact h
  · have := ha.1 b h
    rw [hb.2] at this
    cases this
set_option maxRecDepth 100000 in
set_option maxHeartbeats 1000000 in
theorem unsaid_any {w : World} {P : Nat → Prop} {st id va ma : Int} {eo mo po : Option Addr} {en ec mn mc pn pc : Nat} {ha ag0 ag1 ag2 ag3 ag4 ag5 ag6 ag7 ag8 ag9 : Value} (L : List Msg) (hn : mn = L.length) (hL : MsAt w P mo L) (hok : ∀ m ∈ L, m.ok) (hl : L.length ≤ 1048576) :
    Calls Try.prog 72 #[(.agg #[.int .i64 st, .int .i64 id, .int .i64 va, .slice eo en ec, ha, .slice mo mn mc, ag0, ag1, ag2, ag3, ag4, ag5, ag6, ag7, ag8, ag9, .int .i64 ma, .slice po pn pc])] w fun r w' => ∃ k : Nat, r = .returned (.int .i64 k) ∧ LeastUn L k ∧ Below w.heap.size w w' := by
  subst hn
  obtain ⟨W0, hW0⟩ : ∃ W0, w.alloc (.cells #[.int .i64 st, .int .i64 id, .int .i64 va, .slice eo en ec, ha, .slice mo L.length mc, ag0, ag1, ag2, ag3, ag4, ag5, ag6, ag7, ag8, ag9, .int .i64 ma, .slice po pn pc] 79) = W0 := ⟨_, rfl⟩
  have hB0 : Below w.heap.size w W0 := by rw [← hW0]; exact one_newK _ _
  have hc := InBox.made w #[.int .i64 st, .int .i64 id, .int .i64 va, .slice eo en ec, ha, .slice mo L.length mc, ag0, ag1, ag2, ag3, ag4, ag5, ag6, ag7, ag8, ag9, .int .i64 ma, .slice po pn pc]
  rw [hW0] at hc
  obtain ⟨W1, hW1⟩ : ∃ W1, W0.alloc (.map #[] 0) = W1 := ⟨_, rfl⟩
  have hb1 : Below W0.heap.size W0 W1 := by rw [← hW1]; exact one_newK _ _
  have hS0 := SetAt.made W0
  rw [hW1] at hS0
  have hi1 := hc.new hb1
  obtain ⟨_, _, _, _, _, k5, _⟩ := hi1.cells
  have HS0 : Hid _ := hS0
  have HB1 : Hid (Below w.heap.size w W1) := hB0.trans (hb1.mono hB0.size)
  have HL : Hid (MsAt W1 P mo L) := (hL.new hB0).new hb1
  have HSz : Hid (W0.heap.size < W1.heap.size) := by show _ < _; rw [← hW1]; simp
  have HOk : Hid _ := hok
  have HB0 : Hid _ := hB0
  have HNe : Hid (∀ b off, mo = some ⟨b, off, none⟩ → 0 < L.length → b ≠ W0.heap.size) := fun b off e hl => by
    obtain ⟨b', off', e', _, hc⟩ := (hL.new hB0) hl
    rw [e] at e'
    cases e'
    exact Nat.ne_of_lt (lt_cell (hc 0 hl).1)
  clear hL hc hB0 hb1 hS0 hi1 hok
  have hmm := @run_makeMap Try.prog
  go_enter Try.func72, Try.ntmps72
  go_wp2
  clear hmm
  go_loopw [5, 13] (fun _ i wr => ∃ j : Nat, j ≤ L.length ∧ i = .int .i64 j ∧ SetAt wr W0.heap.size j (saidB (L.take j)) ∧ Fr W1 wr (fun k => k = W0.heap.size)) (fun _ i _ => L.length - (intOf i).toNat)
  case atStart => exact ⟨0, Nat.zero_le _, rfl, HS0.out, Fr.refl _ _⟩
  case round =>
    obtain ⟨j, hj, rfl, hS, hf⟩ := hrel
    by_cases hlt : j < L.length
    · obtain ⟨b, off, rfl, hP, hc⟩ := HL.out (by omega)
      have hbne : b ≠ W0.heap.size := HNe.out b off rfl (by omega)
      obtain ⟨e0, e1, e2, e3⟩ := hc j hlt
      have d0 := fr_cell hf hbne e0
      have d1 := fr_cell hf hbne e1
      have d2 := fr_cell hf hbne e2
      have d3 := fr_cell hf hbne e3
      have HSn : Hid _ := said_snoc L j hlt
      have HV : Hid (I64 L[j].v) := (HOk.out _ (List.getElem_mem hlt)).v
      generalize L[j] = y at d0 d1 d2 d3 HSn HV
      obtain ⟨w2, hrun, hS2, hf2⟩ := (hS.new (one_newK wr (.cells #[.int .i64 y.f, .int .i64 y.t, .int .i64 y.a, .int .i64 y.v] 77))).put (by unfold maxLen; omega) HV.out
      have HS2 : Hid _ := hS2
      have HF2 : Hid (Fr W1 w2 (fun k => k = W0.heap.size)) := (hf.trans (Fr.alloc _ _ (fun _ => False)) (fun _ _ h => h.elim)).trans hf2 (fun _ _ h => h)
      clear e0 e1 e2 e3 hc hS hf hS2 hf2
      go_wp2
      go_roundw
      case rel => exact ⟨j + 1, by omega, by go_num, by rw [HSn.out]; exact HS2.out, HF2.out⟩
      case measure => simp [intOf]; omega
    · obtain rfl : j = L.length := by omega
      rw [List.take_length] at hS
      have HS : Hid _ := hS
      have HB : Hid (Below w.heap.size w wr) := HB1.out.trans (hf.below HB1.out.size (fun k hk => by have := HB0.out.size; omega))
      clear hS hf
      go_wp2
      go_loopw [6, 7, 8] (fun n _ _ wx => ∃ k : Nat, n = .int .i64 k ∧ Hid (∀ i : Nat, i < k → saidB L i = true) ∧ Below wr.heap.size wr wx) (fun n _ _ _ => L.length + 1 - (intOf n).toNat)
      case atStart => exact ⟨0, rfl, fun i hi => absurd hi (by omega), Below.refl _ _⟩
      case round =>
        obtain ⟨k, rfl, HK, hb⟩ := hrel
        have hkl : k ≤ L.length := said_few HK.out
        have hk64 : I64 (k : Int) := ⟨by omega, by omega⟩
        have hlook := (SetAt.new HS.out hb).look hk64
        have HBx : Hid _ := hb
        cases hs : saidB L k
        · rw [hs] at hlook
          have HSk : Hid _ := hs
          clear hs hb
          go_wp2
          go_ret
          exact ⟨k, rfl, ⟨HK.out, HSk.out⟩, HB.out.trans ((HBx.out.alloc HBx.out.size _).mono HB.out.size)⟩
        · rw [hs] at hlook
          have HSk : Hid _ := hs
          clear hs hb
          go_wp2
          go_roundw
          case rel =>
            refine ⟨k + 1, by go_num, fun i hi => ?_, HBx.out.alloc HBx.out.size _⟩
            by_cases e : i = k
            · subst e; exact HSk.out
            · exact HK.out i (by omega)
          case measure => simp [intOf]; omega
end Go.Proofs.Ytnijacbfcffnpaa
end

section
/- To and Back: a message along each edge, a request for each edge back. -/
namespace Go.Proofs.Ytnijacbfcffnpaa
open Go.RowKit
set_option maxRecDepth 100000 in
set_option maxHeartbeats 1000000 in
theorem to_any {w : World} {P : Nat → Prop} {st id va ma : Int} {eo mo po : Option Addr} {en ec mn mc pn pc : Nat} {ha u0 u1 u2 u3 u4 u5 u6 u7 u8 u9 : Value} (v : Int) (E : List Ed) (he : en = E.length) (hE : EdAt w P eo E) (hl : E.length ≤ 1048576) :
    Calls Try.prog 82 #[(.agg #[.int .i64 st, .int .i64 id, .int .i64 va, .slice eo en ec, ha, .slice mo mn mc, u0, u1, u2, u3, u4, u5, u6, u7, u8, u9, .int .i64 ma, .slice po pn pc]), .int .i64 v] w fun r w' => ∃ tv, r = .returned tv ∧ KM w' w.heap.size tv (toL id v E) ∧ Below w.heap.size w w' := by
  obtain ⟨i0, hi, hz0, hz1, hz2⟩ := info_parts infoKM
  subst he
  obtain ⟨W0, hW0⟩ : ∃ W0, w.alloc (.cells #[.int .i64 st, .int .i64 id, .int .i64 va, .slice eo E.length ec, ha, .slice mo mn mc, u0, u1, u2, u3, u4, u5, u6, u7, u8, u9, .int .i64 ma, .slice po pn pc] 79) = W0 := ⟨_, rfl⟩
  have hB0 : Below w.heap.size w W0 := by rw [← hW0]; exact one_newK _ _
  have hc := InBox.made w #[.int .i64 st, .int .i64 id, .int .i64 va, .slice eo E.length ec, ha, .slice mo mn mc, u0, u1, u2, u3, u4, u5, u6, u7, u8, u9, .int .i64 ma, .slice po pn pc]
  rw [hW0] at hc
  have HC : Hid _ := hc
  obtain ⟨_, _, _, k3, _⟩ := hc.cells
  have HE : Hid (EdAt W0 P eo E) := hE.kept (Fr.ofBelow hB0 (fun _ => False)) (fun k hk hp => ⟨fun h => h, hp⟩)
  have HB0 : Hid _ := hB0
  clear hE hc hB0
  go_enter Try.func82, Try.ntmps82
  go_wp2
  go_loopw [5, 6, 7, 12] (fun u _ _ i wr => ∃ (j : Nat) (ao : Option Addr) (c : Nat), j ≤ E.length ∧ u = .slice ao j c ∧ i = .int .i64 j ∧ KM wr W0.heap.size (.slice ao j c) ((toL id v E).take j) ∧ Below W0.heap.size W0 wr) (fun _ _ _ i _ => E.length - (intOf i).toNat)
  case atStart => exact ⟨0, none, 0, Nat.zero_le _, rfl, rfl, World.ownsRow_nil _ _ _ _, Below.refl _ _⟩
  case round =>
    obtain ⟨j, ao, c, hj, rfl, rfl, hR, hb⟩ := hrel
    by_cases hlt : j < E.length
    · obtain ⟨b, off, rfl, hP, hc⟩ := HE.out (by omega)
      obtain ⟨e0, e1⟩ := hc j hlt
      have d0 := (hb.cell (p := ⟨b, off + j * 2, none⟩) (lt_cell e0)).trans e0
      have d1 := (hb.cell (p := ⟨b, off + j * 2 + 1, none⟩) (lt_cell e0)).trans e1
      have HS : Hid _ := toL_snoc id v E j hlt
      have HLg : Hid (((toL id v E).take j).length = j) := by show _ = _; rw [List.length_take, toL_len]; omega
      generalize E[j] = y at d0 d1 HS
      obtain ⟨_, q1, _⟩ := InBox.cells (InBox.new (InBox.new HC.out hb) (one_newK wr (.cells #[.int .i64 y.t, .int .i64 y.w] 50)))
      have HR : Hid (wr.ownsRow W0.heap.size 77 4 (.slice ao j c) j (((toL id v E).take j).flatMap msgCells)) := by have h := hR; unfold KM at h; rw [HLg.out] at h; exact h
      have HB : Hid _ := hb
      clear e0 e1 hc hR hb
      go_wp2_with (at_builtin; refine wpList_append_own_at _ rfl _ _ 67 rfl W0.heap.size 77 i0 (.agg #[.int .i64 0, .int .i64 0, .int .i64 0, .int .i64 0]) 4 32 Try.underlying67 hi hz0 hz1 hz2 rfl (by decide) (.slice ao j c) j (((toL id v E).take j).flatMap msgCells) rfl (k_new (k_new HR.out (one_newK _ _)) (one_newK _ _)) ⟨wr.heap.size + 1, 0, none⟩ 1 1 (msgCells ⟨id, y.t, j, v⟩) rfl rfl (k_four (by have := heap_alloc_new (wr.alloc (.cells #[.int .i64 y.t, .int .i64 y.w] 50)) (.cells #[.int .i64 id, .int .i64 y.t, .int .i64 j, .int .i64 v] 77); rw [World.size_alloc] at this; exact this)) (k_oneM _) (by unfold maxLen; omega) (by omega) (by have := HB.out.size; simp; omega) ?_)
      intro v' w4 hown hgrow hne hat
      have hM4 : KM w4 W0.heap.size v' ((toL id v E).take (j + 1)) := by rw [HS.out]; exact km_snoc (by rw [HLg.out]; exact hown)
      have hB3 : Below W0.heap.size W0 ((wr.alloc (.cells #[.int .i64 y.t, .int .i64 y.w] 50)).alloc (.cells #[.int .i64 id, .int .i64 y.t, .int .i64 j, .int .i64 v] 77)) := (HB.out.alloc HB.out.size _).alloc (by have := HB.out.size; simp; omega) _
      have hB4 : Below W0.heap.size W0 w4 := hB3.trans ((Fr.grown hgrow (S := fun k => W0.heap.size ≤ k) (fun k hk => (World.ownsRow.lt HR.out k hk).1)).below hB3.size (fun k hk => hk))
      obtain ⟨ao', c', rfl⟩ := k_shape hM4
      have e1 : ((toL id v E).take (j + 1)).length = j + 1 := by rw [HS.out, List.length_append, HLg.out]; rfl
      rw [e1] at hM4 ⊢
      have HM4 : Hid _ := hM4
      have HB4 : Hid _ := hB4
      clear hM4 hB3 hB4 hown hgrow hne hat e1
      go_wp2
      go_roundw
      case rel => exact ⟨j + 1, ao', c', by omega, rfl, by go_num, HM4.out, HB4.out⟩
      case measure => simp [intOf]; omega
    · obtain rfl : j = E.length := by omega
      rw [List.take_of_length_le (by rw [toL_len]; exact Nat.le_refl _)] at hR
      have HR : Hid _ := hR
      have HB : Hid _ := hb
      clear hR hb
      go_wp2
      go_ret
      exact ⟨_, rfl, k_low HR.out HB0.out.size, HB0.out.trans (HB.out.mono HB0.out.size)⟩
set_option maxRecDepth 100000 in
set_option maxHeartbeats 1000000 in
theorem back_any {w : World} {P : Nat → Prop} {st id va ma : Int} {eo mo po : Option Addr} {en ec mn mc pn pc : Nat} {ha u0 u1 u2 u3 u4 u5 u6 u7 u8 u9 : Value} (E : List Ed) (he : en = E.length) (hE : EdAt w P eo E) (hl : E.length ≤ 1048576) :
    Calls Try.prog 103 #[(.agg #[.int .i64 st, .int .i64 id, .int .i64 va, .slice eo en ec, ha, .slice mo mn mc, u0, u1, u2, u3, u4, u5, u6, u7, u8, u9, .int .i64 ma, .slice po pn pc])] w fun r w' => ∃ tv, r = .returned tv ∧ KU w' w.heap.size tv (backL id E) ∧ Below w.heap.size w w' := by
  obtain ⟨i0, hi, hz0, hz1, hz2⟩ := info_parts infoKU
  subst he
  obtain ⟨W0, hW0⟩ : ∃ W0, w.alloc (.cells #[.int .i64 st, .int .i64 id, .int .i64 va, .slice eo E.length ec, ha, .slice mo mn mc, u0, u1, u2, u3, u4, u5, u6, u7, u8, u9, .int .i64 ma, .slice po pn pc] 79) = W0 := ⟨_, rfl⟩
  have hB0 : Below w.heap.size w W0 := by rw [← hW0]; exact one_newK _ _
  have hc := InBox.made w #[.int .i64 st, .int .i64 id, .int .i64 va, .slice eo E.length ec, ha, .slice mo mn mc, u0, u1, u2, u3, u4, u5, u6, u7, u8, u9, .int .i64 ma, .slice po pn pc]
  rw [hW0] at hc
  have HC : Hid _ := hc
  obtain ⟨_, _, _, k3, _⟩ := hc.cells
  have HE : Hid (EdAt W0 P eo E) := hE.kept (Fr.ofBelow hB0 (fun _ => False)) (fun k hk hp => ⟨fun h => h, hp⟩)
  have HB0 : Hid _ := hB0
  clear hE hc hB0
  go_enter Try.func103, Try.ntmps103
  go_wp2
  go_loopw [3, 5, 10] (fun u _ i wr => ∃ (j : Nat) (ao : Option Addr) (c : Nat), j ≤ E.length ∧ u = .slice ao j c ∧ i = .int .i64 j ∧ KU wr W0.heap.size (.slice ao j c) ((backL id E).take j) ∧ Below W0.heap.size W0 wr) (fun _ _ i _ => E.length - (intOf i).toNat)
  case atStart => exact ⟨0, none, 0, Nat.zero_le _, rfl, rfl, World.ownsRow_nil _ _ _ _, Below.refl _ _⟩
  case round =>
    obtain ⟨j, ao, c, hj, rfl, rfl, hR, hb⟩ := hrel
    by_cases hlt : j < E.length
    · obtain ⟨b, off, rfl, hP, hc⟩ := HE.out (by omega)
      obtain ⟨e0, e1⟩ := hc j hlt
      have d0 := (hb.cell (p := ⟨b, off + j * 2, none⟩) (lt_cell e0)).trans e0
      have d1 := (hb.cell (p := ⟨b, off + j * 2 + 1, none⟩) (lt_cell e0)).trans e1
      have HS : Hid _ := backL_snoc id E j hlt
      have HLg : Hid (((backL id E).take j).length = j) := by show _ = _; rw [List.length_take, backL_len]; omega
      generalize E[j] = y at d0 d1 HS
      obtain ⟨_, q1, _⟩ := InBox.cells (InBox.new (InBox.new HC.out hb) (one_newK wr (.cells #[.int .i64 y.t, .int .i64 y.w] 50)))
      have HR : Hid (wr.ownsRow W0.heap.size 159 4 (.slice ao j c) j (((backL id E).take j).flatMap muCells)) := by have h := hR; unfold KU at h; rw [HLg.out] at h; exact h
      have HB : Hid _ := hb
      clear e0 e1 hc hR hb
      go_wp2_with (at_builtin; refine wpList_append_own_at _ rfl _ _ 68 rfl W0.heap.size 159 i0 (.agg #[.int .i64 0, .int .i64 0, .int .i64 0, .int .i64 0]) 4 32 Try.underlying68 hi hz0 hz1 hz2 rfl (by decide) (.slice ao j c) j (((backL id E).take j).flatMap muCells) rfl (k_new (k_new HR.out (one_newK _ _)) (one_newK _ _)) ⟨wr.heap.size + 1, 0, none⟩ 1 1 (muCells ⟨4, y.t, id, 0⟩) rfl rfl (k_four (by have := heap_alloc_new (wr.alloc (.cells #[.int .i64 y.t, .int .i64 y.w] 50)) (.cells #[.int .i64 4, .int .i64 y.t, .int .i64 id, .int .i64 0] 159); rw [World.size_alloc] at this; exact this)) (k_oneU _) (by unfold maxLen; omega) (by omega) (by have := HB.out.size; simp; omega) ?_)
      intro v' w4 hown hgrow hne hat
      have hM4 : KU w4 W0.heap.size v' ((backL id E).take (j + 1)) := by rw [HS.out]; exact ku_snoc (by rw [HLg.out]; exact hown)
      have hB3 : Below W0.heap.size W0 ((wr.alloc (.cells #[.int .i64 y.t, .int .i64 y.w] 50)).alloc (.cells #[.int .i64 4, .int .i64 y.t, .int .i64 id, .int .i64 0] 159)) := (HB.out.alloc HB.out.size _).alloc (by have := HB.out.size; simp; omega) _
      have hB4 : Below W0.heap.size W0 w4 := hB3.trans ((Fr.grown hgrow (S := fun k => W0.heap.size ≤ k) (fun k hk => (World.ownsRow.lt HR.out k hk).1)).below hB3.size (fun k hk => hk))
      obtain ⟨ao', c', rfl⟩ := k_shape hM4
      have e1 : ((backL id E).take (j + 1)).length = j + 1 := by rw [HS.out, List.length_append, HLg.out]; rfl
      rw [e1] at hM4 ⊢
      have HM4 : Hid _ := hM4
      have HB4 : Hid _ := hB4
      clear hM4 hB3 hB4 hown hgrow hne hat e1
      go_wp2
      go_roundw
      case rel => exact ⟨j + 1, ao', c', by omega, rfl, by go_num, HM4.out, HB4.out⟩
      case measure => simp [intOf]; omega
    · obtain rfl : j = E.length := by omega
      rw [List.take_of_length_le (by rw [backL_len]; exact Nat.le_refl _)] at hR
      have HR : Hid _ := hR
      have HB : Hid _ := hb
      clear hR hb
      go_wp2
      go_ret
      exact ⟨_, rfl, k_low HR.out HB0.out.size, HB0.out.trans (HB.out.mono HB0.out.size)⟩
end Go.Proofs.Ytnijacbfcffnpaa
end
