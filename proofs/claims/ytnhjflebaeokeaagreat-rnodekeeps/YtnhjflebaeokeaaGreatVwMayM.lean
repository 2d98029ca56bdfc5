import Derived.Test.YtnhjflebaeokeaaGreatVwCcM
/- Which masters may stand up. -/
namespace Go.Proofs.YtnhjflebaeokeaaGreat
open Go.RowKit Go.Maps
attribute [local go_sem] Oper.semAt_some
theorem isNumber_any (w : World) (x : Int) : Calls Tryz.prog 113 #[.int .i64 x] w fun r w' => r = .returned (.bool (decide (0 ≤ x) && decide (x ≤ 2147483647))) ∧ w' = w := by
  by_cases h : 0 ≤ x
  · go_enter Tryz.func113, Tryz.ntmps113
    go_wp2
    go_ret
    exact ⟨by simp [h], rfl⟩
  · have h2 : x < 0 := by omega
    go_enter Tryz.func113, Tryz.ntmps113
    go_wp2
    go_ret
    exact ⟨by simp; omega, rfl⟩
def numI (x : Int) : Bool := decide (0 ≤ x) && decide (x ≤ 2147483647)
theorem numI_iff (x : Int) : numI x = true ↔ 0 ≤ x ∧ x ≤ 2147483647 := by simp [numI]
theorem hbox6 {W : World} {q : Nat} {t : TypeId} {x0 x1 x2 x3 x4 x5 : Value} (h : W.heap[q]? = some (.cells #[x0, x1, x2, x3, x4, x5] t (0, 0))) : W.cell? ⟨q, 0, none⟩ = some x0 ∧ W.cell? ⟨q, 1, none⟩ = some x1 ∧ W.cell? ⟨q, 2, none⟩ = some x2 ∧ W.cell? ⟨q, 3, none⟩ = some x3 ∧ W.cell? ⟨q, 4, none⟩ = some x4 ∧ W.cell? ⟨q, 5, none⟩ = some x5 := by
  refine ⟨?_, ?_, ?_, ?_, ?_, ?_⟩ <;> simp [World.cell?, h]
def mayI (vw nm bi : Int) (n : Nat) : Bool := numI vw && (numI nm && (numI bi && (decide (nm ≤ vw) && decide (n ≤ 1000))))
set_option maxRecDepth 100000 in
set_option maxHeartbeats 1000000 in
theorem mayBe_any (w : World) (vw nm bi bv : Int) (base : ByteArray) (ao : Option Addr) (n c : Nat) (hn : n ≤ 1000000) : Calls Tryz.prog 87 #[.agg #[.int .i64 vw, .int .i64 nm, .int .i64 bi, .int .i64 bv, .string base, .slice ao n c]] w fun r w' => r = .returned (.bool (mayI vw nm bi n)) ∧ Below w.heap.size w w' := by
  obtain ⟨W0, hW0⟩ : ∃ W0, w.alloc (.cells #[.int .i64 vw, .int .i64 nm, .int .i64 bi, .int .i64 bv, .string base, .slice ao n c] 66) = W0 := ⟨_, rfl⟩
  have HB : Hid (Below w.heap.size w W0) := by show Below _ _ _; rw [← hW0]; exact vone_new _ _
  obtain ⟨c0, c1, c2, c3, c4, c5⟩ := hbox6 (show W0.heap[w.heap.size]? = some (.cells #[.int .i64 vw, .int .i64 nm, .int .i64 bi, .int .i64 bv, .string base, .slice ao n c] 66 (0, 0)) by rw [← hW0]; exact heap_alloc_new _ _)
  obtain ⟨b1, hb1⟩ : ∃ b, numI vw = b := ⟨_, rfl⟩
  obtain ⟨b2, hb2⟩ : ∃ b, numI nm = b := ⟨_, rfl⟩
  obtain ⟨b3, hb3⟩ : ∃ b, numI bi = b := ⟨_, rfl⟩
  have H1 : Hid (∀ W, Calls Tryz.prog 113 #[.int .i64 vw] W fun r w' => r = .returned (.bool b1) ∧ w' = W) := fun W => by rw [← hb1]; exact isNumber_any W vw
  have H2 : Hid (∀ W, Calls Tryz.prog 113 #[.int .i64 nm] W fun r w' => r = .returned (.bool b2) ∧ w' = W) := fun W => by rw [← hb2]; exact isNumber_any W nm
  have H3 : Hid (∀ W, Calls Tryz.prog 113 #[.int .i64 bi] W fun r w' => r = .returned (.bool b3) ∧ w' = W) := fun W => by rw [← hb3]; exact isNumber_any W bi
  have HR : Hid (mayI vw nm bi n = (b1 && (b2 && (b3 && (decide (nm ≤ vw) && decide (n ≤ 1000)))))) := by show _ = _; unfold mayI; rw [hb1, hb2, hb3]
  rw [HR.out]
  clear HR hb1 hb2 hb3
  have hnI : (n : Int) ≤ 1000000 := by omega
  clear hn
  have fin : ∀ (b : Bool), (b = (b1 && (b2 && (b3 && (decide (nm ≤ vw) && decide (n ≤ 1000)))))) → Ending.returned (.bool b) = Ending.returned (.bool (b1 && (b2 && (b3 && (decide (nm ≤ vw) && decide (n ≤ 1000)))))) := fun b e => by rw [e]
  have HFin : Hid _ := fin
  clear fin
  go_enter Tryz.func87, Tryz.ntmps87
  go_upto_region 1 with (fail)
  clear hW0
  cases b1
  · go_wp2_with (go_at_call 113; refine Calls.mono (H1.out _) ?_; rintro r w1 ⟨rfl, rfl⟩)
    go_ret
    exact ⟨rfl, HB.out⟩
  · cases b2
    · go_wp2_with (go_at_call 113; first | (refine Calls.mono (H1.out _) ?_; rintro r w1 ⟨rfl, rfl⟩; clear H1) | (refine Calls.mono (H2.out _) ?_; rintro r w1 ⟨rfl, rfl⟩))
      go_ret
      exact ⟨rfl, HB.out⟩
    · cases b3
      · go_wp2_with (go_at_call 113; first | (refine Calls.mono (H1.out _) ?_; rintro r w1 ⟨rfl, rfl⟩; clear H1) | (refine Calls.mono (H2.out _) ?_; rintro r w1 ⟨rfl, rfl⟩; clear H2) | (refine Calls.mono (H3.out _) ?_; rintro r w1 ⟨rfl, rfl⟩))
        go_ret
        exact ⟨rfl, HB.out⟩
      · by_cases h4 : nm ≤ vw
        · by_cases h5 : n ≤ 1000
          · have h5I : (n : Int) ≤ 1000 := by omega
            go_wp2_with (go_at_call 113; first | (refine Calls.mono (H1.out _) ?_; rintro r w1 ⟨rfl, rfl⟩; clear H1) | (refine Calls.mono (H2.out _) ?_; rintro r w1 ⟨rfl, rfl⟩; clear H2) | (refine Calls.mono (H3.out _) ?_; rintro r w1 ⟨rfl, rfl⟩))
            go_ret
            exact ⟨by simp [h4, h5], HB.out⟩
          · have h5I : ¬ (n : Int) ≤ 1000 := by omega
            go_wp2_with (go_at_call 113; first | (refine Calls.mono (H1.out _) ?_; rintro r w1 ⟨rfl, rfl⟩; clear H1) | (refine Calls.mono (H2.out _) ?_; rintro r w1 ⟨rfl, rfl⟩; clear H2) | (refine Calls.mono (H3.out _) ?_; rintro r w1 ⟨rfl, rfl⟩))
            go_ret
            exact ⟨by simp [h5]; omega, HB.out⟩
        · go_wp2_with (go_at_call 113; first | (refine Calls.mono (H1.out _) ?_; rintro r w1 ⟨rfl, rfl⟩; clear H1) | (refine Calls.mono (H2.out _) ?_; rintro r w1 ⟨rfl, rfl⟩; clear H2) | (refine Calls.mono (H3.out _) ?_; rintro r w1 ⟨rfl, rfl⟩))
          go_ret
          exact ⟨by simp; omega, HB.out⟩
end Go.Proofs.YtnhjflebaeokeaaGreat
