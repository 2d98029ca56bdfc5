import Derived.Test.YthkfbaoeimjgaaaGreatGrThereM
import Derived.Test.YthkfbaoeimjgaaaGreatGrWalk2M
/- What Check returns. -/
namespace Go.Proofs.YthkfbaoeimjgaaaGreat
open Go.RowKit
theorem wlt {w : World} {P : Nat → Prop} {ao : Option Addr} {G : List Vx} (h : VxAt w P ao G) : VxAt w (fun k => k < w.heap.size) ao G := h.mono (fun _ hk _ => hk)
theorem one_new (w : World) (o : Obj) : Below w.heap.size w (w.alloc o) := (Below.refl _ _).alloc (Nat.le_refl _) _
theorem alloc_then {w w1 : World} {o : Obj} (h : Below (w.alloc o).heap.size (w.alloc o) w1) : Below w.heap.size w w1 := (one_new w o).trans (h.mono (by simp))

set_option maxRecDepth 100000 in
set_option maxHeartbeats 2000000 in
theorem check_any {w : World} {P : Nat → Prop} {ao : Option Addr} {G : List Vx} (cap : Nat) (h : VxAt w P ao G) (hl : G.length ≤ 9223372036854775807) (hok : ∀ v ∈ G, v.ok) :
    Calls Tryz.prog 101 #[.agg #[.slice ao G.length cap]] w fun r w' => r = .returned (.int .i64 (chk G)) ∧ Below w.heap.size w w' := by
  have hN := fun o => (wlt h).new (one_new w o)
  by_cases hlen : 256 < G.length
  · have HC : Hid (chk G = 30) := if_pos (Or.inl hlen)
    go_enter Tryz.func101, Tryz.ntmps101
    go_wp2
    go_ret
    exact ⟨by rw [HC.out]; rfl, one_new _ _⟩
  · have hR := fun o => rising_v cap (hN o) hl
    cases hrb : riseB (ids G) with
    | false =>
      have HC : Hid (chk G = 30) := if_pos (Or.inr hrb)
      rw [hrb] at hR
      go_enter Tryz.func101, Tryz.ntmps101
      go_wp2_with (go_at_call 149; refine (hR _).mono ?_; rintro r w1 ⟨rfl, hb1⟩)
      go_ret
      exact ⟨by rw [HC.out]; rfl, alloc_then hb1⟩
    | true =>
      rw [hrb] at hR
      have hrise := (riseB_iff _).1 hrb
      have H1 : Hid (∀ o w1, Below (w.alloc o).heap.size (w.alloc o) w1 → VxAt w1 (fun k => k < w.heap.size) ao G) := fun o w1 hb => ((hN o).new hb)
      have HC : Hid (chk G = if 2048 < sumE G ∨ risesE G = false ∨ thereE G = false then 31 else 0) := if_neg (by rw [hrb]; simp; omega)
      have HR : Hid (Rise (ids G)) := hrise
      have HO : Hid (∀ v ∈ G, v.ok) := hok
      clear hrise hok
      by_cases hs : 2048 < sumE G
      · go_enter Tryz.func101, Tryz.ntmps101
        go_wp2_with (first
          | (go_at_call 149; refine (hR _).mono ?_; rintro r w1 ⟨rfl, hb1⟩; have c1 := (hb1.cell (p := ⟨w.heap.size, 0, none⟩) (by simp)))
          | (go_at_call 151; refine (edges_any cap (H1.out _ _ hb1) hl).mono ?_; rintro r w2 ⟨rfl, hb2⟩))
        go_ret
        exact ⟨by rw [HC.out, if_pos (Or.inl hs)]; rfl, (alloc_then hb1).trans (hb2.mono (alloc_then hb1).size)⟩
      · have hE := fun w1 (v : VxAt w1 (fun k => k < w.heap.size) ao G) => endsrise_any cap v hl HO.out
        cases he : risesE G with
        | false =>
          simp only [he] at hE
          go_enter Tryz.func101, Tryz.ntmps101
          go_wp2_with (first
            | (go_at_call 149; refine (hR _).mono ?_; rintro r w1 ⟨rfl, hb1⟩; have c1 := (hb1.cell (p := ⟨w.heap.size, 0, none⟩) (by simp)); have z1 : w.heap.size < w1.heap.size := by have := hb1.size; simp at this; omega)
            | (go_at_call 151; refine (edges_any cap (H1.out _ _ hb1) hl).mono ?_; rintro r w2 ⟨rfl, hb2⟩; have c2 := (hb2.cell (p := ⟨w.heap.size, 0, none⟩) z1); have z2 : w.heap.size < w2.heap.size := Nat.lt_of_lt_of_le z1 hb2.size; have v2 := (H1.out _ _ hb1).new hb2)
            | (go_at_call 152; refine (hE _ v2).mono ?_; rintro r w3 ⟨rfl, hb3⟩; have c3 := (hb3.cell (p := ⟨w.heap.size, 0, none⟩) z2); have v3 := v2.new hb3))
          go_ret
          exact ⟨by rw [HC.out, if_pos (Or.inr (Or.inl he))]; rfl, ((alloc_then hb1).trans (hb2.mono (alloc_then hb1).size)).trans (hb3.mono (by have := z2; omega))⟩
        | true =>
          simp only [he] at hE
          have hT := fun w1 (v : VxAt w1 (fun k => k < w.heap.size) ao G) => there_any cap (wlt v) (by omega) HR.out HO.out
          cases ht : thereE G with
          | false =>
            simp only [ht] at hT
            go_enter Tryz.func101, Tryz.ntmps101
            go_wp2_with (first
              | (go_at_call 149; refine (hR _).mono ?_; rintro r w1 ⟨rfl, hb1⟩; have c1 := (hb1.cell (p := ⟨w.heap.size, 0, none⟩) (by simp)); have z1 : w.heap.size < w1.heap.size := by have := hb1.size; simp at this; omega)
              | (go_at_call 151; refine (edges_any cap (H1.out _ _ hb1) hl).mono ?_; rintro r w2 ⟨rfl, hb2⟩; have c2 := (hb2.cell (p := ⟨w.heap.size, 0, none⟩) z1); have z2 : w.heap.size < w2.heap.size := Nat.lt_of_lt_of_le z1 hb2.size; have v2 := (H1.out _ _ hb1).new hb2)
              | (go_at_call 152; refine (hE _ v2).mono ?_; rintro r w3 ⟨rfl, hb3⟩; have c3 := (hb3.cell (p := ⟨w.heap.size, 0, none⟩) z2); have v3 := v2.new hb3)
              | (go_at_call 153; refine (hT _ v3).mono ?_; rintro r w4 ⟨rfl, hb4⟩))
            go_ret
            exact ⟨by rw [HC.out, if_pos (Or.inr (Or.inr ht))]; rfl, (((alloc_then hb1).trans (hb2.mono (alloc_then hb1).size)).trans (hb3.mono (by have := z2; omega))).trans (hb4.mono (by have := hb3.size; omega))⟩
          | true =>
            simp only [ht] at hT
            go_enter Tryz.func101, Tryz.ntmps101
            go_wp2_with (first
              | (go_at_call 149; refine (hR _).mono ?_; rintro r w1 ⟨rfl, hb1⟩; have c1 := (hb1.cell (p := ⟨w.heap.size, 0, none⟩) (by simp)); have z1 : w.heap.size < w1.heap.size := by have := hb1.size; simp at this; omega)
              | (go_at_call 151; refine (edges_any cap (H1.out _ _ hb1) hl).mono ?_; rintro r w2 ⟨rfl, hb2⟩; have c2 := (hb2.cell (p := ⟨w.heap.size, 0, none⟩) z1); have z2 : w.heap.size < w2.heap.size := Nat.lt_of_lt_of_le z1 hb2.size; have v2 := (H1.out _ _ hb1).new hb2)
              | (go_at_call 152; refine (hE _ v2).mono ?_; rintro r w3 ⟨rfl, hb3⟩; have c3 := (hb3.cell (p := ⟨w.heap.size, 0, none⟩) z2); have v3 := v2.new hb3)
              | (go_at_call 153; refine (hT _ v3).mono ?_; rintro r w4 ⟨rfl, hb4⟩))
            go_ret
            exact ⟨by rw [HC.out, if_neg (by rw [he, ht]; simp; omega)]; rfl, (((alloc_then hb1).trans (hb2.mono (alloc_then hb1).size)).trans (hb3.mono (by have := z2; omega))).trans (hb4.mono (by have := hb3.size; omega))⟩
end Go.Proofs.YthkfbaoeimjgaaaGreat
