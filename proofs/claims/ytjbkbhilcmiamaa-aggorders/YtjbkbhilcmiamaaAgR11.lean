/- Region 11 of AggOrders: whatever order its operations take. -/
import Derived.Test.YtjbkbhilcmiamaaAgRow
namespace Go.Proofs.Ytjbkbhilcmiamaa
open Go.RowKit
set_option maxRecDepth 100000 in
set_option maxHeartbeats 3000000 in
theorem orders_r11 {wr : World} {P : Nat → Prop} {g cap kk : Nat} {D : List Ed} {x0 x1 x2 x3 x4 x6 x7 x9 x10 x11 x12 x13 x14 x15 x16 x17 x18 x19 x20 x21 x22 x23 x24 x25 x26 x27 x28 x29 x30 x31 x32 x33 x34 x35 x36 x37 x38 x39 x40 x41 x42 x43 x44 x45 x46 x47 x48 x49 x50 x51 x52 x53 x54 x55 x56 x57 x58 x59 x60 x61 x62 x63 x64 x65 x66 x67 x68 x69 x70 x71 x72 x73 x74 x75 x76 x77 x78 x79 x80 x81 x82 x83 x84 x85 x86 x87 x88 x89 x90 x91 x92 x93 : Value} {K : Act → World → Prop} {Q' : Exit → Act → World → Prop}
    (hks : kk < D.length ∨ (D = [] ∧ kk = 0)) (hD : D.length ≤ 40) (hcp : D.length ≤ cap) (hcm : cap ≤ maxLen) (HO : Hid (∀ y ∈ D, y.ok)) (HE : Hid (EdAt wr P (some ⟨g, 0, none⟩) D))
    (HC : ∀ (h : Nat) (wx : World) (u62 u63 u64 u65 u66 u67 u68 u69 u70 u71 u72 u73 : Value), wx.heap[h]? = some (.cells (AOc (mergeO (allO (D.drop kk)) (allO (D.take kk)))) 26 (0, 0)) → wr.heap.size ≤ h → Below wr.heap.size wr wx → K ⟨#[x0, x1, x2, x3, x4, (.slice (some ⟨g, 0, none⟩) D.length cap), x6, x7, (.int .i64 (kk : Int)), x9, x10, (.pointer (some ⟨h, 0, none⟩)), (.int .i64 (mergeE (allO (D.drop kk)) (allO (D.take kk)))), x13, x14, x15, x16, x17, x18, x19, x20, x21, x22, x23, x24, x25, x26, x27, x28, x29, x30, x31, x32, x33, x34, x35, x36, x37, x38, x39, x40, x41, x42, x43, x44, x45, x46, x47, x48, x49, x50, x51, x52, x53, x54, x55, x56, x57, x58, x59, x60, x61, u62, u63, u64, u65, u66, u67, u68, u69, u70, u71, u72, u73, x74, x75, x76, x77, x78, x79, x80, x81, x82, x83, x84, x85, x86, x87, x88, x89, x90, x91, x92, x93], []⟩ wx) :
    Code.wp Try.prog ((Try.f5.body.bind (regionOf 11)).getD .skip) (Exit.then K Q') ⟨#[x0, x1, x2, x3, x4, (.slice (some ⟨g, 0, none⟩) D.length cap), x6, x7, (.int .i64 (kk : Int)), x9, x10, x11, x12, x13, x14, x15, x16, x17, x18, x19, x20, x21, x22, x23, x24, x25, x26, x27, x28, x29, x30, x31, x32, x33, x34, x35, x36, x37, x38, x39, x40, x41, x42, x43, x44, x45, x46, x47, x48, x49, x50, x51, x52, x53, x54, x55, x56, x57, x58, x59, x60, x61, x62, x63, x64, x65, x66, x67, x68, x69, x70, x71, x72, x73, x74, x75, x76, x77, x78, x79, x80, x81, x82, x83, x84, x85, x86, x87, x88, x89, x90, x91, x92, x93], []⟩ wr := by
  have HH : Hid _ := HC
  have hkk : kk ≤ D.length := by rcases hks with h | ⟨rfl, rfl⟩ <;> omega
  have hcm' := hcm
  unfold maxLen at hcm'
  have lt : (D.take kk).length = kk := by rw [List.length_take]; omega
  have ld : (D.drop kk).length = D.length - kk := List.length_drop
  have LT : Hid _ := lt
  have LD : Hid _ := ld
  have OT : Hid (∀ y ∈ D.take kk, y.ok) := fun y hy => HO.out y (List.mem_of_mem_take hy)
  have OD : Hid (∀ y ∈ D.drop kk, y.ok) := fun y hy => HO.out y (List.mem_of_mem_drop hy)
  clear HC lt ld
  have hkc : kk ≤ cap := Nat.le_trans hkk hcp
  have hkd : ¬ D.length < kk := by omega
  refine wp_mono (Q := Exit.then K (fun _ _ _ => False)) ?_ (fun e a' w' hq => ?_)
  rotate_left
  · cases e with
    | normal => exact hq
    | exit id => exact hq.elim
    | goto l => exact hq.elim
    | ret => exact hq.elim
    | panic ch => exact hq.elim
    | outgrown => exact hq.elim
  conv => arg 2; whnf
  by_cases hck : kk = cap
  · obtain ⟨rfl, rfl⟩ : D = [] ∧ kk = 0 := by
      rcases hks with h | h
      · exfalso; omega
      · exact h
    subst hck
    clear LT LD OT OD HE HO hkk hkc hkd hcm hcm' hcp hks hD
    go_region_with (first
      | (go_at_call 13; first
        | (have := B1; refine (all_len (P := fun _ => True) (some ⟨g, 0, none⟩) 0 0 [] _ rfl (fun h => absurd h (by simp)) (fun y hy => by cases hy) (by simp)).mono ?_; rintro e w2 ⟨rfl, hb2⟩; first | (have := HZ1; have hz2 := (hb2.block wr.heap.size (lt_of_block HZ1.out)).trans HZ1.out; have HZ2 : Hid _ := hz2; have b2 := B1.out.trans (hb2.mono B1.out.size); have B2 : Hid _ := b2; clear hz2 b2) | ((with_reducible have b2 := B1.out.trans (hb2.mono B1.out.size)); have B2 : Hid _ := b2; clear b2) | ((with_reducible have hz2 := new_at (w := w1) hb2); have HZ2 : Hid _ := hz2; have b2 := B1.out.trans ((below_al hb2).mono B1.out.size); have B2 : Hid _ := b2; clear hz2 b2))
        | (refine (all_len (P := fun _ => True) (some ⟨g, 0, none⟩) 0 0 [] _ rfl (fun h => absurd h (by simp)) (fun y hy => by cases hy) (by simp)).mono ?_; rintro e w1 ⟨rfl, hb1⟩; first | ((with_reducible have b1 := below_c' (w := wr) hb1); have B1 : Hid _ := b1; clear b1) | ((with_reducible have hz1 := new_atd (w := wr) hb1); have HZ1 : Hid _ := hz1; have b1 := below_ald hb1; have B1 : Hid _ := b1; clear hz1 b1)))
      | (go_at_call 14; refine (merge_any (allO []) (allO []) _ OkO.none OkO.none).mono ?_; rintro e w3 ⟨rfl, hb3⟩; first
        | (have := HZ2; have hz3 := (hb3.block _ (lt_of_block HZ2.out)).trans HZ2.out; have b3 := B2.out.trans (hb3.mono B2.out.size); obtain ⟨y0, y1, y2, y3, y4, y5, y6, y7, y8, y9⟩ := mblk10 hz3; obtain ⟨q0, q1, q2, q3, q4, q5, q6, q7, q8, q9⟩ := fro_ao hz3; have HZ3 : Hid _ := hz3; have B3 : Hid _ := b3; clear hz3 b3; simp only [AO, AG])
        | ((with_reducible have b3 := B2.out.trans (hb3.mono B2.out.size)); have B3 : Hid _ := b3; clear b3; simp only [AO, AG])
        | ((with_reducible have hz3 := new_at (w := w2) hb3); have b3 := B2.out.trans ((below_al hb3).mono B2.out.size); obtain ⟨y0, y1, y2, y3, y4, y5, y6, y7, y8, y9⟩ := mblk10 hz3; obtain ⟨q0, q1, q2, q3, q4, q5, q6, q7, q8, q9⟩ := fro_ao hz3; have HZ3 : Hid _ := hz3; have B3 : Hid _ := b3; clear hz3 b3; simp only [AO, AG])))
    all_goals
      first
        | (have := HZ3; exact HH.out _ _ _ _ _ _ _ _ _ _ _ _ _ _ (mset10 _ _ _ _ _ _ _ _ _ _ HZ3.out) (by first | exact Nat.le_refl _ | exact B1.out.size | exact B2.out.size) (B3.out.trans ((fs10 _ _ _ _ _ _ _ _ _ _ _ _).below B3.out.size (fun k hk => by have h1 := B1.out.size; have h2 := B2.out.size; omega))))
        | exact HH.out w3.heap.size _ _ _ _ _ _ _ _ _ _ _ _ _ (heap_alloc_new _ _) B3.out.size (B3.out.alloc B3.out.size _)
  · have hck' : ¬ cap = kk := fun e => hck e.symm
    have TL : Hid (∀ wx, Below wr.heap.size wr wx → EdAt wx P (some ⟨g, kk * 2, none⟩) (D.drop kk)) := fun wx hw => ed_drop kk (HE.out.new hw)
    clear hks hck
    go_region_with (first
      | (go_at_call 13; first
        | (have := B1; refine (all_len (some ⟨g, 0, none⟩) cap kk (D.take kk) _ LT.out (ed_take kk (HE.out.new (by first | with_reducible exact B1.out | with_reducible exact B1.out.alloc B1.out.size _))) OT.out (by rw [LT.out]; omega)).mono ?_; rintro e w2 ⟨rfl, hb2⟩; first | (have := HZ1; have hz2 := (hb2.block wr.heap.size (lt_of_block HZ1.out)).trans HZ1.out; have HZ2 : Hid _ := hz2; have b2 := B1.out.trans (hb2.mono B1.out.size); have B2 : Hid _ := b2; clear hz2 b2) | ((with_reducible have b2 := B1.out.trans (hb2.mono B1.out.size)); have B2 : Hid _ := b2; clear b2) | ((with_reducible have hz2 := new_at (w := w1) hb2); have HZ2 : Hid _ := hz2; have b2 := B1.out.trans ((below_al hb2).mono B1.out.size); have B2 : Hid _ := b2; clear hz2 b2))
        | (refine (all_len (some ⟨g, kk * 2, none⟩) _ (D.length - kk) (D.drop kk) _ LD.out (TL.out _ (by first | with_reducible exact (Below.refl _ _).drew | with_reducible exact (one_new' _ _).drew)) OD.out (by rw [LD.out]; omega)).mono ?_; rintro e w1 ⟨rfl, hb1⟩; first | ((with_reducible have b1 := below_c' (w := wr) hb1); have B1 : Hid _ := b1; clear b1) | ((with_reducible have hz1 := new_atd (w := wr) hb1); have HZ1 : Hid _ := hz1; have b1 := below_ald hb1; have B1 : Hid _ := b1; clear hz1 b1)))
      | (go_at_call 14; refine (merge_any (allO (D.drop kk)) (allO (D.take kk)) _ (allO_ok _ OD.out) (allO_ok _ OT.out)).mono ?_; rintro e w3 ⟨rfl, hb3⟩; first
        | (have := HZ2; have hz3 := (hb3.block _ (lt_of_block HZ2.out)).trans HZ2.out; have b3 := B2.out.trans (hb3.mono B2.out.size); obtain ⟨y0, y1, y2, y3, y4, y5, y6, y7, y8, y9⟩ := mblk10 hz3; obtain ⟨q0, q1, q2, q3, q4, q5, q6, q7, q8, q9⟩ := fro_ao hz3; have HZ3 : Hid _ := hz3; have B3 : Hid _ := b3; clear hz3 b3; simp only [AO, AG])
        | ((with_reducible have b3 := B2.out.trans (hb3.mono B2.out.size)); have B3 : Hid _ := b3; clear b3; simp only [AO, AG])
        | ((with_reducible have hz3 := new_at (w := w2) hb3); have b3 := B2.out.trans ((below_al hb3).mono B2.out.size); obtain ⟨y0, y1, y2, y3, y4, y5, y6, y7, y8, y9⟩ := mblk10 hz3; obtain ⟨q0, q1, q2, q3, q4, q5, q6, q7, q8, q9⟩ := fro_ao hz3; have HZ3 : Hid _ := hz3; have B3 : Hid _ := b3; clear hz3 b3; simp only [AO, AG])))
    all_goals
      first
        | (have := HZ3; exact HH.out _ _ _ _ _ _ _ _ _ _ _ _ _ _ (mset10 _ _ _ _ _ _ _ _ _ _ HZ3.out) (by first | exact Nat.le_refl _ | exact B1.out.size | exact B2.out.size) (B3.out.trans ((fs10 _ _ _ _ _ _ _ _ _ _ _ _).below B3.out.size (fun k hk => by have h1 := B1.out.size; have h2 := B2.out.size; omega))))
        | exact HH.out w3.heap.size _ _ _ _ _ _ _ _ _ _ _ _ _ (heap_alloc_new _ _) B3.out.size (B3.out.alloc B3.out.size _)
end Go.Proofs.Ytjbkbhilcmiamaa
