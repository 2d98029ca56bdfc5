import Derived.Test.YtidghoipmggklaaGreatMaTailM
import Derived.Test.YtidghoipmggklaaGreatMaTailM
/- MasterTexts: reports and tasks are put, and taken again. -/
namespace Go.Proofs.YtidghoipmggklaaGreat
open Go.RowKit
attribute [local go_sem] Oper.semAt_some eq_same_h eq_same_v
def BdI (j : Nat) (y0 y1 y2 y3 y4 y5 y6 y7 y8 : Int) : Prop := (y5 = y5) ∧ (0 < j → B31 y0) ∧ (1 < j → B31 y1) ∧ (2 < j → B31 y2) ∧ (3 < j → B31 y3) ∧ (4 < j → B31 y4) ∧ (5 < j → B31 y6) ∧ (6 < j → B31 y7) ∧ (7 < j → B31 y8)
def ZdI (j : Nat) (h0 h1 h2 h3 h4 : Bool) (v0 v1 v2 v3 v4 : Int) : Prop := (0 < j → h0 = false → v0 = 0) ∧ (1 < j → h1 = false → v1 = 0) ∧ (2 < j → h2 = false → v2 = 0) ∧ (3 < j → h3 = false → v3 = 0) ∧ (4 < j → h4 = false → v4 = 0)
/-- The aggregate behind which the five truths and numbers stand. -/
theorem mk_o {h0 h1 h2 h3 h4 : Bool} {v0 v1 v2 v3 v4 : Int} (hz : ZdI 5 h0 h1 h2 h3 h4 v0 v1 v2 v3 v4) (h6 : I64 v0 ∧ I64 v1 ∧ I64 v2 ∧ I64 v3 ∧ I64 v4) : ∃ o : Nat → Option Int, OkO o ∧ cutO o 5 = o ∧ h0 = oh o 0 ∧ h1 = oh o 1 ∧ h2 = oh o 2 ∧ h3 = oh o 3 ∧ h4 = oh o 4 ∧ v0 = ov o 0 ∧ v1 = ov o 1 ∧ v2 = ov o 2 ∧ v3 = ov o 3 ∧ v4 = ov o 4 := by
  obtain ⟨z0, z1, z2, z3, z4⟩ := hz
  obtain ⟨q0, q1, q2, q3, q4⟩ := h6
  have p : ∀ (h : Bool) (v : Int), (h = false → v = 0) → v = (if h = true then some v else (none : Option Int)).getD 0 := fun h v hh => by cases h <;> simp at hh ⊢; exact hh
  have t : ∀ (h : Bool) (v : Int), h = (if h = true then some v else (none : Option Int)).isSome := fun h v => by cases h <;> rfl
  refine ⟨fun k => if k = 0 then (if h0 = true then some v0 else none) else if k = 1 then (if h1 = true then some v1 else none) else if k = 2 then (if h2 = true then some v2 else none) else if k = 3 then (if h3 = true then some v3 else none) else if k = 4 then (if h4 = true then some v4 else none) else none, ?_, ?_, t _ _, t _ _, t _ _, t _ _, t _ _, p _ _ (z0 (by decide)), p _ _ (z1 (by decide)), p _ _ (z2 (by decide)), p _ _ (z3 (by decide)), p _ _ (z4 (by decide))⟩
  rotate_left
  · funext k
    unfold cutO
    by_cases hk : k < 5
    · rw [if_pos hk]
    · rw [if_neg hk, if_neg (by omega), if_neg (by omega), if_neg (by omega), if_neg (by omega), if_neg (by omega)]
  intro k x hk
  simp only at hk
  repeat' split at hk
  all_goals first | (cases hk; done) | (cases hk; first | exact q0 | exact q1 | exact q2 | exact q3 | exact q4)
set_option linter.unusedSimpArgs false in
set_option maxRecDepth 100000 in
set_option maxHeartbeats 16000000 in
theorem law_mtexts (w : World) {y0 y1 y2 y3 y4 y5 y6 y7 y8 v0 v1 v2 v3 v4 st se pa n0 n1 n2 : Int} {h0 h1 h2 h3 h4 : Bool} {vo go po : Option Addr} {vn vc gn gc pn pc : Nat} {t : ByteArray} (hvc : vn ≤ vc) (hvc2 : vc ≤ 9223372036854775807) (hv6 : I64 v0 ∧ I64 v1 ∧ I64 v2 ∧ I64 v3 ∧ I64 v4) {LV : List Ed} (hvl : LV.length = vn) (hvo : ∀ x ∈ LV, x.ok) (hva : 0 < LV.length → ∃ b off, vo = some ⟨b, off, none⟩ ∧ ∀ j (h : j < LV.length), w.cell? ⟨b, off + j * 2, none⟩ = some (.int .i64 LV[j].t) ∧ w.cell? ⟨b, off + j * 2 + 1, none⟩ = some (.int .i64 LV[j].w)) {G : List Vx} {ps : List Int} (hji : JbIn w go po gn gc pn G ps) (hn6 : I64 n0 ∧ I64 n1 ∧ I64 n2) : Calls Tryz.prog 7 #[.agg #[.int .i64 y0, .int .i64 y1, .int .i64 y2, .int .i64 y3, .int .i64 y4, .int .i64 y5, .int .i64 y6, .int .i64 y7, .int .i64 y8, .bool h0, .bool h1, .bool h2, .bool h3, .bool h4, .int .i64 v0, .int .i64 v1, .int .i64 v2, .int .i64 v3, .int .i64 v4, .slice vo vn vc], .agg #[.string t, .slice go gn gc, .slice po pn pc, .int .i64 st, .int .i64 se, .int .i64 pa], .agg #[.int .i64 n0, .int .i64 n1, .int .i64 n2]] w fun r w' => r = .returned (.bool true) ∧ Below w.heap.size w w' := by
  have HV6 : Hid (I64 v0 ∧ I64 v1 ∧ I64 v2 ∧ I64 v3 ∧ I64 v4) := hv6
  have HLv : Hid (LV.length = vn) := hvl
  have HLo : Hid (∀ x ∈ LV, x.ok) := hvo
  have HLa : Hid (0 < LV.length → ∃ b off, vo = some ⟨b, off, none⟩ ∧ ∀ j (h : j < LV.length), w.cell? ⟨b, off + j * 2, none⟩ = some (.int .i64 LV[j].t) ∧ w.cell? ⟨b, off + j * 2 + 1, none⟩ = some (.int .i64 LV[j].w)) := hva
  have HJi : Hid (JbIn w go po gn gc pn G ps) := hji
  have HN6 : Hid (I64 n0 ∧ I64 n1 ∧ I64 n2) := hn6
  clear hv6 hvl hvo hva hji hn6
  go_enter Tryz.func7, Tryz.ntmps7
  go_upto_region 2 with (fail)
  generalize hW : World.alloc _ _ = W
  have HI : Hid (MtI w W w.heap.size (w.heap.size + 1) (w.heap.size + 1 + 1) (w.heap.size + 1 + 1 + 1) #[.int .i64 y0, .int .i64 y1, .int .i64 y2, .int .i64 y3, .int .i64 y4, .int .i64 y5, .int .i64 y6, .int .i64 y7, .int .i64 y8, .bool h0, .bool h1, .bool h2, .bool h3, .bool h4, .int .i64 v0, .int .i64 v1, .int .i64 v2, .int .i64 v3, .int .i64 v4, .slice vo vn vc] #[.string t, .slice go gn gc, .slice po pn pc, .int .i64 st, .int .i64 se, .int .i64 pa] #[.int .i64 n0, .int .i64 n1, .int .i64 n2]) := by
    obtain ⟨W1, hW1⟩ : ∃ W1, w.alloc (.cells #[.int .i64 y0, .int .i64 y1, .int .i64 y2, .int .i64 y3, .int .i64 y4, .int .i64 y5, .int .i64 y6, .int .i64 y7, .int .i64 y8, .bool h0, .bool h1, .bool h2, .bool h3, .bool h4, .int .i64 v0, .int .i64 v1, .int .i64 v2, .int .i64 v3, .int .i64 v4, .slice vo vn vc] 57) = W1 := ⟨_, rfl⟩
    rw [hW1] at hW
    obtain ⟨W2, hW2⟩ : ∃ W2, W1.alloc (.cells #[.string t, .slice go gn gc, .slice po pn pc, .int .i64 st, .int .i64 se, .int .i64 pa] 27) = W2 := ⟨_, rfl⟩
    rw [hW2] at hW
    obtain ⟨W3, hW3⟩ : ∃ W3, W2.alloc (.cells #[.int .i64 n0, .int .i64 n1, .int .i64 n2] 95) = W3 := ⟨_, rfl⟩
    rw [hW3] at hW
    have s1 : W1.heap.size = w.heap.size + 1 := by rw [← hW1]; simp
    have s2 : W2.heap.size = w.heap.size + 1 + 1 := by rw [← hW2, World.size_alloc, s1]
    have s3 : W3.heap.size = w.heap.size + 1 + 1 + 1 := by rw [← hW3, World.size_alloc, s2]
    have q1 : Below w.heap.size w W1 := by rw [← hW1]; exact ma_new _ _
    have q2 : Below W1.heap.size W1 W2 := by rw [← hW2]; exact ma_new _ _
    have q3 : Below W2.heap.size W2 W3 := by rw [← hW3]; exact ma_new _ _
    have q4 : Below W3.heap.size W3 W := by rw [← hW]; exact ma_new _ _
    have k1 := heap_alloc_new w (.cells #[.int .i64 y0, .int .i64 y1, .int .i64 y2, .int .i64 y3, .int .i64 y4, .int .i64 y5, .int .i64 y6, .int .i64 y7, .int .i64 y8, .bool h0, .bool h1, .bool h2, .bool h3, .bool h4, .int .i64 v0, .int .i64 v1, .int .i64 v2, .int .i64 v3, .int .i64 v4, .slice vo vn vc] 57)
    have k2 := heap_alloc_new W1 (.cells #[.string t, .slice go gn gc, .slice po pn pc, .int .i64 st, .int .i64 se, .int .i64 pa] 27)
    have k3 := heap_alloc_new W2 (.cells #[.int .i64 n0, .int .i64 n1, .int .i64 n2] 95)
    rw [hW1] at k1
    rw [hW2, s1] at k2
    rw [hW3, s2] at k3
    have k4 : W.heap[w.heap.size + 1 + 1 + 1]? = some (.cells #[.pointer (some ⟨w.heap.size, 0, none⟩), .pointer (some ⟨w.heap.size, 1, none⟩), .pointer (some ⟨w.heap.size, 2, none⟩), .pointer (some ⟨w.heap.size, 3, none⟩), .pointer (some ⟨w.heap.size, 4, none⟩), .pointer (some ⟨w.heap.size, 6, none⟩), .pointer (some ⟨w.heap.size, 7, none⟩), .pointer (some ⟨w.heap.size, 8, none⟩)] 96 (0, 0)) := by rw [← hW, ← s3]; exact heap_alloc_new _ _
    exact ⟨(q4.block _ (by omega)).trans ((q3.block _ (by omega)).trans ((q2.block _ (by omega)).trans k1)), (q4.block _ (by omega)).trans ((q3.block _ (by omega)).trans k2), (q4.block _ (by omega)).trans k3, k4, ((q1.trans (q2.mono (by omega))).trans (q3.mono (by omega))).trans (q4.mono (by omega)), by omega⟩
  clear hW
  obtain ⟨g3, hg3⟩ : ∃ g3, w.heap.size = g3 := ⟨_, rfl⟩
  have HG3 : Hid (w.heap.size = g3) := hg3
  have HI : Hid (MtI w W g3 (g3 + 1) (g3 + 1 + 1) (g3 + 1 + 1 + 1) #[.int .i64 y0, .int .i64 y1, .int .i64 y2, .int .i64 y3, .int .i64 y4, .int .i64 y5, .int .i64 y6, .int .i64 y7, .int .i64 y8, .bool h0, .bool h1, .bool h2, .bool h3, .bool h4, .int .i64 v0, .int .i64 v1, .int .i64 v2, .int .i64 v3, .int .i64 v4, .slice vo vn vc] #[.string t, .slice go gn gc, .slice po pn pc, .int .i64 st, .int .i64 se, .int .i64 pa] #[.int .i64 n0, .int .i64 n1, .int .i64 n2]) := by rw [← hg3]; exact HI.out
  try rw [hg3]
  clear hg3
  generalize Value.agg #[.int .i64 y0, .int .i64 y1, .int .i64 y2, .int .i64 y3, .int .i64 y4, .int .i64 y5, .int .i64 y6, .int .i64 y7, .int .i64 y8, .bool h0, .bool h1, .bool h2, .bool h3, .bool h4, .int .i64 v0, .int .i64 v1, .int .i64 v2, .int .i64 v3, .int .i64 v4, .slice vo vn vc] = A0
  generalize Value.agg #[.string t, .slice go gn gc, .slice po pn pc, .int .i64 st, .int .i64 se, .int .i64 pa] = A1
  generalize Value.agg #[.int .i64 n0, .int .i64 n1, .int .i64 n2] = A2
  as_aux_lemma =>
  generalize g3 + 1 + 1 + 1 = g7 at HI ⊢
  generalize g3 + 1 + 1 = g5 at HI ⊢
  generalize g3 + 1 = g4 at HI ⊢
  go_wp2
  go_loopw [8] (fun i wr => ∃ (j : Nat) (y0 y1 y2 y3 y4 y5 y6 y7 y8 : Int), j ≤ 8 ∧ i = .int .i64 j ∧ Hid (MtI w wr g3 g4 g5 g7 #[.int .i64 y0, .int .i64 y1, .int .i64 y2, .int .i64 y3, .int .i64 y4, .int .i64 y5, .int .i64 y6, .int .i64 y7, .int .i64 y8, .bool h0, .bool h1, .bool h2, .bool h3, .bool h4, .int .i64 v0, .int .i64 v1, .int .i64 v2, .int .i64 v3, .int .i64 v4, .slice vo vn vc] #[.string t, .slice go gn gc, .slice po pn pc, .int .i64 st, .int .i64 se, .int .i64 pa] #[.int .i64 n0, .int .i64 n1, .int .i64 n2]) ∧ Hid (BdI j y0 y1 y2 y3 y4 y5 y6 y7 y8)) (fun i _ => 8 - (intOf i).toNat)
  case atStart => exact ⟨0, y0, y1, y2, y3, y4, y5, y6, y7, y8, Nat.zero_le _, rfl, HI, ⟨rfl, fun h => absurd h (by decide), fun h => absurd h (by decide), fun h => absurd h (by decide), fun h => absurd h (by decide), fun h => absurd h (by decide), fun h => absurd h (by decide), fun h => absurd h (by decide), fun h => absurd h (by decide)⟩⟩
  case round =>
    as_aux_lemma =>
    clear HI
    obtain ⟨j, y0, y1, y2, y3, y4, y5, y6, y7, y8, hj, rfl, HJ, HB⟩ := hrel
    by_cases hlt : j < 8
    · have HLt : Hid (j < 8) := hlt
      have hcase : j = 0 ∨ j = 1 ∨ j = 2 ∨ j = 3 ∨ j = 4 ∨ j = 5 ∨ j = 6 ∨ j = 7 := by omega
      clear hlt hj
      rcases hcase with rfl | rfl | rfl | rfl | rfl | rfl | rfl | rfl
      · as_aux_lemma =>
          have c7 : wr.cell? ⟨g7, 0, none⟩ = some (.pointer (some ⟨g3, 0, none⟩)) := by simp [World.cell?, HJ.out.b7]
          have c3 : wr.cell? ⟨g3, 0, none⟩ = some (.int .i64 y0) := by simp [World.cell?, HJ.out.b3]
          have f3 := HJ.out.fz 0
          have HP : Hid (MtI w (wr.setCell ⟨g3, 0, none⟩ (.int .i64 1)) g3 g4 g5 g7 #[.int .i64 1, .int .i64 y1, .int .i64 y2, .int .i64 y3, .int .i64 y4, .int .i64 y5, .int .i64 y6, .int .i64 y7, .int .i64 y8, .bool h0, .bool h1, .bool h2, .bool h3, .bool h4, .int .i64 v0, .int .i64 v1, .int .i64 v2, .int .i64 v3, .int .i64 v4, .slice vo vn vc] #[.string t, .slice go gn gc, .slice po pn pc, .int .i64 st, .int .i64 se, .int .i64 pa] #[.int .i64 n0, .int .i64 n1, .int .i64 n2]) := HJ.out.put 0 _
          by_cases hn : y0 < 0
          · go_wp2
            go_roundw
            case rel => exact ⟨1, 1, y1, y2, y3, y4, y5, y6, y7, y8, by decide, rfl, HP, (by have HBk : B31 1 := (by unfold B31; decide); exact ⟨rfl, fun _ => HBk, fun h => absurd h (by decide), fun h => absurd h (by decide), fun h => absurd h (by decide), fun h => absurd h (by decide), fun h => absurd h (by decide), fun h => absurd h (by decide), fun h => absurd h (by decide)⟩)⟩
            case measure => simp [intOf]
          · by_cases hm : 2147483648 ≤ y0
            · go_wp2
              go_roundw
              case rel => exact ⟨1, 1, y1, y2, y3, y4, y5, y6, y7, y8, by decide, rfl, HP, (by have HBk : B31 1 := (by unfold B31; decide); exact ⟨rfl, fun _ => HBk, fun h => absurd h (by decide), fun h => absurd h (by decide), fun h => absurd h (by decide), fun h => absurd h (by decide), fun h => absurd h (by decide), fun h => absurd h (by decide), fun h => absurd h (by decide)⟩)⟩
              case measure => simp [intOf]
            · have HBk : Hid (B31 y0) := ⟨by omega, by omega⟩
              go_wp2
              go_roundw
              case rel => exact ⟨1, y0, y1, y2, y3, y4, y5, y6, y7, y8, by decide, rfl, HJ, (by have HBk := HBk.out; exact ⟨rfl, fun _ => HBk, fun h => absurd h (by decide), fun h => absurd h (by decide), fun h => absurd h (by decide), fun h => absurd h (by decide), fun h => absurd h (by decide), fun h => absurd h (by decide), fun h => absurd h (by decide)⟩)⟩
              case measure => simp [intOf]
      · as_aux_lemma =>
          have c7 : wr.cell? ⟨g7, 1, none⟩ = some (.pointer (some ⟨g3, 1, none⟩)) := by simp [World.cell?, HJ.out.b7]
          have c3 : wr.cell? ⟨g3, 1, none⟩ = some (.int .i64 y1) := by simp [World.cell?, HJ.out.b3]
          have f3 := HJ.out.fz 1
          have HP : Hid (MtI w (wr.setCell ⟨g3, 1, none⟩ (.int .i64 1)) g3 g4 g5 g7 #[.int .i64 y0, .int .i64 1, .int .i64 y2, .int .i64 y3, .int .i64 y4, .int .i64 y5, .int .i64 y6, .int .i64 y7, .int .i64 y8, .bool h0, .bool h1, .bool h2, .bool h3, .bool h4, .int .i64 v0, .int .i64 v1, .int .i64 v2, .int .i64 v3, .int .i64 v4, .slice vo vn vc] #[.string t, .slice go gn gc, .slice po pn pc, .int .i64 st, .int .i64 se, .int .i64 pa] #[.int .i64 n0, .int .i64 n1, .int .i64 n2]) := HJ.out.put 1 _
          by_cases hn : y1 < 0
          · go_wp2
            go_roundw
            case rel => exact ⟨2, y0, 1, y2, y3, y4, y5, y6, y7, y8, by decide, rfl, HP, (by have HBk : B31 1 := (by unfold B31; decide); exact ⟨rfl, fun _ => HB.out.2.1 (by decide), fun _ => HBk, fun h => absurd h (by decide), fun h => absurd h (by decide), fun h => absurd h (by decide), fun h => absurd h (by decide), fun h => absurd h (by decide), fun h => absurd h (by decide)⟩)⟩
            case measure => simp [intOf]
          · by_cases hm : 2147483648 ≤ y1
            · go_wp2
              go_roundw
              case rel => exact ⟨2, y0, 1, y2, y3, y4, y5, y6, y7, y8, by decide, rfl, HP, (by have HBk : B31 1 := (by unfold B31; decide); exact ⟨rfl, fun _ => HB.out.2.1 (by decide), fun _ => HBk, fun h => absurd h (by decide), fun h => absurd h (by decide), fun h => absurd h (by decide), fun h => absurd h (by decide), fun h => absurd h (by decide), fun h => absurd h (by decide)⟩)⟩
              case measure => simp [intOf]
            · have HBk : Hid (B31 y1) := ⟨by omega, by omega⟩
              go_wp2
              go_roundw
              case rel => exact ⟨2, y0, y1, y2, y3, y4, y5, y6, y7, y8, by decide, rfl, HJ, (by have HBk := HBk.out; exact ⟨rfl, fun _ => HB.out.2.1 (by decide), fun _ => HBk, fun h => absurd h (by decide), fun h => absurd h (by decide), fun h => absurd h (by decide), fun h => absurd h (by decide), fun h => absurd h (by decide), fun h => absurd h (by decide)⟩)⟩
              case measure => simp [intOf]
      · as_aux_lemma =>
          have c7 : wr.cell? ⟨g7, 2, none⟩ = some (.pointer (some ⟨g3, 2, none⟩)) := by simp [World.cell?, HJ.out.b7]
          have c3 : wr.cell? ⟨g3, 2, none⟩ = some (.int .i64 y2) := by simp [World.cell?, HJ.out.b3]
          have f3 := HJ.out.fz 2
          have HP : Hid (MtI w (wr.setCell ⟨g3, 2, none⟩ (.int .i64 1)) g3 g4 g5 g7 #[.int .i64 y0, .int .i64 y1, .int .i64 1, .int .i64 y3, .int .i64 y4, .int .i64 y5, .int .i64 y6, .int .i64 y7, .int .i64 y8, .bool h0, .bool h1, .bool h2, .bool h3, .bool h4, .int .i64 v0, .int .i64 v1, .int .i64 v2, .int .i64 v3, .int .i64 v4, .slice vo vn vc] #[.string t, .slice go gn gc, .slice po pn pc, .int .i64 st, .int .i64 se, .int .i64 pa] #[.int .i64 n0, .int .i64 n1, .int .i64 n2]) := HJ.out.put 2 _
          by_cases hn : y2 < 0
          · go_wp2
            go_roundw
            case rel => exact ⟨3, y0, y1, 1, y3, y4, y5, y6, y7, y8, by decide, rfl, HP, (by have HBk : B31 1 := (by unfold B31; decide); exact ⟨rfl, fun _ => HB.out.2.1 (by decide), fun _ => HB.out.2.2.1 (by decide), fun _ => HBk, fun h => absurd h (by decide), fun h => absurd h (by decide), fun h => absurd h (by decide), fun h => absurd h (by decide), fun h => absurd h (by decide)⟩)⟩
            case measure => simp [intOf]
          · by_cases hm : 2147483648 ≤ y2
            · go_wp2
              go_roundw
              case rel => exact ⟨3, y0, y1, 1, y3, y4, y5, y6, y7, y8, by decide, rfl, HP, (by have HBk : B31 1 := (by unfold B31; decide); exact ⟨rfl, fun _ => HB.out.2.1 (by decide), fun _ => HB.out.2.2.1 (by decide), fun _ => HBk, fun h => absurd h (by decide), fun h => absurd h (by decide), fun h => absurd h (by decide), fun h => absurd h (by decide), fun h => absurd h (by decide)⟩)⟩
              case measure => simp [intOf]
            · have HBk : Hid (B31 y2) := ⟨by omega, by omega⟩
              go_wp2
              go_roundw
              case rel => exact ⟨3, y0, y1, y2, y3, y4, y5, y6, y7, y8, by decide, rfl, HJ, (by have HBk := HBk.out; exact ⟨rfl, fun _ => HB.out.2.1 (by decide), fun _ => HB.out.2.2.1 (by decide), fun _ => HBk, fun h => absurd h (by decide), fun h => absurd h (by decide), fun h => absurd h (by decide), fun h => absurd h (by decide), fun h => absurd h (by decide)⟩)⟩
              case measure => simp [intOf]
      · as_aux_lemma =>
          have c7 : wr.cell? ⟨g7, 3, none⟩ = some (.pointer (some ⟨g3, 3, none⟩)) := by simp [World.cell?, HJ.out.b7]
          have c3 : wr.cell? ⟨g3, 3, none⟩ = some (.int .i64 y3) := by simp [World.cell?, HJ.out.b3]
          have f3 := HJ.out.fz 3
          have HP : Hid (MtI w (wr.setCell ⟨g3, 3, none⟩ (.int .i64 1)) g3 g4 g5 g7 #[.int .i64 y0, .int .i64 y1, .int .i64 y2, .int .i64 1, .int .i64 y4, .int .i64 y5, .int .i64 y6, .int .i64 y7, .int .i64 y8, .bool h0, .bool h1, .bool h2, .bool h3, .bool h4, .int .i64 v0, .int .i64 v1, .int .i64 v2, .int .i64 v3, .int .i64 v4, .slice vo vn vc] #[.string t, .slice go gn gc, .slice po pn pc, .int .i64 st, .int .i64 se, .int .i64 pa] #[.int .i64 n0, .int .i64 n1, .int .i64 n2]) := HJ.out.put 3 _
          by_cases hn : y3 < 0
          · go_wp2
            go_roundw
            case rel => exact ⟨4, y0, y1, y2, 1, y4, y5, y6, y7, y8, by decide, rfl, HP, (by have HBk : B31 1 := (by unfold B31; decide); exact ⟨rfl, fun _ => HB.out.2.1 (by decide), fun _ => HB.out.2.2.1 (by decide), fun _ => HB.out.2.2.2.1 (by decide), fun _ => HBk, fun h => absurd h (by decide), fun h => absurd h (by decide), fun h => absurd h (by decide), fun h => absurd h (by decide)⟩)⟩
            case measure => simp [intOf]
          · by_cases hm : 2147483648 ≤ y3
            · go_wp2
              go_roundw
              case rel => exact ⟨4, y0, y1, y2, 1, y4, y5, y6, y7, y8, by decide, rfl, HP, (by have HBk : B31 1 := (by unfold B31; decide); exact ⟨rfl, fun _ => HB.out.2.1 (by decide), fun _ => HB.out.2.2.1 (by decide), fun _ => HB.out.2.2.2.1 (by decide), fun _ => HBk, fun h => absurd h (by decide), fun h => absurd h (by decide), fun h => absurd h (by decide), fun h => absurd h (by decide)⟩)⟩
              case measure => simp [intOf]
            · have HBk : Hid (B31 y3) := ⟨by omega, by omega⟩
              go_wp2
              go_roundw
              case rel => exact ⟨4, y0, y1, y2, y3, y4, y5, y6, y7, y8, by decide, rfl, HJ, (by have HBk := HBk.out; exact ⟨rfl, fun _ => HB.out.2.1 (by decide), fun _ => HB.out.2.2.1 (by decide), fun _ => HB.out.2.2.2.1 (by decide), fun _ => HBk, fun h => absurd h (by decide), fun h => absurd h (by decide), fun h => absurd h (by decide), fun h => absurd h (by decide)⟩)⟩
              case measure => simp [intOf]
      · as_aux_lemma =>
          have c7 : wr.cell? ⟨g7, 4, none⟩ = some (.pointer (some ⟨g3, 4, none⟩)) := by simp [World.cell?, HJ.out.b7]
          have c3 : wr.cell? ⟨g3, 4, none⟩ = some (.int .i64 y4) := by simp [World.cell?, HJ.out.b3]
          have f3 := HJ.out.fz 4
          have HP : Hid (MtI w (wr.setCell ⟨g3, 4, none⟩ (.int .i64 1)) g3 g4 g5 g7 #[.int .i64 y0, .int .i64 y1, .int .i64 y2, .int .i64 y3, .int .i64 1, .int .i64 y5, .int .i64 y6, .int .i64 y7, .int .i64 y8, .bool h0, .bool h1, .bool h2, .bool h3, .bool h4, .int .i64 v0, .int .i64 v1, .int .i64 v2, .int .i64 v3, .int .i64 v4, .slice vo vn vc] #[.string t, .slice go gn gc, .slice po pn pc, .int .i64 st, .int .i64 se, .int .i64 pa] #[.int .i64 n0, .int .i64 n1, .int .i64 n2]) := HJ.out.put 4 _
          by_cases hn : y4 < 0
          · go_wp2
            go_roundw
            case rel => exact ⟨5, y0, y1, y2, y3, 1, y5, y6, y7, y8, by decide, rfl, HP, (by have HBk : B31 1 := (by unfold B31; decide); exact ⟨rfl, fun _ => HB.out.2.1 (by decide), fun _ => HB.out.2.2.1 (by decide), fun _ => HB.out.2.2.2.1 (by decide), fun _ => HB.out.2.2.2.2.1 (by decide), fun _ => HBk, fun h => absurd h (by decide), fun h => absurd h (by decide), fun h => absurd h (by decide)⟩)⟩
            case measure => simp [intOf]
          · by_cases hm : 2147483648 ≤ y4
            · go_wp2
              go_roundw
              case rel => exact ⟨5, y0, y1, y2, y3, 1, y5, y6, y7, y8, by decide, rfl, HP, (by have HBk : B31 1 := (by unfold B31; decide); exact ⟨rfl, fun _ => HB.out.2.1 (by decide), fun _ => HB.out.2.2.1 (by decide), fun _ => HB.out.2.2.2.1 (by decide), fun _ => HB.out.2.2.2.2.1 (by decide), fun _ => HBk, fun h => absurd h (by decide), fun h => absurd h (by decide), fun h => absurd h (by decide)⟩)⟩
              case measure => simp [intOf]
            · have HBk : Hid (B31 y4) := ⟨by omega, by omega⟩
              go_wp2
              go_roundw
              case rel => exact ⟨5, y0, y1, y2, y3, y4, y5, y6, y7, y8, by decide, rfl, HJ, (by have HBk := HBk.out; exact ⟨rfl, fun _ => HB.out.2.1 (by decide), fun _ => HB.out.2.2.1 (by decide), fun _ => HB.out.2.2.2.1 (by decide), fun _ => HB.out.2.2.2.2.1 (by decide), fun _ => HBk, fun h => absurd h (by decide), fun h => absurd h (by decide), fun h => absurd h (by decide)⟩)⟩
              case measure => simp [intOf]
      · as_aux_lemma =>
          have c7 : wr.cell? ⟨g7, 5, none⟩ = some (.pointer (some ⟨g3, 6, none⟩)) := by simp [World.cell?, HJ.out.b7]
          have c3 : wr.cell? ⟨g3, 6, none⟩ = some (.int .i64 y6) := by simp [World.cell?, HJ.out.b3]
          have f3 := HJ.out.fz 6
          have HP : Hid (MtI w (wr.setCell ⟨g3, 6, none⟩ (.int .i64 1)) g3 g4 g5 g7 #[.int .i64 y0, .int .i64 y1, .int .i64 y2, .int .i64 y3, .int .i64 y4, .int .i64 y5, .int .i64 1, .int .i64 y7, .int .i64 y8, .bool h0, .bool h1, .bool h2, .bool h3, .bool h4, .int .i64 v0, .int .i64 v1, .int .i64 v2, .int .i64 v3, .int .i64 v4, .slice vo vn vc] #[.string t, .slice go gn gc, .slice po pn pc, .int .i64 st, .int .i64 se, .int .i64 pa] #[.int .i64 n0, .int .i64 n1, .int .i64 n2]) := HJ.out.put 6 _
          by_cases hn : y6 < 0
          · go_wp2
            go_roundw
            case rel => exact ⟨6, y0, y1, y2, y3, y4, y5, 1, y7, y8, by decide, rfl, HP, (by have HBk : B31 1 := (by unfold B31; decide); exact ⟨rfl, fun _ => HB.out.2.1 (by decide), fun _ => HB.out.2.2.1 (by decide), fun _ => HB.out.2.2.2.1 (by decide), fun _ => HB.out.2.2.2.2.1 (by decide), fun _ => HB.out.2.2.2.2.2.1 (by decide), fun _ => HBk, fun h => absurd h (by decide), fun h => absurd h (by decide)⟩)⟩
            case measure => simp [intOf]
          · by_cases hm : 2147483648 ≤ y6
            · go_wp2
              go_roundw
              case rel => exact ⟨6, y0, y1, y2, y3, y4, y5, 1, y7, y8, by decide, rfl, HP, (by have HBk : B31 1 := (by unfold B31; decide); exact ⟨rfl, fun _ => HB.out.2.1 (by decide), fun _ => HB.out.2.2.1 (by decide), fun _ => HB.out.2.2.2.1 (by decide), fun _ => HB.out.2.2.2.2.1 (by decide), fun _ => HB.out.2.2.2.2.2.1 (by decide), fun _ => HBk, fun h => absurd h (by decide), fun h => absurd h (by decide)⟩)⟩
              case measure => simp [intOf]
            · have HBk : Hid (B31 y6) := ⟨by omega, by omega⟩
              go_wp2
              go_roundw
              case rel => exact ⟨6, y0, y1, y2, y3, y4, y5, y6, y7, y8, by decide, rfl, HJ, (by have HBk := HBk.out; exact ⟨rfl, fun _ => HB.out.2.1 (by decide), fun _ => HB.out.2.2.1 (by decide), fun _ => HB.out.2.2.2.1 (by decide), fun _ => HB.out.2.2.2.2.1 (by decide), fun _ => HB.out.2.2.2.2.2.1 (by decide), fun _ => HBk, fun h => absurd h (by decide), fun h => absurd h (by decide)⟩)⟩
              case measure => simp [intOf]
      · as_aux_lemma =>
          have c7 : wr.cell? ⟨g7, 6, none⟩ = some (.pointer (some ⟨g3, 7, none⟩)) := by simp [World.cell?, HJ.out.b7]
          have c3 : wr.cell? ⟨g3, 7, none⟩ = some (.int .i64 y7) := by simp [World.cell?, HJ.out.b3]
          have f3 := HJ.out.fz 7
          have HP : Hid (MtI w (wr.setCell ⟨g3, 7, none⟩ (.int .i64 1)) g3 g4 g5 g7 #[.int .i64 y0, .int .i64 y1, .int .i64 y2, .int .i64 y3, .int .i64 y4, .int .i64 y5, .int .i64 y6, .int .i64 1, .int .i64 y8, .bool h0, .bool h1, .bool h2, .bool h3, .bool h4, .int .i64 v0, .int .i64 v1, .int .i64 v2, .int .i64 v3, .int .i64 v4, .slice vo vn vc] #[.string t, .slice go gn gc, .slice po pn pc, .int .i64 st, .int .i64 se, .int .i64 pa] #[.int .i64 n0, .int .i64 n1, .int .i64 n2]) := HJ.out.put 7 _
          by_cases hn : y7 < 0
          · go_wp2
            go_roundw
            case rel => exact ⟨7, y0, y1, y2, y3, y4, y5, y6, 1, y8, by decide, rfl, HP, (by have HBk : B31 1 := (by unfold B31; decide); exact ⟨rfl, fun _ => HB.out.2.1 (by decide), fun _ => HB.out.2.2.1 (by decide), fun _ => HB.out.2.2.2.1 (by decide), fun _ => HB.out.2.2.2.2.1 (by decide), fun _ => HB.out.2.2.2.2.2.1 (by decide), fun _ => HB.out.2.2.2.2.2.2.1 (by decide), fun _ => HBk, fun h => absurd h (by decide)⟩)⟩
            case measure => simp [intOf]
          · by_cases hm : 2147483648 ≤ y7
            · go_wp2
              go_roundw
              case rel => exact ⟨7, y0, y1, y2, y3, y4, y5, y6, 1, y8, by decide, rfl, HP, (by have HBk : B31 1 := (by unfold B31; decide); exact ⟨rfl, fun _ => HB.out.2.1 (by decide), fun _ => HB.out.2.2.1 (by decide), fun _ => HB.out.2.2.2.1 (by decide), fun _ => HB.out.2.2.2.2.1 (by decide), fun _ => HB.out.2.2.2.2.2.1 (by decide), fun _ => HB.out.2.2.2.2.2.2.1 (by decide), fun _ => HBk, fun h => absurd h (by decide)⟩)⟩
              case measure => simp [intOf]
            · have HBk : Hid (B31 y7) := ⟨by omega, by omega⟩
              go_wp2
              go_roundw
              case rel => exact ⟨7, y0, y1, y2, y3, y4, y5, y6, y7, y8, by decide, rfl, HJ, (by have HBk := HBk.out; exact ⟨rfl, fun _ => HB.out.2.1 (by decide), fun _ => HB.out.2.2.1 (by decide), fun _ => HB.out.2.2.2.1 (by decide), fun _ => HB.out.2.2.2.2.1 (by decide), fun _ => HB.out.2.2.2.2.2.1 (by decide), fun _ => HB.out.2.2.2.2.2.2.1 (by decide), fun _ => HBk, fun h => absurd h (by decide)⟩)⟩
              case measure => simp [intOf]
      · as_aux_lemma =>
          have c7 : wr.cell? ⟨g7, 7, none⟩ = some (.pointer (some ⟨g3, 8, none⟩)) := by simp [World.cell?, HJ.out.b7]
          have c3 : wr.cell? ⟨g3, 8, none⟩ = some (.int .i64 y8) := by simp [World.cell?, HJ.out.b3]
          have f3 := HJ.out.fz 8
          have HP : Hid (MtI w (wr.setCell ⟨g3, 8, none⟩ (.int .i64 1)) g3 g4 g5 g7 #[.int .i64 y0, .int .i64 y1, .int .i64 y2, .int .i64 y3, .int .i64 y4, .int .i64 y5, .int .i64 y6, .int .i64 y7, .int .i64 1, .bool h0, .bool h1, .bool h2, .bool h3, .bool h4, .int .i64 v0, .int .i64 v1, .int .i64 v2, .int .i64 v3, .int .i64 v4, .slice vo vn vc] #[.string t, .slice go gn gc, .slice po pn pc, .int .i64 st, .int .i64 se, .int .i64 pa] #[.int .i64 n0, .int .i64 n1, .int .i64 n2]) := HJ.out.put 8 _
          by_cases hn : y8 < 0
          · go_wp2
            go_roundw
            case rel => exact ⟨8, y0, y1, y2, y3, y4, y5, y6, y7, 1, by decide, rfl, HP, (by have HBk : B31 1 := (by unfold B31; decide); exact ⟨rfl, fun _ => HB.out.2.1 (by decide), fun _ => HB.out.2.2.1 (by decide), fun _ => HB.out.2.2.2.1 (by decide), fun _ => HB.out.2.2.2.2.1 (by decide), fun _ => HB.out.2.2.2.2.2.1 (by decide), fun _ => HB.out.2.2.2.2.2.2.1 (by decide), fun _ => HB.out.2.2.2.2.2.2.2.1 (by decide), fun _ => HBk⟩)⟩
            case measure => simp [intOf]
          · by_cases hm : 2147483648 ≤ y8
            · go_wp2
              go_roundw
              case rel => exact ⟨8, y0, y1, y2, y3, y4, y5, y6, y7, 1, by decide, rfl, HP, (by have HBk : B31 1 := (by unfold B31; decide); exact ⟨rfl, fun _ => HB.out.2.1 (by decide), fun _ => HB.out.2.2.1 (by decide), fun _ => HB.out.2.2.2.1 (by decide), fun _ => HB.out.2.2.2.2.1 (by decide), fun _ => HB.out.2.2.2.2.2.1 (by decide), fun _ => HB.out.2.2.2.2.2.2.1 (by decide), fun _ => HB.out.2.2.2.2.2.2.2.1 (by decide), fun _ => HBk⟩)⟩
              case measure => simp [intOf]
            · have HBk : Hid (B31 y8) := ⟨by omega, by omega⟩
              go_wp2
              go_roundw
              case rel => exact ⟨8, y0, y1, y2, y3, y4, y5, y6, y7, y8, by decide, rfl, HJ, (by have HBk := HBk.out; exact ⟨rfl, fun _ => HB.out.2.1 (by decide), fun _ => HB.out.2.2.1 (by decide), fun _ => HB.out.2.2.2.1 (by decide), fun _ => HB.out.2.2.2.2.1 (by decide), fun _ => HB.out.2.2.2.2.2.1 (by decide), fun _ => HB.out.2.2.2.2.2.2.1 (by decide), fun _ => HB.out.2.2.2.2.2.2.2.1 (by decide), fun _ => HBk⟩)⟩
              case measure => simp [intOf]
    · obtain rfl : j = 8 := by omega
      clear hlt hj
      as_aux_lemma =>
      have HBy : Hid (B31 y0 ∧ B31 y1 ∧ B31 y2 ∧ B31 y3 ∧ B31 y4 ∧ B31 y6 ∧ B31 y7 ∧ B31 y8) := ⟨HB.out.2.1 (by decide), HB.out.2.2.1 (by decide), HB.out.2.2.2.1 (by decide), HB.out.2.2.2.2.1 (by decide), HB.out.2.2.2.2.2.1 (by decide), HB.out.2.2.2.2.2.2.1 (by decide), HB.out.2.2.2.2.2.2.2.1 (by decide), HB.out.2.2.2.2.2.2.2.2 (by decide)⟩
      have c5 : wr.cell? ⟨g3, 5, none⟩ = some (.int .i64 y5) := by simp [World.cell?, HJ.out.b3]
      have f5 := HJ.out.fz 5
      have HP : Hid (MtI w (wr.setCell ⟨g3, 5, none⟩ (.int .i64 0)) g3 g4 g5 g7 #[.int .i64 y0, .int .i64 y1, .int .i64 y2, .int .i64 y3, .int .i64 y4, .int .i64 0, .int .i64 y6, .int .i64 y7, .int .i64 y8, .bool h0, .bool h1, .bool h2, .bool h3, .bool h4, .int .i64 v0, .int .i64 v1, .int .i64 v2, .int .i64 v3, .int .i64 v4, .slice vo vn vc] #[.string t, .slice go gn gc, .slice po pn pc, .int .i64 st, .int .i64 se, .int .i64 pa] #[.int .i64 n0, .int .i64 n1, .int .i64 n2]) := HJ.out.put 5 _
      clear HB
      go_upto_region 7 with (fail)
      go_cut [56, 57, 58, 59, 60, 61, 62, 63] (fun _ _ _ _ _ _ _ u wx => u = .bool (decide (y5 < 0) || decide (2147483648 ≤ y5)) ∧ wx = wr)
      case first =>
        as_aux_lemma =>
        by_cases hn : y5 < 0
        · go_wp2
          go_meet
          exact ⟨by simp [hn], rfl⟩
        · by_cases hm : 2147483648 ≤ y5
          · go_wp2
            go_meet
            exact ⟨by simp [hm], rfl⟩
          · go_wp2
            go_meet
            exact ⟨by simp [hn, hm], rfl⟩
      obtain ⟨rfl, hwx⟩ := hcut
      rw [hwx]
      clear hwx
      obtain ⟨bb, hbb⟩ : ∃ bb, (decide (y5 < 0) || decide (2147483648 ≤ y5)) = bb := ⟨_, rfl⟩
      rw [hbb]
      have HBb : Hid ((decide (y5 < 0) || decide (2147483648 ≤ y5)) = bb) := hbb
      clear hbb
      go_upto_if 63 with fail
      go_cut [64] (fun _ wx => ∃ e5 : Int, B31 e5 ∧ Hid (MtI w wx g3 g4 g5 g7 #[.int .i64 y0, .int .i64 y1, .int .i64 y2, .int .i64 y3, .int .i64 y4, .int .i64 e5, .int .i64 y6, .int .i64 y7, .int .i64 y8, .bool h0, .bool h1, .bool h2, .bool h3, .bool h4, .int .i64 v0, .int .i64 v1, .int .i64 v2, .int .i64 v3, .int .i64 v4, .slice vo vn vc] #[.string t, .slice go gn gc, .slice po pn pc, .int .i64 st, .int .i64 se, .int .i64 pa] #[.int .i64 n0, .int .i64 n1, .int .i64 n2]))
      case first =>
        as_aux_lemma =>
        cases bb with
        | true =>
          go_wp2
          go_meet
          exact ⟨0, by unfold B31; decide, HP⟩
        | false =>
          have HBk : Hid (B31 y5) := by
            have h := HBb.out
            simp at h
            exact ⟨by omega, by omega⟩
          go_wp2
          go_meet
          exact ⟨y5, HBk.out, HJ⟩
      case rest =>
        as_aux_lemma =>
        obtain ⟨e5, hB5, HJ5⟩ := hcut
        have HB5 : Hid (B31 e5) := hB5
        clear HP HJ c5 f5 hB5
        have c19 : wc.cell? ⟨g3, 19, none⟩ = some (.slice vo vn vc) := by simp [World.cell?, HJ5.out.b3]
        have f19 := HJ5.out.fz 19
        have HP : Hid (∀ v, MtI w (wc.setCell ⟨g3, 19, none⟩ v) g3 g4 g5 g7 #[.int .i64 y0, .int .i64 y1, .int .i64 y2, .int .i64 y3, .int .i64 y4, .int .i64 e5, .int .i64 y6, .int .i64 y7, .int .i64 y8, .bool h0, .bool h1, .bool h2, .bool h3, .bool h4, .int .i64 v0, .int .i64 v1, .int .i64 v2, .int .i64 v3, .int .i64 v4, v] #[.string t, .slice go gn gc, .slice po pn pc, .int .i64 st, .int .i64 se, .int .i64 pa] #[.int .i64 n0, .int .i64 n1, .int .i64 n2]) := fun v => HJ5.out.put 19 v
        go_upto_if 68 with fail
        go_cut [69, 70, 71, 72] (fun _ _ _ _ wx => ∃ m : Nat, (m ≤ 256 ∧ m ≤ vn) ∧ Hid (MtI w wx g3 g4 g5 g7 #[.int .i64 y0, .int .i64 y1, .int .i64 y2, .int .i64 y3, .int .i64 y4, .int .i64 e5, .int .i64 y6, .int .i64 y7, .int .i64 y8, .bool h0, .bool h1, .bool h2, .bool h3, .bool h4, .int .i64 v0, .int .i64 v1, .int .i64 v2, .int .i64 v3, .int .i64 v4, .slice vo m vc] #[.string t, .slice go gn gc, .slice po pn pc, .int .i64 st, .int .i64 se, .int .i64 pa] #[.int .i64 n0, .int .i64 n1, .int .i64 n2]))
        case first =>
          as_aux_lemma =>
          by_cases hn : 256 < vn
          · have hni : (256 : Int) < vn := by omega
            have hci : (256 : Int) ≤ vc := by omega
            go_wp2
            go_meet
            exact ⟨256, ⟨Nat.le_refl _, by omega⟩, HP.out _⟩
          · have hni : ¬ (256 : Int) < vn := by omega
            go_wp2
            go_meet
            exact ⟨vn, ⟨by omega, Nat.le_refl _⟩, HJ5⟩
        case rest =>
          as_aux_lemma =>
          obtain ⟨m, hm, HJ6⟩ := hcut
          have HMm : Hid (m ≤ 256 ∧ m ≤ vn) := hm
          clear HP HJ5 c19 f19 hm
          go_upto_block 2 with fail
          go_cut [9] (fun _ wx => ∃ o : Nat → Option Int, Hid (OkO o) ∧ Hid (cutO o 5 = o) ∧ Hid (MtI w wx g3 g4 g5 g7 #[.int .i64 y0, .int .i64 y1, .int .i64 y2, .int .i64 y3, .int .i64 y4, .int .i64 e5, .int .i64 y6, .int .i64 y7, .int .i64 y8, .bool (oh o 0), .bool (oh o 1), .bool (oh o 2), .bool (oh o 3), .bool (oh o 4), .int .i64 (ov o 0), .int .i64 (ov o 1), .int .i64 (ov o 2), .int .i64 (ov o 3), .int .i64 (ov o 4), .slice vo m vc] #[.string t, .slice go gn gc, .slice po pn pc, .int .i64 st, .int .i64 se, .int .i64 pa] #[.int .i64 n0, .int .i64 n1, .int .i64 n2]))
          case first =>
            go_wp2
            go_loopw [9] (fun i wr => ∃ (j : Nat) (v0 v1 v2 v3 v4 : Int), (I64 v0 ∧ I64 v1 ∧ I64 v2 ∧ I64 v3 ∧ I64 v4) ∧ j ≤ 5 ∧ i = .int .i64 j ∧ Hid (MtI w wr g3 g4 g5 g7 #[.int .i64 y0, .int .i64 y1, .int .i64 y2, .int .i64 y3, .int .i64 y4, .int .i64 e5, .int .i64 y6, .int .i64 y7, .int .i64 y8, .bool h0, .bool h1, .bool h2, .bool h3, .bool h4, .int .i64 v0, .int .i64 v1, .int .i64 v2, .int .i64 v3, .int .i64 v4, .slice vo m vc] #[.string t, .slice go gn gc, .slice po pn pc, .int .i64 st, .int .i64 se, .int .i64 pa] #[.int .i64 n0, .int .i64 n1, .int .i64 n2]) ∧ Hid (ZdI j h0 h1 h2 h3 h4 v0 v1 v2 v3 v4)) (fun i _ => 5 - (intOf i).toNat)
            case atStart => exact ⟨0, v0, v1, v2, v3, v4, HV6.out, Nat.zero_le _, rfl, HJ6, ⟨fun h => absurd h (by decide), fun h => absurd h (by decide), fun h => absurd h (by decide), fun h => absurd h (by decide), fun h => absurd h (by decide)⟩⟩
            case round =>
              as_aux_lemma =>
              clear HJ6
              obtain ⟨j, v0, v1, v2, v3, v4, hv6, hj, rfl, HK, HZ⟩ := hrel
              have HV6 : Hid (I64 v0 ∧ I64 v1 ∧ I64 v2 ∧ I64 v3 ∧ I64 v4) := hv6
              clear hv6
              by_cases hlt : j < 5
              · have hcase : j = 0 ∨ j = 1 ∨ j = 2 ∨ j = 3 ∨ j = 4 := by omega
                clear hlt hj
                rcases hcase with rfl | rfl | rfl | rfl | rfl
                · as_aux_lemma =>
                    have cb : wr.cell? ⟨g3, 9, none⟩ = some (.bool h0) := by simp [World.cell?, HK.out.b3]
                    have cv : wr.cell? ⟨g3, 14, none⟩ = some (.int .i64 v0) := by simp [World.cell?, HK.out.b3]
                    have fv := HK.out.fz 14
                    have HP : Hid (MtI w (wr.setCell ⟨g3, 14, none⟩ (.int .i64 0)) g3 g4 g5 g7 #[.int .i64 y0, .int .i64 y1, .int .i64 y2, .int .i64 y3, .int .i64 y4, .int .i64 e5, .int .i64 y6, .int .i64 y7, .int .i64 y8, .bool h0, .bool h1, .bool h2, .bool h3, .bool h4, .int .i64 0, .int .i64 v1, .int .i64 v2, .int .i64 v3, .int .i64 v4, .slice vo m vc] #[.string t, .slice go gn gc, .slice po pn pc, .int .i64 st, .int .i64 se, .int .i64 pa] #[.int .i64 n0, .int .i64 n1, .int .i64 n2]) := HK.out.put 14 _
                    by_cases hh : h0 = true
                    · have HZk : h0 = false → v0 = 0 := fun h => by rw [hh] at h; cases h
                      have HZk : Hid (h0 = false → v0 = 0) := HZk
                      have HHk : Hid (h0 = true) := hh
                      rw [hh] at cb
                      clear hh
                      go_wp2
                      go_roundw
                      case rel => exact ⟨1, v0, v1, v2, v3, v4, HV6.out, by decide, rfl, HK, (by have HZk := HZk.out; exact ⟨fun _ => HZk, fun h => absurd h (by decide), fun h => absurd h (by decide), fun h => absurd h (by decide), fun h => absurd h (by decide)⟩)⟩
                      case measure => simp [intOf]
                    · have hf : h0 = false := by simpa using hh
                      have HHk : Hid (h0 = false) := hf
                      rw [hf] at cb
                      clear hh hf
                      go_wp2
                      go_roundw
                      case rel => exact ⟨1, 0, v1, v2, v3, v4, (by have h := HV6.out; have hz : I64 0 := (by unfold I64; omega); exact ⟨hz, h.2.1, h.2.2.1, h.2.2.2.1, h.2.2.2.2⟩), by decide, rfl, HP, (by have HZk : h0 = false → (0 : Int) = 0 := fun _ => rfl; exact ⟨fun _ => HZk, fun h => absurd h (by decide), fun h => absurd h (by decide), fun h => absurd h (by decide), fun h => absurd h (by decide)⟩)⟩
                      case measure => simp [intOf]
                · as_aux_lemma =>
                    have cb : wr.cell? ⟨g3, 10, none⟩ = some (.bool h1) := by simp [World.cell?, HK.out.b3]
                    have cv : wr.cell? ⟨g3, 15, none⟩ = some (.int .i64 v1) := by simp [World.cell?, HK.out.b3]
                    have fv := HK.out.fz 15
                    have HP : Hid (MtI w (wr.setCell ⟨g3, 15, none⟩ (.int .i64 0)) g3 g4 g5 g7 #[.int .i64 y0, .int .i64 y1, .int .i64 y2, .int .i64 y3, .int .i64 y4, .int .i64 e5, .int .i64 y6, .int .i64 y7, .int .i64 y8, .bool h0, .bool h1, .bool h2, .bool h3, .bool h4, .int .i64 v0, .int .i64 0, .int .i64 v2, .int .i64 v3, .int .i64 v4, .slice vo m vc] #[.string t, .slice go gn gc, .slice po pn pc, .int .i64 st, .int .i64 se, .int .i64 pa] #[.int .i64 n0, .int .i64 n1, .int .i64 n2]) := HK.out.put 15 _
                    by_cases hh : h1 = true
                    · have HZk : h1 = false → v1 = 0 := fun h => by rw [hh] at h; cases h
                      have HZk : Hid (h1 = false → v1 = 0) := HZk
                      have HHk : Hid (h1 = true) := hh
                      rw [hh] at cb
                      clear hh
                      go_wp2
                      go_roundw
                      case rel => exact ⟨2, v0, v1, v2, v3, v4, HV6.out, by decide, rfl, HK, (by have HZk := HZk.out; exact ⟨fun _ => HZ.out.1 (by decide), fun _ => HZk, fun h => absurd h (by decide), fun h => absurd h (by decide), fun h => absurd h (by decide)⟩)⟩
                      case measure => simp [intOf]
                    · have hf : h1 = false := by simpa using hh
                      have HHk : Hid (h1 = false) := hf
                      rw [hf] at cb
                      clear hh hf
                      go_wp2
                      go_roundw
                      case rel => exact ⟨2, v0, 0, v2, v3, v4, (by have h := HV6.out; have hz : I64 0 := (by unfold I64; omega); exact ⟨h.1, hz, h.2.2.1, h.2.2.2.1, h.2.2.2.2⟩), by decide, rfl, HP, (by have HZk : h1 = false → (0 : Int) = 0 := fun _ => rfl; exact ⟨fun _ => HZ.out.1 (by decide), fun _ => HZk, fun h => absurd h (by decide), fun h => absurd h (by decide), fun h => absurd h (by decide)⟩)⟩
                      case measure => simp [intOf]
                · as_aux_lemma =>
                    have cb : wr.cell? ⟨g3, 11, none⟩ = some (.bool h2) := by simp [World.cell?, HK.out.b3]
                    have cv : wr.cell? ⟨g3, 16, none⟩ = some (.int .i64 v2) := by simp [World.cell?, HK.out.b3]
                    have fv := HK.out.fz 16
                    have HP : Hid (MtI w (wr.setCell ⟨g3, 16, none⟩ (.int .i64 0)) g3 g4 g5 g7 #[.int .i64 y0, .int .i64 y1, .int .i64 y2, .int .i64 y3, .int .i64 y4, .int .i64 e5, .int .i64 y6, .int .i64 y7, .int .i64 y8, .bool h0, .bool h1, .bool h2, .bool h3, .bool h4, .int .i64 v0, .int .i64 v1, .int .i64 0, .int .i64 v3, .int .i64 v4, .slice vo m vc] #[.string t, .slice go gn gc, .slice po pn pc, .int .i64 st, .int .i64 se, .int .i64 pa] #[.int .i64 n0, .int .i64 n1, .int .i64 n2]) := HK.out.put 16 _
                    by_cases hh : h2 = true
                    · have HZk : h2 = false → v2 = 0 := fun h => by rw [hh] at h; cases h
                      have HZk : Hid (h2 = false → v2 = 0) := HZk
                      have HHk : Hid (h2 = true) := hh
                      rw [hh] at cb
                      clear hh
                      go_wp2
                      go_roundw
                      case rel => exact ⟨3, v0, v1, v2, v3, v4, HV6.out, by decide, rfl, HK, (by have HZk := HZk.out; exact ⟨fun _ => HZ.out.1 (by decide), fun _ => HZ.out.2.1 (by decide), fun _ => HZk, fun h => absurd h (by decide), fun h => absurd h (by decide)⟩)⟩
                      case measure => simp [intOf]
                    · have hf : h2 = false := by simpa using hh
                      have HHk : Hid (h2 = false) := hf
                      rw [hf] at cb
                      clear hh hf
                      go_wp2
                      go_roundw
                      case rel => exact ⟨3, v0, v1, 0, v3, v4, (by have h := HV6.out; have hz : I64 0 := (by unfold I64; omega); exact ⟨h.1, h.2.1, hz, h.2.2.2.1, h.2.2.2.2⟩), by decide, rfl, HP, (by have HZk : h2 = false → (0 : Int) = 0 := fun _ => rfl; exact ⟨fun _ => HZ.out.1 (by decide), fun _ => HZ.out.2.1 (by decide), fun _ => HZk, fun h => absurd h (by decide), fun h => absurd h (by decide)⟩)⟩
                      case measure => simp [intOf]
                · as_aux_lemma =>
                    have cb : wr.cell? ⟨g3, 12, none⟩ = some (.bool h3) := by simp [World.cell?, HK.out.b3]
                    have cv : wr.cell? ⟨g3, 17, none⟩ = some (.int .i64 v3) := by simp [World.cell?, HK.out.b3]
                    have fv := HK.out.fz 17
                    have HP : Hid (MtI w (wr.setCell ⟨g3, 17, none⟩ (.int .i64 0)) g3 g4 g5 g7 #[.int .i64 y0, .int .i64 y1, .int .i64 y2, .int .i64 y3, .int .i64 y4, .int .i64 e5, .int .i64 y6, .int .i64 y7, .int .i64 y8, .bool h0, .bool h1, .bool h2, .bool h3, .bool h4, .int .i64 v0, .int .i64 v1, .int .i64 v2, .int .i64 0, .int .i64 v4, .slice vo m vc] #[.string t, .slice go gn gc, .slice po pn pc, .int .i64 st, .int .i64 se, .int .i64 pa] #[.int .i64 n0, .int .i64 n1, .int .i64 n2]) := HK.out.put 17 _
                    by_cases hh : h3 = true
                    · have HZk : h3 = false → v3 = 0 := fun h => by rw [hh] at h; cases h
                      have HZk : Hid (h3 = false → v3 = 0) := HZk
                      have HHk : Hid (h3 = true) := hh
                      rw [hh] at cb
                      clear hh
                      go_wp2
                      go_roundw
                      case rel => exact ⟨4, v0, v1, v2, v3, v4, HV6.out, by decide, rfl, HK, (by have HZk := HZk.out; exact ⟨fun _ => HZ.out.1 (by decide), fun _ => HZ.out.2.1 (by decide), fun _ => HZ.out.2.2.1 (by decide), fun _ => HZk, fun h => absurd h (by decide)⟩)⟩
                      case measure => simp [intOf]
                    · have hf : h3 = false := by simpa using hh
                      have HHk : Hid (h3 = false) := hf
                      rw [hf] at cb
                      clear hh hf
                      go_wp2
                      go_roundw
                      case rel => exact ⟨4, v0, v1, v2, 0, v4, (by have h := HV6.out; have hz : I64 0 := (by unfold I64; omega); exact ⟨h.1, h.2.1, h.2.2.1, hz, h.2.2.2.2⟩), by decide, rfl, HP, (by have HZk : h3 = false → (0 : Int) = 0 := fun _ => rfl; exact ⟨fun _ => HZ.out.1 (by decide), fun _ => HZ.out.2.1 (by decide), fun _ => HZ.out.2.2.1 (by decide), fun _ => HZk, fun h => absurd h (by decide)⟩)⟩
                      case measure => simp [intOf]
                · as_aux_lemma =>
                    have cb : wr.cell? ⟨g3, 13, none⟩ = some (.bool h4) := by simp [World.cell?, HK.out.b3]
                    have cv : wr.cell? ⟨g3, 18, none⟩ = some (.int .i64 v4) := by simp [World.cell?, HK.out.b3]
                    have fv := HK.out.fz 18
                    have HP : Hid (MtI w (wr.setCell ⟨g3, 18, none⟩ (.int .i64 0)) g3 g4 g5 g7 #[.int .i64 y0, .int .i64 y1, .int .i64 y2, .int .i64 y3, .int .i64 y4, .int .i64 e5, .int .i64 y6, .int .i64 y7, .int .i64 y8, .bool h0, .bool h1, .bool h2, .bool h3, .bool h4, .int .i64 v0, .int .i64 v1, .int .i64 v2, .int .i64 v3, .int .i64 0, .slice vo m vc] #[.string t, .slice go gn gc, .slice po pn pc, .int .i64 st, .int .i64 se, .int .i64 pa] #[.int .i64 n0, .int .i64 n1, .int .i64 n2]) := HK.out.put 18 _
                    by_cases hh : h4 = true
                    · have HZk : h4 = false → v4 = 0 := fun h => by rw [hh] at h; cases h
                      have HZk : Hid (h4 = false → v4 = 0) := HZk
                      have HHk : Hid (h4 = true) := hh
                      rw [hh] at cb
                      clear hh
                      go_wp2
                      go_roundw
                      case rel => exact ⟨5, v0, v1, v2, v3, v4, HV6.out, by decide, rfl, HK, (by have HZk := HZk.out; exact ⟨fun _ => HZ.out.1 (by decide), fun _ => HZ.out.2.1 (by decide), fun _ => HZ.out.2.2.1 (by decide), fun _ => HZ.out.2.2.2.1 (by decide), fun _ => HZk⟩)⟩
                      case measure => simp [intOf]
                    · have hf : h4 = false := by simpa using hh
                      have HHk : Hid (h4 = false) := hf
                      rw [hf] at cb
                      clear hh hf
                      go_wp2
                      go_roundw
                      case rel => exact ⟨5, v0, v1, v2, v3, 0, (by have h := HV6.out; have hz : I64 0 := (by unfold I64; omega); exact ⟨h.1, h.2.1, h.2.2.1, h.2.2.2.1, hz⟩), by decide, rfl, HP, (by have HZk : h4 = false → (0 : Int) = 0 := fun _ => rfl; exact ⟨fun _ => HZ.out.1 (by decide), fun _ => HZ.out.2.1 (by decide), fun _ => HZ.out.2.2.1 (by decide), fun _ => HZ.out.2.2.2.1 (by decide), fun _ => HZk⟩)⟩
                      case measure => simp [intOf]
              · obtain rfl : j = 5 := by omega
                clear hlt hj
                obtain ⟨o, HOo, hCo, e0, e1, e2, e3, e4, d0, d1, d2, d3, d4⟩ := mk_o HZ.out HV6.out
                have HM : Hid (MtI w wr g3 g4 g5 g7 #[.int .i64 y0, .int .i64 y1, .int .i64 y2, .int .i64 y3, .int .i64 y4, .int .i64 e5, .int .i64 y6, .int .i64 y7, .int .i64 y8, .bool (oh o 0), .bool (oh o 1), .bool (oh o 2), .bool (oh o 3), .bool (oh o 4), .int .i64 (ov o 0), .int .i64 (ov o 1), .int .i64 (ov o 2), .int .i64 (ov o 3), .int .i64 (ov o 4), .slice vo m vc] #[.string t, .slice go gn gc, .slice po pn pc, .int .i64 st, .int .i64 se, .int .i64 pa] #[.int .i64 n0, .int .i64 n1, .int .i64 n2]) := by
                  have h := HK.out
                  rw [e0, e1, e2, e3, e4, d0, d1, d2, d3, d4] at h
                  exact h
                have HOk : Hid (OkO o) := HOo
                have HCo : Hid (cutO o 5 = o) := hCo
                clear HK HZ e0 e1 e2 e3 e4 d0 d1 d2 d3 d4 HOo
                go_wp2
                go_meet
                exact ⟨o, HOk, HCo, HM⟩
          case rest =>
            as_aux_lemma =>
            obtain ⟨o, HOk, HCo, HM⟩ := hcut
            obtain ⟨hb0, hb1, hb2, hb3, hb4, hb6, hb7, hb8⟩ := HBy.out
            have hb5 := HB5.out
            obtain ⟨a0, rfl⟩ := Int.eq_ofNat_of_zero_le hb0.1
            obtain ⟨a1, rfl⟩ := Int.eq_ofNat_of_zero_le hb1.1
            obtain ⟨a2, rfl⟩ := Int.eq_ofNat_of_zero_le hb2.1
            obtain ⟨a3, rfl⟩ := Int.eq_ofNat_of_zero_le hb3.1
            obtain ⟨a4, rfl⟩ := Int.eq_ofNat_of_zero_le hb4.1
            obtain ⟨a5, rfl⟩ := Int.eq_ofNat_of_zero_le hb5.1
            obtain ⟨a6, rfl⟩ := Int.eq_ofNat_of_zero_le hb6.1
            obtain ⟨a7, rfl⟩ := Int.eq_ofNat_of_zero_le hb7.1
            obtain ⟨a8, rfl⟩ := Int.eq_ofNat_of_zero_le hb8.1
            have HAb : Hid (∀ x ∈ [a0, a1, a2, a3, a4, a5, a6, a7, a8], x ≤ 2147483647) := by
              intro x hx
              unfold B31 at hb0 hb1 hb2 hb3 hb4 hb5 hb6 hb7 hb8
              simp only [List.mem_cons, List.not_mem_nil, or_false] at hx
              omega
            clear hb0 hb1 hb2 hb3 hb4 hb5 hb6 hb7 hb8 HBy HB5
            obtain ⟨LM, hLM⟩ : ∃ LM, LV.take m = LM := ⟨_, rfl⟩
            have HLm : Hid (LM.length = m) := by
              show _ = _
              rw [← hLM, List.length_take]
              have := HMm.out
              have := HLv.out
              omega
            have HLk : Hid (∀ x ∈ LM, x.ok) := fun x hx => HLo.out x (List.mem_of_mem_take (by rw [hLM]; exact hx))
            have HLw : Hid (0 < LM.length → ∃ b off, vo = some ⟨b, off, none⟩ ∧ b < w.heap.size ∧ ∀ j (h : j < LM.length), w.cell? ⟨b, off + j * 2, none⟩ = some (.int .i64 LM[j].t) ∧ w.cell? ⟨b, off + j * 2 + 1, none⟩ = some (.int .i64 LM[j].w)) := fun h0 => by
              subst hLM
              have h1 : 0 < LV.length := by rw [List.length_take] at h0; omega
              obtain ⟨b, off, e, hc⟩ := HLa.out h1
              refine ⟨b, off, e, World.block_lt_of_cell? w _ (hc 0 h1).1, fun j hj => ?_⟩
              rw [List.length_take] at hj
              rw [List.getElem_take]
              exact hc j (by omega)
            clear hLM
            have hm256 : m ≤ 256 := HMm.out.1
            have hAi : ∀ x ∈ [((a0 : Nat) : Int), ((a1 : Nat) : Int), ((a2 : Nat) : Int), ((a3 : Nat) : Int), ((a4 : Nat) : Int), ((a5 : Nat) : Int), ((a6 : Nat) : Int), ((a7 : Nat) : Int), ((a8 : Nat) : Int)], x ≤ 9223372036854775807 := fun x hx => by
              have h := HAb.out
              simp only [List.mem_cons, List.not_mem_nil, or_false] at h hx
              have h0 := h a0 (by simp)
              have h1 := h a1 (by simp)
              have h2 := h a2 (by simp)
              have h3 := h a3 (by simp)
              have h4 := h a4 (by simp)
              have h5 := h a5 (by simp)
              have h6 := h a6 (by simp)
              have h7 := h a7 (by simp)
              have h8 := h a8 (by simp)
              omega
            have HAi : Hid (∀ x ∈ [((a0 : Nat) : Int), ((a1 : Nat) : Int), ((a2 : Nat) : Int), ((a3 : Nat) : Int), ((a4 : Nat) : Int), ((a5 : Nat) : Int), ((a6 : Nat) : Int), ((a7 : Nat) : Int), ((a8 : Nat) : Int)], x ≤ 9223372036854775807) := hAi
            obtain ⟨l1, hl1⟩ : ∃ l1, rpB [((a0 : Nat) : Int), ((a1 : Nat) : Int), ((a2 : Nat) : Int), ((a3 : Nat) : Int), ((a4 : Nat) : Int), ((a5 : Nat) : Int), ((a6 : Nat) : Int), ((a7 : Nat) : Int), ((a8 : Nat) : Int)] o LM = l1 := ⟨_, rfl⟩
            have HL1 : Hid (rpB [((a0 : Nat) : Int), ((a1 : Nat) : Int), ((a2 : Nat) : Int), ((a3 : Nat) : Int), ((a4 : Nat) : Int), ((a5 : Nat) : Int), ((a6 : Nat) : Int), ((a7 : Nat) : Int), ((a8 : Nat) : Int)] o LM = l1) := hl1
            clear hl1 hAi
            as_aux_lemma =>
            go_upto_region 17 with (go_at_call 13; refine (newwriter_any _).mono ?_; rintro r w1 ⟨rfl, hw1, hb1⟩; have HW1 : Hid (Wr w1 (wc.heap.size + 1) wc.heap.size (.slice none 0 0) []) := hw1; have HB1 : Hid (Below wc.heap.size wc w1) := hb1; clear hw1 hb1)
            have HM1 : Hid (MtI w w1 g3 g4 g5 g7 #[.int .i64 a0, .int .i64 a1, .int .i64 a2, .int .i64 a3, .int .i64 a4, .int .i64 a5, .int .i64 a6, .int .i64 a7, .int .i64 a8, .bool (oh o 0), .bool (oh o 1), .bool (oh o 2), .bool (oh o 3), .bool (oh o 4), .int .i64 (ov o 0), .int .i64 (ov o 1), .int .i64 (ov o 2), .int .i64 (ov o 3), .int .i64 (ov o 4), .slice vo m vc] #[.string t, .slice go gn gc, .slice po pn pc, .int .i64 st, .int .i64 se, .int .i64 pa] #[.int .i64 n0, .int .i64 n1, .int .i64 n2]) := HM.out.new HB1.out
            have HLo1 : Hid (w.heap.size ≤ wc.heap.size) := HM.out.lo.size
            have hgp : g3 < wc.heap.size ∧ g4 < wc.heap.size ∧ g5 < wc.heap.size ∧ g7 < wc.heap.size := ⟨ma_lt HM.out.b3, ma_lt HM.out.b4, ma_lt HM.out.b5, ma_lt HM.out.b7⟩
            have HGp : Hid (g3 < wc.heap.size ∧ g4 < wc.heap.size ∧ g5 < wc.heap.size ∧ g7 < wc.heap.size) := hgp
            have hPut := putreport_any LM HLm.out.symm HW1.out HOk.out (fun h0 => by
              obtain ⟨b, off, e, hb, hc⟩ := HLw.out h0
              refine ⟨b, off, e, (fun e => by have := HLo1.out; omega), (fun e => by cases e), fun j hj => ?_⟩
              exact ⟨(HM1.out.lo.cell (p := ⟨b, off + j * 2, none⟩) hb).trans (hc j hj).1, (HM1.out.lo.cell (p := ⟨b, off + j * 2 + 1, none⟩) hb).trans (hc j hj).2⟩) HLk.out HAi.out (by have := HLm.out; simp; omega) (vc := vc)
            rw [List.nil_append, HL1.out] at hPut
            clear hgp
            generalize wc.heap.size = p1 at HW1 HB1 HLo1 HGp hPut ⊢
            as_aux_lemma =>
            go_upto_region 18 with (first
              | (refine wpList_load_row rfl 57 _ rfl g3 rfl 57 #[.int .i64 a0, .int .i64 a1, .int .i64 a2, .int .i64 a3, .int .i64 a4, .int .i64 a5, .int .i64 a6, .int .i64 a7, .int .i64 a8, .bool (oh o 0), .bool (oh o 1), .bool (oh o 2), .bool (oh o 3), .bool (oh o 4), .int .i64 (ov o 0), .int .i64 (ov o 1), .int .i64 (ov o 2), .int .i64 (ov o 3), .int .i64 (ov o 4), .slice vo m vc] (0, 0) _ HM1.out.b3 Tryz.underlying57 rfl size_repT ?_)
              | (go_at_call 38; refine hPut.mono ?_; rintro r w2 ⟨rfl, e1⟩; have HT2 : Hid (WTo w1 w2 (p1 + 1) p1 (.slice none 0 0) l1) := e1; clear e1 hPut))
            obtain ⟨v2, hw2, hf2, hr2⟩ := HT2.out
            have HW2 : Hid (Wr w2 (p1 + 1) p1 v2 l1) := hw2
            have HF2 : Hid (Fr w1 w2 (fun k => k = p1)) := hf2.mono (fun k _ h => by
              rcases h with h | h
              · exact h
              · simp [Value.ownBlock] at h)
            have HM2 : Hid (MtI w w2 g3 g4 g5 g7 #[.int .i64 a0, .int .i64 a1, .int .i64 a2, .int .i64 a3, .int .i64 a4, .int .i64 a5, .int .i64 a6, .int .i64 a7, .int .i64 a8, .bool (oh o 0), .bool (oh o 1), .bool (oh o 2), .bool (oh o 3), .bool (oh o 4), .int .i64 (ov o 0), .int .i64 (ov o 1), .int .i64 (ov o 2), .int .i64 (ov o 3), .int .i64 (ov o 4), .slice vo m vc] #[.string t, .slice go gn gc, .slice po pn pc, .int .i64 st, .int .i64 se, .int .i64 pa] #[.int .i64 n0, .int .i64 n1, .int .i64 n2]) := HM1.out.kept HF2.out (fun k _ hk => by have := HGp.out; omega) (fun k hk => by rw [hk]; exact HLo1.out)
            have hlen : l1.length ≤ 6000 := by rw [← HL1.out]; exact rp_len rfl HAi.out HOk.out HLk.out (by have := HLm.out; have := HMm.out.1; omega)
            have HLen : Hid (l1.length ≤ 6000) := hlen
            have HTk : Hid (∀ W q, Rd W q (str l1 ++ ⟨#[120]⟩) ((0 : Nat) : Int) 0 → Calls Tryz.prog 39 #[.pointer (some ⟨q, 0, none⟩)] W fun r w' => (∃ ao c, r = .returned (.agg #[.int .i64 (a0 : Nat), .int .i64 (a1 : Nat), .int .i64 (a2 : Nat), .int .i64 (a3 : Nat), .int .i64 (a4 : Nat), .int .i64 (a5 : Nat), .int .i64 (a6 : Nat), .int .i64 (a7 : Nat), .int .i64 (a8 : Nat), .bool (oh o 0), .bool (oh o 1), .bool (oh o 2), .bool (oh o 3), .bool (oh o 4), .int .i64 (ov o 0), .int .i64 (ov o 1), .int .i64 (ov o 2), .int .i64 (ov o 3), .int .i64 (ov o 4), .slice ao LM.length c]) ∧ VlP w' (fun k => W.heap.size ≤ k) ao LM) ∧ Rd w' q (str l1 ++ ⟨#[120]⟩) (l1.length : Nat) 0 ∧ Fr W w' (fun k => k = q)) := fun W q h => take_rp HOk.out HCo.out HLk.out (by have := HLm.out; have := HMm.out.1; omega) HAb.out HL1.out HLen.out h
            clear hw2 hf2 hr2 HT2 HF2 hlen
            have hcat : ¬ 9223372036854775807 < (str l1).size + (ByteArray.mk #[120]).size := by rw [str_size]; have := HLen.out; have : (ByteArray.mk #[120]).size = 1 := rfl; omega
            as_aux_lemma =>
            go_upto_region 19 with (first
              | (go_at_call 16; refine (wall_any HW2.out).mono ?_; rintro r w3 ⟨rfl, hw3⟩; subst hw3)
              | (go_at_call 15; refine (newreader_any _ _).mono ?_; rintro r w4 ⟨rfl, hr4, hb4⟩; have HR4 : Hid (Rd w4 w3.heap.size (str l1 ++ ⟨#[120]⟩) ((0 : Nat) : Int) 0) := hr4; have HB4 : Hid (Below w3.heap.size w3 w4) := hb4; clear hr4 hb4))
            clear hcat
            as_aux_lemma =>
            go_upto_region 20 with (first
              | (go_at_call 39; refine Calls.mono (HTk.out _ _ HR4.out) ?_; rintro r w5 ⟨⟨bo, bc, rfl, hV5⟩, hR5, hF5⟩; have HV5 : Hid (VlP w5 (fun k => w4.heap.size ≤ k) bo LM) := hV5; have HR5 : Hid (Rd w5 w3.heap.size (str l1 ++ ⟨#[120]⟩) (l1.length : Nat) 0) := hR5; have HF5 : Hid (Fr w4 w5 (fun k => k = w3.heap.size)) := hF5; clear hV5 hR5 hF5)
              | (refine wpList_store_row rfl 57 _ _ rfl w5.heap.size #[.int .i64 (a0 : Nat), .int .i64 (a1 : Nat), .int .i64 (a2 : Nat), .int .i64 (a3 : Nat), .int .i64 (a4 : Nat), .int .i64 (a5 : Nat), .int .i64 (a6 : Nat), .int .i64 (a7 : Nat), .int .i64 (a8 : Nat), .bool (oh o 0), .bool (oh o 1), .bool (oh o 2), .bool (oh o 3), .bool (oh o 4), .int .i64 (ov o 0), .int .i64 (ov o 1), .int .i64 (ov o 2), .int .i64 (ov o 3), .int .i64 (ov o 4), .slice bo LM.length bc] rfl rfl 57 #[.int .i64 0, .int .i64 0, .int .i64 0, .int .i64 0, .int .i64 0, .int .i64 0, .int .i64 0, .int .i64 0, .int .i64 0, .bool false, .bool false, .bool false, .bool false, .bool false, .int .i64 0, .int .i64 0, .int .i64 0, .int .i64 0, .int .i64 0, .slice none 0 0] (heap_alloc_new w5 _) size_repT rfl (by simp [Value.oneCell']) ?_))
            generalize hW6 : World.setRow _ _ _ = W6
            obtain ⟨hT6, hB56⟩ := MtT.made HM2.out HW2.out HB4.out rfl (by have := HLo1.out; have := HW2.out.lt; omega) HR5.out HF5.out hW6
            have HT6 : Hid (MtT w W6 g3 g4 g5 g7 p1 w3.heap.size w5.heap.size v2 l1 #[.int .i64 (a0 : Nat), .int .i64 (a1 : Nat), .int .i64 (a2 : Nat), .int .i64 (a3 : Nat), .int .i64 (a4 : Nat), .int .i64 (a5 : Nat), .int .i64 (a6 : Nat), .int .i64 (a7 : Nat), .int .i64 (a8 : Nat), .bool (oh o 0), .bool (oh o 1), .bool (oh o 2), .bool (oh o 3), .bool (oh o 4), .int .i64 (ov o 0), .int .i64 (ov o 1), .int .i64 (ov o 2), .int .i64 (ov o 3), .int .i64 (ov o 4), .slice bo LM.length bc] #[.int .i64 a0, .int .i64 a1, .int .i64 a2, .int .i64 a3, .int .i64 a4, .int .i64 a5, .int .i64 a6, .int .i64 a7, .int .i64 a8, .bool (oh o 0), .bool (oh o 1), .bool (oh o 2), .bool (oh o 3), .bool (oh o 4), .int .i64 (ov o 0), .int .i64 (ov o 1), .int .i64 (ov o 2), .int .i64 (ov o 3), .int .i64 (ov o 4), .slice vo m vc] #[.string t, .slice go gn gc, .slice po pn pc, .int .i64 st, .int .i64 se, .int .i64 pa] #[.int .i64 n0, .int .i64 n1, .int .i64 n2]) := hT6
            have HV6 : Hid (VlP W6 (fun k => k < W6.heap.size) bo LM) := HV5.out.kept (Fr.ofBelow hB56 (fun _ => False)) (fun k hk _ => ⟨fun h => h, Nat.lt_of_lt_of_le hk hB56.size⟩)
            clear hW6 hT6 hB56
            have HB6 : Hid (Below w.heap.size w W6) := HT6.out.m.lo
            clear HM2 HW2 HB4 HR4 HR5 HF5 HV5 HM1 HW1 HB1 HM HTk
            generalize w3.heap.size = q1 at HT6 ⊢
            generalize w5.heap.size = gb at HT6 ⊢
            as_aux_lemma =>
            go_upto_region 21 with (go_at_call 13; refine (newwriter_any _).mono ?_; rintro r w7 ⟨rfl, hw7, hb7⟩; have HW7 : Hid (Wr w7 (W6.heap.size + 1) W6.heap.size (.slice none 0 0) []) := hw7; have HB7 : Hid (Below W6.heap.size W6 w7) := hb7; clear hw7 hb7)
            have hPut := putreport_any (vc := bc) LM rfl HW7.out HOk.out ((HV6.out.new HB7.out).apart (fun k hk => ⟨by omega, by simp [Value.ownBlock]⟩)) HLk.out HAi.out (by have := HLm.out; have := HMm.out.1; simp; omega)
            rw [List.nil_append, HL1.out] at hPut
            have HPut : Hid _ := hPut
            have HT7 : Hid _ := HT6.out.new HB7.out
            clear hPut
            as_aux_lemma =>
            go_upto_region 22 with (first
              | (refine wpList_load_row rfl 57 _ rfl gb rfl 57 #[.int .i64 (a0 : Nat), .int .i64 (a1 : Nat), .int .i64 (a2 : Nat), .int .i64 (a3 : Nat), .int .i64 (a4 : Nat), .int .i64 (a5 : Nat), .int .i64 (a6 : Nat), .int .i64 (a7 : Nat), .int .i64 (a8 : Nat), .bool (oh o 0), .bool (oh o 1), .bool (oh o 2), .bool (oh o 3), .bool (oh o 4), .int .i64 (ov o 0), .int .i64 (ov o 1), .int .i64 (ov o 2), .int .i64 (ov o 3), .int .i64 (ov o 4), .slice bo LM.length bc] (0, 0) _ HT7.out.bx Tryz.underlying57 rfl size_repT ?_)
              | (go_at_call 38; refine Calls.mono HPut.out ?_; rintro r w8 ⟨rfl, e1⟩; have HTo : Hid (WTo w7 w8 (W6.heap.size + 1) W6.heap.size (.slice none 0 0) l1) := e1; clear e1))
            have HB8 : Hid (Below W6.heap.size W6 w8) := WTo.new HB7.out HW7.out HTo.out (Nat.le_refl _) (Nat.le_succ _)
            have HT8 : Hid _ := HT6.out.new HB8.out
            obtain ⟨v3, hw8, _, _⟩ := HTo.out
            have HZ8 : Hid (Wr w8 (W6.heap.size + 1) W6.heap.size v3 l1) := hw8
            have HB68 : Hid (Below w.heap.size w w8) := HT8.out.m.lo
            clear hw8 HTo HPut HB7 HW7 HT7 HT6 HV6 HB8 HB6
            generalize W6.heap.size = z1 at HZ8 ⊢
            as_aux_lemma =>
            have tk1 : Hid True := trivial
            go_cut [101, 102, 103, 104, 105, 106, 107, 108, 109, 110, 111, 112, 113, 114, 115, 116, 117, 118, 119, 120, 121, 122, 123, 124, 125, 126, 127, 128, 129, 130, 131, 132, 133, 134, 135, 136, 137, 138, 139, 140, 141, 142, 143, 144] (fun _ _ _ _ _ _ _ _ _ _ _ _ _ _ _ _ _ _ _ _ _ _ _ _ _ _ _ _ _ _ _ _ _ _ _ _ _ _ _ _ _ _ _ u wx => u = .bool false ∧ Hid (MtI w wx g3 g4 g5 g7 #[.int .i64 a0, .int .i64 a1, .int .i64 a2, .int .i64 a3, .int .i64 a4, .int .i64 a5, .int .i64 a6, .int .i64 a7, .int .i64 a8, .bool (oh o 0), .bool (oh o 1), .bool (oh o 2), .bool (oh o 3), .bool (oh o 4), .int .i64 (ov o 0), .int .i64 (ov o 1), .int .i64 (ov o 2), .int .i64 (ov o 3), .int .i64 (ov o 4), .slice vo m vc] #[.string t, .slice go gn gc, .slice po pn pc, .int .i64 st, .int .i64 se, .int .i64 pa] #[.int .i64 n0, .int .i64 n1, .int .i64 n2]))
            case first =>
              as_aux_lemma =>
              go_wp2_with (first
                | (go_at_call 27; refine Calls.mono (awake17 _) ?_; rintro r w9 ⟨rfl, hb9⟩; have HT9 : Hid _ := HT8.out.new hb9; have HZ9 : Hid (Wr w9 (z1 + 1) z1 v3 l1) := HZ8.out.kept (Fr.ofBelow hb9 (fun _ => False)) (fun h => h) (fun _ _ h => h); clear hb9)
                | (go_at_call 16; first
                  | (have _t := tk1; refine Calls.mono (wall_any HZ9.out) ?_; rintro r wA ⟨rfl, hwA⟩; clear tk1; subst hwA)
                  | (refine Calls.mono (wall_any HT9.out.wt) ?_; rintro r wB ⟨rfl, hwB⟩; subst hwB))
                | (go_at_call 19; refine Calls.mono (mt_left HT9.out.rd (by have := HLen.out; omega)) ?_; rintro r wC ⟨rfl, hbC⟩; have HTC : Hid _ := HT9.out.new hbC; obtain ⟨cb0, cb5, cb9, cb10, cb11, cb12, cb13, cb14, cb15, cb16, cb17, cb18, cb19⟩ := mt_cells HTC.out.bx; obtain ⟨cr0, cr5, cr9, cr10, cr11, cr12, cr13, cr14, cr15, cr16, cr17, cr18, cr19⟩ := mt_cells HTC.out.m.b3; as_aux_lemma => (go_wp2; go_meet; exact ⟨by rw [HLm.out]; simp, HTC.out.m⟩)))
            case rest =>
              obtain ⟨hu, hMC⟩ := hcut
              have HMC : Hid (MtI w wc g3 g4 g5 g7 #[.int .i64 a0, .int .i64 a1, .int .i64 a2, .int .i64 a3, .int .i64 a4, .int .i64 a5, .int .i64 a6, .int .i64 a7, .int .i64 a8, .bool (oh o 0), .bool (oh o 1), .bool (oh o 2), .bool (oh o 3), .bool (oh o 4), .int .i64 (ov o 0), .int .i64 (ov o 1), .int .i64 (ov o 2), .int .i64 (ov o 3), .int .i64 (ov o 4), .slice vo m vc] #[.string t, .slice go gn gc, .slice po pn pc, .int .i64 st, .int .i64 se, .int .i64 pa] #[.int .i64 n0, .int .i64 n1, .int .i64 n2]) := hMC
              clear HT8 HZ8 HB68 hMC
              subst hu
              as_aux_lemma =>
              go_upto_region 25 with (first
                | (refine wpList_load_row rfl 27 _ rfl g4 rfl 27 #[.string t, .slice go gn gc, .slice po pn pc, .int .i64 st, .int .i64 se, .int .i64 pa] (0, 0) _ HMC.out.b4 Tryz.underlying27 rfl size_jobJ ?_)
                | (go_at_call 35; refine Calls.mono (sm_any HJi.out.hgc.1 HJi.out.hgc.2) ?_; rintro r x1 ⟨⟨n1', st1, se1, hn1, rfl⟩, hb1⟩; have HB1 : Hid (Below wc.heap.size wc x1) := hb1; have HN1 : Hid (n1' ≤ 30 ∧ n1' ≤ gn) := hn1; clear hb1 hn1)
                | (refine wpList_store_row rfl 27 _ _ rfl x1.heap.size #[.string t, .slice go n1' gc, .slice po pn pc, .int .i64 st1, .int .i64 se1, .int .i64 pa] rfl rfl 27 #[.string ⟨#[]⟩, .slice none 0 0, .slice none 0 0, .int .i64 0, .int .i64 0, .int .i64 0] (heap_alloc_new x1 _) size_jobJ rfl (by simp [Value.oneCell']) ?_))
              generalize hX2 : World.setRow _ _ _ = X2
              obtain ⟨hb2, hj2⟩ := row_made hX2
              have HM2 : Hid (MtI w X2 g3 g4 g5 g7 #[.int .i64 a0, .int .i64 a1, .int .i64 a2, .int .i64 a3, .int .i64 a4, .int .i64 a5, .int .i64 a6, .int .i64 a7, .int .i64 a8, .bool (oh o 0), .bool (oh o 1), .bool (oh o 2), .bool (oh o 3), .bool (oh o 4), .int .i64 (ov o 0), .int .i64 (ov o 1), .int .i64 (ov o 2), .int .i64 (ov o 3), .int .i64 (ov o 4), .slice vo m vc] #[.string t, .slice go gn gc, .slice po pn pc, .int .i64 st, .int .i64 se, .int .i64 pa] #[.int .i64 n0, .int .i64 n1, .int .i64 n2]) := (HMC.out.new HB1.out).new hb2
              have HJ2 : Hid (X2.heap[x1.heap.size]? = some (.cells #[.string t, .slice go n1' gc, .slice po pn pc, .int .i64 st1, .int .i64 se1, .int .i64 pa] 27 (0, 0))) := hj2
              have HJc : Hid (JbIn w go po n1' gc pn (G.take n1') ps) := HJi.out.cut HN1.out.2
              clear hb2 hj2 hX2 HMC HB1 HN1 HJi
              generalize G.take n1' = G1 at HJc
              generalize x1.heap.size = gj at HJ2 ⊢
              as_aux_lemma =>
              go_upto_if 150 with (first
                | (refine wpList_load_row rfl 27 _ rfl gj rfl 27 #[.string t, .slice go n1' gc, .slice po pn pc, .int .i64 st1, .int .i64 se1, .int .i64 pa] (0, 0) _ HJ2.out Tryz.underlying27 rfl size_jobJ ?_)
                | (go_at_call 10; refine Calls.mono (HJc.out.ref HM2.out.lo) ?_; rintro r x3 ⟨⟨ho, hc, rfl, hV3⟩, hb3⟩; have HV3 : Hid (VxAt x3 (fun k => X2.heap.size ≤ k) ho G1) := hV3; have HB3 : Hid (Below X2.heap.size X2 x3) := hb3; clear hV3 hb3)
                | (go_at_call 9; refine Calls.mono (HJc.out.chk (HM2.out.new HB3.out).lo HV3.out) ?_; rintro r x4 ⟨rfl, hb4⟩; have HB4 : Hid (Below X2.heap.size X2 x4) := HB3.out.trans (hb4.mono HB3.out.size); clear hb4))
              have HM4 : Hid (MtI w x4 g3 g4 g5 g7 #[.int .i64 a0, .int .i64 a1, .int .i64 a2, .int .i64 a3, .int .i64 a4, .int .i64 a5, .int .i64 a6, .int .i64 a7, .int .i64 a8, .bool (oh o 0), .bool (oh o 1), .bool (oh o 2), .bool (oh o 3), .bool (oh o 4), .int .i64 (ov o 0), .int .i64 (ov o 1), .int .i64 (ov o 2), .int .i64 (ov o 3), .int .i64 (ov o 4), .slice vo m vc] #[.string t, .slice go gn gc, .slice po pn pc, .int .i64 st, .int .i64 se, .int .i64 pa] #[.int .i64 n0, .int .i64 n1, .int .i64 n2]) := HM2.out.new HB4.out
              have HJ4 : Hid (x4.heap[gj]? = some (.cells #[.string t, .slice go n1' gc, .slice po pn pc, .int .i64 st1, .int .i64 se1, .int .i64 pa] 27 (0, 0))) := (HB4.out.block gj (ma_lt HJ2.out)).trans HJ2.out
              clear HM2 HJ2 HB3 HB4 HV3
              obtain ⟨jn, hjn⟩ : ∃ jn, jobN t G1 ps st1 se1 pa = jn := ⟨_, rfl⟩
              rw [hjn]
              have HJn : Hid (jobN t G1 ps st1 se1 pa = jn) := hjn
              clear hjn
              as_aux_lemma =>
              by_cases hz : jn = 0
              rotate_left
              · go_wp2
                go_ret
                exact ⟨rfl, HM4.out.lo⟩
              · subst hz
                clear HI HV6 HLv HLo HLa HN6 HMm HAb HLk HLw HAi HL1 HLo1 HGp HLen HBb tk1
                have hJk := jobN_ok HJn.out
                obtain ⟨st2, rfl⟩ := Int.eq_ofNat_of_zero_le (show 0 ≤ st1 by have := hJk.st; omega)
                obtain ⟨se2, rfl⟩ := Int.eq_ofNat_of_zero_le hJk.se.1
                obtain ⟨pa2, rfl⟩ := Int.eq_ofNat_of_zero_le (show 0 ≤ pa by have := hJk.pa; omega)
                clear hJk
                as_aux_lemma =>
                go_upto_region 27 with (fail)
                refine mt_r27 HM4 HJ4 HJc ?_
                intro W7 gt q5 q6 b0 b1 b2 c0 c1 c2 kp u151 u152 u153 u154 u155 u156 u157 u158 u159 u160 u161 u162 u163 u164 u165 u166 u167 u168 u169 u170 u171 u172 u173 u174 u175 u176 u177 u178 hNb hK7
                refine mt_tail (by assumption) hK7 HJc hNb HOk HCo HJn ?_
                intro W u16 u17 u18 u19 u179 u180 u181 u182 u183 u184 u185 u186 u187 u188 u189 u190 u191 u192 u193 u194 u195 u196 u197 u198 u199 u200 u201 u202 u203 u204 u205 u206 u207 u208 u209 u210 u211 u212 u213 u214 u215 u216 u217 u218 u219 u220 u221 u222 u223 u224 u225 u226 u227 u228 u229 u230 u231 u232 u233 u234 u235 u236 u237 u238 u239 u240 u241 u242 u243 u244 u245 u246 u247 hlo
                go_ret
                exact ⟨rfl, hlo⟩
end Go.Proofs.YtidghoipmggklaaGreat
