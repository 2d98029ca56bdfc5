import Derived.Test.YtidghoipmggklaaGreatMaTaM
/- Stage 17's awake: a job begins when it is submitted, if a worker is there. -/
namespace Go.Proofs.YtidghoipmggklaaGreat
open Go.RowKit
attribute [local go_sem] Oper.semAt_some
theorem aw_chk17 : jobN ⟨#[99, 99]⟩ [] [] ((9 : Nat) : Int) ((0 : Nat) : Int) ((2 : Nat) : Int) = 0 := by decide +kernel
theorem aw_dec17 : DecOk (str (jobB ⟨#[99, 99]⟩ [] [] 9 0 2)) ⟨#[99, 99]⟩ [] [] 9 0 2 := dec_back (st := 9) (se := 0) (pa := 2) (fun _ h => by cases h) (fun _ h => by cases h) aw_chk17
theorem aw_join17 : joinP [] 3 1 = [⟨3, 1⟩] := by rfl
theorem aw_asgn17 : asgn 2 (risL (([⟨3, 1⟩] : List Pz).map (·.k))) = [3, 3] := by decide
theorem aw_plcs17 : plcs [3, 3] 3 2 = [0, 1] := by decide
theorem aw_text17 (W : World) : Calls Tryz.prog 36 #[.agg #[.string ⟨#[99, 99]⟩, .slice none 0 0, .slice none 0 0, .int .i64 9, .int .i64 0, .int .i64 2]] W fun r w' => r = .returned (.string (str (jobB ⟨#[99, 99]⟩ [] [] 9 0 2))) ∧ Below W.heap.size W w' :=
  mtext (w := W) (P := fun _ => True) (t := ⟨#[99, 99]⟩) (go := none) (po := none) (G := []) (n := 0) (gc := 0) (m := 0) (pc := 0) (ps := []) (st := 9) (se := 0) (pa := 2) rfl rfl (by decide) (by decide) (by decide) (fun h => absurd h (by simp)) (fun _ h => by cases h) (fun h => absurd h (by simp)) (fun _ h => by cases h) aw_chk17
set_option maxRecDepth 100000 in
set_option maxHeartbeats 2000000 in
theorem awake17 (w : World) : Calls Tryz.prog 27 #[] w fun r w' => r = .returned (.bool true) ∧ Below w.heap.size w w' := by
  have hN := mnew w
  obtain ⟨p, hp⟩ : ∃ p, w.heap.size = p := ⟨_, rfl⟩
  rw [hp] at hN
  have HPw : Hid (w.heap.size = p) := hp
  have HJ : Hid (∀ W, MaBox W p (.pointer none) none (.slice none 0 0) 0 (.pointer none) [] → ∀ q1 q2 q3 q4 r0 r1 r2 r3 r4 r5 r6 r7 r8 r9 r10 r11 r12 r13 r14 r15 r16 r17 r18 r19 : Value, Calls Tryz.prog 21 #[.pointer (some ⟨p, 0, none⟩), .agg #[.int .i64 3, q1, q2, q3, q4, .int .i64 3, .int .i64 1, r0, r1, r2, r3, r4, r5, r6, r7, r8, r9, r10, r11, r12, r13, r14, r15, r16, r17, r18, r19]] W fun r w' => r = .returned (.tuple #[.agg #[.int .i64 0, .int .i64 0], .int .i64 0]) ∧ PoJ W w' p (.pointer none) none 0 [⟨3, 1⟩]) := fun W h q1 q2 q3 q4 r0 r1 r2 r3 r4 r5 r6 r7 r8 r9 r10 r11 r12 r13 r14 r15 r16 r17 r18 r19 => by
    have := mapply_join h (by decide) (x := 3) (l := 1) (by unfold W6; decide) (by unfold W6; decide) q1 q2 q3 q4 r0 r1 r2 r3 r4 r5 r6 r7 r8 r9 r10 r11 r12 r13 r14 r15 r16 r17 r18 r19
    rw [aw_join17] at this
    exact this
  obtain ⟨s, hs⟩ : ∃ s, str (jobB ⟨#[99, 99]⟩ [] [] 9 0 2) = s := ⟨_, rfl⟩
  have hT := aw_text17
  have hD := aw_dec17
  rw [hs] at hT hD
  have HT : Hid _ := hT
  have HD : Hid _ := hD
  clear hT hD hs hp
  go_enter Tryz.func27, Tryz.ntmps27
  go_upto_region 2 with (go_at_call 34; refine hN.mono ?_; rintro r w1 ⟨rfl, hM1, hb1⟩)
  have HB1 : Hid (Below p w w1) := hb1
  clear hN hb1
  go_upto_region 3 with (go_at_call 21; refine (HJ.out w1 hM1 _ _ _ _ _ _ _ _ _ _ _ _ _ _ _ _ _ _ _ _ _ _ _ _).mono ?_; rintro r w2 ⟨rfl, mb, hM2, hF2, hmb⟩)
  have HB2 : Hid (Below p w w2) := HB1.out.trans (hF2.below (by have := HPw.out; have := HB1.out.size; omega) (fun k hk => by
    rcases hk with hk | hk
    · omega
    · cases hk))
  clear hF2 hmb hM1
  have h2 := heap_alloc_new w2 (.cells #[.int .i64 0, .int .i64 0] 62)
  have HBa := ma_new w2 (.cells #[.int .i64 0, .int .i64 0] 62)
  have HS2 : Hid (p ≤ w2.heap.size) := Nat.le_trans (by have := HPw.out; omega) HB2.out.size
  generalize hW3 : World.alloc w2 _ = W3
  rw [hW3] at h2 HBa
  have HM3 : Hid (MaBox W3 p (.pointer none) mb (.slice none 0 0) 0 (.pointer none) [⟨3, 1⟩]) := hM2.new HBa
  have HB3 : Hid (Below p w W3) := HB2.out.trans (HBa.mono HS2.out)
  clear hM2 HBa hW3 h2
  go_upto_region 4 with (first
    | (go_at_call 36; refine (HT.out W3).mono ?_; rintro r w4 ⟨rfl, hb4⟩)
    | (go_at_call 21; refine (mapply_submit (HM3.out.new hb4) (by decide) (by decide) HD.out _ _ _ _ _ _ _ _ _ _ _ _ _ _ _ _ _ _ _ _ _ _ _).mono ?_; rintro r w5 ⟨rfl, tb, hS, hF5⟩))
  have HB4 : Hid (Below p w w4) := HB3.out.trans (hb4.mono (by have := HS2.out; have := HB3.out.size; have := HB2.out.size; have := HPw.out; omega))
  have HB5 : Hid (Below p w w5) := HB4.out.trans (hF5.below (by have := HPw.out; have := HB4.out.size; omega) (fun k hk => by omega))
  have HS5 : Hid (p ≤ w5.heap.size) := Nat.le_trans (by have := HPw.out; omega) HB5.out.size
  obtain ⟨jb, jc, q, hb, av, go, gc, po, pc, hR, hG, hP, _⟩ := hS
  have has := hR.as_
  rw [aw_asgn17] at has
  obtain ⟨ao, ac, rfl, _, hg⟩ := GO.shape has
  obtain ⟨ga, rfl⟩ := hg (by decide)
  have h5 := heap_alloc_new w5 (.cells #[.int .i64 0, .int .i64 1] 62)
  have HBb := ma_new w5 (.cells #[.int .i64 0, .int .i64 1] 62)
  generalize hW6 : World.alloc w5 _ = Wx6
  rw [hW6] at h5 HBb
  have HB6 : Hid (Below p w Wx6) := HB5.out.trans (HBb.mono HS5.out)
  have hK := mtask_first (A := [3, 3]) (x := 3) (P := fun _ => True) (G := []) (ps := []) (hR.new HBb) aw_asgn17 rfl (by unfold W6; decide) (by decide) (fun h => absurd h (by simp)) (fun _ h => by cases h) (by decide) ⟨po, pc, rfl, Nat.zero_le _, fun h => absurd h (by simp)⟩ (by decide)
  obtain ⟨g5, hg5⟩ : ∃ g5, w5.heap.size = g5 := ⟨_, rfl⟩
  rw [hg5] at h5 ⊢
  have HH5 : Hid (Wx6.heap[g5]? = some (.cells #[.int .i64 0, .int .i64 1] 62 (0, 0))) := h5
  clear hW6 hg5 h5 hR hG hP has hg hb4 hF5 HBb
  go_upto_region 5 with (first
    | (go_at_call 23; refine hK.mono ?_; rintro r w7 ⟨v1, v2, bo, c, ao3, c3, rfl, hv1, hv2, hb7⟩; have e1 : plcs [3, 3] 3 ([3, 3] : List Int).length = [0, 1] := aw_plcs17; rw [e1] at hv1; obtain ⟨ao1, c1, rfl, _, _⟩ := GO.shape hv1; obtain ⟨ao2, c2, rfl, _, _⟩ := GO.shape hv2; have HB7 : Hid (Below Wx6.heap.size Wx6 w7) := hb7; clear hv1 hv2 hb7 e1)
    | (refine wpList_store_row rfl 69 _ _ rfl w7.heap.size #[.int .i64 1, .int .i64 1, .int .i64 0, .int .i64 1, .slice ao1 2 c1, .slice ao2 2 c2, .string ⟨#[99, 99]⟩, .slice bo 0 c, .slice ao3 0 c3, .int .i64 9, .int .i64 0, .int .i64 2, .bool false, .bool false, .bool false, .bool false, .bool false, .int .i64 0, .int .i64 0, .int .i64 0, .int .i64 0, .int .i64 0, .int .i64 0, .int .i64 0, .int .i64 0, .bool false] rfl rfl 69 #[.int .i64 0, .int .i64 0, .int .i64 0, .int .i64 0, .slice none 0 0, .slice none 0 0, .string ⟨#[]⟩, .slice none 0 0, .slice none 0 0, .int .i64 0, .int .i64 0, .int .i64 0, .bool false, .bool false, .bool false, .bool false, .bool false, .int .i64 0, .int .i64 0, .int .i64 0, .int .i64 0, .int .i64 0, .int .i64 0, .int .i64 0, .int .i64 0, .bool false] (heap_alloc_new _ _) size_task rfl (by simp [Value.oneCell']) ?_))
  generalize hW8 : World.setRow _ _ _ = W8
  obtain ⟨V, hV⟩ : ∃ V, w7.alloc (.cells #[.int .i64 0, .int .i64 0, .int .i64 0, .int .i64 0, .slice none 0 0, .slice none 0 0, .string ⟨#[]⟩, .slice none 0 0, .slice none 0 0, .int .i64 0, .int .i64 0, .int .i64 0, .bool false, .bool false, .bool false, .bool false, .bool false, .int .i64 0, .int .i64 0, .int .i64 0, .int .i64 0, .int .i64 0, .int .i64 0, .int .i64 0, .int .i64 0, .bool false] 69) = V := ⟨_, rfl⟩
  have hbV : Below w7.heap.size w7 V := by rw [← hV]; exact ma_new _ _
  have hk : V.heap[w7.heap.size]? = some (.cells #[.int .i64 0, .int .i64 0, .int .i64 0, .int .i64 0, .slice none 0 0, .slice none 0 0, .string ⟨#[]⟩, .slice none 0 0, .slice none 0 0, .int .i64 0, .int .i64 0, .int .i64 0, .bool false, .bool false, .bool false, .bool false, .bool false, .int .i64 0, .int .i64 0, .int .i64 0, .int .i64 0, .int .i64 0, .int .i64 0, .int .i64 0, .int .i64 0, .bool false] 69 (0, 0)) := by rw [← hV]; exact heap_alloc_new _ _
  rw [hV] at hW8
  have hF8 : Fr V W8 (fun k => k = w7.heap.size) := by rw [← hW8]; exact ap_setRow _ _ _
  have hn : W8.heap[w7.heap.size]? = some (.cells #[.int .i64 1, .int .i64 1, .int .i64 0, .int .i64 1, .slice ao1 2 c1, .slice ao2 2 c2, .string ⟨#[99, 99]⟩, .slice bo 0 c, .slice ao3 0 c3, .int .i64 9, .int .i64 0, .int .i64 2, .bool false, .bool false, .bool false, .bool false, .bool false, .int .i64 0, .int .i64 0, .int .i64 0, .int .i64 0, .int .i64 0, .int .i64 0, .int .i64 0, .int .i64 0, .bool false] 69 (0, 0)) := by rw [← hW8]; exact setRow_heap _ _ _ _ _ _ hk
  have hb8 : Below w7.heap.size w7 W8 := hbV.trans (hF8.below hbV.size (fun k hk => by omega))
  have h5 : w7.heap[g5]? = some (.cells #[.int .i64 0, .int .i64 1] 62 (0, 0)) := (HB7.out.block g5 (ma_lt HH5.out)).trans HH5.out
  have h58 := (hb8.block g5 (ma_lt h5)).trans h5
  have HBw : Hid (Below p w w7) := HB6.out.trans (HB7.out.mono (by have := HPw.out; have := HB6.out.size; omega))
  have HB8 : Hid (Below p w W8) := HBw.out.trans (hb8.mono (Nat.le_trans (by have := HPw.out; omega) HBw.out.size))
  have k0 : W8.cell? ⟨g5, 0, none⟩ = some (.int .i64 0) := by simp [World.cell?, h58]
  have k1 : W8.cell? ⟨g5, 1, none⟩ = some (.int .i64 1) := by simp [World.cell?, h58]
  have k3 : W8.cell? ⟨w7.heap.size, 3, none⟩ = some (.int .i64 1) := by simp [World.cell?, hn]
  have k4 : W8.cell? ⟨w7.heap.size, 4, none⟩ = some (.slice ao1 2 c1) := by simp [World.cell?, hn]
  clear hW8 hn hb8 h58 h5 hV hbV hk hF8
  generalize w7.heap.size = g7 at k3 k4 ⊢
  go_wp2
  go_ret
  refine ⟨rfl, ?_⟩
  rw [HPw.out]
  exact HB8.out
end Go.Proofs.YtidghoipmggklaaGreat
