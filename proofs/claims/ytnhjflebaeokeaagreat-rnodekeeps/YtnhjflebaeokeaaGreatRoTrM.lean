import Derived.Test.YtnhjflebaeokeaaGreatRoBaseM
section
/- rnode.takeBase: the bytes of a snapshot are read. -/
namespace Go.Proofs.YtnhjflebaeokeaaGreat
open Go.RowKit
attribute [local go_sem] Oper.semAt_some
theorem size_hard : (Tryz.prog.info? 66).map (·.size) = some 6 := by kernel_rfl
set_option linter.unusedSimpArgs false in
set_option maxRecDepth 100000 in
set_option maxHeartbeats 2000000 in
theorem takeBase_none (w : World) : Calls Tryz.prog 83 #[.string (str [])] w fun r w' => r = .returned (.tuple #[.agg #[.int .i64 0, .int .i64 0, .int .i64 0, .int .i64 0, .string (str []), .slice none 0 0], .bool true]) ∧ Below w.heap.size w w' := by
  go_enter Tryz.func83, Tryz.ntmps83
  go_upto_region 1 with (fail)
  generalize hW : World.alloc _ _ = W
  have b0 : Below w.heap.size w W := by rw [← hW]; exact vone_new _ _
  have hZ : W.heap[w.heap.size]? = some (.cells #[.int .i64 0, .int .i64 0, .int .i64 0, .int .i64 0, .string (str []), .slice none 0 0] 66 (0, 0)) := by rw [← hW]; exact heap_alloc_new _ _
  obtain ⟨q, hq⟩ : ∃ q, w.heap.size = q := ⟨_, rfl⟩
  have HQ : Hid (w.heap.size = q) := hq
  rw [hq] at hZ ⊢
  have HB0 : Hid (Below w.heap.size w W) := b0
  have HZ : Hid _ := hZ
  have hse : (str []).toList.isEmpty = true := by rw [ByteArray.toList_eq]; rfl
  clear hW b0 hZ hq
  go_wp2_with (refine wpList_store_row rfl 66 _ _ rfl q #[.int .i64 0, .int .i64 0, .int .i64 0, .int .i64 0, .string (str []), .slice none 0 0] rfl rfl 66 #[.int .i64 0, .int .i64 0, .int .i64 0, .int .i64 0, .string (str []), .slice none 0 0] HZ.out size_hard rfl (by simp [Value.oneCell']) ?_)
  refine bodyPost_ret (v := .tuple #[.agg #[.int .i64 0, .int .i64 0, .int .i64 0, .int .i64 0, .string (str []), .slice none 0 0], .bool true]) (res_ctV Tryz.results83 _ _ q 66 _ (0, 0) _ rfl (setRow_heap _ _ _ _ _ _ HZ.out) Tryz.underlying66 rfl size_hard) rfl ?_
  refine ⟨rfl, HB0.out.trans ((vfr_setRow W q _).below HB0.out.size (fun k hk => by have := HQ.out; omega))⟩
set_option linter.unusedSimpArgs false in
set_option maxRecDepth 100000 in
set_option maxHeartbeats 2000000 in
theorem takeBase_some {w : World} {s : ByteArray} {n0 a0 n1 a1 a2 : Nat} {e0 e1 e2 : Int} {t : ByteArray} (hs : s.size ≤ maxLen) (hs0 : s.size ≠ 0) (h0 : rdCount s 0 0 2147483647 = (n0, a0, e0)) (h1 : rdCount s a0 e0 2147483647 = (n1, a1, e1)) (h2 : rdText s a1 e1 = (t, a2, e2)) :
    Calls Tryz.prog 83 #[.string s] w fun r w' => r = .returned (.tuple #[.agg #[.int .i64 0, .int .i64 0, .int .i64 (n0 : Int), .int .i64 (n1 : Int), .string t, .slice none 0 0], .bool (rdEnd s a2 e2 == 0)]) ∧ Below w.heap.size w w' := by
  have H0 : Hid (rdCount s 0 0 2147483647 = (n0, a0, e0)) := h0
  have H1 : Hid (rdCount s a0 e0 2147483647 = (n1, a1, e1)) := h1
  have H2 : Hid (rdText s a1 e1 = (t, a2, e2)) := h2
  have HA0 : Hid (a0 ≤ s.size) := (rdCount_to (most := 2147483647) (Nat.zero_le _) h0).1
  have HA1 : Hid (a1 ≤ s.size) := (rdCount_to (most := 2147483647) HA0.out h1).1
  have HA2 : Hid (a2 ≤ s.size) := rdText_leV HA1.out h2
  have HS : Hid (s.size ≤ maxLen) := hs
  have hse : s.toList.isEmpty = false := by
    rw [ByteArray.toList_eq]
    cases hl : s.data.toList with
    | nil =>
      refine absurd ?_ hs0
      have : s.data.toList.length = 0 := by rw [hl]; rfl
      simpa using this
    | cons _ _ => rfl
  obtain ⟨z, hz⟩ : ∃ z, rdEnd s a2 e2 = z := ⟨_, rfl⟩
  have HZE : Hid (rdEnd s a2 e2 = z) := hz
  rw [hz]
  clear h0 h1 h2 hs hs0 hz
  go_enter Tryz.func83, Tryz.ntmps83
  go_upto_region 1 with (fail)
  generalize hW : World.alloc _ _ = W
  have b0 : Below w.heap.size w W := by rw [← hW]; exact vone_new _ _
  have hZ : W.heap[w.heap.size]? = some (.cells #[.int .i64 0, .int .i64 0, .int .i64 0, .int .i64 0, .string (str []), .slice none 0 0] 66 (0, 0)) := by rw [← hW]; exact heap_alloc_new _ _
  obtain ⟨q, hq⟩ : ∃ q, w.heap.size = q := ⟨_, rfl⟩
  have HQ : Hid (w.heap.size = q) := hq
  rw [hq] at hZ ⊢
  have HB0 : Hid (Below w.heap.size w W) := b0
  have HZ : Hid _ := hZ
  clear hW b0 hZ hq
  go_upto_region 4 with (go_at_call 118; refine (newreader_any s _).mono ?_; rintro r w1 ⟨rfl, hr1, hb1⟩)
  obtain ⟨p, hp⟩ : ∃ p, W.heap.size = p := ⟨_, rfl⟩
  have HP : Hid (W.heap.size = p) := hp
  rw [hp] at hr1 ⊢
  have HR1 : Hid (Rd w1 p s 0 0) := hr1
  have HB1 : Hid (Below W.heap.size W w1) := hb1
  have tk1 : Hid True := trivial
  clear hr1 hb1 hp
  go_upto_region 5 with (first
    | (go_at_call 119; first
      | (have _t := tk1; refine (rct_most HR1.out HS.out (Nat.zero_le _) H0.out).mono ?_; rintro r w2 ⟨rfl, hr2, hf2⟩; have HR2 : Hid (Rd w2 p s a0 e0) := hr2; have HF2 : Hid (Fr w1 w2 (fun k => k = p)) := hf2; clear hr2 hf2 tk1)
      | (refine (rct_most HR2.out HS.out HA0.out H1.out).mono ?_; rintro r w3 ⟨rfl, hr3, hf3⟩; have HR3 : Hid (Rd w3 p s a1 e1) := hr3; have HF3 : Hid (Fr w1 w3 (fun k => k = p)) := HF2.out.trans hf3 (fun _ _ h => h); clear hr3 hf3))
    | (go_at_call 120; refine (rtx HR3.out HS.out HA1.out H2.out).mono ?_; rintro r w4 ⟨rfl, hr4, hf4⟩; have HR4 : Hid (Rd w4 p s a2 e2) := hr4; have HF4 : Hid (Fr w1 w4 (fun k => k = p)) := HF3.out.trans hf4 (fun _ _ h => h); clear hr4 hf4)
    | (refine wpList_store_row rfl 66 _ _ rfl _ #[.int .i64 0, .int .i64 0, .int .i64 (n0 : Int), .int .i64 (n1 : Int), .string t, .slice none 0 0] rfl rfl 66 #[.int .i64 0, .int .i64 0, .int .i64 0, .int .i64 0, .string (str []), .slice none 0 0] (heap_alloc_new _ _) size_hard rfl (by simp [Value.oneCell']) ?_))
  generalize hW5 : World.setRow _ _ _ = W5
  have hbx : W5.heap[w4.heap.size]? = some (.cells #[.int .i64 0, .int .i64 0, .int .i64 (n0 : Int), .int .i64 (n1 : Int), .string t, .slice none 0 0] 66 (0, 0)) := by rw [← hW5]; exact setRow_heap _ _ _ _ _ _ (heap_alloc_new _ _)
  have hb5 : Below w4.heap.size w4 W5 := by rw [← hW5]; exact ((Fr.alloc w4 _ (fun _ => False)).trans (vfr_setRow _ _ _) (fun i hi e => absurd e (by omega))).below (Nat.le_refl _) (fun _ h => h.elim)
  have HR5 : Hid (Rd W5 p s a2 e2) := Rd.below HR4.out hb5
  have HZ5 : Hid (W5.heap[q]? = some (.cells #[.int .i64 0, .int .i64 0, .int .i64 0, .int .i64 0, .string (str []), .slice none 0 0] 66 (0, 0))) := by
    have l1 := vlt_blk HZ.out
    have z1 := (HB1.out.block q l1).trans HZ.out
    have z4 := (HF4.out.block q (vlt_blk z1) (by have := HP.out; omega)).trans z1
    exact (hb5.block q (vlt_blk z4)).trans z4
  have HBW5 : Hid (Below w.heap.size w W5) := by
    have k1 : Below w.heap.size w w1 := HB0.out.trans (HB1.out.mono HB0.out.size)
    have k2 : Below w.heap.size w w4 := k1.trans (HF4.out.below k1.size (fun k hk => by have := HP.out; have := HB0.out.size; omega))
    exact k2.trans (hb5.mono k2.size)
  obtain ⟨g, hg⟩ : ∃ g, w4.heap.size = g := ⟨_, rfl⟩
  have HGq : Hid (g ≠ q ∧ g ≠ p) := by
    have l1 := vlt_blk HZ.out
    have l2 := HB1.out.size
    have l3 := HF4.out.size
    have l4 := vlt_blk HR1.out
    have := HP.out
    exact ⟨by omega, by omega⟩
  rw [hg] at hbx ⊢
  have HBx : Hid (W5.heap[g]? = some (.cells #[.int .i64 0, .int .i64 0, .int .i64 (n0 : Int), .int .i64 (n1 : Int), .string t, .slice none 0 0] 66 (0, 0))) := hbx
  clear hW5 hbx hb5 hg
  obtain ⟨Wd, hWd⟩ : ∃ Wd, W5.drew = Wd := ⟨_, rfl⟩
  have bd : Below W5.heap.size W5 Wd := by rw [← hWd]; exact Below.drew (Below.refl _ _)
  have hBd : Wd.heap[g]? = some (.cells #[.int .i64 0, .int .i64 0, .int .i64 (n0 : Int), .int .i64 (n1 : Int), .string t, .slice none 0 0] 66 (0, 0)) := (bd.block g (vlt_blk HBx.out)).trans HBx.out
  have HZd : Hid (Wd.heap[q]? = some (.cells #[.int .i64 0, .int .i64 0, .int .i64 0, .int .i64 0, .string (str []), .slice none 0 0] 66 (0, 0))) := (bd.block q (vlt_blk HZ5.out)).trans HZ5.out
  have HRd : Hid (Rd Wd p s a2 e2) := Rd.below HR5.out bd
  have HBWd : Hid (Below w.heap.size w Wd) := HBW5.out.trans (bd.mono HBW5.out.size)
  obtain ⟨y0, y1, y2, y3, y4, y5⟩ := hbox6 hBd
  have HBxd : Hid (Wd.heap[g]? = some (.cells #[.int .i64 0, .int .i64 0, .int .i64 (n0 : Int), .int .i64 (n1 : Int), .string t, .slice none 0 0] 66 (0, 0))) := hBd
  refine wp_calmV ?_
  refine wp_region_L [] (fun w' : World => w'.cell? ⟨g, 0, none⟩ = some (.int .i64 0) ∧ w'.cell? ⟨g, 1, none⟩ = some (.int .i64 0) ∧ w'.cell? ⟨g, 2, none⟩ = some (.int .i64 (n0 : Int)) ∧ w'.cell? ⟨g, 3, none⟩ = some (.int .i64 (n1 : Int)) ∧ w'.cell? ⟨g, 4, none⟩ = some (.string t) ∧ w'.cell? ⟨g, 5, none⟩ = some (.slice none 0 0)) (by kernel_rfl) ?_
  rw [hWd]
  have hS : (fun w' : World => w'.cell? ⟨g, 0, none⟩ = some (.int .i64 0) ∧ w'.cell? ⟨g, 1, none⟩ = some (.int .i64 0) ∧ w'.cell? ⟨g, 2, none⟩ = some (.int .i64 (n0 : Int)) ∧ w'.cell? ⟨g, 3, none⟩ = some (.int .i64 (n1 : Int)) ∧ w'.cell? ⟨g, 4, none⟩ = some (.string t) ∧ w'.cell? ⟨g, 5, none⟩ = some (.slice none 0 0)) Wd := ⟨y0, y1, y2, y3, y4, y5⟩
  clear hWd bd hBd y0 y1 y2 y3 y4 y5
  refine wpAnyL_take (i := 0) 18 (v := .agg #[.int .i64 0, .int .i64 0, .int .i64 (n0 : Int), .int .i64 (n1 : Int), .string t, .slice none 0 0]) rfl rfl (by kernel_rfl) (by kernel_rfl) (by kernel_rfl) (by kernel_rfl) (by kernel_rfl) (by kernel_rfl) (fun _ _ _ h => h) hS (by rfl) (by intro w' hSw; obtain ⟨y0, y1, y2, y3, y4, y5⟩ := hSw; go_simp <;> with_reducible rfl) ?_
  simp only [Act.put, List.setIfInBounds_toArray, List.set_cons_zero, List.set_cons_succ]
  refine wpAnyL_take (i := 1) 19 (v := .pointer (some ⟨p, 0, none⟩)) rfl rfl (by kernel_rfl) (by kernel_rfl) (by kernel_rfl) (by kernel_rfl) (by kernel_rfl) (by kernel_rfl) (fun _ _ _ h => h) hS (by rfl) (by intro w' hSw; obtain ⟨y0, y1, y2, y3, y4, y5⟩ := hSw; go_simp <;> with_reducible rfl) ?_
  simp only [Act.put, List.setIfInBounds_toArray, List.set_cons_zero, List.set_cons_succ]
  refine wpAnyL_one (i := 2) (by kernel_rfl) rfl (fun Ka hKa => ?_)
  go_simp
  refine Calls.mono (rend_any HRd.out HS.out HA2.out) ?_
  rintro r w6 ⟨rfl, -, hf6⟩
  rw [HZE.out]
  have hB6 : w6.heap[g]? = some (.cells #[.int .i64 0, .int .i64 0, .int .i64 (n0 : Int), .int .i64 (n1 : Int), .string t, .slice none 0 0] 66 (0, 0)) := (hf6.block g (vlt_blk HBxd.out) HGq.out.2).trans HBxd.out
  have HZ6 : Hid (w6.heap[q]? = some (.cells #[.int .i64 0, .int .i64 0, .int .i64 0, .int .i64 0, .string (str []), .slice none 0 0] 66 (0, 0))) := (hf6.block q (vlt_blk HZd.out) (by have := HP.out; have := vlt_blk HZ.out; omega)).trans HZd.out
  have HBW6 : Hid (Below w.heap.size w w6) := HBWd.out.trans (hf6.below HBWd.out.size (fun k hk => by have := HP.out; have := HB0.out.size; omega))
  obtain ⟨y0, y1, y2, y3, y4, y5⟩ := hbox6 hB6
  have hS1 : (fun w' : World => w'.cell? ⟨g, 0, none⟩ = some (.int .i64 0) ∧ w'.cell? ⟨g, 1, none⟩ = some (.int .i64 0) ∧ w'.cell? ⟨g, 2, none⟩ = some (.int .i64 (n0 : Int)) ∧ w'.cell? ⟨g, 3, none⟩ = some (.int .i64 (n1 : Int)) ∧ w'.cell? ⟨g, 4, none⟩ = some (.string t) ∧ w'.cell? ⟨g, 5, none⟩ = some (.slice none 0 0)) w6 := ⟨y0, y1, y2, y3, y4, y5⟩
  refine hKa.out _ _ (fun _ => hS1) ?_
  clear hKa Ka hS hf6
  try simp only [Act.put, List.setIfInBounds_toArray, List.set_cons_zero, List.set_cons_succ]
  refine wpAnyL_take (i := 3) 21 (v := .bool (z == 0)) rfl rfl (by kernel_rfl) (by kernel_rfl) (by kernel_rfl) (by kernel_rfl) (by kernel_rfl) (by kernel_rfl) (fun _ _ _ h => h) hS1 (by rfl) (by intro w' hSw; obtain ⟨y0, y1, y2, y3, y4, y5⟩ := hSw; go_simp <;> with_reducible rfl) ?_
  simp only [Act.put, List.setIfInBounds_toArray, List.set_cons_zero, List.set_cons_succ]
  refine wpAnyL_one (i := 4) (by kernel_rfl) rfl (fun Ka hKa => ?_)
  refine wp_store_row 66 _ _ rfl q #[.int .i64 0, .int .i64 0, .int .i64 (n0 : Int), .int .i64 (n1 : Int), .string t, .slice none 0 0] rfl rfl 66 #[.int .i64 0, .int .i64 0, .int .i64 0, .int .i64 0, .string (str []), .slice none 0 0] HZ6.out size_hard rfl (by simp [Value.oneCell']) ?_
  have f7 := vfr_setRow w6 q #[.int .i64 0, .int .i64 0, .int .i64 (n0 : Int), .int .i64 (n1 : Int), .string t, .slice none 0 0]
  have hB7 : (w6.setRow q #[.int .i64 0, .int .i64 0, .int .i64 (n0 : Int), .int .i64 (n1 : Int), .string t, .slice none 0 0]).heap[g]? = some (.cells #[.int .i64 0, .int .i64 0, .int .i64 (n0 : Int), .int .i64 (n1 : Int), .string t, .slice none 0 0] 66 (0, 0)) := (f7.block g (vlt_blk hB6) HGq.out.1).trans hB6
  obtain ⟨x0, x1, x2, x3, x4, x5⟩ := hbox6 hB7
  refine hKa.out _ _ (fun _ => ⟨x0, x1, x2, x3, x4, x5⟩) ?_
  have hS2 : (fun w' : World => w'.cell? ⟨g, 0, none⟩ = some (.int .i64 0) ∧ w'.cell? ⟨g, 1, none⟩ = some (.int .i64 0) ∧ w'.cell? ⟨g, 2, none⟩ = some (.int .i64 (n0 : Int)) ∧ w'.cell? ⟨g, 3, none⟩ = some (.int .i64 (n1 : Int)) ∧ w'.cell? ⟨g, 4, none⟩ = some (.string t) ∧ w'.cell? ⟨g, 5, none⟩ = some (.slice none 0 0)) (w6.setRow q #[.int .i64 0, .int .i64 0, .int .i64 (n0 : Int), .int .i64 (n1 : Int), .string t, .slice none 0 0]) := ⟨x0, x1, x2, x3, x4, x5⟩
  clear hKa Ka
  try simp only [Act.put, List.setIfInBounds_toArray, List.set_cons_zero, List.set_cons_succ]
  refine wpAnyL_one (i := 5) (by kernel_rfl) rfl (fun Ka hKa => ?_)
  go_simp
  refine hKa.out _ _ (fun _ => hS2) ?_
  clear hKa Ka
  try simp only [Act.put, List.setIfInBounds_toArray, List.set_cons_zero, List.set_cons_succ]
  refine wpAnyL_done (by kernel_rfl) ?_ _
  have HZ7 : Hid ((w6.setRow q #[.int .i64 0, .int .i64 0, .int .i64 (n0 : Int), .int .i64 (n1 : Int), .string t, .slice none 0 0]).heap[q]? = some (.cells #[.int .i64 0, .int .i64 0, .int .i64 (n0 : Int), .int .i64 (n1 : Int), .string t, .slice none 0 0] 66 (0, 0))) := setRow_heap _ _ _ _ _ _ HZ6.out
  have HB7 : Hid (Below w.heap.size w (w6.setRow q #[.int .i64 0, .int .i64 0, .int .i64 (n0 : Int), .int .i64 (n1 : Int), .string t, .slice none 0 0])) := HBW6.out.trans (f7.below HBW6.out.size (fun k hk => by have := HQ.out; omega))
  clear hS1 hS2 f7 hB7 x0 x1 x2 x3 x4 x5 y0 y1 y2 y3 y4 y5
  go_wp2
  refine bodyPost_ret (v := .tuple #[.agg #[.int .i64 0, .int .i64 0, .int .i64 (n0 : Int), .int .i64 (n1 : Int), .string t, .slice none 0 0], .bool (z == 0)]) (res_ctV Tryz.results83 _ _ q 66 _ (0, 0) _ rfl HZ7.out Tryz.underlying66 rfl size_hard) rfl ?_
  exact ⟨rfl, HB7.out⟩
end Go.Proofs.YtnhjflebaeokeaaGreat
end

section
/- rnode.takeRecord: the bytes of a record are read. -/
namespace Go.Proofs.YtnhjflebaeokeaaGreat
open Go.RowKit
attribute [local go_sem] Oper.semAt_some
theorem enc_take : ∀ (L : List Ent) (k : Nat), (L.flatMap enc).take (k * 2) = (L.take k).flatMap enc
  | [], k => by simp
  | e :: L, 0 => by simp
  | e :: L, k + 1 => by
    rw [List.flatMap_cons, List.take_succ_cons, List.flatMap_cons, ← enc_take L k]
    show List.take ((k + 1) * 2) ([.int .i64 e.v, .string e.s] ++ L.flatMap enc) = [.int .i64 e.v, .string e.s] ++ _
    rw [show (k + 1) * 2 = k * 2 + 1 + 1 by omega]
    rfl
theorem EnO.cut {w : World} {B n cap k : Nat} {ao : Option Addr} {L : List Ent} (h : EnO w B (.slice ao n cap) L) (hk : k ≤ L.length) : EnO w B (.slice ao k cap) (L.take k) := by
  have hl : (L.take k).length = k := by rw [List.length_take]; omega
  refine ⟨?_, ?_⟩
  · have := enc_len (L.take k)
    simpa using this
  · rcases h.2 with ⟨e, h0⟩ | ⟨g, c, cur, e, h3, h4, h5, h6, h7⟩
    · left
      injection e with e1 e2 e3
      subst e1 e3
      have : k = 0 := by omega
      subst this
      exact ⟨rfl, by simp⟩
    · right
      injection e with e1 e2 e3
      subst e1 e2 e3
      refine ⟨g, cap, cur, by rw [hl], h3, h4, by omega, h6, h7.1, ?_⟩
      rw [hl, ← enc_take L k, ← h7.2, List.take_take]
      congr 1
      omega
/-- While a record is read: the reader, the result's block, the box of what is kept. -/
structure TR (w W : World) (p r q : Nat) (lv0 : Value) (s : ByteArray) (a : Nat) (e : Int) (cs : Array Value) : Prop where
  rd : Rd W p s a e
  res : W.heap[r]? = some (.cells #[.int .i64 0, .int .i64 0, .int .i64 0, .int .i64 0, .string (str []), .slice none 0 0] 66 (0, 0))
  box : W.heap[q]? = some (.cells cs 66 (0, 0))
  fr : Fr w W (fun k => lv0.ownBlock = some k)
  wq : w.heap.size = q
  qr : q < r
  rp : r < p
section
variable {w W W' : World} {p r q : Nat} {lv0 : Value} {s : ByteArray} {a a' : Nat} {e e' : Int} {cs : Array Value}
theorem TR.read (h : TR w W p r q lv0 s a e cs) (hr : Rd W' p s a' e') (f : Fr W W' (fun k => k = p)) : TR w W' p r q lv0 s a' e' cs := by
  have h1 := h.wq
  have h2 := h.qr
  have h3 := h.rp
  exact ⟨hr, (f.block r (vlt_blk h.res) (by omega)).trans h.res, (f.block q (vlt_blk h.box) (by omega)).trans h.box, h.fr.trans f (fun k hk e => by omega), h1, h2, h3⟩
theorem TR.set (h : TR w W p r q lv0 s a e cs) (i : Nat) (v : Value) : TR w (W.setCell ⟨q, i, none⟩ v) p r q lv0 s a e (cs.setIfInBounds i v) := by
  have h1 := h.wq
  have h2 := h.qr
  have h3 := h.rp
  have f : Fr W (W.setCell ⟨q, i, none⟩ v) (fun k => k = q) := Fr.setCell (S := fun k => k = q) _ ⟨q, i, none⟩ _ rfl
  exact ⟨(f.block p (vlt_blk h.rd) (by omega)).trans h.rd, (f.block r (vlt_blk h.res) (by omega)).trans h.res, vblk_set v h.box, h.fr.trans f (fun k hk e => by omega), h1, h2, h3⟩
theorem TR.new (h : TR w W p r q lv0 s a e cs) (hb : Below W.heap.size W W') : TR w W' p r q lv0 s a e cs :=
  ⟨(hb.block p (vlt_blk h.rd)).trans h.rd, (hb.block r (vlt_blk h.res)).trans h.res, (hb.block q (vlt_blk h.box)).trans h.box, h.fr.trans (Fr.ofBelow hb (fun _ => False)) (fun _ _ h => h.elim), h.wq, h.qr, h.rp⟩
theorem TR.kept (h : TR w W p r q lv0 s a e cs) {v : Value} (f : Fr W W' (fun k => v.ownBlock = some k)) (hv : ∀ k, v.ownBlock = some k → k ≠ q ∧ k ≠ r ∧ k ≠ p ∧ (lv0.ownBlock = some k ∨ w.heap.size ≤ k)) : TR w W' p r q lv0 s a e cs := by
  refine ⟨(f.block p (vlt_blk h.rd) (fun e => (hv p e).2.2.1 rfl)).trans h.rd, (f.block r (vlt_blk h.res) (fun e => (hv r e).2.1 rfl)).trans h.res, (f.block q (vlt_blk h.box) (fun e => (hv q e).1 rfl)).trans h.box, h.fr.trans f (fun k hk e => ?_), h.wq, h.qr, h.rp⟩
  rcases (hv k e).2.2.2 with h | h
  · exact h
  · omega
end
set_option linter.unusedSimpArgs false in
set_option maxRecDepth 100000 in
set_option maxHeartbeats 4000000 in
theorem takeRec_ok {w : World} {B n0 n1 fm c a0 a1 a2 a3 aF : Nat} {e0 e1 e2 e3 eF : Int} {s : ByteArray} {R : List Ent} {lv0 : Value} (h : Hd) (hb0 : 0 ≤ h.bi) (hb1 : h.bi ≤ 2147483647) (hlen : h.log.length ≤ 1000) (hE : EnO w B lv0 h.log) (hs : s.size ≤ maxLen)
    (h0 : rdCount s 0 0 2147483647 = (n0, a0, e0)) (h1 : rdCount s a0 e0 2147483647 = (n1, a1, e1)) (h2 : rdCount s a1 e1 9223372036854775807 = (fm, a2, e2)) (hf1 : h.bi ≤ fm) (hf2 : (fm : Int) ≤ h.bi + h.log.length) (h3 : rdCount s a2 e2 1000 = (c, a3, e3)) (hF : rdVE s c a3 e3 (h.log.take (fm - h.bi.toNat)) = (R, aF, eF)) :
    Calls Tryz.prog 86 #[hdV h lv0, .string s] w fun r w' => ∃ v, r = .returned (.tuple #[hdV ⟨n0, n1, h.bi, h.bv, h.base, R⟩ v, .bool (rdEnd s aF eF == 0)]) ∧ EnO w' 0 v R ∧ (∀ k, v.ownBlock = some k → lv0.ownBlock = some k ∨ w.heap.size ≤ k) ∧ Fr w w' (fun k => lv0.ownBlock = some k) := by
  have G0 := (rdCount_to (most := 2147483647) (Nat.zero_le _) h0).1
  have G1 := (rdCount_to (most := 2147483647) G0 h1).1
  have G2 := (rdCount_to (most := 9223372036854775807) G1 h2).1
  have G3 := rdCount_to (most := 1000) G2 h3
  have HG : Hid (a0 ≤ s.size ∧ a1 ≤ s.size ∧ a2 ≤ s.size ∧ a3 ≤ s.size ∧ c ≤ 1000) := ⟨G0, G1, G2, G3.1, by have := G3.2.1; omega⟩
  have HGF : Hid (aF ≤ s.size) := vRd_le hF G3.1
  have H0 : Hid (rdCount s 0 0 2147483647 = (n0, a0, e0)) := h0
  have H1 : Hid (rdCount s a0 e0 2147483647 = (n1, a1, e1)) := h1
  have H2 : Hid (rdCount s a1 e1 9223372036854775807 = (fm, a2, e2)) := h2
  have H3 : Hid (rdCount s a2 e2 1000 = (c, a3, e3)) := h3
  have HS : Hid (s.size ≤ maxLen) := hs
  obtain ⟨vw, nm, bi, bv, base, L⟩ := h
  simp only at hb0 hb1 hlen hE hf1 hf2 hF
  simp only [hdV]
  obtain ⟨ao, cap, rfl, hcap, -⟩ := hE.shape
  obtain ⟨n, hn⟩ : ∃ n, L.length = n := ⟨_, rfl⟩
  have HN : Hid (L.length = n) := hn
  have HE : Hid (EnO w B (.slice ao n cap) L) := by rw [hn] at hE; exact hE
  have hao : (ao = none ∧ cap = 0) ∨ ∃ g, ao = some ⟨g, 0, none⟩ := by
    rcases hE.2 with ⟨e, -⟩ | ⟨g, cap', cur, e, -⟩
    · injection e with e1 e2 e3
      exact .inl ⟨e1, e3⟩
    · injection e with e1 e2 e3
      exact .inr ⟨g, e1⟩
  have HAo : Hid _ := hao
  clear hao
  rw [hn] at hlen hcap hf2 ⊢
  have HFF : Hid (rdVE s c a3 e3 (L.take (fm - bi.toNat)) = (R, aF, eF)) := hF
  obtain ⟨z, hz⟩ : ∃ z, rdEnd s aF eF = z := ⟨_, rfl⟩
  have HZE : Hid (rdEnd s aF eF = z) := hz
  rw [hz]
  clear h0 h1 h2 h3 hs hE hF hz hn G0 G1 G2 G3
  go_enter Tryz.func86, Tryz.ntmps86
  go_upto_region 1 with (fail)
  generalize hW : World.alloc _ _ = W
  have hZq : W.heap[w.heap.size]? = some (.cells #[.int .i64 vw, .int .i64 nm, .int .i64 bi, .int .i64 bv, .string base, .slice ao n cap] 66 (0, 0)) := by rw [← hW]; exact (heap_alloc_old _ _ (by simp)).trans (heap_alloc_new _ _)
  have hZr : W.heap[w.heap.size + 1]? = some (.cells #[.int .i64 0, .int .i64 0, .int .i64 0, .int .i64 0, .string (str []), .slice none 0 0] 66 (0, 0)) := by
    rw [← hW]
    have := heap_alloc_new (w.alloc (.cells #[.int .i64 vw, .int .i64 nm, .int .i64 bi, .int .i64 bv, .string base, .slice ao n cap] 66)) (.cells #[.int .i64 0, .int .i64 0, .int .i64 0, .int .i64 0, .string (str []), .slice none 0 0] 66)
    rw [World.size_alloc] at this
    exact this
  have hbW : Below w.heap.size w W := by rw [← hW]; exact (vone_new _ _).trans ((vone_new _ _).mono (by simp))
  obtain ⟨q, hq⟩ : ∃ q, w.heap.size = q := ⟨_, rfl⟩
  have HQ : Hid (w.heap.size = q) := hq
  rw [hq] at hZq hZr ⊢
  obtain ⟨r, hr⟩ : ∃ r, q + 1 = r := ⟨_, rfl⟩
  have HRq : Hid (q + 1 = r) := hr
  rw [hr] at hZr ⊢
  have HZq : Hid _ := hZq
  have HZr : Hid _ := hZr
  have HBW : Hid (Below w.heap.size w W) := hbW
  clear hW hZq hZr hbW hq hr
  go_upto_region 2 with (go_at_call 118; refine (newreader_any s _).mono ?_; rintro rr w1 ⟨rfl, hr1, hb1⟩)
  obtain ⟨p, hp⟩ : ∃ p, W.heap.size = p := ⟨_, rfl⟩
  have T1 : Hid (TR w w1 p r q (.slice ao n cap) s 0 0 #[.int .i64 vw, .int .i64 nm, .int .i64 bi, .int .i64 bv, .string base, .slice ao n cap]) := by
    have l1 := vlt_blk HZr.out
    refine ⟨by rw [← hp]; exact hr1, (hb1.block r l1).trans HZr.out, (hb1.block q (vlt_blk HZq.out)).trans HZq.out, ?_, HQ.out, by have := HRq.out; omega, by omega⟩
    exact Fr.ofBelow (HBW.out.trans (hb1.mono HBW.out.size)) _
  rw [hp] at ⊢
  have HPW : Hid (W.heap.size = p) := hp
  have HOw : Hid (∀ k, (Value.slice ao n cap).ownBlock = some k → k ≠ q ∧ k ≠ r ∧ k ≠ p ∧ ((Value.slice ao n cap).ownBlock = some k ∨ w.heap.size ≤ k)) := fun k hk => by
    obtain ⟨_, c', f', hm⟩ := vrow_tag HE.out hk
    have l1 := vlt_blk hm
    have := HQ.out
    have := HRq.out
    have := T1.out.rp
    exact ⟨by omega, by omega, by omega, .inl hk⟩
  have E1 : Hid (EnO w1 B (.slice ao n cap) L) := (HE.out.new HBW.out).new hb1
  clear hr1 hb1 hp
  obtain ⟨x0, x1, x2, x3, x4, x5⟩ := hbox6 T1.out.box
  have f0 := vfree T1.out.box 0
  have f1 := vfree T1.out.box 1
  have tk1 : Hid True := trivial
  go_upto_region 3 with (go_at_call 119; first
    | (have _t := tk1; refine (rct_most T1.out.rd HS.out (Nat.zero_le _) H0.out).mono ?_; rintro rr w2 ⟨rfl, hr2, hf2⟩; have T2 : Hid (TR w w2 p r q (.slice ao n cap) s a0 e0 #[.int .i64 vw, .int .i64 nm, .int .i64 bi, .int .i64 bv, .string base, .slice ao n cap]) := T1.out.read hr2 hf2; have E2 : Hid (EnO w2 B (.slice ao n cap) L) := E1.out.kept hf2 (fun k hk e => (HOw.out k hk).2.2.1 e); clear hr2 hf2 tk1)
    | (refine (rct_most T2.out.rd HS.out HG.out.1 H1.out).mono ?_; rintro rr w3 ⟨rfl, hr3, hf3⟩; have T3 : Hid (TR w w3 p r q (.slice ao n cap) s a1 e1 #[.int .i64 vw, .int .i64 nm, .int .i64 bi, .int .i64 bv, .string base, .slice ao n cap]) := T2.out.read hr3 hf3; obtain ⟨u0, u1, u2, u3, u4, u5⟩ := hbox6 T3.out.box; have g0 := vfree T3.out.box 0; have g1 := vfree T3.out.box 1; have E3 : Hid (EnO w3 B (.slice ao n cap) L) := E2.out.kept hf3 (fun k hk e => (HOw.out k hk).2.2.1 e); clear hr3 hf3))
  generalize hW4 : World.setCell _ _ _ = W4
  have T4 : Hid (TR w W4 p r q (.slice ao n cap) s a1 e1 #[.int .i64 (n0 : Int), .int .i64 (n1 : Int), .int .i64 bi, .int .i64 bv, .string base, .slice ao n cap]) := by rw [← hW4]; exact (T3.out.set 0 _).set 1 _
  have E4 : Hid (EnO W4 B (.slice ao n cap) L) := by
    rw [← hW4]
    have k1 := E3.out.kept (Fr.setCell (S := fun k => k = q) _ ⟨q, 0, none⟩ (.int .i64 (n0 : Int)) rfl) (fun k hk e => (HOw.out k hk).1 e)
    exact k1.kept (Fr.setCell (S := fun k => k = q) _ ⟨q, 1, none⟩ _ rfl) (fun k hk e => (HOw.out k hk).1 e)
  clear hW4 T1 T2 T3 E1 E2 E3 x0 x1 x2 x3 x4 x5 f0 f1 u0 u1 u2 u3 u4 u5 g0 g1
  have HCt : Hid (Calls Tryz.prog 119 #[.pointer (some ⟨p, 0, none⟩), .int .i64 9223372036854775807] W4 fun r w' => r = .returned (.int .i64 fm) ∧ Rd w' p s a2 e2 ∧ Fr W4 w' (fun k => k = p)) := by
    have := rcount_any (most := 9223372036854775807) T4.out.rd HS.out HG.out.2.1 (by decide)
    rw [H2.out] at this
    exact this
  go_upto_region 4 with (go_at_call 119; refine HCt.out.mono ?_; rintro rr w5 ⟨rfl, hr5, hf5⟩; have T5 : Hid (TR w w5 p r q (.slice ao n cap) s a2 e2 #[.int .i64 (n0 : Int), .int .i64 (n1 : Int), .int .i64 bi, .int .i64 bv, .string base, .slice ao n cap]) := T4.out.read hr5 hf5; have E5 : Hid (EnO w5 B (.slice ao n cap) L) := E4.out.kept hf5 (fun k hk e => (HOw.out k hk).2.2.1 e); clear hr5 hf5)
  obtain ⟨x0, x1, x2, x3, x4, x5⟩ := hbox6 T5.out.box
  have f5 := vfree T5.out.box 5
  obtain ⟨m, hm⟩ : ∃ m : Nat, fm - bi.toNat = m := ⟨_, rfl⟩
  have hmI : (fm : Int) - bi = m := by omega
  have hmn : m ≤ n := by omega
  have hmc : (m : Int) ≤ cap := by omega
  have hm0 : (0 : Int) ≤ m := by omega
  rw [hm] at HFF
  have HEc : Hid (EnO w5 B (.slice ao m cap) (L.take m)) := E5.out.cut (by have := HN.out; omega)
  clear hm HCt T4 E4
  have HOm : Hid (∀ k, (Value.slice ao m cap).ownBlock = some k → k ≠ q ∧ k ≠ r ∧ k ≠ p ∧ ((Value.slice ao n cap).ownBlock = some k ∨ w.heap.size ≤ k)) := fun k hk => HOw.out k (by cases ao with | none => cases hk | some a => exact hk)
  have k1 : ¬ (fm : Int) < bi := by omega
  have k2 : ¬ bi + (n : Int) < fm := by omega
  have k3 : (fm : Int) ≤ bi + n := by omega
  have k4 : bi ≤ (fm : Int) := by omega
  go_upto_region 6 with (fail)
  go_cut [] (fun wx => TR w wx p r q (.slice ao n cap) s a2 e2 #[.int .i64 (n0 : Int), .int .i64 (n1 : Int), .int .i64 bi, .int .i64 bv, .string base, .slice ao m cap] ∧ EnO wx B (.slice ao m cap) (L.take m))
  case first =>
    rcases HAo.out with ⟨rfl, rfl⟩ | ⟨g, rfl⟩
    · have hm' : m = 0 := by omega
      have hn' : n = 0 := by omega
      subst hm'
      subst hn'
      go_wp2
      go_meet
      exact ⟨T5.out.set 5 _, HEc.out.kept (Fr.setCell (S := fun k => k = q) _ ⟨q, 5, none⟩ _ rfl) (fun k hk e => (HOm.out k hk).1 e)⟩
    · by_cases hc0 : cap = 0
      · have hm' : m = 0 := by omega
        have hn' : n = 0 := by omega
        subst hc0
        subst hm'
        subst hn'
        go_wp2
        go_meet
        exact ⟨T5.out.set 5 _, HEc.out.kept (Fr.setCell (S := fun k => k = q) _ ⟨q, 5, none⟩ _ rfl) (fun k hk e => (HOm.out k hk).1 e)⟩
      · go_wp2
        go_meet
        exact ⟨T5.out.set 5 _, HEc.out.kept (Fr.setCell (S := fun k => k = q) _ ⟨q, 5, none⟩ _ rfl) (fun k hk e => (HOm.out k hk).1 e)⟩
  case rest =>
    obtain ⟨hT, hE6⟩ := hcut
    have TA : Hid (TR w wc p r q (.slice ao n cap) s a2 e2 #[.int .i64 (n0 : Int), .int .i64 (n1 : Int), .int .i64 bi, .int .i64 bv, .string base, .slice ao m cap]) := hT
    have EA : Hid (EnO wc B (.slice ao m cap) (L.take m)) := hE6
    clear hT hE6 HEc E5 T5 x0 x1 x2 x3 x4 x5 f5 k1 k2 k3 k4 hmI hmc hm0
    have HLm : Hid ((L.take m).length = m) := by show _ = _; rw [List.length_take]; have := HN.out; omega
    obtain ⟨X, hX⟩ : ∃ X, L.take m = X := ⟨_, rfl⟩
    rw [hX] at EA HFF HLm
    clear hX
    go_upto_block 0 with (go_at_call 119; refine (rct_k TA.out.rd HS.out HG.out.2.2.1 H3.out).mono ?_; rintro rr w6 ⟨rfl, hr6, hf6⟩; have TB : Hid (TR w w6 p r q (.slice ao n cap) s a3 e3 #[.int .i64 (n0 : Int), .int .i64 (n1 : Int), .int .i64 bi, .int .i64 bv, .string base, .slice ao m cap]) := TA.out.read hr6 hf6; have EB : Hid (EnO w6 0 (.slice ao m cap) X) := (EA.out.kept hf6 (fun k hk e => (HOm.out k hk).2.2.1 e)).low (Nat.zero_le _); clear hr6 hf6)
    clear TA EA
    go_cut [43] (fun _ wx => ∃ v, TR w wx p r q (.slice ao n cap) s aF eF #[.int .i64 (n0 : Int), .int .i64 (n1 : Int), .int .i64 bi, .int .i64 bv, .string base, v] ∧ EnO wx 0 v R ∧ ∀ k, v.ownBlock = some k → k ≠ q ∧ k ≠ r ∧ k ≠ p ∧ ((Value.slice ao n cap).ownBlock = some k ∨ w.heap.size ≤ k))
    case first =>
      go_wp2
      go_loopw [43] (fun i wr => ∃ (j aa : Nat) (ee : Int) (v : Value) (L0 : List Ent), j ≤ c ∧ i = .int .i64 j ∧ TR w wr p r q (.slice ao n cap) s aa ee #[.int .i64 (n0 : Int), .int .i64 (n1 : Int), .int .i64 bi, .int .i64 bv, .string base, v] ∧ EnO wr 0 v L0 ∧ (∀ k, v.ownBlock = some k → k ≠ q ∧ k ≠ r ∧ k ≠ p ∧ ((Value.slice ao n cap).ownBlock = some k ∨ w.heap.size ≤ k)) ∧ rdVE s (c - j) aa ee L0 = (R, aF, eF) ∧ aa ≤ s.size ∧ L0.length = m + j) (fun i _ => c - (intOf i).toNat)
      case atStart => exact ⟨0, a3, e3, _, X, Nat.zero_le _, rfl, TB.out, EB.out, HOm.out, HFF.out, HG.out.2.2.2.1, HLm.out⟩
      case round =>
        obtain ⟨j, aa, ee, v, L0, hj, rfl, hT, hE, hO, hV, hA, hl⟩ := hrel
        by_cases hlt : j < c
        · obtain ⟨vo, vc, rfl, -, -⟩ := hE.shape
          obtain ⟨m0, hm0⟩ : ∃ m0, m + j = m0 := ⟨_, rfl⟩
          rw [hm0] at hl
          rw [hl] at hT hE hO
          obtain ⟨⟨m1, b1, d1⟩, g1⟩ : ∃ z, rdCount s aa ee 2147483647 = z := ⟨_, rfl⟩
          obtain ⟨⟨m2, b2, d2⟩, g2⟩ : ∃ z, rdText s b1 d1 = z := ⟨_, rfl⟩
          have hb1 := (rdCount_to (most := 2147483647) hA g1).1
          have hb2 := rdText_leV hb1 g2
          have HV2 : Hid (rdVE s (c - (j + 1)) b2 d2 (L0 ++ [okE m1 m2 d2]) = (R, aF, eF)) := by
            show _ = _
            rw [← hV, show c - j = (c - (j + 1)) + 1 by omega, rdVE_step g1 g2]
          have HTk : Hid (∀ W, Rd W p s aa ee → Calls Tryz.prog 123 #[.pointer (some ⟨p, 0, none⟩)] W fun r w' => r = .returned (.agg #[.int .i64 (okE m1 m2 d2).v, .string (okE m1 m2 d2).s]) ∧ Rd w' p s b2 d2 ∧ Fr W w' (fun k => k = p)) := fun W h => takeE_any h HS.out hA g1 g2
          generalize okE m1 m2 d2 = y at HV2 HTk
          have HJ : Hid (j + 1 ≤ c) := hlt
          have hcI : (c : Int) ≤ 1000 := by have := HG.out.2.2.2.2; omega
          have hjI : (j : Int) < c := by omega
          have hj0 : (0 : Int) ≤ j := by omega
          have HT : Hid (TR w wr p r q (.slice ao n cap) s aa ee #[.int .i64 (n0 : Int), .int .i64 (n1 : Int), .int .i64 bi, .int .i64 bv, .string base, .slice vo m0 vc]) := hT
          have HE' : Hid (EnO wr 0 (.slice vo m0 vc) L0) := hE
          have HO : Hid (∀ k, (Value.slice vo m0 vc).ownBlock = some k → k ≠ q ∧ k ≠ r ∧ k ≠ p ∧ ((Value.slice ao n cap).ownBlock = some k ∨ w.heap.size ≤ k)) := hO
          have HB2 : Hid (b2 ≤ s.size) := hb2
          have HL0 : Hid (L0.length = m0 ∧ m + j = m0 ∧ m0 ≤ 3000) := ⟨hl, hm0, by have := HG.out.2.2.2.2; omega⟩
          clear hT hE hO hV hA hb1 hb2 g1 g2 hl hm0
          go_upto_region 9 with (fail)
          obtain ⟨Wd, hWd⟩ : ∃ Wd, wr.drew = Wd := ⟨_, rfl⟩
          have bd : Below wr.heap.size wr Wd := by rw [← hWd]; exact Below.drew (Below.refl _ _)
          have TD : Hid (TR w Wd p r q (.slice ao n cap) s aa ee #[.int .i64 (n0 : Int), .int .i64 (n1 : Int), .int .i64 bi, .int .i64 bv, .string base, .slice vo m0 vc]) := HT.out.new bd
          have ED : Hid (EnO Wd 0 (.slice vo m0 vc) L0) := HE'.out.new bd
          obtain ⟨_, _, _, _, _, x5⟩ := hbox6 TD.out.box
          clear bd HT HE'
          refine wp_calmV ?_
          refine wp_region_L [7] (fun w' : World => w'.cell? ⟨q, 5, none⟩ = some (.slice vo m0 vc)) (by kernel_rfl) ?_
          rw [hWd]
          clear hWd
          have hS : (fun w' : World => w'.cell? ⟨q, 5, none⟩ = some (.slice vo m0 vc)) Wd := x5
          refine wpAnyL_take (i := 0) 45 (v := .pointer (some ⟨q, 5, none⟩)) rfl rfl (by kernel_rfl) (by kernel_rfl) (by kernel_rfl) (by kernel_rfl) (by kernel_rfl) (by kernel_rfl) (fun _ _ _ h => h) hS (by rfl) (by intro w' hSw; have y0 := hSw; go_simp <;> with_reducible rfl) ?_
          simp only [Act.put, List.setIfInBounds_toArray, List.set_cons_zero, List.set_cons_succ]
          refine wpAnyL_take (i := 1) 46 (v := .slice vo m0 vc) rfl rfl (by kernel_rfl) (by kernel_rfl) (by kernel_rfl) (by kernel_rfl) (by kernel_rfl) (by kernel_rfl) (fun _ _ _ h => h) hS (by rfl) (by intro w' hSw; have y0 := hSw; go_simp <;> with_reducible rfl) ?_
          simp only [Act.put, List.setIfInBounds_toArray, List.set_cons_zero, List.set_cons_succ]
          refine wpAnyL_take (i := 2) 47 (v := .pointer (some ⟨p, 0, none⟩)) rfl rfl (by kernel_rfl) (by kernel_rfl) (by kernel_rfl) (by kernel_rfl) (by kernel_rfl) (by kernel_rfl) (fun _ _ _ h => h) hS (by rfl) (by intro w' hSw; have y0 := hSw; go_simp <;> with_reducible rfl) ?_
          simp only [Act.put, List.setIfInBounds_toArray, List.set_cons_zero, List.set_cons_succ]
          refine wpAnyL_one (i := 3) (by kernel_rfl) rfl (fun Ka hKa => ?_)
          go_simp
          refine Calls.mono (HTk.out _ TD.out.rd) ?_
          rintro rr w3 ⟨rfl, hr3, hf3⟩
          have T3 : Hid (TR w w3 p r q (.slice ao n cap) s b2 d2 #[.int .i64 (n0 : Int), .int .i64 (n1 : Int), .int .i64 bi, .int .i64 bv, .string base, .slice vo m0 vc]) := TD.out.read hr3 hf3
          have E3 : Hid (EnO w3 0 (.slice vo m0 vc) L0) := ED.out.kept hf3 (fun k hk e => (HO.out k hk).2.2.1 e)
          obtain ⟨_, _, _, _, _, y5⟩ := hbox6 T3.out.box
          refine hKa.out _ _ (fun _ => y5) ?_
          clear hKa Ka hr3 hf3 hS x5
          try simp only [Act.put, List.setIfInBounds_toArray, List.set_cons_zero, List.set_cons_succ]
          refine wpAnyL_one (i := 4) (by kernel_rfl) rfl (fun Ka hKa => ?_)
          go_simp
          obtain ⟨V0, hV0⟩ : ∃ V0, w3.alloc (.cells #[.int .i64 y.v, .string y.s] 106) = V0 := ⟨_, rfl⟩
          have b4 : Below w3.heap.size w3 V0 := by rw [← hV0]; exact vone_new _ _
          have hSr : V0.heap[w3.heap.size]? = some (.cells #[.int .i64 y.v, .string y.s] 106 (0, 0)) := by rw [← hV0]; exact heap_alloc_new _ _
          have HSrc : Hid (EnS V0 (.slice (some ⟨w3.heap.size, 0, none⟩) 1 1) [y]) := by
            refine ⟨_, 1, rfl, Nat.le_refl _, fun _ => ⟨w3.heap.size, 0, rfl, fun j hj => ?_⟩⟩
            obtain rfl : j = 0 := by simpa using hj
            exact ⟨vcell_blk hSr, vcell_blk hSr⟩
          have T4' : Hid (TR w V0 p r q (.slice ao n cap) s b2 d2 #[.int .i64 (n0 : Int), .int .i64 (n1 : Int), .int .i64 bi, .int .i64 bv, .string base, .slice vo m0 vc]) := T3.out.new b4
          have E4 : Hid (EnO V0 0 (.slice vo m0 vc) L0) := E3.out.new b4
          have HVs : Hid (w.heap.size ≤ V0.heap.size ∧ q < V0.heap.size ∧ r < V0.heap.size ∧ p < V0.heap.size) := ⟨T4'.out.fr.size, vlt_blk T4'.out.box, vlt_blk T4'.out.res, vlt_blk T4'.out.rd⟩
          obtain ⟨_, _, _, _, _, z5⟩ := hbox6 T4'.out.box
          rw [hV0]
          refine hKa.out _ _ (fun _ => z5) ?_
          clear hKa Ka hV0 b4 hSr y5
          try simp only [Act.put, List.setIfInBounds_toArray, List.set_cons_zero, List.set_cons_succ]
          refine wpAnyL_one (i := 5) (by kernel_rfl) rfl (fun Ka hKa => ?_)
          refine stp_appV rfl (.tmp 46) (.tmp 49) rfl (R := L0) (S := [y]) rfl rfl E4.out HSrc.out (by have := HL0.out; simp; omega) (Nat.zero_le _) ?_
          intro v1 w5' hE5 hF5 hX5
          obtain ⟨a1', c1', ev1, -, -⟩ := hE5.shape
          rw [List.length_append, HL0.out.1] at ev1
          rw [show m0 + ([y] : List Ent).length = m0 + 1 from rfl] at ev1
          subst ev1
          have T5' : Hid (TR w w5' p r q (.slice ao n cap) s b2 d2 #[.int .i64 (n0 : Int), .int .i64 (n1 : Int), .int .i64 bi, .int .i64 bv, .string base, .slice vo m0 vc]) := T4'.out.kept hF5 HO.out
          have hbx := T5'.out.box
          obtain ⟨_, _, _, _, _, u5⟩ := hbox6 hbx
          have fz5 := vfree hbx 5
          refine hKa.out _ _ (fun _ => u5) ?_
          have HE5 : Hid (EnO w5' 0 (.slice a1' (m0 + 1) c1') (L0 ++ [y])) := hE5
          have HX5 : Hid (∀ k, (Value.slice a1' (m0 + 1) c1').ownBlock = some k → k ≠ q ∧ k ≠ r ∧ k ≠ p ∧ ((Value.slice ao n cap).ownBlock = some k ∨ w.heap.size ≤ k)) := fun k hk => by
            rcases hX5 k hk with h | h
            · exact HO.out k h
            · have := HVs.out
              exact ⟨by omega, by omega, by omega, .inr (by omega)⟩
          clear hKa Ka hE5 hF5 hX5 hbx z5
          try simp only [Act.put, List.setIfInBounds_toArray, List.set_cons_zero, List.set_cons_succ]
          refine wpAnyL_one (i := 6) (by kernel_rfl) rfl (fun Ka hKa => ?_)
          go_simp
          refine hKa.out _ _ (fun _ => u5) ?_
          clear hKa Ka
          try simp only [Act.put, List.setIfInBounds_toArray, List.set_cons_zero, List.set_cons_succ]
          refine wpAnyL_one (i := 7) (by kernel_rfl) rfl (fun Ka hKa => ?_)
          go_simp
          refine hKa.out _ _ (fun h => absurd h (Bool.eq_false_iff.1 (by kernel_rfl))) ?_
          clear hKa Ka
          refine wpAnyL_done (by kernel_rfl) ?_ _
          generalize hW6 : World.setCell _ _ _ = W6
          have T6' : Hid (TR w W6 p r q (.slice ao n cap) s b2 d2 #[.int .i64 (n0 : Int), .int .i64 (n1 : Int), .int .i64 bi, .int .i64 bv, .string base, (.slice a1' (m0 + 1) c1')]) := by rw [← hW6]; exact T5'.out.set 5 _
          have E6 : Hid (EnO W6 0 (.slice a1' (m0 + 1) c1') (L0 ++ [y])) := by
            rw [← hW6]
            exact HE5.out.kept (Fr.setCell (S := fun k => k = q) _ ⟨q, 5, none⟩ _ rfl) (fun k hk e => (HX5.out k hk).1 e)
          clear hW6 u5 fz5 T5' HE5
          go_wp2
          go_roundw
          case rel => exact ⟨j + 1, b2, d2, _, L0 ++ [y], HJ.out, by go_num, T6'.out, E6.out, HX5.out, HV2.out, HB2.out, by have := HL0.out; rw [List.length_append]; simp; omega⟩
          case measure => have := HJ.out; simp [intOf]; omega
        · obtain rfl : j = c := by omega
          rw [Nat.sub_self] at hV
          simp only [rdVE, Prod.mk.injEq] at hV
          obtain ⟨rfl, rfl, rfl⟩ := hV
          have HT : Hid (TR w wr p r q (.slice ao n cap) s aa ee #[.int .i64 (n0 : Int), .int .i64 (n1 : Int), .int .i64 bi, .int .i64 bv, .string base, v]) := hT
          have HE' : Hid (EnO wr 0 v L0) := hE
          have HO : Hid (∀ k, v.ownBlock = some k → k ≠ q ∧ k ≠ r ∧ k ≠ p ∧ ((Value.slice ao n cap).ownBlock = some k ∨ w.heap.size ≤ k)) := hO
          clear hT hE hO
          go_wp2
          go_meet
          exact ⟨v, HT.out, HE'.out, HO.out⟩
    case rest =>
      obtain ⟨v, hT, hE7, hO7⟩ := hcut
      obtain ⟨vo7, vc7, rfl, -, -⟩ := hE7.shape
      have T7 : Hid (TR w wc p r q (.slice ao n cap) s aF eF #[.int .i64 (n0 : Int), .int .i64 (n1 : Int), .int .i64 bi, .int .i64 bv, .string base, (.slice vo7 R.length vc7)]) := hT
      have E7 : Hid (EnO wc 0 (.slice vo7 R.length vc7) R) := hE7
      have O7 : Hid (∀ k, ((.slice vo7 R.length vc7) : Value).ownBlock = some k → k ≠ q ∧ k ≠ r ∧ k ≠ p ∧ ((Value.slice ao n cap).ownBlock = some k ∨ w.heap.size ≤ k)) := hO7
      clear hT hE7 hO7 TB EB
      go_upto_region 11 with (fail)
      obtain ⟨Wd, hWd⟩ : ∃ Wd, wc.drew = Wd := ⟨_, rfl⟩
      have bd : Below wc.heap.size wc Wd := by rw [← hWd]; exact Below.drew (Below.refl _ _)
      have TD : Hid (TR w Wd p r q (.slice ao n cap) s aF eF #[.int .i64 (n0 : Int), .int .i64 (n1 : Int), .int .i64 bi, .int .i64 bv, .string base, (.slice vo7 R.length vc7)]) := T7.out.new bd
      have ED : Hid (EnO Wd 0 (.slice vo7 R.length vc7) R) := E7.out.new bd
      obtain ⟨y0, y1, y2, y3, y4, y5⟩ := hbox6 TD.out.box
      clear bd T7 E7
      refine wp_calmV ?_
      refine wp_region_L [] (fun w' : World => w'.cell? ⟨q, 0, none⟩ = some (.int .i64 (n0 : Int)) ∧ w'.cell? ⟨q, 1, none⟩ = some (.int .i64 (n1 : Int)) ∧ w'.cell? ⟨q, 2, none⟩ = some (.int .i64 bi) ∧ w'.cell? ⟨q, 3, none⟩ = some (.int .i64 bv) ∧ w'.cell? ⟨q, 4, none⟩ = some (.string base) ∧ w'.cell? ⟨q, 5, none⟩ = some ((.slice vo7 R.length vc7))) (by kernel_rfl) ?_
      rw [hWd]
      clear hWd
      have hS : (fun w' : World => w'.cell? ⟨q, 0, none⟩ = some (.int .i64 (n0 : Int)) ∧ w'.cell? ⟨q, 1, none⟩ = some (.int .i64 (n1 : Int)) ∧ w'.cell? ⟨q, 2, none⟩ = some (.int .i64 bi) ∧ w'.cell? ⟨q, 3, none⟩ = some (.int .i64 bv) ∧ w'.cell? ⟨q, 4, none⟩ = some (.string base) ∧ w'.cell? ⟨q, 5, none⟩ = some ((.slice vo7 R.length vc7))) Wd := ⟨y0, y1, y2, y3, y4, y5⟩
      refine wpAnyL_take (i := 0) 53 (v := .agg #[.int .i64 (n0 : Int), .int .i64 (n1 : Int), .int .i64 bi, .int .i64 bv, .string base, (.slice vo7 R.length vc7)]) rfl rfl (by kernel_rfl) (by kernel_rfl) (by kernel_rfl) (by kernel_rfl) (by kernel_rfl) (by kernel_rfl) (fun _ _ _ h => h) hS (by rfl) (by intro w' hSw; obtain ⟨y0, y1, y2, y3, y4, y5⟩ := hSw; go_simp <;> with_reducible rfl) ?_
      simp only [Act.put, List.setIfInBounds_toArray, List.set_cons_zero, List.set_cons_succ]
      refine wpAnyL_take (i := 1) 54 (v := .pointer (some ⟨p, 0, none⟩)) rfl rfl (by kernel_rfl) (by kernel_rfl) (by kernel_rfl) (by kernel_rfl) (by kernel_rfl) (by kernel_rfl) (fun _ _ _ h => h) hS (by rfl) (by intro w' hSw; obtain ⟨y0, y1, y2, y3, y4, y5⟩ := hSw; go_simp <;> with_reducible rfl) ?_
      simp only [Act.put, List.setIfInBounds_toArray, List.set_cons_zero, List.set_cons_succ]
      refine wpAnyL_one (i := 2) (by kernel_rfl) rfl (fun Ka hKa => ?_)
      go_simp
      refine Calls.mono (rend_any TD.out.rd HS.out HGF.out) ?_
      rintro rr w8 ⟨rfl, hr8, hf8⟩
      rw [HZE.out] at hr8 ⊢
      have T8 : Hid (TR w w8 p r q (.slice ao n cap) s aF z #[.int .i64 (n0 : Int), .int .i64 (n1 : Int), .int .i64 bi, .int .i64 bv, .string base, (.slice vo7 R.length vc7)]) := TD.out.read hr8 hf8
      have E8 : Hid (EnO w8 0 (.slice vo7 R.length vc7) R) := ED.out.kept hf8 (fun k hk e => (O7.out k hk).2.2.1 e)
      obtain ⟨u0, u1, u2, u3, u4, u5⟩ := hbox6 T8.out.box
      have hS1 : (fun w' : World => w'.cell? ⟨q, 0, none⟩ = some (.int .i64 (n0 : Int)) ∧ w'.cell? ⟨q, 1, none⟩ = some (.int .i64 (n1 : Int)) ∧ w'.cell? ⟨q, 2, none⟩ = some (.int .i64 bi) ∧ w'.cell? ⟨q, 3, none⟩ = some (.int .i64 bv) ∧ w'.cell? ⟨q, 4, none⟩ = some (.string base) ∧ w'.cell? ⟨q, 5, none⟩ = some ((.slice vo7 R.length vc7))) w8 := ⟨u0, u1, u2, u3, u4, u5⟩
      refine hKa.out _ _ (fun _ => hS1) ?_
      clear hKa Ka hS hr8 hf8 y0 y1 y2 y3 y4 y5
      try simp only [Act.put, List.setIfInBounds_toArray, List.set_cons_zero, List.set_cons_succ]
      refine wpAnyL_take (i := 3) 56 (v := .bool (z == 0)) rfl rfl (by kernel_rfl) (by kernel_rfl) (by kernel_rfl) (by kernel_rfl) (by kernel_rfl) (by kernel_rfl) (fun _ _ _ h => h) hS1 (by rfl) (by intro w' hSw; obtain ⟨y0, y1, y2, y3, y4, y5⟩ := hSw; go_simp <;> with_reducible rfl) ?_
      simp only [Act.put, List.setIfInBounds_toArray, List.set_cons_zero, List.set_cons_succ]
      refine wpAnyL_one (i := 4) (by kernel_rfl) rfl (fun Ka hKa => ?_)
      refine wp_store_row 66 _ _ rfl r #[.int .i64 (n0 : Int), .int .i64 (n1 : Int), .int .i64 bi, .int .i64 bv, .string base, (.slice vo7 R.length vc7)] rfl rfl 66 #[.int .i64 0, .int .i64 0, .int .i64 0, .int .i64 0, .string (str []), .slice none 0 0] T8.out.res size_hard rfl (by simp [Value.oneCell']) ?_
      have f9 := vfr_setRow w8 r #[.int .i64 (n0 : Int), .int .i64 (n1 : Int), .int .i64 bi, .int .i64 bv, .string base, (.slice vo7 R.length vc7)]
      have hB9 : (w8.setRow r #[.int .i64 (n0 : Int), .int .i64 (n1 : Int), .int .i64 bi, .int .i64 bv, .string base, (.slice vo7 R.length vc7)]).heap[q]? = some (.cells #[.int .i64 (n0 : Int), .int .i64 (n1 : Int), .int .i64 bi, .int .i64 bv, .string base, (.slice vo7 R.length vc7)] 66 (0, 0)) := (f9.block q (vlt_blk T8.out.box) (by have := T8.out.qr; omega)).trans T8.out.box
      obtain ⟨x0, x1, x2, x3, x4, x5⟩ := hbox6 hB9
      refine hKa.out _ _ (fun _ => ⟨x0, x1, x2, x3, x4, x5⟩) ?_
      have hS2 : (fun w' : World => w'.cell? ⟨q, 0, none⟩ = some (.int .i64 (n0 : Int)) ∧ w'.cell? ⟨q, 1, none⟩ = some (.int .i64 (n1 : Int)) ∧ w'.cell? ⟨q, 2, none⟩ = some (.int .i64 bi) ∧ w'.cell? ⟨q, 3, none⟩ = some (.int .i64 bv) ∧ w'.cell? ⟨q, 4, none⟩ = some (.string base) ∧ w'.cell? ⟨q, 5, none⟩ = some ((.slice vo7 R.length vc7))) (w8.setRow r #[.int .i64 (n0 : Int), .int .i64 (n1 : Int), .int .i64 bi, .int .i64 bv, .string base, (.slice vo7 R.length vc7)]) := ⟨x0, x1, x2, x3, x4, x5⟩
      clear hKa Ka
      try simp only [Act.put, List.setIfInBounds_toArray, List.set_cons_zero, List.set_cons_succ]
      refine wpAnyL_one (i := 5) (by kernel_rfl) rfl (fun Ka hKa => ?_)
      go_simp
      refine hKa.out _ _ (fun _ => hS2) ?_
      clear hKa Ka
      try simp only [Act.put, List.setIfInBounds_toArray, List.set_cons_zero, List.set_cons_succ]
      refine wpAnyL_done (by kernel_rfl) ?_ _
      have HZ9 : Hid ((w8.setRow r #[.int .i64 (n0 : Int), .int .i64 (n1 : Int), .int .i64 bi, .int .i64 bv, .string base, (.slice vo7 R.length vc7)]).heap[r]? = some (.cells #[.int .i64 (n0 : Int), .int .i64 (n1 : Int), .int .i64 bi, .int .i64 bv, .string base, (.slice vo7 R.length vc7)] 66 (0, 0))) := setRow_heap _ _ _ _ _ _ T8.out.res
      have HFr : Hid (EnO (w8.setRow r #[.int .i64 (n0 : Int), .int .i64 (n1 : Int), .int .i64 bi, .int .i64 bv, .string base, (.slice vo7 R.length vc7)]) 0 (.slice vo7 R.length vc7) R ∧ (∀ k, ((.slice vo7 R.length vc7) : Value).ownBlock = some k → (Value.slice ao n cap).ownBlock = some k ∨ w.heap.size ≤ k) ∧ Fr w (w8.setRow r #[.int .i64 (n0 : Int), .int .i64 (n1 : Int), .int .i64 bi, .int .i64 bv, .string base, (.slice vo7 R.length vc7)]) (fun k => (Value.slice ao n cap).ownBlock = some k)) :=
        ⟨E8.out.kept f9 (fun k hk e => (O7.out k hk).2.1 e), fun k hk => (O7.out k hk).2.2.2, T8.out.fr.trans f9 (fun k hk e => by have := T8.out.wq; have := T8.out.qr; omega)⟩
      clear hS1 hS2 f9 hB9 x0 x1 x2 x3 x4 x5 u0 u1 u2 u3 u4 u5
      go_wp2
      refine bodyPost_ret (v := .tuple #[.agg #[.int .i64 (n0 : Int), .int .i64 (n1 : Int), .int .i64 bi, .int .i64 bv, .string base, (.slice vo7 R.length vc7)], .bool (z == 0)]) (res_ctV Tryz.results86 _ _ r 66 _ (0, 0) _ rfl HZ9.out Tryz.underlying66 rfl size_hard) rfl ?_
      exact ⟨(.slice vo7 R.length vc7), rfl, HFr.out.1, HFr.out.2.1, HFr.out.2.2⟩
end Go.Proofs.YtnhjflebaeokeaaGreat
end
