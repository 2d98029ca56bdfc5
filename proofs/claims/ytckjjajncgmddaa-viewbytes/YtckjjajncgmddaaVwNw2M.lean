import Derived.Test.YtckjjajncgmddaaVwNewM
/- A master stands up: what it is then. -/
namespace Go.Proofs.Ytckjjajncgmddaa
open Go.RowKit Go.Maps
attribute [local go_sem] Oper.semAt_some
set_option maxRecDepth 100000 in
set_option maxHeartbeats 2000000 in
theorem new_ok {w : World} {me all vw nm bi bv : Int} {base : ByteArray} {lv : Value} {L : List Ent} (hL : EnS w lv L) (hb : mayN me all vw nm bi L.length = true) : Calls Try.prog 22 #[.int .i64 me, .int .i64 all, .agg #[.int .i64 vw, .int .i64 nm, .int .i64 bi, .int .i64 bv, .string base, lv]] w fun r w' => ∃ p, r = .returned (.tuple #[.pointer (some ⟨p, 0, none⟩), .int .i64 0]) ∧ NdAt w' (fun k => w.heap.size ≤ k) p (Nd.born me all vw nm bi bv base L).counted ∧ Below w.heap.size w w' := by
  obtain ⟨ao, c, rfl, hc⟩ := hL.shape
  have ok := born_ok (bv := bv) (base := base) hb
  have HOk : Hid (Nd.born me all vw nm bi bv base L).ok := ok
  have HMy : Hid (mayI vw nm bi L.length = true) := by
    show _ = _
    unfold mayN at hb
    simp only [Bool.and_eq_true] at hb
    exact hb.2.2.2.2
  have h1 : ¬ all < 1 := by have : 1 ≤ all := ok.all0; omega
  have h2 : ¬ 7 < all := by have : all ≤ 7 := ok.all1; omega
  have h3 : ¬ me < 0 := by have : 0 ≤ me := ok.me0; omega
  have h4 : ¬ all ≤ me := by have : me < all := ok.me1; omega
  have b0 : 0 ≤ bi := ok.bi0
  have b1 : bi ≤ 2147483647 := ok.bi1
  have hlen : L.length ≤ 1000 := ok.len
  have HL0 : Hid (EnS w (.slice ao L.length c) L) := hL
  obtain ⟨n, hn⟩ : ∃ n, L.length = n := ⟨_, rfl⟩
  have HN : Hid (L.length = n) := hn
  rw [hn] at hlen HMy HL0 ⊢
  clear hL hb ok hc hn
  obtain ⟨W0, hW0⟩ : ∃ W0, w.alloc (.cells #[.int .i64 vw, .int .i64 nm, .int .i64 bi, .int .i64 bv, .string base, .slice ao n c] 49) = W0 := ⟨_, rfl⟩
  have hB0 : Below w.heap.size w W0 := by rw [← hW0]; exact vone_new _ _
  have hZ : W0.heap[w.heap.size]? = some (.cells #[.int .i64 vw, .int .i64 nm, .int .i64 bi, .int .i64 bv, .string base, .slice ao n c] 49 (0, 0)) := by rw [← hW0]; exact heap_alloc_new _ _
  obtain ⟨c0, c1, c2, c3, c4, c5⟩ := hbox6 hZ
  have HB0 : Hid (Below w.heap.size w W0) := hB0
  have HZ : Hid (W0.heap[w.heap.size]? = some (.cells #[.int .i64 vw, .int .i64 nm, .int .i64 bi, .int .i64 bv, .string base, .slice ao n c] 49 (0, 0))) := hZ
  clear hB0 hZ
  go_enter Try.func22, Try.ntmps22
  go_upto_region 3 with (go_at_call 42; refine (mayBe_any _ vw nm bi bv base ao n c (by omega)).mono ?_; rintro r w1 ⟨rfl, hb1⟩; rw [HMy.out]; have HB1 : Hid (Below W0.heap.size W0 w1) := hb1; clear hb1)
  obtain ⟨q, hq⟩ : ∃ q, w.heap.size = q := ⟨_, rfl⟩
  have hZ1 := (HB1.out.block _ (vlt_blk HZ.out)).trans HZ.out
  have hBw : Below w.heap.size w w1 := HB0.out.trans (HB1.out.mono HB0.out.size)
  have HL1 : Hid (EnS w1 (.slice ao n c) L) := HL0.out.new hBw
  rw [hq] at hZ1 hBw ⊢
  have hqw : q < w1.heap.size := vlt_blk hZ1
  obtain ⟨c0, c1, c2, c3, c4, c5⟩ := hbox6 hZ1
  have HZ1 : Hid _ := hZ1
  have HBw : Hid (Below q w w1) := hBw
  have HQ : Hid (w.heap.size = q) := hq
  clear HB1 HZ HB0 hZ1 hBw HL0 hq h1 h2 h3 h4 hW0
  have HT : Hid ((L.take n).drop 0 = L) := by show _ = _; rw [List.drop_zero, List.take_of_length_le (by have := HN.out; omega)]
  go_upto_region 4 with (go_at_call 43; refine (cut_any (a := 0) (b := n) HL1.out (Nat.zero_le _) (by have := HN.out; omega) (by have := HN.out; omega)).mono ?_; rintro r w2 ⟨lv, rfl, hE2, hb2⟩; rw [HT.out] at hE2; obtain ⟨a2, cc2, e2, -⟩ := hE2.shape; rw [HN.out] at e2; subst e2; have hZ2 := (hb2.block q hqw).trans HZ1.out; obtain ⟨c0, c1, c2, c3, c4, c5⟩ := hbox6 hZ2; have f5 : w2.frozen? ⟨q, 5, none⟩ = false := (by simp [World.frozen?, hZ2]); have HE2 : Hid (EnO w2 w1.heap.size (.slice a2 n cc2) L) := hE2; have HB2 : Hid (Below w1.heap.size w1 w2) := hb2; have HZ2 : Hid (w2.heap[q]? = some (.cells #[.int .i64 vw, .int .i64 nm, .int .i64 bi, .int .i64 bv, .string base, .slice ao n c] 49 (0, 0))) := hZ2; clear hE2 hb2 hZ2)
  generalize hW3 : World.setCell _ _ _ = W3
  have hZ3 : W3.heap[q]? = some (.cells #[.int .i64 vw, .int .i64 nm, .int .i64 bi, .int .i64 bv, .string base, .slice a2 n cc2] 49 (0, 0)) := by rw [← hW3]; exact vblk_set (i := 5) _ HZ2.out
  have f3 : Fr w2 W3 (fun k => k = q) := by rw [← hW3]; exact Fr.setCell (S := fun k => k = q) _ ⟨q, 5, none⟩ _ rfl
  have hE3 : EnO W3 w1.heap.size (.slice a2 n cc2) L := HE2.out.kept f3 (fun k hk e => by have := (vrow_tag HE2.out hk).1; omega)
  have hB3 : Below q w W3 := (HBw.out.trans (HB2.out.mono (by omega))).trans (f3.below (by have := HB2.out.size; omega) (fun k e => by omega))
  obtain ⟨c0, c1, c2, c3, c4, c5⟩ := hbox6 hZ3
  have hq3 : q < W3.heap.size := vlt_blk hZ3
  have HE3 : Hid (EnO W3 w1.heap.size (.slice a2 n cc2) L) := hE3
  have HB3 : Hid (Below q w W3) := hB3
  clear hZ3 f3 hE3 hB3 hW3 HE2 HB2 HZ2 HZ1 HBw HL1
  go_upto_region 5 with (fail)
  generalize hW4 : World.alloc _ _ = W4
  obtain ⟨p, hp⟩ : ∃ p, W3.heap.size = p := ⟨_, rfl⟩
  have hP4 : W4.heap[p]? = some (.cells #[.int .i64 me, .int .i64 all, .int .i64 vw, .int .i64 nm, .int .i64 bi, .int .i64 bv, .string base, .slice a2 n cc2, .int .i64 bi, .int .i64 0, .int .i64 0, .bool false, .map none, .map none, .map none, .map none] 90 (0, 0)) := by rw [← hp, ← hW4]; exact heap_alloc_new _ _
  have b4 : Below W3.heap.size W3 W4 := by rw [← hW4]; exact vone_new _ _
  have hB4 : Below q w W4 := HB3.out.trans (b4.mono (by omega))
  have HE4 : Hid (EnO W4 w1.heap.size (.slice a2 n cc2) L) := HE3.out.new b4
  rw [hp] at b4 ⊢
  have hpq : q < p := by omega
  have hmm := @run_makeMap Try.prog
  have hmf : ∀ (fn : Fn) (first cap : Array Value) (w : World), (Instr.makeFunc fn first cap).run Try.prog w = .ok (.func fn first cap) w := fun _ _ _ _ => rfl
  obtain ⟨k1, k2, k3, k4, k5, w6, r1, r2, r3, r4, r5, r6, hK, hbK⟩ := kinds_made W4 p
  have hP6 := (hbK.block p (vlt_blk hP4)).trans hP4
  have d15 : w6.cell? ⟨p, 15, none⟩ = some (.map none) := by simp [World.cell?, hP6]
  have f15 : w6.frozen? ⟨p, 15, none⟩ = false := by simp [World.frozen?, hP6]
  have HP6 : Hid _ := hP6
  have HK : Hid (HMap w6 W4.heap.size (kindF p)) := hK
  have HBK : Hid (Below W4.heap.size W4 w6) := hbK
  have HB4 : Hid (Below q w W4) := hB4
  have hpW4 : p < W4.heap.size := vlt_blk hP4
  clear hP4 hP6 hK hbK hB4 HE3 HB3 c0 c1 c2 c3 c4 c5 hW4 b4 hp
  go_upto_region 6 with (fail)
  generalize hW7 : World.setCell _ _ _ = W7
  obtain ⟨mk, hmk⟩ : ∃ mk, W4.heap.size = mk := ⟨_, rfl⟩
  rw [hmk] at HK HBK hpW4 hW7
  have f7 : Fr w6 W7 (fun k => k = p) := by rw [← hW7]; exact Fr.setCell (S := fun k => k = p) _ ⟨p, 15, none⟩ _ rfl
  have hP7 : W7.heap[p]? = some (.cells #[.int .i64 me, .int .i64 all, .int .i64 vw, .int .i64 nm, .int .i64 bi, .int .i64 bv, .string base, .slice a2 n cc2, .int .i64 bi, .int .i64 0, .int .i64 0, .bool false, .map none, .map none, .map none, .map (some mk)] 90 (0, 0)) := by rw [← hW7]; exact vblk_set (i := 15) _ HP6.out
  have hK7 : HMap W7 mk (kindF p) := HK.out.kept f7 (by omega)
  have hE7 : EnO W7 w1.heap.size (.slice a2 n cc2) L := (HE4.out.new (by rw [hmk]; exact HBK.out)).kept f7 (fun k hk e => by
    obtain ⟨_, cs, fz, ht⟩ := vrow_tag (HE4.out.new (by rw [hmk]; exact HBK.out)) hk
    subst e
    rw [HP6.out] at ht
    cases ht)
  have hB7 : Below q w W7 := (HB4.out.trans (HBK.out.mono (by omega))).trans (f7.below (by have := HB4.out.size; have := HBK.out.size; have := HQ.out; omega) (fun k e => by omega))
  have d4 : W7.cell? ⟨p, 4, none⟩ = some (.int .i64 bi) := by simp [World.cell?, hP7]
  have d7 : W7.cell? ⟨p, 7, none⟩ = some (.slice a2 n cc2) := by simp [World.cell?, hP7]
  have d9 : W7.cell? ⟨p, 9, none⟩ = some (.int .i64 0) := by simp [World.cell?, hP7]
  have f9 : W7.frozen? ⟨p, 9, none⟩ = false := by simp [World.frozen?, hP7]
  have HP7 : Hid _ := hP7
  have HK7 : Hid (HMap W7 mk (kindF p)) := hK7
  have HE7 : Hid (EnO W7 w1.heap.size (.slice a2 n cc2) L) := hE7
  have HB7 : Hid (Below q w W7) := hB7
  have HMK : Hid (p < mk) := hpW4
  clear hP7 hK7 hE7 hB7 f7 hW7 HK HBK HB4 HE4 HP6 d15 f15 r1 r2 r3 r4 r5 r6 hmm hmf hmk hpW4
  go_upto_region 7 with (go_at_call 50; refine (last_raw d4 d7 b0 b1 hlen).mono ?_; rintro r w8 ⟨rfl, q8, rfl⟩)
  generalize hW9 : World.setCell _ _ _ = W9
  have b8 : Below W7.heap.size W7 (W7.drewN q8) := below_dn _ _
  have f9' : Fr (W7.drewN q8) W9 (fun k => k = p) := by rw [← hW9]; exact Fr.setCell (S := fun k => k = p) _ ⟨p, 9, none⟩ _ rfl
  have hP9 : W9.heap[p]? = some (.cells #[.int .i64 me, .int .i64 all, .int .i64 vw, .int .i64 nm, .int .i64 bi, .int .i64 bv, .string base, .slice a2 n cc2, .int .i64 bi, .int .i64 (bi + n), .int .i64 0, .bool false, .map none, .map none, .map none, .map (some mk)] 90 (0, 0)) := by rw [← hW9]; exact vblk_set (i := 9) _ HP7.out
  have hE9 : EnO W9 w1.heap.size (.slice a2 n cc2) L := (HE7.out.new b8).kept f9' (fun k hk e => by
    obtain ⟨_, cs, fz, ht⟩ := vrow_tag HE7.out hk
    subst e
    rw [HP7.out] at ht
    cases ht)
  have hB9 : Below q w W9 := (HB7.out.trans (b8.mono (by have := vlt_blk HP7.out; omega))).trans (f9'.below (by have := vlt_blk HP7.out; have : (W7.drewN q8).heap.size = W7.heap.size := rfl; omega) (fun k e => by omega))
  have hNB : NB W9 (fun k => q ≤ k) p (Nd.born me all vw nm bi bv base L) (.slice a2 n cc2) mk (.int .i64 0) (.bool false) (.map none) (.map none) (.map none) := by
    refine ⟨?_, hE9.low (Nat.zero_le _), (HK7.out.new b8).kept f9' (by have := HMK.out; omega), by omega, fun k hk => ?_, by have := HMK.out; omega⟩
    · rw [hP9]
      show _ = some (Obj.cells #[.int .i64 me, .int .i64 all, .int .i64 vw, .int .i64 nm, .int .i64 bi, .int .i64 bv, .string base, .slice a2 n cc2, .int .i64 bi, .int .i64 (bi + (L.length : Int)), .int .i64 0, .bool false, .map none, .map none, .map none, .map (some mk)] 90 (0, 0))
      rw [HN.out]
    · have := (vrow_tag hE9 hk).1
      omega
  have HNB : Hid (NB W9 (fun k => q ≤ k) p (Nd.born me all vw nm bi bv base L) (.slice a2 n cc2) mk (.int .i64 0) (.bool false) (.map none) (.map none) (.map none)) := hNB
  have HB9 : Hid (Below q w W9) := hB9
  clear hNB hB9 hE9 hP9 f9' b8 hW9 HP7 HK7 HE7 HB7 d4 d7 d9 f9
  go_wp2_with (first
    | (go_at_call 51; refine (forget_any HNB.out ⟨HOk.out.me0, (by have h1 : me < all := HOk.out.me1; have h2 : all ≤ 7 := HOk.out.all1; show me < 7; omega)⟩).mono ?_; rintro r w10 ⟨rfl, ⟨mw, mg, mu, hA⟩, hF10⟩; have HA : Hid (NA w10 (fun k => q ≤ k ∨ W9.heap.size ≤ k) p (Nd.born me all vw nm bi bv base L) (.slice a2 n cc2) mw mg mu mk) := hA; have HF10 : Hid (Fr W9 w10 (fun k => k = p)) := hF10; clear hA hF10)
    | (go_at_call 52; refine (count_any HA.out HOk.out (fun x v e => by cases e)).mono ?_; rintro r w11 ⟨rfl, hA, hF11⟩; have HA1 : Hid (NA w11 (fun k => q ≤ k ∨ W9.heap.size ≤ k) p (Nd.born me all vw nm bi bv base L).counted (.slice a2 n cc2) mw mg mu mk) := hA; have HF11 : Hid (Fr w10 w11 (fun k => k = p)) := hF11; clear hA hF11))
  go_ret2
  have hQ := HQ.out
  have hplt : p < W9.heap.size := HNB.out.plt
  have hf : Fr W9 w11 (fun k => k = p) := HF10.out.trans HF11.out (fun _ _ h => h)
  have hb9 := HB9.out
  rw [hQ]
  refine ⟨p, rfl, ⟨_, _, _, _, _, HA1.out.mono (fun k _ h => ?_)⟩, hb9.trans (hf.below (by omega) (fun k e => by omega))⟩
  rcases h with h | h
  · exact h
  · show q ≤ k
    omega
end Go.Proofs.Ytckjjajncgmddaa
