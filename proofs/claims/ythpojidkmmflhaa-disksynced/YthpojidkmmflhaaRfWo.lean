/- The document's files without one. -/
import Derived.Test.YthpojidkmmflhaaRfWith
namespace Go.Proofs.Ythpojidkmmflhaa
open Go.RowKit Go.Maps
attribute [local go_sem] Oper.semAt_some
theorem fl_fin2 {w : World} {v : Value} {l m : Fl} {P R M B : Nat} (hq : m = l.take P ++ l.drop R) (hP : P ≤ l.length) (hM : M = l.length - R) (ho : w.ownsRow B 49 2 v (0 + P + M) (([] ++ (l.take P).flatMap flCells) ++ (l.drop R).flatMap flCells)) : FlAt w v m := by
  have hlen : m.length = 0 + P + M := by rw [hq, hM]; simp; omega
  have hcs : m.flatMap flCells = ([] ++ (l.take P).flatMap flCells) ++ (l.drop R).flatMap flCells := by
    rw [hq, List.flatMap_append]
    simp
  unfold FlAt
  rw [hlen, hcs]
  refine ⟨ho.1, ?_⟩
  rcases ho.2 with h | ⟨g, cap, cur, h1, _, h3⟩
  · exact .inl h
  · exact .inr ⟨g, cap, cur, h1, Nat.zero_le _, h3⟩
section
variable {w : World} {v : Value} {l : Fl} {k : Bs}
set_option linter.unusedSimpArgs false in
set_option maxRecDepth 100000 in
set_option maxHeartbeats 4000000 in
theorem without_any (h : FlAt w v l) (hl : l.length ≤ 1000000) : Calls Try.prog 54 #[v, .string (str k)] w fun r w' => ∃ v', r = .returned v' ∧ FlAt w' v' (delF k l) ∧ Below w.heap.size w w' := by
  obtain ⟨i0, hi, hz0, hz1, hz2⟩ := d_info infoFL
  have hF := find_any (k := k) h hl
  have HDel := delF_is k l
  obtain ⟨ao, cp, rfl, hcp, hg⟩ := fl_shape h
  cases hbb : (getF k l).isSome with
  | false =>
    rw [hbb] at hF HDel
    have HQ : Hid (delF k l = l) := HDel
    have HH : Hid (FlAt w (.slice ao l.length cp) l) := h
    clear h hg HDel hbb
    generalize posF k l = pp at hF
    go_enter Try.func54, Try.ntmps54
    go_wp2_with (go_at_call 48; refine hF.mono ?_; rintro r w1 ⟨rfl, hb1⟩; have HB1 : Hid _ := hb1; clear hb1)
    go_ret
    exact ⟨_, rfl, by rw [HQ.out]; exact row_new HH.out HB1.out, HB1.out⟩
  | true =>
    have hpn : posF k l < l.length := Nat.lt_of_not_le fun hh => by
      rw [getF_end k l (by omega)] at hbb
      cases hbb
    obtain ⟨g, rfl⟩ := hg (by omega)
    have HT : Hid (∀ W, Below w.heap.size w W → SrcD W (some ⟨g, 0, none⟩) (posF k l) ((l.take (posF k l)).flatMap flCells)) := fun W hb => by
      have := src_takeD (row_new h hb) (posF k l) (posF_le k l)
      rw [fl_take] at this
      exact this
    have HDr : Hid (∀ W ri, Below w.heap.size w W → SrcD W (subD 2 (some ⟨g, 0, none⟩) cp ri) (l.length - ri) ((l.drop ri).flatMap flCells)) := fun W ri hb => by
      have := src_dropD (row_new h hb) ri
      rw [fl_drop] at this
      exact this
    rw [hbb] at hF HDel
    have HQ : Hid (delF k l = l.take (posF k l) ++ l.drop (posF k l + 1)) := HDel
    obtain ⟨pp, hpp⟩ : ∃ pp, posF k l = pp := ⟨_, rfl⟩
    obtain ⟨n0, hn0⟩ : ∃ n0, l.length = n0 := ⟨_, rfl⟩
    have HN : Hid (l.length = n0) := hn0
    rw [hpp] at hF HQ HT hpn
    rw [hn0] at hF HDr hpn hl hcp ⊢
    clear h hg HDel hpp hn0 hbb
    have hwr : IntKind.i64.wrap ((pp : Int) + 1) = (pp : Int) + 1 := by rw [IntKind.wrap_i64]; omega
    by_cases hc : cp = pp + 1
    case' pos =>
      obtain rfl : n0 = pp + 1 := by omega
      obtain rfl : cp = pp + 1 := hc
      have HR : Hid (∀ W, Below w.heap.size w W → SrcD W (some ⟨g, 0, none⟩) 0 ((l.drop (pp + 1)).flatMap flCells)) := fun W _ h => absurd h (by omega)
      clear HDr
      go_enter Try.func54, Try.ntmps54
      go_upto_region 4 with (go_at_call 48; refine hF.mono ?_; rintro r w1 ⟨rfl, hb1⟩; have HB1 : Hid _ := hb1; clear hb1)
      refine wp_calmD ?_
      refine wp_region_L [] (fun _ : World => True) (by kernel_rfl) ?_
      refine wpAnyL_take (i := 1) 17 (v := .slice (some ⟨g, 0, none⟩) (pp + 1) (pp + 1)) rfl rfl (by kernel_rfl) (by kernel_rfl) (by kernel_rfl) (by kernel_rfl) (by kernel_rfl) (by kernel_rfl) (fun _ _ _ h => h) trivial (by rfl) (by intro w' _; go_simp <;> first | with_reducible rfl | (intros; exfalso; omega)) ?_
      simp only [Act.put, List.setIfInBounds_toArray, List.set_cons_zero, List.set_cons_succ]
      refine wpAnyL_take (i := 2) 18 (v := .int .i64 (pp : Int)) rfl rfl (by kernel_rfl) (by kernel_rfl) (by kernel_rfl) (by kernel_rfl) (by kernel_rfl) (by kernel_rfl) (fun _ _ _ h => h) trivial (by rfl) (by intro w' _; go_simp <;> first | with_reducible rfl | (intros; exfalso; omega)) ?_
      simp only [Act.put, List.setIfInBounds_toArray, List.set_cons_zero, List.set_cons_succ]
      refine wpAnyL_take (i := 3) 19 (v := .slice (some ⟨g, 0, none⟩) pp (pp + 1)) rfl rfl (by kernel_rfl) (by kernel_rfl) (by kernel_rfl) (by kernel_rfl) (by kernel_rfl) (by kernel_rfl) (fun _ _ _ h => h) trivial (by rfl) (by intro w' _; go_simp <;> first | with_reducible rfl | (intros; exfalso; omega)) ?_
      simp only [Act.put, List.setIfInBounds_toArray, List.set_cons_zero, List.set_cons_succ]
      refine wpAnyL_take (i := 5) 21 (v := .slice (some ⟨g, 0, none⟩) (pp + 1) (pp + 1)) rfl rfl (by kernel_rfl) (by kernel_rfl) (by kernel_rfl) (by kernel_rfl) (by kernel_rfl) (by kernel_rfl) (fun _ _ _ h => h) trivial (by rfl) (by intro w' _; go_simp <;> first | with_reducible rfl | (intros; exfalso; omega)) ?_
      simp only [Act.put, List.setIfInBounds_toArray, List.set_cons_zero, List.set_cons_succ]
      refine wpAnyL_take (i := 6) 22 (v := .int .i64 (pp : Int)) rfl rfl (by kernel_rfl) (by kernel_rfl) (by kernel_rfl) (by kernel_rfl) (by kernel_rfl) (by kernel_rfl) (fun _ _ _ h => h) trivial (by rfl) (by intro w' _; go_simp <;> first | with_reducible rfl | (intros; exfalso; omega)) ?_
      simp only [Act.put, List.setIfInBounds_toArray, List.set_cons_zero, List.set_cons_succ]
      refine wpAnyL_take (i := 7) 23 (v := .int .i64 ((pp : Int) + 1)) rfl rfl (by kernel_rfl) (by kernel_rfl) (by kernel_rfl) (by kernel_rfl) (by kernel_rfl) (by kernel_rfl) (fun _ _ _ h => h) trivial (by rfl) (by intro w' _; go_simp <;> first | with_reducible rfl | (intros; exfalso; omega)) ?_
      simp only [Act.put, List.setIfInBounds_toArray, List.set_cons_zero, List.set_cons_succ]
      refine wpAnyL_take (i := 8) 24 (v := .slice (some ⟨g, 0, none⟩) 0 0) rfl rfl (by kernel_rfl) (by kernel_rfl) (by kernel_rfl) (by kernel_rfl) (by kernel_rfl) (by kernel_rfl) (fun _ _ _ h => h) trivial (by rfl) (by intro w' _; go_simp <;> first | with_reducible rfl | (intros; exfalso; omega)) ?_
      simp only [Act.put, List.setIfInBounds_toArray, List.set_cons_zero, List.set_cons_succ]
    case' neg =>
      have HR : Hid (∀ W, Below w.heap.size w W → SrcD W (some ⟨g, (pp + 1) * 2, none⟩) (n0 - (pp + 1)) ((l.drop (pp + 1)).flatMap flCells)) := fun W hb => by
        have := HDr.out W (pp + 1) hb
        rw [subD_some, if_neg hc] at this
        exact this
      clear HDr
      go_enter Try.func54, Try.ntmps54
      go_upto_region 4 with (go_at_call 48; refine hF.mono ?_; rintro r w1 ⟨rfl, hb1⟩; have HB1 : Hid _ := hb1; clear hb1)
      refine wp_calmD ?_
      refine wp_region_L [] (fun _ : World => True) (by kernel_rfl) ?_
      refine wpAnyL_take (i := 1) 17 (v := .slice (some ⟨g, 0, none⟩) (n0) (cp)) rfl rfl (by kernel_rfl) (by kernel_rfl) (by kernel_rfl) (by kernel_rfl) (by kernel_rfl) (by kernel_rfl) (fun _ _ _ h => h) trivial (by rfl) (by intro w' _; go_simp <;> first | with_reducible rfl | (intros; exfalso; omega)) ?_
      simp only [Act.put, List.setIfInBounds_toArray, List.set_cons_zero, List.set_cons_succ]
      refine wpAnyL_take (i := 2) 18 (v := .int .i64 (pp : Int)) rfl rfl (by kernel_rfl) (by kernel_rfl) (by kernel_rfl) (by kernel_rfl) (by kernel_rfl) (by kernel_rfl) (fun _ _ _ h => h) trivial (by rfl) (by intro w' _; go_simp <;> first | with_reducible rfl | (intros; exfalso; omega)) ?_
      simp only [Act.put, List.setIfInBounds_toArray, List.set_cons_zero, List.set_cons_succ]
      refine wpAnyL_take (i := 3) 19 (v := .slice (some ⟨g, 0, none⟩) pp (cp)) rfl rfl (by kernel_rfl) (by kernel_rfl) (by kernel_rfl) (by kernel_rfl) (by kernel_rfl) (by kernel_rfl) (fun _ _ _ h => h) trivial (by rfl) (by intro w' _; go_simp <;> first | with_reducible rfl | (intros; exfalso; omega)) ?_
      simp only [Act.put, List.setIfInBounds_toArray, List.set_cons_zero, List.set_cons_succ]
      refine wpAnyL_take (i := 5) 21 (v := .slice (some ⟨g, 0, none⟩) (n0) (cp)) rfl rfl (by kernel_rfl) (by kernel_rfl) (by kernel_rfl) (by kernel_rfl) (by kernel_rfl) (by kernel_rfl) (fun _ _ _ h => h) trivial (by rfl) (by intro w' _; go_simp <;> first | with_reducible rfl | (intros; exfalso; omega)) ?_
      simp only [Act.put, List.setIfInBounds_toArray, List.set_cons_zero, List.set_cons_succ]
      refine wpAnyL_take (i := 6) 22 (v := .int .i64 (pp : Int)) rfl rfl (by kernel_rfl) (by kernel_rfl) (by kernel_rfl) (by kernel_rfl) (by kernel_rfl) (by kernel_rfl) (fun _ _ _ h => h) trivial (by rfl) (by intro w' _; go_simp <;> first | with_reducible rfl | (intros; exfalso; omega)) ?_
      simp only [Act.put, List.setIfInBounds_toArray, List.set_cons_zero, List.set_cons_succ]
      refine wpAnyL_take (i := 7) 23 (v := .int .i64 ((pp : Int) + 1)) rfl rfl (by kernel_rfl) (by kernel_rfl) (by kernel_rfl) (by kernel_rfl) (by kernel_rfl) (by kernel_rfl) (fun _ _ _ h => h) trivial (by rfl) (by intro w' _; go_simp <;> first | with_reducible rfl | (intros; exfalso; omega)) ?_
      simp only [Act.put, List.setIfInBounds_toArray, List.set_cons_zero, List.set_cons_succ]
      refine wpAnyL_take (i := 8) 24 (v := .slice (some ⟨g, (pp + 1) * 2, none⟩) (n0 - (pp + 1)) (cp - (pp + 1))) rfl rfl (by kernel_rfl) (by kernel_rfl) (by kernel_rfl) (by kernel_rfl) (by kernel_rfl) (by kernel_rfl) (fun _ _ _ h => h) trivial (by rfl) (by intro w' _; go_simp <;> first | with_reducible rfl | (intros; exfalso; omega)) ?_
      simp only [Act.put, List.setIfInBounds_toArray, List.set_cons_zero, List.set_cons_succ]
    all_goals
      obtain ⟨w2, hw2⟩ : ∃ w2, w1.drew = w2 := ⟨_, rfl⟩
      rw [hw2]
      have HB2 : Hid (Below w.heap.size w w2) := by show Below _ _ _; rw [← hw2]; exact HB1.out.drew
      clear hw2 HB1
      refine wpAnyL_one (i := 0) (by kernel_rfl) rfl (fun Ka hKa => ?_)
      go_simp
      refine hKa.out _ _ (fun _ => trivial) ?_
      clear hKa Ka
      try simp only [Act.put, List.setIfInBounds_toArray, List.set_cons_zero, List.set_cons_succ]
      have HO0 : Hid ((w2.alloc (.cells #[] 49)).ownsRow w2.heap.size 49 2 (.slice (some ⟨w2.heap.size, 0, none⟩) 0 0) 0 []) := own_emptyD (Nat.le_refl _)
      have HB3 : Hid (Below w2.heap.size w2 (w2.alloc (.cells #[] 49))) := one_newD _ _
      refine wpAnyL_one (i := 4) (by kernel_rfl) rfl (fun Kb hKb => ?_)
      refine stp_appD rfl (.tmp 16) (.tmp 19) 26 49 Try.underlying26 hi hz0 hz1 hz2 rfl (by decide) (by decide) rfl w2.heap.size _ 0 [] (by simp [Act.eval]) HO0.out (by simp [Act.eval] <;> rfl) _ ?_ (HT.out _ (HB2.out.trans (HB3.out.mono HB2.out.size))) (flc_one _) ?_ HB3.out.size ?_
      · rw [flc_len, List.length_take]; have := HN.out; omega
      · omega
      intro v1 w3 own1 gr1 at1
      have HO1 : Hid (w3.ownsRow w2.heap.size 49 2 v1 (0 + pp) ([] ++ (l.take pp).flatMap flCells)) := own1
      have HB4 : Hid (Below w2.heap.size w2 w3) := app_belD HB3.out gr1 HO0.out
      clear own1 gr1 at1
      refine hKb.out _ _ (fun _ => trivial) ?_
      clear hKb Kb
      try simp only [Act.put, List.setIfInBounds_toArray, List.set_cons_zero, List.set_cons_succ]
      refine wpAnyL_one (i := 9) (by kernel_rfl) rfl (fun Kc hKc => ?_)
      refine stp_appD rfl (.tmp 20) (.tmp 24) 26 49 Try.underlying26 hi hz0 hz1 hz2 rfl (by decide) (by decide) rfl w2.heap.size v1 (0 + pp) _ (by simp [Act.eval]) HO1.out (by simp [Act.eval] <;> rfl) _ ?_ (HR.out _ (HB2.out.trans (HB4.out.mono HB2.out.size))) (flc_one _) ?_ HB4.out.size ?_
      · rw [flc_len, List.length_drop]; have := HN.out; omega
      · omega
      intro v2 w4 own2 gr2 at2
      have HO2 : Hid (w4.ownsRow w2.heap.size 49 2 v2 _ _) := own2
      have HB5 : Hid (Below w2.heap.size w2 w4) := app_belD HB4.out gr2 HO1.out
      clear own2 gr2 at2
      refine hKc.out _ _ (fun _ => trivial) ?_
      clear hKc Kc
      try simp only [Act.put, List.setIfInBounds_toArray, List.set_cons_zero, List.set_cons_succ]
      refine wpAnyL_one (i := 10) (by kernel_rfl) rfl (fun Kd hKd => ?_)
      go_simp
      refine hKd.out _ _ (fun _ => trivial) ?_
      clear hKd Kd
      refine wpAnyL_done (by kernel_rfl) ?_ _
      go_wp2_with (fail)
      go_ret
      refine ⟨_, rfl, fl_fin2 HQ.out (by have := HN.out; omega) (by have := HN.out; omega) HO2.out, HB2.out.trans (HB5.out.mono HB2.out.size)⟩
end
end Go.Proofs.Ythpojidkmmflhaa
