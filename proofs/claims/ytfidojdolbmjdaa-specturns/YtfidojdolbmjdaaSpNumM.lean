import Derived.Test.YtfidojdolbmjdaaSpRowM
import Derived.Laws.MakeOwn
import Derived.Deep.Cut
import Derived.Deep.DeepCutAuto
import Derived.Deep.CutBlock
/- spec.numbers: the numbers of a graph's vertices. -/
namespace Go.Proofs.Ytfidojdolbmjdaa
open Go.RowKit
theorem infoSI : (Try.prog.info? 2).map (fun i => (i.zero, i.size, i.bytes)) = some (some (.int .i64 0), 1, 8) := by kernel_rfl
theorem ri_snoc {w : World} {te : TypeId} {base n : Nat} {v : Value} {L : List Int} {x : Int} (hn : n = L.length) (h : w.ownsRow base te 1 v (n + 1) (L.map (Value.int .i64) ++ [.int .i64 x])) : RwI w te base v (L ++ [x]) := by
  subst hn
  unfold RwI
  rw [List.length_append, List.map_append]
  simpa using h
theorem s_one1 {W : World} {b : Nat} {t : TypeId} {f : Nat × Nat} {x : Value} (h : W.heap[b]? = some (.cells #[x] t f)) : ∀ (j : Nat) (u : Value), [x][j]? = some u → W.cell? ((⟨b, 0, none⟩ : Addr).add j) = some u := by
  intro j u hu
  rw [Addr.add_lit, Nat.zero_add]
  simp [World.cell?, h]
  simpa using hu
theorem ri_some {w : World} {te : TypeId} {base : Nat} {v : Value} {L : List Int} (h : RwI w te base v L) (hn : ¬ v = .slice none 0 0) : ∃ g c, v = .slice (some ⟨g, 0, none⟩) L.length c := by
  rcases h.2 with ⟨h1, h2⟩ | ⟨g, cap, cur, rfl, _⟩
  · exact absurd h1 hn
  · exact ⟨_, _, rfl⟩
theorem ri_own {w : World} {te : TypeId} {base g n c : Nat} {v : Value} {L : List Int} (h : RwI w te base v L) (hv : v.ownBlock = (Value.slice (some ⟨g, 0, none⟩) n c).ownBlock) : ∃ c', v = .slice (some ⟨g, 0, none⟩) L.length c' := by
  rcases h.2 with ⟨h1, h2⟩ | ⟨g', cap, cur, rfl, _⟩
  · rw [h1] at hv; simp [Value.ownBlock] at hv
  · simp [Value.ownBlock] at hv
    subst hv
    exact ⟨_, rfl⟩
theorem ri_low {w : World} {te : TypeId} {base base' : Nat} {v : Value} {L : List Int} (h : RwI w te base v L) (hb : base' ≤ base) : RwI w te base' v L := by
  refine ⟨h.1, ?_⟩
  rcases h.2 with h2 | ⟨g, cap, cur, rfl, h3, h4⟩
  · exact Or.inl h2
  · exact Or.inr ⟨g, cap, cur, rfl, by omega, h4⟩
theorem so_new {w w' : World} {base : Nat} {e : TypeId} {size : Nat} {v : Value} {n : Nat} {xs : List Value} (h : w.ownsRow base e size v n xs) (hb : Below w.heap.size w w') : w'.ownsRow base e size v n xs := by
  refine ⟨h.1, ?_⟩
  rcases h.2 with h2 | ⟨g, cap, cur, rfl, h3, h4, h5⟩
  · exact Or.inl h2
  · exact Or.inr ⟨g, cap, cur, rfl, h3, (hb.block g (Array.getElem?_eq_some_iff.1 h4).1).trans h4, h5⟩
theorem s_oneI (x : Int) : ∀ u ∈ [Value.int .i64 x], u.oneCell' = true := by
  intro u hu
  simp at hu
  subst hu
  rfl
set_option maxRecDepth 100000 in
set_option maxHeartbeats 2000000 in
theorem numbers_any {w : World} {P : Nat → Prop} {ao : Option Addr} {G : List Vx} (cap : Nat) (h : VxAt w P ao G) (hr : Rise (ids G)) (hl : G.length ≤ 256) :
    Calls Try.prog 53 #[.agg #[.slice ao G.length cap]] w fun r w' => (∃ g c, r = .returned (.slice (some ⟨g, 0, none⟩) (ids G).length c) ∧ RwI w' 2 w.heap.size (.slice (some ⟨g, 0, none⟩) (ids G).length c) (ids G)) ∧ Below w.heap.size w w' := by
  obtain ⟨i0, hi, hz0, hz1, hz2⟩ := info_parts infoSI
  obtain ⟨N, HN⟩ : ∃ N, Hid (N = G.length) := ⟨_, rfl⟩
  have hN : N ≤ 256 := by rw [HN.out]; exact hl
  have hmk : ∀ W : World, (Instr.makeSlice 36 (.int .i64 0) (.int .i64 (N : Int))).run Try.prog W = .ok (.slice (some ⟨W.heap.size, 0, none⟩) 0 N) (W.alloc (.cells (madeCells #[.int .i64 0] N) 2)) := fun W => by
    have := run_make (P := Try.prog) W 36 2 i0 (.int .i64 0) Try.underlying36 hi hz0 .i64 .i64 0 N (Int.le_refl _) (by omega) (by rw [hz2]; omega) (by omega)
    simpa [hz1, Value.cells] using this
  obtain ⟨W0, hW0⟩ : ∃ W0, w.alloc (.cells #[.slice ao N cap] 24) = W0 := ⟨_, rfl⟩
  have hb0 : Below w.heap.size w W0 := by rw [← hW0]; exact one_new _ _
  have hs0 : W0.heap.size = w.heap.size + 1 := by rw [← hW0]; simp
  have c0 : W0.cell? ⟨w.heap.size, 0, none⟩ = some (.slice ao N cap) := by rw [← hW0]; exact cell_of_one (heap_alloc_new _ _)
  have HV : Hid (VxAt W0 P ao G) := h.new hb0
  have HB0 : Hid _ := hb0
  have HS0 : Hid _ := hs0
  have HR : Hid _ := hr
  rw [← HN.out]
  clear h hr hb0 hs0 hl
  go_enter Try.func53, Try.ntmps53
  go_upto_region 2 with (fail)
  generalize hW1 : World.alloc W0 _ = W1
  have hb1 : Below W0.heap.size W0 W1 := by rw [← hW1]; exact one_new _ _
  have HR1 : Hid (RwI W1 2 W0.heap.size (.slice (some ⟨W0.heap.size, 0, none⟩) 0 N) []) := by
    rw [← hW1]
    exact World.ownsRow_made W0 _ N (Nat.le_refl _) (by unfold maxLen; omega) (by rw [size_madeCells]; simp)
  have HB1 : Hid _ := hb1
  have c1 := (hb1.cell (p := ⟨w.heap.size, 0, none⟩) (lt_cell c0)).trans c0
  clear hW1 hb1 hmk
  go_upto_block 0 with (fail)
  go_wp2
  go_loopw [3, 5, 13] (fun u _ i wr => ∃ (j : Nat) (bo : Option Addr) (c : Nat), j ≤ N ∧ u = .slice bo j c ∧ i = .int .i64 j ∧ Hid (wr.ownsRow W0.heap.size 2 1 (.slice bo j c) j (((ids G).take j).map (Value.int .i64))) ∧ Hid (Below W0.heap.size W0 wr) ∧ Hid (∃ g, bo = some ⟨g, 0, none⟩)) (fun _ _ i _ => N - (intOf i).toNat)
  case atStart => exact ⟨0, _, _, Nat.zero_le _, rfl, rfl, HR1.out, HB1.out, ⟨_, rfl⟩⟩
  case round =>
    obtain ⟨j, bo, c, hj, rfl, rfl, HO, HB, HG⟩ := hrel
    clear HR1 HB1
    by_cases hlt : j < N
    · have hjG : j < G.length := by rw [← HN.out]; exact hlt
      obtain ⟨b, off, rfl, hP, hc⟩ := HV.out (by omega)
      obtain ⟨eo, ec, e0, e1, e2, _⟩ := hc j hjG
      have hbl := lt_cell e0
      have d0 := (HB.out.cell (p := ⟨b, off + j * 3, none⟩) hbl).trans e0
      have d1 := (HB.out.cell (p := ⟨b, off + j * 3 + 1, none⟩) hbl).trans e1
      have d2 := (HB.out.cell (p := ⟨b, off + j * 3 + 2, none⟩) hbl).trans e2
      have HS : Hid ((ids G).take (j + 1) = (ids G).take j ++ [G[j].id]) := by
        show _ = _
        rw [List.take_succ_eq_append_getElem (by rw [ids_len]; exact hjG), ids_get G j hjG]
      have HL : Hid (j = ((ids G).take j).length) := by show _ = _; rw [List.length_take, ids_len]; omega
      generalize G[j].id = x at d0 HS
      generalize G[j].val = y at d1
      generalize G[j].es.length = en at d2
      have hwsz := HB.out.size
      clear hc e0 e1 e2
      go_wp2_with (at_builtin; refine wpList_append_own_at _ rfl _ _ 36 rfl W0.heap.size 2 i0 (.int .i64 0) 1 8 Try.underlying36 hi hz0 hz1 hz2 rfl (by decide) (.slice bo j c) j (((ids G).take j).map (Value.int .i64)) rfl (so_new HO.out (((Below.refl _ wr).alloc (Nat.le_refl _) _).alloc (by simp) _)) ⟨wr.heap.size + 1, 0, none⟩ 1 1 [.int .i64 x] rfl rfl (s_one1 (by have := heap_alloc_new (wr.alloc (.cells #[.int .i64 x, .int .i64 y, .slice eo en ec] 56)) (.cells #[.int .i64 x] 2); rw [World.size_alloc] at this; exact this)) (s_oneI _) (by unfold maxLen; omega) (by omega) (by simp; omega) ?_)
      intro v' w4 hown hgrow hne hat
      have hM4 : RwI w4 2 W0.heap.size v' ((ids G).take (j + 1)) := by rw [HS.out]; rw [← List.map_take] at hown; exact ri_snoc HL.out hown
      have hB3 : Below W0.heap.size W0 ((wr.alloc (.cells #[.int .i64 x, .int .i64 y, .slice eo en ec] 56)).alloc (.cells #[.int .i64 x] 2)) := (HB.out.alloc HB.out.size _).alloc (by simp; omega) _
      have hB4 : Below W0.heap.size W0 w4 := hB3.trans ((Fr.grown hgrow (S := fun k => W0.heap.size ≤ k) (fun k hk => (World.ownsRow.lt HO.out k hk).1)).below hB3.size (fun k hk => hk))
      obtain ⟨g', c', rfl⟩ := ri_some hM4 (fun e => by first | exact hne e | (have := (hne.1 e).2; omega))
      obtain ⟨bo', hbo'⟩ : ∃ bo', some (⟨g', 0, none⟩ : Addr) = bo' := ⟨_, rfl⟩
      have HG' : Hid (∃ g, bo' = some ⟨g, 0, none⟩) := ⟨g', hbo'.symm⟩
      rw [hbo'] at hM4 ⊢
      clear hbo'
      have e1 : ((ids G).take (j + 1)).length = j + 1 := by rw [List.length_take, ids_len]; omega
      unfold RwI at hM4
      rw [e1] at hM4 ⊢
      have HM4 : Hid _ := hM4
      have HB4 : Hid _ := hB4
      clear hM4 hB3 hB4 hown hgrow hne hat e1
      go_wp2
      go_roundw
      case rel => exact ⟨j + 1, bo', c', by omega, rfl, by go_num, HM4.out, HB4.out, HG'.out⟩
      case measure => simp [intOf]; omega
    · obtain rfl : j = N := by omega
      have hRI : RwI wr 2 W0.heap.size (.slice bo j c) (ids G) := by
        have := HO.out
        rw [List.take_of_length_le (by rw [ids_len, HN.out]; exact Nat.le_refl _)] at this
        unfold RwI
        rw [ids_len, ← HN.out]
        exact this
      have hil : (ids G).length ≤ 256 := by rw [ids_len, ← HN.out]; exact hN
      have HRI : Hid _ := hRI
      have HSo : Hid _ := sort64_row (by omega) hRI
      clear hRI
      go_wp2_with (first
        | (go_at_call 58; refine Calls.mono HSo.out ?_; rintro r w2 ⟨rfl, hR2, hf2⟩; rw [srt_rise HR.out] at hR2; have HF2 : Hid (Fr wr w2 (fun k => (Value.slice bo j c).ownBlock = some k)) := hf2; have hC := comp64_row (by omega) hR2; rw [comp_rise HR.out] at hC; have HC : Hid _ := hC; clear hR2 hf2 hC)
        | (go_at_call 74; refine Calls.mono HC.out ?_; rintro r w3 ⟨v', rfl, hv', hR3, hf3⟩; have HF3 : Hid (Fr w2 w3 (fun k => (Value.slice bo j c).ownBlock = some k)) := hf3; have HR3 : Hid (RwI w3 2 W0.heap.size v' (ids G)) := hR3; have HV' : Hid (v'.ownBlock = (Value.slice bo j c).ownBlock) := hv'; clear hv' hR3 hf3))
      have hlo := fun k hk => (ri_lt HRI.out (k := k) hk)
      have hb3 : Below w.heap.size w w3 := by
        have h1 := HB0.out.trans (HB.out.mono HB0.out.size)
        have f := HF2.out.trans HF3.out (fun _ _ h => h)
        exact h1.trans (f.below h1.size (fun k hk => by have := hlo k hk; have := HS0.out; omega))
      have hR := HR3.out
      obtain ⟨gg, rfl⟩ := HG.out
      obtain ⟨vc, rfl⟩ := ri_own hR HV'.out
      refine bodyPost_ret (v := .slice (some ⟨gg, 0, none⟩) (ids G).length vc) (by simp [results, Try.results53, go_sem]) rfl ?_
      exact ⟨⟨gg, vc, rfl, ri_low hR (by have := HS0.out; omega)⟩, hb3⟩
end Go.Proofs.Ytfidojdolbmjdaa
