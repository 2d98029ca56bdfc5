import Derived.Test.YtmpbdaogdahiiaaSpCmM
import Derived.Scope
/- spec.Core. -/
namespace Go.Proofs.Ytmpbdaogdahiiaa
open Go.RowKit Go.Shelf
attribute [local go_sem] Oper.semAt_some
theorem nearP_sym {G : List Vx} {i j : Nat} (h : nearP G i j) : nearP G j i := by
  refine ⟨fun e => h.1 e.symm, ?_⟩
  rcases h.2 with ⟨a, b, c⟩ | ⟨a, b, c⟩
  · exact .inr ⟨b, a, c⟩
  · exact .inl ⟨b, a, c⟩
theorem rise_nodup {L : List Int} (h : Rise L) : L.Nodup := by
  refine List.pairwise_iff_getElem.2 (fun i j hi hj hij e => ?_)
  have := h.lt j i hj hij
  omega
theorem rows2_near {G : List Vx} (hr : Rise (ids G)) (hth : thereE G = true) (he : (evs G).length ≤ 2048) : Rows2 (nearR G) G.length := by
  refine ⟨nearR_len G, fun i hi => rise_nodup (nearR_row hr hth he hi).1, fun i hi x hx => ?_, fun i hi hx => ?_, fun i j hi hj hx => ?_⟩
  · obtain ⟨j, e, hj⟩ := ((nearR_row hr hth he hi).2.2 x).1 hx
    exact ⟨j, nearP_lt hj, e⟩
  · obtain ⟨j, e, hj⟩ := ((nearR_row hr hth he hi).2.2 _).1 hx
    exact hj.1 (by omega)
  · obtain ⟨a, e, ha⟩ := ((nearR_row hr hth he hi).2.2 _).1 hx
    obtain rfl : j = a := by omega
    exact ((nearR_row hr hth he hj).2.2 _).2 ⟨i, rfl, nearP_sym ha⟩
/-- How many are there, in memory. -/
def nnW (m : Nat) (w : World) : Nat :=
  match w.heap[m]? with
  | some (.cells cs _ _) => cs.toList.countP (fun v => decide (0 ≤ intOf v))
  | _ => 0
theorem nnW_is {W : World} {m : Nat} {L : List Int} (h : IB W m L) : nnW m W = nnC L := by
  unfold IB at h
  unfold nnW nnC
  rw [h]
  simp only [List.countP_map]
  rfl
set_option maxRecDepth 100000 in
set_option maxHeartbeats 1600000 in
theorem core_any {w : World} {P : Nat → Prop} {ao : Option Addr} {G : List Vx} (cap : Nat) (kk : Int) (h : VxAt w P ao G) (hok : ∀ v ∈ G, v.ok) (hr : Rise (ids G)) (hth : thereE G = true) (hl : G.length ≤ 256) (he : (evs G).length ≤ 2048) :
    Calls Try.prog 14 #[.agg #[.slice ao G.length cap], .int .i64 kk] w fun r w' => (∃ m L R, r = .returned (.slice (some ⟨m, 0, none⟩) G.length G.length) ∧ IB w' m L ∧ CoreI (nearR G) G.length kk L R ∧ (∀ i, i < G.length → 0 ≤ L.getD i 0 → kk ≤ L.getD i 0) ∧ w.heap.size ≤ m) ∧ Below w.heap.size w w' := by
  obtain ⟨i0, hi, hz0, hz1, hz2⟩ := info_parts infoSI
  have HRow : Hid (∀ i, i < G.length → ((nearR G).getD i []).length ≤ 4096) := fun i hi => (nearR_row hr hth he hi).2.1
  have HR2 : Hid (Rows2 (nearR G) G.length) := rows2_near hr hth he
  have HWv : Hid (∀ W, Below w.heap.size w W → Calls Try.prog 31 #[.agg #[.slice ao G.length cap]] W fun r w' => (∃ gi ci g1 g2 B, r = .returned (.agg #[.slice (some ⟨gi, 0, none⟩) G.length ci, .slice (some ⟨g1, 0, none⟩) G.length G.length, .slice (some ⟨g2, 0, none⟩) G.length G.length]) ∧ WebAt w' W.heap.size gi ci g1 g2 B G.length (ids G) (foldW (ids G) G.length (evs G)).1 (nearR G)) ∧ Below W.heap.size W w') := fun W hb => weave_any cap (h.new hb) hok hr hth hl he
  have hNl := nearR_len G
  generalize (foldW (ids G) G.length (evs G)).1 = O at HWv
  generalize nearR G = N at HRow HR2 HWv hNl ⊢
  generalize ids G = I at HWv
  obtain ⟨n, hn⟩ : ∃ n, G.length = n := ⟨_, rfl⟩
  rw [hn] at HRow HR2 HWv hNl hl ⊢
  have hmk : ∀ W : World, (Instr.makeSlice 36 (.int .i64 (n : Int)) (.int .i64 (n : Int))).run Try.prog W = .ok (.slice (some ⟨W.heap.size, 0, none⟩) n n) (W.alloc (.cells (madeCells #[.int .i64 0] n) 2)) := fun W => by
    have := run_make (P := Try.prog) W 36 2 i0 (.int .i64 0) Try.underlying36 hi hz0 .i64 .i64 n n (by omega) (by omega) (by rw [hz2]; omega) (by omega)
    simpa [hz1, Value.cells] using this
  clear h hok hr hth he hn
  go_enter Try.func14, Try.ntmps14
  go_wp2
  refine wp_scope_straight ?_
  go_wp2_with (go_at_call 31; refine (HWv.out _ (one_new _ _)).mono ?_; rintro r w1 ⟨⟨gi, ci, g1, g2, B, rfl, hw1⟩, hb1⟩)
  obtain ⟨vs, hM⟩ := hw1.nm
  have HM : Hid _ := hM
  have hg2 := lt_of_block hM.blk
  have hs1 := hb1.size
  rw [World.size_alloc] at hs1
  obtain ⟨m, hm⟩ : ∃ m, w1.heap.size + 1 = m := ⟨_, rfl⟩
  have hmw : w1.heap.size < m := by omega
  generalize hW2 : World.alloc (World.alloc w1 _) _ = W2
  have HI0 : Hid (IB W2 m (lenF N n 0)) := by
    rw [lenF_zero, ← hW2, ← hm]
    have := IB.made (w1.alloc (.cells #[.slice (some ⟨gi, 0, none⟩) n ci, .slice (some ⟨g1, 0, none⟩) n n, .slice (some ⟨g2, 0, none⟩) n n] 76)) n
    rw [World.size_alloc] at this
    exact this
  have HWb : Hid (W2.heap[w1.heap.size]? = some (.cells #[.slice (some ⟨gi, 0, none⟩) n ci, .slice (some ⟨g1, 0, none⟩) n n, .slice (some ⟨g2, 0, none⟩) n n] 76 (0, 0))) := by
    rw [← hW2]
    exact ((one_new (w1.alloc (.cells #[.slice (some ⟨gi, 0, none⟩) n ci, .slice (some ⟨g1, 0, none⟩) n n, .slice (some ⟨g2, 0, none⟩) n n] 76)) _).block _ (by rw [World.size_alloc]; omega)).trans (heap_alloc_new _ _)
  have HF0 : Hid (Fr w1 W2 (fun k => k = m)) := by
    rw [← hW2]
    exact (Fr.alloc _ _ _).trans (Fr.alloc _ _ _) (fun _ _ h => h)
  have HBe : Hid (Below w.heap.size w w1) := (one_new w _).trans (hb1.mono (by rw [World.size_alloc]; omega))
  rw [hm]
  clear hW2 hM hw1 hb1 HWv hmk
  go_loopw [7, 8, 20] (fun _ _ i wr => ∃ j : Nat, j ≤ n ∧ i = .int .i64 j ∧ Hid (IB wr m (lenF N n j)) ∧ Hid (Fr W2 wr (fun k => k = m))) (fun _ _ i _ => n - (intOf i).toNat)
  case atStart => exact ⟨0, Nat.zero_le _, rfl, HI0.out, Fr.refl _ _⟩
  case round =>
    obtain ⟨j, hj, rfl, HI, HF⟩ := hrel
    by_cases hlt : j < n
    · have hjN : j < N.length := by rw [hNl]; exact hlt
      have hM2 := HM.out.kept (HF0.out.trans HF.out (fun _ _ h => h)) (by omega) (fun k hk e => by have := (HM.out.lt hk).2; omega)
      obtain ⟨u, hu, cu, fu, ou⟩ := hM2.at_ hjN
      rw [flat_I1] at ou
      have gN : N.getD j [] = N[j] := by simp [List.getD, hjN]
      have hr1 := HRow.out j hlt
      obtain ⟨p, c0, rfl⟩ : ∃ p c, u = .slice p (N.getD j []).length c := by
        obtain ⟨a1, a2, a3, rfl⟩ := own_any ou
        obtain ⟨e1, _⟩ := ri_at ou
        exact ⟨a1, a3, by rw [e1, gN]⟩
      have HS : Hid ((lenF N n j).set j ((N.getD j []).length : Int) = lenF N n (j + 1)) := lenF_set N n j
      generalize (N.getD j []).length = rl at cu hr1 HS
      have hjl : j < (lenF N n j).length := by rw [lenF_len]; exact hlt
      obtain ⟨a0, a1⟩ := IB.cell HI.out hjl
      generalize (lenF N n j)[j] = y at a0
      clear hM2 ou hu fu gN
      go_wp2
      generalize hW5 : World.setCell _ _ _ = W5
      have HI5 : Hid (IB W5 m (lenF N n (j + 1))) := by rw [← HS.out, ← hW5]; exact IB.set HI.out _ _
      have HF5 : Hid (Fr W2 W5 (fun q => q = m)) := by rw [← hW5]; exact HF.out.trans (Fr.setCell (S := fun q => q = m) _ _ _ rfl) (fun _ _ h => h)
      go_roundw
      case rel => exact ⟨j + 1, by omega, by go_num, HI5, HF5⟩
      case measure => simp [intOf]; omega
    · obtain rfl : j = n := by omega
      have HBd0 : Hid (∀ y ∈ lenF N j j, -1 ≤ y ∧ y ≤ 4096) := lenF_bd HRow.out
      go_wp2
      refine wp_label ?_
      go_wp2
      go_loopw [9, 10] (fun _ _ wr => ∃ (L : List Int) (R : List Nat), Hid (CoreI N j kk L R) ∧ Hid (∀ y ∈ L, -1 ≤ y ∧ y ≤ 4096) ∧ Hid (IB wr m L) ∧ Hid (Fr W2 wr (fun k => k = m))) (fun _ _ wr => nnW m wr)
      case atStart => exact ⟨lenF N j j, [], lenF_core N j kk, HBd0.out, HI.out, HF.out⟩
      case round =>
        obtain ⟨L, R, HC, HBd, HI1, HF1⟩ := hrel
        have HNn : Hid (nnW m wr = nnC L) := nnW_is HI1.out
        have hLl := HC.out.len
        go_wp2
        go_loopw [9, 10, 33] (fun _ _ i wy => ∃ q : Nat, q ≤ j ∧ i = .int .i64 q ∧ Hid (∀ a, a < q → 0 ≤ L.getD a 0 → kk ≤ L.getD a 0) ∧ Hid (wy = wr)) (fun _ _ i _ => j - (intOf i).toNat)
        case atStart => exact ⟨0, Nat.zero_le _, rfl, fun a ha => absurd ha (Nat.not_lt_zero _), rfl⟩
        case round =>
          obtain ⟨q, hq, rfl, HNo, HE⟩ := hrel
          obtain rfl := HE.out
          by_cases hlq : q < j
          · have hqL : q < L.length := by rw [hLl]; exact hlq
            obtain ⟨a0, a1⟩ := IB.cell HI1.out hqL
            have HGd : Hid (L.getD q 0 = L[q]) := by show _ = _; simp [List.getD, hqL]
            have HSt : Hid (0 ≤ L[q] → L[q] < kk → CoreI N j kk (lvF (N.getD q []) (L.set q (-1))) (R ++ [q])) := fun h1 h2 => HC.out.step HR2.out hlq (by rw [HGd.out]; exact h1) (by rw [HGd.out]; exact h2)
            have HMs : Hid (0 ≤ L[q] → nnC (lvF (N.getD q []) (L.set q (-1))) < nnC L) := fun h1 => nn_step _ hqL h1
            generalize L[q] = y at a0 HGd HSt HMs
            by_cases hy : 0 ≤ y
            · by_cases hyk : y < kk
              · have HLv : Hid (Calls Try.prog 34 #[.agg #[.slice (some ⟨gi, 0, none⟩) j ci, .slice (some ⟨g1, 0, none⟩) j j, .slice (some ⟨g2, 0, none⟩) j j], .int .i64 (q : Nat), .slice (some ⟨m, 0, none⟩) j j] wr fun r w' => r = .returned (.tuple #[]) ∧ IB w' m (lvF (N.getD q []) (L.set q (-1))) ∧ Fr wr w' (fun k => k = m)) := by
                  have hqN : q < N.length := by rw [hNl]; exact hlq
                  have hM2 := HM.out.kept (HF0.out.trans HF1.out (fun _ _ h => h)) (by omega) (fun k hk e => by have := (HM.out.lt hk).2; omega)
                  obtain ⟨u, hu, cu, fu, ou⟩ := hM2.at_ hqN
                  rw [flat_I1] at ou
                  have gN : N.getD q [] = N[q] := by simp [List.getD, hqN]
                  rw [← gN] at ou
                  exact leave_any q hlq cu ou (HR2.out.nat q hlq) HI1.out hLl HBd.out (fun e => by have := (HM.out.lt ⟨q, u, hu, e⟩).2; omega) (by omega) (HRow.out q hlq)
                have HWb' : Hid (wr.heap[w1.heap.size]? = some (.cells #[.slice (some ⟨gi, 0, none⟩) j ci, .slice (some ⟨g1, 0, none⟩) j j, .slice (some ⟨g2, 0, none⟩) j j] 76 (0, 0))) := (HF1.out.block _ (lt_of_block HWb.out) (by show ¬ _ = _; omega)).trans HWb.out
                have HBd' : Hid (∀ y ∈ lvF (N.getD q []) (L.set q (-1)), -1 ≤ y ∧ y ≤ 4096) := lvF_bd _ (fun y hy => by
                  rcases List.mem_or_eq_of_mem_set hy with h1 | h1
                  · exact HBd.out y h1
                  · omega)
                have HC' := HSt.out hy hyk
                have HMs' := HMs.out hy
                have HCh : Hid _ := HC'
                have HMh : Hid _ := HMs'
                clear HC' HMs'
                generalize lvF (N.getD q []) (L.set q (-1)) = L5 at HLv HBd' HCh HMh HSt HMs
                go_wp2_with (first
                  | (refine wpList_load_row rfl 76 _ rfl w1.heap.size rfl 76 #[.slice (some ⟨gi, 0, none⟩) j ci, .slice (some ⟨g1, 0, none⟩) j j, .slice (some ⟨g2, 0, none⟩) j j] (0, 0) _ HWb'.out Try.underlying76 rfl size_web ?_)
                  | (go_at_call 34; refine HLv.out.mono ?_; rintro r w5 ⟨rfl, hi5, f5⟩; have HI5 : Hid _ := hi5; have HF5 : Hid (Fr W2 w5 (fun k => k = m)) := HF1.out.trans f5 (fun _ _ h => h); clear hi5 f5))
                go_roundw
                case rel => exact ⟨L5, R ++ [q], HCh, HBd', HI5, HF5⟩
                case measure => rw [nnW_is HI5.out, HNn.out]; exact HMh.out
              · have HNo' : Hid (∀ a, a < q + 1 → 0 ≤ L.getD a 0 → kk ≤ L.getD a 0) := fun a ha h0 => by
                  by_cases e : a = q
                  · subst e
                    rw [HGd.out]
                    omega
                  · exact HNo.out a (by omega) h0
                clear HSt HMs
                go_wp2
                go_roundw
                case rel => exact ⟨q + 1, by omega, by go_num, HNo', trivial⟩
                case measure => simp [intOf]; omega
            · have HNo' : Hid (∀ a, a < q + 1 → 0 ≤ L.getD a 0 → kk ≤ L.getD a 0) := fun a ha h0 => by
                by_cases e : a = q
                · subst e
                  rw [HGd.out] at h0
                  omega
                · exact HNo.out a (by omega) h0
              clear HSt HMs
              go_wp2
              go_roundw
              case rel => exact ⟨q + 1, by omega, by go_num, HNo', trivial⟩
              case measure => simp [intOf]; omega
          · obtain rfl : q = j := by omega
            go_wp2
            go_ret
            have hFt : Fr w1 wr (fun k => k = m) := HF0.out.trans HF1.out (fun _ _ h => h)
            exact ⟨⟨m, L, R, rfl, HI1.out, HC.out, HNo.out, by omega⟩, HBe.out.trans (hFt.below HBe.out.size (fun k hk => by omega))⟩
end Go.Proofs.Ytmpbdaogdahiiaa
