import Derived.Test.YtfidojdolbmjdaaGrIterOM
import Derived.Test.YtfidojdolbmjdaaGrIterM
/- The iterator over a graph's edges, whose rounds own blocks. -/
namespace Go.Proofs.Ytfidojdolbmjdaa
open Go.RowKit Go.Shelf
attribute [local go_sem] Oper.semAt_some
set_option maxRecDepth 100000 in
set_option maxHeartbeats 4000000 in
theorem edges_T (Bs : Nat) (ao : Option Addr) (cap : Nat) (G : List Vx) (hlG : G.length ≤ 9223372036854775807) (hok : ∀ v ∈ G, v.ok) (w : World) (O P : Nat → Prop) (hO : ∀ k, O k → k < w.heap.size) (hBs : w.cell? ⟨Bs, 0, none⟩ = some (.slice ao G.length cap)) (hG : VxAt w P ao G) (hP : ∀ k, k < w.heap.size → P k → O k) :
    SeqT Try.prog 91 #[.pointer (some ⟨Bs, 0, none⟩)] encE (fun _ _ _ => True) (fun ys => ys = evs G) (fun pre => pre <+: evs G) O w := by
  intro l J Jx T0 W hW hl1 hl2 hT0 hJ hJx hY h0
  have hG' : VxAt W O ao G := hG.kept (Fr.ofBelow hW (fun _ => False)) (fun k hk hp => ⟨fun h => h, hP k hk hp⟩)
  have hBs' := (hW.cell (p := ⟨Bs, 0, none⟩) (lt_cell hBs)).trans hBs
  have hO' : ∀ k, O k → k < W.heap.size := fun k hk => Nat.lt_of_lt_of_le (hO k hk) hW.size
  have hw0 : Ow W W O T0 := ⟨Fr.refl _ _, fun k ho ht => (hT0 k ht).2 ho, fun k hk => (hT0 k hk).1⟩
  clear hG hBs hP hT0 hO
  refine (callsIn_wide (n := 9)).1 ?_
  refine callsIn_of_wp Try.func91 rfl trivial ?_ rfl
  simp only [Try.ntmps91, List.size_toArray, List.length_cons, List.length_nil, Nat.reduceAdd, Nat.reduceSub, Array.replicate_succ, Array.replicate_zero, List.push_toArray, List.append_toArray, List.nil_append, List.cons_append]
  gi_wp2
  gi_loopw [4, 6, 10] (fun _ _ i wr => ∃ (k : Nat) (T : Nat → Prop), k ≤ G.length ∧ i = .int .i64 k ∧ J (evs (G.take k)) T wr ∧ Ow W wr O T) (fun _ _ i _ => G.length - (intOf i).toNat)
  case atStart => exact ⟨0, T0, Nat.zero_le _, rfl, h0, hw0⟩
  case round =>
    obtain ⟨k, T, hk, rfl, hJs, hnx⟩ := hrel
    by_cases hlt : k < G.length
    · obtain ⟨b, off, rfl, hP, hc⟩ := hG' (by omega)
      obtain ⟨eo, ec, c0, c1, c2, c3⟩ := hc k hlt
      have d0 := hnx.cell hP c0
      have d1 := hnx.cell hP c1
      have d2 := hnx.cell hP c2
      have HI : Hid (∀ j, evs (G.take k) ++ (G[k].es.take j).map (fun e => (G[k].id, e)) <+: evs G) := evs_in G k hlt
      have HS : Hid (evs (G.take (k + 1)) = evs (G.take k) ++ G[k].es.map fun e => (G[k].id, e)) := evs_snoc G k hlt
      have hlen : G[k].es.length ≤ 9223372036854775807 := Nat.le_trans (hok _ (List.getElem_mem hlt)).len (by decide)
      generalize G[k] = y at d0 d1 d2 c3 HI HS hlen
      clear c0 c1 c2 hc
      obtain ⟨wo, rfl⟩ : ∃ wo, wo = wr := ⟨_, rfl⟩
      obtain ⟨bv, hbv⟩ : ∃ bv, wo.heap.size = bv := ⟨_, rfl⟩
      have hTb : ¬ T bv := fun h => by have := hnx.inn bv h; omega
      gi_wp2
      gi_loopw [6, 17] (fun _ i wx => ∃ (j : Nat) (T' : Nat → Prop), j ≤ y.es.length ∧ i = .int .i64 j ∧ J (evs (G.take k) ++ (y.es.take j).map (fun e => (y.id, e))) T' wx ∧ Ow W wx O T' ∧ wx.heap[bv]? = some (.cells #[.int .i64 y.id, .int .i64 y.val, .slice eo y.es.length ec] 56 (0, 0)) ∧ ¬ T' bv) (fun _ i _ => y.es.length - (intOf i).toNat)
      case atStart =>
        refine ⟨0, T, Nat.zero_le _, rfl, ?_, hnx.new ((Below.refl _ _).alloc (Nat.le_refl _) _), by rw [← hbv]; exact heap_alloc_new _ _, hTb⟩
        simp only [List.take_zero, List.map_nil, List.append_nil]
        exact hJ _ _ _ _ hJs (Fr.alloc _ _ _)
      case round =>
        obtain ⟨j, T1, hj, rfl, hJj, hnj, hbx, hTv⟩ := hrel
        by_cases hjl : j < y.es.length
        · obtain ⟨eb, eoff, rfl, hPe, hce⟩ := c3 (by omega)
          obtain ⟨e0, e1⟩ := hce j hjl
          have f0 := hnj.cell hPe e0
          have f1 := hnj.cell hPe e1
          obtain ⟨q0, q1, q2⟩ := box3 hbx
          have hbl := lt_cell q0
          have HT : Hid (∀ x, (y.es.take (j + 1)).map (fun e => (x, e)) = (y.es.take j).map (fun e => (x, e)) ++ [(x, y.es[j])]) := take_snoc_map hjl
          generalize y.es[j] = z at f0 f1 HT
          have hJ2 : ∀ o, J (evs (G.take k) ++ (y.es.take j).map (fun e => (y.id, e))) T1 (wr.alloc o) := fun o => hJ _ _ _ _ hJj (Fr.alloc _ _ _)
          have hpl : (evs (G.take k) ++ (y.es.take j).map (fun e => (y.id, e))) ++ [(y.id, z)] <+: evs G := by
            have h1 := HI.out (j + 1)
            rw [HT.out, ← List.append_assoc] at h1
            exact h1
          obtain ⟨fn, tmps, assign, body, hy, hR⟩ := hY _ T1 (y.id, z) (wr.alloc (.cells #[.int .i64 z.t, .int .i64 z.w] 53)) (hJ2 _) trivial hpl (9 - 1)
          dsimp only [encE] at hy
          gi_wp2
          refine hR.mono ?_
          rintro e W3 ⟨T2, hg3, (⟨rfl, f3, hJ3⟩ | ⟨rfl, f3, hJx3⟩)⟩
          · obtain ⟨hb3, hT3⟩ := Ow.keep ((Below.heap_alloc wr _ bv hbl).trans hbx) hTv f3 hg3
            have hnl : Ow W W3 O T2 := (hnj.new ((Below.refl _ _).alloc (Nat.le_refl _) _)).round hO' f3 hg3
            gi_wp2
            go_roundw
            case rel => exact ⟨j + 1, T2, by omega, by go_num, by rw [HT.out, ← List.append_assoc]; exact hJ3, hnl, hb3, hT3⟩
            case measure => simp [intOf]; omega
          · gi_wp2
            refine bodyPost_ret (results_none rfl _ _ _) rfl ?_
            exact ⟨⟨_, rfl⟩, .inr ⟨_, T2, by have := HI.out (j + 1); rw [HT.out, ← List.append_assoc] at this; exact this, hJx3⟩⟩
        · obtain rfl : j = y.es.length := by omega
          gi_wp2
          go_roundw
          case rel => exact ⟨k + 1, T1, by omega, by go_num, by rw [HS.out]; simpa using hJj, hnj⟩
          case measure => simp [intOf]; omega
    · obtain rfl : k = G.length := by omega
      gi_wp2
      go_end0
      rw [List.take_length] at hJs
      exact ⟨⟨_, rfl⟩, .inl ⟨_, T, rfl, hJs⟩⟩
end Go.Proofs.Ytfidojdolbmjdaa
