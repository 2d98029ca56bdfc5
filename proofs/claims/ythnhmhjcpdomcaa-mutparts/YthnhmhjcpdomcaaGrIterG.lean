/- The iterator over a partition's vertices, which gives their edges away. -/
import Derived.Test.YthnhmhjcpdomcaaGrIterT
import Derived.Test.YthnhmhjcpdomcaaMuClone
import Derived.Test.YthnhmhjcpdomcaaRfG
namespace Go.Proofs.Ythnhmhjcpdomcaa
open Go.RowKit Go.Shelf
attribute [local go_sem] Oper.semAt_some
theorem Ow.more {W wr : World} {O T G : Nat → Prop} (h : Ow W wr O T) (h1 : ∀ k, O k → ¬ G k) (h2 : ∀ k, G k → k < wr.heap.size) : Ow W wr O (fun k => T k ∨ G k) :=
  ⟨h.fr, fun k ho ht => ht.elim (h.off k ho) (h1 k ho), fun k ht => ht.elim (h.inn k) (h2 k)⟩
/-- A vertex that is yielded, with the slice of its edges. -/
def encG (x : Vx × Value) : Array Value := #[.agg #[.int .i64 x.1.id, .int .i64 x.1.val, x.2]]
set_option maxRecDepth 100000 in
set_option maxHeartbeats 4000000 in
theorem of1_G (Bs : Nat) (ao : Option Addr) (cap : Nat) (G : List Vx) (hlG : G.length ≤ 9223372036854775807) (hok : ∀ v ∈ G, v.ok) (w : World) (O P : Nat → Prop) (hO : ∀ k, O k → k < w.heap.size) (hBs : w.cell? ⟨Bs, 0, none⟩ = some (.slice ao G.length cap)) (hG : VxAt w P ao G) (hP : ∀ k, k < w.heap.size → P k → O k) :
    SeqG Try.prog 81 #[.pointer (some ⟨Bs, 0, none⟩)] encG (fun x k => x.2.ownBlock = some k) (fun x T W => W.ownsRow 0 81 2 x.2 x.1.es.length (ecs x.1.es) ∧ ∀ k, x.2.ownBlock = some k → ¬ T k) (fun ys => ys.map (·.1) = G) (fun pre => pre.map (·.1) <+: G) O w := by
  intro l J Jx T0 W hW hl1 hl2 hT0 hJ hJx hY h0
  have hG' : VxAt W O ao G := hG.kept (Fr.ofBelow hW (fun _ => False)) (fun k hk hp => ⟨fun h => h, hP k hk hp⟩)
  have hBs' := (hW.cell (p := ⟨Bs, 0, none⟩) (lt_cell hBs)).trans hBs
  have hO' : ∀ k, O k → k < W.heap.size := fun k hk => Nat.lt_of_lt_of_le (hO k hk) hW.size
  have hw0 : Ow W W O T0 := ⟨Fr.refl _ _, fun k ho ht => (hT0 k ht).2 ho, fun k hk => (hT0 k hk).1⟩
  clear hG hBs hP hT0 hO
  refine (callsIn_wide (n := 9)).1 ?_
  refine callsIn_of_wp Try.func81 rfl trivial ?_ rfl
  simp only [Try.ntmps81, List.size_toArray, List.length_cons, List.length_nil, Nat.reduceAdd, Nat.reduceSub, Array.replicate_succ, Array.replicate_zero, List.push_toArray, List.append_toArray, List.nil_append, List.cons_append]
  gi_wp2
  gi_loopw [4, 7] (fun _ i wr => ∃ (k : Nat) (ys : List (Vx × Value)) (T : Nat → Prop), k ≤ G.length ∧ i = .int .i64 k ∧ Hid (ys.map (·.1) = G.take k) ∧ J ys T wr ∧ Ow W wr O T) (fun _ i _ => G.length - (intOf i).toNat)
  case atStart => exact ⟨0, [], T0, Nat.zero_le _, rfl, rfl, h0, hw0⟩
  case round =>
    obtain ⟨k, ys, T, hk, rfl, HYs, hJs, hnx⟩ := hrel
    by_cases hlt : k < G.length
    · obtain ⟨b, off, rfl, hP, hc⟩ := hG' (by omega)
      obtain ⟨eo, ec, c0, c1, c2, c3⟩ := hc k hlt
      have d0 := hnx.cell hP c0
      have d1 := hnx.cell hP c1
      have d2 := hnx.cell hP c2
      have HS : Hid (G.take (k + 1) = G.take k ++ [G[k]]) := List.take_succ_eq_append_getElem hlt
      have HPre : Hid (G.take (k + 1) <+: G) := List.take_prefix _ _
      have hlen : G[k].es.length ≤ 8796093022208 := (hok _ (List.getElem_mem hlt)).len
      generalize G[k] = y at d0 d1 d2 c3 HS hlen
      have hyl : ∀ z : Value, (ys ++ [(y, z)]).map (·.1) <+: G := fun z => by rw [List.map_append, HYs.out]; have := HPre.out; rw [HS.out] at this; exact this
      have HE : Hid (EdAt W O eo y.es) := c3
      have hE1 : EdAt (wr.alloc (.cells #[.int .i64 y.id, .int .i64 y.val, .slice eo y.es.length ec] 84)) O eo y.es := (HE.out.kept hnx.fr (fun k _ ho => ⟨fun hn => hn ho, ho⟩)).new (one_new _ _)
      have HE1 : Hid _ := hE1
      clear c0 c1 c2 c3 hc hE1
      have hw1 := hnx.new (one_new wr (.cells #[.int .i64 y.id, .int .i64 y.val, .slice eo y.es.length ec] 84))
      have hJ1 := hJ _ _ _ _ hJs (Fr.alloc wr (.cells #[.int .i64 y.id, .int .i64 y.val, .slice eo y.es.length ec] 84) _)
      gi_wp2_with (refine ⟨trivial, ?_⟩; gi_at_call 66; refine (callsIn_wide.2 (clonevW_any y ec HE1.out hlen)).mono ?_; rintro r w1 ⟨ev, rfl, hE2, hb1⟩; obtain ⟨bo, mm, bc', rfl⟩ := own_any hE2; obtain ⟨fn, tmps, assign, body, hy, hR⟩ := hY _ T (y, .slice bo mm bc') w1 (hJ _ _ _ _ hJ1 (Fr.ofBelow hb1 _)) ⟨own_low hE2 (Nat.zero_le _), fun k hk ht => by have h1 := (hE2.lt k hk).1; rw [World.size_alloc] at h1; have := hnx.inn k ht; omega⟩ (fun k hk => ⟨by have h1 := (hE2.lt k hk).1; rw [World.size_alloc] at h1; have := hnx.fr.size; omega, (hE2.lt k hk).2⟩) (hyl _) (9 - 1); dsimp only [encG] at hy)
      refine hR.mono ?_
      rintro e W3 ⟨T2, hg3, (⟨rfl, f3, hJ3⟩ | ⟨rfl, f3, hJx3⟩)⟩
      · have hnl : Ow W W3 O T2 := ((hw1.new hb1).more (G := fun k => (Value.slice bo mm bc').ownBlock = some k) (fun k ho hk => by have h1 := (hE2.lt k hk).1; rw [World.size_alloc] at h1; have := hO' k ho; have := hnx.fr.size; omega) (fun k hk => (hE2.lt k hk).2)).round hO' f3 hg3
        gi_wp2
        go_roundw
        case rel => exact ⟨k + 1, _, T2, by omega, by go_num, by rw [HS.out]; show _ = _; rw [List.map_append, HYs.out]; rfl, hJ3, hnl⟩
        case measure => simp [intOf]; omega
      · gi_wp2
        refine bodyPost_ret (results_none rfl _ _ _) rfl ?_
        exact ⟨⟨_, rfl⟩, .inr ⟨_, T2, hyl _, hJx3⟩⟩
    · obtain rfl : k = G.length := by omega
      gi_wp2
      go_end0
      have := HYs.out
      rw [List.take_length] at this
      exact ⟨⟨_, rfl⟩, .inl ⟨ys, T, this, hJs⟩⟩
end Go.Proofs.Ythnhmhjcpdomcaa
