/- GraphFinds: its walk, of a graph that may be and has vertices. -/
import Derived.Test.YtfajkfngjfhkoaaGrFindsB
import Derived.Deep.Cut
import Derived.Outline
namespace Go.Proofs.Ytfajkfngjfhkoaa
open Go.RowKit
theorem setV_first {H : List Vx} {k : Nat} {x0 a : Int} (hk : k < H.length) (hx : H[k].val = x0) (h1 : 0 < k → (H[0]'(by omega)).val = wrap64 (a + 1)) (h2 : k = 0 → (H[0]'(by omega)).val = a) : ((setV H k (wrap64 (x0 + 1)))[0]'(by rw [setV_len]; omega)).val = wrap64 (a + 1) := by
  rw [setV_at]
  by_cases e : k = 0
  · subst e
    rw [if_pos rfl]
    show wrap64 (x0 + 1) = _
    rw [← hx, h2 rfl]
  · rw [if_neg e]
    exact h1 (by omega)
theorem setV_es {H : List Vx} {k : Nat} {x : Int} (h : ∀ v ∈ H, v.es.length ≤ 8796093022208) : ∀ v ∈ setV H k x, v.es.length ≤ 8796093022208 := by
  intro v hv
  obtain ⟨j, hj, rfl⟩ := List.getElem_of_mem hv
  have hj' : j < H.length := by rw [setV_len] at hj; exact hj
  rw [setV_at]
  split
  · show (H[j]).es.length ≤ _
    exact h _ (List.getElem_mem _)
  · exact h _ (List.getElem_mem _)
theorem wrap_ne (a : Int) : wrap64 (a + 1) ≠ a := by
  unfold wrap64
  omega
/-- What the copy is, so far. -/
structure FH (G : List Vx) (v0 : Vx) (k : Nat) (H : List Vx) : Prop where
  len : H.length = G.length
  es : ∀ v ∈ H, v.es.length ≤ 8796093022208
  did : ∀ _ : 0 < H.length, 0 < k → H[0].val = wrap64 (v0.val + 1)
  not : ∀ _ : 0 < H.length, k = 0 → H[0].val = v0.val
theorem FH.step {G H H' : List Vx} {v0 : Vx} {k : Nat} {x0 : Int} (h : FH G v0 k H) (hk : k < H.length) (hx : H[k].val = x0) (hl : Like (setV H k (wrap64 (x0 + 1))) H') : FH G v0 (k + 1) H' := by
  obtain ⟨hll, hl⟩ := hl
  rw [setV_len] at hll
  refine ⟨hll.trans h.len, fun v hv => ?_, fun h0 _ => ?_, fun _ h0 => by omega⟩
  · obtain ⟨j, hj, rfl⟩ := List.getElem_of_mem hv
    rw [(hl j hj).2.2]
    exact setV_es h.es _ (List.getElem_mem _)
  · rw [(hl 0 h0).2.1]
    exact setV_first hk hx (h.did (by omega)) (h.not (by omega))
theorem setV_es_at {H : List Vx} {k : Nat} {x : Int} (hk : k < H.length) : ((setV H k x)[k]'(by rw [setV_len]; exact hk)).es = H[k].es := by
  rw [setV_at, if_pos rfl]
theorem same_changed {W w : World} {ao : Option Addr} {cap cb rb c7 : Nat} {G H : List Vx} {P : Nat → Prop} (v0 : Vx) (h : LF w W ao cap cb rb G.length c7 H) (hF : FH G v0 G.length H) (h0 : 0 < G.length) (hv : G[0] = v0) (hG : VxAt W P ao G) (hl : G.length ≤ 256) :
    Calls Try.prog 22 #[.agg #[.slice (some ⟨rb, 0, none⟩) G.length c7], .agg #[.slice ao G.length cap]] W fun r w' => r = .returned (.bool false) ∧ Below W.heap.size W w' := by
  have := same_any c7 cap h.cw.at_ hG (by rw [hF.len]; omega) (fun v hv => by have := hF.es v hv; omega)
  rw [hF.len] at this
  have e : sameG H G = false := sameG_at (k := 0) (by rw [hF.len]; exact h0) h0 (fun e => by
    have := hF.did (by rw [hF.len]; exact h0) h0
    rw [e, hv] at this
    exact wrap_ne _ this.symm)
  rw [e] at this
  exact this
set_option maxRecDepth 100000 in
set_option maxHeartbeats 4000000 in
theorem finds_more {w : World} {P : Nat → Prop} {ao : Option Addr} (G : List Vx) (cap : Nat) (id parts : Int) (h : VxAt w P ao G) (hok : ∀ v ∈ G, v.ok) (hc : chk G = 0) (h0 : 0 < G.length) (hp : I64 parts) :
    Calls Try.prog 5 #[.agg #[.slice ao G.length cap], .int .i64 id, .int .i64 parts] w fun r w' => r = .returned (.bool true) ∧ Below w.heap.size w w' := by
  obtain ⟨hl, hr⟩ := rise_of hc
  have HG : Hid (∀ W, Below w.heap.size w W → VxAt W P ao G) := fun W hb => h.new hb
  have HOk : Hid (∀ v ∈ G, v.ok) := hok
  have HC : Hid _ := hc
  have HR : Hid _ := hr
  have HSm : Hid (sameG G G = true) := (sameG_iff G G).2 rfl
  have hS0 : GB w (w.alloc (.cells #[.slice ao G.length cap] 24)) ao G.length cap := ⟨heap_alloc_new _ _, one_new _ _⟩
  have HS0 : Hid _ := hS0
  clear h hok hc hr hS0
  go_enter Try.func5, Try.ntmps5
  go_wp2_with (first
    | (go_at_call 11; refine (awake_any _).mono ?_; rintro r w1 ⟨rfl, hb1⟩; have hS1 := GB.new HS0.out hb1; have x1 := hS1.cell)
    | (go_at_call 13; first
      | (have := hS4; refine (ref_any G cap (HG.out _ hS4.low) HOk.out (by omega)).mono ?_; rintro r w5 ⟨bo5, c5, rfl, hV5, hb5⟩; have hS5 := hS4.new hb5; have x5 := hS5.cell)
      | (refine (ref_any G cap (HG.out _ hS1.low) HOk.out (by omega)).mono ?_; rintro r w2 ⟨bo2, c2, rfl, hV2, hb2⟩; have hS2 := hS1.new hb2; have x2 := hS2.cell))
    | (go_at_call 14; refine (refcheck_any c2 hV2 (by omega) HOk.out).mono ?_; rintro r w3 ⟨rfl, hb3⟩; rw [HC.out]; have hS3 := hS2.new hb3; have x3 := hS3.cell)
    | (go_at_call 16; refine (find_any cap id (HG.out _ hS3.low) hl HR.out).mono ?_; rintro r w4 ⟨rfl, hb4⟩; have hS4 := hS3.new hb4; have x4 := hS4.cell)
    | (go_at_call 20; refine (reffind_any c5 id hV5 (by omega)).mono ?_; rintro r w6 ⟨rfl, hb6⟩; have hS6 := hS5.new hb6; have x6 := hS6.cell)
    | (go_at_call 21; refine (clone_more G cap (HG.out _ hS6.low) HOk.out (by omega) h0).mono ?_; rintro r w7 ⟨rb, c7, rfl, hC7, hb7⟩; have hS7 := hS6.new hb7; have x7 := hS7.cell; have l7 := lt_of_block hS7.gb)
    | (go_at_call 22; refine (same_any c7 cap (hC7.new (one_new w7 (.cells #[.slice (some ⟨rb, 0, none⟩) G.length c7] 24))).at_ (HG.out _ (hS7.new (one_new w7 (.cells #[.slice (some ⟨rb, 0, none⟩) G.length c7] 24))).low) (by omega) (fun v hv => by have := (HOk.out v hv).len; omega)).mono ?_; rintro r w8 ⟨rfl, hb8⟩; rw [HSm.out]))
  have hF8 : LF w w8 ao cap w7.heap.size rb G.length c7 G := by
    have hb7' : Below w7.heap.size w7 w8 := (one_new w7 _).trans (hb8.mono (by rw [World.size_alloc]; omega))
    have hl6 := lt_of_block hS6.gb
    exact ⟨(hb7'.block _ (lt_of_block hS7.gb)).trans hS7.gb, (hb8.block _ (by rw [World.size_alloc]; omega)).trans (heap_alloc_new _ _), (hC7.new hb7').lower (by omega), hS7.low.trans (hb7'.mono hS7.low.size)⟩
  obtain ⟨v0, hv0⟩ : ∃ v0, G[0] = v0 := ⟨_, rfl⟩
  have HV0 : Hid _ := hv0
  have HF8 : Hid _ := hF8
  obtain ⟨cb, hcb⟩ : ∃ cb, w7.heap.size = cb := ⟨_, rfl⟩
  obtain ⟨fi, hfi⟩ : ∃ fi, findN (ids G) id = fi := ⟨_, rfl⟩
  obtain ⟨fo, hfo⟩ : ∃ fo, foundB (ids G) id = fo := ⟨_, rfl⟩
  rw [hcb] at HF8 ⊢
  rw [hfi, hfo]
  clear hF8 hv0 hS1 hS2 hS3 hS4 hS5 hS6 hS7 x1 x2 x3 x4 x5 x6 x7 hb1 hb2 hb3 hb4 hb5 hb6 hb7 hb8 hV2 hV5 hC7 l7 hcb HS0 hfi hfo HSm HC HR
  go_loopw [13] (fun i wr => ∃ (k : Nat) (H : List Vx), k ≤ G.length ∧ i = .int .i64 k ∧ Hid (FH G v0 k H) ∧ LF w wr ao cap cb rb G.length c7 H) (fun i _ => G.length - (intOf i).toNat)
  case atStart => exact ⟨0, G, Nat.zero_le _, rfl, ⟨rfl, fun v hv => (HOk.out v hv).len, fun _ h => absurd h (by omega), fun _ _ => by rw [HV0.out]⟩, HF8.out⟩
  case round =>
    obtain ⟨k, H, hk, rfl, HH, hF⟩ := hrel
    clear HF8
    have xc := (cl_one hF.cbx).1
    by_cases hlt : k < G.length
    · have hkH : k < H.length := by rw [HH.out.len]; exact hlt
      obtain ⟨eo, ec, e0, e1, e2, e3⟩ := hF.cw.vx k hkH
      have fz := soft_froz (o := k * 3 + 1) hF.cw.soft
      obtain ⟨x0, hx0⟩ : ∃ x0, H[k].val = x0 := ⟨_, rfl⟩
      rw [hx0] at e1
      have hlen : H[k].es.length ≤ 8796093022208 := HH.out.es _ (List.getElem_mem _)
      obtain ⟨ln, hln⟩ : ∃ ln, H[k].es.length = ln := ⟨_, rfl⟩
      rw [hln] at e2 hlen
      have HLn : Hid (∀ H', Like (setV H k (wrap64 (x0 + 1))) H' → ∃ h : k < H'.length, H'[k].es.length = ln) := fun H' hl => by
        obtain ⟨hll, hl⟩ := hl
        rw [setV_len] at hll
        refine ⟨by omega, ?_⟩
        rw [(hl k (by omega)).2.2, setV_es_at hkH, hln]
      have HFn : Hid (∀ H', Like (setV H k (wrap64 (x0 + 1))) H' → FH G v0 (k + 1) H') := fun H' hl => HH.out.step hkH hx0 hl
      have HL1 : Hid (∀ x, LF w (wr.setCell ⟨rb, k * 3 + 1, none⟩ (.int .i64 x)) ao cap cb rb G.length c7 (setV H k x)) := fun x => hF.val k x
      clear hF HH hx0 hln e3 e0 e2
      go_upto_region 13 with fail
      generalize hW : World.setCell _ _ _ = W
      have hF1 : LF w W ao cap cb rb G.length c7 (setV H k (wrap64 (x0 + 1))) := by rw [← hW]; exact HL1.out _
      have HF1 : Hid _ := hF1
      clear hW hF1 HL1 xc e1 fz
      go_wp2
      go_loopw [14] (fun i wx => ∃ (j : Nat) (H' : List Vx), j ≤ ln ∧ i = .int .i64 j ∧ Hid (Like (setV H k (wrap64 (x0 + 1))) H') ∧ LF w wx ao cap cb rb G.length c7 H') (fun i _ => ln - (intOf i).toNat)
      case atStart => exact ⟨0, _, Nat.zero_le _, rfl, Like.refl _, HF1.out⟩
      case round =>
        obtain ⟨j, H', hj, rfl, HL', hF'⟩ := hrel
        obtain ⟨hk', hln'⟩ := HLn.out H' HL'.out
        obtain ⟨eo', ec', g0, g1, g2, g3⟩ := hF'.cw.vx k hk'
        have yc := (cl_one hF'.cbx).1
        rw [hln'] at g2
        by_cases hjl : j < ln
        · obtain ⟨eb, eoff, rfl, hPe, hce⟩ := g3 (by omega)
          obtain ⟨y0, y1⟩ := hce j (by omega)
          obtain ⟨z, hz⟩ : ∃ z, (H'[k].es[j]'(by omega)).w = z := ⟨_, rfl⟩
          rw [hz] at y1
          have fz := soft_froz (o := eoff + j * 2 + 1) hPe.2.2.1
          have HN : Hid (∀ x, ∃ H'', Like (setV H k (wrap64 (x0 + 1))) H'' ∧ LF w (wr.setCell ⟨eb, eoff + j * 2 + 1, none⟩ (.int .i64 x)) ao cap cb rb G.length c7 H'') := fun x => by
            obtain ⟨H'', h1, h2⟩ := hF'.edge (eoff + j * 2 + 1) hPe x
            exact ⟨H'', HL'.out.trans h1, h2⟩
          clear hF' g3 hce hPe hln' hz HL' g0 g1 y0 hk'
          go_upto_region 15 with fail
          generalize hW : World.setCell _ _ _ = W2
          have hF2 : ∃ H'', Like (setV H k (wrap64 (x0 + 1))) H'' ∧ LF w W2 ao cap cb rb G.length c7 H'' := by rw [← hW]; exact HN.out _
          have HF2 : Hid _ := hF2
          clear hW hF2 HN yc y1 g2 fz
          go_wp2
          go_roundw
          case rel =>
            obtain ⟨H'', h1, h2⟩ := HF2.out
            exact ⟨j + 1, H'', by omega, by go_num, h1, h2⟩
          case measure => simp [intOf]; omega
        · obtain rfl : j = ln := by omega
          have HF2 : Hid _ := hF'
          clear hF' g3 hln' g0 g1 hk'
          go_wp2
          go_roundw
          case rel => exact ⟨k + 1, H', by omega, by go_num, HFn.out H' HL'.out, HF2.out⟩
          case measure => simp [intOf]; omega
    · obtain rfl : k = G.length := by omega
      have hn0 : ((G.length : Int) == 0) = false := by simpa using (by omega : ¬ G.length = 0)
      have HSc : Hid (∀ W, Below wr.heap.size wr W → Calls Try.prog 22 #[.agg #[.slice (some ⟨rb, 0, none⟩) G.length c7], .agg #[.slice ao G.length cap]] W fun r w' => r = .returned (.bool false) ∧ Below W.heap.size W w') := fun W hb => same_changed v0 (hF.new hb) HH.out h0 HV0.out (HG.out _ (hF.new hb).low) hl
      have HSg : Hid (∀ W, Below wr.heap.size wr W → Calls Try.prog 22 #[.agg #[.slice ao G.length cap], .agg #[.slice ao G.length cap]] W fun r w' => r = .returned (.bool true) ∧ Below W.heap.size W w') := fun W hb => by
        have := same_any cap cap (HG.out _ (hF.new hb).low) (HG.out _ (hF.new hb).low) (by omega) (fun v hv => by have := (HOk.out v hv).len; omega)
        rw [(sameG_iff G G).2 rfl] at this
        exact this
      have HF : Hid _ := hF
      have xg := (cl_one hF.gb).1
      clear hF HH
      go_wp2_with (first
        | (go_at_call 11; refine (awake_any _).mono ?_; rintro r u1 ⟨rfl, kb1⟩; have gF := HF.out.new kb1; have z1 := (cl_one gF.gb).1; have z2 := (cl_one gF.cbx).1; have HK1 : Hid _ := kb1; clear gF kb1)
        | (go_at_call 17; refine (part_any _ _ _ hp).mono ?_; rintro r u2 ⟨rfl, rfl⟩)
        | (go_at_call 18; refine (refpart_any _ _ _ hp).mono ?_; rintro r u3 ⟨rfl, rfl⟩)
        | (go_at_call 22; refine (HSc.out _ HK1.out).mono ?_; rintro r u4 ⟨rfl, kb4⟩; have HK4 : Hid _ := HK1.out.trans (kb4.mono HK1.out.size); have z3 := (cl_one (HF.out.new HK4.out).gb).1; clear kb4)
        | (go_at_call 22; refine (HSg.out _ HK4.out).mono ?_; rintro r u5 ⟨rfl, kb5⟩; have HK5 : Hid _ := HK4.out.trans (kb5.mono HK4.out.size)))

      go_ret
      exact ⟨rfl, (HF.out.new HK5.out).low⟩
end Go.Proofs.Ytfajkfngjfhkoaa
