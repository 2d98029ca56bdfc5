/- graph.Of: the vertices of a partition, copied. -/
import Derived.Test.YthnhmhjcpdomcaaGrClone2
import Derived.Deep.RegionLaw
import Derived.Deep.Cut
import Derived.Deep.DeepCutAuto
import Derived.BigRegion
namespace Go.Proofs.Ythnhmhjcpdomcaa
open Go.RowKit
def inPart (parts p : Int) (v : Vx) : Bool := partN v.id parts == p
def partG (G : List Vx) (parts p : Int) : List Vx := G.filter (inPart parts p)
theorem partG_yes {G : List Vx} {parts p : Int} {j : Nat} (h : j < G.length) (e : partN G[j].id parts = p) : partG (G.take (j + 1)) parts p = partG (G.take j) parts p ++ [G[j]] := by
  unfold partG
  rw [List.take_succ_eq_append_getElem h, List.filter_append]
  simp [inPart, e]
theorem partG_no {G : List Vx} {parts p : Int} {j : Nat} (h : j < G.length) (e : partN G[j].id parts ≠ p) : partG (G.take (j + 1)) parts p = partG (G.take j) parts p := by
  unfold partG
  rw [List.take_succ_eq_append_getElem h, List.filter_append]
  simp [inPart, e]
theorem partG_le (G : List Vx) (parts p : Int) (j : Nat) (h : j ≤ G.length) : (partG (G.take j) parts p).length ≤ j := by
  refine Nat.le_trans (List.length_filter_le _ _) ?_
  rw [List.length_take]; omega
theorem four_at {W : World} {L q : Nat} {u x y z : Value} (h0 : W.cell? ⟨L, 0, none⟩ = some u) (h1 : W.heap[q]? = some (.cells #[x, y, z] 84 (0, 0))) : W.cell? ⟨L, 0, none⟩ = some u ∧ W.cell? ⟨q, 0, none⟩ = some x ∧ W.cell? ⟨q, 1, none⟩ = some y ∧ W.cell? ⟨q, 2, none⟩ = some z := ⟨h0, by simp [World.cell?, h1], by simp [World.cell?, h1], by simp [World.cell?, h1]⟩
theorem ofnew_below {W w1 : World} (h : Below W.drew.heap.size W.drew w1) : Below W.heap.size W w1 := ((Below.refl W.heap.size W).drew).trans h
set_option maxRecDepth 100000 in
set_option maxHeartbeats 2000000 in
theorem of_fn {w : World} {P : Nat → Prop} {ao : Option Addr} (G : List Vx) (cap : Nat) (part parts : Int) (h : VxAt w P ao G) (hok : ∀ v ∈ G, v.ok) (hl : G.length * 40 ≤ 140737488355328) (hp : I64 parts) :
    Calls Try.prog 53 #[.agg #[.slice ao G.length cap], .int .i64 part, .int .i64 parts] w fun r w' => ∃ bo c, r = .returned (.func (.func 81) #[] #[.pointer (some ⟨w.heap.size + 1, 0, none⟩)]) ∧ w'.heap[w.heap.size + 1]? = some (.cells #[.slice bo (partG G parts part).length c] 22 (0, 0)) ∧ VxAt w' (fun k => w.heap.size + 1 + 1 ≤ k) bo (partG G parts part) ∧ Below w.heap.size w w' := by
  obtain ⟨i0, hi, hz0, hz1, hz2⟩ := info_parts infoVx
  have hmf : ∀ (fn : Fn) (first cap : Array Value) (w : World), (Instr.makeFunc fn first cap).run Try.prog w = .ok (.func fn first cap) w := fun _ _ _ _ => rfl
  have HG : Hid (VxAt w P ao G) := h
  have HOk : Hid (∀ v ∈ G, v.ok) := hok
  have HP : Hid _ := hp
  clear h hok hp
  go_enter Try.func53, Try.ntmps53
  go_wp2
  go_loopw [13] (fun i wr => ∃ (j : Nat) (fo : Option Addr) (m c : Nat), j ≤ G.length ∧ i = .int .i64 j ∧ VRow wr (w.heap.size + 1 + 1) 84 (.slice fo m c) (partG (G.take j) parts part) ∧ wr.heap[w.heap.size + 1]? = some (.cells #[.slice fo m c] 22 (0, 0)) ∧ Below w.heap.size w wr) (fun i _ => G.length - (intOf i).toNat)
  case atStart =>
    refine ⟨0, none, 0, 0, Nat.zero_le _, rfl, VRow.nil _ _ _, ?_, b2 _ _ _⟩
    have := heap_alloc_new (w.alloc (.cells #[.slice ao G.length cap] 24)) (.cells #[.slice none 0 0] 22)
    rw [World.size_alloc] at this
    exact this
  case round =>
    obtain ⟨j, fo, m, c, hj, rfl, hR, hq, hb⟩ := hrel
    by_cases hlt : j < G.length
    · obtain ⟨b, off, rfl, hP, hc⟩ := HG.out (by omega)
      obtain ⟨eo, ec, e0, e1, e2, e3⟩ := hc j hlt
      have hbb := lt_cell e0
      have d0 := (hb.cell (p := ⟨b, off + j * 3, none⟩) hbb).trans e0
      have d1 := (hb.cell (p := ⟨b, off + j * 3 + 1, none⟩) hbb).trans e1
      have d2 := (hb.cell (p := ⟨b, off + j * 3 + 2, none⟩) hbb).trans e2
      have HE : Hid (EdAt w P eo G[j].es) := e3
      have hlen : G[j].es.length ≤ 8796093022208 := (HOk.out _ (List.getElem_mem hlt)).len
      have HY : Hid (partN G[j].id parts = part → partG (G.take (j + 1)) parts part = partG (G.take j) parts part ++ [G[j]]) := partG_yes hlt
      have HN : Hid (partN G[j].id parts ≠ part → partG (G.take (j + 1)) parts part = partG (G.take j) parts part) := partG_no hlt
      have HLe : Hid ((partG (G.take j) parts part).length ≤ j) := partG_le G parts part j hj
      generalize G[j] = y at d0 d1 d2 HE hlen HY HN
      generalize hF : partG (G.take j) parts part = F at HY HN HLe hR
      have HR : Hid _ := hR
      have HQ : Hid _ := hq
      have HB : Hid _ := hb
      clear e0 e1 e2 e3 hc hR hq hb hF
      by_cases hpq : partN y.id parts = part
      · go_upto_region 6 with (go_at_call 80; refine (part_any _ _ _ HP.out).mono ?_; rintro r w0 ⟨rfl, rfl⟩)
        have hq1 : (wr.alloc (.cells #[.int .i64 y.id, .int .i64 y.val, .slice eo y.es.length ec] 84)).heap[wr.heap.size]? = some (.cells #[.int .i64 y.id, .int .i64 y.val, .slice eo y.es.length ec] 84 (0, 0)) := heap_alloc_new _ _
        have hR1 := VRow.new HR.out (one_new wr (.cells #[.int .i64 y.id, .int .i64 y.val, .slice eo y.es.length ec] 84))
        have hB1 : Below w.heap.size w (wr.alloc (.cells #[.int .i64 y.id, .int .i64 y.val, .slice eo y.es.length ec] 84)) := HB.out.alloc HB.out.size _
        have hq0 := (Below.heap_alloc wr (.cells #[.int .i64 y.id, .int .i64 y.val, .slice eo y.es.length ec] 84) _ (lt_of_block HQ.out)).trans HQ.out
        have lq := lt_of_block HQ.out
        have hE1 : EdAt (wr.alloc (.cells #[.int .i64 y.id, .int .i64 y.val, .slice eo y.es.length ec] 84)).drew P eo y.es := HE.out.new hB1.drew
        obtain ⟨W, hW⟩ : ∃ W, wr.alloc (.cells #[.int .i64 y.id, .int .i64 y.val, .slice eo y.es.length ec] 84) = W := ⟨_, rfl⟩
        rw [hW] at hq1 hR1 hB1 hq0 hE1 ⊢
        obtain ⟨q, hqq⟩ : ∃ q, wr.heap.size = q := ⟨_, rfl⟩
        rw [hqq] at hq1 lq ⊢
        obtain ⟨a0, a1⟩ := cl_one hq0
        obtain ⟨b0, b1, b2⟩ := box3 hq1
        have HR1 : Hid _ := hR1
        have HB1 : Hid _ := hB1
        have HE1 : Hid _ := hE1
        have HQ0 : Hid _ := hq0
        have HQ1 : Hid _ := hq1
        clear hR1 hB1 hE1 hq0 hq1 HR HQ HB HE hW hqq d0 d1 d2
        go_region_law (first
          | (refine step_append_own rfl (.tmp 23) (.tmp 26) 22 rfl (w.heap.size + 1 + 1) 84 i0 (.agg #[.int .i64 0, .int .i64 0, .slice none 0 0]) 3 40 Try.underlying22 hi hz0 hz1 hz2 rfl (by decide) (.slice fo m c) _ _ (by simp [Act.eval]) HHo.out ⟨w1.heap.size, 0, none⟩ 1 1 [.int .i64 y.id, .int .i64 y.val, .slice bo y.es.length bc'] (by simp [Act.eval]) rfl (three_new (heap_alloc_new _ _)) (by intro u hu; simp at hu; rcases hu with rfl | rfl | rfl <;> rfl) (by have := HLe.out; unfold maxLen; omega) (by have := HLe.out; omega) (by have := HS2.out; have := lt_of_block HQ1.out; rw [World.size_alloc]; omega) ?_; intro v' w4 hown hgrow hat; have hR4 := HGo.out w4 v' hown hgrow hat; have f4 : Fr (w1.alloc (.cells #[.int .i64 y.id, .int .i64 y.val, .slice bo y.es.length bc'] 84)) w4 (fun k => Value.ownBlock (.slice fo m c) = some k) := Fr.grown hgrow (fun k hk => hk); have hB4 : Below w.heap.size w w4 := (HB2.out.alloc HB2.out.size _).trans (f4.below (HB2.out.alloc HB2.out.size _).size (fun k hk => by have := (VRow.lt HR1.out k hk).1; omega)); have hq4 := (f4.block _ (by rw [World.size_alloc]; have := lt_of_block HQ2.out; omega) (fun hk => by have := (VRow.lt HR1.out _ hk).1; omega)).trans ((Below.heap_alloc w1 _ _ (lt_of_block HQ2.out)).trans HQ2.out); obtain ⟨a4, a5⟩ := cl_one hq4; obtain ⟨ao', m', c', rfl⟩ := own_any hown; have HR4 : Hid _ := hR4; have HB4 : Hid _ := hB4; have HQ4 : Hid _ := hq4; clear hR4 hB4 hq4 hown hgrow hat f4)
          | (go_simp; go_at_call 66; refine (clonev_any y ec HE1.out hlen).mono ?_; rintro r w1 ⟨bo, bc', rfl, hE2, hb1'⟩; have hb1 := ofnew_below hb1'; have hq2 := (hb1.block _ (lt_of_block HQ0.out)).trans HQ0.out; obtain ⟨a2, a3⟩ := cl_one hq2; have a6 := fun o => fr_cell (Fr.alloc w1 o (fun _ => False)) (fun h => h) a2; have HQ2 : Hid _ := hq2; have hR2 := VRow.new HR1.out hb1; have hE4 : EdAt (w1.alloc (.cells #[.int .i64 y.id, .int .i64 y.val, .slice bo y.es.length bc'] 84)) (fun k => w.heap.size + 1 + 1 ≤ k ∧ (Value.slice fo m c).ownBlock ≠ some k) bo y.es := (hE2.new (one_new _ _)).mono (fun k _ hk => ⟨by have h1 : W.heap.size ≤ k := hk.1; have := HB1.out.size; have := lt_of_block HQ1.out; omega, fun e => by have h1 : W.heap.size ≤ k := hk.1; have := (VRow.lt HR1.out k e).2; omega⟩); obtain ⟨M, ho, hgo⟩ := (hR2.new (one_new w1 (.cells #[.int .i64 y.id, .int .i64 y.val, .slice bo y.es.length bc'] 84))).app (ec := bc') hE4; have HGo : Hid _ := hgo; have HHo : Hid _ := ho; have HB2 : Hid (Below w.heap.size w w1) := HB1.out.trans (hb1.mono HB1.out.size); have HS2 : Hid (W.heap.size ≤ w1.heap.size) := hb1.size; clear hgo ho hE4 hE2 hR2 hq2 hb1 hb1'))
        all_goals
          have HR5 : Hid (VRow (w4.setCell ⟨w.heap.size + 1, 0, none⟩ (.slice ao' m' c')) (w.heap.size + 1 + 1) 84 (.slice ao' m' c') (F ++ [y])) := HR4.out.kept (Fr.setCell (S := fun k => k = w.heap.size + 1) w4 ⟨w.heap.size + 1, 0, none⟩ _ rfl) (fun k hk => by omega)
          have HQ5 : Hid _ := cl_set1 HQ4.out (.slice ao' m' c')
          have HB5 : Hid (Below w.heap.size w (w4.setCell ⟨w.heap.size + 1, 0, none⟩ (.slice ao' m' c'))) := HB4.out.setCell (p := ⟨w.heap.size + 1, 0, none⟩) (by simp) _
          go_wp2
          go_roundw
          case rel => exact ⟨j + 1, _, _, _, by omega, by go_num, by rw [HY.out hpq]; exact HR5.out, HQ5.out, HB5.out⟩
          case measure => simp [intOf]; omega
      · have HR5 := VRow.new HR.out (one_new wr (.cells #[.int .i64 y.id, .int .i64 y.val, .slice eo y.es.length ec] 84))
        have HQ5 := (Below.heap_alloc wr (.cells #[.int .i64 y.id, .int .i64 y.val, .slice eo y.es.length ec] 84) _ (lt_of_block HQ.out)).trans HQ.out
        have HB5 : Below w.heap.size w (wr.alloc (.cells #[.int .i64 y.id, .int .i64 y.val, .slice eo y.es.length ec] 84)) := HB.out.alloc HB.out.size _
        have H1 : Hid _ := HR5
        have H2 : Hid _ := HQ5
        have H3 : Hid _ := HB5
        clear HR5 HQ5 HB5
        go_wp2_with (go_at_call 80; refine (part_any _ _ _ HP.out).mono ?_; rintro r w0 ⟨rfl, rfl⟩)
        go_roundw
        case rel => exact ⟨j + 1, _, _, _, by omega, by go_num, by rw [HN.out hpq]; exact H1.out, H2.out, H3.out⟩
        case measure => simp [intOf]; omega
    · obtain rfl : j = G.length := by omega
      rw [List.take_length] at hR
      obtain ⟨hm, hV⟩ := hR.at_
      subst hm
      have HV : Hid _ := hV
      have HQ : Hid _ := hq
      have HB : Hid _ := hb
      clear hV hq hb hR
      go_wp2
      go_ret
      exact ⟨rfl, fo, ⟨c, HQ.out⟩, HV.out, HB.out⟩
end Go.Proofs.Ythnhmhjcpdomcaa
