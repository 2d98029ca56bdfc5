/- What 'of' of the statements returns: the vertices of a partition. -/
import Derived.Test.YtfajkfngjfhkoaaGrOf
import Derived.Test.YtfajkfngjfhkoaaGrIterV
import Derived.Maps.OwnIn
namespace Go.Proofs.Ytfajkfngjfhkoaa
open Go.RowKit Go.Shelf
attribute [local go_sem] Oper.semAt_some
def hcs (L : List (Vx × Option Addr × Nat)) : List Value := L.flatMap fun x => [.int .i64 x.1.id, .int .i64 x.1.val, .slice x.2.1 x.1.es.length x.2.2]
theorem hcs_snoc (L : List (Vx × Option Addr × Nat)) (x : Vx × Option Addr × Nat) : hcs (L ++ [x]) = hcs L ++ [.int .i64 x.1.id, .int .i64 x.1.val, .slice x.2.1 x.1.es.length x.2.2] := by simp [hcs]
theorem hcs_at : ∀ (L : List (Vx × Option Addr × Nat)) (j : Nat) (h : j < L.length), (hcs L)[j * 3]? = some (.int .i64 L[j].1.id) ∧ (hcs L)[j * 3 + 1]? = some (.int .i64 L[j].1.val) ∧ (hcs L)[j * 3 + 2]? = some (.slice L[j].2.1 L[j].1.es.length L[j].2.2)
  | [], j, h => absurd h (by simp)
  | x :: L, 0, _ => by simp [hcs]
  | x :: L, j + 1, h => by
    have := hcs_at L j (by simpa using h)
    have e : ∀ c, (hcs (x :: L))[(j + 1) * 3 + c]? = (hcs L)[j * 3 + c]? := fun c => by
      unfold hcs
      rw [List.flatMap_cons, List.getElem?_append_right (by simp; omega)]
      congr 1
      simp
      omega
    have e0 := e 0
    rw [Nat.add_zero, Nat.add_zero] at e0
    rw [e0, e 1, e 2]
    simpa using this
/-- Vertices without their edges, in memory. -/
def HdAt (w : World) (ao : Option Addr) (L : List Vx) : Prop :=
  0 < L.length → ∃ b, ao = some ⟨b, 0, none⟩ ∧ ∀ j (h : j < L.length), ∃ eo ec, w.cell? ⟨b, j * 3, none⟩ = some (.int .i64 L[j].id) ∧ w.cell? ⟨b, j * 3 + 1, none⟩ = some (.int .i64 L[j].val) ∧ w.cell? ⟨b, j * 3 + 2, none⟩ = some (.slice eo L[j].es.length ec)
theorem HdAt.new {w w' : World} {ao : Option Addr} {L : List Vx} (h : HdAt w ao L) (hb : Below w.heap.size w w') : HdAt w' ao L := by
  intro hl
  obtain ⟨b, e, hc⟩ := h hl
  refine ⟨b, e, fun j hj => ?_⟩
  obtain ⟨eo, ec, e0, e1, e2⟩ := hc j hj
  exact ⟨eo, ec, (hb.cell (p := ⟨b, _, none⟩) (lt_cell e0)).trans e0, (hb.cell (p := ⟨b, _, none⟩) (lt_cell e1)).trans e1, (hb.cell (p := ⟨b, _, none⟩) (lt_cell e2)).trans e2⟩
theorem own_hd {w : World} {base : Nat} {t : TypeId} {ao : Option Addr} {m c : Nat} {L : List (Vx × Option Addr × Nat)} (h : w.ownsRow base t 3 (.slice ao m c) L.length (hcs L)) : m = L.length ∧ HdAt w ao (L.map (·.1)) := by
  rcases h.2 with ⟨h1, h2⟩ | ⟨g, cap, cur, h1, hb, hg, hn, hc, hcs', ht⟩
  · cases h1
    exact ⟨h2.symm, fun hl => by rw [List.length_map] at hl; omega⟩
  · cases h1
    refine ⟨rfl, fun _ => ⟨g, rfl, fun j hj => ?_⟩⟩
    have hj' : j < L.length := by simpa using hj
    have hcell : ∀ i (u : Value), (hcs L)[i]? = some u → w.cell? ⟨g, i, none⟩ = some u := fun i u hu => by
      have := h.cells (g := g) rfl i u hu
      have hadd : (⟨g, 0, none⟩ : Addr).add i = ⟨g, i, none⟩ := by unfold Addr.add; split <;> simp_all
      rw [hadd] at this
      exact this
    have := hcs_at L j hj'
    rw [List.getElem_map]
    exact ⟨_, _, hcell _ _ this.1, hcell _ _ this.2.1, hcell _ _ this.2.2⟩
/-- What the rounds of 'of' hold. -/
structure OL (w W : World) (ob : Nat) (L : List (Vx × Option Addr × Nat)) (T : Nat → Prop) : Prop where
  row : ∃ sv, W.heap[ob]? = some (.cells #[sv] 22 (0, 0)) ∧ W.ownsRow w.heap.size 39 3 sv L.length (hcs L) ∧ ∀ k, sv.ownBlock = some k → T k ∧ k ≠ ob
  low : Below w.heap.size w W
  tob : T ob
  lo : w.heap.size ≤ ob
theorem OL.stands {w : World} {ob B : Nat} (hB : w.heap.size ≤ B) : Stands B (fun L T W => OL w W ob L T) := by
  rintro L T W W' ⟨⟨sv, h1, h2, h3⟩, h4, h5, h6⟩ f
  exact ⟨⟨sv, (f.block _ (lt_of_block h1) (fun h => h.2 h5)).trans h1, own_kept h2 f (fun k hk h => h.2 (h3 k hk).1), h3⟩, h4.trans (f.below h4.size (fun k hk => by have := hk.1; omega)), h5, h6⟩
theorem b3 (w : World) (o1 o2 o3 : Obj) : Below w.heap.size w (((w.alloc o1).alloc o2).alloc o3) := (b2 w o1 o2).alloc (by simp; omega) _
set_option maxRecDepth 100000 in
set_option maxHeartbeats 4000000 in
theorem ofL_any {w : World} {P : Nat → Prop} {ao : Option Addr} (G : List Vx) (cap : Nat) (part parts : Int) (h : VxAt w P ao G) (hok : ∀ v ∈ G, v.ok) (hl : G.length * 40 ≤ 140737488355328) (hp : I64 parts) :
    Calls Try.prog 15 #[.agg #[.slice ao G.length cap], .int .i64 part, .int .i64 parts] w fun r w' => ∃ bo c, r = .returned (.slice bo (partG G parts part).length c) ∧ HdAt w' bo (partG G parts part) ∧ Below w.heap.size w w' := by
  obtain ⟨i0, hi, hz0, hz1, hz2⟩ := info_parts infoVx
  have hokP : ∀ v ∈ partG G parts part, v.ok := fun v hv => hok v (List.mem_filter.1 hv).1
  have hlP : (partG G parts part).length ≤ G.length := List.length_filter_le _ _
  have HG : Hid (∀ W, Below w.heap.size w W → VxAt W P ao G) := fun W hb => h.new hb
  clear h
  refine (callsIn_wide (n := 9)).1 ?_
  refine callsIn_of_wp_marks Try.func15 rfl trivial ?_ rfl
  simp only [Try.ntmps15, List.size_toArray, List.length_cons, List.length_nil, Nat.reduceAdd, Nat.reduceSub, Array.replicate_succ, Array.replicate_zero, List.push_toArray, List.append_toArray, List.nil_append, List.cons_append]
  gi_wp2_with (refine ⟨trivial, ?_⟩; gi_at_call 50; refine (callsIn_wide.2 (of_fn G cap part parts (HG.out _ (b3 _ _ _ _)) hok hl hp)).mono ?_; rintro r w1 ⟨bo, c, rfl, hB1, hV1, hb1⟩)
  have hz : (((w.alloc (.cells #[.slice ao G.length cap] 24)).alloc (.cells #[] 39)).alloc (.cells #[.slice (some ⟨w.heap.size + 1, 0, none⟩) 0 0] 22)).heap.size = w.heap.size + 1 + 1 + 1 := by simp
  have hL1 : OL w w1 (w.heap.size + 1 + 1) [] (fun k => k = w.heap.size + 1 ∨ k = w.heap.size + 1 + 1) := by
    refine ⟨⟨.slice (some ⟨w.heap.size + 1, 0, none⟩) 0 0, (hb1.block _ (by omega)).trans ?_, ?_, fun k hk => ?_⟩, (b3 w _ _ _).trans (hb1.mono (by omega)), Or.inr rfl, by omega⟩
    · have := heap_alloc_new ((w.alloc (.cells #[.slice ao G.length cap] 24)).alloc (.cells #[] 39)) (.cells #[.slice (some ⟨w.heap.size + 1, 0, none⟩) 0 0] 22)
      rw [World.size_alloc, World.size_alloc] at this
      exact this
    · have := own_empty (w := w.alloc (.cells #[.slice ao G.length cap] 24)) (base := w.heap.size) (t := 39) (size := 3) (by simp)
      rw [World.size_alloc] at this
      exact own_new (own_new this (one_new _ _)) hb1
    · simp only [Value.ownBlock, Option.some.injEq] at hk
      subst hk
      exact ⟨Or.inl rfl, by omega⟩
  have hs1 : w.heap.size + 1 + 1 + 1 + 1 < w1.heap.size := by have := lt_of_block hB1; omega
  rw [hz] at hB1 hV1 hb1
  clear hz
  refine wpIn_rangeT (lb := #[.pointer (some ⟨w.heap.size + 1 + 1 + 1 + 1, 0, none⟩)]) (gf := 80) rfl (enters_of Try.func80 (by kernel_rfl) rfl)
    (of1_T (w.heap.size + 1 + 1 + 1 + 1) bo c (partG G parts part) (by omega) hokP w1 (fun k => w.heap.size + 1 + 1 + 1 ≤ k ∧ k < w1.heap.size) _ (fun k hk => hk.2) (cl_one hB1).1 hV1 (fun k hk hp => ⟨by omega, hk⟩)) (Below.refl _ _) (fun _ => rfl)
    (fun pre T W => OL w W (w.heap.size + 1 + 1) pre T) (fun _ _ _ _ => False) (OL.stands (by omega)) (fun _ _ _ _ _ h _ => h.elim) (fun k => k = w.heap.size + 1 ∨ k = w.heap.size + 1 + 1) (fun k hk => ⟨by omega, by omega⟩) hL1 ?round ?done (fun _ _ _ _ _ _ _ h => h.elim)
  case round =>
    rintro m l pre T x W hl0 ⟨r, hr⟩ hTl hI _ hpre
    have hlen : pre.length < (partG G parts part).length := by
      have := hpre.length_le
      simp at this
      omega
    clear hpre
    obtain ⟨⟨sv, g1, g2, g3⟩, g4, g5, g6⟩ := hI
    obtain ⟨ao', m', c', rfl⟩ := own_any g2
    have hlt := lt_of_block hr
    have lob := lt_of_block g1
    dsimp only [encV]
    gi_wp2
    refine ⟨Fr.alloc _ _ _, fun W2 f2 => ?_⟩
    have hs2 : W.heap.size + 1 ≤ W2.heap.size := by have := f2.size; rw [World.size_alloc] at this; exact this
    have v0 := (f2.block W.heap.size (by rw [World.size_alloc]; omega) (by omega)).trans (heap_alloc_new _ _)
    have o0 := (f2.block (w.heap.size + 1 + 1) (by rw [World.size_alloc]; omega) (fun e => hTl (e ▸ g5))).trans ((Below.heap_alloc _ _ _ lob).trans g1)
    have r0 := own_kept (own_new g2 (one_new _ _)) f2 (fun k hk e => hTl (e ▸ (g3 k hk).1))
    have low2 : Below w.heap.size w W2 := (g4.alloc g4.size _).trans (f2.below (g4.alloc g4.size _).size (fun k hk => by omega))
    obtain ⟨q0, q1, q2⟩ := box3 v0
    obtain ⟨p0, p1⟩ := cl_one o0
    have HR0 : Hid _ := r0
    have HO0 : Hid _ := o0
    clear r0 o0 v0 f2 hL1 hB1 hV1
    gi_wp2_with (gi_at_builtin; refine wpListIn_append_own_at _ rfl _ _ 22 rfl w.heap.size 39 i0 (.agg #[.int .i64 0, .int .i64 0, .slice none 0 0]) 3 40 Try.underlying22 hi hz0 hz1 hz2 rfl (by decide) _ _ _ rfl (own_new HR0.out (one_new _ _)) ⟨W2.heap.size, 0, none⟩ 1 1 [.int .i64 x.1.id, .int .i64 x.1.val, .slice x.2.1 x.1.es.length x.2.2] rfl rfl (three_new (heap_alloc_new _ _)) (by intro u hu; simp at hu; rcases hu with rfl | rfl | rfl <;> rfl) (by unfold maxLen; omega) (by omega) (by have := low2.size; simp; omega) ?_; intro v' w4 hown hgrow _ hat; have f4 : Fr (W2.alloc (.cells #[.int .i64 x.1.id, .int .i64 x.1.val, .slice x.2.1 x.1.es.length x.2.2] 39)) w4 (fun k => Value.ownBlock (.slice ao' m' c') = some k) := Fr.grown hgrow (fun k hk => hk); have o4 := (f4.block _ (by rw [World.size_alloc]; have := lt_of_block HO0.out; omega) (fun hk => (g3 _ hk).2 rfl)).trans ((Below.heap_alloc W2 _ _ (lt_of_block HO0.out)).trans HO0.out); obtain ⟨p4, p5⟩ := cl_one o4; obtain ⟨ao2, m2, c2, rfl⟩ := own_any hown)
    have hO4 := lt_of_block HO0.out
    refine ⟨fun k => k = w.heap.size + 1 + 1 ∨ Value.ownBlock (.slice ao2 m2 c2) = some k, ?_, ?_, ⟨⟨.slice ao2 m2 c2, cl_set1 o4 _, ?_, ?_⟩, ?_, Or.inl rfl, by omega⟩⟩
    · exact ((Fr.alloc _ _ _).trans f4 (fun k _ hk => (g3 k hk).1)).trans (Fr.setCell (S := T) w4 ⟨w.heap.size + 1 + 1, 0, none⟩ _ g5) (fun _ _ h => h)
    · have hs4 : W2.heap.size + 1 ≤ w4.heap.size := by have := f4.size; rw [World.size_alloc] at this; exact this
      have hs5 : (w4.setCell ⟨w.heap.size + 1 + 1, 0, none⟩ (.slice ao2 m2 c2)).heap.size = w4.heap.size := by simp [World.setCell]
      intro k hk
      rcases hk with rfl | hk
      · exact .inl g5
      · rcases hat with e | e
        · rw [e] at hk; exact .inl (g3 k hk).1
        · rw [e, World.size_alloc] at hk
          cases hk
          rw [hs5]
          have := hown.lt _ e
          rw [World.size_alloc] at this
          exact .inr ⟨by omega, by omega⟩
    · rw [hcs_snoc, List.length_append]
      refine own_kept hown (Fr.setCell (S := fun k => k = w.heap.size + 1 + 1) w4 ⟨w.heap.size + 1 + 1, 0, none⟩ _ rfl) (fun k hk e => ?_)
      subst e
      rcases hat with e | e
      · rw [e] at hk; exact (g3 _ hk).2 rfl
      · rw [e, World.size_alloc] at hk; have := Option.some.inj hk; omega
    · intro k hk
      refine ⟨Or.inr hk, fun e => ?_⟩
      subst e
      rcases hat with e | e
      · rw [e] at hk; exact (g3 _ hk).2 rfl
      · rw [e, World.size_alloc] at hk; have := Option.some.inj hk; omega
    · exact ((low2.alloc low2.size _).trans (f4.below (low2.alloc low2.size _).size (fun k hk => (g2.lt k hk).1))).setCell (p := ⟨w.heap.size + 1 + 1, 0, none⟩) (by simp; omega) _
  case done =>
    rintro D xs T W hD hS ⟨⟨sv, g1, g2, g3⟩, g4, g5, g6⟩ hTD hK
    obtain ⟨ao', m', c', rfl⟩ := own_any g2
    obtain ⟨p0, p1⟩ := cl_one g1
    obtain ⟨hm, hH⟩ := own_hd g2
    rw [hS] at hH
    have hxl : xs.length = (partG G parts part).length := by rw [← hS, List.length_map]
    rw [hxl] at hm
    subst hm
    have HH : Hid _ := hH
    clear hH g2 g3 hL1 hB1 hV1
    gi_wp2
    refine ⟨by simp, .inl ⟨_, _, rfl, run_takeDeferred hK, ?_⟩⟩
    have fD : Fr W (W.putObj D (.deferred none)) (fun k => k = D) := Fr.putObj _ rfl
    refine ⟨.slice ao' (partG G parts part).length c', by simp [results, Try.results15, go_sem], ao', c', rfl, ?_, g4.trans (fD.below g4.size (fun k hk => by omega))⟩
    intro hl0
    obtain ⟨b, e, hc⟩ := HH.out hl0
    refine ⟨b, e, fun j hj => ?_⟩
    obtain ⟨eo, ec, e0, e1, e2⟩ := hc j hj
    have hn : ¬ b = D := fun e => by
      subst e
      simp [World.cell?, hK] at e0
    exact ⟨eo, ec, fr_cell fD hn e0, fr_cell fD hn e1, fr_cell fD hn e2⟩
end Go.Proofs.Ytfajkfngjfhkoaa
