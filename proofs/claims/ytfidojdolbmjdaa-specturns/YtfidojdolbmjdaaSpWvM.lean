import Derived.Test.YtfidojdolbmjdaaSpW2M
import Derived.Test.YtfidojdolbmjdaaSpWRM
import Derived.Test.YtfidojdolbmjdaaSpIbM
/- spec.weave: the whole. -/
namespace Go.Proofs.Ytfidojdolbmjdaa
open Go.RowKit Go.Shelf
attribute [local go_sem] Oper.semAt_some
theorem infoSAs : (Try.prog.info? 73).map (fun i => (i.zero, i.size, i.bytes)) = some (some (.slice none 0 0), 1, 24) := by kernel_rfl
theorem infoSNs : (Try.prog.info? 116).map (fun i => (i.zero, i.size, i.bytes)) = some (some (.slice none 0 0), 1, 24) := by kernel_rfl
theorem all_fn {w : World} {P : Nat → Prop} {ao : Option Addr} (G : List Vx) (cap : Nat) (h : VxAt w P ao G) (hok : ∀ v ∈ G, v.ok) (hl : G.length * 40 ≤ 140737488355328) :
    Calls Try.prog 54 #[.agg #[.slice ao G.length cap]] w fun r w' => ∃ Bs fo c, r = .returned (.func (.func 91) #[] #[.pointer (some ⟨Bs, 0, none⟩)]) ∧ w'.cell? ⟨Bs, 0, none⟩ = some (.slice fo G.length c) ∧ VxAt w' (fun k => w.heap.size ≤ k) fo G ∧ w.heap.size ≤ Bs ∧ Below w.heap.size w w' := by
  have HG := h.new (one_new w (.cells #[.slice ao G.length cap] 24))
  have HH : Hid _ := HG
  have HOk : Hid _ := hok
  clear h HG hok
  go_enter Try.func54, Try.ntmps54
  go_wp2_with (first
    | (go_at_call 76; refine (clone_any G cap HH.out HOk.out hl).mono ?_; rintro r w1 ⟨bo, c, rfl, hV, hb1⟩)
    | (go_at_call 75; refine (edges_fn _ _ _).mono ?_; rintro r w2 ⟨rfl, rfl⟩))
  go_ret
  have hs := hb1.size
  rw [World.size_alloc] at hs
  refine ⟨w1.heap.size, bo, c, rfl, (cl_one (heap_alloc_new _ _)).1, (hV.new (one_new _ _)).mono (fun k _ hk => by rw [World.size_alloc] at hk; omega), by omega, ?_⟩
  exact ((one_new w _).trans (hb1.mono (by rw [World.size_alloc]; omega))).alloc (by omega) _
theorem wp_calm {P : Program} {c : Code} {Q : Exit → Act → World → Prop} {a : Act} {w : World} (h : c.wp P (Exit.then (fun a w => Q .normal a w) (fun _ _ _ => False)) a w) : c.wp P Q a w := Code.wp_mono (fun e a w h => by cases e <;> first | exact h | exact h.elim) h
/-- A vertex's neighbours: rising, each once. -/
def nearL (l : List Int) : List Int := Lib.compact (srt l)
def midN (N : List (List Int)) (j : Nat) : List (List Int) := (N.take j).map nearL ++ N.drop j
theorem midN_at {N : List (List Int)} {j : Nat} (h : j < N.length) : ∃ hh : j < (midN N j).length, (midN N j)[j] = N[j] := by
  have hh : j < (midN N j).length := by simp [midN]; omega
  have h1 : (midN N j)[j]? = some N[j] := by
    unfold midN
    rw [List.getElem?_append_right (by simp; omega)]
    simp [Nat.min_eq_left (Nat.le_of_lt h), h]
  exact ⟨hh, (List.getElem?_eq_some_iff.1 h1).2⟩
theorem midN_set {N : List (List Int)} {j : Nat} (h : j < N.length) : (midN N j).set j (nearL N[j]) = midN N (j + 1) := by
  have hlen : ((N.take j).map nearL).length = j := by simp; omega
  unfold midN
  rw [List.set_append_right _ _ (by omega), hlen, Nat.sub_self, List.drop_eq_getElem_cons h, List.set_cons_zero, List.take_add_one, List.getElem?_eq_getElem h]
  simp only [List.map_append, Option.toList_some, List.map_cons, List.map_nil, List.append_assoc, List.cons_append, List.nil_append]
theorem midN_zero (N : List (List Int)) : midN N 0 = N := by simp [midN]
theorem midN_end {N : List (List Int)} {n : Nat} (h : N.length = n) : midN N n = N.map nearL := by subst h; simp [midN]
theorem WV.putN {w W : World} {wb gi ci g1 g2 B n : Nat} {I : List Int} {s : List (List Ed) × List (List Int)} {T : Nat → Prop} {a : Nat} {M : List Int} {u v : Value} {w1 : World} (h : WV w W wb gi ci g1 g2 B n I s T) {vs : List Value} (m2 : Mat W 3 116 1 encI1 B g2 vs s.2) (r2 : ∀ k, rowsB vs k → T k) (hu : vs[a]? = some u) (f : Fr W w1 (fun k => u.ownBlock = some k)) (ho : w1.ownsRow B 3 1 v M.length (M.flatMap encI1)) (hat0 : v.ownBlock = u.ownBlock) :
    WV w (w1.setCell ⟨g2, a, none⟩ v) wb gi ci g1 g2 B n I (s.1, s.2.set a M) T := by
  have hat : ∀ k, v.ownBlock = some k → u.ownBlock = some k ∨ W.heap.size ≤ k := fun k hk => .inl (hat0 ▸ hk)
  obtain ⟨vs1, m1, r1⟩ := h.om
  have hi := h.hi
  have hub : ∀ k, u.ownBlock = some k → B ≤ k ∧ rowsB vs k := fun k hk => ⟨(m2.lt ⟨a, u, hu, hk⟩).1, ⟨a, u, hu, hk⟩⟩
  have fS : Fr w1 (w1.setCell ⟨g2, a, none⟩ v) (fun k => k = g2) := Fr.setCell _ _ _ rfl
  have ft : Fr W (w1.setCell ⟨g2, a, none⟩ v) (fun k => u.ownBlock = some k ∨ k = g2) := (f.mono (fun _ _ h => .inl h)).trans fS (fun _ _ h => .inr h)
  have hg1 : g1 ≠ g2 := fun e => by
    have x1 := m1.blk
    have x2 := m2.blk
    rw [← e, x1] at x2
    injection x2 with e
    injection e with _ e _
    exact absurd e (by decide)
  have hg3 : wb ≠ g2 := fun e => by
    have x1 := m2.blk
    have x2 := h.web
    rw [e, x1] at x2
    injection x2 with e
    injection e with _ e _
    exact absurd e (by decide)
  refine ⟨(ft.block _ (Array.getElem?_eq_some_iff.1 h.web).1 (fun e => ?_)).trans h.web, ri_fr h.idr ft (fun k hk e => ?_), ⟨vs1, m1.kept ft (fun e => ?_) (fun k hk e => ?_), fun k hk => r1 k hk⟩, ⟨vs.set a v, m2.put hu f ho hat, fun k hk => ?_⟩, h.low.trans (ft.below h.low.size (fun k hk => ?_)), h.t1, h.t2, h.lo, h.hi⟩
  · rcases e with e | e
    · have := (hub _ e).1; omega
    · exact hg3 e
  · have hk' : gi = k := by simpa [Value.ownBlock] using hk
    subst hk'
    rcases e with e | e
    · have := (hub _ e).1; omega
    · subst e
      have x1 := m2.blk
      rcases h.idr.2 with ⟨e2, _⟩ | ⟨g, cap, cur, e2, _, hg, _⟩
      · cases e2
      · cases e2
        rw [x1] at hg
        injection hg with e
        injection e with _ e _
        exact absurd e (by decide)
  · rcases e with e | e
    · have := (hub _ e).1; omega
    · exact hg1 e
  · rcases e with e | e
    · exact mat_ne m2 m1 (by decide) (hub k e).2 hk
    · have := (m1.lt hk).1; omega
  · rcases rows_set hu (N := k + 1) (fun k hk => .inl (hat0 ▸ hk)) hk with h1 | h1
    · exact r2 k h1
    · omega
  · rcases hk with e | e
    · have := (hub _ e).1; have := h.lo; omega
    · have := h.lo; omega
/-- A web: its numbers, its rows of edges, its rows of neighbours. -/
structure WebAt (W : World) (lo gi ci g1 g2 B n : Nat) (I : List Int) (O : List (List Ed)) (N : List (List Int)) : Prop where
  idr : RwI W 2 lo (.slice (some ⟨gi, 0, none⟩) n ci) I
  om : ∃ vs, Mat W 75 73 2 encA2 B g1 vs O
  nm : ∃ vs, Mat W 3 116 1 encI1 B g2 vs N
  lo1 : lo ≤ g1
  lo2 : lo ≤ g2
  lo3 : lo ≤ B
theorem own_cells {w : World} {base : Nat} {e : TypeId} {size : Nat} {v : Value} {n : Nat} {xs : List Value} (h : w.ownsRow base e size v n xs) {k : Nat} (hk : v.ownBlock = some k) : ∃ cs t f, w.heap[k]? = some (.cells cs t f) := by
  rcases h.2 with ⟨h2, _⟩ | ⟨g, cap, cur, rfl, h3, h4, h5⟩
  · subst h2; simp [Value.ownBlock] at hk
  · simp [Value.ownBlock] at hk
    subst hk
    exact ⟨_, _, _, h4⟩
theorem mat_cells {α : Type} {W : World} {te tO : TypeId} {sz : Nat} {enc : α → List Value} {base b : Nat} {vs : List Value} {L : List (List α)} (h : Mat W te tO sz enc base b vs L) {k : Nat} (hk : rowsB vs k) : ∃ cs t f, W.heap[k]? = some (.cells cs t f) := by
  obtain ⟨i, v, hv, ho⟩ := hk
  have hi : i < L.length := by rw [← h.len]; exact (List.getElem?_eq_some_iff.1 hv).1
  obtain ⟨v', hv', ho'⟩ := h.row i hi
  rw [hv] at hv'
  cases hv'
  exact own_cells ho' ho
theorem WebAt.kept {W W' : World} {lo gi ci g1 g2 B n : Nat} {I : List Int} {O : List (List Ed)} {N : List (List Int)} {S : Nat → Prop} (h : WebAt W lo gi ci g1 g2 B n I O N) (f : Fr W W' S) (hs : ∀ k, lo ≤ k → (∃ cs t f, W.heap[k]? = some (.cells cs t f)) → ¬ S k) : WebAt W' lo gi ci g1 g2 B n I O N := by
  obtain ⟨vs1, m1⟩ := h.om
  obtain ⟨vs2, m2⟩ := h.nm
  have hl := h.lo3
  exact ⟨ri_fr h.idr f (fun k hk => hs k (ri_lt h.idr hk).1 (own_cells h.idr hk)), ⟨vs1, m1.kept f (hs _ h.lo1 ⟨_, _, _, m1.blk⟩) (fun k hk => hs k (Nat.le_trans hl (m1.lt hk).1) (mat_cells m1 hk))⟩, ⟨vs2, m2.kept f (hs _ h.lo2 ⟨_, _, _, m2.blk⟩) (fun k hk => hs k (Nat.le_trans hl (m2.lt hk).1) (mat_cells m2 hk))⟩, h.lo1, h.lo2, h.lo3⟩
theorem WebAt.low {W : World} {lo lo' gi ci g1 g2 B n : Nat} {I : List Int} {O : List (List Ed)} {N : List (List Int)} (h : WebAt W lo gi ci g1 g2 B n I O N) (hl : lo' ≤ lo) : WebAt W lo' gi ci g1 g2 B n I O N := ⟨ri_low h.idr hl, h.om, h.nm, Nat.le_trans hl h.lo1, Nat.le_trans hl h.lo2, Nat.le_trans hl h.lo3⟩
theorem WebAt.new {W W' : World} {lo gi ci g1 g2 B n : Nat} {I : List Int} {O : List (List Ed)} {N : List (List Int)} (h : WebAt W lo gi ci g1 g2 B n I O N) (hb : Below W.heap.size W W') : WebAt W' lo gi ci g1 g2 B n I O N := h.kept (Fr.ofBelow hb (fun _ => False)) (fun _ _ _ h => h)
theorem web_of {w W : World} {wb gi ci g1 g2 B n lo : Nat} {I : List Int} {s : List (List Ed) × List (List Int)} {T : Nat → Prop} (h : WV w W wb gi ci g1 g2 B n I s T) (hlo : lo ≤ w.heap.size) : WebAt W lo gi ci g1 g2 B n I s.1 s.2 := by
  obtain ⟨vs1, m1, _⟩ := h.om
  obtain ⟨vs2, m2, _⟩ := h.nm
  have hi := h.hi
  have hl := h.lo
  exact ⟨ri_low h.idr hlo, ⟨vs1, m1⟩, ⟨vs2, m2⟩, by omega, by omega, by omega⟩
/-- The web as it is made: no edge yet. -/
theorem wv_new {w W0 W : World} {gi ci g1 g2 gb n B : Nat} {I : List Int} (hi : RwI W0 2 w.heap.size (.slice (some ⟨gi, 0, none⟩) n ci) I) (hlow : Below w.heap.size w W0) (hb : Below W0.heap.size W0 W) (h1 : W.heap[g1]? = some (.cells (madeCells #[.slice none 0 0] n) 73 (0, 0)) ∧ W0.heap.size ≤ g1) (h2 : W.heap[g2]? = some (.cells (madeCells #[.slice none 0 0] n) 116 (0, 0)) ∧ W0.heap.size ≤ g2) (h3 : W.heap[gb]? = some (.cells #[.slice none 0 0, .slice none 0 0, .slice none 0 0] 70 (0, 0)) ∧ W0.heap.size ≤ gb) (hB : B = W.heap.size) :
    WV w (W.setRow gb #[.slice (some ⟨gi, 0, none⟩) n ci, .slice (some ⟨g1, 0, none⟩) n n, .slice (some ⟨g2, 0, none⟩) n n]) gb gi ci g1 g2 B n I (foldW I n []) (fun k => k = g1 ∨ k = g2) := by
  subst hB
  have f := sp_setRow W gb #[.slice (some ⟨gi, 0, none⟩) n ci, .slice (some ⟨g1, 0, none⟩) n n, .slice (some ⟨g2, 0, none⟩) n n]
  have n1 : g1 ≠ gb := fun e => by have := h1.1; rw [e, h3.1] at this; simp at this
  have n2 : g2 ≠ gb := fun e => by have := h2.1; rw [e, h3.1] at this; simp at this
  have l1 := lt_of_block h1.1
  have l2 := lt_of_block h2.1
  have l3 := lt_of_block h3.1
  have lg := ri_lt hi (k := gi) rfl
  have hs := hb.size
  have hs0 := hlow.size
  have none_rows : ∀ (k : Nat), ¬ rowsB (List.replicate n (Value.slice none 0 0)) k := by
    rintro k ⟨i, v, hv, ho⟩
    rw [List.getElem?_replicate] at hv
    split at hv
    · cases hv; simp [Value.ownBlock] at ho
    · cases hv
  have m1 : Mat W 75 73 2 encA2 W.heap.size g1 (List.replicate n (.slice none 0 0)) (List.replicate n []) := Mat.made h1.1 l1
  have m2 : Mat W 3 116 1 encI1 W.heap.size g2 (List.replicate n (.slice none 0 0)) (List.replicate n []) := Mat.made h2.1 l2
  refine ⟨setRow_heap _ _ _ _ _ _ h3.1, ri_fr (ri_new hi hb) f (fun k hk => ?_), ⟨_, m1.kept f n1 (fun k hk => absurd hk (none_rows k)), fun k hk => absurd hk (none_rows k)⟩, ⟨_, m2.kept f n2 (fun k hk => absurd hk (none_rows k)), fun k hk => absurd hk (none_rows k)⟩, (hlow.trans (hb.mono hs0)).trans (f.below (by omega) (fun k hk => by omega)), .inl rfl, .inr rfl, ⟨by omega, by omega, by omega⟩, ⟨l3, by omega, l1, l2⟩⟩
  simp [Value.ownBlock] at hk
  subst hk
  omega
set_option maxRecDepth 100000 in
set_option maxHeartbeats 8000000 in
theorem weave_any {w : World} {P : Nat → Prop} {ao : Option Addr} {G : List Vx} (cap : Nat) (h : VxAt w P ao G) (hok : ∀ v ∈ G, v.ok) (hr : Rise (ids G)) (hth : thereE G = true) (hl : G.length ≤ 256) (he : (evs G).length ≤ 2048) :
    Calls Try.prog 26 #[.agg #[.slice ao G.length cap]] w fun r w' => (∃ gi ci g1 g2 B, r = .returned (.agg #[.slice (some ⟨gi, 0, none⟩) G.length ci, .slice (some ⟨g1, 0, none⟩) G.length G.length, .slice (some ⟨g2, 0, none⟩) G.length G.length]) ∧ WebAt w' w.heap.size gi ci g1 g2 B G.length (ids G) (foldW (ids G) G.length (evs G)).1 ((foldW (ids G) G.length (evs G)).2.map nearL)) ∧ Below w.heap.size w w' := by
  obtain ⟨ia, hia, ha0, ha1, ha2⟩ := info_parts infoSAs
  obtain ⟨ii, hii, hy0, hy1, hy2⟩ := info_parts infoSNs
  obtain ⟨n, hn⟩ : ∃ n, G.length = n := ⟨_, rfl⟩
  have HN : Hid (n = G.length) := hn.symm
  have hin : (ids G).length = n := by rw [ids_len]; exact hn
  have hn256 : n ≤ 256 := by rw [← hn]; exact hl
  have hm1 : ∀ W : World, (Instr.makeSlice 67 (.int .i64 (n : Int)) (.int .i64 (n : Int))).run Try.prog W = .ok (.slice (some ⟨W.heap.size, 0, none⟩) n n) (W.alloc (.cells (madeCells #[.slice none 0 0] n) 73)) := fun W => by
    have := run_make (P := Try.prog) W 67 73 ia (.slice none 0 0) Try.underlying67 hia ha0 .i64 .i64 n n (by omega) (by omega) (by rw [ha2]; omega) (by omega)
    simpa [ha1, Value.cells] using this
  have hm2 : ∀ W : World, (Instr.makeSlice 68 (.int .i64 (n : Int)) (.int .i64 (n : Int))).run Try.prog W = .ok (.slice (some ⟨W.heap.size, 0, none⟩) n n) (W.alloc (.cells (madeCells #[.slice none 0 0] n) 116)) := fun W => by
    have := run_make (P := Try.prog) W 68 116 ii (.slice none 0 0) Try.underlying68 hii hy0 .i64 .i64 n n (by omega) (by omega) (by rw [hy2]; omega) (by omega)
    simpa [hy1, Value.cells] using this
  have HM1 : Hid _ := hm1
  have HM2 : Hid _ := hm2
  have HOk : Hid _ := hok
  have HR : Hid _ := hr
  have HTh : Hid _ := hth
  have HEv : Hid _ := he
  have HG : Hid (∀ W, Below w.heap.size w W → VxAt W (fun k => k < w.heap.size) ao G) := fun W hb => (h.mono (Q := fun k => k < w.heap.size) (fun k hk _ => hk)).new hb
  have HNum : Hid (∀ W, Below w.heap.size w W → Calls Try.prog 53 #[.agg #[.slice ao n cap]] W fun r w' => (∃ g c, r = .returned (.slice (some ⟨g, 0, none⟩) n c) ∧ RwI w' 2 W.heap.size (.slice (some ⟨g, 0, none⟩) n c) (ids G)) ∧ Below W.heap.size W w') := fun W hb => by
    have := numbers_any cap (HG.out W hb) HR.out hl
    rw [hin, hn] at this
    exact this
  have HAll : Hid (∀ W, Below w.heap.size w W → Calls Try.prog 54 #[.agg #[.slice ao n cap]] W fun r w' => ∃ Bs fo c, r = .returned (.func (.func 91) #[] #[.pointer (some ⟨Bs, 0, none⟩)]) ∧ w'.cell? ⟨Bs, 0, none⟩ = some (.slice fo n c) ∧ VxAt w' (fun k => W.heap.size ≤ k) fo G ∧ W.heap.size ≤ Bs ∧ Below W.heap.size W w') := fun W hb => by
    have := all_fn G cap (HG.out W hb) HOk.out (by omega)
    rw [hn] at this
    exact this
  obtain ⟨W0, hW0⟩ : ∃ W0, w.alloc (.cells #[.slice ao n cap] 24) = W0 := ⟨_, rfl⟩
  have hb0 : Below w.heap.size w W0 := by rw [← hW0]; exact one_new _ _
  have hs0 : W0.heap.size = w.heap.size + 1 := by rw [← hW0]; simp
  have c0 : W0.cell? ⟨w.heap.size, 0, none⟩ = some (.slice ao n cap) := by rw [← hW0]; exact cell_of_one (heap_alloc_new _ _)
  obtain ⟨Wz, hWz⟩ : ∃ Wz, W0.alloc (.cells #[.slice none 0 0, .slice none 0 0, .slice none 0 0] 70) = Wz := ⟨_, rfl⟩
  have hbz : Below W0.heap.size W0 Wz := by rw [← hWz]; exact one_new _ _
  have hsz : Wz.heap.size = w.heap.size + 1 + 1 := by rw [← hWz]; simp [hs0]
  have cz := (hbz.cell (p := ⟨w.heap.size, 0, none⟩) (lt_cell c0)).trans c0
  have HZ : Hid (Wz.heap[w.heap.size + 1]? = some (.cells #[.slice none 0 0, .slice none 0 0, .slice none 0 0] 70 (0, 0))) := by rw [← hWz, ← hs0]; exact heap_alloc_new _ _
  have HB0 : Hid (Below w.heap.size w Wz) := hb0.trans (hbz.mono hb0.size)
  have HSz : Hid _ := hsz
  rw [hn]
  clear h hok hr hth he hm1 hm2 hn hb0 hbz hsz
  refine calls_marks Try.func26 rfl ?_
  simp only [Try.ntmps26, List.size_toArray, List.length_cons, List.length_nil, Nat.reduceAdd, Nat.reduceSub, Array.replicate_succ, Array.replicate_zero, List.push_toArray, List.append_toArray, List.nil_append, List.cons_append]
  go_upto_region 2 with (go_at_call 53; refine (HNum.out _ HB0.out).mono ?_; rintro r w1 ⟨⟨gi, ci, rfl, hri⟩, hb1⟩)
  have HRI : Hid _ := hri
  have HB1 : Hid _ := hb1
  have c1 := (hb1.cell (p := ⟨w.heap.size, 0, none⟩) (lt_cell cz)).trans cz
  clear hri hb1 cz c0
  refine weave_r2 (gi := gi) (n := n) (ci := ci) rfl rfl HM1.out HM2.out ?_
  intro X W W1 g1 g2 gb hb hW1 h1 h2 h3 hX4
  have hX := wv_new HRI.out HB1.out hb h1 h2 h3 rfl
  rw [← hW1] at hX
  have HX : Hid _ := hX
  have c2 := (hb.cell (p := ⟨w.heap.size, 0, none⟩) (lt_cell c1)).trans c1
  have c3 : W1.cell? ⟨w.heap.size, 0, none⟩ = some (.slice ao n cap) := by
    rw [hW1]
    exact fr_cell (sp_setRow W gb _) (fun e => by have := h3.2; have := HB1.out.size; have := HSz.out; (try simp at e); omega) c2
  have HBW : Hid (Below w.heap.size w W1) := HB0.out.trans (hX.low.mono HB0.out.size)
  have HB' : Hid (W.heap.size = W1.heap.size) := by rw [hW1]; show _ = _; simp
  clear hW1 h1 h2 h3 hb c1 c2 hX
  simp only [puts]
  rw [hX4]
  generalize X 15 = x15
  generalize X 16 = x16
  generalize X 17 = x17
  generalize X 18 = x18
  generalize X 19 = x19
  generalize X 20 = x20
  generalize X 21 = x21
  generalize X 22 = x22
  simp only [Act.put, List.setIfInBounds_toArray, List.set_cons_succ, List.set_cons_zero]
  go_wp2_with (go_at_call 54; refine (HAll.out _ HBW.out).mono ?_; rintro r w7 ⟨Bs, fo, fc, rfl, hBs, hV7, hB7, hb7⟩)
  refine weave_range G fc gb gi ci g1 g2 W.heap.size Bs n HN HOk (by rw [HN.out]; exact hl) HEv HR HTh (HX.out.new hb7) hBs hV7 (fun k _ hk => by rw [HB'.out]; exact hk) (by rw [HB'.out]; exact hb7.size) ?_
  intro wx D T hY hD hTD hK
  obtain ⟨S1, hS1⟩ : ∃ S1, foldW (ids G) n (evs G) = S1 := ⟨_, rfl⟩
  have hSl : S1.2.length = n := by rw [← hS1]; exact (foldW_lens _ _ _).2
  have hSr : ∀ j, (S1.2.getD j []).length ≤ 4096 := fun j => by have := (foldW_rows (ids G) n (evs G) j).2; have := HEv.out; rw [← hS1]; omega
  rw [hS1] at hY
  have HY : Hid _ := hY
  have HK : Hid _ := hK
  have p2 := (box3 hY.web).2.2
  clear hY hK hBs hV7
  obtain ⟨B, hBe⟩ : ∃ B, W.heap.size = B := ⟨_, rfl⟩
  rw [hBe] at HY
  clear HX HB' HM1 HM2 HNum HAll HG hX4 c3
  go_wp2
  go_loopw [11, 12, 87] (fun _ _ i wr => ∃ j : Nat, j ≤ n ∧ i = .int .i64 j ∧ Hid (WV Wz wr gb gi ci g1 g2 B n (ids G) (S1.1, midN S1.2 j) T) ∧ Hid (wr.heap[D]? = some (.deferred (some [])))) (fun _ _ i _ => n - (intOf i).toNat)
  case atStart => exact ⟨0, Nat.zero_le _, rfl, by rw [midN_zero]; exact HY.out, HK.out⟩
  case round =>
    obtain ⟨j, hj, rfl, HV, HD⟩ := hrel
    by_cases hlt : j < n
    · obtain ⟨vs, hM, hRw⟩ := HV.out.nm
      dsimp only at hM
      have hjl : j < S1.2.length := by rw [hSl]; exact hlt
      obtain ⟨hh, hat⟩ := midN_at hjl
      obtain ⟨u, hu, cu, fu, ou⟩ := hM.at_ hh
      rw [hat, flat_I1] at ou
      have cw := (box3 HV.out.web).2.2
      have hsr := hSr j
      have hgd : S1.2.getD j [] = S1.2[j] := by simp [List.getD, hjl]
      rw [hgd] at hsr
      have HOu : Hid (RwI wr 3 B u S1.2[j]) := ou
      have HM : Hid _ := hM
      have HRw : Hid _ := hRw
      have HU : Hid _ := hu
      have hub : Hid (∀ k, u.ownBlock = some k → B ≤ k ∧ T k) := fun k hk => ⟨(hM.lt ⟨_, u, hu, hk⟩).1, hRw _ ⟨_, u, hu, hk⟩⟩
      clear hM hRw hu ou hat hh hgd
      go_upto_region 17 with (go_at_call 55; refine (sortInt_row (by omega) HOu.out).mono ?_; rintro r w5 ⟨rfl, hs5, f5⟩)
      have hhi := HV.out.hi
      have hn1 : ¬ u.ownBlock = some gb := fun e => by have := (hub.out _ e).1; omega
      have hn2 : ¬ u.ownBlock = some g2 := fun e => by have := (hub.out _ e).1; omega
      have z1 := fr_cell f5 hn1 cw
      have z2 := fr_cell f5 hn2 cu
      have hS0 : (fun w' : World => w'.cell? ⟨gb, 2, none⟩ = some (.slice (some ⟨g2, 0, none⟩) n n)) w5.drew := z1
      refine wp_calm ?_
      refine wp_region_L [6] (fun w' : World => w'.cell? ⟨gb, 2, none⟩ = some (.slice (some ⟨g2, 0, none⟩) n n)) (by kernel_rfl) ?_
      refine wpAnyL_take (i := 0) 94 (v := .pointer (some ⟨gb, 2, none⟩)) rfl rfl (by kernel_rfl) (by kernel_rfl) (by kernel_rfl) (by kernel_rfl) (by kernel_rfl) (by kernel_rfl) (fun _ _ _ h => h) hS0 (by rfl) (by intro w' hSw; (try dsimp only at hSw); go_simp <;> with_reducible rfl) ?_
      simp only [Act.put, List.setIfInBounds_toArray, List.set_cons_zero, List.set_cons_succ]
      refine wpAnyL_take (i := 1) 95 (v := .slice (some ⟨g2, 0, none⟩) n n) rfl rfl (by kernel_rfl) (by kernel_rfl) (by kernel_rfl) (by kernel_rfl) (by kernel_rfl) (by kernel_rfl) (fun _ _ _ h => h) hS0 (by rfl) (by intro w' hSw; (try dsimp only at hSw); go_simp <;> with_reducible rfl) ?_
      simp only [Act.put, List.setIfInBounds_toArray, List.set_cons_zero, List.set_cons_succ]
      refine wpAnyL_take (i := 2) 96 (v := .int .i64 (j : Int)) rfl rfl (by kernel_rfl) (by kernel_rfl) (by kernel_rfl) (by kernel_rfl) (by kernel_rfl) (by kernel_rfl) (fun _ _ _ h => h) hS0 (by rfl) (by intro w' hSw; (try dsimp only at hSw); go_simp <;> with_reducible rfl) ?_
      simp only [Act.put, List.setIfInBounds_toArray, List.set_cons_zero, List.set_cons_succ]
      refine wpAnyL_take (i := 3) 97 (v := u) rfl rfl (by kernel_rfl) (by kernel_rfl) (by kernel_rfl) (by kernel_rfl) (by kernel_rfl) (by kernel_rfl) (fun _ _ _ h => h) hS0 (by rfl) (by intro w' hSw; (try dsimp only at hSw); go_simp <;> with_reducible rfl) ?_
      simp only [Act.put, List.setIfInBounds_toArray, List.set_cons_zero, List.set_cons_succ]
      refine wpAnyL_one (i := 4) (by kernel_rfl) rfl (fun Ka hKa => ?_)
      go_simp
      refine (compInt_row (by have := srt_len S1.2[j]; omega) (ri_new hs5 (Below.drew (Below.refl _ w5)))).mono ?_
      rintro r w6 ⟨v', rfl, hv', hc6, f6⟩
      have hub' := hub.out
      have f56 : Fr wr w6 (fun k => u.ownBlock = some k) := f5.trans ((Fr.ofBelow (Below.drew (Below.refl _ w5)) (fun k => u.ownBlock = some k)).trans f6 (fun _ _ h => h)) (fun _ _ h => h)
      have z3 := fr_cell f56 hn1 cw
      have z4 := fr_cell f56 hn2 cu
      obtain ⟨p1, k1, d1, rfl⟩ := own_any hc6
      have y4 : w6.frozen? ⟨g2, j, none⟩ = false := by
        have := (f56.block g2 (lt_cell cu) hn2).trans HM.out.blk
        simp [World.frozen?, this]
      refine hKa.out _ _ (fun _ => z3) ?_
      clear hKa Ka
      try simp only [Act.put, List.setIfInBounds_toArray, List.set_cons_zero, List.set_cons_succ]
      refine wpAnyL_one (i := 5) (by kernel_rfl) rfl (fun Kc hKc => ?_)
      go_simp
      refine hKc.out _ _ (fun _ => z3) ?_
      clear hKc Kc
      refine wpAnyL_one (i := 6) (by kernel_rfl) rfl (fun Kd hKd => ?_)
      go_simp
      refine hKd.out _ _ (fun h => absurd h (Bool.eq_false_iff.1 (by kernel_rfl))) ?_
      clear hKd Kd
      refine wpAnyL_done (by kernel_rfl) ?_ _
      have HV' : Hid (WV Wz (w6.setCell ⟨g2, j, none⟩ (.slice p1 k1 d1)) gb gi ci g1 g2 B n (ids G) (S1.1, midN S1.2 (j + 1)) T) := by
        have := WV.putN (M := nearL S1.2[j]) HV.out HM.out HRw.out HU.out f56 (by rw [flat_I1]; exact hc6) hv'
        rw [midN_set hjl] at this
        exact this
      have HD' : Hid ((w6.setCell ⟨g2, j, none⟩ (.slice p1 k1 d1)).heap[D]? = some (.deferred (some []))) := by
        have g2D : D ≠ g2 := fun e => by have := HM.out.blk; have h2 := HD.out; rw [e, this] at h2; cases h2
        refine (Below.heap_setCell w6 ⟨g2, j, none⟩ _ D g2D).trans ((f56.block D (lt_of_block HD.out) (fun e => hTD (hub' _ e).2)).trans HD.out)
      generalize hG : World.setCell w6 _ _ = V6 at HV' HD' ⊢
      clear hG hc6 f56 f6 f5 hs5 z1 z2 z3 z4 y4 HOu HM HRw HU hS0 cu cw fu
      go_wp2
      go_roundw
      case rel => exact ⟨j + 1, by omega, by go_num, HV', HD'⟩
      case measure => simp [intOf]; omega
    · obtain rfl : j = n := by omega
      rw [midN_end hSl] at HV
      have hwb := HV.out.web
      have HRb : Hid (wr.heap[w.heap.size + 1]? = some (.cells #[.slice none 0 0, .slice none 0 0, .slice none 0 0] 70 (0, 0))) := (HV.out.low.block _ (by rw [HSz.out]; omega)).trans HZ.out
      obtain ⟨e0, e1, e2⟩ := box3 hwb
      clear hwb
      go_wp2_with (refine wpList_store_row rfl 70 _ _ rfl (w.heap.size + 1) #[.slice (some ⟨gi, 0, none⟩) j ci, .slice (some ⟨g1, 0, none⟩) j j, .slice (some ⟨g2, 0, none⟩) j j] rfl rfl 70 #[.slice none 0 0, .slice none 0 0, .slice none 0 0] HRb.out size_web rfl (by simp [Value.oneCell']) ?_)
      have hne : D ≠ w.heap.size + 1 := fun e => by have h1 := HRb.out; have h2 := HD.out; rw [e, h1] at h2; cases h2
      obtain ⟨cs, hcs⟩ : ∃ cs, #[Value.slice (some ⟨gi, 0, none⟩) j ci, .slice (some ⟨g1, 0, none⟩) j j, .slice (some ⟨g2, 0, none⟩) j j] = cs := ⟨_, rfl⟩
      rw [hcs]
      have f1 := sp_setRow wr (w.heap.size + 1) cs
      have hK1 := (f1.block D (lt_of_block HD.out) hne).trans HD.out
      have f2 : Fr (wr.setRow (w.heap.size + 1) cs) ((wr.setRow (w.heap.size + 1) cs).putObj D (.deferred none)) (fun k => k = D) := Fr.putObj _ rfl
      have hr1 := (f2.block (w.heap.size + 1) (by have := f1.size; have := lt_of_block HRb.out; omega) (fun e => hne e.symm)).trans (setRow_heap _ _ _ cs _ _ HRb.out)
      subst hcs
      refine ret_marks1 (v := .agg #[.slice (some ⟨gi, 0, none⟩) j ci, .slice (some ⟨g1, 0, none⟩) j j, .slice (some ⟨g2, 0, none⟩) j j]) (results_cell_row Try.results26 _ _ (w.heap.size + 1) 70 _ (0, 0) _ rfl hr1 Try.underlying70 rfl size_web) rfl hK1 ⟨⟨gi, ci, g1, g2, B, rfl, ?_⟩, ?_⟩
      · rw [hS1]
        have x1 := (web_of HV.out (Nat.le_refl _)).kept f1 (fun k hk _ e => by have := HSz.out; omega)
        exact (x1.kept f2 (fun k _ ⟨cs, t, f, hc⟩ e => by rw [e, hK1] at hc; cases hc)).low HB0.out.size
      · have hs := HB0.out.size
        have l1 : Below w.heap.size w wr := HB0.out.trans (HV.out.low.mono hs)
        have l2 := l1.trans (f1.below l1.size (fun k hk => by omega))
        have hDw : w.heap.size ≤ D := by have := hb7.size; have := HBW.out.size; omega
        exact l2.trans (f2.below l2.size (fun k hk => by omega))
end Go.Proofs.Ytfidojdolbmjdaa
