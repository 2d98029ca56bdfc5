import Derived.Test.YtcfbmgbhpihdcaaSpMa12M
import Derived.Test.YtcfbmgbhpihdcaaSpNearM
/- spec.Matched. -/
namespace Go.Proofs.Ytcfbmgbhpihdcaa
open Go.RowKit Go.Shelf
attribute [local go_sem] Oper.semAt_some
/-- What a matching asks of one place. -/
def okM (P I : List Int) (N : List (List Int)) (i : Nat) : Bool :=
  if freeB P I i = true then !((N.getD i []).any fun x => freeB P I x.toNat)
  else foundB I (P.getD i 0) && (N.getD i []).contains ((findN I (P.getD i 0) : Nat) : Int) && (P.getD (findN I (P.getD i 0)) 0 == I.getD i 0)
/-- A list of numbers in memory. -/
def PAt (w : World) (lo : Option Addr) (P : List Int) : Prop := ∀ j (h : j < P.length), ∃ g o, lo = some ⟨g, o, none⟩ ∧ w.cell? ⟨g, o + j, none⟩ = some (.int .i64 P[j])
theorem PAt.new {w w' : World} {lo : Option Addr} {P : List Int} (h : PAt w lo P) (hb : Below w.heap.size w w') : PAt w' lo P := fun j hj => by
  obtain ⟨g, o, e, hc⟩ := h j hj
  exact ⟨g, o, e, (hb.cell (p := ⟨g, o + j, none⟩) (lt_cell hc)).trans hc⟩
/-- The rows of neighbours of a graph that may be. -/
def nearR (G : List Vx) : List (List Int) := (foldW (ids G) G.length (evs G)).2.map nearL
theorem nearR_len (G : List Vx) : (nearR G).length = G.length := by rw [nearR, List.length_map]; exact (foldW_lens _ _ _).2
theorem nearL_len (l : List Int) : (nearL l).length ≤ l.length := by
  unfold nearL Lib.compact Lib.compactUpTo
  rw [List.length_map]
  refine Nat.le_trans (List.length_filter_le _ _) ?_
  simp [srt_len]
theorem nearR_at {G : List Vx} {i : Nat} (hi : i < G.length) : ∃ h : i < (nearR G).length, (nearR G)[i] = nearL ((foldW (ids G) G.length (evs G)).2.getD i []) := by
  have hl := (foldW_lens (ids G) G.length (evs G)).2
  refine ⟨by rw [nearR_len]; exact hi, ?_⟩
  simp [nearR, List.getD, hl, hi]
theorem nearR_row {G : List Vx} (hr : Rise (ids G)) (hth : thereE G = true) (he : (evs G).length ≤ 2048) {i : Nat} (hi : i < G.length) : Rise ((nearR G).getD i []) ∧ ((nearR G).getD i []).length ≤ 4096 ∧ ∀ y, y ∈ (nearR G).getD i [] ↔ ∃ j : Nat, y = (j : Int) ∧ nearP G i j := by
  obtain ⟨h, e⟩ := nearR_at hi
  have e1 : (nearR G).getD i [] = nearL ((foldW (ids G) G.length (evs G)).2.getD i []) := by rw [← e]; simp [List.getD, h]
  rw [e1]
  refine ⟨rise_pw (nearL_rise _), ?_, fun y => mem_nearL.trans (near_mem hr hth hi y)⟩
  have h1 := nearL_len ((foldW (ids G) G.length (evs G)).2.getD i [])
  have h2 := (foldW_rows (ids G) G.length (evs G) i).2
  omega
theorem nearP_lt {G : List Vx} {i j : Nat} (h : nearP G i j) : j < G.length := by
  rcases h.2 with ⟨_, h, _⟩ | ⟨_, h, _⟩ <;> exact h
theorem found_lt {I : List Int} {x : Int} (h : foundB I x = true) : findN I x < I.length := by
  unfold foundB at h
  by_cases hl : findN I x < I.length
  · exact hl
  · rw [List.getElem?_eq_none (by omega)] at h
    cases h
set_option maxRecDepth 100000 in
set_option maxHeartbeats 8000000 in
theorem matched_any {w : World} {Q : Nat → Prop} {ao lo : Option Addr} {G : List Vx} {P : List Int} (cap lc : Nat) (h : VxAt w Q ao G) (hok : ∀ v ∈ G, v.ok) (hr : Rise (ids G)) (hth : thereE G = true) (hl : G.length ≤ 256) (he : (evs G).length ≤ 2048) (hP : PAt w lo P) :
    Calls Try.prog 25 #[.agg #[.slice ao G.length cap], .slice lo P.length lc] w fun r w' => r = .returned (.bool (decide (P.length = G.length) && (List.range G.length).all (okM P (ids G) (nearR G)))) ∧ Below w.heap.size w w' := by
  have HRow : Hid (∀ i, i < G.length → Rise ((nearR G).getD i []) ∧ ((nearR G).getD i []).length ≤ 4096 ∧ ∀ x ∈ (nearR G).getD i [], ∃ j : Nat, j < G.length ∧ x = j) := fun i hi => by
    obtain ⟨h1, h2, h3⟩ := nearR_row hr hth he hi
    exact ⟨h1, h2, fun x hx => by obtain ⟨j, e, hj⟩ := (h3 x).1 hx; exact ⟨j, nearP_lt hj, e⟩⟩
  have HWv : Hid (∀ W, Below w.heap.size w W → Calls Try.prog 41 #[.agg #[.slice ao G.length cap]] W fun r w' => (∃ gi ci g1 g2 B, r = .returned (.agg #[.slice (some ⟨gi, 0, none⟩) G.length ci, .slice (some ⟨g1, 0, none⟩) G.length G.length, .slice (some ⟨g2, 0, none⟩) G.length G.length]) ∧ WebAt w' W.heap.size gi ci g1 g2 B G.length (ids G) (foldW (ids G) G.length (evs G)).1 (nearR G)) ∧ Below W.heap.size W w') := fun W hb => weave_any cap ((h.mono (Q := fun k => k < w.heap.size) (fun k hk _ => hk)).new hb) hok hr hth hl he
  have hNl := nearR_len G
  have hIl := ids_len G
  have HRt : Hid (P.length = G.length → (∀ j, j < G.length → okM P (ids G) (nearR G) j = true) → (decide (P.length = G.length) && (List.range G.length).all (okM P (ids G) (nearR G))) = true) := fun h1 h2 => by
    rw [decide_eq_true h1, Bool.true_and, List.all_eq_true]
    exact fun j hj => h2 j (List.mem_range.1 hj)
  have HRf : Hid (∀ k, k < G.length → okM P (ids G) (nearR G) k = false → (decide (P.length = G.length) && (List.range G.length).all (okM P (ids G) (nearR G))) = false) := fun k hk h2 => by
    rw [Bool.and_eq_false_iff]
    right
    rw [List.all_eq_false]
    exact ⟨k, List.mem_range.2 hk, by rw [h2]; simp⟩
  have HRn : Hid (P.length ≠ G.length → (decide (P.length = G.length) && (List.range G.length).all (okM P (ids G) (nearR G))) = false) := fun h1 => by
    rw [decide_eq_false h1, Bool.false_and]
  generalize (decide (P.length = G.length) && (List.range G.length).all (okM P (ids G) (nearR G))) = res at HRt HRf HRn ⊢
  generalize (foldW (ids G) G.length (evs G)).1 = O at HWv
  generalize nearR G = N at HRow HWv HRt HRf hNl
  generalize ids G = I at HWv HRt HRf hIl hr
  obtain ⟨n, hn⟩ : ∃ n, G.length = n := ⟨_, rfl⟩
  rw [hn] at HRow HWv HRt HRf HRn hNl hIl hl ⊢
  obtain ⟨m, hm⟩ : ∃ m, P.length = m := ⟨_, rfl⟩
  have HM : Hid (P.length = m) := hm
  rw [hm] at HRt HRn ⊢
  have HP : Hid (PAt w lo P) := hP
  have HR : Hid (Rise I) := hr
  clear h hok hth he hn hm hP hr
  go_enter Try.func25, Try.ntmps25
  go_upto_region 1 with (fail)
  generalize hW0 : World.alloc (World.alloc w _) _ = W0
  have hb0 : Below w.heap.size w W0 := by rw [← hW0]; exact (one_new _ _).alloc (by simp) _
  have c0 : W0.cell? ⟨w.heap.size, 0, none⟩ = some (.slice ao n cap) := by rw [← hW0]; exact (((one_new (w.alloc (.cells #[.slice ao n cap] 24)) _).cell (p := ⟨w.heap.size, 0, none⟩) (by simp)).trans (cell_of_one (heap_alloc_new _ _)))
  have c1 : W0.cell? ⟨w.heap.size + 1, 0, none⟩ = some (.slice lo m lc) := by
    rw [← hW0]
    have := cell_of_one (heap_alloc_new (w.alloc (.cells #[.slice ao n cap] 24)) (.cells #[.slice lo m lc] 38 (0, 0)))
    rw [World.size_alloc] at this
    exact this
  have HB0 : Hid _ := hb0
  have HP0 : Hid (PAt W0 lo P) := PAt.new HP.out hb0
  clear hW0 hb0
  go_upto_region 2 with (first
    | (go_at_call 41; refine (HWv.out _ HB0.out).mono ?_; rintro r w1 ⟨⟨gi, ci, g1, g2, B, rfl, hweb⟩, hb1⟩)
    | (refine wpList_store_row rfl 81 _ _ rfl w1.heap.size #[.slice (some ⟨gi, 0, none⟩) n ci, .slice (some ⟨g1, 0, none⟩) n n, .slice (some ⟨g2, 0, none⟩) n n] rfl rfl 81 #[.slice none 0 0, .slice none 0 0, .slice none 0 0] (heap_alloc_new _ _) size_web rfl (by simp [Value.oneCell']) ?_))
  generalize hW2 : World.setRow _ _ _ = W2
  have l1 : Below w1.heap.size w1 (w1.alloc (.cells #[.slice none 0 0, .slice none 0 0, .slice none 0 0] 81)) := one_new _ _
  have l2 : Below w1.heap.size w1 W2 := by rw [← hW2]; exact l1.trans ((sp_setRow _ _ _).below l1.size (fun k hk => by omega))
  have hWb : W2.heap[w1.heap.size]? = some (.cells #[.slice (some ⟨gi, 0, none⟩) n ci, .slice (some ⟨g1, 0, none⟩) n n, .slice (some ⟨g2, 0, none⟩) n n] 81 (0, 0)) := by
    rw [← hW2]; exact setRow_heap _ _ _ _ _ _ (heap_alloc_new _ _)
  have HWb : Hid _ := hWb
  have HWeb : Hid _ := hweb.new l2
  obtain ⟨d0, d1, d2⟩ := box3 hWb
  have c2 := (l2.cell (p := ⟨w.heap.size + 1, 0, none⟩) (Nat.lt_of_lt_of_le (lt_cell c1) hb1.size)).trans ((hb1.cell (p := ⟨w.heap.size + 1, 0, none⟩) (lt_cell c1)).trans c1)
  have HP2 : Hid (PAt W2 lo P) := PAt.new (PAt.new HP0.out hb1) l2
  have HB2 : Hid (Below w.heap.size w W2) := (HB0.out.trans (hb1.mono HB0.out.size)).trans (l2.mono (by have := HB0.out.size; have := hb1.size; omega))
  generalize w1.heap.size = bw at hWb HWb d0 d1 d2 ⊢
  generalize w.heap.size + 1 = bl at c1 c2 ⊢
  clear hW2 l1 l2 hWb hweb hb1 c0 c1 HP0 HP HB0 HWv
  by_cases hmn : m = n
  · subst hmn
    have hmm : ((m : Int) != (m : Int)) = false := by simp
    have HFr : Hid (FreeAt W2 bl bw lo gi m lc ci P I) := ⟨c2, d0, HM.out, hIl, HP2.out, fun j hj => by
      obtain ⟨_, hc⟩ := ri_at HWeb.out.idr
      obtain ⟨g, e, _, hcell⟩ := hc (by omega)
      cases e
      exact (hcell j hj).1⟩
    have HPl : Hid (∀ W x, Below W2.heap.size W2 W → Calls Try.prog 42 #[.agg #[.slice (some ⟨gi, 0, none⟩) m ci, .slice (some ⟨g1, 0, none⟩) m m, .slice (some ⟨g2, 0, none⟩) m m], .int .i64 x] W fun r w' => r = .returned (.tuple #[.int .i64 (findN I x), .bool (foundB I x)]) ∧ Below W.heap.size W w') := fun W x hb => by
      have hi := (HWeb.out.new hb).idr
      rw [← hIl] at hi ⊢
      exact place_any x hi HR.out (by rw [hIl]; exact hl)
    go_wp2
    go_loopw [22] (fun i wr => ∃ k : Nat, k ≤ m ∧ i = .int .i64 k ∧ Hid (∀ j, j < k → okM P I N j = true) ∧ Hid (Below W2.heap.size W2 wr)) (fun i _ => m - (intOf i).toNat)
    case atStart => exact ⟨0, Nat.zero_le _, rfl, fun j hj => absurd hj (Nat.not_lt_zero _), Below.refl _ _⟩
    case round =>
      obtain ⟨k, hk, rfl, HOk, HB⟩ := hrel
      by_cases hlt : k < m
      · have HLt : Hid (k < m) := hlt
        have HFr' : Hid (FreeAt wr bl bw lo gi m lc ci P I) := HFr.out.new HB.out
        have HWb' : Hid (wr.heap[bw]? = some (.cells #[.slice (some ⟨gi, 0, none⟩) m ci, .slice (some ⟨g1, 0, none⟩) m m, .slice (some ⟨g2, 0, none⟩) m m] 81 (0, 0))) := (HB.out.block _ (lt_of_block HWb.out)).trans HWb.out
        obtain ⟨f0, f1, f2⟩ := box3 HWb'.out
        have e2 := (HB.out.cell (p := ⟨bl, 0, none⟩) (lt_cell c2)).trans c2
        have hkp : k < P.length := by rw [HM.out]; exact hlt
        have hki : k < I.length := by rw [hIl]; exact hlt
        have hkn : k < N.length := by rw [hNl]; exact hlt
        have HPw : Hid (PAt wr lo P) := PAt.new HP2.out HB.out
        obtain ⟨g, o, rfl, p1⟩ := HPw.out k hkp
        have q1 := HFr'.out.q k hki
        obtain ⟨vs, m2⟩ := (HWeb.out.new HB.out).nm
        obtain ⟨v, hv, cv, fv, ov⟩ := m2.at_ hkn
        rw [flat_I1] at ov
        have HOv : Hid (RwI wr 3 B v N[k]) := ov
        obtain ⟨hrow1, hrow2, hrow3⟩ := HRow.out k hlt
        have gN : N.getD k [] = N[k] := by simp [List.getD, hkn]
        have gP : P.getD k 0 = P[k] := by simp [List.getD, hkp]
        have gI : I.getD k 0 = I[k] := by simp [List.getD, hki]
        rw [gN] at hrow1 hrow2 hrow3
        have HCl : Hid (Calls Try.prog 51 #[.int .i64 (k : Nat), .pointer (some ⟨bl, 0, none⟩), .pointer (some ⟨bw, 0, none⟩)] wr fun r w' => r = .returned (.bool (freeB P I k)) ∧ Below wr.heap.size wr w') := (free_any HFr'.out k hlt).mono (by
          rintro r w' ⟨rfl, q, rfl⟩
          exact ⟨rfl, bel_drewN (Below.refl _ _) q⟩)
        have HCo : Hid (∀ W, Below wr.heap.size wr W → Calls Try.prog 52 #[v, .func (.func 51) #[] #[.pointer (some ⟨bl, 0, none⟩), .pointer (some ⟨bw, 0, none⟩)]] W fun r w' => r = .returned (.bool (N[k].any (fun x => freeB P I x.toNat))) ∧ Below W.heap.size W w') := fun W hb => contains_free (HFr'.out.new hb) (ri_new HOv.out hb) hrow3 hrow2
        have HNb : Hid (∀ W (p : Nat), Below wr.heap.size wr W → Calls Try.prog 49 #[.agg #[.slice (some ⟨gi, 0, none⟩) m ci, .slice (some ⟨g1, 0, none⟩) m m, .slice (some ⟨g2, 0, none⟩) m m], .int .i64 (k : Nat), .int .i64 (p : Nat)] W fun r w' => r = .returned (.bool (N[k].contains (p : Int))) ∧ Below W.heap.size W w') := fun W p hb => neighbours_any k p hlt ((hb.cell (p := ⟨g2, k, none⟩) (lt_cell cv)).trans cv) (ri_new HOv.out hb) hrow1 hrow2
        have HPk : Hid (∀ W, Below wr.heap.size wr W → Calls Try.prog 42 #[.agg #[.slice (some ⟨gi, 0, none⟩) m ci, .slice (some ⟨g1, 0, none⟩) m m, .slice (some ⟨g2, 0, none⟩) m m], .int .i64 P[k]] W fun r w' => r = .returned (.tuple #[.int .i64 (findN I P[k]), .bool (foundB I P[k])]) ∧ Below W.heap.size W w') := fun W hb => HPl.out W P[k] (HB.out.trans (hb.mono HB.out.size))
        have HOm : Hid (okM P I N k = if freeB P I k = true then !(N[k].any fun x => freeB P I x.toNat) else foundB I P[k] && N[k].contains ((findN I P[k] : Nat) : Int) && (P.getD (findN I P[k]) 0 == I[k])) := by
          show _ = _
          unfold okM
          rw [gN, gP, gI]
        have HFl : Hid (foundB I P[k] = true → findN I P[k] < m) := fun h => by rw [← hIl]; exact found_lt h
        obtain ⟨p2, k2, s2, rfl⟩ := own_any ov
        clear HFr' HFr HWeb HPl HRow gN gP gI hrow1 hrow2 hrow3 ov HOv m2 hv fv
        generalize P[k] = x at p1 HPk HOm HFl
        generalize I[k] = y at q1 HOm
        generalize (N[k].any fun x => freeB P I x.toNat) = an at HCo HOm
        generalize N[k] = Nk at HNb HOm
        generalize findN I x = pp at HPk HOm HFl
        generalize foundB I x = fo at HPk HOm HFl
        generalize freeB P I k = fr at HCl HOm
        have HRk : Hid (okM P I N k = false → res = false) := HRf.out k hlt
        clear HRf HRt HRn
        cases fr with
        | true =>
          cases an with
          | true =>
            have HF : Hid (res = false) := HRk.out (by rw [HOm.out]; rfl)
            go_wp2_with (first
              | (go_at_call 51; refine HCl.out.mono ?_; rintro r w8 ⟨rfl, hb8⟩; have HB8 : Hid _ := hb8; have z1 := (hb8.cell (p := ⟨bw, 2, none⟩) (lt_cell f2)).trans f2; have z2 := (hb8.cell (p := ⟨g2, k, none⟩) (lt_cell cv)).trans cv; have HW8 : Hid _ := (hb8.block _ (lt_of_block HWb'.out)).trans HWb'.out; clear hb8)
              | (go_at_call 52; refine (HCo.out _ HB8.out).mono ?_; rintro r w9 ⟨rfl, hb9⟩; have HBx : Hid _ := HB8.out.trans (hb9.mono HB8.out.size); clear hb9))
            go_ret
            exact ⟨by rw [HF.out]; rfl, HB2.out.trans ((HB.out.trans (HBx.out.mono HB.out.size)).mono HB2.out.size)⟩
          | false =>
            have HT : Hid (okM P I N k = true) := by show _ = _; rw [HOm.out]; rfl
            go_wp2_with (first
              | (go_at_call 51; refine HCl.out.mono ?_; rintro r w8 ⟨rfl, hb8⟩; have HB8 : Hid _ := hb8; have z1 := (hb8.cell (p := ⟨bw, 2, none⟩) (lt_cell f2)).trans f2; have z2 := (hb8.cell (p := ⟨g2, k, none⟩) (lt_cell cv)).trans cv; have HW8 : Hid _ := (hb8.block _ (lt_of_block HWb'.out)).trans HWb'.out; clear hb8)
              | (go_at_call 52; refine (HCo.out _ HB8.out).mono ?_; rintro r w9 ⟨rfl, hb9⟩; have HBx : Hid _ := HB8.out.trans (hb9.mono HB8.out.size); clear hb9))
            go_roundw
            case rel => exact ⟨k + 1, HLt.out, by go_num, fun j hj => (by
              by_cases e : j = k
              · rw [e]; exact HT.out
              · exact HOk.out j (by omega)), HB.out.trans (HBx.out.mono HB.out.size)⟩
            case measure => have := HLt.out; simp [intOf]; omega
        | false =>
          cases fo with
          | false =>
            have HF : Hid (res = false) := HRk.out (by rw [HOm.out]; rfl)
            go_upto_region 12 with (first
              | (go_at_call 51; refine HCl.out.mono ?_; rintro r w8 ⟨rfl, hb8⟩; have HB8 : Hid _ := hb8; have z1 := (hb8.cell (p := ⟨bw, 2, none⟩) (lt_cell f2)).trans f2; have z2 := (hb8.cell (p := ⟨g2, k, none⟩) (lt_cell cv)).trans cv; have HW8 : Hid _ := (hb8.block _ (lt_of_block HWb'.out)).trans HWb'.out; clear hb8)
              | (refine wpList_load_row rfl 81 _ rfl bw rfl 81 #[.slice (some ⟨gi, 0, none⟩) m ci, .slice (some ⟨g1, 0, none⟩) m m, .slice (some ⟨g2, 0, none⟩) m m] (0, 0) _ HW8.out Try.underlying81 rfl size_web ?_)
              | (go_at_call 42; refine (HPk.out _ HB8.out).mono ?_; rintro r w9 ⟨rfl, hb9⟩; have HB9 : Hid _ := HB8.out.trans (hb9.mono HB8.out.size); clear hb9))
            refine match_r12n rfl rfl ?_
            intro X W hb h63
            have HBx : Hid _ := HB9.out.trans (hb.mono HB9.out.size)
            clear hb
            simp only [puts]
            rw [h63]
            generalize X 43 = x43
            generalize X 44 = x44
            generalize X 45 = x45
            generalize X 46 = x46
            generalize X 47 = x47
            generalize X 48 = x48
            generalize X 49 = x49
            generalize X 50 = x50
            generalize X 51 = x51
            generalize X 52 = x52
            generalize X 53 = x53
            generalize X 54 = x54
            generalize X 55 = x55
            generalize X 56 = x56
            generalize X 57 = x57
            generalize X 58 = x58
            generalize X 59 = x59
            generalize X 60 = x60
            generalize X 61 = x61
            generalize X 62 = x62
            clear h63
            simp only [Act.put, List.setIfInBounds_toArray, List.set_cons_succ, List.set_cons_zero]
            go_wp2
            go_ret
            exact ⟨by rw [HF.out]; rfl, HB2.out.trans ((HB.out.trans (HBx.out.mono HB.out.size)).mono HB2.out.size)⟩
          | true =>
            have hpp : pp < m := HFl.out rfl
            cases hnb : Nk.contains (pp : Int) with
            | false =>
              have HF : Hid (res = false) := HRk.out (by rw [HOm.out, hnb]; rfl)
              go_upto_region 12 with (first
                | (go_at_call 51; refine HCl.out.mono ?_; rintro r w8 ⟨rfl, hb8⟩; have HB8 : Hid _ := hb8; have z1 := (hb8.cell (p := ⟨bw, 2, none⟩) (lt_cell f2)).trans f2; have z2 := (hb8.cell (p := ⟨g2, k, none⟩) (lt_cell cv)).trans cv; have HW8 : Hid _ := (hb8.block _ (lt_of_block HWb'.out)).trans HWb'.out; clear hb8)
                | (refine wpList_load_row rfl 81 _ rfl bw rfl 81 #[.slice (some ⟨gi, 0, none⟩) m ci, .slice (some ⟨g1, 0, none⟩) m m, .slice (some ⟨g2, 0, none⟩) m m] (0, 0) _ HW8.out Try.underlying81 rfl size_web ?_)
                | (go_at_call 42; refine (HPk.out _ HB8.out).mono ?_; rintro r w9 ⟨rfl, hb9⟩; have HB9 : Hid _ := HB8.out.trans (hb9.mono HB8.out.size); clear hb9))
              refine match_r12f (bw := bw) (gi := gi) (n := m) (ci := ci) (m := k) (p := pp) rfl rfl rfl rfl rfl ((HB9.out.block _ (lt_of_block HWb'.out)).trans HWb'.out) (fun W hb => (by have := HNb.out W pp (HB9.out.trans (hb.mono HB9.out.size)); rw [hnb] at this; exact this)) ?_
              intro X W hb h63
              have HBx : Hid _ := HB9.out.trans (hb.mono HB9.out.size)
              clear hb
              simp only [puts]
              rw [h63]
              generalize X 43 = x43
              generalize X 44 = x44
              generalize X 45 = x45
              generalize X 46 = x46
              generalize X 47 = x47
              generalize X 48 = x48
              generalize X 49 = x49
              generalize X 50 = x50
              generalize X 51 = x51
              generalize X 52 = x52
              generalize X 53 = x53
              generalize X 54 = x54
              generalize X 55 = x55
              generalize X 56 = x56
              generalize X 57 = x57
              generalize X 58 = x58
              generalize X 59 = x59
              generalize X 60 = x60
              generalize X 61 = x61
              generalize X 62 = x62
              clear h63
              simp only [Act.put, List.setIfInBounds_toArray, List.set_cons_succ, List.set_cons_zero]
              go_wp2
              go_ret
              exact ⟨by rw [HF.out]; rfl, HB2.out.trans ((HB.out.trans (HBx.out.mono HB.out.size)).mono HB2.out.size)⟩
            | true =>
              have hpq : pp < P.length := by rw [HM.out]; exact hpp
              obtain ⟨g', o', e', px⟩ := HPw.out pp hpq
              cases e'
              have gP : P.getD pp 0 = P[pp] := by simp [List.getD, hpq]
              rw [gP] at HOm
              generalize P[pp] = z at px HOm
              clear gP hpq
              go_upto_region 12 with (first
                | (go_at_call 51; refine HCl.out.mono ?_; rintro r w8 ⟨rfl, hb8⟩; have HB8 : Hid _ := hb8; have z1 := (hb8.cell (p := ⟨bw, 2, none⟩) (lt_cell f2)).trans f2; have z2 := (hb8.cell (p := ⟨g2, k, none⟩) (lt_cell cv)).trans cv; have HW8 : Hid _ := (hb8.block _ (lt_of_block HWb'.out)).trans HWb'.out; clear hb8)
                | (refine wpList_load_row rfl 81 _ rfl bw rfl 81 #[.slice (some ⟨gi, 0, none⟩) m ci, .slice (some ⟨g1, 0, none⟩) m m, .slice (some ⟨g2, 0, none⟩) m m] (0, 0) _ HW8.out Try.underlying81 rfl size_web ?_)
                | (go_at_call 42; refine (HPk.out _ HB8.out).mono ?_; rintro r w9 ⟨rfl, hb9⟩; have HB9 : Hid _ := HB8.out.trans (hb9.mono HB8.out.size); clear hb9))
              refine match_r12t (bw := bw) (gi := gi) (n := m) (ci := ci) (m := k) (p := pp) (bl := bl) (g := g) (o := o) (lc := lc) (x := z) (y := y) rfl rfl rfl rfl rfl ((HB9.out.block _ (lt_of_block HWb'.out)).trans HWb'.out) (fun W hb => (by have := HNb.out W pp (HB9.out.trans (hb.mono HB9.out.size)); rw [hnb] at this; exact this)) rfl ((HB9.out.cell (p := ⟨bl, 0, none⟩) (lt_cell e2)).trans e2) ((HB9.out.cell (p := ⟨g, o + pp, none⟩) (lt_cell px)).trans px) ((HB9.out.cell (p := ⟨bw, 0, none⟩) (lt_cell f0)).trans f0) ((HB9.out.cell (p := ⟨gi, k, none⟩) (lt_cell q1)).trans q1) hpp HLt.out ?_
              intro X W hb h63
              have HBx : Hid _ := HB9.out.trans (hb.mono HB9.out.size)
              clear hb
              simp only [puts]
              rw [h63]
              generalize X 43 = x43
              generalize X 44 = x44
              generalize X 45 = x45
              generalize X 46 = x46
              generalize X 47 = x47
              generalize X 48 = x48
              generalize X 49 = x49
              generalize X 50 = x50
              generalize X 51 = x51
              generalize X 52 = x52
              generalize X 53 = x53
              generalize X 54 = x54
              generalize X 55 = x55
              generalize X 56 = x56
              generalize X 57 = x57
              generalize X 58 = x58
              generalize X 59 = x59
              generalize X 60 = x60
              generalize X 61 = x61
              generalize X 62 = x62
              clear h63
              simp only [Act.put, List.setIfInBounds_toArray, List.set_cons_succ, List.set_cons_zero]
              have hzy : (z != y) = !(z == y) := rfl
              cases hz : (z == y) with
              | false =>
                have HF : Hid (res = false) := HRk.out (by rw [HOm.out, hnb, hz]; rfl)
                rw [hzy, hz]
                go_wp2
                go_ret
                exact ⟨by rw [HF.out]; rfl, HB2.out.trans ((HB.out.trans (HBx.out.mono HB.out.size)).mono HB2.out.size)⟩
              | true =>
                have HT : Hid (okM P I N k = true) := by show _ = _; rw [HOm.out, hnb, hz]; rfl
                rw [hzy, hz]
                go_wp2
                go_roundw
                case rel => exact ⟨k + 1, HLt.out, by go_num, fun j hj => (by
                  by_cases e : j = k
                  · rw [e]; exact HT.out
                  · exact HOk.out j (by omega)), HB.out.trans (HBx.out.mono HB.out.size)⟩
                case measure => have := HLt.out; simp [intOf]; omega
      · obtain rfl : k = m := by omega
        have HF : Hid (res = true) := HRt.out (by trivial) HOk.out
        clear hlt
        go_wp2
        go_ret
        exact ⟨by rw [HF.out]; rfl, HB2.out.trans (HB.out.mono HB2.out.size)⟩
  · have hmm : ((m : Int) != (n : Int)) = true := by simp; omega
    have HF : Hid (res = false) := HRn.out hmn
    go_wp2
    go_ret
    exact ⟨by rw [HF.out]; rfl, HB2.out⟩
end Go.Proofs.Ytcfbmgbhpihdcaa
