/- AggMerges: its walk. -/
import Derived.Test.YtjbkbhilcmiamaaAgAwake
namespace Go.Proofs.Ytjbkbhilcmiamaa
open Go.RowKit
theorem run_neqE {w : World} (o : Nat → Option Int) : (binOp .eql 26 (.agg (AOc o)) (.agg (AOc o))).run Try.prog w = .ok (.bool true) w := run_eqlAG w (oh o) (ov o)
theorem run_guardE (op : BinOp) {w : World} (x y : Operand) (o : Nat → Option Int) : (eqGuard op 26 x y (.agg (AOc o)) (.agg (AOc o))).run Try.prog w = .ok () w := run_guardAG op w x y (oh o) (ov o)
theorem mrg_err {a b : Nat → Option Int} : ∀ k, k ≤ 5 → (mrg a b k).2 = 0 ∨ (mrg a b k).2 = 20
  | 0, _ => .inl rfl
  | k + 1, h => by
    show (mstep b _ k).2 = 0 ∨ (mstep b _ k).2 = 20
    unfold mstep
    split
    · split
      · exact mrg_err k (by omega)
      · exact addE_two (by omega) _
    · exact mrg_err k (by omega)
/-- The four boxes of AggMerges. -/
structure MG (w wr : World) (g h : Nat) (x y got want : Nat → Option Int) : Prop where
  bx : wr.heap[g]? = some (.cells (AOc x) 26 (0, 0))
  by_ : wr.heap[g + 1]? = some (.cells (AOc y) 26 (0, 0))
  bg : wr.heap[h]? = some (.cells (AOc got) 26 (0, 0))
  bw : wr.heap[h + 1]? = some (.cells (AOc want) 26 (0, 0))
  low : Below w.heap.size w wr
  hg : w.heap.size ≤ g
  hh : g + 1 < h
theorem MG.new {w wr w' : World} {g h : Nat} {x y got want : Nat → Option Int} (H : MG w wr g h x y got want) (hb : Below wr.heap.size wr w') : MG w w' g h x y got want :=
  ⟨(hb.block _ (lt_of_block H.bx)).trans H.bx, (hb.block _ (lt_of_block H.by_)).trans H.by_, (hb.block _ (lt_of_block H.bg)).trans H.bg, (hb.block _ (lt_of_block H.bw)).trans H.bw, H.low.trans (hb.mono H.low.size), H.hg, H.hh⟩
theorem MG.put {w wr w' : World} {g h : Nat} {x y got want want' : Nat → Option Int} (H : MG w wr g h x y got want) (f : Fr wr w' (fun k => k = h + 1)) (hn : w'.heap[h + 1]? = some (.cells (AOc want') 26 (0, 0))) : MG w w' g h x y got want' := by
  have h1 := H.hg
  have h2 := H.hh
  exact ⟨(f.block _ (lt_of_block H.bx) (by omega)).trans H.bx, (f.block _ (lt_of_block H.by_) (by omega)).trans H.by_, (f.block _ (lt_of_block H.bg) (by omega)).trans H.bg, hn, H.low.trans (f.below H.low.size (fun k hk => by omega)), H.hg, H.hh⟩
theorem MG.start {w w2 w3 : World} {x y got : Nat → Option Int} (h2 : Below w.heap.size w w2) (h3 : Below ((w2.alloc (.cells (AOc x) 26)).alloc (.cells (AOc y) 26)).heap.size ((w2.alloc (.cells (AOc x) 26)).alloc (.cells (AOc y) 26)) w3) :
    MG w ((w3.alloc (.cells (AOc got) 26)).alloc (.cells (AOc x) 26)) w2.heap.size w3.heap.size x y got x := by
  have s2 : ((w2.alloc (.cells (AOc x) 26)).alloc (.cells (AOc y) 26)).heap.size = w2.heap.size + 1 + 1 := by rw [World.size_alloc, World.size_alloc]
  have z := h3.size
  rw [s2] at z
  have x3 := (h3.block w2.heap.size (by omega)).trans (blk_al2 _ _ _)
  have y3 := (h3.block (w2.heap.size + 1) (by omega)).trans (heap_alloc_new2 _ _ _)
  have l2 : Below w.heap.size w ((w2.alloc (.cells (AOc x) 26)).alloc (.cells (AOc y) 26)) := h2.trans ((two_new2 _ _ _).mono h2.size)
  have l3 := l2.trans (h3.mono l2.size)
  exact ⟨blk_al' _ (blk_al' _ x3), blk_al' _ (blk_al' _ y3), blk_al2 _ _ _, heap_alloc_new2 _ _ _, l3.trans ((two_new2 _ _ _).mono l3.size), h2.size, by omega⟩
set_option maxRecDepth 100000 in
set_option maxHeartbeats 6000000 in
theorem law_merges {P Q : Nat → Prop} (ao bo : Option Addr) (cap cbp : Nat) (L M : List Ed) (w : World) (hE : EdAt w P ao L) (hF : EdAt w Q bo M) (hok : ∀ y ∈ L, y.ok) (hok' : ∀ y ∈ M, y.ok) (hl : L.length ≤ 35184372088832) (hm : M.length ≤ 35184372088832) :
    Calls Try.prog 4 #[.slice ao L.length cap, .slice bo M.length cbp] w fun e w' => e = .returned (.bool true) ∧ Below w.heap.size w w' := by
  have HE : Hid (EdAt w P ao L) := hE
  have HF : Hid (EdAt w Q bo M) := hF
  have HO1 : Hid (∀ y ∈ L, y.ok) := hok
  have HO2 : Hid (∀ y ∈ M, y.ok) := hok'
  have HL : Hid _ := hl
  have HM : Hid _ := hm
  have HX : Hid (OkO (allO L)) := allO_ok L hok
  have HY : Hid (OkO (allO M)) := allO_ok M hok'
  obtain ⟨x, hx⟩ : ∃ x, allO L = x := ⟨_, rfl⟩
  obtain ⟨y, hy⟩ : ∃ y, allO M = y := ⟨_, rfl⟩
  rw [hx] at HX
  rw [hy] at HY
  have EX : Hid _ := hx
  have EY : Hid _ := hy
  clear hE hF hok hok' hx hy hl hm
  go_enter Try.func4, Try.ntmps4
  go_wp2_with (first
    | (go_at_call 13; first
      | (have := hb1; refine (all_any bo cbp M _ (HF.out.new hb1) HO2.out HM.out).mono ?_; rintro e w2 ⟨rfl, hb2⟩; rw [EY.out]; simp only [AO, AG])
      | (refine (all_any ao cap L _ HE.out HO1.out HL.out).mono ?_; rintro e w1 ⟨rfl, hb1⟩; rw [EX.out]; simp only [AO, AG]))
    | (go_at_call 14; refine (merge_any x y _ HX.out HY.out).mono ?_; rintro e w3 ⟨rfl, hb3⟩; simp only [AO, AG]; have lx := (hb3.block w2.heap.size (by rw [World.size_alloc, World.size_alloc]; omega)).trans (blk_al2 _ _ _); have l3 := lt_of_block lx; obtain ⟨c0, c1, c2, c3, c4, c5, c6, c7, c8, c9⟩ := mblk10 lx))
  have hS := MG.start (x := x) (y := y) (got := mergeO x y) (hb1.trans (hb2.mono hb1.size)) hb3
  have HS : Hid _ := hS
  clear hS c0 c1 c2 c3 c4 c5 c6 c7 c8 c9 lx l3
  go_loopw [10, 11] (fun f i wr => ∃ (k : Nat) (o : Nat → Option Int) (er : Int), k ≤ 5 ∧ i = .int .i64 k ∧ f = .int .i64 er ∧ Hid (mrg x y k = (o, er)) ∧ MG w wr w2.heap.size w3.heap.size x y (mergeO x y) o) (fun _ i _ => 5 - (intOf i).toNat)
  case atStart => exact ⟨0, x, 0, Nat.zero_le _, rfl, rfl, rfl, HS.out⟩
  case round =>
    obtain ⟨k, o, er, hk, rfl, rfl, HM, hT⟩ := hrel
    have h20 : er = 0 ∨ er = 20 := by have := mrg_err (a := x) (b := y) k hk; rw [HM.out] at this; exact this
    by_cases hlt : k < 5
    · have hk5 : k = 0 ∨ k = 1 ∨ k = 2 ∨ k = 3 ∨ k = 4 := by omega
      obtain ⟨c0, c1, c2, c3, c4, c5, c6, c7, c8, c9⟩ := box_ao hT.by_
      clear HS
      rcases hk5 with rfl | rfl | rfl | rfl | rfl
      · cases hy : y 0 with
        | none =>
          rw [oh_none hy] at c0
          have HR : Hid (mrg x y (0 + 1) = (o, er)) := (mrg_none hy).trans HM.out
          clear hy HM
          go_wp2
          go_roundw
          case rel => exact ⟨0 + 1, o, er, by omega, by go_num, rfl, HR.out, hT⟩
          case measure => simp [intOf]
        | some v =>
          rw [oh_some hy] at c0
          rw [ov_some hy] at c5
          have HI : Hid (I6 v) := HY.out _ _ hy
          rcases h20 with rfl | rfl
          · have HR0 := mrg_some hy (by rw [HM.out])
            rw [HM.out] at HR0
            have HR : Hid _ := HR0
            have HO : Hid (OkO o) := by have := mrg_ok HX.out HY.out 0; rw [HM.out] at this; exact this
            obtain ⟨d0, d1, d2, d3, d4, d5, d6, d7, d8, d9⟩ := box_ao hT.bw
            have HT : Hid _ := hT
            clear hy HM HR0 hT
            go_wp2
            go_region_with (go_at_call 10; refine (lAdd_any o 0 v _ HO.out HI.out).mono ?_; rintro e w5 ⟨rfl, hb5⟩; simp only [AO, AG]; have hT5 := HT.out.new (below_c' hb5); obtain ⟨p0, p1, p2, p3, p4, p5, p6, p7, p8, p9⟩ := box_ao hT5.bw; obtain ⟨q0, q1, q2, q3, q4, q5, q6, q7, q8, q9⟩ := fro_ao hT5.bw; have HT5 : Hid _ := hT5; clear hT5)
            all_goals
              clear c0 c1 c2 c3 c4 c5 c6 c7 c8 c9 d0 d1 d2 d3 d4 d5 d6 d7 d8 d9 p0 p1 p2 p3 p4 p5 p6 p7 p8 p9 q0 q1 q2 q3 q4 q5 q6 q7 q8 q9
              go_wp2
              go_roundw
              case rel => exact ⟨0 + 1, addO o 0 v, addE o 0 v, by omega, by go_num, rfl, HR.out, HT5.out.put (fs10 _ _ _ _ _ _ _ _ _ _ _ _) (mset10 _ _ _ _ _ _ _ _ _ _ HT5.out.bw)⟩
              case measure => simp [intOf]
          · have HR : Hid (mrg x y (0 + 1) = (o, 20)) := (mrg_stop (j := 1) (by rw [HM.out]; simp)).trans HM.out
            clear hy HM
            go_wp2
            go_roundw
            case rel => exact ⟨0 + 1, o, 20, by omega, by go_num, rfl, HR.out, hT⟩
            case measure => simp [intOf]
      · cases hy : y 1 with
        | none =>
          rw [oh_none hy] at c1
          have HR : Hid (mrg x y (1 + 1) = (o, er)) := (mrg_none hy).trans HM.out
          clear hy HM
          go_wp2
          go_roundw
          case rel => exact ⟨1 + 1, o, er, by omega, by go_num, rfl, HR.out, hT⟩
          case measure => simp [intOf]
        | some v =>
          rw [oh_some hy] at c1
          rw [ov_some hy] at c6
          have HI : Hid (I6 v) := HY.out _ _ hy
          rcases h20 with rfl | rfl
          · have HR0 := mrg_some hy (by rw [HM.out])
            rw [HM.out] at HR0
            have HR : Hid _ := HR0
            have HO : Hid (OkO o) := by have := mrg_ok HX.out HY.out 1; rw [HM.out] at this; exact this
            obtain ⟨d0, d1, d2, d3, d4, d5, d6, d7, d8, d9⟩ := box_ao hT.bw
            have HT : Hid _ := hT
            clear hy HM HR0 hT
            go_wp2
            go_region_with (go_at_call 10; refine (lAdd_any o 1 v _ HO.out HI.out).mono ?_; rintro e w5 ⟨rfl, hb5⟩; simp only [AO, AG]; have hT5 := HT.out.new (below_c' hb5); obtain ⟨p0, p1, p2, p3, p4, p5, p6, p7, p8, p9⟩ := box_ao hT5.bw; obtain ⟨q0, q1, q2, q3, q4, q5, q6, q7, q8, q9⟩ := fro_ao hT5.bw; have HT5 : Hid _ := hT5; clear hT5)
            all_goals
              clear c0 c1 c2 c3 c4 c5 c6 c7 c8 c9 d0 d1 d2 d3 d4 d5 d6 d7 d8 d9 p0 p1 p2 p3 p4 p5 p6 p7 p8 p9 q0 q1 q2 q3 q4 q5 q6 q7 q8 q9
              go_wp2
              go_roundw
              case rel => exact ⟨1 + 1, addO o 1 v, addE o 1 v, by omega, by go_num, rfl, HR.out, HT5.out.put (fs10 _ _ _ _ _ _ _ _ _ _ _ _) (mset10 _ _ _ _ _ _ _ _ _ _ HT5.out.bw)⟩
              case measure => simp [intOf]
          · have HR : Hid (mrg x y (1 + 1) = (o, 20)) := (mrg_stop (j := 1) (by rw [HM.out]; simp)).trans HM.out
            clear hy HM
            go_wp2
            go_roundw
            case rel => exact ⟨1 + 1, o, 20, by omega, by go_num, rfl, HR.out, hT⟩
            case measure => simp [intOf]
      · cases hy : y 2 with
        | none =>
          rw [oh_none hy] at c2
          have HR : Hid (mrg x y (2 + 1) = (o, er)) := (mrg_none hy).trans HM.out
          clear hy HM
          go_wp2
          go_roundw
          case rel => exact ⟨2 + 1, o, er, by omega, by go_num, rfl, HR.out, hT⟩
          case measure => simp [intOf]
        | some v =>
          rw [oh_some hy] at c2
          rw [ov_some hy] at c7
          have HI : Hid (I6 v) := HY.out _ _ hy
          rcases h20 with rfl | rfl
          · have HR0 := mrg_some hy (by rw [HM.out])
            rw [HM.out] at HR0
            have HR : Hid _ := HR0
            have HO : Hid (OkO o) := by have := mrg_ok HX.out HY.out 2; rw [HM.out] at this; exact this
            obtain ⟨d0, d1, d2, d3, d4, d5, d6, d7, d8, d9⟩ := box_ao hT.bw
            have HT : Hid _ := hT
            clear hy HM HR0 hT
            go_wp2
            go_region_with (go_at_call 10; refine (lAdd_any o 2 v _ HO.out HI.out).mono ?_; rintro e w5 ⟨rfl, hb5⟩; simp only [AO, AG]; have hT5 := HT.out.new (below_c' hb5); obtain ⟨p0, p1, p2, p3, p4, p5, p6, p7, p8, p9⟩ := box_ao hT5.bw; obtain ⟨q0, q1, q2, q3, q4, q5, q6, q7, q8, q9⟩ := fro_ao hT5.bw; have HT5 : Hid _ := hT5; clear hT5)
            all_goals
              clear c0 c1 c2 c3 c4 c5 c6 c7 c8 c9 d0 d1 d2 d3 d4 d5 d6 d7 d8 d9 p0 p1 p2 p3 p4 p5 p6 p7 p8 p9 q0 q1 q2 q3 q4 q5 q6 q7 q8 q9
              go_wp2
              go_roundw
              case rel => exact ⟨2 + 1, addO o 2 v, addE o 2 v, by omega, by go_num, rfl, HR.out, HT5.out.put (fs10 _ _ _ _ _ _ _ _ _ _ _ _) (mset10 _ _ _ _ _ _ _ _ _ _ HT5.out.bw)⟩
              case measure => simp [intOf]
          · have HR : Hid (mrg x y (2 + 1) = (o, 20)) := (mrg_stop (j := 1) (by rw [HM.out]; simp)).trans HM.out
            clear hy HM
            go_wp2
            go_roundw
            case rel => exact ⟨2 + 1, o, 20, by omega, by go_num, rfl, HR.out, hT⟩
            case measure => simp [intOf]
      · cases hy : y 3 with
        | none =>
          rw [oh_none hy] at c3
          have HR : Hid (mrg x y (3 + 1) = (o, er)) := (mrg_none hy).trans HM.out
          clear hy HM
          go_wp2
          go_roundw
          case rel => exact ⟨3 + 1, o, er, by omega, by go_num, rfl, HR.out, hT⟩
          case measure => simp [intOf]
        | some v =>
          rw [oh_some hy] at c3
          rw [ov_some hy] at c8
          have HI : Hid (I6 v) := HY.out _ _ hy
          rcases h20 with rfl | rfl
          · have HR0 := mrg_some hy (by rw [HM.out])
            rw [HM.out] at HR0
            have HR : Hid _ := HR0
            have HO : Hid (OkO o) := by have := mrg_ok HX.out HY.out 3; rw [HM.out] at this; exact this
            obtain ⟨d0, d1, d2, d3, d4, d5, d6, d7, d8, d9⟩ := box_ao hT.bw
            have HT : Hid _ := hT
            clear hy HM HR0 hT
            go_wp2
            go_region_with (go_at_call 10; refine (lAdd_any o 3 v _ HO.out HI.out).mono ?_; rintro e w5 ⟨rfl, hb5⟩; simp only [AO, AG]; have hT5 := HT.out.new (below_c' hb5); obtain ⟨p0, p1, p2, p3, p4, p5, p6, p7, p8, p9⟩ := box_ao hT5.bw; obtain ⟨q0, q1, q2, q3, q4, q5, q6, q7, q8, q9⟩ := fro_ao hT5.bw; have HT5 : Hid _ := hT5; clear hT5)
            all_goals
              clear c0 c1 c2 c3 c4 c5 c6 c7 c8 c9 d0 d1 d2 d3 d4 d5 d6 d7 d8 d9 p0 p1 p2 p3 p4 p5 p6 p7 p8 p9 q0 q1 q2 q3 q4 q5 q6 q7 q8 q9
              go_wp2
              go_roundw
              case rel => exact ⟨3 + 1, addO o 3 v, addE o 3 v, by omega, by go_num, rfl, HR.out, HT5.out.put (fs10 _ _ _ _ _ _ _ _ _ _ _ _) (mset10 _ _ _ _ _ _ _ _ _ _ HT5.out.bw)⟩
              case measure => simp [intOf]
          · have HR : Hid (mrg x y (3 + 1) = (o, 20)) := (mrg_stop (j := 1) (by rw [HM.out]; simp)).trans HM.out
            clear hy HM
            go_wp2
            go_roundw
            case rel => exact ⟨3 + 1, o, 20, by omega, by go_num, rfl, HR.out, hT⟩
            case measure => simp [intOf]
      · cases hy : y 4 with
        | none =>
          rw [oh_none hy] at c4
          have HR : Hid (mrg x y (4 + 1) = (o, er)) := (mrg_none hy).trans HM.out
          clear hy HM
          go_wp2
          go_roundw
          case rel => exact ⟨4 + 1, o, er, by omega, by go_num, rfl, HR.out, hT⟩
          case measure => simp [intOf]
        | some v =>
          rw [oh_some hy] at c4
          rw [ov_some hy] at c9
          have HI : Hid (I6 v) := HY.out _ _ hy
          rcases h20 with rfl | rfl
          · have HR0 := mrg_some hy (by rw [HM.out])
            rw [HM.out] at HR0
            have HR : Hid _ := HR0
            have HO : Hid (OkO o) := by have := mrg_ok HX.out HY.out 4; rw [HM.out] at this; exact this
            obtain ⟨d0, d1, d2, d3, d4, d5, d6, d7, d8, d9⟩ := box_ao hT.bw
            have HT : Hid _ := hT
            clear hy HM HR0 hT
            go_wp2
            go_region_with (go_at_call 10; refine (lAdd_any o 4 v _ HO.out HI.out).mono ?_; rintro e w5 ⟨rfl, hb5⟩; simp only [AO, AG]; have hT5 := HT.out.new (below_c' hb5); obtain ⟨p0, p1, p2, p3, p4, p5, p6, p7, p8, p9⟩ := box_ao hT5.bw; obtain ⟨q0, q1, q2, q3, q4, q5, q6, q7, q8, q9⟩ := fro_ao hT5.bw; have HT5 : Hid _ := hT5; clear hT5)
            all_goals
              clear c0 c1 c2 c3 c4 c5 c6 c7 c8 c9 d0 d1 d2 d3 d4 d5 d6 d7 d8 d9 p0 p1 p2 p3 p4 p5 p6 p7 p8 p9 q0 q1 q2 q3 q4 q5 q6 q7 q8 q9
              go_wp2
              go_roundw
              case rel => exact ⟨4 + 1, addO o 4 v, addE o 4 v, by omega, by go_num, rfl, HR.out, HT5.out.put (fs10 _ _ _ _ _ _ _ _ _ _ _ _) (mset10 _ _ _ _ _ _ _ _ _ _ HT5.out.bw)⟩
              case measure => simp [intOf]
          · have HR : Hid (mrg x y (4 + 1) = (o, 20)) := (mrg_stop (j := 1) (by rw [HM.out]; simp)).trans HM.out
            clear hy HM
            go_wp2
            go_roundw
            case rel => exact ⟨4 + 1, o, 20, by omega, by go_num, rfl, HR.out, hT⟩
            case measure => simp [intOf]
    · obtain rfl : k = 5 := by omega
      clear HS
      have HNL : Hid _ := fun o' w' => run_neqE (w := w') o'
      have HGL : Hid _ := fun o' w' x y => run_guardE .eql (w := w') x y o'
      rcases h20 with rfl | rfl
      · have e := merge_good (a := x) (b := y) (by rw [HM.out])
        rw [HM.out] at e
        rw [e.1] at hT
        rw [e.2]
        have n1 := HNL.out o
        have n2 := HGL.out o
        unfold AOc AC at n1 n2
        have hT0 : Hid _ := hT
        clear e HM hT
        go_wp2_with (go_at_call 12; refine (awake4_any _).mono ?_; rintro e w6 ⟨rfl, hb6⟩; have hT6 := hT0.out.new hb6; obtain ⟨c0, c1, c2, c3, c4, c5, c6, c7, c8, c9⟩ := box_ao hT6.bg; obtain ⟨d0, d1, d2, d3, d4, d5, d6, d7, d8, d9⟩ := box_ao hT6.bw; have HT6 : Hid _ := hT6; clear hT6)
        go_ret
        exact ⟨rfl, HT6.out.low⟩
      · have e := merge_bad (a := x) (b := y) (k := 4) (by decide) (by rw [HM.out]) (show (20 : Int) ≠ 0 by decide)
        rw [e.1] at hT
        rw [e.2]
        have n1 := HNL.out x
        have n2 := HGL.out x
        unfold AOc AC at n1 n2
        obtain ⟨c0, c1, c2, c3, c4, c5, c6, c7, c8, c9⟩ := box_ao hT.bx
        obtain ⟨p0, p1, p2, p3, p4, p5, p6, p7, p8, p9⟩ := box_ao hT.bw
        obtain ⟨q0, q1, q2, q3, q4, q5, q6, q7, q8, q9⟩ := fro_ao hT.bw
        have hT0 : Hid _ := hT
        clear e HM hT
        go_upto_region 11 with fail
        generalize hW : World.setCell _ _ _ = W
        have hT1 : MG w W w2.heap.size w3.heap.size x y x x := by
          rw [← hW]
          exact hT0.out.put (fs10 _ _ _ _ _ _ _ _ _ _ _ _) (mset10 _ _ _ _ _ _ _ _ _ _ hT0.out.bw)
        have HT1 : Hid _ := hT1
        clear hW hT1 hT0 c0 c1 c2 c3 c4 c5 c6 c7 c8 c9 p0 p1 p2 p3 p4 p5 p6 p7 p8 p9 q0 q1 q2 q3 q4 q5 q6 q7 q8 q9
        go_wp2_with (go_at_call 12; refine (awake4_any _).mono ?_; rintro e w6 ⟨rfl, hb6⟩; have hT6 := HT1.out.new hb6; obtain ⟨c0, c1, c2, c3, c4, c5, c6, c7, c8, c9⟩ := box_ao hT6.bg; obtain ⟨d0, d1, d2, d3, d4, d5, d6, d7, d8, d9⟩ := box_ao hT6.bw; have HT6 : Hid _ := hT6; clear hT6)
        go_ret
        exact ⟨rfl, HT6.out.low⟩
end Go.Proofs.Ytjbkbhilcmiamaa
