import Derived.Test.YtnhijofnhflklaaGreatAgAllM
import Derived.Deep.Cut
/- agg.Merge at any two aggregates. -/
namespace Go.Proofs.YtnhijofnhflklaaGreat
open Go.RowKit

def mstep (b : Nat → Option Int) (st : (Nat → Option Int) × Int) (k : Nat) : (Nat → Option Int) × Int :=
  if st.2 = 0 then
    match b k with
    | none => st
    | some v => (addO st.1 (k : Int) v, addE st.1 (k : Int) v)
  else st
/-- The first so many kinds of b given to a, up to the first error. -/
def mrg (a b : Nat → Option Int) : Nat → (Nat → Option Int) × Int
  | 0 => (a, 0)
  | k + 1 => mstep b (mrg a b k) k
def mergeO (a b : Nat → Option Int) : Nat → Option Int := if (mrg a b 5).2 = 0 then (mrg a b 5).1 else a
def mergeE (a b : Nat → Option Int) : Int := (mrg a b 5).2
theorem mrg_none {a b : Nat → Option Int} {k : Nat} (h : b k = none) : mrg a b (k + 1) = mrg a b k := by
  show mstep b _ k = _
  unfold mstep
  rw [h]
  split <;> rfl
theorem mrg_some {a b : Nat → Option Int} {k : Nat} {v : Int} (h : b k = some v) (he : (mrg a b k).2 = 0) : mrg a b (k + 1) = (addO (mrg a b k).1 (k : Int) v, addE (mrg a b k).1 (k : Int) v) := by
  show mstep b _ k = _
  unfold mstep
  rw [h, if_pos he]
theorem mrg_stop {a b : Nat → Option Int} {k : Nat} (h : (mrg a b k).2 ≠ 0) : ∀ j, mrg a b (k + j) = mrg a b k
  | 0 => rfl
  | j + 1 => by
    show mstep b (mrg a b (k + j)) _ = _
    rw [mrg_stop h j]
    exact if_neg h
theorem mrg_ok {a b : Nat → Option Int} (ha : OkO a) (hb : OkO b) : ∀ k, OkO (mrg a b k).1
  | 0 => ha
  | k + 1 => by
    show OkO (mstep b _ k).1
    unfold mstep
    split
    · split
      · exact mrg_ok ha hb k
      · rename_i v e
        exact (mrg_ok ha hb k).add _ (hb _ _ e)
    · exact mrg_ok ha hb k
theorem merge_bad {a b : Nat → Option Int} {k : Nat} {e : Int} (hk : k < 5) (h : (mrg a b (k + 1)).2 = e) (he : e ≠ 0) : mergeO a b = a ∧ mergeE a b = e := by
  have h5 : mrg a b 5 = mrg a b (k + 1) := by
    have := mrg_stop (a := a) (b := b) (k := k + 1) (by rw [h]; exact he) (5 - (k + 1))
    rw [show k + 1 + (5 - (k + 1)) = 5 by omega] at this
    exact this
  unfold mergeO mergeE
  rw [h5, h]
  exact ⟨if_neg he, rfl⟩
theorem merge_good {a b : Nat → Option Int} (h : (mrg a b 5).2 = 0) : mergeO a b = (mrg a b 5).1 ∧ mergeE a b = 0 := ⟨if_pos h, h⟩
theorem addE_two {o : Nat → Option Int} {k : Nat} (hk : k ≤ 4) (x : Int) : addE o (k : Int) x = 0 ∨ addE o (k : Int) x = 20 := by
  cases e : o k with
  | none => exact .inl (addO_new hk e).2
  | some y =>
    rcases je_cases k y x with h | ⟨_, h⟩
    · exact .inl (addO_old hk e h).2
    · exact .inr (addO_no hk e h (by decide)).2
theorem get_some {o : Nat → Option Int} {k : Nat} {v : Int} (hk : k ≤ 4) (h : o k = some v) (w : World) :
    Calls Tryz.prog 140 #[AO o, .int .i64 (k : Int)] w fun e w' => e = .returned (.tuple #[.int .i64 v, .bool true]) ∧ Below w.heap.size w w' :=
  (get_any o k w).mono fun e w' h' => ⟨h'.1.trans (by rw [getO_in hk, h]; rfl), h'.2⟩
theorem get_none {o : Nat → Option Int} {k : Nat} (hk : k ≤ 4) (h : o k = none) (w : World) :
    Calls Tryz.prog 140 #[AO o, .int .i64 (k : Int)] w fun e w' => e = .returned (.tuple #[.int .i64 0, .bool false]) ∧ Below w.heap.size w w' :=
  (get_any o k w).mono fun e w' h' => ⟨h'.1.trans (by rw [getO_in hk, h]; rfl), h'.2⟩
theorem box_ao {w : World} {g : Nat} {t : TypeId} {o : Nat → Option Int} (h : w.heap[g]? = some (.cells (AOc o) t (0, 0))) : w.cell? ⟨g, 0, none⟩ = some (.bool (oh o 0)) ∧ w.cell? ⟨g, 1, none⟩ = some (.bool (oh o 1)) ∧ w.cell? ⟨g, 2, none⟩ = some (.bool (oh o 2)) ∧ w.cell? ⟨g, 3, none⟩ = some (.bool (oh o 3)) ∧ w.cell? ⟨g, 4, none⟩ = some (.bool (oh o 4)) ∧ w.cell? ⟨g, 5, none⟩ = some (.int .i64 (ov o 0)) ∧ w.cell? ⟨g, 6, none⟩ = some (.int .i64 (ov o 1)) ∧ w.cell? ⟨g, 7, none⟩ = some (.int .i64 (ov o 2)) ∧ w.cell? ⟨g, 8, none⟩ = some (.int .i64 (ov o 3)) ∧ w.cell? ⟨g, 9, none⟩ = some (.int .i64 (ov o 4)) := mblk10 h
theorem fro_ao {w : World} {g : Nat} {t : TypeId} {c : Array Value} (h : w.heap[g]? = some (.cells c t (0, 0))) : w.frozen? ⟨g, 0, none⟩ = false ∧ w.frozen? ⟨g, 1, none⟩ = false ∧ w.frozen? ⟨g, 2, none⟩ = false ∧ w.frozen? ⟨g, 3, none⟩ = false ∧ w.frozen? ⟨g, 4, none⟩ = false ∧ w.frozen? ⟨g, 5, none⟩ = false ∧ w.frozen? ⟨g, 6, none⟩ = false ∧ w.frozen? ⟨g, 7, none⟩ = false ∧ w.frozen? ⟨g, 8, none⟩ = false ∧ w.frozen? ⟨g, 9, none⟩ = false :=
  ⟨froz10 h 0, froz10 h 1, froz10 h 2, froz10 h 3, froz10 h 4, froz10 h 5, froz10 h 6, froz10 h 7, froz10 h 8, froz10 h 9⟩
theorem res_ct {fn : Func} {p u : Tmp} {ty : TypeId} (h : fn.results = #[.cell p ty, .tmp u]) (tmps : Array Value) (w : World) (g : Nat) (t : TypeId) (cs : Array Value) (fr : Nat × Nat) (d : TypeDesc)
    (hp : tmps.getD p undef = .pointer (some ⟨g, 0, none⟩)) (hg : w.heap[g]? = some (.cells cs t fr))
    (hu : Tryz.prog.underlying ty = some d) (hd : (match d with | .struct _ | .array _ _ => true | _ => false) = true) (hi : (Tryz.prog.info? ty).map (·.size) = some cs.size) :
    (results fn tmps).run Tryz.prog w = .ok (.tuple #[.agg cs, tmps.getD u undef]) w := by
  rw [results_cell_tmp h, hp]
  have := run_loadVar_row (P := Tryz.prog) w g t ty cs fr d hg hu (by cases d <;> first | rfl | exact hd) hi
  simp [asAddr, this]
/-- The boxes of Merge between two kinds. -/
structure MB (w wr : World) (a b o : Nat → Option Int) : Prop where
  ba : wr.heap[w.heap.size]? = some (.cells (AOc a) 89 (0, 0))
  bb : wr.heap[w.heap.size + 1]? = some (.cells (AOc b) 89 (0, 0))
  br : wr.heap[w.heap.size + 1 + 1]? = some (.cells zc 89 (0, 0))
  bo : wr.heap[w.heap.size + 1 + 1 + 1]? = some (.cells (AOc o) 89 (0, 0))
  low : Below w.heap.size w wr
theorem MB.new {w wr w' : World} {a b o : Nat → Option Int} (h : MB w wr a b o) (hb : Below wr.heap.size wr w') : MB w w' a b o :=
  ⟨(hb.block _ (lt_of_block h.ba)).trans h.ba, (hb.block _ (lt_of_block h.bb)).trans h.bb, (hb.block _ (lt_of_block h.br)).trans h.br, (hb.block _ (lt_of_block h.bo)).trans h.bo, h.low.trans (hb.mono h.low.size)⟩
theorem MB.al {w wr : World} {a b o : Nat → Option Int} (h : MB w wr a b o) (x : Obj) : MB w (wr.alloc x) a b o := h.new (one_new' _ _)
theorem MB.put {w wr w' : World} {a b o o' : Nat → Option Int} (h : MB w wr a b o) (f : Fr wr w' (fun k => k = w.heap.size + 1 + 1 + 1)) (hn : w'.heap[w.heap.size + 1 + 1 + 1]? = some (.cells (AOc o') 89 (0, 0))) : MB w w' a b o' :=
  ⟨(f.block _ (lt_of_block h.ba) (by omega)).trans h.ba, (f.block _ (lt_of_block h.bb) (by omega)).trans h.bb, (f.block _ (lt_of_block h.br) (by omega)).trans h.br, hn, h.low.trans (f.below h.low.size (fun k hk => by omega))⟩
theorem MB.start (w : World) (a b : Nat → Option Int) : MB w ((((w.alloc (.cells (AOc a) 89)).alloc (.cells (AOc b) 89)).alloc (.cells zc 89)).alloc (.cells (AOc a) 89)) a b a := by
  have s1 := World.size_alloc w (.cells (AOc a) 89)
  have s2 := World.size_alloc (w.alloc (.cells (AOc a) 89)) (.cells (AOc b) 89)
  have s3 := World.size_alloc ((w.alloc (.cells (AOc a) 89)).alloc (.cells (AOc b) 89)) (.cells zc 89)
  rw [s1] at s2
  rw [s2] at s3
  have h1 := heap_alloc_new (w.alloc (.cells (AOc a) 89)) (.cells (AOc b) 89)
  rw [s1] at h1
  have h2 := heap_alloc_new ((w.alloc (.cells (AOc a) 89)).alloc (.cells (AOc b) 89)) (.cells zc 89)
  rw [s2] at h2
  have h3 := heap_alloc_new (((w.alloc (.cells (AOc a) 89)).alloc (.cells (AOc b) 89)).alloc (.cells zc 89)) (.cells (AOc a) 89)
  rw [s3] at h3
  exact ⟨blk_al' _ (blk_al' _ (blk_al' _ (heap_alloc_new _ _))), blk_al' _ (blk_al' _ h1), blk_al' _ h2, h3, ((one_new' w _).trans (((one_new' _ _).trans (((one_new' _ _).trans ((one_new' _ _).mono (by simp))).mono (by simp))).mono (by simp)))⟩
set_option maxRecDepth 100000 in
set_option maxHeartbeats 4000000 in
theorem merge_any (a b : Nat → Option Int) (w : World) (ha : OkO a) (hb : OkO b) :
    Calls Tryz.prog 85 #[AO a, AO b] w fun e w' => e = .returned (.tuple #[AO (mergeO a b), .int .i64 (mergeE a b)]) ∧ Below w.heap.size w w' := by
  have HA : Hid (OkO a) := ha
  have HB : Hid (OkO b) := hb
  have HST : Hid _ := MB.start w a b
  clear ha hb
  show Calls Tryz.prog 85 #[AG (oh a) (ov a), AG (oh b) (ov b)] w _
  unfold AG
  go_enter Tryz.func85, Tryz.ntmps85
  go_wp2
  go_loopw [13] (fun i wr => ∃ (k : Nat) (o : Nat → Option Int), k ≤ 5 ∧ i = .int .i64 k ∧ Hid (mrg a b k = (o, 0)) ∧ MB w wr a b o) (fun i _ => 5 - (intOf i).toNat)
  case atStart => exact ⟨0, a, Nat.zero_le _, rfl, rfl, HST.out⟩
  case round =>
    obtain ⟨k, o, hk, rfl, HM, hT⟩ := hrel
    by_cases hlt : k < 5
    · cases hv : b k with
      | none =>
        have HV : Hid _ := hv
        have HR : Hid (mrg a b (k + 1) = (o, 0)) := (mrg_none hv).trans HM.out
        obtain ⟨c0, c1, c2, c3, c4, c5, c6, c7, c8, c9⟩ := box_ao hT.bb
        clear hv HM
        go_wp2_with (go_at_call 140; refine (get_none (o := b) (by omega) HV.out _).mono ?_; rintro e w1 ⟨rfl, hb1⟩)
        go_roundw
        case rel => exact ⟨k + 1, o, by omega, by go_num, HR.out, hT.new hb1⟩
        case measure => simp [intOf]; omega
      | some v =>
        have HV : Hid _ := hv
        have HI : Hid (I6 v) := HB.out _ _ hv
        have HO : Hid (OkO o) := by have := mrg_ok HA.out HB.out k; rw [HM.out] at this; exact this
        have HR0 := mrg_some hv (by rw [HM.out])
        rw [HM.out] at HR0
        have HR : Hid _ := HR0
        obtain ⟨c0, c1, c2, c3, c4, c5, c6, c7, c8, c9⟩ := box_ao hT.bb
        clear hv HM HR0
        by_cases he : addE o k v = 0
        · have HE : Hid _ := he
          clear he
          go_wp2_with (first
            | (go_at_call 140; refine (get_some (o := b) (by omega) HV.out _).mono ?_; rintro e w1 ⟨rfl, hb1⟩; have hT1 := hT.new hb1; obtain ⟨d0, d1, d2, d3, d4, d5, d6, d7, d8, d9⟩ := box_ao hT1.bo; clear c0 c1 c2 c3 c4 c5 c6 c7 c8 c9)
            | (go_at_call 141; refine (aAdd_any o k v _ HO.out HI.out).mono ?_; rintro e w2 ⟨rfl, hb2⟩; rw [HE.out]; simp only [AO, AG]; have hT2 := hT1.new hb2; have l2 := lt_of_block hT2.bo; obtain ⟨p0, p1, p2, p3, p4, p5, p6, p7, p8, p9⟩ := box_ao hT2.bo; obtain ⟨q0, q1, q2, q3, q4, q5, q6, q7, q8, q9⟩ := fro_ao hT2.bo; clear d0 d1 d2 d3 d4 d5 d6 d7 d8 d9))
          go_roundw
          case rel =>
            refine ⟨k + 1, addO o k v, by omega, by go_num, ?_, ?_⟩
            · show _ = _
              rw [HR.out, HE.out]
            · exact (hT2.put (fs10 _ _ _ _ _ _ _ _ _ _ _ _) (mset10 _ _ _ _ _ _ _ _ _ _ hT2.bo)).al _
          case measure => simp [intOf]; omega
        · have HE : Hid (mergeO a b = a ∧ mergeE a b = addE o k v) := merge_bad hlt (by rw [HR.out]) he
          have her : addE o k v = 20 := (addE_two (by omega) v).resolve_left he
          rw [her] at HE
          have HH : Hid _ := her
          clear her he
          go_upto_region 9 with (first
            | (go_at_call 140; refine (get_some (o := b) (by omega) HV.out _).mono ?_; rintro e w1 ⟨rfl, hb1⟩; have hT1 := hT.new hb1; obtain ⟨d0, d1, d2, d3, d4, d5, d6, d7, d8, d9⟩ := box_ao hT1.bo; clear c0 c1 c2 c3 c4 c5 c6 c7 c8 c9)
            | (go_at_call 141; refine (aAdd_any o k v _ HO.out HI.out).mono ?_; rintro e w2 ⟨rfl, hb2⟩; rw [HH.out]; simp only [AO, AG]; have hT2 := hT1.new hb2; clear d0 d1 d2 d3 d4 d5 d6 d7 d8 d9))
          obtain ⟨W, hW⟩ : ∃ W, w2.alloc (.cells (AOc (addO o k v)) 89) = W := ⟨_, rfl⟩
          have hT3 := hT2.al (.cells (AOc (addO o k v)) 89)
          rw [hW] at hT3
          unfold AOc AC at hW
          rw [hW]
          clear hW hT2 hT1 hT hb1 hb2
          obtain ⟨p0, p1, p2, p3, p4, p5, p6, p7, p8, p9⟩ := box_ao hT3.ba
          have hbr := hT3.br
          unfold zc at hbr
          obtain ⟨r0, r1, r2, r3, r4, r5, r6, r7, r8, r9⟩ := mblk10 hbr
          obtain ⟨q0, q1, q2, q3, q4, q5, q6, q7, q8, q9⟩ := fro_ao hT3.br
          have HT3 : Hid _ := hT3
          clear hbr hT3
          go_wp2
          refine bodyPost_ret (v := .tuple #[AO a, .int .i64 20]) (res_ct Tryz.results85 _ _ (w.heap.size + 1 + 1) 89 (AOc a) (0, 0) _ rfl (mset10 _ _ _ _ _ _ _ _ _ _ HT3.out.br) Tryz.underlying89 rfl size_ag) rfl ?_
          exact ⟨by rw [HE.out.1, HE.out.2], HT3.out.low.trans ((fs10 _ _ _ _ _ _ _ _ _ _ _ _).below HT3.out.low.size (fun k hk => by omega))⟩
    · obtain rfl : k = 5 := by omega
      have HG : Hid (mergeO a b = o ∧ mergeE a b = 0) := by
        have := merge_good (a := a) (b := b) (by rw [HM.out])
        rw [HM.out] at this
        exact this
      obtain ⟨c0, c1, c2, c3, c4, c5, c6, c7, c8, c9⟩ := box_ao hT.bo
      have hbr := hT.br
      unfold zc at hbr
      obtain ⟨r0, r1, r2, r3, r4, r5, r6, r7, r8, r9⟩ := mblk10 hbr
      obtain ⟨q0, q1, q2, q3, q4, q5, q6, q7, q8, q9⟩ := fro_ao hT.br
      clear hbr HM
      go_wp2
      refine bodyPost_ret (v := .tuple #[AO o, .int .i64 0]) (res_ct Tryz.results85 _ _ (w.heap.size + 1 + 1) 89 (AOc o) (0, 0) _ rfl (mset10 _ _ _ _ _ _ _ _ _ _ hT.br) Tryz.underlying89 rfl size_ag) rfl ?_
      exact ⟨by rw [HG.out.1, HG.out.2], hT.low.trans ((fs10 _ _ _ _ _ _ _ _ _ _ _ _).below hT.low.size (fun k hk => by omega))⟩
end Go.Proofs.YtnhijofnhflklaaGreat
