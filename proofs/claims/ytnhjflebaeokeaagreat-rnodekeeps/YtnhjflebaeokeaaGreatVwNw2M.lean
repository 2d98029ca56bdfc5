import Derived.Test.YtnhjflebaeokeaaGreatWlOpenM
import Derived.Test.YtnhjflebaeokeaaGreatWlDM
import Derived.Test.YtnhjflebaeokeaaGreatRoRtM
import Derived.Test.YtnhjflebaeokeaaGreatVwMayM
section
/- wal: falls of a disk all of whose changes are sure; nil logs, no disk, a dead one; what awake returns: true. -/
namespace Go.Proofs.YtnhjflebaeokeaaGreat
open Go.RowKit Go.Maps
variable {Xm : Nat → Prop}
attribute [local go_sem] Oper.semAt_some
section
variable {w : World} {B p : Nat} {A : Dk} {M k : Nat}
theorem cl_crash (h : DkAt Xm w B p A) (hB : B ≤ w.heap.size) (hc : Cl A M k) (hM : M ≤ 2305843009213693952) (hk : k ≤ 90000) (keep tn : Int) : Calls Tryz.prog 15 #[.pointer (some ⟨p, 0, none⟩), .int .i64 keep, .int .i64 tn] w fun r w' => r = .returned (.tuple #[]) ∧ DkAt Xm w' B p (A.fail keep tn) ∧ FrD Xm B w w' := by
  obtain ⟨mn, ms, lv, h⟩ := h
  exact crash_any h hB (hc.bdA hM (by omega)) hc.dead keep tn
theorem cl_up {keep tn : Int} (h : DkAt Xm w B p (A.fail keep tn)) (hc : Cl A M k) : Calls Tryz.prog 16 #[.pointer (some ⟨p, 0, none⟩)] w fun r w' => r = .returned (.bool true) ∧ DkAt Xm w' B p A ∧ FrD Xm B w w' := by
  obtain ⟨mn, ms, lv, h⟩ := h
  have := up_dead h rfl
  rw [hc.crash] at this
  exact this
end
theorem tx1 (w : World) (x : Bs) : TxO (w.alloc (.cells #[.string (str x)] 9)) 0 (.slice (some ⟨w.heap.size, 0, none⟩) 1 1) [x] := by
  refine .inr ⟨w.heap.size, 0, 1, rfl, Nat.zero_le _, ⟨_, heap_alloc_new _ _, Nat.le_refl _⟩, Nat.le_refl _, by decide, fun j hj => ?_⟩
  obtain rfl : j = 0 := by simpa using hj
  exact cell_blk (heap_alloc_new _ _)
/- The disks of awake. -/
def wk1 : Dk := dk0.anew (frs [[]])
theorem cl0 : Cl dk0 1000000 0 := ⟨rfl, rfl, List.Pairwise.nil, fun p hp => (by cases hp), Nat.le_refl _, Nat.le_refl _, rfl⟩
theorem frs0 : (frs [[]]).length ≤ 14 := by rw [frs_one]; exact frameB_le [] (by simp)
theorem cl1 : Cl wk1 1000000 2 ∧ getF log_ wk1.sure = some (frs [[]]) := cl0.anew (Nat.le_trans frs0 (by decide))
theorem open_first {w : World} {B p : Nat} (h : DkAt Xm w B p dk0) (hB : B ≤ w.heap.size) : Calls Tryz.prog 50 #[.pointer (some ⟨p, 0, none⟩)] w fun r w' => ∃ q, r = .returned (.tuple #[.pointer (some ⟨q, 0, none⟩), .int .i64 0, .int .i64 0]) ∧ w.heap.size ≤ q ∧ Lg w' B q p [] (.slice none 0 0) [] ∧ DkAt Xm w' B p wk1 ∧ FrD Xm B w w' := open_none h hB cl0 (by decide) (by decide) (by decide) (l := []) rfl (e := 0) (unfV_none unf1_nil)
end Go.Proofs.YtnhjflebaeokeaaGreat
end

section
/- Open of any short file, in one; a disk with one file. -/
namespace Go.Proofs.YtnhjflebaeokeaaGreat
open Go.RowKit Go.Maps
variable {Xm : Nat → Prop}
attribute [local go_sem] Oper.semAt_some
section
variable {w : World} {B p : Nat} {A : Dk} {M k : Nat} {l : Bs}
theorem open_again {s : Bs} {R : List Bs} (h : DkAt Xm w B p A) (hB : B ≤ w.heap.size) (hc : Cl A M k) (hM : M ≤ 2305843009213693952) (hk : k ≤ 90000) (hl : getF log_ A.sure = some l) (hU : unfV l = (s :: R, l.length)) (hR : R.length ≤ 900000) : Calls Tryz.prog 50 #[.pointer (some ⟨p, 0, none⟩)] w fun r w' => ∃ q rv, r = .returned (.tuple #[.pointer (some ⟨q, 0, none⟩), .int .i64 0, .int .i64 0]) ∧ w.heap.size ≤ q ∧ Lg w' B q p s rv R ∧ (∀ k, rv.ownBlock = some k → w.heap.size ≤ k) ∧ DkAt Xm w' B p A ∧ FrD Xm B w w' := by
  refine (open_some h hB hc hM hk hl hU hR (fun h => absurd rfl h)).mono ?_
  rintro r w' ⟨q, rv, rfl, h1, h2, h3, h4, h5⟩
  rw [if_pos rfl] at h4
  exact ⟨q, rv, by simp, h1, h2, h3, h4, h5⟩
end
end Go.Proofs.YtnhjflebaeokeaaGreat
end

section
/- rnode.readBack: a disk's log is read as what was kept. -/
namespace Go.Proofs.YtnhjflebaeokeaaGreat
open Go.RowKit
attribute [local go_sem] Oper.semAt_some
def hdC (h : Hd) (v : Value) : Array Value := #[.int .i64 h.vw, .int .i64 h.nm, .int .i64 h.bi, .int .i64 h.bv, .string h.base, v]
/-- Records that are read one behind the other. -/
def Reads : Hd → List Bs → Hd → Prop
  | h, [], k => h = k
  | h, x :: R, k => ∃ (g : Hd) (same : Nat), x = recB g same ∧ g.ok ∧ g.bi = h.bi ∧ g.bv = h.bv ∧ g.base = h.base ∧ same ≤ g.log.length ∧ same ≤ h.log.length ∧ h.log.take same = g.log.take same ∧ Reads g R k
theorem Reads.snoc : ∀ {R : List Bs} {h k : Hd}, Reads h R k → ∀ (g : Hd) (same : Nat), g.ok → g.bi = k.bi → g.bv = k.bv → g.base = k.base → same ≤ g.log.length → same ≤ k.log.length → k.log.take same = g.log.take same → Reads h (R ++ [recB g same]) g
  | [], h, k, hr, g, same, h1, h2, h3, h4, h5, h6, h7 => by
    obtain rfl : h = k := hr
    exact ⟨g, same, rfl, h1, h2, h3, h4, h5, h6, h7, rfl⟩
  | x :: R, h, k, hr, g, same, h1, h2, h3, h4, h5, h6, h7 => by
    obtain ⟨g', s', e, k1, k2, k3, k4, k5, k6, k7, k8⟩ := hr
    exact ⟨g', s', e, k1, k2, k3, k4, k5, k6, k7, k8.snoc g same h1 h2 h3 h4 h5 h6 h7⟩
/-- While it is read: the result's block, the box of what was read so far. -/
structure RB (w W : World) (r b : Nat) (h : Hd) (v : Value) : Prop where
  res : W.heap[r]? = some (.cells #[.int .i64 0, .int .i64 0, .int .i64 0, .int .i64 0, .string (str []), .slice none 0 0] 66 (0, 0))
  box : W.heap[b]? = some (.cells (hdC h v) 66 (0, 0))
  row : EnO W 0 v h.log
  own : ∀ k, v.ownBlock = some k → w.heap.size ≤ k
  bel : Below w.heap.size w W
  wr : w.heap.size = r
  rb : r < b
section
variable {w W W' : World} {r b : Nat} {h : Hd} {v : Value}
theorem RB.new (h0 : RB w W r b h v) (hb : Below W.heap.size W W') : RB w W' r b h v :=
  ⟨(hb.block r (vlt_blk h0.res)).trans h0.res, (hb.block b (vlt_blk h0.box)).trans h0.box, h0.row.new hb, h0.own, h0.bel.trans (hb.mono h0.bel.size), h0.wr, h0.rb⟩
theorem RB.apart (h0 : RB w W r b h v) {k : Nat} (hk : v.ownBlock = some k) : k ≠ r ∧ k ≠ b := by
  obtain ⟨_, c, f, hm⟩ := vrow_tag h0.row hk
  refine ⟨fun e => ?_, fun e => ?_⟩
  · subst e
    rw [h0.res] at hm
    cases hm
  · subst e
    rw [h0.box] at hm
    cases hm
/-- A record was read, and stored. -/
theorem RB.took (h0 : RB w W r b h v) {g : Hd} {v' : Value} (f : Fr W W' (fun k => v.ownBlock = some k)) (hE : EnO W' 0 v' g.log) (hO : ∀ k, v'.ownBlock = some k → v.ownBlock = some k ∨ W.heap.size ≤ k) : RB w (W'.setRow b (hdC g v')) r b g v' := by
  have fs := vfr_setRow W' b (hdC g v')
  have b1 : W'.heap[b]? = some (.cells (hdC h v) 66 (0, 0)) := (f.block b (vlt_blk h0.box) (fun e => (h0.apart e).2 rfl)).trans h0.box
  have r1 : W'.heap[r]? = _ := (f.block r (vlt_blk h0.res) (fun e => (h0.apart e).1 rfl)).trans h0.res
  have hrb := h0.rb
  have hwr := h0.wr
  have hlo : ∀ k, v'.ownBlock = some k → w.heap.size ≤ k := fun k hk => by
    rcases hO k hk with e | e
    · exact h0.own k e
    · have := h0.bel.size; omega
  refine ⟨(fs.block r (vlt_blk r1) (by omega)).trans r1, setRow_heap _ _ _ _ _ _ b1, hE.kept fs (fun k hk e => ?_), hlo, ?_, hwr, hrb⟩
  · subst e
    obtain ⟨_, c, f', hm⟩ := vrow_tag hE hk
    rw [b1] at hm
    cases hm
  · have e1 : Below w.heap.size w W' := h0.bel.trans (f.below h0.bel.size (fun k hk => h0.own k hk))
    exact e1.trans (fs.below e1.size (fun k hk => by omega))
end
/-- The row of texts is apart from entries and boxes. -/
theorem tx_took {W W' : World} {D b : Nat} {tv v : Value} {R : List Bs} {L : List Ent} {cs cs' : Array Value} (hT : TxO W D tv R) (hE : EnO W 0 v L) (hb : W.heap[b]? = some (.cells cs 66 (0, 0))) (f : Fr W W' (fun k => v.ownBlock = some k)) : TxO (W'.setRow b cs') D tv R := by
  have h1 : TxO W' D tv R := hT.kept f (fun k hk e => by
    obtain ⟨_, c, f', hm⟩ := hT.tag hk
    obtain ⟨_, c', f'', hm'⟩ := vrow_tag hE e
    rw [hm] at hm'
    cases hm')
  refine h1.kept (vfr_setRow W' b cs') (fun k hk e => ?_)
  subst e
  obtain ⟨_, c, f', hm⟩ := hT.tag hk
  rw [hb] at hm
  cases hm
set_option linter.unusedSimpArgs false in
set_option maxRecDepth 100000 in
set_option maxHeartbeats 2000000 in
theorem readBack_any {w : World} {B q p : Nat} {rv : Value} {R : List Bs} (hb k : Hd) (hL : Lg w B q p (baseB hb) rv R) (okb : hb.ok) (hR : Reads ⟨0, 0, hb.bi, hb.bv, hb.base, []⟩ R k) (hl : R.length ≤ 1000) :
    Calls Tryz.prog 51 #[.pointer (some ⟨q, 0, none⟩)] w fun r w' => ∃ v, r = .returned (.tuple #[hdV k v, .bool true]) ∧ EnO w' w.heap.size v k.log ∧ Below w.heap.size w w' := by
  have HLg : Hid (Lg w B q p (baseB hb) rv R) := hL
  have HRd : Hid (Reads ⟨0, 0, hb.bi, hb.bv, hb.base, []⟩ R k) := hR
  have HOk : Hid hb.ok := okb
  clear hL hR okb
  go_enter Tryz.func51, Tryz.ntmps51
  go_upto_region 1 with (fail)
  generalize hW : World.alloc _ _ = W
  have b0 : Below w.heap.size w W := by rw [← hW]; exact vone_new _ _
  have hZ : W.heap[w.heap.size]? = some (.cells #[.int .i64 0, .int .i64 0, .int .i64 0, .int .i64 0, .string (str []), .slice none 0 0] 66 (0, 0)) := by rw [← hW]; exact heap_alloc_new _ _
  obtain ⟨r, hr⟩ : ∃ r, w.heap.size = r := ⟨_, rfl⟩
  have HQ : Hid (w.heap.size = r) := hr
  rw [hr] at hZ ⊢
  have HB0 : Hid (Below w.heap.size w W) := b0
  have HZ : Hid _ := hZ
  clear hW b0 hZ hr
  go_upto_region 2 with (first
    | (go_at_call 84; refine (snap_any (HLg.out.new HB0.out)).mono ?_; rintro rr wz ⟨rfl, hz⟩; rw [hz]; clear hz)
    | (go_at_call 83; refine (takeBase_enc hb HOk.out).mono ?_; rintro rr w1 ⟨rfl, hb1⟩; have HB1 : Hid (Below W.heap.size W w1) := hb1; clear hb1; simp only [hdV])
    | (refine wpList_store_row rfl 66 _ _ rfl _ #[.int .i64 0, .int .i64 0, .int .i64 hb.bi, .int .i64 hb.bv, .string hb.base, .slice none 0 0] rfl rfl 66 #[.int .i64 0, .int .i64 0, .int .i64 0, .int .i64 0, .string (str []), .slice none 0 0] (heap_alloc_new _ _) size_hard rfl (by simp [Value.oneCell']) ?_))
  generalize hW2 : World.setRow _ _ _ = W2
  have hbx : W2.heap[w1.heap.size]? = some (.cells #[.int .i64 0, .int .i64 0, .int .i64 hb.bi, .int .i64 hb.bv, .string hb.base, .slice none 0 0] 66 (0, 0)) := by rw [← hW2]; exact setRow_heap _ _ _ _ _ _ (heap_alloc_new _ _)
  have hb2 : Below w1.heap.size w1 W2 := by rw [← hW2]; exact ((Fr.alloc w1 _ (fun _ => False)).trans (vfr_setRow _ _ _) (fun i hi e => absurd e (by omega))).below (Nat.le_refl _) (fun _ h => h.elim)
  obtain ⟨b, hbb⟩ : ∃ b, w1.heap.size = b := ⟨_, rfl⟩
  have HRB : Hid (RB w W2 r b ⟨0, 0, hb.bi, hb.bv, hb.base, []⟩ (.slice none 0 0)) := by
    have k1 : Below w.heap.size w w1 := HB0.out.trans (HB1.out.mono HB0.out.size)
    have z1 := (HB1.out.block r (vlt_blk HZ.out)).trans HZ.out
    refine ⟨(hb2.block r (vlt_blk z1)).trans z1, by rw [← hbb]; exact hbx, EnO.nil _ _, fun k hk => (by cases hk), k1.trans (hb2.mono k1.size), HQ.out, by have := vlt_blk z1; omega⟩
  rw [hbb]
  clear hW2 hbx hb2 hbb
  go_upto_block 0 with (go_at_call 85; refine (all_any (HLg.out.new HRB.out.bel) (by omega)).mono ?_; rintro rr w3 ⟨tv, rfl, hT3, hb3⟩; obtain ⟨to_, tc, rfl⟩ := hT3.shape; have HT3 : Hid (TxO w3 W2.heap.size (.slice to_ R.length tc) R) := hT3; have HR3 : Hid (RB w w3 r b ⟨0, 0, hb.bi, hb.bv, hb.base, []⟩ (.slice none 0 0)) := HRB.out.new hb3; clear hT3 hb3)
  go_wp2
  go_loopw [5, 17] (fun o i wr => ∃ (j : Nat) (g : Hd) (v : Value), j ≤ R.length ∧ i = .int .i64 j ∧ o = .bool true ∧ Hid (RB w wr r b g v) ∧ Hid (Reads g (R.drop j) k) ∧ Hid (TxO wr W2.heap.size (.slice to_ R.length tc) R) ∧ Hid (g.log.length ≤ 1000)) (fun _ i _ => R.length - (intOf i).toNat)
  case atStart => exact ⟨0, _, _, Nat.zero_le _, rfl, rfl, HR3, HRd, HT3, Nat.zero_le _⟩
  case round =>
    obtain ⟨j, g, v, hj, rfl, rfl, HRj, HRs, HTj, HGl⟩ := hrel
    obtain ⟨vo, vc, rfl, -, -⟩ := HRj.out.row.shape
    obtain ⟨n, hn⟩ : ∃ n, g.log.length = n := ⟨_, rfl⟩
    have HBx : Hid (wr.heap[b]? = some (.cells #[.int .i64 g.vw, .int .i64 g.nm, .int .i64 g.bi, .int .i64 g.bv, .string g.base, .slice vo n vc] 66 (0, 0))) := by have := HRj.out.box; rw [hn] at this; exact this
    rw [hn] at HRj
    clear hn
    by_cases hlt : j < R.length
    · obtain ⟨tb, toff, rfl, ct⟩ : ∃ b off, to_ = some ⟨b, off, none⟩ ∧ wr.cell? ⟨b, off + j, none⟩ = some (.string (str R[j])) := by
        obtain ⟨ao', cap', e, -, h2⟩ := HTj.out.toS
        injection e with e1 e2 e3
        subst e1
        obtain ⟨b, off, e, hc⟩ := h2 (by omega)
        exact ⟨b, off, e, hc j hlt⟩
      have hdr : R.drop j = R[j] :: R.drop (j + 1) := List.drop_eq_getElem_cons hlt
      have hrs := HRs.out
      rw [hdr] at hrs
      obtain ⟨g', same, hx, k1, k2, k3, k4, k5, k6, k7, k8⟩ := hrs
      rw [hx] at ct
      have HEq : Hid ((⟨g'.vw, g'.nm, g.bi, g.bv, g.base, g'.log⟩ : Hd) = g') := by show _ = _; rw [← k2, ← k3, ← k4]
      have HTr : Hid (Calls Tryz.prog 86 #[.agg #[.int .i64 g.vw, .int .i64 g.nm, .int .i64 g.bi, .int .i64 g.bv, .string g.base, .slice vo n vc], .string (str (recB g' same))] wr fun rr w' => ∃ v', rr = .returned (.tuple #[hdV g' v', .bool true]) ∧ EnO w' 0 v' g'.log ∧ (∀ k, v'.ownBlock = some k → (Value.slice vo n vc).ownBlock = some k ∨ wr.heap.size ≤ k) ∧ Fr wr w' (fun k => (Value.slice vo n vc).ownBlock = some k)) := by
        have := takeRec_enc (B := 0) (same := same) (lv0 := .slice vo n vc) g' g k1 HGl.out HRj.out.row k2 k5 k6 k7
        rw [HEq.out] at this
        exact this
      have HR8 : Hid (Reads g' (R.drop (j + 1)) k) := k8
      have HGl' : Hid (g'.log.length ≤ 1000) := k1.len
      have hjI : (j : Int) < R.length := by omega
      have hj0 : (0 : Int) ≤ j := by omega
      have HJ : Hid (j + 1 ≤ R.length) := hlt
      have hRI : (R.length : Int) ≤ 1000 := by omega
      clear hx k1 k2 k3 k4 k5 k6 k7 k8 hdr HRs
      go_wp2_with (first
        | (refine wpList_load_row rfl 66 _ rfl b rfl 66 #[.int .i64 g.vw, .int .i64 g.nm, .int .i64 g.bi, .int .i64 g.bv, .string g.base, .slice vo n vc] (0, 0) _ HBx.out Tryz.underlying66 rfl size_hard ?_)
        | (go_at_call 86; refine HTr.out.mono ?_; rintro rr w5 ⟨v', rfl, hE5, hO5, hF5⟩; obtain ⟨vo', vc', rfl, -, -⟩ := hE5.shape; simp only [hdV]; have HR6 : Hid (RB w (w5.setRow b (hdC g' (.slice vo' g'.log.length vc'))) r b g' (.slice vo' g'.log.length vc')) := HRj.out.took hF5 hE5 hO5; have HT6 : Hid (TxO (w5.setRow b (hdC g' (.slice vo' g'.log.length vc'))) W2.heap.size (.slice (some ⟨tb, toff, none⟩) R.length tc) R) := tx_took HTj.out HRj.out.row HRj.out.box hF5; have HB5 : Hid (w5.heap[b]? = some (.cells #[.int .i64 g.vw, .int .i64 g.nm, .int .i64 g.bi, .int .i64 g.bv, .string g.base, .slice vo n vc] 66 (0, 0))) := (hF5.block b (vlt_blk HBx.out) (fun e => (HRj.out.apart e).2 rfl)).trans HBx.out; clear hE5 hO5 hF5)
        | (refine wpList_store_row rfl 66 _ _ rfl b #[.int .i64 g'.vw, .int .i64 g'.nm, .int .i64 g'.bi, .int .i64 g'.bv, .string g'.base, (.slice vo' g'.log.length vc')] rfl rfl 66 #[.int .i64 g.vw, .int .i64 g.nm, .int .i64 g.bi, .int .i64 g.bv, .string g.base, .slice vo n vc] HB5.out size_hard rfl (by simp [Value.oneCell']) ?_))
      go_roundw
      case rel => exact ⟨j + 1, g', _, HJ.out, by go_num, rfl, HR6, HR8, HT6, HGl'⟩
      case measure => have := HJ.out; simp [intOf]; omega
    · obtain rfl : j = R.length := by omega
      have hgk : g = k := by have := HRs.out; rw [List.drop_length] at this; exact this
      subst hgk
      go_wp2_with (first
        | (refine wpList_load_row rfl 66 _ rfl b rfl 66 #[.int .i64 g.vw, .int .i64 g.nm, .int .i64 g.bi, .int .i64 g.bv, .string g.base, .slice vo n vc] (0, 0) _ HBx.out Tryz.underlying66 rfl size_hard ?_)
        | (refine wpList_store_row rfl 66 _ _ rfl r #[.int .i64 g.vw, .int .i64 g.nm, .int .i64 g.bi, .int .i64 g.bv, .string g.base, .slice vo n vc] rfl rfl 66 #[.int .i64 0, .int .i64 0, .int .i64 0, .int .i64 0, .string (str []), .slice none 0 0] HRj.out.res size_hard rfl (by simp [Value.oneCell']) ?_))
      refine bodyPost_ret (v := .tuple #[.agg #[.int .i64 g.vw, .int .i64 g.nm, .int .i64 g.bi, .int .i64 g.bv, .string g.base, .slice vo n vc], .bool true]) (res_ctV Tryz.results51 _ _ r 66 _ (0, 0) _ rfl (setRow_heap _ _ _ _ _ _ HRj.out.res) Tryz.underlying66 rfl size_hard) rfl ?_
      have fs := vfr_setRow wr r #[.int .i64 g.vw, .int .i64 g.nm, .int .i64 g.bi, .int .i64 g.bv, .string g.base, .slice vo n vc]
      refine ⟨_, rfl, (HRj.out.row.kept fs (fun k hk e => (HRj.out.apart hk).1 e)).high HRj.out.own, ?_⟩
      exact HRj.out.bel.trans (fs.below HRj.out.bel.size (fun k hk => by have := HRj.out.wr; omega))
end Go.Proofs.YtnhjflebaeokeaaGreat
end

section
/- A master stands up. -/
namespace Go.Proofs.YtnhjflebaeokeaaGreat
open Go.RowKit Go.Maps
attribute [local go_sem] Oper.semAt_some
def mayN (me all vw nm bi : Int) (n : Nat) : Bool := decide (1 ≤ all) && (decide (all ≤ 7) && (decide (0 ≤ me) && (decide (me < all) && mayI vw nm bi n)))
section
variable {w : World} {me all vw nm bi bv : Int} {base : ByteArray} {ao : Option Addr} {n c : Nat}
end
theorem last_raw {w : World} {p : Nat} {bi : Int} {ao : Option Addr} {n cc : Nat} (c4 : w.cell? ⟨p, 4, none⟩ = some (.int .i64 bi)) (c7 : w.cell? ⟨p, 7, none⟩ = some (.slice ao n cc)) (h0 : 0 ≤ bi) (h1 : bi ≤ 2147483647) (h2 : n ≤ 1000) : Calls Tryz.prog 73 #[.pointer (some ⟨p, 0, none⟩)] w fun r w' => r = .returned (.int .i64 (bi + n)) ∧ ∃ q, w' = w.drewN q := by
  go_enter Tryz.func73, Tryz.ntmps73
  go_wp2
  go_quiet (fail)
  go_wp2
  go_ret
  exact ⟨by go_num, nq, rfl⟩
/-- A master as it stands up. -/
def Nd.born (me all vw nm bi bv : Int) (base : ByteArray) (L : List Ent) : Nd := { me := me, all := all, vw := vw, nm := nm, bi := bi, bv := bv, base := base, log := L, cm := bi, had := bi + L.length, tk := 0, gave := false, wants := fun x => x == me, given := fun _ => none, upTo := fun _ => none }
theorem born_ok {me all vw nm bi bv : Int} {base : ByteArray} {L : List Ent} (h : mayN me all vw nm bi L.length = true) : (Nd.born me all vw nm bi bv base L).ok := by
  simp only [mayN, mayI, Bool.and_eq_true, decide_eq_true_eq, numI_iff] at h
  obtain ⟨h1, h2, h3, h4, h5, h6, h7, h8, h9⟩ := h
  refine ⟨h1, h2, h3, h4, h6.1, h8, h5.2, h7.1, h7.2, h9, Int.le_refl _, ?_, Int.le_refl _⟩
  show bi ≤ bi + (L.length : Int)
  omega
/-- The map of kinds is filled. -/
theorem kinds_made (W : World) (p : Nat) : ∃ w1 w2 w3 w4 w5 w6, (Instr.mapUpdate 112 (.map (some W.heap.size)) (.int .i64 1) (.func (.func 88) #[.pointer (some ⟨p, 0, none⟩)] #[])).run Tryz.prog (W.alloc (.map #[] 0)) = .ok () w1 ∧ (Instr.mapUpdate 112 (.map (some W.heap.size)) (.int .i64 2) (.func (.func 89) #[.pointer (some ⟨p, 0, none⟩)] #[])).run Tryz.prog w1 = .ok () w2 ∧ (Instr.mapUpdate 112 (.map (some W.heap.size)) (.int .i64 3) (.func (.func 90) #[.pointer (some ⟨p, 0, none⟩)] #[])).run Tryz.prog w2 = .ok () w3 ∧ (Instr.mapUpdate 112 (.map (some W.heap.size)) (.int .i64 4) (.func (.func 91) #[.pointer (some ⟨p, 0, none⟩)] #[])).run Tryz.prog w3 = .ok () w4 ∧ (Instr.mapUpdate 112 (.map (some W.heap.size)) (.int .i64 5) (.func (.func 92) #[.pointer (some ⟨p, 0, none⟩)] #[])).run Tryz.prog w4 = .ok () w5 ∧ (Instr.mapUpdate 112 (.map (some W.heap.size)) (.int .i64 6) (.func (.func 93) #[.pointer (some ⟨p, 0, none⟩)] #[])).run Tryz.prog w5 = .ok () w6 ∧ HMap w6 W.heap.size (kindF p) ∧ Below W.heap.size W w6 := by
  have ut := Tryz.underlying112
  obtain ⟨w1, r1, m1, f1⟩ := (HMap.made W).put (x := 1) ut (by decide) (by decide) (.func (.func 88) #[.pointer (some ⟨p, 0, none⟩)] #[])
  obtain ⟨w2, r2, m2, f2⟩ := m1.put (x := 2) ut (by decide) (by decide) (.func (.func 89) #[.pointer (some ⟨p, 0, none⟩)] #[])
  obtain ⟨w3, r3, m3, f3⟩ := m2.put (x := 3) ut (by decide) (by decide) (.func (.func 90) #[.pointer (some ⟨p, 0, none⟩)] #[])
  obtain ⟨w4, r4, m4, f4⟩ := m3.put (x := 4) ut (by decide) (by decide) (.func (.func 91) #[.pointer (some ⟨p, 0, none⟩)] #[])
  obtain ⟨w5, r5, m5, f5⟩ := m4.put (x := 5) ut (by decide) (by decide) (.func (.func 92) #[.pointer (some ⟨p, 0, none⟩)] #[])
  obtain ⟨w6, r6, m6, f6⟩ := m5.put (x := 6) ut (by decide) (by decide) (.func (.func 93) #[.pointer (some ⟨p, 0, none⟩)] #[])
  refine ⟨w1, w2, w3, w4, w5, w6, r1, r2, r3, r4, r5, r6, m6.ext (fun x => ?_), ?_⟩
  · show _ = kindF p x
    unfold kindF
    by_cases e1 : x = 1
    · subst e1; simp
    · by_cases e2 : x = 2
      · subst e2; simp
      · by_cases e3 : x = 3
        · subst e3; simp
        · by_cases e4 : x = 4
          · subst e4; simp
          · by_cases e5 : x = 5
            · subst e5; simp
            · by_cases e6 : x = 6
              · subst e6; simp
              · simp [e1, e2, e3, e4, e5, e6]
  · have b1 : Below W.heap.size W (W.alloc (.map #[] 0)) := vone_new W _
    have s0 : (W.alloc (.map #[] 0)).heap.size = W.heap.size + 1 := by simp
    have ff : Fr (W.alloc (.map #[] 0)) w6 (fun k => k = W.heap.size) := f1.trans (f2.trans (f3.trans (f4.trans (f5.trans f6 (fun _ _ h => h)) (fun _ _ h => h)) (fun _ _ h => h)) (fun _ _ h => h)) (fun _ _ h => h)
    exact b1.trans (ff.below (by omega) (fun k e => by omega))
end Go.Proofs.YtnhjflebaeokeaaGreat
end

section
/- A master stands up: what it is then. -/
namespace Go.Proofs.YtnhjflebaeokeaaGreat
open Go.RowKit Go.Maps
attribute [local go_sem] Oper.semAt_some
set_option maxRecDepth 100000 in
set_option maxHeartbeats 2000000 in
theorem new_ok {w : World} {me all vw nm bi bv : Int} {base : ByteArray} {lv : Value} {L : List Ent} (hL : EnS w lv L) (hb : mayN me all vw nm bi L.length = true) : Calls Tryz.prog 52 #[.int .i64 me, .int .i64 all, .agg #[.int .i64 vw, .int .i64 nm, .int .i64 bi, .int .i64 bv, .string base, lv]] w fun r w' => ∃ p, r = .returned (.tuple #[.pointer (some ⟨p, 0, none⟩), .int .i64 0]) ∧ NdAt w' (fun k => w.heap.size ≤ k) p (Nd.born me all vw nm bi bv base L).counted ∧ Below w.heap.size w w' := by
  obtain ⟨ao, c, rfl, hc⟩ := hL.shape
  have ok := born_ok (bv := bv) (base := base) hb
  have HOk : Hid (Nd.born me all vw nm bi bv base L).ok := ok
  have HMy : Hid (mayI vw nm bi L.length = true) := by
    show _ = _
    unfold mayN at hb
    simp only [Bool.and_eq_true] at hb
    exact hb.2.2.2.2
  have h1 : ¬ all < 1 := by have : 1 ≤ all := ok.all0; omega
  have h2 : ¬ 7 < all := by have : all ≤ 7 := ok.all1; omega
  have h3 : ¬ me < 0 := by have : 0 ≤ me := ok.me0; omega
  have h4 : ¬ all ≤ me := by have : me < all := ok.me1; omega
  have b0 : 0 ≤ bi := ok.bi0
  have b1 : bi ≤ 2147483647 := ok.bi1
  have hlen : L.length ≤ 1000 := ok.len
  have HL0 : Hid (EnS w (.slice ao L.length c) L) := hL
  obtain ⟨n, hn⟩ : ∃ n, L.length = n := ⟨_, rfl⟩
  have HN : Hid (L.length = n) := hn
  rw [hn] at hlen HMy HL0 ⊢
  clear hL hb ok hc hn
  obtain ⟨W0, hW0⟩ : ∃ W0, w.alloc (.cells #[.int .i64 vw, .int .i64 nm, .int .i64 bi, .int .i64 bv, .string base, .slice ao n c] 66) = W0 := ⟨_, rfl⟩
  have hB0 : Below w.heap.size w W0 := by rw [← hW0]; exact vone_new _ _
  have hZ : W0.heap[w.heap.size]? = some (.cells #[.int .i64 vw, .int .i64 nm, .int .i64 bi, .int .i64 bv, .string base, .slice ao n c] 66 (0, 0)) := by rw [← hW0]; exact heap_alloc_new _ _
  obtain ⟨c0, c1, c2, c3, c4, c5⟩ := hbox6 hZ
  have HB0 : Hid (Below w.heap.size w W0) := hB0
  have HZ : Hid (W0.heap[w.heap.size]? = some (.cells #[.int .i64 vw, .int .i64 nm, .int .i64 bi, .int .i64 bv, .string base, .slice ao n c] 66 (0, 0))) := hZ
  clear hB0 hZ
  go_enter Tryz.func52, Tryz.ntmps52
  go_upto_region 3 with (go_at_call 87; refine (mayBe_any _ vw nm bi bv base ao n c (by omega)).mono ?_; rintro r w1 ⟨rfl, hb1⟩; rw [HMy.out]; have HB1 : Hid (Below W0.heap.size W0 w1) := hb1; clear hb1)
  obtain ⟨q, hq⟩ : ∃ q, w.heap.size = q := ⟨_, rfl⟩
  have hZ1 := (HB1.out.block _ (vlt_blk HZ.out)).trans HZ.out
  have hBw : Below w.heap.size w w1 := HB0.out.trans (HB1.out.mono HB0.out.size)
  have HL1 : Hid (EnS w1 (.slice ao n c) L) := HL0.out.new hBw
  rw [hq] at hZ1 hBw ⊢
  have hqw : q < w1.heap.size := vlt_blk hZ1
  obtain ⟨c0, c1, c2, c3, c4, c5⟩ := hbox6 hZ1
  have HZ1 : Hid _ := hZ1
  have HBw : Hid (Below q w w1) := hBw
  have HQ : Hid (w.heap.size = q) := hq
  clear HB1 HZ HB0 hZ1 hBw HL0 hq h1 h2 h3 h4 hW0
  have HT : Hid ((L.take n).drop 0 = L) := by show _ = _; rw [List.drop_zero, List.take_of_length_le (by have := HN.out; omega)]
  go_upto_region 4 with (go_at_call 55; refine (cut_any (a := 0) (b := n) HL1.out (Nat.zero_le _) (by have := HN.out; omega) (by have := HN.out; omega)).mono ?_; rintro r w2 ⟨lv, rfl, hE2, hb2⟩; rw [HT.out] at hE2; obtain ⟨a2, cc2, e2, -⟩ := hE2.shape; rw [HN.out] at e2; subst e2; have hZ2 := (hb2.block q hqw).trans HZ1.out; obtain ⟨c0, c1, c2, c3, c4, c5⟩ := hbox6 hZ2; have f5 : w2.frozen? ⟨q, 5, none⟩ = false := (by simp [World.frozen?, hZ2]); have HE2 : Hid (EnO w2 w1.heap.size (.slice a2 n cc2) L) := hE2; have HB2 : Hid (Below w1.heap.size w1 w2) := hb2; have HZ2 : Hid (w2.heap[q]? = some (.cells #[.int .i64 vw, .int .i64 nm, .int .i64 bi, .int .i64 bv, .string base, .slice ao n c] 66 (0, 0))) := hZ2; clear hE2 hb2 hZ2)
  generalize hW3 : World.setCell _ _ _ = W3
  have hZ3 : W3.heap[q]? = some (.cells #[.int .i64 vw, .int .i64 nm, .int .i64 bi, .int .i64 bv, .string base, .slice a2 n cc2] 66 (0, 0)) := by rw [← hW3]; exact vblk_set (i := 5) _ HZ2.out
  have f3 : Fr w2 W3 (fun k => k = q) := by rw [← hW3]; exact Fr.setCell (S := fun k => k = q) _ ⟨q, 5, none⟩ _ rfl
  have hE3 : EnO W3 w1.heap.size (.slice a2 n cc2) L := HE2.out.kept f3 (fun k hk e => by have := (vrow_tag HE2.out hk).1; omega)
  have hB3 : Below q w W3 := (HBw.out.trans (HB2.out.mono (by omega))).trans (f3.below (by have := HB2.out.size; omega) (fun k e => by omega))
  obtain ⟨c0, c1, c2, c3, c4, c5⟩ := hbox6 hZ3
  have hq3 : q < W3.heap.size := vlt_blk hZ3
  have HE3 : Hid (EnO W3 w1.heap.size (.slice a2 n cc2) L) := hE3
  have HB3 : Hid (Below q w W3) := hB3
  clear hZ3 f3 hE3 hB3 hW3 HE2 HB2 HZ2 HZ1 HBw HL1
  go_upto_region 5 with (fail)
  generalize hW4 : World.alloc _ _ = W4
  obtain ⟨p, hp⟩ : ∃ p, W3.heap.size = p := ⟨_, rfl⟩
  have hP4 : W4.heap[p]? = some (.cells #[.int .i64 me, .int .i64 all, .int .i64 vw, .int .i64 nm, .int .i64 bi, .int .i64 bv, .string base, .slice a2 n cc2, .int .i64 bi, .int .i64 0, .int .i64 0, .bool false, .map none, .map none, .map none, .map none] 114 (0, 0)) := by rw [← hp, ← hW4]; exact heap_alloc_new _ _
  have b4 : Below W3.heap.size W3 W4 := by rw [← hW4]; exact vone_new _ _
  have hB4 : Below q w W4 := HB3.out.trans (b4.mono (by omega))
  have HE4 : Hid (EnO W4 w1.heap.size (.slice a2 n cc2) L) := HE3.out.new b4
  rw [hp] at b4 ⊢
  have hpq : q < p := by omega
  have hmm := @run_makeMap Tryz.prog
  have hmf : ∀ (fn : Fn) (first cap : Array Value) (w : World), (Instr.makeFunc fn first cap).run Tryz.prog w = .ok (.func fn first cap) w := fun _ _ _ _ => rfl
  obtain ⟨k1, k2, k3, k4, k5, w6, r1, r2, r3, r4, r5, r6, hK, hbK⟩ := kinds_made W4 p
  have hP6 := (hbK.block p (vlt_blk hP4)).trans hP4
  have d15 : w6.cell? ⟨p, 15, none⟩ = some (.map none) := by simp [World.cell?, hP6]
  have f15 : w6.frozen? ⟨p, 15, none⟩ = false := by simp [World.frozen?, hP6]
  have HP6 : Hid _ := hP6
  have HK : Hid (HMap w6 W4.heap.size (kindF p)) := hK
  have HBK : Hid (Below W4.heap.size W4 w6) := hbK
  have HB4 : Hid (Below q w W4) := hB4
  have hpW4 : p < W4.heap.size := vlt_blk hP4
  clear hP4 hP6 hK hbK hB4 HE3 HB3 c0 c1 c2 c3 c4 c5 hW4 b4 hp
  go_upto_region 6 with (fail)
  generalize hW7 : World.setCell _ _ _ = W7
  obtain ⟨mk, hmk⟩ : ∃ mk, W4.heap.size = mk := ⟨_, rfl⟩
  rw [hmk] at HK HBK hpW4 hW7
  have f7 : Fr w6 W7 (fun k => k = p) := by rw [← hW7]; exact Fr.setCell (S := fun k => k = p) _ ⟨p, 15, none⟩ _ rfl
  have hP7 : W7.heap[p]? = some (.cells #[.int .i64 me, .int .i64 all, .int .i64 vw, .int .i64 nm, .int .i64 bi, .int .i64 bv, .string base, .slice a2 n cc2, .int .i64 bi, .int .i64 0, .int .i64 0, .bool false, .map none, .map none, .map none, .map (some mk)] 114 (0, 0)) := by rw [← hW7]; exact vblk_set (i := 15) _ HP6.out
  have hK7 : HMap W7 mk (kindF p) := HK.out.kept f7 (by omega)
  have hE7 : EnO W7 w1.heap.size (.slice a2 n cc2) L := (HE4.out.new (by rw [hmk]; exact HBK.out)).kept f7 (fun k hk e => by
    obtain ⟨_, cs, fz, ht⟩ := vrow_tag (HE4.out.new (by rw [hmk]; exact HBK.out)) hk
    subst e
    rw [HP6.out] at ht
    cases ht)
  have hB7 : Below q w W7 := (HB4.out.trans (HBK.out.mono (by omega))).trans (f7.below (by have := HB4.out.size; have := HBK.out.size; have := HQ.out; omega) (fun k e => by omega))
  have d4 : W7.cell? ⟨p, 4, none⟩ = some (.int .i64 bi) := by simp [World.cell?, hP7]
  have d7 : W7.cell? ⟨p, 7, none⟩ = some (.slice a2 n cc2) := by simp [World.cell?, hP7]
  have d9 : W7.cell? ⟨p, 9, none⟩ = some (.int .i64 0) := by simp [World.cell?, hP7]
  have f9 : W7.frozen? ⟨p, 9, none⟩ = false := by simp [World.frozen?, hP7]
  have HP7 : Hid _ := hP7
  have HK7 : Hid (HMap W7 mk (kindF p)) := hK7
  have HE7 : Hid (EnO W7 w1.heap.size (.slice a2 n cc2) L) := hE7
  have HB7 : Hid (Below q w W7) := hB7
  have HMK : Hid (p < mk) := hpW4
  clear hP7 hK7 hE7 hB7 f7 hW7 HK HBK HB4 HE4 HP6 d15 f15 r1 r2 r3 r4 r5 r6 hmm hmf hmk hpW4
  go_upto_region 7 with (go_at_call 73; refine (last_raw d4 d7 b0 b1 hlen).mono ?_; rintro r w8 ⟨rfl, q8, rfl⟩)
  generalize hW9 : World.setCell _ _ _ = W9
  have b8 : Below W7.heap.size W7 (W7.drewN q8) := below_dn _ _
  have f9' : Fr (W7.drewN q8) W9 (fun k => k = p) := by rw [← hW9]; exact Fr.setCell (S := fun k => k = p) _ ⟨p, 9, none⟩ _ rfl
  have hP9 : W9.heap[p]? = some (.cells #[.int .i64 me, .int .i64 all, .int .i64 vw, .int .i64 nm, .int .i64 bi, .int .i64 bv, .string base, .slice a2 n cc2, .int .i64 bi, .int .i64 (bi + n), .int .i64 0, .bool false, .map none, .map none, .map none, .map (some mk)] 114 (0, 0)) := by rw [← hW9]; exact vblk_set (i := 9) _ HP7.out
  have hE9 : EnO W9 w1.heap.size (.slice a2 n cc2) L := (HE7.out.new b8).kept f9' (fun k hk e => by
    obtain ⟨_, cs, fz, ht⟩ := vrow_tag HE7.out hk
    subst e
    rw [HP7.out] at ht
    cases ht)
  have hB9 : Below q w W9 := (HB7.out.trans (b8.mono (by have := vlt_blk HP7.out; omega))).trans (f9'.below (by have := vlt_blk HP7.out; have : (W7.drewN q8).heap.size = W7.heap.size := rfl; omega) (fun k e => by omega))
  have hNB : NB W9 (fun k => q ≤ k) p (Nd.born me all vw nm bi bv base L) (.slice a2 n cc2) mk (.int .i64 0) (.bool false) (.map none) (.map none) (.map none) := by
    refine ⟨?_, hE9.low (Nat.zero_le _), (HK7.out.new b8).kept f9' (by have := HMK.out; omega), by omega, fun k hk => ?_, by have := HMK.out; omega⟩
    · rw [hP9]
      show _ = some (Obj.cells #[.int .i64 me, .int .i64 all, .int .i64 vw, .int .i64 nm, .int .i64 bi, .int .i64 bv, .string base, .slice a2 n cc2, .int .i64 bi, .int .i64 (bi + (L.length : Int)), .int .i64 0, .bool false, .map none, .map none, .map none, .map (some mk)] 114 (0, 0))
      rw [HN.out]
    · have := (vrow_tag hE9 hk).1
      omega
  have HNB : Hid (NB W9 (fun k => q ≤ k) p (Nd.born me all vw nm bi bv base L) (.slice a2 n cc2) mk (.int .i64 0) (.bool false) (.map none) (.map none) (.map none)) := hNB
  have HB9 : Hid (Below q w W9) := hB9
  clear hNB hB9 hE9 hP9 f9' b8 hW9 HP7 HK7 HE7 HB7 d4 d7 d9 f9
  go_wp2_with (first
    | (go_at_call 94; refine (forget_any HNB.out ⟨HOk.out.me0, (by have h1 : me < all := HOk.out.me1; have h2 : all ≤ 7 := HOk.out.all1; show me < 7; omega)⟩).mono ?_; rintro r w10 ⟨rfl, ⟨mw, mg, mu, hA⟩, hF10⟩; have HA : Hid (NA w10 (fun k => q ≤ k ∨ W9.heap.size ≤ k) p (Nd.born me all vw nm bi bv base L) (.slice a2 n cc2) mw mg mu mk) := hA; have HF10 : Hid (Fr W9 w10 (fun k => k = p)) := hF10; clear hA hF10)
    | (go_at_call 72; refine (count_any HA.out HOk.out (fun x v e => by cases e)).mono ?_; rintro r w11 ⟨rfl, hA, hF11⟩; have HA1 : Hid (NA w11 (fun k => q ≤ k ∨ W9.heap.size ≤ k) p (Nd.born me all vw nm bi bv base L).counted (.slice a2 n cc2) mw mg mu mk) := hA; have HF11 : Hid (Fr w10 w11 (fun k => k = p)) := hF11; clear hA hF11))
  go_ret2
  have hQ := HQ.out
  have hplt : p < W9.heap.size := HNB.out.plt
  have hf : Fr W9 w11 (fun k => k = p) := HF10.out.trans HF11.out (fun _ _ h => h)
  have hb9 := HB9.out
  rw [hQ]
  refine ⟨p, rfl, ⟨_, _, _, _, _, HA1.out.mono (fun k _ h => ?_)⟩, hb9.trans (hf.below (by omega) (fun k e => by omega))⟩
  rcases h with h | h
  · exact h
  · show q ≤ k
    omega
end Go.Proofs.YtnhjflebaeokeaaGreat
end
