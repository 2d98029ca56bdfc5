/- The document's Decode. -/
import Derived.Test.YtmgjlamglhpnaaaGreatGrFTake3M
import Derived.Test.YtmgjlamglhpnaaaGreatGrClone2M
import Derived.Test.YtmgjlamglhpnaaaGreatJbR19M
import Derived.Test.YtmgjlamglhpnaaaGreatJbDecM
import Derived.Deep.Cut
import Derived.Deep.DeepCutAuto
import Derived.Deep.CutBlock
namespace Go.Proofs.YtmgjlamglhpnaaaGreat
open Go.RowKit
theorem ftk_to {s : ByteArray} {a x : Nat} {e y : Int} {G : List Vx} (w : World) (hs : s.size ≤ maxLen) (ha : a ≤ s.size) (hq : rdG s a e = (G, x, y)) :
  Calls Tryz.prog 39 #[.agg #[.string s, .int .i64 a, .int .i64 e]] w fun r w' => ∃ bo mm c, r = .returned (.tuple #[.agg #[.string s, .int .i64 x, .int .i64 y], .slice bo mm c]) ∧ (y = 0 → mm = G.length ∧ VxAt w' (fun k => w.heap.size ≤ k) bo G) ∧ Below w.heap.size w w' := by
 have := ftake_any (e := e) w hs ha; rw [hq] at this; exact this
theorem fen_to {s : ByteArray} {a : Nat} {e z : Int} (w : World) (hz : rdEnd s a e = z) :
  Calls Tryz.prog 42 #[.agg #[.string s, .int .i64 a, .int .i64 e]] w fun r w' => r = .returned (.agg #[.string s, .int .i64 a, .int .i64 z]) ∧ Below w.heap.size w w' := by
 have := fend_any (s := s) (a := a) (e := e) w; rw [hz] at this; exact this
theorem end_0 {s : ByteArray} {a : Nat} {e : Int} (h : rdEnd s a e = 0) : e = 0 := by
 unfold rdEnd at h
 split at h
 ·cases h
 ·exact h
section
theorem size_rdr : (Tryz.prog.info? 88).map (·.size) = some 3 := by kernel_rfl
theorem three_newJ (w : World) (a b c : Obj) {W : World} (h : ((w.alloc a).alloc b).alloc c = W) : W.heap[w.heap.size]? = some a ∧ W.heap[w.heap.size + 1]? = some b ∧ W.heap[w.heap.size + 2]? = some c ∧ Below w.heap.size w W ∧ W.heap.size = w.heap.size + 3 := by
 subst h
 have h1 := heap_alloc_new w a
 have h2 := heap_alloc_new (w.alloc a) b
 have h3 := heap_alloc_new ((w.alloc a).alloc b) c
 simp only [World.size_alloc] at h2 h3
 refine ⟨(Below.heap_alloc _ _ _ (by simp; omega)).trans ((Below.heap_alloc _ _ _ (by simp)).trans h1), (Below.heap_alloc _ _ _ (by simp)).trans h2, h3, ((one_new w _).alloc (by simp) _).alloc (by simp; omega) _, by simp⟩
structure FD (w wr : World) (s : ByteArray) (x : Nat) (y : Int) (cs : Array Value) : Prop where
 rd : wr.heap[w.heap.size + 1]? = some (.cells #[.string s, .int .i64 (x : Int), .int .i64 y] 88 (0, 0))
 box : JobBoxR wr (w.heap.size + 2) cs
 res : JobBoxR wr w.heap.size #[.string ByteArray.empty, .slice none 0 0, .slice none 0 0, .int .i64 0, .int .i64 0, .int .i64 0]
 low : Below w.heap.size w wr
 sz : w.heap.size + 3 ≤ wr.heap.size
section
variable {w wr w1 : World} {s : ByteArray} {x x' : Nat} {y y' : Int} {cs : Array Value}
theorem blk_fr {W W' : World} {b : Nat} {o : Obj} {S : Nat → Prop} (f : Fr W W' S) (hb : ¬ S b) (h : W.heap[b]? = some o) : W'.heap[b]? = some o := (f.block b (Array.getElem?_eq_some_iff.1 h).1 hb).trans h
theorem FD.kept (h : FD w wr s x y cs) (f : Fr wr w1 (fun k => w.heap.size + 3 ≤ k)) : FD w w1 s x y cs :=
 ⟨blk_fr f (by omega) h.rd, blk_fr f (by omega) h.box, blk_fr f (by omega) h.res, h.low.trans (f.below h.low.size (fun k hk => by omega)), Nat.le_trans h.sz f.size⟩
theorem FD.new (h : FD w wr s x y cs) (hb : Below wr.heap.size wr w1) : FD w w1 s x y cs := h.kept (Fr.ofBelow hb _)
theorem FD.setR (h : FD w wr s x y cs) (x' : Nat) (y' : Int) : FD w (wr.setRow (w.heap.size + 1) #[.string s, .int .i64 (x' : Int), .int .i64 y']) s x' y' cs := by
 have f := fr_setRow wr (w.heap.size + 1) #[.string s, .int .i64 (x' : Int), .int .i64 y']
 exact ⟨setRow_heap _ _ _ _ _ _ h.rd, blk_fr f (by omega) h.box, blk_fr f (by omega) h.res, h.low.trans (f.below h.low.size (fun k hk => by omega)), Nat.le_trans h.sz f.size⟩
theorem FD.setJ (h : FD w wr s x y cs) (i : Nat) (v : Value) : FD w (wr.setCell ⟨w.heap.size + 2, i, none⟩ v) s x y (cs.setIfInBounds i v) := by
 have f : Fr wr (wr.setCell ⟨w.heap.size + 2, i, none⟩ v) (fun k => k = w.heap.size + 2) := Fr.setCell _ _ _ rfl
 exact ⟨blk_fr f (by omega) h.rd, set_heap h.box i v, blk_fr f (by omega) h.res, h.low.trans (f.below h.low.size (fun k hk => by omega)), Nat.le_trans h.sz f.size⟩
theorem FD.setE (h : FD w wr s x y cs) (y' : Int) : FD w (wr.setCell ⟨w.heap.size + 1, 2, none⟩ (.int .i64 y')) s x y' cs := by
 have f : Fr wr (wr.setCell ⟨w.heap.size + 1, 2, none⟩ (.int .i64 y')) (fun k => k = w.heap.size + 1) := Fr.setCell _ _ _ rfl
 exact ⟨set_heap h.rd 2 _, blk_fr f (by omega) h.box, blk_fr f (by omega) h.res, h.low.trans (f.below h.low.size (fun k hk => by omega)), Nat.le_trans h.sz f.size⟩
theorem fdf {w wr w1 : World} (hb : Below wr.heap.size wr w1) (c : Array Value) (i : Nat) (v : Value) : Fr wr ((w1.setRow (w.heap.size + 1) c).setCell ⟨w.heap.size + 2, i, none⟩ v) (fun k => k < w.heap.size + 3) :=
 ((Fr.ofBelow hb (fun k => k < w.heap.size + 3)).trans (fr_setRow w1 (w.heap.size + 1) c) (fun k _ h => by omega)).trans (Fr.setCell (S := fun k => k < w.heap.size + 3) _ _ _ (by show w.heap.size + 2 < _; omega)) (fun k _ h => h)
theorem jrr_froz {W : World} {b o : Nat} {c : Array Value} (h : JobBoxR W b c) : W.frozen? ⟨b, o, none⟩ = false := by unfold JobBoxR at h; simp [World.frozen?, h]
theorem rdr_froz {W : World} {b o : Nat} {c : Array Value} {t : TypeId} (h : W.heap[b]? = some (.cells c t (0, 0))) : W.frozen? ⟨b, o, none⟩ = false := by simp [World.frozen?, h]
theorem vx_st {C : Prop} {W W' : World} {B mm : Nat} {bo : Option Addr} {G : List Vx} (h : C → mm = G.length ∧ VxAt W (fun k => B ≤ k) bo G) (f : Fr W W' (fun k => k < B)) : C → mm = G.length ∧ VxAt W' (fun k => B ≤ k) bo G := fun hc => ⟨(h hc).1, (h hc).2.kept f (fun k _ hk => ⟨by omega, hk⟩)⟩
theorem ps_end {s : ByteArray} {n j a3 a4 x : Nat} {e3 e4 y : Int} {ps M : List Int} (h4 : rdPs s n a3 e3 [] = (ps, a4, e4)) (h : rdPs s n a3 e3 [] = rdPs s (n - j) x y M) (hj : j ≤ n) (hx : ¬ (j < n ∧ y = 0)) : a4 = x ∧ e4 = y ∧ (y = 0 → ps = M) := by
 rw [h4] at h
 by_cases e : y = 0
 ·have : j = n := by omega
  subst this
  rw [Nat.sub_self] at h
  have h' : (ps, a4, e4) = (M, x, y) := h
  injection h' with u1 u2
  injection u2 with u2 u3
  exact ⟨u2, u3, fun _ => u1⟩
 ·have h2 := rdPs_bad (s := s) (n - j) x y M e
  rw [← h] at h2
  injection h2 with u2 u3
  exact ⟨u2, u3, fun h => absurd h e⟩
end
theorem jr_set {W : World} {b : Nat} {cs : Array Value} (h : JobBoxR W b cs) (i : Nat) (v : Value) : JobBoxR (W.setCell ⟨b, i, none⟩ v) b (cs.setIfInBounds i v) := set_heap h i v
theorem jr_drew {W : World} {b : Nat} {cs : Array Value} (h : JobBoxR W b cs) : JobBoxR W.drew b cs := h
theorem fd_zero {w WF WG : World} {s : ByteArray} {x : Nat} {y : Int} {cs : Array Value} (h : FD w WF s x y cs) (hW : ((((((WF.setCell ⟨w.heap.size, 0, none⟩ (.string ⟨#[]⟩)).setCell ⟨w.heap.size, 1, none⟩ (.slice none 0 0)).setCell ⟨w.heap.size, 2, none⟩ (.slice none 0 0)).setCell ⟨w.heap.size, 3, none⟩ (.int .i64 0)).setCell ⟨w.heap.size, 4, none⟩ (.int .i64 0)).setCell ⟨w.heap.size, 5, none⟩ (.int .i64 0)).drew = WG) : JobBoxR WG w.heap.size #[.string ByteArray.empty, .slice none 0 0, .slice none 0 0, .int .i64 0, .int .i64 0, .int .i64 0] ∧ Below w.heap.size w WG := by
 have fs : ∀ (W : World) (i : Nat) (v : Value), Below w.heap.size w W → Below w.heap.size w (W.setCell ⟨w.heap.size, i, none⟩ v) := fun W i v hb => hb.trans ((Fr.setCell (S := fun k => k = w.heap.size) W ⟨w.heap.size, i, none⟩ v rfl).below hb.size (fun k hk => by omega))
 rw [← hW]
 have c0 : JobBoxR (WF.setCell ⟨w.heap.size, 0, none⟩ (.string ⟨#[]⟩)) w.heap.size #[.string ByteArray.empty, .slice none 0 0, .slice none 0 0, .int .i64 0, .int .i64 0, .int .i64 0] := jr_set h.res 0 (.string ⟨#[]⟩)
 have c1 := jr_set c0 1 (.slice none 0 0)
 have c2 := jr_set c1 2 (.slice none 0 0)
 have c3 := jr_set c2 3 (.int .i64 0)
 have c4 := jr_set c3 4 (.int .i64 0)
 have c5 := jr_set c4 5 (.int .i64 0)
 exact ⟨jr_drew c5, (fs _ _ _ (fs _ _ _ (fs _ _ _ (fs _ _ _ (fs _ _ _ (fs _ _ _ h.low)))))).drew⟩
set_option maxRecDepth 100000 in
set_option maxHeartbeats 8000000 in
theorem fdj_any {w : World} {s t : ByteArray} {G : List Vx} {n a0 : Nat} {ps : List Int} {st se pa a1 a2 a3 a4 a5 a6 a7 : Nat} {e0 e1 e2 e3 e4 e5 e6 e7 ee ez : Int} (hs : s.size ≤ maxLen) (ha0 : a0 = 0) (he0 : e0 = 0) (hJ : JR s a0 e0 t G n ps st se pa a1 a2 a3 a4 a5 a6 a7 e1 e2 e3 e4 e5 e6 e7) (he : jErr e7 t G ps st se pa = ee) (hz : rdEnd s a7 ee = ez) :
  Calls Tryz.prog 16 #[.string s] w fun r w' => ((ez = 0 ∧ ∃ go gc po pc, r = .returned (.tuple #[.agg #[.string t, .slice go G.length gc, .slice po ps.length pc, .int .i64 (st : Int), .int .i64 (se : Int), .int .i64 (pa : Int)], .int .i64 0]) ∧ VxAt w' (fun k => w.heap.size ≤ k) go G ∧ IsP w' (fun k => w.heap.size ≤ k) po ps) ∨ (¬ ez = 0 ∧ r = .returned (.tuple #[.agg #[.string ByteArray.empty, .slice none 0 0, .slice none 0 0, .int .i64 0, .int .i64 0, .int .i64 0], .int .i64 ez]))) ∧ Below w.heap.size w w' := by
 obtain ⟨i0, hi, hz0, hz1, hz2⟩ := info_parts infoKI
 have hT := hJ.to (by omega)
 have hn : n ≤ 4 := hT.nle
 have HTo : Hid _ := hT
 have HJ : Hid _ := hJ
 have HE : Hid (rdFail e7 (jobN t G ps st se pa) = ee) := he
 have HZ : Hid _ := hz
 have HA0 : Hid _ := ha0
 have HE0 : Hid _ := he0
 have HA0' : Hid (a0 ≤ s.size) := by show _ ≤ _; omega
 clear hT hJ he hz ha0 he0
 go_enter Tryz.func16, Tryz.ntmps16
 go_upto_region 2 with (fail)
 generalize hW0 : World.alloc (World.alloc (World.alloc w _) _) _ = W0
 obtain ⟨k0, k1, k2, kb, ks⟩ := three_newJ w _ _ _ hW0
 have HF0 : Hid (FD w W0 s a0 e0 #[.string ByteArray.empty, .slice none 0 0, .slice none 0 0, .int .i64 0, .int .i64 0, .int .i64 0]) := ⟨by rw [HA0.out, HE0.out]; exact k1, k2, k0, kb, by omega⟩
 clear hW0 k0 k1 k2 kb ks HA0 HE0
 go_upto_region 3 with (first
  | (refine wpList_load_row rfl 88 _ rfl (w.heap.size + 1) rfl 88 #[.string s, .int .i64 (a0 : Int), .int .i64 e0] (0, 0) _ HF0.out.rd Tryz.underlying88 rfl size_rdr ?_)
  | (go_at_call 38; refine (ftext_j _ hs HA0'.out HJ.out.h1).mono ?_; rintro r v1 ⟨rfl, hb1⟩; have HG1 : Hid (FD w v1 s a0 e0 #[.string ByteArray.empty, .slice none 0 0, .slice none 0 0, .int .i64 0, .int .i64 0, .int .i64 0]) := HF0.out.new hb1; have HB1 : Hid _ := hb1; have y1 := (jobr_cells (HG1.out.setR a1 e1).box).1; have z1 := jrr_froz (o := 0) (HG1.out.setR a1 e1).box; clear hb1)
  | (refine wpList_store_row rfl 88 _ _ rfl (w.heap.size + 1) #[.string s, .int .i64 (a1 : Int), .int .i64 e1] rfl rfl 88 #[.string s, .int .i64 (a0 : Int), .int .i64 e0] HG1.out.rd size_rdr rfl (by simp [Value.oneCell']) ?_))
 generalize hW1 : World.setCell _ _ _ = W1
 have HF1 : Hid (FD w W1 s a1 e1 #[.string t, .slice none 0 0, .slice none 0 0, .int .i64 0, .int .i64 0, .int .i64 0]) := by rw [← hW1]; exact (HG1.out.setR a1 e1).setJ 0 _
 have HS1 : Hid (Fr W0 W1 (fun k => k < w.heap.size + 3)) := by rw [← hW1]; exact fdf HB1.out _ 0 _
 clear hW1 HG1 HB1 y1 z1
 go_upto_region 4 with (first
  | (refine wpList_load_row rfl 88 _ rfl (w.heap.size + 1) rfl 88 #[.string s, .int .i64 (a1 : Int), .int .i64 e1] (0, 0) _ HF1.out.rd Tryz.underlying88 rfl size_rdr ?_)
  | (go_at_call 39; refine (ftk_to _ hs HTo.out.b1 HJ.out.h2).mono ?_; rintro r v2 ⟨bo, mm, gc, rfl, hV2, hb2⟩; have HV2 : Hid (e2 = 0 → mm = G.length ∧ VxAt v2 (fun k => w.heap.size + 3 ≤ k) bo G) := (fun h => ⟨(hV2 h).1, (hV2 h).2.mono (fun k _ hk => Nat.le_trans HF1.out.sz hk)⟩); have HG2 : Hid (FD w v2 s a1 e1 #[.string t, .slice none 0 0, .slice none 0 0, .int .i64 0, .int .i64 0, .int .i64 0]) := HF1.out.new hb2; have HB2 : Hid _ := hb2; have y2 := (jobr_cells (HG2.out.setR a2 e2).box).2.1; have z2 := jrr_froz (o := 1) (HG2.out.setR a2 e2).box; clear hb2 hV2)
  | (refine wpList_store_row rfl 88 _ _ rfl (w.heap.size + 1) #[.string s, .int .i64 (a2 : Int), .int .i64 e2] rfl rfl 88 #[.string s, .int .i64 (a1 : Int), .int .i64 e1] HG2.out.rd size_rdr rfl (by simp [Value.oneCell']) ?_))
 generalize hW2 : World.setCell _ _ _ = W2
 have HF2 : Hid (FD w W2 s a2 e2 #[.string t, .slice bo mm gc, .slice none 0 0, .int .i64 0, .int .i64 0, .int .i64 0]) := by rw [← hW2]; exact (HG2.out.setR a2 e2).setJ 1 _
 have HS2 : Hid (Fr W1 W2 (fun k => k < w.heap.size + 3)) := by rw [← hW2]; exact fdf HB2.out _ 1 _
 have HX2 : Hid (e2 = 0 → mm = G.length ∧ VxAt W2 (fun k => w.heap.size + 3 ≤ k) bo G) := by rw [← hW2]; exact vx_st HV2.out (fdf (Below.refl _ _) _ 1 _)
 clear hW2 HG2 HB2 y2 z2
 go_upto_region 5 with (first
  | (refine wpList_load_row rfl 88 _ rfl (w.heap.size + 1) rfl 88 #[.string s, .int .i64 (a2 : Int), .int .i64 e2] (0, 0) _ HF2.out.rd Tryz.underlying88 rfl size_rdr ?_)
  | (go_at_call 40; refine (fct_to (most := 4) _ hs HTo.out.b2 (by decide) HJ.out.h3).mono ?_; rintro r v3 ⟨rfl, hb3⟩; have HG3 : Hid (FD w v3 s a2 e2 #[.string t, .slice bo mm gc, .slice none 0 0, .int .i64 0, .int .i64 0, .int .i64 0]) := HF2.out.new hb3; have HB3 : Hid _ := hb3; clear hb3)
  | (refine wpList_store_row rfl 88 _ _ rfl (w.heap.size + 1) #[.string s, .int .i64 (a3 : Int), .int .i64 e3] rfl rfl 88 #[.string s, .int .i64 (a2 : Int), .int .i64 e2] HG3.out.rd size_rdr rfl (by simp [Value.oneCell']) ?_))
 generalize hW3 : World.setRow _ _ _ = W3
 have HF3 : Hid (FD w W3 s a3 e3 #[.string t, .slice bo mm gc, .slice none 0 0, .int .i64 0, .int .i64 0, .int .i64 0]) := by rw [← hW3]; exact HG3.out.setR a3 e3
 have HX3 : Hid (e2 = 0 → mm = G.length ∧ VxAt W3 (fun k => w.heap.size + 3 ≤ k) bo G) := by
  rw [← hW3]
  exact vx_st HX2.out ((Fr.ofBelow HB3.out (fun k => k < w.heap.size + 3)).trans (fr_setRow v3 (w.heap.size + 1) _) (fun k _ h => by omega))
 clear hW3 HG3 HB3 HF0 HF1 HF2 HS1 HS2 HV2 HX2
 clear W0 W1 W2 v1 v2 v3
 go_upto_block 0 with (fail)
 go_wp2
 go_loopw [7, 8, 9] (fun i _ _ wr => ∃ (j : Nat) (ao : Option Addr) (c : Nat) (M : List Int) (x : Nat) (y : Int), j ≤ n ∧ i = .int .i64 j ∧ Hid (rdPs s n a3 e3 [] = rdPs s (n - j) x y M) ∧ Hid (x ≤ s.size ∧ M.length = j) ∧ Hid (wr.ownsRow (w.heap.size + 3) 2 1 (.slice ao j c) j (M.map (Value.int .i64))) ∧ Hid (e2 = 0 → mm = G.length ∧ VxAt wr (fun k => w.heap.size + 3 ≤ k ∧ (Value.slice ao j c).ownBlock ≠ some k) bo G) ∧ Hid (FD w wr s x y #[.string t, .slice bo mm gc, .slice ao j c, .int .i64 0, .int .i64 0, .int .i64 0])) (fun i _ _ _ => n - (intOf i).toNat)
 case atStart => exact ⟨0, none, 0, [], a3, e3, Nat.zero_le _, rfl, (rfl : rdPs s n a3 e3 [] = rdPs s (n - 0) a3 e3 []), ⟨HTo.out.b3, rfl⟩, World.ownsRow_nil _ _ _ _, (fun h => ⟨(HX3.out h).1, (HX3.out h).2.mono (fun k _ hk => ⟨hk, by simp [Value.ownBlock]⟩)⟩), HF3.out⟩
 case round =>
  obtain ⟨j, ao, c, M, x, y, hj, rfl, HS, HX, HK, HV, HF⟩ := hrel
  clear HF3 HX3
  obtain ⟨r0, r1, r2⟩ := box3 HF.out.rd
  by_cases hrd : j < n ∧ y = 0
  ·obtain ⟨hjn, hy⟩ := hrd
   have hyb : (y == 0) = true := by simpa using hy
   obtain ⟨⟨n1, x1, y1⟩, q1⟩ : ∃ q, rdNum s x y = q := ⟨_, rfl⟩
   have g1 := rdNum_to HX.out.1 q1
   have HN : Hid (rdPs s (n - j) x y M = rdPs s (n - (j + 1)) x1 y1 (M ++ [unfoldN n1])) := by
    show _ = _
    rw [show n - j = (n - (j + 1)) + 1 by omega]
    exact rdPs_step q1
   have Q1 : Hid _ := q1
   have GG : Hid _ := g1.1
   have HY : Hid _ := hy
   clear q1 g1 hy
   go_upto_region 9 with (first
    | (refine wpList_load_row rfl 88 _ rfl (w.heap.size + 1) rfl 88 #[.string s, .int .i64 (x : Int), .int .i64 y] (0, 0) _ HF.out.rd Tryz.underlying88 rfl size_rdr ?_)
    | (go_at_call 41; refine (fsg_to _ hs HX.out.1 Q1.out).mono ?_; rintro r v1 ⟨rfl, hb1⟩; have HB1 : Hid (Below wr.heap.size wr v1) := hb1; clear hb1))
   generalize hW2 : World.alloc v1 _ = W2
   have hb2 : Below v1.heap.size v1 W2 := by rw [← hW2]; exact one_new _ _
   have HK2 : Hid (W2.heap[v1.heap.size]? = some (.cells #[.string s, .int .i64 (x1 : Int), .int .i64 y1] 88 (0, 0))) := by rw [← hW2]; exact heap_alloc_new _ _
   have HB2 : Hid (Below wr.heap.size wr W2) := HB1.out.trans (hb2.mono HB1.out.size)
   have HF2 : Hid (FD w W2 s x y #[.string t, .slice bo mm gc, .slice ao j c, .int .i64 0, .int .i64 0, .int .i64 0]) := HF.out.new HB2.out
   have HC2 : Hid (v1.heap.size ≠ w.heap.size + 1) := by have := HF.out.sz; have := HB1.out.size; show _ ≠ _; omega
   clear hW2 hb2 r0 r1 r2 hyb
   generalize v1.heap.size = kb at *
   clear HB1
   go_upto_region 10 with (first
    | (refine wpList_load_row rfl 88 _ rfl kb rfl 88 #[.string s, .int .i64 (x1 : Int), .int .i64 y1] (0, 0) _ HK2.out Tryz.underlying88 rfl size_rdr ?_)
    | (refine wpList_store_row rfl 88 _ _ rfl (w.heap.size + 1) #[.string s, .int .i64 (x1 : Int), .int .i64 y1] rfl rfl 88 #[.string s, .int .i64 (x : Int), .int .i64 y] HF2.out.rd size_rdr rfl (by simp [Value.oneCell']) ?_))
   generalize hW3 : World.setRow _ _ _ = W3
   have HF3 : Hid (FD w W3 s x1 y1 #[.string t, .slice bo mm gc, .slice ao j c, .int .i64 0, .int .i64 0, .int .i64 0]) := by rw [← hW3]; exact HF2.out.setR x1 y1
   have HS3 : Hid (Fr wr W3 (fun k => k < w.heap.size + 3)) := by rw [← hW3]; exact (Fr.ofBelow HB2.out (fun k => k < w.heap.size + 3)).trans (fr_setRow W2 (w.heap.size + 1) _) (fun k _ h => by omega)
   have HO3 : Hid (W3.ownsRow (w.heap.size + 3) 2 1 (.slice ao j c) j (M.map (Value.int .i64))) := k_fr HK.out HS3.out (fun k hk e => by omega)
   have HV3 : Hid (e2 = 0 → mm = G.length ∧ VxAt W3 (fun k => w.heap.size + 3 ≤ k ∧ (Value.slice ao j c).ownBlock ≠ some k) bo G) := fun h => ⟨(HV.out h).1, (HV.out h).2.kept HS3.out (fun k _ hk => ⟨by omega, hk⟩)⟩
   clear hW3 HF2 HK2 HB2 HC2 HF HV HK HS3
   have x2 := (jobr_cells HF3.out.box).2.2.1
   have sz3 := HF3.out.sz
   go_wp2_with (at_builtin; refine wpList_append_own_at _ rfl _ _ 25 rfl (w.heap.size + 3) 2 i0 (.int .i64 0) 1 8 Tryz.underlying25 hi hz0 hz1 hz2 rfl (by decide) (.slice ao j c) j (M.map (Value.int .i64)) rfl (k_new HO3.out (one_newK _ _)) ⟨W3.heap.size, 0, none⟩ 1 1 [.int .i64 (unfoldN n1)] rfl rfl (k_one1 (heap_alloc_new _ _)) (k_oneI _) (by unfold maxLen; omega) (by omega) (by simp; omega) ?_)
   intro v' w4 hown hgrow hne hat
   have hM4 : KI w4 (w.heap.size + 3) v' (M ++ [unfoldN n1]) := ki_snoc HX.out.2.symm hown
   have hfg : Fr (W3.alloc (.cells #[.int .i64 (unfoldN n1)] 2)) w4 (fun k => (Value.slice ao j c).ownBlock = some k) := Fr.grown hgrow (fun k hk => hk)
   have hlo := fun k hk => (World.ownsRow.lt HO3.out k hk)
   have HF4 : Hid (FD w w4 s x1 y1 #[.string t, .slice bo mm gc, .slice ao j c, .int .i64 0, .int .i64 0, .int .i64 0]) := (HF3.out.new (one_new _ _)).kept (hfg.mono (fun k _ h => (hlo k h).1))
   have HV4 : Hid (e2 = 0 → mm = G.length ∧ VxAt w4 (fun k => w.heap.size + 3 ≤ k ∧ v'.ownBlock ≠ some k) bo G) := fun h => ⟨(HV3.out h).1, (((HV3.out h).2.mono (Q := fun k => (w.heap.size + 3 ≤ k ∧ (Value.slice ao j c).ownBlock ≠ some k) ∧ k < W3.heap.size) (fun k hk hp => ⟨hp, hk⟩)).new (one_new _ _)).kept hfg (fun k _ hk => ⟨fun e => hk.1.2 e, hk.1.1, fun e => by
    rcases hat with e' | e'
    ·exact hk.1.2 (e'.symm.trans e)
    ·have := Option.some.inj (e'.symm.trans e)
     have h9 : (W3.alloc (.cells #[.int .i64 (unfoldN n1)] 2)).heap.size = W3.heap.size + 1 := World.size_alloc _ _
     omega⟩)⟩
   obtain ⟨ao', c', rfl⟩ := k_shape hM4
   have e1 : (M ++ [unfoldN n1]).length = j + 1 := by rw [List.length_append, HX.out.2]; rfl
   unfold KI at hM4
   rw [e1] at hM4 HV4 ⊢
   have HM4 : Hid _ := hM4
   have HE1 : Hid _ := e1
   have HF5 : Hid (FD w (w4.setCell ⟨w.heap.size + 2, 2, none⟩ (.slice ao' (j + 1) c')) s x1 y1 #[.string t, .slice bo mm gc, (.slice ao' (j + 1) c'), .int .i64 0, .int .i64 0, .int .i64 0]) := HF4.out.setJ 2 _
   have fS : Fr w4 (w4.setCell ⟨w.heap.size + 2, 2, none⟩ (.slice ao' (j + 1) c')) (fun k => k = w.heap.size + 2) := Fr.setCell _ _ _ rfl
   have HM5 : Hid ((w4.setCell ⟨w.heap.size + 2, 2, none⟩ (.slice ao' (j + 1) c')).ownsRow (w.heap.size + 3) 2 1 (.slice ao' (j + 1) c') (j + 1) ((M ++ [unfoldN n1]).map (Value.int .i64))) := k_fr HM4.out fS (fun k hk e => by omega)
   have HV5 : Hid (e2 = 0 → mm = G.length ∧ VxAt (w4.setCell ⟨w.heap.size + 2, 2, none⟩ (.slice ao' (j + 1) c')) (fun k => w.heap.size + 3 ≤ k ∧ (Value.slice ao' (j + 1) c').ownBlock ≠ some k) bo G) := fun h => ⟨(HV4.out h).1, (HV4.out h).2.kept fS (fun k _ hk => ⟨by omega, hk⟩)⟩
   have y2 := (jobr_cells HF4.out.box).2.2.1
   have z2 := jrr_froz (o := 2) HF4.out.box
   clear hM4 hfg hown hgrow hne hat e1 HF3 HO3 HV3 HF4 HV4 fS x2 hlo
   go_wp2
   go_roundw
   case rel => exact ⟨j + 1, ao', c', M ++ [unfoldN n1], x1, y1, by omega, by go_num, (by show _ = _; rw [HS.out, HN.out]), ⟨GG.out, HE1.out⟩, HM5.out, HV5.out, HF5.out⟩
   case measure => simp [intOf]; omega
  ·obtain ⟨rfl, rfl, HPs⟩ := ps_end HJ.out.h4 HS.out hj hrd
   have HPs : Hid _ := HPs
   have hloop : (decide ((j : Int) < (n : Int)) && (e4 == 0)) = false := by
    by_cases h1 : j < n
    ·have h2 : ¬ e4 = 0 := fun e => hrd ⟨h1, e⟩
     simp [h2]
    ·have : ¬ (j : Int) < (n : Int) := by omega
     simp [this]
   have HRD : Hid _ := hrd
   have HAw : Hid (∀ W, Fr wr W (fun k => k < w.heap.size + 3) → e4 = 0 → mm = G.length ∧ VxAt W (fun k => w.heap.size + 3 ≤ k) bo G ∧ ps.length = j ∧ IsP W (fun k => w.heap.size + 3 ≤ k) ao ps) := fun W f h => by
    have hps : ps = M := HPs.out h
    have h3 : e3 = 0 := by
     by_cases h30 : e3 = 0
     ·exact h30
     ·have := rdPs_bad (s := s) n a3 e3 [] h30
      rw [HJ.out.h4] at this
      injection this with _ u
      exact absurd (u.symm.trans h) h30
    have h2 : e2 = 0 := (rdCount_to (most := 4) HTo.out.b2 HJ.out.h3).2.2.1 h3
    refine ⟨(HV.out h2).1, (HV.out h2).2.kept f (fun k _ hk => ⟨by omega, hk.1⟩), by rw [hps]; exact HX.out.2, ?_⟩
    rw [hps]
    have hk : KI W (w.heap.size + 3) (.slice ao j c) M := by
     have := k_fr HK.out f (fun k hk e => by omega)
     unfold KI
     rw [HX.out.2]
     exact this
    exact hk.p
   have HE4 : Hid (e7 = 0 → e4 = 0) := fun h => (rdCount_to (most := 1000) HTo.out.b4 HJ.out.h5).2.2.1 ((rdCount_to (most := 65536) HTo.out.b5 HJ.out.h6).2.2.1 ((rdCount_to (most := 16) HTo.out.b6 HJ.out.h7).2.2.1 h))
   clear HS HX HK HV HPs hj
   by_cases hlt : (j : Int) < (n : Int)
   ·have hy : ¬ e4 = 0 := fun e => HRD.out ⟨by omega, e⟩
    have hyb : (e4 == 0) = false := by simpa using hy
    go_upto_region 12 with (first
     | (refine wpList_load_row rfl 88 _ rfl (w.heap.size + 1) rfl 88 #[.string s, .int .i64 (a4 : Int), .int .i64 e4] (0, 0) _ HF.out.rd Tryz.underlying88 rfl size_rdr ?_)
     | (go_at_call 40; refine (fct_to (most := 1000) _ hs HTo.out.b4 (by decide) HJ.out.h5).mono ?_; rintro r v5 ⟨rfl, hb5⟩; have HG5 : Hid (FD w v5 s a4 e4 #[.string t, .slice bo mm gc, .slice ao j c, .int .i64 0, .int .i64 0, .int .i64 0]) := HF.out.new hb5; have HB5 : Hid _ := hb5; have y5 := (jobr_cells (HG5.out.setR a5 e5).box).2.2.2.1; have z5 := jrr_froz (o := 3) (HG5.out.setR a5 e5).box; clear hb5)
     | (refine wpList_store_row rfl 88 _ _ rfl (w.heap.size + 1) #[.string s, .int .i64 (a5 : Int), .int .i64 e5] rfl rfl 88 #[.string s, .int .i64 (a4 : Int), .int .i64 e4] HG5.out.rd size_rdr rfl (by simp [Value.oneCell']) ?_))
    generalize hW5 : World.setCell _ _ _ = W5
    have HF5 : Hid (FD w W5 s a5 e5 #[.string t, .slice bo mm gc, .slice ao j c, .int .i64 (st : Int), .int .i64 0, .int .i64 0]) := by rw [← hW5]; exact (HG5.out.setR a5 e5).setJ 3 _
    have HS5 : Hid (Fr wr W5 (fun k => k < w.heap.size + 3)) := by rw [← hW5]; exact fdf HB5.out _ 3 _
    clear hW5 HG5 HB5 y5 z5
    go_upto_region 13 with (first
     | (refine wpList_load_row rfl 88 _ rfl (w.heap.size + 1) rfl 88 #[.string s, .int .i64 (a5 : Int), .int .i64 e5] (0, 0) _ HF5.out.rd Tryz.underlying88 rfl size_rdr ?_)
     | (go_at_call 40; refine (fct_to (most := 65536) _ hs HTo.out.b5 (by decide) HJ.out.h6).mono ?_; rintro r v6 ⟨rfl, hb6⟩; have HG6 : Hid (FD w v6 s a5 e5 #[.string t, .slice bo mm gc, .slice ao j c, .int .i64 (st : Int), .int .i64 0, .int .i64 0]) := HF5.out.new hb6; have HB6 : Hid _ := hb6; have y6 := (jobr_cells (HG6.out.setR a6 e6).box).2.2.2.2.1; have z6 := jrr_froz (o := 4) (HG6.out.setR a6 e6).box; clear hb6)
     | (refine wpList_store_row rfl 88 _ _ rfl (w.heap.size + 1) #[.string s, .int .i64 (a6 : Int), .int .i64 e6] rfl rfl 88 #[.string s, .int .i64 (a5 : Int), .int .i64 e5] HG6.out.rd size_rdr rfl (by simp [Value.oneCell']) ?_))
    generalize hW6 : World.setCell _ _ _ = W6
    have HF6 : Hid (FD w W6 s a6 e6 #[.string t, .slice bo mm gc, .slice ao j c, .int .i64 (st : Int), .int .i64 (se : Int), .int .i64 0]) := by rw [← hW6]; exact (HG6.out.setR a6 e6).setJ 4 _
    have HS6 : Hid (Fr W5 W6 (fun k => k < w.heap.size + 3)) := by rw [← hW6]; exact fdf HB6.out _ 4 _
    clear hW6 HG6 HB6 y6 z6
    go_upto_region 14 with (first
     | (refine wpList_load_row rfl 88 _ rfl (w.heap.size + 1) rfl 88 #[.string s, .int .i64 (a6 : Int), .int .i64 e6] (0, 0) _ HF6.out.rd Tryz.underlying88 rfl size_rdr ?_)
     | (go_at_call 40; refine (fct_to (most := 16) _ hs HTo.out.b6 (by decide) HJ.out.h7).mono ?_; rintro r v7 ⟨rfl, hb7⟩; have HG7 : Hid (FD w v7 s a6 e6 #[.string t, .slice bo mm gc, .slice ao j c, .int .i64 (st : Int), .int .i64 (se : Int), .int .i64 0]) := HF6.out.new hb7; have HB7 : Hid _ := hb7; have y7 := (jobr_cells (HG7.out.setR a7 e7).box).2.2.2.2.2; have z7 := jrr_froz (o := 5) (HG7.out.setR a7 e7).box; clear hb7)
     | (refine wpList_store_row rfl 88 _ _ rfl (w.heap.size + 1) #[.string s, .int .i64 (a7 : Int), .int .i64 e7] rfl rfl 88 #[.string s, .int .i64 (a6 : Int), .int .i64 e6] HG7.out.rd size_rdr rfl (by simp [Value.oneCell']) ?_))
    generalize hW7 : World.setCell _ _ _ = W7
    have HF7 : Hid (FD w W7 s a7 e7 #[.string t, .slice bo mm gc, .slice ao j c, .int .i64 (st : Int), .int .i64 (se : Int), .int .i64 (pa : Int)]) := by rw [← hW7]; exact (HG7.out.setR a7 e7).setJ 5 _
    have HS7 : Hid (Fr W6 W7 (fun k => k < w.heap.size + 3)) := by rw [← hW7]; exact fdf HB7.out _ 5 _
    clear hW7 HG7 HB7 y7 z7
    clear HF HF5 HF6 HS5 HS6 HS7 HAw
    obtain ⟨p0, p1, p2⟩ := box3 HF7.out.rd
    have h7 : ¬ e7 = 0 := fun h => hy (HE4.out h)
    have h7b : (e7 == 0) = false := by simpa using h7
    have HE7 : Hid (e7 = ee) := by have := HE.out; rw [rdFail_e h7] at this; exact this
    have HF8 : Hid (FD w W7 s a7 ee #[.string t, .slice bo mm gc, .slice ao j c, .int .i64 (st : Int), .int .i64 (se : Int), .int .i64 (pa : Int)]) := by rw [← HE7.out]; exact HF7.out
    go_upto_region 16 with (fail)
    clear HF7 p0 p1 p2
    go_upto_region 17 with (first
     | (refine wpList_load_row rfl 88 _ rfl (w.heap.size + 1) rfl 88 #[.string s, .int .i64 (a7 : Int), .int .i64 ee] (0, 0) _ HF8.out.rd Tryz.underlying88 rfl size_rdr ?_)
     | (go_at_call 42; refine (fen_to _ HZ.out).mono ?_; rintro r vE ⟨rfl, hbE⟩; have HGE : Hid (FD w vE s a7 ee #[.string t, .slice bo mm gc, .slice ao j c, .int .i64 (st : Int), .int .i64 (se : Int), .int .i64 (pa : Int)]) := HF8.out.new hbE; have HBE : Hid _ := hbE; clear hbE)
     | (refine wpList_store_row rfl 88 _ _ rfl (w.heap.size + 1) #[.string s, .int .i64 (a7 : Int), .int .i64 ez] rfl rfl 88 #[.string s, .int .i64 (a7 : Int), .int .i64 ee] HGE.out.rd size_rdr rfl (by simp [Value.oneCell']) ?_))
    generalize hWF : World.setRow _ _ _ = WF
    have HFF : Hid (FD w WF s a7 ez #[.string t, .slice bo mm gc, .slice ao j c, .int .i64 (st : Int), .int .i64 (se : Int), .int .i64 (pa : Int)]) := by rw [← hWF]; exact HGE.out.setR a7 ez
    clear hWF HGE HBE
    obtain ⟨f0, f1, f2⟩ := box3 HFF.out.rd
    have hez : ¬ ez = 0 := fun h => h7 (HE7.out.trans (end_0 (HZ.out.trans h)))
    have hezb : (ez != 0) = true := by simpa using hez
    have HEz : Hid _ := hez
    clear hez
    obtain ⟨g0, g1, g2, g3, g4, g5⟩ := jobr_cells HFF.out.res
    have h0 := jrr_froz (o := 0) HFF.out.res
    have h1 := jrr_froz (o := 1) HFF.out.res
    have h2 := jrr_froz (o := 2) HFF.out.res
    have h3 := jrr_froz (o := 3) HFF.out.res
    have h4 := jrr_froz (o := 4) HFF.out.res
    have h5 := jrr_froz (o := 5) HFF.out.res
    go_upto_region 18 with (fail)
    go_region
    generalize hWG : World.drew _ = WG
    obtain ⟨hZG, hBG⟩ := fd_zero HFF.out hWG
    clear hWG g0 g1 g2 g3 g4 g5 h0 h1 h2 h3 h4 h5
    go_wp2
    refine bodyPost_ret (v := .tuple #[.agg #[.string ByteArray.empty, .slice none 0 0, .slice none 0 0, .int .i64 0, .int .i64 0, .int .i64 0], .int .i64 ez]) (res_ctJ Tryz.results16 _ _ w.heap.size 34 _ (0, 0) _ rfl hZG Tryz.underlying34 rfl size_jobR) rfl ?_
    exact ⟨.inr ⟨HEz.out, rfl⟩, hBG⟩
   ·have hlb : decide ((j : Int) < (n : Int)) = false := by simpa using hlt
    go_upto_region 12 with (first
     | (refine wpList_load_row rfl 88 _ rfl (w.heap.size + 1) rfl 88 #[.string s, .int .i64 (a4 : Int), .int .i64 e4] (0, 0) _ HF.out.rd Tryz.underlying88 rfl size_rdr ?_)
     | (go_at_call 40; refine (fct_to (most := 1000) _ hs HTo.out.b4 (by decide) HJ.out.h5).mono ?_; rintro r v5 ⟨rfl, hb5⟩; have HG5 : Hid (FD w v5 s a4 e4 #[.string t, .slice bo mm gc, .slice ao j c, .int .i64 0, .int .i64 0, .int .i64 0]) := HF.out.new hb5; have HB5 : Hid _ := hb5; have y5 := (jobr_cells (HG5.out.setR a5 e5).box).2.2.2.1; have z5 := jrr_froz (o := 3) (HG5.out.setR a5 e5).box; clear hb5)
     | (refine wpList_store_row rfl 88 _ _ rfl (w.heap.size + 1) #[.string s, .int .i64 (a5 : Int), .int .i64 e5] rfl rfl 88 #[.string s, .int .i64 (a4 : Int), .int .i64 e4] HG5.out.rd size_rdr rfl (by simp [Value.oneCell']) ?_))
    generalize hW5 : World.setCell _ _ _ = W5
    have HF5 : Hid (FD w W5 s a5 e5 #[.string t, .slice bo mm gc, .slice ao j c, .int .i64 (st : Int), .int .i64 0, .int .i64 0]) := by rw [← hW5]; exact (HG5.out.setR a5 e5).setJ 3 _
    have HS5 : Hid (Fr wr W5 (fun k => k < w.heap.size + 3)) := by rw [← hW5]; exact fdf HB5.out _ 3 _
    clear hW5 HG5 HB5 y5 z5
    go_upto_region 13 with (first
     | (refine wpList_load_row rfl 88 _ rfl (w.heap.size + 1) rfl 88 #[.string s, .int .i64 (a5 : Int), .int .i64 e5] (0, 0) _ HF5.out.rd Tryz.underlying88 rfl size_rdr ?_)
     | (go_at_call 40; refine (fct_to (most := 65536) _ hs HTo.out.b5 (by decide) HJ.out.h6).mono ?_; rintro r v6 ⟨rfl, hb6⟩; have HG6 : Hid (FD w v6 s a5 e5 #[.string t, .slice bo mm gc, .slice ao j c, .int .i64 (st : Int), .int .i64 0, .int .i64 0]) := HF5.out.new hb6; have HB6 : Hid _ := hb6; have y6 := (jobr_cells (HG6.out.setR a6 e6).box).2.2.2.2.1; have z6 := jrr_froz (o := 4) (HG6.out.setR a6 e6).box; clear hb6)
     | (refine wpList_store_row rfl 88 _ _ rfl (w.heap.size + 1) #[.string s, .int .i64 (a6 : Int), .int .i64 e6] rfl rfl 88 #[.string s, .int .i64 (a5 : Int), .int .i64 e5] HG6.out.rd size_rdr rfl (by simp [Value.oneCell']) ?_))
    generalize hW6 : World.setCell _ _ _ = W6
    have HF6 : Hid (FD w W6 s a6 e6 #[.string t, .slice bo mm gc, .slice ao j c, .int .i64 (st : Int), .int .i64 (se : Int), .int .i64 0]) := by rw [← hW6]; exact (HG6.out.setR a6 e6).setJ 4 _
    have HS6 : Hid (Fr W5 W6 (fun k => k < w.heap.size + 3)) := by rw [← hW6]; exact fdf HB6.out _ 4 _
    clear hW6 HG6 HB6 y6 z6
    go_upto_region 14 with (first
     | (refine wpList_load_row rfl 88 _ rfl (w.heap.size + 1) rfl 88 #[.string s, .int .i64 (a6 : Int), .int .i64 e6] (0, 0) _ HF6.out.rd Tryz.underlying88 rfl size_rdr ?_)
     | (go_at_call 40; refine (fct_to (most := 16) _ hs HTo.out.b6 (by decide) HJ.out.h7).mono ?_; rintro r v7 ⟨rfl, hb7⟩; have HG7 : Hid (FD w v7 s a6 e6 #[.string t, .slice bo mm gc, .slice ao j c, .int .i64 (st : Int), .int .i64 (se : Int), .int .i64 0]) := HF6.out.new hb7; have HB7 : Hid _ := hb7; have y7 := (jobr_cells (HG7.out.setR a7 e7).box).2.2.2.2.2; have z7 := jrr_froz (o := 5) (HG7.out.setR a7 e7).box; clear hb7)
     | (refine wpList_store_row rfl 88 _ _ rfl (w.heap.size + 1) #[.string s, .int .i64 (a7 : Int), .int .i64 e7] rfl rfl 88 #[.string s, .int .i64 (a6 : Int), .int .i64 e6] HG7.out.rd size_rdr rfl (by simp [Value.oneCell']) ?_))
    generalize hW7 : World.setCell _ _ _ = W7
    have HF7 : Hid (FD w W7 s a7 e7 #[.string t, .slice bo mm gc, .slice ao j c, .int .i64 (st : Int), .int .i64 (se : Int), .int .i64 (pa : Int)]) := by rw [← hW7]; exact (HG7.out.setR a7 e7).setJ 5 _
    have HS7 : Hid (Fr W6 W7 (fun k => k < w.heap.size + 3)) := by rw [← hW7]; exact fdf HB7.out _ 5 _
    clear hW7 HG7 HB7 y7 z7
    have HSw : Hid (Fr wr W7 (fun k => k < w.heap.size + 3)) := (HS5.out.trans HS6.out (fun _ _ h => h)).trans HS7.out (fun _ _ h => h)
    have HAll : Hid (e7 = 0 → mm = G.length ∧ VxAt W7 (fun k => w.heap.size + 3 ≤ k) bo G ∧ ps.length = j ∧ IsP W7 (fun k => w.heap.size + 3 ≤ k) ao ps) := fun h => HAw.out W7 HSw.out (HE4.out h)
    clear HF HF5 HF6 HS5 HS6 HS7 HAw HSw
    obtain ⟨p0, p1, p2⟩ := box3 HF7.out.rd
    by_cases h7 : e7 = 0
    ·have h7b : (e7 == 0) = true := by simpa using h7
     have HE7 : Hid (jobN t G ps st se pa = ee) := by have := HE.out; rw [h7, rdFail_0] at this; exact this
     obtain ⟨hm, hVx, hjl, hIs⟩ := HAll.out h7
     have hC := rjcheck_any (gc := gc) (pc := c) hm hjl.symm hVx HTo.out.gok (by have := HTo.out.gl; omega) hIs.at (by have := HTo.out.len; have := HTo.out.nle; omega) HE7.out
     have HC : Hid _ := hC
     have HOK0 : Hid _ := HAll.out h7
     clear hC hm hVx hjl hIs HAll HE7
     go_upto_region 16 with (first
      | (refine wpList_load_row rfl 34 _ rfl (w.heap.size + 2) rfl 34 #[.string t, .slice bo mm gc, .slice ao j c, .int .i64 (st : Int), .int .i64 (se : Int), .int .i64 (pa : Int)] (0, 0) _ HF7.out.box Tryz.underlying34 rfl size_jobR ?_)
      | (go_at_call 5; refine Calls.mono HC.out ?_; rintro r v8 ⟨rfl, hb8⟩; have HG8 : Hid (FD w v8 s a7 e7 #[.string t, .slice bo mm gc, .slice ao j c, .int .i64 (st : Int), .int .i64 (se : Int), .int .i64 (pa : Int)]) := HF7.out.new hb8; have HB8 : Hid _ := hb8; have y8 := (box3 HG8.out.rd).2.2; have z8 := rdr_froz (o := 2) HG8.out.rd; clear hb8))
     generalize hW8 : World.setCell _ _ _ = W8
     have HF8 : Hid (FD w W8 s a7 ee #[.string t, .slice bo mm gc, .slice ao j c, .int .i64 (st : Int), .int .i64 (se : Int), .int .i64 (pa : Int)]) := by rw [← hW8]; exact HG8.out.setE ee
     have HS8 : Hid (Fr W7 W8 (fun k => k < w.heap.size + 3)) := by
      rw [← hW8]
      exact (Fr.ofBelow HB8.out (fun k => k < w.heap.size + 3)).trans (Fr.setCell (S := fun k => k < w.heap.size + 3) _ _ _ (by show w.heap.size + 1 < _; omega)) (fun k _ h => h)
     have HOK : Hid (ez = 0 → mm = G.length ∧ VxAt W8 (fun k => w.heap.size + 3 ≤ k) bo G ∧ ps.length = j ∧ IsP W8 (fun k => w.heap.size + 3 ≤ k) ao ps) := fun _ => ⟨HOK0.out.1, HOK0.out.2.1.kept HS8.out (fun k _ hk => ⟨by omega, hk⟩), HOK0.out.2.2.1, HOK0.out.2.2.2.kept HS8.out (fun k _ hk => ⟨by omega, hk⟩)⟩
     clear hW8 HG8 HB8 y8 z8 HS8 HOK0 HF7 HC p0 p1 p2
     go_upto_region 17 with (first
      | (refine wpList_load_row rfl 88 _ rfl (w.heap.size + 1) rfl 88 #[.string s, .int .i64 (a7 : Int), .int .i64 ee] (0, 0) _ HF8.out.rd Tryz.underlying88 rfl size_rdr ?_)
      | (go_at_call 42; refine (fen_to _ HZ.out).mono ?_; rintro r vE ⟨rfl, hbE⟩; have HGE : Hid (FD w vE s a7 ee #[.string t, .slice bo mm gc, .slice ao j c, .int .i64 (st : Int), .int .i64 (se : Int), .int .i64 (pa : Int)]) := HF8.out.new hbE; have HBE : Hid _ := hbE; clear hbE)
      | (refine wpList_store_row rfl 88 _ _ rfl (w.heap.size + 1) #[.string s, .int .i64 (a7 : Int), .int .i64 ez] rfl rfl 88 #[.string s, .int .i64 (a7 : Int), .int .i64 ee] HGE.out.rd size_rdr rfl (by simp [Value.oneCell']) ?_))
     generalize hWF : World.setRow _ _ _ = WF
     have HFF : Hid (FD w WF s a7 ez #[.string t, .slice bo mm gc, .slice ao j c, .int .i64 (st : Int), .int .i64 (se : Int), .int .i64 (pa : Int)]) := by rw [← hWF]; exact HGE.out.setR a7 ez
     have HSF : Hid (Fr W8 WF (fun k => k < w.heap.size + 3)) := by rw [← hWF]; exact (Fr.ofBelow HBE.out (fun k => k < w.heap.size + 3)).trans (fr_setRow vE (w.heap.size + 1) _) (fun k _ h => by omega)
     clear hWF HGE HBE
     obtain ⟨f0, f1, f2⟩ := box3 HFF.out.rd
     by_cases hez : ez = 0
     ·have hezb : (ez != 0) = false := by simpa using hez
      have HEz : Hid _ := hez
      clear hez
      go_wp2_with (first
       | (refine wpList_load_row rfl 34 _ rfl (w.heap.size + 2) rfl 34 #[.string t, .slice bo mm gc, .slice ao j c, .int .i64 (st : Int), .int .i64 (se : Int), .int .i64 (pa : Int)] (0, 0) _ HFF.out.box Tryz.underlying34 rfl size_jobR ?_)
       | (refine wpList_store_row rfl 34 _ _ rfl w.heap.size #[.string t, .slice bo mm gc, .slice ao j c, .int .i64 (st : Int), .int .i64 (se : Int), .int .i64 (pa : Int)] rfl rfl 34 #[.string ByteArray.empty, .slice none 0 0, .slice none 0 0, .int .i64 0, .int .i64 0, .int .i64 0] HFF.out.res size_jobR rfl (by simp [Value.oneCell']) ?_))
      refine bodyPost_ret (v := .tuple #[.agg #[.string t, .slice bo mm gc, .slice ao j c, .int .i64 (st : Int), .int .i64 (se : Int), .int .i64 (pa : Int)], .int .i64 0]) (res_ctJ Tryz.results16 _ _ w.heap.size 34 _ (0, 0) _ rfl (setRow_heap _ _ _ _ _ _ HFF.out.res) Tryz.underlying34 rfl size_jobR) rfl ?_
      obtain ⟨hm, hVx, hjl, hIs⟩ := HOK.out HEz.out
      subst hm
      subst hjl
      have fS := fr_setRow WF w.heap.size #[.string t, .slice bo G.length gc, .slice ao ps.length c, .int .i64 (st : Int), .int .i64 (se : Int), .int .i64 (pa : Int)]
      exact ⟨.inl ⟨HEz.out, bo, gc, ao, c, rfl, (hVx.kept HSF.out (Q := fun k => w.heap.size + 3 ≤ k) (fun k _ hk => ⟨by omega, hk⟩)).kept fS (fun k _ hk => ⟨by omega, by omega⟩), (hIs.kept HSF.out (Q := fun k => w.heap.size + 3 ≤ k) (fun k _ hk => ⟨by omega, hk⟩)).kept fS (fun k _ hk => ⟨by omega, by omega⟩)⟩, k_setRow HFF.out.low (Nat.le_refl _) _⟩
     ·have hezb : (ez != 0) = true := by simpa using hez
      have HEz : Hid _ := hez
      clear hez
      obtain ⟨g0, g1, g2, g3, g4, g5⟩ := jobr_cells HFF.out.res
      have h0 := jrr_froz (o := 0) HFF.out.res
      have h1 := jrr_froz (o := 1) HFF.out.res
      have h2 := jrr_froz (o := 2) HFF.out.res
      have h3 := jrr_froz (o := 3) HFF.out.res
      have h4 := jrr_froz (o := 4) HFF.out.res
      have h5 := jrr_froz (o := 5) HFF.out.res
      go_upto_region 18 with (fail)
      go_region
      generalize hWG : World.drew _ = WG
      obtain ⟨hZG, hBG⟩ := fd_zero HFF.out hWG
      clear hWG g0 g1 g2 g3 g4 g5 h0 h1 h2 h3 h4 h5
      go_wp2
      refine bodyPost_ret (v := .tuple #[.agg #[.string ByteArray.empty, .slice none 0 0, .slice none 0 0, .int .i64 0, .int .i64 0, .int .i64 0], .int .i64 ez]) (res_ctJ Tryz.results16 _ _ w.heap.size 34 _ (0, 0) _ rfl hZG Tryz.underlying34 rfl size_jobR) rfl ?_
      exact ⟨.inr ⟨HEz.out, rfl⟩, hBG⟩
    ·have h7b : (e7 == 0) = false := by simpa using h7
     have HE7 : Hid (e7 = ee) := by have := HE.out; rw [rdFail_e h7] at this; exact this
     have HF8 : Hid (FD w W7 s a7 ee #[.string t, .slice bo mm gc, .slice ao j c, .int .i64 (st : Int), .int .i64 (se : Int), .int .i64 (pa : Int)]) := by rw [← HE7.out]; exact HF7.out
     clear HAll
     go_upto_region 16 with (fail)
     clear HF7 p0 p1 p2
     go_upto_region 17 with (first
      | (refine wpList_load_row rfl 88 _ rfl (w.heap.size + 1) rfl 88 #[.string s, .int .i64 (a7 : Int), .int .i64 ee] (0, 0) _ HF8.out.rd Tryz.underlying88 rfl size_rdr ?_)
      | (go_at_call 42; refine (fen_to _ HZ.out).mono ?_; rintro r vE ⟨rfl, hbE⟩; have HGE : Hid (FD w vE s a7 ee #[.string t, .slice bo mm gc, .slice ao j c, .int .i64 (st : Int), .int .i64 (se : Int), .int .i64 (pa : Int)]) := HF8.out.new hbE; have HBE : Hid _ := hbE; clear hbE)
      | (refine wpList_store_row rfl 88 _ _ rfl (w.heap.size + 1) #[.string s, .int .i64 (a7 : Int), .int .i64 ez] rfl rfl 88 #[.string s, .int .i64 (a7 : Int), .int .i64 ee] HGE.out.rd size_rdr rfl (by simp [Value.oneCell']) ?_))
     generalize hWF : World.setRow _ _ _ = WF
     have HFF : Hid (FD w WF s a7 ez #[.string t, .slice bo mm gc, .slice ao j c, .int .i64 (st : Int), .int .i64 (se : Int), .int .i64 (pa : Int)]) := by rw [← hWF]; exact HGE.out.setR a7 ez
     clear hWF HGE HBE
     obtain ⟨f0, f1, f2⟩ := box3 HFF.out.rd
     have hez : ¬ ez = 0 := fun h => h7 (HE7.out.trans (end_0 (HZ.out.trans h)))
     have hezb : (ez != 0) = true := by simpa using hez
     have HEz : Hid _ := hez
     clear hez
     obtain ⟨g0, g1, g2, g3, g4, g5⟩ := jobr_cells HFF.out.res
     have h0 := jrr_froz (o := 0) HFF.out.res
     have h1 := jrr_froz (o := 1) HFF.out.res
     have h2 := jrr_froz (o := 2) HFF.out.res
     have h3 := jrr_froz (o := 3) HFF.out.res
     have h4 := jrr_froz (o := 4) HFF.out.res
     have h5 := jrr_froz (o := 5) HFF.out.res
     go_upto_region 18 with (fail)
     go_region
     generalize hWG : World.drew _ = WG
     obtain ⟨hZG, hBG⟩ := fd_zero HFF.out hWG
     clear hWG g0 g1 g2 g3 g4 g5 h0 h1 h2 h3 h4 h5
     go_wp2
     refine bodyPost_ret (v := .tuple #[.agg #[.string ByteArray.empty, .slice none 0 0, .slice none 0 0, .int .i64 0, .int .i64 0, .int .i64 0], .int .i64 ez]) (res_ctJ Tryz.results16 _ _ w.heap.size 34 _ (0, 0) _ rfl hZG Tryz.underlying34 rfl size_jobR) rfl ?_
     exact ⟨.inr ⟨HEz.out, rfl⟩, hBG⟩
end
end Go.Proofs.YtmgjlamglhpnaaaGreat
