import Derived.Test.YtnhijofnhflklaaGreatRnDec5M
import Derived.Deep.Cut
import Derived.Deep.DeepCutAuto
import Derived.Deep.CutBlock
import Derived.Test.YtnhijofnhflklaaGreatGrTakeM
import Derived.Test.YtnhijofnhflklaaGreatKnAwakeM
import Derived.Laws.Tables
import Derived.Laws.OwnMore
import Derived.Test.YtnhijofnhflklaaGreatRnTurnM
import Derived.Test.YtnhijofnhflklaaGreatKnDegM
section
/- run.Decode: an outcome off bytes. -/
namespace Go.Proofs.YtnhijofnhflklaaGreat
open Go.RowKit
/-- So many values behind others, off bytes. -/
def rdOs (s : ByteArray) : Nat → Nat → Int → List Ed → List Ed × Nat × Int
  | 0, a, e, L => (L, a, e)
  | n + 1, a, e, L => rdOs s n (rdNum s (rdNum s a e).2.1 (rdNum s a e).2.2).2.1 (rdNum s (rdNum s a e).2.1 (rdNum s a e).2.2).2.2 (L ++ [⟨unfoldN (rdNum s a e).1, unfoldN (rdNum s (rdNum s a e).2.1 (rdNum s a e).2.2).1⟩])
theorem rdOs_step {s : ByteArray} {n a n1 a1 n2 a2 : Nat} {e e1 e2 : Int} {L : List Ed} (h1 : rdNum s a e = (n1, a1, e1)) (h2 : rdNum s a1 e1 = (n2, a2, e2)) : rdOs s (n + 1) a e L = rdOs s n a2 e2 (L ++ [⟨unfoldN n1, unfoldN n2⟩]) := by
  show rdOs s n (rdNum s (rdNum s a e).2.1 (rdNum s a e).2.2).2.1 (rdNum s (rdNum s a e).2.1 (rdNum s a e).2.2).2.2 _ = _
  simp only [h1, h2]
theorem r_ct2 {w : World} {p : Nat} {s : ByteArray} {a : Nat} {e : Int} (h : Rd w p s a e) (hs : s.size ≤ maxLen) (ha : a ≤ s.size) {n a' : Nat} {e' : Int} (hq : rdCount s a e 2 = (n, a', e')) :
    Calls Tryz.prog 61 #[.pointer (some ⟨p, 0, none⟩), .int .i64 2] w fun r w' => r = .returned (.int .i64 n) ∧ Rd w' p s a' e' ∧ Fr w w' (fun k => k = p) := by
  have := rcount_any (most := 2) h hs ha (by decide)
  rw [hq] at this
  exact this
theorem r_ct1000 {w : World} {p : Nat} {s : ByteArray} {a : Nat} {e : Int} (h : Rd w p s a e) (hs : s.size ≤ maxLen) (ha : a ≤ s.size) {n a' : Nat} {e' : Int} (hq : rdCount s a e 1000 = (n, a', e')) :
    Calls Tryz.prog 61 #[.pointer (some ⟨p, 0, none⟩), .int .i64 1000] w fun r w' => r = .returned (.int .i64 n) ∧ Rd w' p s a' e' ∧ Fr w w' (fun k => k = p) := by
  have := rcount_any (most := 1000) h hs ha (by decide)
  rw [hq] at this
  exact this
theorem r_ct256 {w : World} {p : Nat} {s : ByteArray} {a : Nat} {e : Int} (h : Rd w p s a e) (hs : s.size ≤ maxLen) (ha : a ≤ s.size) {n a' : Nat} {e' : Int} (hq : rdCount s a e 256 = (n, a', e')) :
    Calls Tryz.prog 61 #[.pointer (some ⟨p, 0, none⟩), .int .i64 256] w fun r w' => r = .returned (.int .i64 n) ∧ Rd w' p s a' e' ∧ Fr w w' (fun k => k = p) := by
  have := rcount_any (most := 256) h hs ha (by decide)
  rw [hq] at this
  exact this
/-- Between two values. -/
structure DL (w wr : World) (p ob rb : Nat) (s : ByteArray) (k er st : Int) (v : Value) (L : List Ed) (x : Nat) (y : Int) : Prop where
  rd : Rd wr p s x y
  box : OcBoxT wr 32 ob #[.int .i64 k, .int .i64 er, .int .i64 st, v]
  res : OcBoxT wr 32 rb #[.int .i64 0, .int .i64 0, .int .i64 0, .slice none 0 0]
  own : KVT wr 101 (ob + 1) v L
  low : Below w.heap.size w wr
  sep : w.heap.size ≤ rb ∧ rb < p ∧ p < ob ∧ ob + 1 ≤ wr.heap.size
set_option maxRecDepth 100000 in
set_option maxHeartbeats 4000000 in
theorem decO_any {w : World} {s : ByteArray} {k er st n a1 a2 a3 a4 a5 : Nat} {e1 e2 e3 e4 e5 : Int} {L : List Ed} (hs : s.size ≤ maxLen)
    (h1 : rdCount s 0 0 2 = (k, a1, e1)) (h2 : rdCount s a1 e1 1000 = (er, a2, e2)) (h3 : rdCount s a2 e2 1000 = (st, a3, e3)) (h4 : rdCount s a3 e3 256 = (n, a4, e4)) (h5 : rdOs s n a4 e4 [] = (L, a5, e5)) :
    Calls Tryz.prog 30 #[.string s] w fun r w' => ((rdEnd s a5 e5 = 0 ∧ ∃ vo vc, r = .returned (.tuple #[.agg #[.int .i64 k, .int .i64 er, .int .i64 st, .slice vo L.length vc], .int .i64 0]) ∧ EdAt w' (fun q => w.heap.size ≤ q) vo L) ∨ (¬ rdEnd s a5 e5 = 0 ∧ r = .returned (.tuple #[.agg #[.int .i64 0, .int .i64 0, .int .i64 0, .slice none 0 0], .int .i64 (rdEnd s a5 e5)]))) ∧ Below w.heap.size w w' := by
  have g1 := rdCount_to (most := 2) (Nat.zero_le _) h1
  have g2 := rdCount_to (most := 1000) g1.1 h2
  have g3 := rdCount_to (most := 1000) g2.1 h3
  have g4 := rdCount_to (most := 256) g3.1 h4
  have hn : n ≤ 256 := g4.2.1
  have H1 : Hid _ := h1
  have H2 : Hid _ := h2
  have H3 : Hid _ := h3
  have H4 : Hid _ := h4
  have H5 : Hid _ := h5
  have G1 : Hid _ := g1.1
  have G2 : Hid _ := g2.1
  have G3 : Hid _ := g3.1
  have G4 : Hid _ := g4.1
  clear h1 h2 h3 h4 h5 g1 g2 g3 g4
  obtain ⟨W0, hW0⟩ : ∃ W0, w.alloc (.cells #[.int .i64 0, .int .i64 0, .int .i64 0, .slice none 0 0] 32) = W0 := ⟨_, rfl⟩
  have hb0 : Below w.heap.size w W0 := by rw [← hW0]; exact one_new _ _
  have hr0 : OcBoxT W0 32 w.heap.size #[.int .i64 0, .int .i64 0, .int .i64 0, .slice none 0 0] := by rw [← hW0]; exact heap_alloc_new _ _
  have hz0 : W0.heap.size = w.heap.size + 1 := by rw [← hW0]; simp
  have HB0 : Hid _ := hb0
  have HR0 : Hid (OcBoxT W0 32 w.heap.size #[.int .i64 0, .int .i64 0, .int .i64 0, .slice none 0 0]) := hr0
  clear hb0 hr0
  have HZ0 : Hid _ := hz0
  clear hz0
  go_enter Tryz.func30, Tryz.ntmps30
  go_upto_region 2 with (go_at_call 23; refine (newreader_any _ _).mono ?_; rintro r w1 ⟨rfl, hr1, hb1⟩)
  have HB1 : Hid _ := hb1
  have HR1 : Hid (Rd w1 W0.heap.size s ((0 : Nat) : Int) 0) := hr1
  have tk1 : Hid True := trivial
  clear hr1 hb1 hW0
  go_upto_region 3 with (go_at_call 61; first
    | (have _t := tk1; refine (r_ct2 HR1.out hs (Nat.zero_le _) H1.out).mono ?_; rintro r w2 ⟨rfl, hr2, hf2⟩; have HR2 : Hid _ := hr2; have HF2 : Hid _ := hf2; clear tk1 hr2 hf2; have tk2 : Hid True := trivial)
    | (have _t := tk2; refine (r_ct1000 HR2.out hs G1.out H2.out).mono ?_; rintro r w3 ⟨rfl, hr3, hf3⟩; have HR3 : Hid _ := hr3; have HF3 : Hid _ := hf3; clear tk2 hr3 hf3)
    | (refine (r_ct1000 HR3.out hs G2.out H3.out).mono ?_; rintro r w4 ⟨rfl, hr4, hf4⟩; have HR4 : Hid _ := hr4; have HF4 : Hid _ := hf4; clear hr4 hf4))
  obtain ⟨p, hp⟩ : ∃ p, W0.heap.size = p := ⟨_, rfl⟩
  rw [hp] at HR4 HF2 HF3 HF4
  have hf4 : Fr w1 w4 (fun k => k = p) := (HF2.out.trans HF3.out (fun _ _ h => h)).trans HF4.out (fun _ _ h => h)
  have hl4 : Below w.heap.size w w4 := (HB0.out.trans (HB1.out.mono HB0.out.size)).trans (hf4.below (HB0.out.trans (HB1.out.mono HB0.out.size)).size (fun q hq => by have := HZ0.out; omega))
  have hr4 : OcBoxT w4 32 w.heap.size #[.int .i64 0, .int .i64 0, .int .i64 0, .slice none 0 0] := oc_fr hf4 (fun e => by have := HZ0.out; omega) (oc_fr (Fr.ofBelow HB1.out (fun _ => False)) (fun h => h) HR0.out)
  have hd4 : Rd w4 p s a3 e3 := HR4.out
  have hp4 : p < w4.heap.size := hd4.lt
  have hp1 : p = w.heap.size + 1 := by rw [← hp]; exact HZ0.out
  generalize hW5 : World.alloc w4 _ = W5
  have hb5 : Below w4.heap.size w4 W5 := by rw [← hW5]; exact one_new _ _
  have ho5 : OcBoxT W5 32 w4.heap.size #[.int .i64 k, .int .i64 er, .int .i64 st, .slice none 0 0] := by rw [← hW5]; exact heap_alloc_new _ _
  have hz5 : W5.heap.size = w4.heap.size + 1 := by rw [← hW5]; simp
  have HD5 : Hid (Rd W5 p s a3 e3) := hd4.below hb5
  have HL5 : Hid (DL w W5 p w4.heap.size w.heap.size s k er st (.slice none 0 0) [] a3 e3) := ⟨hd4.below hb5, ho5, oc_fr (Fr.ofBelow hb5 (fun _ => False)) (fun h => h) hr4, World.ownsRow_nil _ _ _ _, hl4.trans (hb5.mono hl4.size), by omega, by omega, by omega, by omega⟩
  clear hW5 hb5 ho5 hz5 hf4 hl4 hr4 hd4 hp4 hp1 HR1 HR2 HR3 HR4 HF2 HF3 HF4 HB0 HB1 HR0 HZ0 H1 H2 H3 G1 G2
  subst hp
  generalize W0.heap.size = p at *
  generalize w4.heap.size = ob at *
  go_upto_block 0 with (go_at_call 61; refine (r_ct256 HD5.out hs G3.out H4.out).mono ?_; rintro r w6 ⟨rfl, hr6, hf6⟩; have HR6 : Hid (Rd w6 p s a4 e4) := hr6; have HF6 : Hid _ := hf6; clear hr6 hf6)
  have HL6 : Hid (DL w w6 p ob w.heap.size s k er st (.slice none 0 0) [] a4 e4) := by
    have h := HL5.out
    have h1 := h.sep
    exact ⟨HR6.out, oc_fr HF6.out (fun e => by omega) h.box, oc_fr HF6.out (fun e => by omega) h.res, World.ownsRow_nil _ _ _ _, h.low.trans (HF6.out.below h.low.size (fun q hq => by omega)), h1.1, h1.2.1, h1.2.2.1, by have := HF6.out.size; omega⟩
  clear HL5 HD5 HR6 HF6 H4 G3
  go_wp2
  go_loopw [18] (fun i wr => ∃ (j : Nat) (v : Value) (M : List Ed) (x : Nat) (y : Int), j ≤ n ∧ i = .int .i64 j ∧ Hid (rdOs s n a4 e4 [] = rdOs s (n - j) x y M) ∧ Hid (x ≤ s.size ∧ M.length = j) ∧ DL w wr p ob w.heap.size s k er st v M x y) (fun i _ => n - (intOf i).toNat)
  case atStart => exact ⟨0, _, [], a4, e4, Nat.zero_le _, rfl, (rfl : rdOs s n a4 e4 [] = rdOs s (n - 0) a4 e4 []), ⟨G4.out, rfl⟩, HL6.out⟩
  case round =>
    obtain ⟨j, v, M, x, y, hj, rfl, HS, HX, hT⟩ := hrel
    have HT : Hid _ := hT
    clear hT HL6
    by_cases hjn : j < n
    · obtain ⟨⟨n1, x1, y1⟩, q1⟩ : ∃ q, rdNum s x y = q := ⟨_, rfl⟩
      obtain ⟨⟨n2, x2, y2⟩, q2⟩ : ∃ q, rdNum s x1 y1 = q := ⟨_, rfl⟩
      have g1 := rdNum_to HX.out.1 q1
      have g2 := rdNum_to g1.1 q2
      have HN : Hid (rdOs s (n - j) x y M = rdOs s (n - (j + 1)) x2 y2 (M ++ [⟨unfoldN n1, unfoldN n2⟩])) := by
        show _ = _
        rw [show n - j = (n - (j + 1)) + 1 by omega]
        exact rdOs_step q1 q2
      have Q1 : Hid _ := q1
      have Q2 : Hid _ := q2
      have G1 : Hid _ := g1.1
      have G2 : Hid _ := g2.1
      clear q1 q2 g1 g2
      go_upto_region 5 with (fail)
      have hsp := HT.out.sep
      have hov : ∀ q, v.ownBlock = some q → ob + 1 ≤ q ∧ q < wr.heap.size := fun q hq => World.ownsRow.lt HT.out.own q hq
      refine dec_r5 (sv := v) (b0 := .int .i64 k) (b1 := .int .i64 er) (b2 := .int .i64 st) (p := p) (ob := ob) (base := ob + 1) (L := M) rfl rfl rfl HT.out.rd hs HX.out.1 G1.out Q1.out Q2.out (by omega) (fun e => by have := hov _ e; omega) HT.out.box HT.out.own (by omega) (fun e => by have := hov _ e; omega) (by have := HX.out.2; omega) ?_
      intro X W9 ⟨hr9, hk9, hl9, hb9, hf9⟩
      have HL9 : Hid (DL w W9 p ob w.heap.size s k er st (X 28) (M ++ [⟨unfoldN n1, unfoldN n2⟩]) x2 y2) := by
        have h := HT.out
        refine ⟨hr9, hb9, oc_fr hf9 (fun e => ?_) h.res, hk9, h.low.trans (hf9.below h.low.size (fun q hq => ?_)), hsp.1, hsp.2.1, hsp.2.2.1, by have := hf9.size; omega⟩
        · rcases e with e | e | e
          · omega
          · have := hov _ e; omega
          · omega
        · rcases hq with e | e | e
          · omega
          · have := hov _ e; omega
          · omega
      clear hr9 hk9 hl9 hb9 hf9 hov hsp
      simp only [puts]
      simp only [Act.put, List.setIfInBounds_toArray, List.set_cons_succ, List.set_cons_zero, List.set_nil]
      go_wp2
      go_roundw
      case rel => exact ⟨j + 1, _, _, x2, y2, by omega, by go_num, (by show _ = _; rw [HS.out, HN.out]), ⟨G2.out, by rw [List.length_append, HX.out.2]; rfl⟩, HL9.out⟩
      case measure => simp [intOf]; omega
    · obtain rfl : j = n := by omega
      have HE : Hid ((L, a5, e5) = (M, x, y)) := by
        show _ = _
        rw [← H5.out, HS.out, Nat.sub_self]; rfl
      have hE := HE.out
      have hM : L = M ∧ a5 = x ∧ e5 = y := by injection hE with u1 u2; injection u2 with u2 u3; exact ⟨u1, u2, u3⟩
      obtain ⟨rfl, rfl, rfl⟩ := hM
      have hsp := HT.out.sep
      have hov : ∀ q, v.ownBlock = some q → ob + 1 ≤ q ∧ q < wr.heap.size := fun q hq => World.ownsRow.lt HT.out.own q hq
      obtain ⟨vo, vc, rfl⟩ := k_shape HT.out.own
      have hend := rend_any HT.out.rd hs HX.out.1
      clear hE HE HS H5
      by_cases hz : rdEnd s a5 e5 = 0
      · rw [hz] at hend
        have HEn : Hid _ := hend
        clear hend
        go_wp2_with (first
          | (go_at_call 53; refine Calls.mono HEn.out ?_; rintro r w7 ⟨rfl, _, hf7⟩; have HF7 : Hid (Fr wr w7 (fun k => k = p)) := hf7; have HO7 : Hid (OcBoxT w7 32 ob #[.int .i64 k, .int .i64 er, .int .i64 st, .slice vo L.length vc]) := oc_fr hf7 (fun e => by omega) HT.out.box; have HR7 : Hid (OcBoxT w7 32 w.heap.size #[.int .i64 0, .int .i64 0, .int .i64 0, .slice none 0 0]) := oc_fr hf7 (fun e => by omega) HT.out.res; clear hf7)
          | (refine wpList_load_row rfl 32 _ rfl ob rfl 32 #[.int .i64 k, .int .i64 er, .int .i64 st, .slice vo L.length vc] (0, 0) _ HO7.out Tryz.underlying32 rfl size_oc ?_)
          | (refine wpList_store_row rfl 32 _ _ rfl w.heap.size #[.int .i64 k, .int .i64 er, .int .i64 st, .slice vo L.length vc] rfl rfl 32 #[.int .i64 0, .int .i64 0, .int .i64 0, .slice none 0 0] HR7.out size_oc rfl (by simp [Value.oneCell']) ?_))
        refine bodyPost_ret (v := .tuple #[.agg #[.int .i64 k, .int .i64 er, .int .i64 st, .slice vo L.length vc], .int .i64 0]) (res_ctR Tryz.results30 _ _ w.heap.size 32 _ (0, 0) _ rfl (setRow_heap _ _ _ _ _ _ HR7.out) Tryz.underlying32 rfl size_oc) rfl ?_
        have hk7 := k_keep HT.out.own HF7.out (fun q hq e => by have := hov q hq; omega)
        have hk8 := k_keep hk7 (fr_setRow w7 w.heap.size #[.int .i64 k, .int .i64 er, .int .i64 st, .slice vo L.length vc]) (fun q hq e => by have := hov q hq; omega)
        have hl7 : Below w.heap.size w w7 := HT.out.low.trans (HF7.out.below HT.out.low.size (fun q hq => by omega))
        exact ⟨.inl ⟨hz, vo, vc, rfl, (own_eds hk8).2.mono (fun q _ hq => by have := hq.1; omega)⟩, k_setRow hl7 (Nat.le_refl _) _⟩
      · have hzb : (rdEnd s a5 e5 != 0) = true := by simpa using hz
        obtain ⟨ee, HEe⟩ : ∃ ee, Hid (rdEnd s a5 e5 = ee) := ⟨_, rfl⟩
        rw [HEe.out] at hend hz hzb
        have HEn : Hid _ := hend
        clear hend
        go_wp2_with (first
          | (go_at_call 53; refine Calls.mono HEn.out ?_; rintro r w7 ⟨rfl, _, hf7⟩; have HF7 : Hid (Fr wr w7 (fun k => k = p)) := hf7; have HR7 : Hid (OcBoxT w7 32 w.heap.size #[.int .i64 0, .int .i64 0, .int .i64 0, .slice none 0 0]) := oc_fr hf7 (fun e => by omega) HT.out.res; clear hf7)
          | (refine wpList_store_row rfl 32 _ _ rfl w.heap.size #[.int .i64 0, .int .i64 0, .int .i64 0, .slice none 0 0] rfl rfl 32 #[.int .i64 0, .int .i64 0, .int .i64 0, .slice none 0 0] HR7.out size_oc rfl (by simp [Value.oneCell']) ?_))
        refine bodyPost_ret (v := .tuple #[.agg #[.int .i64 0, .int .i64 0, .int .i64 0, .slice none 0 0], .int .i64 ee]) (res_ctR Tryz.results30 _ _ w.heap.size 32 _ (0, 0) _ rfl (setRow_heap _ _ _ _ _ _ HR7.out) Tryz.underlying32 rfl size_oc) rfl ?_
        have hl7 : Below w.heap.size w w7 := HT.out.low.trans (HF7.out.below HT.out.low.size (fun q hq => by omega))
        exact ⟨.inr ⟨by rw [HEe.out]; exact hz, by rw [HEe.out]⟩, k_setRow hl7 (Nat.le_refl _) _⟩
end Go.Proofs.YtnhijofnhflklaaGreat
end

section
/- Numbers at a place in bytes, and what bytes were read as a number. -/
namespace Go.Proofs.YtnhijofnhflklaaGreat
open Go.RowKit
theorem at_drop {l a c : List UInt8} (h : l = a ++ c) : l.drop a.length = c := by rw [h, List.drop_left]
theorem num_at {s : ByteArray} {a c : List UInt8} {n : Nat} (h : s.data.toList = a ++ (numB n ++ c)) (hn : n < 18446744073709551616) : rdNum s a.length 0 = (n, (a ++ numB n).length, 0) := by
  have : pnum (s.data.toList.drop a.length) = (n, (numB n).length, 0) := by rw [at_drop h]; exact pnum_num c hn
  rw [List.length_append]; exact rd_ok this
theorem count_at {s : ByteArray} {a c : List UInt8} {n most : Nat} (h : s.data.toList = a ++ (numB n ++ c)) (hn : n ≤ most) (hm : most < 18446744073709551616) : rdCount s a.length 0 most = (n, (a ++ numB n).length, 0) := by
  have : pnum (s.data.toList.drop a.length) = (n, (numB n).length, 0) := by rw [at_drop h]; exact pnum_num c (by omega)
  rw [List.length_append]
  exact (rd_ok this).trans (if_neg (by omega))
theorem sg_back {k : Int} (h : I64 k) : unfoldN ((foldN k).toNat : Nat) = k := by
  rw [Int.toNat_of_nonneg (fold_bd k h.1 h.2).1, unfold_fold]
theorem rdNum_only {s : ByteArray} {a n a' : Nat} {e : Int} (ha : a ≤ s.size) (h : rdNum s a e = (n, a', 0)) : s.data.toList.drop a = numB n ++ s.data.toList.drop a' := by
  have he := (rdNum_to ha h).2.2 rfl
  subst he
  rcases three s a ha with ⟨m, k, hp, h1, h2, h3, h4⟩ | ⟨m, k, x, hp, hx⟩
  · rw [show rdNum s a 0 = (m, a + k, 0) from rd_ok hp] at h
    simp only [Prod.mk.injEq] at h
    obtain ⟨rfl, rfl, _⟩ := h
    rw [← pnum_only hp, ← List.drop_drop, List.take_append_drop]
  · rw [show rdNum s a 0 = (0, a, (x : Int)) from rd_bad hp hx] at h
    simp only [Prod.mk.injEq] at h
    omega
theorem rdCount_only {s : ByteArray} {a n a' : Nat} {e : Int} {most : Nat} (ha : a ≤ s.size) (h : rdCount s a e most = (n, a', 0)) : s.data.toList.drop a = numB n ++ s.data.toList.drop a' := by
  have he := (rdCount_to ha h).2.2.1 rfl
  subst he
  rcases three s a ha with ⟨m, k, hp, h1, h2, h3, h4⟩ | ⟨m, k, x, hp, hx⟩
  · have hq : rdCount s a 0 most = if (most : Int) < 0 ∨ (most : Int) < m then (0, a, 5) else (m, a + k, 0) := rd_ok hp
    rw [hq] at h
    split at h
    · simp only [Prod.mk.injEq] at h
      omega
    · simp only [Prod.mk.injEq] at h
      obtain ⟨rfl, rfl, _⟩ := h
      rw [← pnum_only hp, ← List.drop_drop, List.take_append_drop]
  · rw [show rdCount s a 0 most = (0, a, (x : Int)) from rd_bad hp hx] at h
    simp only [Prod.mk.injEq] at h
    omega
theorem sg_num {n : Nat} : sgB (unfoldN n) = numB n := by
  unfold sgB; rw [fold_unfold _ (by omega)]; rfl
end Go.Proofs.YtnhijofnhflklaaGreat
end

section
/- An outcome's bytes and back, on plain data. -/
namespace Go.Proofs.YtnhijofnhflklaaGreat
open Go.RowKit
theorem sg_atO {s : ByteArray} {a c : List UInt8} {k : Int} (h : s.data.toList = a ++ (sgB k ++ c)) (hk : I64 k) : ∃ n, rdNum s a.length 0 = (n, (a ++ sgB k).length, 0) ∧ unfoldN (n : Nat) = k := by
  have hb : (foldN k).toNat < 18446744073709551616 := by
    have := fold_bd k hk.1 hk.2
    omega
  exact ⟨(foldN k).toNat, num_at h hb, sg_back hk⟩
theorem os_at : ∀ (M : List Ed) {s : ByteArray} {a c : List UInt8} {L : List Ed}, s.data.toList = a ++ (M.flatMap edB ++ c) → (∀ m ∈ M, m.ok) → rdOs s M.length a.length 0 L = (L ++ M, (a ++ M.flatMap edB).length, 0)
  | [], s, a, c, L, h, _ => by simp [rdOs]
  | m :: M, s, a, c, L, h, hok => by
    have hm := hok m (by simp)
    rw [List.flatMap_cons, show edB m = sgB m.t ++ sgB m.w from rfl] at h
    obtain ⟨n1, h1, u1⟩ := sg_atO (s := s) (a := a) (c := sgB m.w ++ (M.flatMap edB ++ c)) (k := m.t) (by rw [h]; simp only [List.append_assoc]) hm.t
    obtain ⟨n2, h2, u2⟩ := sg_atO (s := s) (a := a ++ sgB m.t) (c := M.flatMap edB ++ c) (k := m.w) (by rw [h]; simp only [List.append_assoc]) hm.w
    rw [List.length_cons, rdOs_step h1 h2, u1, u2]
    have ih := os_at M (s := s) (a := a ++ sgB m.t ++ sgB m.w) (c := c) (L := L ++ [⟨m.t, m.w⟩]) (by rw [h]; simp only [List.append_assoc]) (fun x hx => hok x (by simp [hx]))
    rw [ih, List.flatMap_cons, show edB m = sgB m.t ++ sgB m.w from rfl]
    simp only [List.append_assoc, List.singleton_append]
theorem os_only : ∀ (n : Nat) {s : ByteArray} {a a' : Nat} {e : Int} {L L' : List Ed}, a ≤ s.size → rdOs s n a e L = (L', a', 0) → e = 0 ∧ a' ≤ s.size ∧ ∃ M, L' = L ++ M ∧ M.length = n ∧ (∀ m ∈ M, m.ok) ∧ s.data.toList.drop a = M.flatMap edB ++ s.data.toList.drop a'
  | 0, s, a, a', e, L, L', ha, h => by
    have h' : (L, a, e) = (L', a', (0 : Int)) := h
    injection h' with h1 h2
    injection h2 with h2 h3
    subst h1 h2 h3
    exact ⟨rfl, ha, [], by simp, rfl, fun m hm => (by cases hm), by simp⟩
  | n + 1, s, a, a', e, L, L', ha, h => by
    obtain ⟨⟨n1, x1, y1⟩, q1⟩ : ∃ q, rdNum s a e = q := ⟨_, rfl⟩
    obtain ⟨⟨n2, x2, y2⟩, q2⟩ : ∃ q, rdNum s x1 y1 = q := ⟨_, rfl⟩
    have g1 := rdNum_to ha q1
    have g2 := rdNum_to g1.1 q2
    rw [rdOs_step q1 q2] at h
    obtain ⟨rfl, h2, M, rfl, h4, h5, h6⟩ := os_only n g2.1 h
    obtain rfl := g2.2.2 rfl
    obtain rfl := g1.2.2 rfl
    refine ⟨rfl, h2, ⟨unfoldN n1, unfoldN n2⟩ :: M, by simp, by simp [h4], fun m hm => ?_, ?_⟩
    · rcases List.mem_cons.1 hm with rfl | hm
      · exact ⟨unfold_bd n1 (by omega) (by have := g1.2.1; omega), unfold_bd n2 (by omega) (by have := g2.2.1; omega)⟩
      · exact h5 m hm
    · rw [rdNum_only ha q1, rdNum_only g1.1 q2, h6, List.flatMap_cons, show edB ⟨unfoldN n1, unfoldN n2⟩ = sgB (unfoldN n1) ++ sgB (unfoldN n2) from rfl, sg_num, sg_num]
      simp only [List.append_assoc]
/-- Bytes of an outcome that may be are read back. -/
theorem oc_back {k e st : Nat} {L : List Ed} (hk : k ≤ 2) (he : e ≤ 1000) (hs : st ≤ 1000) (hl : L.length ≤ 256) (hok : ∀ m ∈ L, m.ok) : ∃ a1 a2 a3 a4 a5, rdCount (str (ocB k e st L)) 0 0 2 = (k, a1, 0) ∧ rdCount (str (ocB k e st L)) a1 0 1000 = (e, a2, 0) ∧ rdCount (str (ocB k e st L)) a2 0 1000 = (st, a3, 0) ∧ rdCount (str (ocB k e st L)) a3 0 256 = (L.length, a4, 0) ∧ rdOs (str (ocB k e st L)) L.length a4 0 [] = (L, a5, 0) ∧ rdEnd (str (ocB k e st L)) a5 0 = 0 := by
  have hd : (str (ocB k e st L)).data.toList = ocB k e st L := by simp [str]
  obtain ⟨S, hS⟩ : ∃ S, str (ocB k e st L) = S := ⟨_, rfl⟩
  rw [hS] at hd ⊢
  unfold ocB at hd
  simp only [Int.toNat_natCast] at hd
  refine ⟨_, _, _, _, ([] ++ numB k ++ numB e ++ numB st ++ numB L.length ++ L.flatMap edB).length, count_at (a := []) (c := numB e ++ (numB st ++ (numB L.length ++ L.flatMap edB))) (by rw [hd]; simp only [List.append_assoc, List.nil_append]) hk (by decide), count_at (a := [] ++ numB k) (c := numB st ++ (numB L.length ++ L.flatMap edB)) (by rw [hd]; simp only [List.append_assoc, List.nil_append]) he (by decide), count_at (a := [] ++ numB k ++ numB e) (c := numB L.length ++ L.flatMap edB) (by rw [hd]; simp only [List.append_assoc, List.nil_append]) hs (by decide), count_at (a := [] ++ numB k ++ numB e ++ numB st) (c := L.flatMap edB) (by rw [hd]; simp only [List.append_assoc, List.nil_append]) hl (by decide), ?_⟩
  have h5 := os_at L (s := S) (a := [] ++ numB k ++ numB e ++ numB st ++ numB L.length) (c := []) (L := []) (by rw [hd]; simp only [List.append_assoc, List.nil_append, List.append_nil]) hok
  rw [List.nil_append] at h5
  refine ⟨h5, ?_⟩
  unfold rdEnd
  rw [if_neg]
  rintro ⟨_, h⟩
  have : S.size = S.data.toList.length := Array.length_toList.symm
  rw [this, hd] at h
  simp only [List.length_append, List.nil_append] at h
  omega
/-- What is read as an outcome is its bytes. -/
theorem oc_only {s : ByteArray} {k e st n a1 a2 a3 a4 a5 : Nat} {e1 e2 e3 e4 e5 : Int} {L : List Ed} (h1 : rdCount s 0 0 2 = (k, a1, e1)) (h2 : rdCount s a1 e1 1000 = (e, a2, e2)) (h3 : rdCount s a2 e2 1000 = (st, a3, e3)) (h4 : rdCount s a3 e3 256 = (n, a4, e4)) (h5 : rdOs s n a4 e4 [] = (L, a5, e5)) (h6 : rdEnd s a5 e5 = 0) : str (ocB k e st L) = s ∧ (∀ m ∈ L, m.ok) ∧ L.length ≤ 256 := by
  have g1 := rdCount_to (most := 2) (Nat.zero_le _) h1
  have g2 := rdCount_to (most := 1000) g1.1 h2
  have g3 := rdCount_to (most := 1000) g2.1 h3
  have g4 := rdCount_to (most := 256) g3.1 h4
  have h7 : e5 = 0 ∧ ¬ a5 < s.size := by
    unfold rdEnd at h6
    split at h6
    · exact absurd h6 (by decide)
    · rename_i hn
      exact ⟨h6, fun h => hn ⟨h6, h⟩⟩
  obtain ⟨rfl, h8⟩ := h7
  obtain ⟨rfl, h9, M, rfl, h10, h11, h12⟩ := os_only n g4.1 h5
  obtain rfl := g4.2.2.1 rfl
  obtain rfl := g3.2.2.1 rfl
  obtain rfl := g2.2.2.1 rfl
  have r1 := rdCount_only (Nat.zero_le _) h1
  have r2 := rdCount_only g1.1 h2
  have r3 := rdCount_only g2.1 h3
  have r4 := rdCount_only g3.1 h4
  rw [List.drop_zero] at r1
  have hd : s.data.toList.drop a5 = [] := List.drop_eq_nil_of_le (by have : s.size = s.data.toList.length := Array.length_toList.symm
                                                                     omega)
  rw [hd, List.append_nil] at h12
  rw [r2, r3, r4, h12] at r1
  refine ⟨?_, by simpa using h11, by simp [h10]; exact g4.2.1⟩
  have : str s.data.toList = s := by simp [str]
  rw [← this, r1]
  unfold ocB
  simp only [Int.toNat_natCast, h10, List.append_assoc]
end Go.Proofs.YtnhijofnhflklaaGreat
end

section
/- Step of each of kern's programs is what that program's function does. -/
namespace Go.Proofs.YtnhijofnhflklaaGreat
open Go.RowKit
set_option maxRecDepth 100000 in
set_option maxHeartbeats 1000000 in
theorem kstep_deg {w : World} {cs : Array Value} (hcs : (Tryz.prog.info? 177).map (·.size) = some cs.size) {F : Array Value → World → Nat → Prop} {e : Int} (he : e = 0)
    (hC : ∀ W, Below w.heap.size w W → Calls Tryz.prog 218 #[.agg cs] W fun r w' => ∃ out : Array Value, r = .returned (.agg out) ∧ out.size = 15 ∧ out.all (·.oneCell') = true ∧ out[14]? = some (.int .i64 e) ∧ F out w' W.heap.size ∧ Below W.heap.size W w') (hF : ∀ out w' w'' b b', F out w' b → Fr w' w'' (fun k => k < b) → b' ≤ b → F out w'' b') :
    Calls Tryz.prog 175 #[.string ⟨#[100, 101, 103, 114, 101, 101]⟩, .agg cs] w fun r w' => ∃ out : Array Value, r = .returned (.agg out) ∧ out.size = 15 ∧ out.all (·.oneCell') = true ∧ F out w' w.heap.size ∧ Below w.heap.size w w' := by
  obtain ⟨W0, hW0⟩ : ∃ W0, ((w.alloc (.cells cs 177)).alloc (.cells #[.int .i64 0, .bool false, .slice none 0 0, .slice none 0 0, .bool false, .bool false, .bool false, .bool false, .bool false, .int .i64 0, .int .i64 0, .int .i64 0, .int .i64 0, .int .i64 0, .int .i64 0] 174)).alloc (.cells #[.int .i64 0, .bool false, .slice none 0 0, .slice none 0 0, .bool false, .bool false, .bool false, .bool false, .bool false, .int .i64 0, .int .i64 0, .int .i64 0, .int .i64 0, .int .i64 0, .int .i64 70] 174) = W0 := ⟨_, rfl⟩
  obtain ⟨hIn, hOut, hOwn, hB0, hs0⟩ := three_boxes w _ _ hW0
  have HIn : Hid _ := hIn
  have HOut : Hid _ := hOut
  have HOwn : Hid _ := hOwn
  have HB0 : Hid _ := hB0
  have HS0 : Hid _ := hs0
  have HC : Hid (Calls Tryz.prog 218 #[.agg cs] W0 fun r w' => ∃ out : Array Value, r = .returned (.agg out) ∧ out.size = 15 ∧ out.all (·.oneCell') = true ∧ out[14]? = some (.int .i64 e) ∧ F out w' W0.heap.size ∧ Below W0.heap.size W0 w') := hC W0 hB0
  have HF : Hid _ := hF
  have tk1 : Hid True := trivial
  clear hIn hOut hOwn hB0 hs0 hC hF
  go_enter Tryz.func175, Tryz.ntmps175
  go_upto_region 13 with (first
    | (refine wpList_load_row rfl 177 _ rfl w.heap.size rfl 177 cs (0, 0) _ HIn.out Tryz.underlying177 rfl hcs ?_)
    | (go_at_call 218; refine HC.out.mono ?_; rintro r w1 ⟨out, rfl, h15, h1c, h14, hf, hb1⟩; have H15 : Hid (out.size = 15) := h15; have H1c : Hid (out.all (·.oneCell') = true) := h1c; have H14 : Hid (out[14]? = some (.int .i64 e)) := h14; have Hf : Hid (F out w1 W0.heap.size) := hf; have HO1 : Hid _ := OutBox.new HOut.out hb1; have HW1 : Hid _ := OutBox.new HOwn.out hb1; have HB1 : Hid _ := hb1; clear h15 h1c h14 hf hb1)
    | (have _t := tk1; refine wpList_store_row rfl 174 _ _ rfl (w.heap.size + 2) out rfl rfl 174 #[.int .i64 0, .bool false, .slice none 0 0, .slice none 0 0, .bool false, .bool false, .bool false, .bool false, .bool false, .int .i64 0, .int .i64 0, .int .i64 0, .int .i64 0, .int .i64 0, .int .i64 70] HW1.out (by rw [H15.out]; exact size_out) (by rw [H15.out]; rfl) H1c.out ?_; clear tk1))
  generalize hW : World.setRow _ _ _ = W
  have hO4 : OutBox W (w.heap.size + 2) out := by rw [← hW]; exact setRow_heap _ _ _ _ _ _ HW1.out
  have HO5 : Hid (OutBox W (w.heap.size + 1) #[.int .i64 0, .bool false, .slice none 0 0, .slice none 0 0, .bool false, .bool false, .bool false, .bool false, .bool false, .int .i64 0, .int .i64 0, .int .i64 0, .int .i64 0, .int .i64 0, .int .i64 0]) := by rw [← hW]; exact (setRow_other _ _ _ _ (by omega)).trans HO1.out
  have HB4 : Hid (Below w.heap.size w W) := by rw [← hW]; exact k_setRow (HB0.out.trans (HB1.out.mono HB0.out.size)) (by omega) _
  have HFr : Hid (Fr w1 W (fun k => k < W0.heap.size)) := by rw [← hW]; exact (fr_setRow _ _ _).mono (fun k _ e => by have := HS0.out; omega)
  have q14 : W.cell? ⟨w.heap.size + 2, 14, none⟩ = some (.int .i64 e) := by
    unfold OutBox at hO4
    simp only [World.cell?, hO4]
    exact H14.out
  have HO4 : Hid _ := hO4
  clear hW hO4 HO1 HW1
  subst he
  go_wp2_with (first
    | (refine wpList_load_row rfl 174 _ rfl (w.heap.size + 2) rfl 174 out (0, 0) _ HO4.out Tryz.underlying174 rfl (by rw [H15.out]; exact size_out) ?_)
    | (refine wpList_store_row rfl 174 _ _ rfl (w.heap.size + 1) out rfl rfl 174 #[.int .i64 0, .bool false, .slice none 0 0, .slice none 0 0, .bool false, .bool false, .bool false, .bool false, .bool false, .int .i64 0, .int .i64 0, .int .i64 0, .int .i64 0, .int .i64 0, .int .i64 0] HO5.out (by rw [H15.out]; exact size_out) (by rw [H15.out]; rfl) H1c.out ?_))
  refine bodyPost_ret (v := .agg out) (results_cell_row Tryz.results175 _ _ (w.heap.size + 1) 174 _ (0, 0) _ rfl (setRow_heap _ _ _ _ _ _ HO5.out) Tryz.underlying174 rfl (by rw [H15.out]; exact size_out)) rfl ?_
  exact ⟨out, rfl, H15.out, H1c.out, HF.out _ _ _ _ _ Hf.out (HFr.out.trans ((fr_setRow _ _ _).mono (S := fun k => k = w.heap.size + 1) (T := fun k => k < W0.heap.size) (fun k _ e => by have := HS0.out; omega)) (fun _ _ h => h)) HB0.out.size, k_setRow HB4.out (by omega) _⟩
end Go.Proofs.YtnhijofnhflklaaGreat
end

section
/- more.Step of each program is what that program's function does, or kern's Step. -/
namespace Go.Proofs.YtnhijofnhflklaaGreat
open Go.RowKit
set_option maxRecDepth 100000 in
set_option maxHeartbeats 1000000 in
theorem mstep_deg {w : World} {cs : Array Value} (hcs : (Tryz.prog.info? 177).map (·.size) = some cs.size) {F : Array Value → World → Nat → Prop}
    (hC : ∀ W, Below w.heap.size w W → Calls Tryz.prog 175 #[.string ⟨#[100, 101, 103, 114, 101, 101]⟩, .agg cs] W fun r w' => ∃ out : Array Value, r = .returned (.agg out) ∧ out.size = 15 ∧ out.all (·.oneCell') = true ∧ F out w' W.heap.size ∧ Below W.heap.size W w') (hF : ∀ out w' w'' b b', F out w' b → Fr w' w'' (fun k => k < b) → b' ≤ b → F out w'' b') :
    Calls Tryz.prog 138 #[.string ⟨#[100, 101, 103, 114, 101, 101]⟩, .agg cs] w fun r w' => ∃ out : Array Value, r = .returned (.agg out) ∧ out.size = 15 ∧ out.all (·.oneCell') = true ∧ F out w' w.heap.size ∧ Below w.heap.size w w' := by
  obtain ⟨W0, hW0⟩ : ∃ W0, (w.alloc (.cells cs 177)).alloc (.cells #[.int .i64 0, .bool false, .slice none 0 0, .slice none 0 0, .bool false, .bool false, .bool false, .bool false, .bool false, .int .i64 0, .int .i64 0, .int .i64 0, .int .i64 0, .int .i64 0, .int .i64 0] 174) = W0 := ⟨_, rfl⟩
  obtain ⟨hIn, hOut, hB0, hs0⟩ := two_boxes w _ hW0
  have HIn : Hid _ := hIn
  have HOut : Hid _ := hOut
  have HB0 : Hid _ := hB0
  have HS0 : Hid _ := hs0
  have HC : Hid (Calls Tryz.prog 175 #[.string ⟨#[100, 101, 103, 114, 101, 101]⟩, .agg cs] W0 fun r w' => ∃ out : Array Value, r = .returned (.agg out) ∧ out.size = 15 ∧ out.all (·.oneCell') = true ∧ F out w' W0.heap.size ∧ Below W0.heap.size W0 w') := hC W0 hB0
  have HF : Hid _ := hF
  clear hIn hOut hB0 hs0 hC hF
  go_enter Tryz.func138, Tryz.ntmps138
  go_wp2_with (first
    | (refine wpList_load_row rfl 177 _ rfl w.heap.size rfl 177 cs (0, 0) _ HIn.out Tryz.underlying177 rfl hcs ?_)
    | (go_at_call 175; refine HC.out.mono ?_; rintro r w1 ⟨out, rfl, h15, h1c, hf, hb1⟩; have H15 : Hid (out.size = 15) := h15; have H1c : Hid (out.all (·.oneCell') = true) := h1c; have Hf : Hid (F out w1 W0.heap.size) := hf; have HO1 : Hid _ := OutBox.new HOut.out hb1; have HB1 : Hid _ := hb1; clear h15 h1c hf hb1)
    | (refine wpList_store_row rfl 174 _ _ rfl (w.heap.size + 1) out rfl rfl 174 #[.int .i64 0, .bool false, .slice none 0 0, .slice none 0 0, .bool false, .bool false, .bool false, .bool false, .bool false, .int .i64 0, .int .i64 0, .int .i64 0, .int .i64 0, .int .i64 0, .int .i64 0] HO1.out (by rw [H15.out]; exact size_out) (by rw [H15.out]; rfl) H1c.out ?_))
  refine bodyPost_ret (v := .agg out) (results_cell_row Tryz.results138 _ _ (w.heap.size + 1) 174 _ (0, 0) _ rfl (setRow_heap _ _ _ _ _ _ HO1.out) Tryz.underlying174 rfl (by rw [H15.out]; exact size_out)) rfl ?_
  exact ⟨out, rfl, H15.out, H1c.out, HF.out _ _ _ _ _ Hf.out ((fr_setRow _ _ _).mono (fun k _ e => by have := HS0.out; omega)) HB0.out.size, k_setRow (HB0.out.trans (HB1.out.mono HB0.out.size)) (by omega) _⟩
end Go.Proofs.YtnhijofnhflklaaGreat
end

section
/- degree as a program on plain data; its Step does that. -/
namespace Go.Proofs.YtnhijofnhflklaaGreat
open Go.RowKit
/-- degree, where there is room. -/
def degF : PStep := fun step v l _ _ => if step = 0 then some ⟨v.es.length, true, toL v.id 1 v.es, [], updA (updA (fun _ => none) 0 (some (v.es.length : Int))) 2 (some (v.es.length : Int))⟩ else some ⟨v.val + (sumF 0 (sayL l)).1, true, [], [], fun _ => none⟩
/-- What an Output is, in memory. -/
def OutF (o : POut) (out : Array Value) (w' : World) (b : Nat) : Prop := ∃ so sc ao ac, out = #[.int .i64 o.v, .bool o.halt, .slice so o.sent.length sc, .slice ao o.asked.length ac, .bool (oh o.agg 0), .bool (oh o.agg 1), .bool (oh o.agg 2), .bool (oh o.agg 3), .bool (oh o.agg 4), .int .i64 (ov o.agg 0), .int .i64 (ov o.agg 1), .int .i64 (ov o.agg 2), .int .i64 (ov o.agg 3), .int .i64 (ov o.agg 4), .int .i64 0] ∧ KM w' b (.slice so o.sent.length sc) o.sent ∧ KU w' b (.slice ao o.asked.length ac) o.asked
theorem OutF.low {o : POut} {out : Array Value} {w' w'' : World} {b b' : Nat} (h : OutF o out w' b) (f : Fr w' w'' (fun k => k < b)) (hb : b' ≤ b) : OutF o out w'' b' := by
  obtain ⟨so, sc, ao, ac, h1, h2, h3⟩ := h
  exact ⟨so, sc, ao, ac, h1, k_low (k_fr h2 f (fun k hk e => by omega)) hb, k_low (k_fr h3 f (fun k hk e => by omega)) hb⟩
theorem OutF.size {o : POut} {out : Array Value} {w' : World} {b : Nat} (h : OutF o out w' b) : out.size = 15 ∧ out.all (·.oneCell') = true ∧ out[14]? = some (.int .i64 0) := by
  obtain ⟨so, sc, ao, ac, rfl, _, _⟩ := h
  exact ⟨rfl, by simp [Value.oneCell'], rfl⟩
/-- kern's function does it: so does more.Step. -/
theorem deg_stepC {ps : List Int} {d mny : Int} {bef : Nat → Option Int} {v : Vx} {l : List Msg} {o : POut} (ho : degF d v l bef mny = some o)
    (hC : ∀ (W : World) (eo : Option Addr) (ec : Nat) (ha : Bool) (mo : Option Addr) (mc : Nat) (po : Option Addr) (pn pc : Nat), EdAt W (fun _ => True) eo v.es → MsAt W (fun _ => True) mo l → Calls Tryz.prog 218 #[.agg #[.int .i64 d, .int .i64 v.id, .int .i64 v.val, .slice eo v.es.length ec, .bool ha, .slice mo l.length mc, .bool (oh bef 0), .bool (oh bef 1), .bool (oh bef 2), .bool (oh bef 3), .bool (oh bef 4), .int .i64 (ov bef 0), .int .i64 (ov bef 1), .int .i64 (ov bef 2), .int .i64 (ov bef 3), .int .i64 (ov bef 4), .int .i64 mny, .slice po pn pc]] W fun r w' => ∃ out, r = .returned (.agg out) ∧ OutF o out w' W.heap.size ∧ Below W.heap.size W w') : StepC (.string ⟨#[100, 101, 103, 114, 101, 101]⟩) degF ps d bef mny v l := by
  intro W eo ec ha mo mc po pn pc _ hE hM _
  rw [ho]
  have h := mstep_deg (w := W) (cs := #[.int .i64 d, .int .i64 v.id, .int .i64 v.val, .slice eo v.es.length ec, .bool ha, .slice mo l.length mc, .bool (oh bef 0), .bool (oh bef 1), .bool (oh bef 2), .bool (oh bef 3), .bool (oh bef 4), .int .i64 (ov bef 0), .int .i64 (ov bef 1), .int .i64 (ov bef 2), .int .i64 (ov bef 3), .int .i64 (ov bef 4), .int .i64 mny, .slice po pn pc]) size_in (F := OutF o) (fun W1 hb1 => kstep_deg (w := W1) (cs := #[.int .i64 d, .int .i64 v.id, .int .i64 v.val, .slice eo v.es.length ec, .bool ha, .slice mo l.length mc, .bool (oh bef 0), .bool (oh bef 1), .bool (oh bef 2), .bool (oh bef 3), .bool (oh bef 4), .int .i64 (ov bef 0), .int .i64 (ov bef 1), .int .i64 (ov bef 2), .int .i64 (ov bef 3), .int .i64 (ov bef 4), .int .i64 mny, .slice po pn pc]) size_in (F := OutF o) rfl (fun W2 hb2 => ?_) (fun _ _ _ _ _ h f hb => h.low f hb)) (fun _ _ _ _ _ h f hb => h.low f hb)
  · refine h.mono ?_
    rintro r w' ⟨out, rfl, _, _, ⟨so, sc, ao, ac, rfl, h1, h2⟩, hb⟩
    exact ⟨⟨so, sc, ao, ac, rfl, h1, h2⟩, hb⟩
  · refine (hC W2 eo ec ha mo mc po pn pc ((hE.new hb1).new hb2) ((hM.new hb1).new hb2)).mono ?_
    rintro r w' ⟨out, rfl, hO, hb⟩
    obtain ⟨s1, s2, s3⟩ := hO.size
    exact ⟨out, rfl, s1, s2, s3, hO, hb⟩
theorem deg_0 {ps : List Int} {mny : Int} {bef : Nat → Option Int} {v : Vx} {l : List Msg} (hl : v.es.length ≤ 1048576) : StepC (.string ⟨#[100, 101, 103, 114, 101, 101]⟩) degF ps 0 bef mny v l := by
  refine deg_stepC (o := ⟨v.es.length, true, toL v.id 1 v.es, [], updA (updA (fun _ => none) 0 (some (v.es.length : Int))) 2 (some (v.es.length : Int))⟩) (by unfold degF; rw [if_pos rfl]) ?_
  intro W eo ec ha mo mc po pn pc hE hM
  refine (degrees_0 v.es rfl rfl hE hl).mono ?_
  rintro r w' ⟨ao1, c1, rfl, hK, hb⟩
  refine ⟨_, rfl, ⟨ao1, c1, none, 0, ?_, ?_, World.ownsRow_nil _ _ _ _⟩, hb⟩
  · show _ = #[_, _, Value.slice ao1 (toL v.id 1 v.es).length c1, _, _, _, _, _, _, _, _, _, _, _, _]
    rw [toL_len]
    rfl
  · show KM _ _ (.slice ao1 (toL v.id 1 v.es).length c1) _
    rw [toL_len]
    exact hK
theorem deg_1 {ps : List Int} {d mny : Int} {bef : Nat → Option Int} {v : Vx} {l : List Msg} (hd : ¬ d = 0) (hok : ∀ m ∈ l, m.ok) (hl : l.length ≤ 1048576) (hva : I64 v.val) {s : Int} (hs : sumF 0 (sayL l) = (s, 0)) (hsv : I64 s) (hv1 : hv (v.val + s) = v.val + s) (hv0 : he (v.val + s) = 0) : StepC (.string ⟨#[100, 101, 103, 114, 101, 101]⟩) degF ps d bef mny v l := by
  refine deg_stepC (o := ⟨v.val + s, true, [], [], fun _ => none⟩) (by unfold degF; rw [if_neg hd, hs]) ?_
  intro W eo ec ha mo mc po pn pc hE hM
  refine (degrees_1 l hd rfl hM hok hl hva hs hsv hv1 hv0).mono ?_
  rintro r w' ⟨rfl, hb⟩
  exact ⟨_, rfl, ⟨none, 0, none, 0, rfl, World.ownsRow_nil _ _ _ _, World.ownsRow_nil _ _ _ _⟩, hb⟩
set_option maxRecDepth 100000 in
theorem combiner_deg (W : World) : Calls Tryz.prog 136 #[.string ⟨#[100, 101, 103, 114, 101, 101]⟩] W fun r w' => r = .returned (.int .i64 1) ∧ w' = W := by
  go_enter Tryz.func136, Tryz.ntmps136
  go_wp2
  go_ret
  exact ⟨rfl, rfl⟩
end Go.Proofs.YtnhijofnhflklaaGreat
end
