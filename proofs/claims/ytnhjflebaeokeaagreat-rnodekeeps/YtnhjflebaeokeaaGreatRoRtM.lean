import Derived.Test.YtnhjflebaeokeaaGreatRoTbM
import Derived.Test.YtnhjflebaeokeaaGreatRoPutM
section
/- rnode.takeRecord: the bytes of a record are read. -/
namespace Go.Proofs.YtnhjflebaeokeaaGreat
open Go.RowKit
attribute [local go_sem] Oper.semAt_some
theorem enc_take : ∀ (L : List Ent) (k : Nat), (L.flatMap enc).take (k * 2) = (L.take k).flatMap enc
  | [], k => by simp
  | e :: L, 0 => by simp
  | e :: L, k + 1 => by
    rw [List.flatMap_cons, List.take_succ_cons, List.flatMap_cons, ← enc_take L k]
    show List.take ((k + 1) * 2) ([.int .i64 e.v, .string e.s] ++ L.flatMap enc) = [.int .i64 e.v, .string e.s] ++ _
    rw [show (k + 1) * 2 = k * 2 + 1 + 1 by omega]
    rfl
theorem EnO.cut {w : World} {B n cap k : Nat} {ao : Option Addr} {L : List Ent} (h : EnO w B (.slice ao n cap) L) (hk : k ≤ L.length) : EnO w B (.slice ao k cap) (L.take k) := by
  have hl : (L.take k).length = k := by rw [List.length_take]; omega
  refine ⟨?_, ?_⟩
  · have := enc_len (L.take k)
    simpa using this
  · rcases h.2 with ⟨e, h0⟩ | ⟨g, c, cur, e, h3, h4, h5, h6, h7⟩
    · left
      injection e with e1 e2 e3
      subst e1 e3
      have : k = 0 := by omega
      subst this
      exact ⟨rfl, by simp⟩
    · right
      injection e with e1 e2 e3
      subst e1 e2 e3
      refine ⟨g, cap, cur, by rw [hl], h3, h4, by omega, h6, h7.1, ?_⟩
      rw [hl, ← enc_take L k, ← h7.2, List.take_take]
      congr 1
      omega
/-- While a record is read: the reader, the result's block, the box of what is kept. -/
structure TR (w W : World) (p r q : Nat) (lv0 : Value) (s : ByteArray) (a : Nat) (e : Int) (cs : Array Value) : Prop where
  rd : Rd W p s a e
  res : W.heap[r]? = some (.cells #[.int .i64 0, .int .i64 0, .int .i64 0, .int .i64 0, .string (str []), .slice none 0 0] 66 (0, 0))
  box : W.heap[q]? = some (.cells cs 66 (0, 0))
  fr : Fr w W (fun k => lv0.ownBlock = some k)
  wq : w.heap.size = q
  qr : q < r
  rp : r < p
section
variable {w W W' : World} {p r q : Nat} {lv0 : Value} {s : ByteArray} {a a' : Nat} {e e' : Int} {cs : Array Value}
theorem TR.read (h : TR w W p r q lv0 s a e cs) (hr : Rd W' p s a' e') (f : Fr W W' (fun k => k = p)) : TR w W' p r q lv0 s a' e' cs := by
  have h1 := h.wq
  have h2 := h.qr
  have h3 := h.rp
  exact ⟨hr, (f.block r (vlt_blk h.res) (by omega)).trans h.res, (f.block q (vlt_blk h.box) (by omega)).trans h.box, h.fr.trans f (fun k hk e => by omega), h1, h2, h3⟩
theorem TR.set (h : TR w W p r q lv0 s a e cs) (i : Nat) (v : Value) : TR w (W.setCell ⟨q, i, none⟩ v) p r q lv0 s a e (cs.setIfInBounds i v) := by
  have h1 := h.wq
  have h2 := h.qr
  have h3 := h.rp
  have f : Fr W (W.setCell ⟨q, i, none⟩ v) (fun k => k = q) := Fr.setCell (S := fun k => k = q) _ ⟨q, i, none⟩ _ rfl
  exact ⟨(f.block p (vlt_blk h.rd) (by omega)).trans h.rd, (f.block r (vlt_blk h.res) (by omega)).trans h.res, vblk_set v h.box, h.fr.trans f (fun k hk e => by omega), h1, h2, h3⟩
theorem TR.new (h : TR w W p r q lv0 s a e cs) (hb : Below W.heap.size W W') : TR w W' p r q lv0 s a e cs :=
  ⟨(hb.block p (vlt_blk h.rd)).trans h.rd, (hb.block r (vlt_blk h.res)).trans h.res, (hb.block q (vlt_blk h.box)).trans h.box, h.fr.trans (Fr.ofBelow hb (fun _ => False)) (fun _ _ h => h.elim), h.wq, h.qr, h.rp⟩
theorem TR.kept (h : TR w W p r q lv0 s a e cs) {v : Value} (f : Fr W W' (fun k => v.ownBlock = some k)) (hv : ∀ k, v.ownBlock = some k → k ≠ q ∧ k ≠ r ∧ k ≠ p ∧ (lv0.ownBlock = some k ∨ w.heap.size ≤ k)) : TR w W' p r q lv0 s a e cs := by
  refine ⟨(f.block p (vlt_blk h.rd) (fun e => (hv p e).2.2.1 rfl)).trans h.rd, (f.block r (vlt_blk h.res) (fun e => (hv r e).2.1 rfl)).trans h.res, (f.block q (vlt_blk h.box) (fun e => (hv q e).1 rfl)).trans h.box, h.fr.trans f (fun k hk e => ?_), h.wq, h.qr, h.rp⟩
  rcases (hv k e).2.2.2 with h | h
  · exact h
  · omega
end
set_option linter.unusedSimpArgs false in
set_option maxRecDepth 100000 in
set_option maxHeartbeats 4000000 in
theorem takeRec_ok {w : World} {B n0 n1 fm c a0 a1 a2 a3 aF : Nat} {e0 e1 e2 e3 eF : Int} {s : ByteArray} {R : List Ent} {lv0 : Value} (h : Hd) (hb0 : 0 ≤ h.bi) (hb1 : h.bi ≤ 2147483647) (hlen : h.log.length ≤ 1000) (hE : EnO w B lv0 h.log) (hs : s.size ≤ maxLen)
    (h0 : rdCount s 0 0 2147483647 = (n0, a0, e0)) (h1 : rdCount s a0 e0 2147483647 = (n1, a1, e1)) (h2 : rdCount s a1 e1 9223372036854775807 = (fm, a2, e2)) (hf1 : h.bi ≤ fm) (hf2 : (fm : Int) ≤ h.bi + h.log.length) (h3 : rdCount s a2 e2 1000 = (c, a3, e3)) (hF : rdVE s c a3 e3 (h.log.take (fm - h.bi.toNat)) = (R, aF, eF)) :
    Calls Tryz.prog 86 #[hdV h lv0, .string s] w fun r w' => ∃ v, r = .returned (.tuple #[hdV ⟨n0, n1, h.bi, h.bv, h.base, R⟩ v, .bool (rdEnd s aF eF == 0)]) ∧ EnO w' 0 v R ∧ (∀ k, v.ownBlock = some k → lv0.ownBlock = some k ∨ w.heap.size ≤ k) ∧ Fr w w' (fun k => lv0.ownBlock = some k) := by
  have G0 := (rdCount_to (most := 2147483647) (Nat.zero_le _) h0).1
  have G1 := (rdCount_to (most := 2147483647) G0 h1).1
  have G2 := (rdCount_to (most := 9223372036854775807) G1 h2).1
  have G3 := rdCount_to (most := 1000) G2 h3
  have HG : Hid (a0 ≤ s.size ∧ a1 ≤ s.size ∧ a2 ≤ s.size ∧ a3 ≤ s.size ∧ c ≤ 1000) := ⟨G0, G1, G2, G3.1, by have := G3.2.1; omega⟩
  have HGF : Hid (aF ≤ s.size) := vRd_le hF G3.1
  have H0 : Hid (rdCount s 0 0 2147483647 = (n0, a0, e0)) := h0
  have H1 : Hid (rdCount s a0 e0 2147483647 = (n1, a1, e1)) := h1
  have H2 : Hid (rdCount s a1 e1 9223372036854775807 = (fm, a2, e2)) := h2
  have H3 : Hid (rdCount s a2 e2 1000 = (c, a3, e3)) := h3
  have HS : Hid (s.size ≤ maxLen) := hs
  obtain ⟨vw, nm, bi, bv, base, L⟩ := h
  simp only at hb0 hb1 hlen hE hf1 hf2 hF
  simp only [hdV]
  obtain ⟨ao, cap, rfl, hcap, -⟩ := hE.shape
  obtain ⟨n, hn⟩ : ∃ n, L.length = n := ⟨_, rfl⟩
  have HN : Hid (L.length = n) := hn
  have HE : Hid (EnO w B (.slice ao n cap) L) := by rw [hn] at hE; exact hE
  have hao : (ao = none ∧ cap = 0) ∨ ∃ g, ao = some ⟨g, 0, none⟩ := by
    rcases hE.2 with ⟨e, -⟩ | ⟨g, cap', cur, e, -⟩
    · injection e with e1 e2 e3
      exact .inl ⟨e1, e3⟩
    · injection e with e1 e2 e3
      exact .inr ⟨g, e1⟩
  have HAo : Hid _ := hao
  clear hao
  rw [hn] at hlen hcap hf2 ⊢
  have HFF : Hid (rdVE s c a3 e3 (L.take (fm - bi.toNat)) = (R, aF, eF)) := hF
  obtain ⟨z, hz⟩ : ∃ z, rdEnd s aF eF = z := ⟨_, rfl⟩
  have HZE : Hid (rdEnd s aF eF = z) := hz
  rw [hz]
  clear h0 h1 h2 h3 hs hE hF hz hn G0 G1 G2 G3
  go_enter Tryz.func86, Tryz.ntmps86
  go_upto_region 1 with (fail)
  generalize hW : World.alloc _ _ = W
  have hZq : W.heap[w.heap.size]? = some (.cells #[.int .i64 vw, .int .i64 nm, .int .i64 bi, .int .i64 bv, .string base, .slice ao n cap] 66 (0, 0)) := by rw [← hW]; exact (heap_alloc_old _ _ (by simp)).trans (heap_alloc_new _ _)
  have hZr : W.heap[w.heap.size + 1]? = some (.cells #[.int .i64 0, .int .i64 0, .int .i64 0, .int .i64 0, .string (str []), .slice none 0 0] 66 (0, 0)) := by
    rw [← hW]
    have := heap_alloc_new (w.alloc (.cells #[.int .i64 vw, .int .i64 nm, .int .i64 bi, .int .i64 bv, .string base, .slice ao n cap] 66)) (.cells #[.int .i64 0, .int .i64 0, .int .i64 0, .int .i64 0, .string (str []), .slice none 0 0] 66)
    rw [World.size_alloc] at this
    exact this
  have hbW : Below w.heap.size w W := by rw [← hW]; exact (vone_new _ _).trans ((vone_new _ _).mono (by simp))
  obtain ⟨q, hq⟩ : ∃ q, w.heap.size = q := ⟨_, rfl⟩
  have HQ : Hid (w.heap.size = q) := hq
  rw [hq] at hZq hZr ⊢
  obtain ⟨r, hr⟩ : ∃ r, q + 1 = r := ⟨_, rfl⟩
  have HRq : Hid (q + 1 = r) := hr
  rw [hr] at hZr ⊢
  have HZq : Hid _ := hZq
  have HZr : Hid _ := hZr
  have HBW : Hid (Below w.heap.size w W) := hbW
  clear hW hZq hZr hbW hq hr
  go_upto_region 2 with (go_at_call 118; refine (newreader_any s _).mono ?_; rintro rr w1 ⟨rfl, hr1, hb1⟩)
  obtain ⟨p, hp⟩ : ∃ p, W.heap.size = p := ⟨_, rfl⟩
  have T1 : Hid (TR w w1 p r q (.slice ao n cap) s 0 0 #[.int .i64 vw, .int .i64 nm, .int .i64 bi, .int .i64 bv, .string base, .slice ao n cap]) := by
    have l1 := vlt_blk HZr.out
    refine ⟨by rw [← hp]; exact hr1, (hb1.block r l1).trans HZr.out, (hb1.block q (vlt_blk HZq.out)).trans HZq.out, ?_, HQ.out, by have := HRq.out; omega, by omega⟩
    exact Fr.ofBelow (HBW.out.trans (hb1.mono HBW.out.size)) _
  rw [hp] at ⊢
  have HPW : Hid (W.heap.size = p) := hp
  have HOw : Hid (∀ k, (Value.slice ao n cap).ownBlock = some k → k ≠ q ∧ k ≠ r ∧ k ≠ p ∧ ((Value.slice ao n cap).ownBlock = some k ∨ w.heap.size ≤ k)) := fun k hk => by
    obtain ⟨_, c', f', hm⟩ := vrow_tag HE.out hk
    have l1 := vlt_blk hm
    have := HQ.out
    have := HRq.out
    have := T1.out.rp
    exact ⟨by omega, by omega, by omega, .inl hk⟩
  have E1 : Hid (EnO w1 B (.slice ao n cap) L) := (HE.out.new HBW.out).new hb1
  clear hr1 hb1 hp
  obtain ⟨x0, x1, x2, x3, x4, x5⟩ := hbox6 T1.out.box
  have f0 := vfree T1.out.box 0
  have f1 := vfree T1.out.box 1
  have tk1 : Hid True := trivial
  go_upto_region 3 with (go_at_call 119; first
    | (have _t := tk1; refine (rct_most T1.out.rd HS.out (Nat.zero_le _) H0.out).mono ?_; rintro rr w2 ⟨rfl, hr2, hf2⟩; have T2 : Hid (TR w w2 p r q (.slice ao n cap) s a0 e0 #[.int .i64 vw, .int .i64 nm, .int .i64 bi, .int .i64 bv, .string base, .slice ao n cap]) := T1.out.read hr2 hf2; have E2 : Hid (EnO w2 B (.slice ao n cap) L) := E1.out.kept hf2 (fun k hk e => (HOw.out k hk).2.2.1 e); clear hr2 hf2 tk1)
    | (refine (rct_most T2.out.rd HS.out HG.out.1 H1.out).mono ?_; rintro rr w3 ⟨rfl, hr3, hf3⟩; have T3 : Hid (TR w w3 p r q (.slice ao n cap) s a1 e1 #[.int .i64 vw, .int .i64 nm, .int .i64 bi, .int .i64 bv, .string base, .slice ao n cap]) := T2.out.read hr3 hf3; obtain ⟨u0, u1, u2, u3, u4, u5⟩ := hbox6 T3.out.box; have g0 := vfree T3.out.box 0; have g1 := vfree T3.out.box 1; have E3 : Hid (EnO w3 B (.slice ao n cap) L) := E2.out.kept hf3 (fun k hk e => (HOw.out k hk).2.2.1 e); clear hr3 hf3))
  generalize hW4 : World.setCell _ _ _ = W4
  have T4 : Hid (TR w W4 p r q (.slice ao n cap) s a1 e1 #[.int .i64 (n0 : Int), .int .i64 (n1 : Int), .int .i64 bi, .int .i64 bv, .string base, .slice ao n cap]) := by rw [← hW4]; exact (T3.out.set 0 _).set 1 _
  have E4 : Hid (EnO W4 B (.slice ao n cap) L) := by
    rw [← hW4]
    have k1 := E3.out.kept (Fr.setCell (S := fun k => k = q) _ ⟨q, 0, none⟩ (.int .i64 (n0 : Int)) rfl) (fun k hk e => (HOw.out k hk).1 e)
    exact k1.kept (Fr.setCell (S := fun k => k = q) _ ⟨q, 1, none⟩ _ rfl) (fun k hk e => (HOw.out k hk).1 e)
  clear hW4 T1 T2 T3 E1 E2 E3 x0 x1 x2 x3 x4 x5 f0 f1 u0 u1 u2 u3 u4 u5 g0 g1
  have HCt : Hid (Calls Tryz.prog 119 #[.pointer (some ⟨p, 0, none⟩), .int .i64 9223372036854775807] W4 fun r w' => r = .returned (.int .i64 fm) ∧ Rd w' p s a2 e2 ∧ Fr W4 w' (fun k => k = p)) := by
    have := rcount_any (most := 9223372036854775807) T4.out.rd HS.out HG.out.2.1 (by decide)
    rw [H2.out] at this
    exact this
  go_upto_region 4 with (go_at_call 119; refine HCt.out.mono ?_; rintro rr w5 ⟨rfl, hr5, hf5⟩; have T5 : Hid (TR w w5 p r q (.slice ao n cap) s a2 e2 #[.int .i64 (n0 : Int), .int .i64 (n1 : Int), .int .i64 bi, .int .i64 bv, .string base, .slice ao n cap]) := T4.out.read hr5 hf5; have E5 : Hid (EnO w5 B (.slice ao n cap) L) := E4.out.kept hf5 (fun k hk e => (HOw.out k hk).2.2.1 e); clear hr5 hf5)
  obtain ⟨x0, x1, x2, x3, x4, x5⟩ := hbox6 T5.out.box
  have f5 := vfree T5.out.box 5
  obtain ⟨m, hm⟩ : ∃ m : Nat, fm - bi.toNat = m := ⟨_, rfl⟩
  have hmI : (fm : Int) - bi = m := by omega
  have hmn : m ≤ n := by omega
  have hmc : (m : Int) ≤ cap := by omega
  have hm0 : (0 : Int) ≤ m := by omega
  rw [hm] at HFF
  have HEc : Hid (EnO w5 B (.slice ao m cap) (L.take m)) := E5.out.cut (by have := HN.out; omega)
  clear hm HCt T4 E4
  have HOm : Hid (∀ k, (Value.slice ao m cap).ownBlock = some k → k ≠ q ∧ k ≠ r ∧ k ≠ p ∧ ((Value.slice ao n cap).ownBlock = some k ∨ w.heap.size ≤ k)) := fun k hk => HOw.out k (by cases ao with | none => cases hk | some a => exact hk)
  have k1 : ¬ (fm : Int) < bi := by omega
  have k2 : ¬ bi + (n : Int) < fm := by omega
  have k3 : (fm : Int) ≤ bi + n := by omega
  have k4 : bi ≤ (fm : Int) := by omega
  go_upto_region 6 with (fail)
  go_cut [] (fun wx => TR w wx p r q (.slice ao n cap) s a2 e2 #[.int .i64 (n0 : Int), .int .i64 (n1 : Int), .int .i64 bi, .int .i64 bv, .string base, .slice ao m cap] ∧ EnO wx B (.slice ao m cap) (L.take m))
  case first =>
    rcases HAo.out with ⟨rfl, rfl⟩ | ⟨g, rfl⟩
    · have hm' : m = 0 := by omega
      have hn' : n = 0 := by omega
      subst hm'
      subst hn'
      go_wp2
      go_meet
      exact ⟨T5.out.set 5 _, HEc.out.kept (Fr.setCell (S := fun k => k = q) _ ⟨q, 5, none⟩ _ rfl) (fun k hk e => (HOm.out k hk).1 e)⟩
    · by_cases hc0 : cap = 0
      · have hm' : m = 0 := by omega
        have hn' : n = 0 := by omega
        subst hc0
        subst hm'
        subst hn'
        go_wp2
        go_meet
        exact ⟨T5.out.set 5 _, HEc.out.kept (Fr.setCell (S := fun k => k = q) _ ⟨q, 5, none⟩ _ rfl) (fun k hk e => (HOm.out k hk).1 e)⟩
      · go_wp2
        go_meet
        exact ⟨T5.out.set 5 _, HEc.out.kept (Fr.setCell (S := fun k => k = q) _ ⟨q, 5, none⟩ _ rfl) (fun k hk e => (HOm.out k hk).1 e)⟩
  case rest =>
    obtain ⟨hT, hE6⟩ := hcut
    have TA : Hid (TR w wc p r q (.slice ao n cap) s a2 e2 #[.int .i64 (n0 : Int), .int .i64 (n1 : Int), .int .i64 bi, .int .i64 bv, .string base, .slice ao m cap]) := hT
    have EA : Hid (EnO wc B (.slice ao m cap) (L.take m)) := hE6
    clear hT hE6 HEc E5 T5 x0 x1 x2 x3 x4 x5 f5 k1 k2 k3 k4 hmI hmc hm0
    have HLm : Hid ((L.take m).length = m) := by show _ = _; rw [List.length_take]; have := HN.out; omega
    obtain ⟨X, hX⟩ : ∃ X, L.take m = X := ⟨_, rfl⟩
    rw [hX] at EA HFF HLm
    clear hX
    go_upto_block 0 with (go_at_call 119; refine (rct_k TA.out.rd HS.out HG.out.2.2.1 H3.out).mono ?_; rintro rr w6 ⟨rfl, hr6, hf6⟩; have TB : Hid (TR w w6 p r q (.slice ao n cap) s a3 e3 #[.int .i64 (n0 : Int), .int .i64 (n1 : Int), .int .i64 bi, .int .i64 bv, .string base, .slice ao m cap]) := TA.out.read hr6 hf6; have EB : Hid (EnO w6 0 (.slice ao m cap) X) := (EA.out.kept hf6 (fun k hk e => (HOm.out k hk).2.2.1 e)).low (Nat.zero_le _); clear hr6 hf6)
    clear TA EA
    go_cut [43] (fun _ wx => ∃ v, TR w wx p r q (.slice ao n cap) s aF eF #[.int .i64 (n0 : Int), .int .i64 (n1 : Int), .int .i64 bi, .int .i64 bv, .string base, v] ∧ EnO wx 0 v R ∧ ∀ k, v.ownBlock = some k → k ≠ q ∧ k ≠ r ∧ k ≠ p ∧ ((Value.slice ao n cap).ownBlock = some k ∨ w.heap.size ≤ k))
    case first =>
      go_wp2
      go_loopw [43] (fun i wr => ∃ (j aa : Nat) (ee : Int) (v : Value) (L0 : List Ent), j ≤ c ∧ i = .int .i64 j ∧ TR w wr p r q (.slice ao n cap) s aa ee #[.int .i64 (n0 : Int), .int .i64 (n1 : Int), .int .i64 bi, .int .i64 bv, .string base, v] ∧ EnO wr 0 v L0 ∧ (∀ k, v.ownBlock = some k → k ≠ q ∧ k ≠ r ∧ k ≠ p ∧ ((Value.slice ao n cap).ownBlock = some k ∨ w.heap.size ≤ k)) ∧ rdVE s (c - j) aa ee L0 = (R, aF, eF) ∧ aa ≤ s.size ∧ L0.length = m + j) (fun i _ => c - (intOf i).toNat)
      case atStart => exact ⟨0, a3, e3, _, X, Nat.zero_le _, rfl, TB.out, EB.out, HOm.out, HFF.out, HG.out.2.2.2.1, HLm.out⟩
      case round =>
        obtain ⟨j, aa, ee, v, L0, hj, rfl, hT, hE, hO, hV, hA, hl⟩ := hrel
        by_cases hlt : j < c
        · obtain ⟨vo, vc, rfl, -, -⟩ := hE.shape
          obtain ⟨m0, hm0⟩ : ∃ m0, m + j = m0 := ⟨_, rfl⟩
          rw [hm0] at hl
          rw [hl] at hT hE hO
          obtain ⟨⟨m1, b1, d1⟩, g1⟩ : ∃ z, rdCount s aa ee 2147483647 = z := ⟨_, rfl⟩
          obtain ⟨⟨m2, b2, d2⟩, g2⟩ : ∃ z, rdText s b1 d1 = z := ⟨_, rfl⟩
          have hb1 := (rdCount_to (most := 2147483647) hA g1).1
          have hb2 := rdText_leV hb1 g2
          have HV2 : Hid (rdVE s (c - (j + 1)) b2 d2 (L0 ++ [okE m1 m2 d2]) = (R, aF, eF)) := by
            show _ = _
            rw [← hV, show c - j = (c - (j + 1)) + 1 by omega, rdVE_step g1 g2]
          have HTk : Hid (∀ W, Rd W p s aa ee → Calls Tryz.prog 123 #[.pointer (some ⟨p, 0, none⟩)] W fun r w' => r = .returned (.agg #[.int .i64 (okE m1 m2 d2).v, .string (okE m1 m2 d2).s]) ∧ Rd w' p s b2 d2 ∧ Fr W w' (fun k => k = p)) := fun W h => takeE_any h HS.out hA g1 g2
          generalize okE m1 m2 d2 = y at HV2 HTk
          have HJ : Hid (j + 1 ≤ c) := hlt
          have hcI : (c : Int) ≤ 1000 := by have := HG.out.2.2.2.2; omega
          have hjI : (j : Int) < c := by omega
          have hj0 : (0 : Int) ≤ j := by omega
          have HT : Hid (TR w wr p r q (.slice ao n cap) s aa ee #[.int .i64 (n0 : Int), .int .i64 (n1 : Int), .int .i64 bi, .int .i64 bv, .string base, .slice vo m0 vc]) := hT
          have HE' : Hid (EnO wr 0 (.slice vo m0 vc) L0) := hE
          have HO : Hid (∀ k, (Value.slice vo m0 vc).ownBlock = some k → k ≠ q ∧ k ≠ r ∧ k ≠ p ∧ ((Value.slice ao n cap).ownBlock = some k ∨ w.heap.size ≤ k)) := hO
          have HB2 : Hid (b2 ≤ s.size) := hb2
          have HL0 : Hid (L0.length = m0 ∧ m + j = m0 ∧ m0 ≤ 3000) := ⟨hl, hm0, by have := HG.out.2.2.2.2; omega⟩
          clear hT hE hO hV hA hb1 hb2 g1 g2 hl hm0
          go_upto_region 9 with (fail)
          obtain ⟨Wd, hWd⟩ : ∃ Wd, wr.drew = Wd := ⟨_, rfl⟩
          have bd : Below wr.heap.size wr Wd := by rw [← hWd]; exact Below.drew (Below.refl _ _)
          have TD : Hid (TR w Wd p r q (.slice ao n cap) s aa ee #[.int .i64 (n0 : Int), .int .i64 (n1 : Int), .int .i64 bi, .int .i64 bv, .string base, .slice vo m0 vc]) := HT.out.new bd
          have ED : Hid (EnO Wd 0 (.slice vo m0 vc) L0) := HE'.out.new bd
          obtain ⟨_, _, _, _, _, x5⟩ := hbox6 TD.out.box
          clear bd HT HE'
          refine wp_calmV ?_
          refine wp_region_L [7] (fun w' : World => w'.cell? ⟨q, 5, none⟩ = some (.slice vo m0 vc)) (by kernel_rfl) ?_
          rw [hWd]
          clear hWd
          have hS : (fun w' : World => w'.cell? ⟨q, 5, none⟩ = some (.slice vo m0 vc)) Wd := x5
          refine wpAnyL_take (i := 0) 45 (v := .pointer (some ⟨q, 5, none⟩)) rfl rfl (by kernel_rfl) (by kernel_rfl) (by kernel_rfl) (by kernel_rfl) (by kernel_rfl) (by kernel_rfl) (fun _ _ _ h => h) hS (by rfl) (by intro w' hSw; have y0 := hSw; go_simp <;> with_reducible rfl) ?_
          simp only [Act.put, List.setIfInBounds_toArray, List.set_cons_zero, List.set_cons_succ]
          refine wpAnyL_take (i := 1) 46 (v := .slice vo m0 vc) rfl rfl (by kernel_rfl) (by kernel_rfl) (by kernel_rfl) (by kernel_rfl) (by kernel_rfl) (by kernel_rfl) (fun _ _ _ h => h) hS (by rfl) (by intro w' hSw; have y0 := hSw; go_simp <;> with_reducible rfl) ?_
          simp only [Act.put, List.setIfInBounds_toArray, List.set_cons_zero, List.set_cons_succ]
          refine wpAnyL_take (i := 2) 47 (v := .pointer (some ⟨p, 0, none⟩)) rfl rfl (by kernel_rfl) (by kernel_rfl) (by kernel_rfl) (by kernel_rfl) (by kernel_rfl) (by kernel_rfl) (fun _ _ _ h => h) hS (by rfl) (by intro w' hSw; have y0 := hSw; go_simp <;> with_reducible rfl) ?_
          simp only [Act.put, List.setIfInBounds_toArray, List.set_cons_zero, List.set_cons_succ]
          refine wpAnyL_one (i := 3) (by kernel_rfl) rfl (fun Ka hKa => ?_)
          go_simp
          refine Calls.mono (HTk.out _ TD.out.rd) ?_
          rintro rr w3 ⟨rfl, hr3, hf3⟩
          have T3 : Hid (TR w w3 p r q (.slice ao n cap) s b2 d2 #[.int .i64 (n0 : Int), .int .i64 (n1 : Int), .int .i64 bi, .int .i64 bv, .string base, .slice vo m0 vc]) := TD.out.read hr3 hf3
          have E3 : Hid (EnO w3 0 (.slice vo m0 vc) L0) := ED.out.kept hf3 (fun k hk e => (HO.out k hk).2.2.1 e)
          obtain ⟨_, _, _, _, _, y5⟩ := hbox6 T3.out.box
          refine hKa.out _ _ (fun _ => y5) ?_
          clear hKa Ka hr3 hf3 hS x5
          try simp only [Act.put, List.setIfInBounds_toArray, List.set_cons_zero, List.set_cons_succ]
          refine wpAnyL_one (i := 4) (by kernel_rfl) rfl (fun Ka hKa => ?_)
          go_simp
          obtain ⟨V0, hV0⟩ : ∃ V0, w3.alloc (.cells #[.int .i64 y.v, .string y.s] 106) = V0 := ⟨_, rfl⟩
          have b4 : Below w3.heap.size w3 V0 := by rw [← hV0]; exact vone_new _ _
          have hSr : V0.heap[w3.heap.size]? = some (.cells #[.int .i64 y.v, .string y.s] 106 (0, 0)) := by rw [← hV0]; exact heap_alloc_new _ _
          have HSrc : Hid (EnS V0 (.slice (some ⟨w3.heap.size, 0, none⟩) 1 1) [y]) := by
            refine ⟨_, 1, rfl, Nat.le_refl _, fun _ => ⟨w3.heap.size, 0, rfl, fun j hj => ?_⟩⟩
            obtain rfl : j = 0 := by simpa using hj
            exact ⟨vcell_blk hSr, vcell_blk hSr⟩
          have T4' : Hid (TR w V0 p r q (.slice ao n cap) s b2 d2 #[.int .i64 (n0 : Int), .int .i64 (n1 : Int), .int .i64 bi, .int .i64 bv, .string base, .slice vo m0 vc]) := T3.out.new b4
          have E4 : Hid (EnO V0 0 (.slice vo m0 vc) L0) := E3.out.new b4
          have HVs : Hid (w.heap.size ≤ V0.heap.size ∧ q < V0.heap.size ∧ r < V0.heap.size ∧ p < V0.heap.size) := ⟨T4'.out.fr.size, vlt_blk T4'.out.box, vlt_blk T4'.out.res, vlt_blk T4'.out.rd⟩
          obtain ⟨_, _, _, _, _, z5⟩ := hbox6 T4'.out.box
          rw [hV0]
          refine hKa.out _ _ (fun _ => z5) ?_
          clear hKa Ka hV0 b4 hSr y5
          try simp only [Act.put, List.setIfInBounds_toArray, List.set_cons_zero, List.set_cons_succ]
          refine wpAnyL_one (i := 5) (by kernel_rfl) rfl (fun Ka hKa => ?_)
          refine stp_appV rfl (.tmp 46) (.tmp 49) rfl (R := L0) (S := [y]) rfl rfl E4.out HSrc.out (by have := HL0.out; simp; omega) (Nat.zero_le _) ?_
          intro v1 w5' hE5 hF5 hX5
          obtain ⟨a1', c1', ev1, -, -⟩ := hE5.shape
          rw [List.length_append, HL0.out.1] at ev1
          rw [show m0 + ([y] : List Ent).length = m0 + 1 from rfl] at ev1
          subst ev1
          have T5' : Hid (TR w w5' p r q (.slice ao n cap) s b2 d2 #[.int .i64 (n0 : Int), .int .i64 (n1 : Int), .int .i64 bi, .int .i64 bv, .string base, .slice vo m0 vc]) := T4'.out.kept hF5 HO.out
          have hbx := T5'.out.box
          obtain ⟨_, _, _, _, _, u5⟩ := hbox6 hbx
          have fz5 := vfree hbx 5
          refine hKa.out _ _ (fun _ => u5) ?_
          have HE5 : Hid (EnO w5' 0 (.slice a1' (m0 + 1) c1') (L0 ++ [y])) := hE5
          have HX5 : Hid (∀ k, (Value.slice a1' (m0 + 1) c1').ownBlock = some k → k ≠ q ∧ k ≠ r ∧ k ≠ p ∧ ((Value.slice ao n cap).ownBlock = some k ∨ w.heap.size ≤ k)) := fun k hk => by
            rcases hX5 k hk with h | h
            · exact HO.out k h
            · have := HVs.out
              exact ⟨by omega, by omega, by omega, .inr (by omega)⟩
          clear hKa Ka hE5 hF5 hX5 hbx z5
          try simp only [Act.put, List.setIfInBounds_toArray, List.set_cons_zero, List.set_cons_succ]
          refine wpAnyL_one (i := 6) (by kernel_rfl) rfl (fun Ka hKa => ?_)
          go_simp
          refine hKa.out _ _ (fun _ => u5) ?_
          clear hKa Ka
          try simp only [Act.put, List.setIfInBounds_toArray, List.set_cons_zero, List.set_cons_succ]
          refine wpAnyL_one (i := 7) (by kernel_rfl) rfl (fun Ka hKa => ?_)
          go_simp
          refine hKa.out _ _ (fun h => absurd h (Bool.eq_false_iff.1 (by kernel_rfl))) ?_
          clear hKa Ka
          refine wpAnyL_done (by kernel_rfl) ?_ _
          generalize hW6 : World.setCell _ _ _ = W6
          have T6' : Hid (TR w W6 p r q (.slice ao n cap) s b2 d2 #[.int .i64 (n0 : Int), .int .i64 (n1 : Int), .int .i64 bi, .int .i64 bv, .string base, (.slice a1' (m0 + 1) c1')]) := by rw [← hW6]; exact T5'.out.set 5 _
          have E6 : Hid (EnO W6 0 (.slice a1' (m0 + 1) c1') (L0 ++ [y])) := by
            rw [← hW6]
            exact HE5.out.kept (Fr.setCell (S := fun k => k = q) _ ⟨q, 5, none⟩ _ rfl) (fun k hk e => (HX5.out k hk).1 e)
          clear hW6 u5 fz5 T5' HE5
          go_wp2
          go_roundw
          case rel => exact ⟨j + 1, b2, d2, _, L0 ++ [y], HJ.out, by go_num, T6'.out, E6.out, HX5.out, HV2.out, HB2.out, by have := HL0.out; rw [List.length_append]; simp; omega⟩
          case measure => have := HJ.out; simp [intOf]; omega
        · obtain rfl : j = c := by omega
          rw [Nat.sub_self] at hV
          simp only [rdVE, Prod.mk.injEq] at hV
          obtain ⟨rfl, rfl, rfl⟩ := hV
          have HT : Hid (TR w wr p r q (.slice ao n cap) s aa ee #[.int .i64 (n0 : Int), .int .i64 (n1 : Int), .int .i64 bi, .int .i64 bv, .string base, v]) := hT
          have HE' : Hid (EnO wr 0 v L0) := hE
          have HO : Hid (∀ k, v.ownBlock = some k → k ≠ q ∧ k ≠ r ∧ k ≠ p ∧ ((Value.slice ao n cap).ownBlock = some k ∨ w.heap.size ≤ k)) := hO
          clear hT hE hO
          go_wp2
          go_meet
          exact ⟨v, HT.out, HE'.out, HO.out⟩
    case rest =>
      obtain ⟨v, hT, hE7, hO7⟩ := hcut
      obtain ⟨vo7, vc7, rfl, -, -⟩ := hE7.shape
      have T7 : Hid (TR w wc p r q (.slice ao n cap) s aF eF #[.int .i64 (n0 : Int), .int .i64 (n1 : Int), .int .i64 bi, .int .i64 bv, .string base, (.slice vo7 R.length vc7)]) := hT
      have E7 : Hid (EnO wc 0 (.slice vo7 R.length vc7) R) := hE7
      have O7 : Hid (∀ k, ((.slice vo7 R.length vc7) : Value).ownBlock = some k → k ≠ q ∧ k ≠ r ∧ k ≠ p ∧ ((Value.slice ao n cap).ownBlock = some k ∨ w.heap.size ≤ k)) := hO7
      clear hT hE7 hO7 TB EB
      go_upto_region 11 with (fail)
      obtain ⟨Wd, hWd⟩ : ∃ Wd, wc.drew = Wd := ⟨_, rfl⟩
      have bd : Below wc.heap.size wc Wd := by rw [← hWd]; exact Below.drew (Below.refl _ _)
      have TD : Hid (TR w Wd p r q (.slice ao n cap) s aF eF #[.int .i64 (n0 : Int), .int .i64 (n1 : Int), .int .i64 bi, .int .i64 bv, .string base, (.slice vo7 R.length vc7)]) := T7.out.new bd
      have ED : Hid (EnO Wd 0 (.slice vo7 R.length vc7) R) := E7.out.new bd
      obtain ⟨y0, y1, y2, y3, y4, y5⟩ := hbox6 TD.out.box
      clear bd T7 E7
      refine wp_calmV ?_
      refine wp_region_L [] (fun w' : World => w'.cell? ⟨q, 0, none⟩ = some (.int .i64 (n0 : Int)) ∧ w'.cell? ⟨q, 1, none⟩ = some (.int .i64 (n1 : Int)) ∧ w'.cell? ⟨q, 2, none⟩ = some (.int .i64 bi) ∧ w'.cell? ⟨q, 3, none⟩ = some (.int .i64 bv) ∧ w'.cell? ⟨q, 4, none⟩ = some (.string base) ∧ w'.cell? ⟨q, 5, none⟩ = some ((.slice vo7 R.length vc7))) (by kernel_rfl) ?_
      rw [hWd]
      clear hWd
      have hS : (fun w' : World => w'.cell? ⟨q, 0, none⟩ = some (.int .i64 (n0 : Int)) ∧ w'.cell? ⟨q, 1, none⟩ = some (.int .i64 (n1 : Int)) ∧ w'.cell? ⟨q, 2, none⟩ = some (.int .i64 bi) ∧ w'.cell? ⟨q, 3, none⟩ = some (.int .i64 bv) ∧ w'.cell? ⟨q, 4, none⟩ = some (.string base) ∧ w'.cell? ⟨q, 5, none⟩ = some ((.slice vo7 R.length vc7))) Wd := ⟨y0, y1, y2, y3, y4, y5⟩
      refine wpAnyL_take (i := 0) 53 (v := .agg #[.int .i64 (n0 : Int), .int .i64 (n1 : Int), .int .i64 bi, .int .i64 bv, .string base, (.slice vo7 R.length vc7)]) rfl rfl (by kernel_rfl) (by kernel_rfl) (by kernel_rfl) (by kernel_rfl) (by kernel_rfl) (by kernel_rfl) (fun _ _ _ h => h) hS (by rfl) (by intro w' hSw; obtain ⟨y0, y1, y2, y3, y4, y5⟩ := hSw; go_simp <;> with_reducible rfl) ?_
      simp only [Act.put, List.setIfInBounds_toArray, List.set_cons_zero, List.set_cons_succ]
      refine wpAnyL_take (i := 1) 54 (v := .pointer (some ⟨p, 0, none⟩)) rfl rfl (by kernel_rfl) (by kernel_rfl) (by kernel_rfl) (by kernel_rfl) (by kernel_rfl) (by kernel_rfl) (fun _ _ _ h => h) hS (by rfl) (by intro w' hSw; obtain ⟨y0, y1, y2, y3, y4, y5⟩ := hSw; go_simp <;> with_reducible rfl) ?_
      simp only [Act.put, List.setIfInBounds_toArray, List.set_cons_zero, List.set_cons_succ]
      refine wpAnyL_one (i := 2) (by kernel_rfl) rfl (fun Ka hKa => ?_)
      go_simp
      refine Calls.mono (rend_any TD.out.rd HS.out HGF.out) ?_
      rintro rr w8 ⟨rfl, hr8, hf8⟩
      rw [HZE.out] at hr8 ⊢
      have T8 : Hid (TR w w8 p r q (.slice ao n cap) s aF z #[.int .i64 (n0 : Int), .int .i64 (n1 : Int), .int .i64 bi, .int .i64 bv, .string base, (.slice vo7 R.length vc7)]) := TD.out.read hr8 hf8
      have E8 : Hid (EnO w8 0 (.slice vo7 R.length vc7) R) := ED.out.kept hf8 (fun k hk e => (O7.out k hk).2.2.1 e)
      obtain ⟨u0, u1, u2, u3, u4, u5⟩ := hbox6 T8.out.box
      have hS1 : (fun w' : World => w'.cell? ⟨q, 0, none⟩ = some (.int .i64 (n0 : Int)) ∧ w'.cell? ⟨q, 1, none⟩ = some (.int .i64 (n1 : Int)) ∧ w'.cell? ⟨q, 2, none⟩ = some (.int .i64 bi) ∧ w'.cell? ⟨q, 3, none⟩ = some (.int .i64 bv) ∧ w'.cell? ⟨q, 4, none⟩ = some (.string base) ∧ w'.cell? ⟨q, 5, none⟩ = some ((.slice vo7 R.length vc7))) w8 := ⟨u0, u1, u2, u3, u4, u5⟩
      refine hKa.out _ _ (fun _ => hS1) ?_
      clear hKa Ka hS hr8 hf8 y0 y1 y2 y3 y4 y5
      try simp only [Act.put, List.setIfInBounds_toArray, List.set_cons_zero, List.set_cons_succ]
      refine wpAnyL_take (i := 3) 56 (v := .bool (z == 0)) rfl rfl (by kernel_rfl) (by kernel_rfl) (by kernel_rfl) (by kernel_rfl) (by kernel_rfl) (by kernel_rfl) (fun _ _ _ h => h) hS1 (by rfl) (by intro w' hSw; obtain ⟨y0, y1, y2, y3, y4, y5⟩ := hSw; go_simp <;> with_reducible rfl) ?_
      simp only [Act.put, List.setIfInBounds_toArray, List.set_cons_zero, List.set_cons_succ]
      refine wpAnyL_one (i := 4) (by kernel_rfl) rfl (fun Ka hKa => ?_)
      refine wp_store_row 66 _ _ rfl r #[.int .i64 (n0 : Int), .int .i64 (n1 : Int), .int .i64 bi, .int .i64 bv, .string base, (.slice vo7 R.length vc7)] rfl rfl 66 #[.int .i64 0, .int .i64 0, .int .i64 0, .int .i64 0, .string (str []), .slice none 0 0] T8.out.res size_hard rfl (by simp [Value.oneCell']) ?_
      have f9 := vfr_setRow w8 r #[.int .i64 (n0 : Int), .int .i64 (n1 : Int), .int .i64 bi, .int .i64 bv, .string base, (.slice vo7 R.length vc7)]
      have hB9 : (w8.setRow r #[.int .i64 (n0 : Int), .int .i64 (n1 : Int), .int .i64 bi, .int .i64 bv, .string base, (.slice vo7 R.length vc7)]).heap[q]? = some (.cells #[.int .i64 (n0 : Int), .int .i64 (n1 : Int), .int .i64 bi, .int .i64 bv, .string base, (.slice vo7 R.length vc7)] 66 (0, 0)) := (f9.block q (vlt_blk T8.out.box) (by have := T8.out.qr; omega)).trans T8.out.box
      obtain ⟨x0, x1, x2, x3, x4, x5⟩ := hbox6 hB9
      refine hKa.out _ _ (fun _ => ⟨x0, x1, x2, x3, x4, x5⟩) ?_
      have hS2 : (fun w' : World => w'.cell? ⟨q, 0, none⟩ = some (.int .i64 (n0 : Int)) ∧ w'.cell? ⟨q, 1, none⟩ = some (.int .i64 (n1 : Int)) ∧ w'.cell? ⟨q, 2, none⟩ = some (.int .i64 bi) ∧ w'.cell? ⟨q, 3, none⟩ = some (.int .i64 bv) ∧ w'.cell? ⟨q, 4, none⟩ = some (.string base) ∧ w'.cell? ⟨q, 5, none⟩ = some ((.slice vo7 R.length vc7))) (w8.setRow r #[.int .i64 (n0 : Int), .int .i64 (n1 : Int), .int .i64 bi, .int .i64 bv, .string base, (.slice vo7 R.length vc7)]) := ⟨x0, x1, x2, x3, x4, x5⟩
      clear hKa Ka
      try simp only [Act.put, List.setIfInBounds_toArray, List.set_cons_zero, List.set_cons_succ]
      refine wpAnyL_one (i := 5) (by kernel_rfl) rfl (fun Ka hKa => ?_)
      go_simp
      refine hKa.out _ _ (fun _ => hS2) ?_
      clear hKa Ka
      try simp only [Act.put, List.setIfInBounds_toArray, List.set_cons_zero, List.set_cons_succ]
      refine wpAnyL_done (by kernel_rfl) ?_ _
      have HZ9 : Hid ((w8.setRow r #[.int .i64 (n0 : Int), .int .i64 (n1 : Int), .int .i64 bi, .int .i64 bv, .string base, (.slice vo7 R.length vc7)]).heap[r]? = some (.cells #[.int .i64 (n0 : Int), .int .i64 (n1 : Int), .int .i64 bi, .int .i64 bv, .string base, (.slice vo7 R.length vc7)] 66 (0, 0))) := setRow_heap _ _ _ _ _ _ T8.out.res
      have HFr : Hid (EnO (w8.setRow r #[.int .i64 (n0 : Int), .int .i64 (n1 : Int), .int .i64 bi, .int .i64 bv, .string base, (.slice vo7 R.length vc7)]) 0 (.slice vo7 R.length vc7) R ∧ (∀ k, ((.slice vo7 R.length vc7) : Value).ownBlock = some k → (Value.slice ao n cap).ownBlock = some k ∨ w.heap.size ≤ k) ∧ Fr w (w8.setRow r #[.int .i64 (n0 : Int), .int .i64 (n1 : Int), .int .i64 bi, .int .i64 bv, .string base, (.slice vo7 R.length vc7)]) (fun k => (Value.slice ao n cap).ownBlock = some k)) :=
        ⟨E8.out.kept f9 (fun k hk e => (O7.out k hk).2.1 e), fun k hk => (O7.out k hk).2.2.2, T8.out.fr.trans f9 (fun k hk e => by have := T8.out.wq; have := T8.out.qr; omega)⟩
      clear hS1 hS2 f9 hB9 x0 x1 x2 x3 x4 x5 u0 u1 u2 u3 u4 u5
      go_wp2
      refine bodyPost_ret (v := .tuple #[.agg #[.int .i64 (n0 : Int), .int .i64 (n1 : Int), .int .i64 bi, .int .i64 bv, .string base, (.slice vo7 R.length vc7)], .bool (z == 0)]) (res_ctV Tryz.results86 _ _ r 66 _ (0, 0) _ rfl HZ9.out Tryz.underlying66 rfl size_hard) rfl ?_
      exact ⟨(.slice vo7 R.length vc7), rfl, HFr.out.1, HFr.out.2.1, HFr.out.2.2⟩
end Go.Proofs.YtnhjflebaeokeaaGreat
end

section
/- rnode.alike: how many entries from the front on are the same. -/
namespace Go.Proofs.YtnhjflebaeokeaaGreat
open Go.RowKit
attribute [local go_sem] Oper.semAt_some
def alikeN : List Ent → List Ent → Nat
  | a :: l, b :: m => if a.v = b.v ∧ a.s = b.s then alikeN l m + 1 else 0
  | _, _ => 0
theorem alikeN_le : ∀ L M : List Ent, alikeN L M ≤ L.length ∧ alikeN L M ≤ M.length
  | [], M => by simp [alikeN]
  | a :: l, [] => by simp [alikeN]
  | a :: l, b :: m => by
    unfold alikeN
    have := alikeN_le l m
    simp only [List.length_cons]
    split <;> omega
theorem alikeN_take : ∀ L M : List Ent, L.take (alikeN L M) = M.take (alikeN L M)
  | [], M => by simp [alikeN]
  | a :: l, [] => by simp [alikeN]
  | a :: l, b :: m => by
    unfold alikeN
    split
    · next h =>
      obtain ⟨a1, a2⟩ := a
      obtain ⟨b1, b2⟩ := b
      simp only at h
      rw [List.take_succ_cons, List.take_succ_cons, alikeN_take l m, h.1, h.2]
    · simp
theorem alikeN_at : ∀ (L M : List Ent) (j : Nat) (h1 : j < L.length) (h2 : j < M.length), L.take j = M.take j → ¬ (L[j].v = M[j].v ∧ L[j].s = M[j].s) → alikeN L M = j
  | a :: l, b :: m, 0, _, _, _, h => by unfold alikeN; exact if_neg h
  | a :: l, b :: m, j + 1, h1, h2, ht, h => by
    rw [List.take_succ_cons, List.take_succ_cons] at ht
    injection ht with e1 e2
    unfold alikeN
    rw [if_pos ⟨by rw [e1], by rw [e1]⟩, alikeN_at l m j (by simpa using h1) (by simpa using h2) e2 (by simpa using h)]
theorem alikeN_all : ∀ (L M : List Ent), L.take (min L.length M.length) = M.take (min L.length M.length) → alikeN L M = min L.length M.length
  | [], M, _ => by simp [alikeN]
  | a :: l, [], _ => by simp [alikeN]
  | a :: l, b :: m, ht => by
    have e : min (a :: l).length (b :: m).length = min l.length m.length + 1 := by simp only [List.length_cons]; omega
    rw [e, List.take_succ_cons, List.take_succ_cons] at ht
    injection ht with e1 e2
    rw [e]
    unfold alikeN
    rw [if_pos ⟨by rw [e1], by rw [e1]⟩, alikeN_all l m e2]
set_option maxRecDepth 100000 in
set_option maxHeartbeats 2000000 in
theorem alike_any {w : World} {va vb : Value} {L M : List Ent} (hL : EnS w va L) (hM : EnS w vb M) (h1 : L.length ≤ 1000) (h2 : M.length ≤ 1000) :
    Calls Tryz.prog 106 #[va, vb] w fun r w' => r = .returned (.int .i64 (alikeN L M : Nat)) ∧ Below w.heap.size w w' := by
  obtain ⟨ao, ca, rfl, hca⟩ := hL.shape
  obtain ⟨bo, cb, rfl, hcb⟩ := hM.shape
  have HL : Hid (EnS w (.slice ao L.length ca) L) := hL
  have HM : Hid (EnS w (.slice bo M.length cb) M) := hM
  obtain ⟨n, hn⟩ : ∃ n, L.length = n := ⟨_, rfl⟩
  obtain ⟨m, hm⟩ : ∃ m, M.length = m := ⟨_, rfl⟩
  have HN : Hid (L.length = n ∧ M.length = m) := ⟨hn, hm⟩
  rw [hn] at h1 hca HL ⊢
  rw [hm] at h2 hcb HM ⊢
  clear hL hM hn hm
  go_enter Tryz.func106, Tryz.ntmps106
  go_wp2
  go_loopw [11] (fun i wr => ∃ j : Nat, j ≤ n ∧ j ≤ m ∧ i = .int .i64 j ∧ Hid (L.take j = M.take j) ∧ Hid (Below w.heap.size w wr)) (fun i _ => n - (intOf i).toNat)
  case atStart => exact ⟨0, Nat.zero_le _, Nat.zero_le _, rfl, by show _ = _; simp, Below.refl _ _⟩
  case round =>
    obtain ⟨j, hj1, hj2, rfl, HT, HB⟩ := hrel
    by_cases hlt : j < n ∧ j < m
    · obtain ⟨hl1, hl2⟩ := hlt
      have k1 : j < L.length := by have := HN.out; omega
      have k2 : j < M.length := by have := HN.out; omega
      obtain ⟨b, off, rfl, c0, c1⟩ : ∃ b off, ao = some ⟨b, off, none⟩ ∧ wr.cell? ⟨b, off + j * 2, none⟩ = some (.int .i64 L[j].v) ∧ wr.cell? ⟨b, off + j * 2 + 1, none⟩ = some (.string L[j].s) := by
        obtain ⟨ao', cap', e, -, h2⟩ := HL.out.new HB.out
        injection e with e1 e2 e3
        subst e1
        obtain ⟨b, off, e, hc⟩ := h2 (by omega)
        exact ⟨b, off, e, hc j k1⟩
      obtain ⟨d, off2, rfl, d0, d1⟩ : ∃ b off, bo = some ⟨b, off, none⟩ ∧ wr.cell? ⟨b, off + j * 2, none⟩ = some (.int .i64 M[j].v) ∧ wr.cell? ⟨b, off + j * 2 + 1, none⟩ = some (.string M[j].s) := by
        obtain ⟨ao', cap', e, -, h2⟩ := HM.out.new HB.out
        injection e with e1 e2 e3
        subst e1
        obtain ⟨b, off, e, hc⟩ := h2 (by omega)
        exact ⟨b, off, e, hc j k2⟩
      have HAt : Hid (¬ (L[j].v = M[j].v ∧ L[j].s = M[j].s) → alikeN L M = j) := alikeN_at L M j k1 k2 HT.out
      have HNx : Hid (L[j] = M[j] → L.take (j + 1) = M.take (j + 1)) := fun e => by rw [List.take_succ_eq_append_getElem k1, List.take_succ_eq_append_getElem k2, HT.out, e]
      obtain ⟨⟨yv, ys⟩, hy⟩ : ∃ y, L[j] = y := ⟨_, rfl⟩
      obtain ⟨⟨zv, zs⟩, hz⟩ : ∃ z, M[j] = z := ⟨_, rfl⟩
      rw [hy] at c0 c1 HAt HNx
      rw [hz] at d0 d1 HAt HNx
      simp only at c0 c1 d0 d1 HAt
      have hjI : (j : Int) < n := by omega
      have hjJ : (j : Int) < m := by omega
      have hj0 : (0 : Int) ≤ j := by omega
      have hjm : (j : Int) < min (n : Int) m := by omega
      clear hy hz k1 k2
      by_cases e1 : yv = zv
      · by_cases e2 : ys = zs
        · subst e1
          subst e2
          have HT' : Hid (L.take (j + 1) = M.take (j + 1)) := HNx.out rfl
          go_upto_region 4 with (fail)
          go_quiet (fail)
          go_wp2
          go_roundw
          case rel => exact ⟨j + 1, by omega, by omega, by go_num, HT', HB.out.trans ((below_dn wr _).mono HB.out.size)⟩
          case measure => simp [intOf]; omega
        · have e2n : (ys.toList == zs.toList) = false := by
            rw [ByteArray.toList_eq, ByteArray.toList_eq, beq_eq_false_iff_ne]
            intro e
            apply e2
            exact Go.WideShapes.bytes_inj e
          subst e1
          have HA : Hid (alikeN L M = j) := HAt.out (fun e => e2 e.2)
          go_upto_region 4 with (fail)
          go_quiet (fail)
          go_wp2
          go_ret
          exact ⟨by rw [HA.out]; rfl, HB.out.trans ((below_dn wr _).mono HB.out.size)⟩
      · have e1n : (yv == zv) = false := by simpa using e1
        have HA : Hid (alikeN L M = j) := HAt.out (fun e => e1 e.1)
        go_upto_region 4 with (fail)
        go_quiet (fail)
        go_wp2
        go_ret
        exact ⟨by rw [HA.out]; rfl, HB.out.trans ((below_dn wr _).mono HB.out.size)⟩
    · obtain ⟨jm, hjm⟩ : ∃ jm, min n m = jm := ⟨_, rfl⟩
      obtain rfl : j = jm := by omega
      have HA : Hid (alikeN L M = j) := by
        show _ = _
        have h := HN.out
        rw [alikeN_all L M (by rw [h.1, h.2, hjm]; exact HT.out), h.1, h.2, hjm]
      have hmI : min (n : Int) m = j := by omega
      clear hjm hlt
      go_wp2
      go_ret
      exact ⟨by rw [HA.out]; rfl, HB.out⟩
end Go.Proofs.YtnhjflebaeokeaaGreat
end

section
/- rnode: what is put is read again. -/
namespace Go.Proofs.YtnhjflebaeokeaaGreat
open Go.RowKit
theorem recB_len (h : Hd) (ok : h.ok) (same : Nat) (hs : same ≤ h.log.length) : (recB h same).length ≤ 1000000 := by
  have k1 := numB_len10 (n := h.vw.toNat) (by have := ok.vw1; omega)
  have k2 := numB_len10 (n := h.nm.toNat) (by have := ok.nm1; omega)
  have k3 := numB_len10 (n := (h.bi + same).toNat) (by have := ok.bi1; have := ok.len; omega)
  have k4 := numB_len10 (n := h.log.length - same) (by have := ok.len; omega)
  have k5 := ents_take (h.log.drop same) (fun e he => by have := (ok.ev e (List.mem_of_mem_drop he)).2; omega) (by have := entsN_drop h.log same; have := ok.room; omega) _ (Nat.le_refl _)
  rw [List.take_length] at k5
  have k6 := entsN_drop h.log same
  have k7 := ok.room
  unfold recB
  simp only [List.length_append]
  omega
theorem baseB_len (h : Hd) (ok : h.ok) : (baseB h).length ≤ 1000000 := by
  unfold baseB
  split
  · simp
  · have k1 := numB_len10 (n := h.bi.toNat) (by have := ok.bi1; omega)
    have k2 := numB_len10 (n := h.bv.toNat) (by have := ok.bv1; omega)
    have k3 := (textB_len h.base (by have := ok.room; omega)).1
    have k4 := ok.room
    simp only [List.length_append]
    omega
theorem mem_sumR {E : List Ent} {x : Ent} (h : x ∈ E) : x.s.size ≤ entsN E := by
  induction E with
  | nil => cases h
  | cons e E ih =>
    have h5 : entsN (e :: E) = (e.s.size + 30) + entsN E := by simp [entsN]
    rw [h5]
    rcases List.mem_cons.1 h with rfl | h
    · omega
    · have := ih h
      omega
set_option maxRecDepth 100000 in
theorem takeRec_enc {w : World} {B same : Nat} {lv0 : Value} (h g : Hd) (ok : h.ok) (gl : g.log.length ≤ 1000) (hE : EnO w B lv0 g.log) (hb : h.bi = g.bi) (hs : same ≤ h.log.length) (hg : same ≤ g.log.length) (ht : g.log.take same = h.log.take same) :
    Calls Tryz.prog 86 #[hdV g lv0, .string (str (recB h same))] w fun r w' => ∃ v, r = .returned (.tuple #[hdV ⟨h.vw, h.nm, g.bi, g.bv, g.base, h.log⟩ v, .bool true]) ∧ EnO w' 0 v h.log ∧ (∀ k, v.ownBlock = some k → lv0.ownBlock = some k ∨ w.heap.size ≤ k) ∧ Fr w w' (fun k => lv0.ownBlock = some k) := by
  obtain ⟨s, hsx⟩ : ∃ s, str (recB h same) = s := ⟨_, rfl⟩
  have hd : s.data.toList = recB h same := by rw [← hsx]; rfl
  have hsz : s.size = (recB h same).length := by rw [← hsx]; rfl
  have hm : s.size ≤ maxLen := by rw [hsz]; exact Nat.le_trans (recB_len h ok same hs) (by decide)
  rw [hsx]
  clear hsx
  have o1 := ok.vw0
  have o2 := ok.vw1
  have o3 := ok.nm0
  have o4 := ok.nm1
  have o5 := ok.bi0
  have o6 := ok.bi1
  have o7 := ok.len
  have h0 := count_at (s := s) (a := []) (n := h.vw.toNat) (most := 2147483647) (c := numB h.nm.toNat ++ numB (h.bi + same).toNat ++ numB (h.log.length - same) ++ (h.log.drop same).flatMap entB) (by rw [hd]; unfold recB; simp) (by omega) (by decide)
  have h1 := count_at (s := s) (a := [] ++ numB h.vw.toNat) (n := h.nm.toNat) (most := 2147483647) (c := numB (h.bi + same).toNat ++ numB (h.log.length - same) ++ (h.log.drop same).flatMap entB) (by rw [hd]; unfold recB; simp) (by omega) (by decide)
  have h2 := count_at (s := s) (a := [] ++ numB h.vw.toNat ++ numB h.nm.toNat) (n := (h.bi + same).toNat) (most := 9223372036854775807) (c := numB (h.log.length - same) ++ (h.log.drop same).flatMap entB) (by rw [hd]; unfold recB; simp) (by omega) (by decide)
  rw [show ((9223372036854775807 : Nat) : Int) = (9223372036854775807 : Int) from rfl] at h2
  rw [show ((2147483647 : Nat) : Int) = (2147483647 : Int) from rfl] at h0 h1
  have h3 := count_at (s := s) (a := [] ++ numB h.vw.toNat ++ numB h.nm.toNat ++ numB (h.bi + same).toNat) (n := h.log.length - same) (most := 1000) (c := (h.log.drop same).flatMap entB) (by rw [hd]; unfold recB; simp) (by omega) (by decide)
  rw [show ((1000 : Nat) : Int) = (1000 : Int) from rfl] at h3
  have h4 := rdVE_enc (s := s) (h.log.drop same) ([] ++ numB h.vw.toNat ++ numB h.nm.toNat ++ numB (h.bi + same).toNat ++ numB (h.log.length - same)) [] (h.log.take same) (by rw [hd]; unfold recB; simp) (fun e he => by
    have k1 := ok.ev e (List.mem_of_mem_drop he)
    have k2 := mem_sumR (List.mem_of_mem_drop he)
    have k3 := ok.room
    exact ⟨k1.1, k1.2, by omega⟩)
  rw [List.take_append_drop, List.length_drop] at h4
  have hb' : ((h.bi + same).toNat : Int) = h.bi + same := Int.toNat_of_nonneg (by omega)
  have hf : (h.bi + same).toNat - g.bi.toNat = same := by omega
  have h5 : h.log.take same = g.log.take ((h.bi + same).toNat - g.bi.toNat) := by rw [hf, ht]
  rw [h5] at h4
  refine (takeRec_ok g (by omega) (by omega) gl hE hm h0 h1 h2 (by omega) (by omega) h3 h4).mono ?_
  rintro r w' ⟨v, rfl, k1, k2, k3⟩
  refine ⟨v, ?_, k1, k2, k3⟩
  have e1 : ((h.vw.toNat : Nat) : Int) = h.vw := Int.toNat_of_nonneg o1
  have e2 : ((h.nm.toNat : Nat) : Int) = h.nm := Int.toNat_of_nonneg o3
  have e3 : rdEnd s ([] ++ numB h.vw.toNat ++ numB h.nm.toNat ++ numB (h.bi + same).toNat ++ numB (h.log.length - same) ++ (h.log.drop same).flatMap entB).length 0 = 0 := by
    unfold rdEnd
    rw [if_neg]
    rintro ⟨-, k⟩
    rw [hsz] at k
    unfold recB at k
    simp at k
  rw [e1, e2, e3]
  rfl
theorem takeBase_enc {w : World} (h : Hd) (ok : h.ok) :
    Calls Tryz.prog 83 #[.string (str (baseB h))] w fun r w' => r = .returned (.tuple #[hdV ⟨0, 0, h.bi, h.bv, h.base, []⟩ (.slice none 0 0), .bool true]) ∧ Below w.heap.size w w' := by
  have o1 := ok.bi0
  have o2 := ok.bi1
  have o3 := ok.bv0
  have o4 := ok.bv1
  have o5 := ok.room
  by_cases c : h.bi = 0 ∧ h.bv = 0 ∧ h.base.size = 0
  · have hb : baseB h = [] := by unfold baseB; exact if_pos c
    rw [hb]
    refine (takeBase_none w).mono ?_
    rintro r w' ⟨rfl, hb'⟩
    refine ⟨?_, hb'⟩
    rw [c.1, c.2.1, ba_size0 c.2.2]
    rfl
  · have hb : baseB h = numB h.bi.toNat ++ numB h.bv.toNat ++ textB h.base.data.toList := by unfold baseB; exact if_neg c
    have hlen := baseB_len h ok
    obtain ⟨s, hsx⟩ : ∃ s, str (baseB h) = s := ⟨_, rfl⟩
    have hd : s.data.toList = baseB h := by rw [← hsx]; rfl
    have hsz : s.size = (baseB h).length := by rw [← hsx]; rfl
    rw [hsx]
    have h0 := count_at (s := s) (a := []) (n := h.bi.toNat) (most := 2147483647) (c := numB h.bv.toNat ++ textB h.base.data.toList) (by rw [hd, hb]; simp) (by omega) (by decide)
    have h1 := count_at (s := s) (a := [] ++ numB h.bi.toNat) (n := h.bv.toNat) (most := 2147483647) (c := textB h.base.data.toList) (by rw [hd, hb]; simp) (by omega) (by decide)
    have h2 := text_atV (s := s) (t := h.base) (a := [] ++ numB h.bi.toNat ++ numB h.bv.toNat) (c := []) (by rw [hd, hb]; simp) (by omega)
    rw [show ((2147483647 : Nat) : Int) = (2147483647 : Int) from rfl] at h0 h1
    have hp := numB_pos h.bi.toNat
    refine (takeBase_some (Nat.le_trans (by rw [hsz]; exact hlen) (by decide)) (by rw [hsz, hb]; simp only [List.length_append]; omega) h0 h1 h2).mono ?_
    rintro r w' ⟨rfl, hb'⟩
    refine ⟨?_, hb'⟩
    have e1 : ((h.bi.toNat : Nat) : Int) = h.bi := Int.toNat_of_nonneg o1
    have e2 : ((h.bv.toNat : Nat) : Int) = h.bv := Int.toNat_of_nonneg o3
    have e3 : rdEnd s ([] ++ numB h.bi.toNat ++ numB h.bv.toNat ++ textB h.base.data.toList).length 0 = 0 := by
      unfold rdEnd
      rw [if_neg]
      rintro ⟨-, k⟩
      rw [hsz, hb] at k
      simp at k
    rw [e1, e2, e3]
    rfl
end Go.Proofs.YtnhjflebaeokeaaGreat
end
