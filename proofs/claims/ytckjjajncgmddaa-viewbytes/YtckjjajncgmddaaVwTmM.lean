import Derived.Test.YtckjjajncgmddaaVwBmM
import Derived.Laws.Tables
/- A message off bytes. -/
namespace Go.Proofs.Ytckjjajncgmddaa
open Go.RowKit
attribute [local go_sem] Oper.semAt_some
theorem size_vm : (Try.prog.info? 24).map (·.size) = some 11 := by kernel_rfl
theorem vfree {W : World} {q : Nat} {cs : Array Value} {t : TypeId} (h : W.heap[q]? = some (.cells cs t (0, 0))) (i : Nat) : W.frozen? ⟨q, i, none⟩ = false := by simp [World.frozen?, h]
theorem vfr_setRow (w : World) (g : Nat) (cs : Array Value) : Fr w (w.setRow g cs) (fun k => k = g) := ⟨rfl, rfl, rfl, by simp, fun k _ hn => setRow_other w g k cs hn⟩
theorem EnO.high {w : World} {B : Nat} {v : Value} {L : List Ent} (h : EnO w 0 v L) (hO : ∀ k, v.ownBlock = some k → B ≤ k) : EnO w B v L := by
  refine ⟨h.1, ?_⟩
  rcases h.2 with h2 | ⟨g, cap, cur, rfl, h3, h4⟩
  · exact .inl h2
  · exact .inr ⟨g, cap, cur, rfl, hO g rfl, h4⟩
/-- While a message is read: the reader, the result's block, the message's. -/
structure TM (w W : World) (p r q : Nat) (s : ByteArray) (a : Nat) (e : Int) (mc : Array Value) : Prop where
  rd : Rd W p s a e
  res : W.heap[r]? = some (.cells #[.int .i64 0, .int .i64 0, .int .i64 0, .int .i64 0, .int .i64 0, .int .i64 0, .int .i64 0, .int .i64 0, .int .i64 0, .string (str []), .slice none 0 0] 24 (0, 0))
  box : W.heap[q]? = some (.cells mc 24 (0, 0))
  fr : Fr w W (fun k => k = p)
  pw : p < w.heap.size
  wr : w.heap.size = r
  rq : r < q
section
variable {w W W' : World} {p r q : Nat} {s : ByteArray} {a a' : Nat} {e e' : Int} {mc : Array Value}
theorem TM.read (h : TM w W p r q s a e mc) (hr : Rd W' p s a' e') (f : Fr W W' (fun k => k = p)) : TM w W' p r q s a' e' mc := by
  have h1 := h.pw
  have h2 := h.wr
  have h3 := h.rq
  exact ⟨hr, (f.block r (vlt_blk h.res) (by omega)).trans h.res, (f.block q (vlt_blk h.box) (by omega)).trans h.box, h.fr.trans f (fun _ _ h => h), h1, h2, h3⟩
theorem TM.set (h : TM w W p r q s a e mc) (i : Nat) (v : Value) : TM w (W.setCell ⟨q, i, none⟩ v) p r q s a e (mc.setIfInBounds i v) := by
  have h1 := h.pw
  have h2 := h.wr
  have h3 := h.rq
  have f : Fr W (W.setCell ⟨q, i, none⟩ v) (fun k => k = q) := Fr.setCell (S := fun k => k = q) _ ⟨q, i, none⟩ _ rfl
  exact ⟨(f.block p (vlt_blk h.rd) (by omega)).trans h.rd, (f.block r (vlt_blk h.res) (by omega)).trans h.res, vblk_set v h.box, h.fr.trans f (fun k hk e => by omega), h1, h2, h3⟩
theorem TM.new (h : TM w W p r q s a e mc) (hb : Below W.heap.size W W') : TM w W' p r q s a e mc :=
  ⟨(hb.block p (vlt_blk h.rd)).trans h.rd, (hb.block r (vlt_blk h.res)).trans h.res, (hb.block q (vlt_blk h.box)).trans h.box, h.fr.trans (Fr.ofBelow hb _) (fun _ _ h => h), h.pw, h.wr, h.rq⟩
theorem TM.kept (h : TM w W p r q s a e mc) {v : Value} (f : Fr W W' (fun k => v.ownBlock = some k)) (hv : ∀ k, v.ownBlock = some k → w.heap.size < k ∧ k ≠ q) : TM w W' p r q s a e mc := by
  have h1 := h.pw
  have h2 := h.wr
  have h3 := h.rq
  refine ⟨(f.block p (vlt_blk h.rd) (fun e => by have := hv p e; omega)).trans h.rd, (f.block r (vlt_blk h.res) (fun e => by have := hv r e; omega)).trans h.res, (f.block q (vlt_blk h.box) (fun e => (hv q e).2 rfl)).trans h.box, h.fr.trans f (fun k hk e => by have := hv k e; omega), h1, h2, h3⟩
end
set_option linter.unusedSimpArgs false in
set_option maxRecDepth 100000 in
set_option maxHeartbeats 8000000 in
theorem take_any {w : World} {p : Nat} {s : ByteArray} {a n0 n1 n2 n3 n4 n5 n6 n7 n8 a0 a1 a2 a3 a4 a5 a6 a7 a8 a9 c a10 aF : Nat} {e e0 e1 e2 e3 e4 e5 e6 e7 e8 e9 e10 eF : Int} {t : ByteArray} {L : List Ent} (h : Rd w p s a e) (hs : s.size ≤ maxLen) (ha : a ≤ s.size) (h0 : rdCount s a e 2147483647 = (n0, a0, e0)) (h1 : rdCount s a0 e0 2147483647 = (n1, a1, e1)) (h2 : rdCount s a1 e1 2147483647 = (n2, a2, e2)) (h3 : rdCount s a2 e2 2147483647 = (n3, a3, e3)) (h4 : rdCount s a3 e3 2147483647 = (n4, a4, e4)) (h5 : rdCount s a4 e4 2147483647 = (n5, a5, e5)) (h6 : rdCount s a5 e5 2147483647 = (n6, a6, e6)) (h7 : rdCount s a6 e6 2147483647 = (n7, a7, e7)) (h8 : rdCount s a7 e7 2147483647 = (n8, a8, e8)) (h9 : rdText s a8 e8 = (t, a9, e9)) (h10 : rdCount s a9 e9 1000 = (c, a10, e10)) (hF : rdVE s c a10 e10 [] = (L, aF, eF)) :
    Calls Try.prog 15 #[.pointer (some ⟨p, 0, none⟩)] w fun r w' => ((eF = 0 ∧ ∃ ev, r = .returned (.agg #[.int .i64 n0, .int .i64 n1, .int .i64 n2, .int .i64 n3, .int .i64 n4, .int .i64 n5, .int .i64 n6, .int .i64 n7, .int .i64 n8, .string t, ev]) ∧ EnO w' w.heap.size ev L) ∨ (eF ≠ 0 ∧ r = .returned (.agg #[.int .i64 0, .int .i64 0, .int .i64 0, .int .i64 0, .int .i64 0, .int .i64 0, .int .i64 0, .int .i64 0, .int .i64 0, .string (str []), .slice none 0 0]))) ∧ Rd w' p s aF eF ∧ Fr w w' (fun k => k = p) := by
  have HR : Hid (Rd w p s a e) := h
  have HS : Hid (s.size ≤ maxLen) := hs
  have G : Hid (a ≤ s.size) := ha
  have H0 : Hid (rdCount s a e 2147483647 = (n0, a0, e0)) := h0
  have G0 : Hid (a0 ≤ s.size) := (rdCount_to (most := 2147483647) ha h0).1
  have H1 : Hid (rdCount s a0 e0 2147483647 = (n1, a1, e1)) := h1
  have G1 : Hid (a1 ≤ s.size) := (rdCount_to (most := 2147483647) G0.out h1).1
  have H2 : Hid (rdCount s a1 e1 2147483647 = (n2, a2, e2)) := h2
  have G2 : Hid (a2 ≤ s.size) := (rdCount_to (most := 2147483647) G1.out h2).1
  have H3 : Hid (rdCount s a2 e2 2147483647 = (n3, a3, e3)) := h3
  have G3 : Hid (a3 ≤ s.size) := (rdCount_to (most := 2147483647) G2.out h3).1
  have H4 : Hid (rdCount s a3 e3 2147483647 = (n4, a4, e4)) := h4
  have G4 : Hid (a4 ≤ s.size) := (rdCount_to (most := 2147483647) G3.out h4).1
  have H5 : Hid (rdCount s a4 e4 2147483647 = (n5, a5, e5)) := h5
  have G5 : Hid (a5 ≤ s.size) := (rdCount_to (most := 2147483647) G4.out h5).1
  have H6 : Hid (rdCount s a5 e5 2147483647 = (n6, a6, e6)) := h6
  have G6 : Hid (a6 ≤ s.size) := (rdCount_to (most := 2147483647) G5.out h6).1
  have H7 : Hid (rdCount s a6 e6 2147483647 = (n7, a7, e7)) := h7
  have G7 : Hid (a7 ≤ s.size) := (rdCount_to (most := 2147483647) G6.out h7).1
  have H8 : Hid (rdCount s a7 e7 2147483647 = (n8, a8, e8)) := h8
  have G8 : Hid (a8 ≤ s.size) := (rdCount_to (most := 2147483647) G7.out h8).1
  have H9 : Hid (rdText s a8 e8 = (t, a9, e9)) := h9
  have G9 : Hid (a9 ≤ s.size) := rdText_leV G8.out h9
  have H10 : Hid (rdCount s a9 e9 1000 = (c, a10, e10)) := h10
  have G10 : Hid (a10 ≤ s.size) := (rdCount_to (most := 1000) G9.out h10).1
  have hc1 : c ≤ 1000 := (rdCount_to (most := 1000) G9.out h10).2.1
  have HFF : Hid (rdVE s c a10 e10 [] = (L, aF, eF)) := hF
  have hpl : p < w.heap.size := vlt_blk h
  clear h hs ha h0 h1 h2 h3 h4 h5 h6 h7 h8 h9 h10 hF
  go_enter Try.func15, Try.ntmps15
  go_upto_region 1 with (fail)
  generalize hW : World.alloc _ _ = W
  have b0 : Below w.heap.size w W := by rw [← hW]; exact vone_new _ _
  have hZ : W.heap[w.heap.size]? = some (.cells #[.int .i64 0, .int .i64 0, .int .i64 0, .int .i64 0, .int .i64 0, .int .i64 0, .int .i64 0, .int .i64 0, .int .i64 0, .string (str []), .slice none 0 0] 24 (0, 0)) := by rw [← hW]; exact heap_alloc_new _ _
  have HR0 : Hid (Rd W p s a e) := (b0.block p hpl).trans HR.out
  have F0 : Hid (Fr w W (fun k => k = p)) := Fr.ofBelow b0 _
  obtain ⟨r, hr⟩ : ∃ q, w.heap.size = q := ⟨_, rfl⟩
  have HQ : Hid (w.heap.size = r) := hr
  rw [hr] at hZ ⊢
  have HZ : Hid (W.heap[r]? = some (.cells #[.int .i64 0, .int .i64 0, .int .i64 0, .int .i64 0, .int .i64 0, .int .i64 0, .int .i64 0, .int .i64 0, .int .i64 0, .string (str []), .slice none 0 0] 24 (0, 0))) := hZ
  have hrp : r ≠ p := by omega
  have HP : Hid (p < w.heap.size) := hpl
  clear hW b0 hZ hr HR
  go_upto_region 2 with (first
    | (go_at_call 38; refine (rct_most HR0.out HS.out G.out H0.out).mono ?_; rintro rr w1 ⟨rfl, hr, hf⟩; have R1 : Hid (Rd w1 p s a0 e0) := hr; have F1 : Hid (Fr W w1 (fun k => k = p)) := hf; clear hr hf HR0)
    | (go_at_call 38; refine (rct_most R1.out HS.out G0.out H1.out).mono ?_; rintro rr w2 ⟨rfl, hr, hf⟩; have R2 : Hid (Rd w2 p s a1 e1) := hr; have F2 : Hid (Fr W w2 (fun k => k = p)) := F1.out.trans hf (fun _ _ h => h); clear hr hf R1)
    | (go_at_call 38; refine (rct_most R2.out HS.out G1.out H2.out).mono ?_; rintro rr w3 ⟨rfl, hr, hf⟩; have R3 : Hid (Rd w3 p s a2 e2) := hr; have F3 : Hid (Fr W w3 (fun k => k = p)) := F2.out.trans hf (fun _ _ h => h); clear hr hf R2)
    | (go_at_call 38; refine (rct_most R3.out HS.out G2.out H3.out).mono ?_; rintro rr w4 ⟨rfl, hr, hf⟩; have R4 : Hid (Rd w4 p s a3 e3) := hr; have F4 : Hid (Fr W w4 (fun k => k = p)) := F3.out.trans hf (fun _ _ h => h); clear hr hf R3))
  generalize hW2 : World.alloc _ _ = W2
  have b2 : Below w4.heap.size w4 W2 := by rw [← hW2]; exact vone_new _ _
  have hX : W2.heap[w4.heap.size]? = some (.cells #[.int .i64 n0, .int .i64 n1, .int .i64 n2, .int .i64 n3, .int .i64 0, .int .i64 0, .int .i64 0, .int .i64 0, .int .i64 0, .string (str []), .slice none 0 0] 24 (0, 0)) := by rw [← hW2]; exact heap_alloc_new _ _
  have hz4 := (F4.out.block r (vlt_blk HZ.out) hrp).trans HZ.out
  obtain ⟨q, hq⟩ : ∃ q, w4.heap.size = q := ⟨_, rfl⟩
  have hrq : r < q := by have := vlt_blk hz4; omega
  have hzz := (b2.block r (vlt_blk hz4)).trans hz4
  have hff := (F0.out.trans F4.out (fun _ _ h => h)).trans (Fr.ofBelow b2 (fun k => k = p)) (fun _ _ h => h)
  have hrr := (b2.block p (vlt_blk R4.out)).trans R4.out
  rw [hq] at hX ⊢
  have T4 : Hid (TM w W2 p r q s a3 e3 #[.int .i64 n0, .int .i64 n1, .int .i64 n2, .int .i64 n3, .int .i64 0, .int .i64 0, .int .i64 0, .int .i64 0, .int .i64 0, .string (str []), .slice none 0 0]) := ⟨hrr, hzz, hX, hff, HP.out, HQ.out, hrq⟩
  clear hW2 b2 hX hz4 hzz hff hrr hq R4 F0 F1 F2 F3 F4 HZ
  go_upto_region 3 with (first
    | (go_at_call 38; refine (rct_most T4.out.rd HS.out G3.out H4.out).mono ?_; rintro rr w5 ⟨rfl, hr, hf⟩; have T5 : Hid (TM w w5 p r q s a4 e4 #[.int .i64 n0, .int .i64 n1, .int .i64 n2, .int .i64 n3, .int .i64 0, .int .i64 0, .int .i64 0, .int .i64 0, .int .i64 0, .string (str []), .slice none 0 0]) := T4.out.read hr hf; clear hr hf)
    | (go_at_call 38; refine (rct_most T5.out.rd HS.out G4.out H5.out).mono ?_; rintro rr w6 ⟨rfl, hr, hf⟩; have T6 : Hid (TM w w6 p r q s a5 e5 #[.int .i64 n0, .int .i64 n1, .int .i64 n2, .int .i64 n3, .int .i64 0, .int .i64 0, .int .i64 0, .int .i64 0, .int .i64 0, .string (str []), .slice none 0 0]) := T5.out.read hr hf; clear hr hf)
    | (go_at_call 38; refine (rct_most T6.out.rd HS.out G5.out H6.out).mono ?_; rintro rr w7 ⟨rfl, hr, hf⟩; have T7 : Hid (TM w w7 p r q s a6 e6 #[.int .i64 n0, .int .i64 n1, .int .i64 n2, .int .i64 n3, .int .i64 0, .int .i64 0, .int .i64 0, .int .i64 0, .int .i64 0, .string (str []), .slice none 0 0]) := T6.out.read hr hf; clear hr hf; have hbx := T7.out.box; obtain ⟨x0, x1, x2, x3, x4, x5, x6, x7, x8, x9, x10⟩ := vmbox hbx; have f4 := vfree hbx 4; have f5 := vfree hbx 5; have f6 := vfree hbx 6; clear hbx))
  generalize hW3 : World.setCell _ _ _ = W3
  have T7b : Hid (TM w W3 p r q s a6 e6 #[.int .i64 n0, .int .i64 n1, .int .i64 n2, .int .i64 n3, .int .i64 n4, .int .i64 n5, .int .i64 n6, .int .i64 0, .int .i64 0, .string (str []), .slice none 0 0]) := by rw [← hW3]; exact ((T7.out.set 4 _).set 5 _).set 6 _
  clear hW3 T4 T5 T6 T7 x0 x1 x2 x3 x4 x5 x6 x7 x8 x9 x10 f4 f5 f6
  go_upto_region 4 with (first
    | (go_at_call 38; refine (rct_most T7b.out.rd HS.out G6.out H7.out).mono ?_; rintro rr w8 ⟨rfl, hr, hf⟩; have T8 : Hid (TM w w8 p r q s a7 e7 #[.int .i64 n0, .int .i64 n1, .int .i64 n2, .int .i64 n3, .int .i64 n4, .int .i64 n5, .int .i64 n6, .int .i64 0, .int .i64 0, .string (str []), .slice none 0 0]) := T7b.out.read hr hf; clear hr hf)
    | (go_at_call 38; refine (rct_most T8.out.rd HS.out G7.out H8.out).mono ?_; rintro rr w9 ⟨rfl, hr, hf⟩; have T9 : Hid (TM w w9 p r q s a8 e8 #[.int .i64 n0, .int .i64 n1, .int .i64 n2, .int .i64 n3, .int .i64 n4, .int .i64 n5, .int .i64 n6, .int .i64 0, .int .i64 0, .string (str []), .slice none 0 0]) := T8.out.read hr hf; clear hr hf)
    | (go_at_call 39; refine (rtx T9.out.rd HS.out G8.out H9.out).mono ?_; rintro rr w10 ⟨rfl, hr, hf⟩; have T10 : Hid (TM w w10 p r q s a9 e9 #[.int .i64 n0, .int .i64 n1, .int .i64 n2, .int .i64 n3, .int .i64 n4, .int .i64 n5, .int .i64 n6, .int .i64 0, .int .i64 0, .string (str []), .slice none 0 0]) := T9.out.read hr hf; clear hr hf; have hbx := T10.out.box; obtain ⟨x0, x1, x2, x3, x4, x5, x6, x7, x8, x9, x10⟩ := vmbox hbx; have f7 := vfree hbx 7; have f8 := vfree hbx 8; have f9 := vfree hbx 9; clear hbx))
  generalize hW4 : World.setCell _ _ _ = W4
  have TA : Hid (TM w W4 p r q s a9 e9 #[.int .i64 n0, .int .i64 n1, .int .i64 n2, .int .i64 n3, .int .i64 n4, .int .i64 n5, .int .i64 n6, .int .i64 n7, .int .i64 n8, .string t, .slice none 0 0]) := by rw [← hW4]; exact ((T10.out.set 7 _).set 8 _).set 9 _
  clear hW4 T7b T8 T9 T10 x0 x1 x2 x3 x4 x5 x6 x7 x8 x9 x10 f7 f8 f9
  go_upto_block 0 with (go_at_call 38; refine (rct_k TA.out.rd HS.out G9.out H10.out).mono ?_; rintro rr w11 ⟨rfl, hr, hf⟩; have TB : Hid (TM w w11 p r q s a10 e10 #[.int .i64 n0, .int .i64 n1, .int .i64 n2, .int .i64 n3, .int .i64 n4, .int .i64 n5, .int .i64 n6, .int .i64 n7, .int .i64 n8, .string t, .slice none 0 0]) := TA.out.read hr hf; clear hr hf)
  clear TA
  go_cut [33] (fun _ wx => ∃ v, TM w wx p r q s aF eF #[.int .i64 n0, .int .i64 n1, .int .i64 n2, .int .i64 n3, .int .i64 n4, .int .i64 n5, .int .i64 n6, .int .i64 n7, .int .i64 n8, .string t, v] ∧ EnO wx 0 v L ∧ ∀ k, v.ownBlock = some k → w.heap.size < k ∧ k ≠ q)
  case first =>
    go_wp2
    go_loopw [33] (fun i wr => ∃ (j aa : Nat) (ee : Int) (v : Value) (L0 : List Ent), j ≤ c ∧ i = .int .i64 j ∧ TM w wr p r q s aa ee #[.int .i64 n0, .int .i64 n1, .int .i64 n2, .int .i64 n3, .int .i64 n4, .int .i64 n5, .int .i64 n6, .int .i64 n7, .int .i64 n8, .string t, v] ∧ EnO wr 0 v L0 ∧ (∀ k, v.ownBlock = some k → w.heap.size < k ∧ k ≠ q) ∧ rdVE s (c - j) aa ee L0 = (L, aF, eF) ∧ aa ≤ s.size ∧ L0.length = j) (fun i _ => c - (intOf i).toNat)
    case atStart => exact ⟨0, a10, e10, _, [], Nat.zero_le _, rfl, TB.out, EnO.nil _ _, fun k hk => (by cases hk), HFF.out, G10.out, rfl⟩
    case round =>
      obtain ⟨j, aa, ee, v, L0, hj, rfl, hT, hE, hO, hV, hA, hl⟩ := hrel
      by_cases hlt : j < c
      · obtain ⟨vo, vc, rfl, -, -⟩ := hE.shape
        rw [hl] at hT hE hO
        obtain ⟨⟨m1, b1, d1⟩, g1⟩ : ∃ z, rdCount s aa ee 2147483647 = z := ⟨_, rfl⟩
        obtain ⟨⟨m2, b2, d2⟩, g2⟩ : ∃ z, rdText s b1 d1 = z := ⟨_, rfl⟩
        have hb1 := (rdCount_to (most := 2147483647) hA g1).1
        have hb2 := rdText_leV hb1 g2
        have HV2 : Hid (rdVE s (c - (j + 1)) b2 d2 (L0 ++ [okE m1 m2 d2]) = (L, aF, eF)) := by
          show _ = _
          rw [← hV, show c - j = (c - (j + 1)) + 1 by omega, rdVE_step g1 g2]
        have HTk : Hid (∀ W, Rd W p s aa ee → Calls Try.prog 19 #[.pointer (some ⟨p, 0, none⟩)] W fun r w' => r = .returned (.agg #[.int .i64 (okE m1 m2 d2).v, .string (okE m1 m2 d2).s]) ∧ Rd w' p s b2 d2 ∧ Fr W w' (fun k => k = p)) := fun W h => takeE_any h HS.out hA g1 g2
        generalize okE m1 m2 d2 = y at HV2 HTk
        have hjI : (j : Int) < c := by omega
        have HT : Hid (TM w wr p r q s aa ee #[.int .i64 n0, .int .i64 n1, .int .i64 n2, .int .i64 n3, .int .i64 n4, .int .i64 n5, .int .i64 n6, .int .i64 n7, .int .i64 n8, .string t, .slice vo j vc]) := hT
        have HE : Hid (EnO wr 0 (.slice vo j vc) L0) := hE
        have HO : Hid (∀ k, (Value.slice vo j vc).ownBlock = some k → w.heap.size < k ∧ k ≠ q) := hO
        have HB2 : Hid (b2 ≤ s.size) := hb2
        have HL : Hid (L0.length = j) := hl
        clear hT hE hO hV hA hb1 hb2 g1 g2 hl
        go_upto_region 6 with (fail)
        obtain ⟨Wd, hWd⟩ : ∃ Wd, wr.drew = Wd := ⟨_, rfl⟩
        have bd : Below wr.heap.size wr Wd := by rw [← hWd]; exact Below.drew (Below.refl _ _)
        have TD : Hid (TM w Wd p r q s aa ee #[.int .i64 n0, .int .i64 n1, .int .i64 n2, .int .i64 n3, .int .i64 n4, .int .i64 n5, .int .i64 n6, .int .i64 n7, .int .i64 n8, .string t, .slice vo j vc]) := HT.out.new bd
        have ED : Hid (EnO Wd 0 (.slice vo j vc) L0) := HE.out.new bd
        obtain ⟨_, _, _, _, _, _, _, _, _, _, x10⟩ := vmbox TD.out.box
        clear bd HT HE
        refine wp_calmV ?_
        refine wp_region_L [7] (fun w' : World => w'.cell? ⟨q, 10, none⟩ = some (.slice vo j vc)) (by kernel_rfl) ?_
        rw [hWd]
        clear hWd
        have hS : (fun w' : World => w'.cell? ⟨q, 10, none⟩ = some (.slice vo j vc)) Wd := x10
        refine wpAnyL_take (i := 0) 35 (v := .pointer (some ⟨q, 10, none⟩)) rfl rfl (by kernel_rfl) (by kernel_rfl) (by kernel_rfl) (by kernel_rfl) (by kernel_rfl) (by kernel_rfl) (fun _ _ _ h => h) hS (by rfl) (by intro w' hSw; have y0 := hSw; go_simp <;> with_reducible rfl) ?_
        simp only [Act.put, List.setIfInBounds_toArray, List.set_cons_zero, List.set_cons_succ]
        refine wpAnyL_take (i := 1) 36 (v := .slice vo j vc) rfl rfl (by kernel_rfl) (by kernel_rfl) (by kernel_rfl) (by kernel_rfl) (by kernel_rfl) (by kernel_rfl) (fun _ _ _ h => h) hS (by rfl) (by intro w' hSw; have y0 := hSw; go_simp <;> with_reducible rfl) ?_
        simp only [Act.put, List.setIfInBounds_toArray, List.set_cons_zero, List.set_cons_succ]
        refine wpAnyL_take (i := 2) 37 (v := .pointer (some ⟨p, 0, none⟩)) rfl rfl (by kernel_rfl) (by kernel_rfl) (by kernel_rfl) (by kernel_rfl) (by kernel_rfl) (by kernel_rfl) (fun _ _ _ h => h) hS (by rfl) (by intro w' hSw; have y0 := hSw; go_simp <;> with_reducible rfl) ?_
        simp only [Act.put, List.setIfInBounds_toArray, List.set_cons_zero, List.set_cons_succ]
        refine wpAnyL_one (i := 3) (by kernel_rfl) rfl (fun Ka hKa => ?_)
        go_simp
        refine Calls.mono (HTk.out _ TD.out.rd) ?_
        rintro rr w3 ⟨rfl, hr3, hf3⟩
        have T3 : Hid (TM w w3 p r q s b2 d2 #[.int .i64 n0, .int .i64 n1, .int .i64 n2, .int .i64 n3, .int .i64 n4, .int .i64 n5, .int .i64 n6, .int .i64 n7, .int .i64 n8, .string t, .slice vo j vc]) := TD.out.read hr3 hf3
        have E3 : Hid (EnO w3 0 (.slice vo j vc) L0) := ED.out.kept hf3 (fun k hk e => by have := HO.out k hk; have := TD.out.pw; omega)
        obtain ⟨_, _, _, _, _, _, _, _, _, _, y10⟩ := vmbox T3.out.box
        refine hKa.out _ _ (fun _ => y10) ?_
        clear hKa Ka hr3 hf3 hS x10
        try simp only [Act.put, List.setIfInBounds_toArray, List.set_cons_zero, List.set_cons_succ]
        refine wpAnyL_one (i := 4) (by kernel_rfl) rfl (fun Ka hKa => ?_)
        go_simp
        obtain ⟨V0, hV0⟩ : ∃ V0, w3.alloc (.cells #[.int .i64 y.v, .string y.s] 31) = V0 := ⟨_, rfl⟩
        have b4 : Below w3.heap.size w3 V0 := by rw [← hV0]; exact vone_new _ _
        have hSr : V0.heap[w3.heap.size]? = some (.cells #[.int .i64 y.v, .string y.s] 31 (0, 0)) := by rw [← hV0]; exact heap_alloc_new _ _
        have HSrc : Hid (EnS V0 (.slice (some ⟨w3.heap.size, 0, none⟩) 1 1) [y]) := by
          refine ⟨_, 1, rfl, Nat.le_refl _, fun _ => ⟨w3.heap.size, 0, rfl, fun j hj => ?_⟩⟩
          obtain rfl : j = 0 := by simpa using hj
          exact ⟨vcell_blk hSr, vcell_blk hSr⟩
        have T4' : Hid (TM w V0 p r q s b2 d2 #[.int .i64 n0, .int .i64 n1, .int .i64 n2, .int .i64 n3, .int .i64 n4, .int .i64 n5, .int .i64 n6, .int .i64 n7, .int .i64 n8, .string t, .slice vo j vc]) := T3.out.new b4
        have E4 : Hid (EnO V0 0 (.slice vo j vc) L0) := E3.out.new b4
        have HVs : Hid (w.heap.size ≤ V0.heap.size ∧ q < V0.heap.size) := ⟨T4'.out.fr.size, vlt_blk T4'.out.box⟩
        obtain ⟨_, _, _, _, _, _, _, _, _, _, z10⟩ := vmbox T4'.out.box
        rw [hV0]
        refine hKa.out _ _ (fun _ => z10) ?_
        clear hKa Ka hV0 b4 hSr y10
        try simp only [Act.put, List.setIfInBounds_toArray, List.set_cons_zero, List.set_cons_succ]
        refine wpAnyL_one (i := 5) (by kernel_rfl) rfl (fun Ka hKa => ?_)
        refine stp_appV rfl (.tmp 36) (.tmp 39) rfl (R := L0) (S := [y]) rfl rfl E4.out HSrc.out (by have := HL.out; simp; omega) (Nat.zero_le _) ?_
        intro v1 w5 hE5 hF5 hX5
        obtain ⟨a1', c1', ev1, -, -⟩ := hE5.shape
        rw [List.length_append, HL.out] at ev1
        rw [show j + ([y] : List Ent).length = j + 1 from rfl] at ev1
        subst ev1
        have T5' : Hid (TM w w5 p r q s b2 d2 #[.int .i64 n0, .int .i64 n1, .int .i64 n2, .int .i64 n3, .int .i64 n4, .int .i64 n5, .int .i64 n6, .int .i64 n7, .int .i64 n8, .string t, .slice vo j vc]) := T4'.out.kept hF5 HO.out
        have hbx := T5'.out.box
        obtain ⟨_, _, _, _, _, _, _, _, _, _, u10⟩ := vmbox hbx
        have fz10 := vfree hbx 10
        refine hKa.out _ _ (fun _ => u10) ?_
        have HE5 : Hid (EnO w5 0 (.slice a1' (j + 1) c1') (L0 ++ [y])) := hE5
        have HX5 : Hid (∀ k, (Value.slice a1' (j + 1) c1').ownBlock = some k → w.heap.size < k ∧ k ≠ q) := fun k hk => by
          rcases hX5 k hk with h | h
          · exact HO.out k h
          · have := HVs.out
            have h6 := T5'.out.rq
            have h7 := T5'.out.wr
            constructor <;> omega
        clear hKa Ka hE5 hF5 hX5 hbx z10
        try simp only [Act.put, List.setIfInBounds_toArray, List.set_cons_zero, List.set_cons_succ]
        refine wpAnyL_one (i := 6) (by kernel_rfl) rfl (fun Ka hKa => ?_)
        go_simp
        refine hKa.out _ _ (fun _ => u10) ?_
        clear hKa Ka
        try simp only [Act.put, List.setIfInBounds_toArray, List.set_cons_zero, List.set_cons_succ]
        refine wpAnyL_one (i := 7) (by kernel_rfl) rfl (fun Ka hKa => ?_)
        go_simp
        refine hKa.out _ _ (fun h => absurd h (Bool.eq_false_iff.1 (by kernel_rfl))) ?_
        clear hKa Ka
        refine wpAnyL_done (by kernel_rfl) ?_ _
        generalize hW6 : World.setCell _ _ _ = W6
        have T6' : Hid (TM w W6 p r q s b2 d2 #[.int .i64 n0, .int .i64 n1, .int .i64 n2, .int .i64 n3, .int .i64 n4, .int .i64 n5, .int .i64 n6, .int .i64 n7, .int .i64 n8, .string t, (.slice a1' (j + 1) c1')]) := by rw [← hW6]; exact T5'.out.set 10 _
        have E6 : Hid (EnO W6 0 (.slice a1' (j + 1) c1') (L0 ++ [y])) := by
          rw [← hW6]
          exact HE5.out.kept (Fr.setCell (S := fun k => k = q) _ ⟨q, 10, none⟩ _ rfl) (fun k hk e => (HX5.out k hk).2 e)
        clear hW6 u10 fz10 T5' HE5
        go_wp2
        go_roundw
        case rel => exact ⟨j + 1, b2, d2, _, _, by omega, by go_num, T6'.out, E6.out, HX5.out, HV2.out, HB2.out, by rw [List.length_append, HL.out]; rfl⟩
        case measure => simp [intOf]; omega
      · obtain rfl : j = c := by omega
        rw [Nat.sub_self] at hV
        simp only [rdVE, Prod.mk.injEq] at hV
        obtain ⟨rfl, rfl, rfl⟩ := hV
        have HTT : Hid _ := hT
        have HEE : Hid (EnO wr 0 v L0) := hE
        have HOO : Hid _ := hO
        clear hT hE hO hl
        go_wp2
        go_meet
        exact ⟨v, HTT.out, HEE.out, HOO.out⟩
  case rest =>
    obtain ⟨v, hT, hE, hO⟩ := hcut
    obtain ⟨vo, vc, rfl, -, -⟩ := hE.shape
    obtain ⟨nl, hnl⟩ : ∃ nl, L.length = nl := ⟨_, rfl⟩
    rw [hnl] at hT hE hO
    have HT : Hid (TM w wc p r q s aF eF #[.int .i64 n0, .int .i64 n1, .int .i64 n2, .int .i64 n3, .int .i64 n4, .int .i64 n5, .int .i64 n6, .int .i64 n7, .int .i64 n8, .string t, .slice vo nl vc]) := hT
    have HE : Hid (EnO wc 0 (.slice vo nl vc) L) := hE
    have HO : Hid (∀ k, (Value.slice vo nl vc).ownBlock = some k → w.heap.size < k ∧ k ≠ q) := hO
    obtain ⟨z0, z1, z2, z3, z4, z5, z6, z7, z8, z9, z10⟩ := vmbox hT.res
    obtain ⟨x0, x1, x2, x3, x4, x5, x6, x7, x8, x9, x10⟩ := vmbox hT.box
    have hres := hT.res
    have f0 := vfree hres 0
    have f1 := vfree hres 1
    have f2 := vfree hres 2
    have f3 := vfree hres 3
    have f4 := vfree hres 4
    have f5 := vfree hres 5
    have f6 := vfree hres 6
    have f7 := vfree hres 7
    have f8 := vfree hres 8
    have f9 := vfree hres 9
    have f10 := vfree hres 10
    clear hT hE hO hnl hres TB HFF
    have hRes := HT.out.res
    have HRes : Hid _ := hRes
    have HBox : Hid _ := HT.out.box
    have HFin : Hid (∀ cs, Rd (wc.setRow r cs) p s aF eF ∧ Fr w (wc.setRow r cs) (fun k => k = p)) := fun cs => by
      have k1 := HT.out.pw
      have k2 := HT.out.wr
      have f := vfr_setRow wc r cs
      exact ⟨(f.block p (vlt_blk HT.out.rd) (by omega)).trans HT.out.rd, HT.out.fr.trans f (fun i hi e => by omega)⟩
    clear hRes
    by_cases he : eF = 0
    · subst he
      go_wp2_with (first
        | (go_at_call 20; refine (err_any HT.out.rd).mono ?_; rintro rr wd ⟨rfl, hwd⟩; subst hwd)
        | (refine wpList_load_row rfl 24 _ rfl q rfl 24 #[.int .i64 n0, .int .i64 n1, .int .i64 n2, .int .i64 n3, .int .i64 n4, .int .i64 n5, .int .i64 n6, .int .i64 n7, .int .i64 n8, .string t, .slice vo nl vc] (0, 0) _ HT.out.box Try.underlying24 rfl size_vm ?_)
        | (refine wpList_store_row rfl 24 _ _ rfl r #[.int .i64 n0, .int .i64 n1, .int .i64 n2, .int .i64 n3, .int .i64 n4, .int .i64 n5, .int .i64 n6, .int .i64 n7, .int .i64 n8, .string t, .slice vo nl vc] rfl rfl 24 #[.int .i64 0, .int .i64 0, .int .i64 0, .int .i64 0, .int .i64 0, .int .i64 0, .int .i64 0, .int .i64 0, .int .i64 0, .string (str []), .slice none 0 0] HT.out.res size_vm rfl (by simp [Value.oneCell']) ?_))
      refine bodyPost_ret (v := .agg #[.int .i64 n0, .int .i64 n1, .int .i64 n2, .int .i64 n3, .int .i64 n4, .int .i64 n5, .int .i64 n6, .int .i64 n7, .int .i64 n8, .string t, .slice vo nl vc]) (results_cell_row Try.results15 _ _ r 24 _ (0, 0) _ rfl (setRow_heap _ _ _ _ _ _ HT.out.res) Try.underlying24 rfl size_vm) rfl ?_
      obtain ⟨k1, k2⟩ := HFin.out #[.int .i64 n0, .int .i64 n1, .int .i64 n2, .int .i64 n3, .int .i64 n4, .int .i64 n5, .int .i64 n6, .int .i64 n7, .int .i64 n8, .string t, .slice vo nl vc]
      have k3 := HT.out.wr
      exact ⟨⟨_, rfl, (HE.out.kept (vfr_setRow _ r _) (fun k hk e => by have := HO.out k hk; omega)).high (fun k hk => Nat.le_of_lt (HO.out k hk).1)⟩, k1, k2⟩
    · have heb : (eF == 0) = false := by simpa using he
      have hec : (eF != 0) = true := by simpa using he
      have HNe : Hid (eF ≠ 0) := he
      go_wp2_with (first
        | (go_at_call 20; refine (err_any HT.out.rd).mono ?_; rintro rr wd ⟨rfl, hwd⟩; subst hwd)
        | (refine wpList_store_row rfl 24 _ _ rfl r #[.int .i64 0, .int .i64 0, .int .i64 0, .int .i64 0, .int .i64 0, .int .i64 0, .int .i64 0, .int .i64 0, .int .i64 0, .string (str []), .slice none 0 0] rfl rfl 24 #[.int .i64 0, .int .i64 0, .int .i64 0, .int .i64 0, .int .i64 0, .int .i64 0, .int .i64 0, .int .i64 0, .int .i64 0, .string (str []), .slice none 0 0] HT.out.res size_vm rfl (by simp [Value.oneCell']) ?_))
      refine bodyPost_ret (v := .agg #[.int .i64 0, .int .i64 0, .int .i64 0, .int .i64 0, .int .i64 0, .int .i64 0, .int .i64 0, .int .i64 0, .int .i64 0, .string (str []), .slice none 0 0]) (results_cell_row Try.results15 _ _ r 24 _ (0, 0) _ rfl (setRow_heap _ _ _ _ _ _ HT.out.res) Try.underlying24 rfl size_vm) rfl ?_
      obtain ⟨k1, k2⟩ := HFin.out #[.int .i64 0, .int .i64 0, .int .i64 0, .int .i64 0, .int .i64 0, .int .i64 0, .int .i64 0, .int .i64 0, .int .i64 0, .string (str []), .slice none 0 0]
      exact ⟨.inr ⟨HNe.out, rfl⟩, k1, k2⟩
end Go.Proofs.Ytckjjajncgmddaa
