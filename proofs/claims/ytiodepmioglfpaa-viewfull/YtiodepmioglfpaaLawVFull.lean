/- The walk of the statement on a full log. -/
import Derived.Test.YtiodepmioglfpaaVwAl
import Derived.Test.YtiodepmioglfpaaVwCp
import Derived.Test.YtiodepmioglfpaaVwNil
import Derived.Laws.BitsAll
namespace Go.Proofs.Ytiodepmioglfpaa
open Go.RowKit Go.Maps
attribute [local go_sem] Oper.semAt_some
theorem Alone.packed {A : Nd} (h : Alone A) {j : Nat} {e : Ent} {s : ByteArray} (hj : j ≤ A.log.length) (hb : A.bi + j ≤ 2147483647) : Alone (A.packed j e s) := by
  have ok := h.ok
  have hl : (A.packed j e s).last = A.last := by
    show A.bi + (j : Int) + ((A.log.drop j).length : Int) = A.bi + (A.log.length : Int)
    rw [List.length_drop]
    omega
  refine ⟨⟨ok.all0, ok.all1, ok.me0, ok.me1, ok.nm0, ok.nmv, ok.vw1, ?_, hb, ?_, ?_, ?_, ok.tk0⟩, h.all, h.me, h.vw, h.nm, ?_, h.up⟩
  · show 0 ≤ A.bi + (j : Int)
    have := ok.bi0
    omega
  · show (A.log.drop j).length ≤ 1000
    rw [List.length_drop]
    have := ok.len
    omega
  · show A.bi + (j : Int) ≤ A.cm
    have := h.cm
    unfold Nd.last at this
    omega
  · rw [hl]; exact ok.cm1
  · rw [hl]; exact h.cm
section
variable {w : World} {B p : Nat} {A : Nd}
theorem compact_alone (h : AL w B p A) (hB : B ≤ w.heap.size) {ix : Int} {j : Nat} (hj : j < A.log.length) (hix : ix - A.bi - 1 = j) (hb : A.bi + ((j + 1 : Nat) : Int) ≤ 2147483647) (s : ByteArray) : Calls Try.prog 33 #[.pointer (some ⟨p, 0, none⟩), .int .i64 ix, .string s] w fun r w' => r = .returned (.bool true) ∧ AL w' B p (A.packed (j + 1) A.log[j] s) ∧ Below B w w' := by
  obtain ⟨⟨lv, mw, mg, mu, mk, hN⟩, hA⟩ := h
  have hc : ix ≤ A.cm := by rw [hA.cm]; unfold Nd.last; omega
  refine (compact_yes hN hA.ok hj hix hc s).mono ?_
  rintro r w' ⟨rfl, hN', hF⟩
  refine ⟨rfl, ⟨hN'.mono (fun k _ h => ?_), hA.packed (by omega) hb⟩, hF.below hB (fun k h => ?_)⟩
  · rcases h with h | h
    · exact h
    · exact Nat.le_trans hB h
  · rcases h with rfl | h
    · exact hN.sp
    · exact hN.sl k h
end
theorem and7 (a : Int) : ∃ k : Nat, k ≤ 7 ∧ bits BinOp.and IntKind.i64 a 7 = k := by
  have h : (BitVec.ofInt IntKind.i64.bits a &&& BitVec.ofInt IntKind.i64.bits 7).toNat ≤ 7 := by
    rw [BitVec.toNat_and]
    exact Nat.le_trans Nat.and_le_right (by decide)
  refine ⟨(BitVec.ofInt IntKind.i64.bits a &&& BitVec.ofInt IntKind.i64.bits 7).toNat, h, ?_⟩
  show IntKind.i64.wrap ((BitVec.ofInt IntKind.i64.bits a &&& BitVec.ofInt IntKind.i64.bits 7).toNat : Int) = _
  exact IntWalk.i64_in _ (by omega)
/-- The entries that were laid first. -/
def exs (j : Nat) : List Ent := List.replicate j ⟨0, str [120]⟩
structure FlI (w wr : World) (q : Nat) (lv : Value) (j : Nat) : Prop where
  box : wr.heap[q]? = some (.cells #[.int .i64 0, .int .i64 0, .int .i64 0, .int .i64 0, .string (str []), lv] 49 (0, 0))
  row : EnO wr 0 lv (exs j)
  own : ∀ k, lv.ownBlock = some k → w.heap.size ≤ k ∧ k ≠ q
  low : Below w.heap.size w wr
theorem FlI.step {w wr w1 w2 : World} {q : Nat} {lv lv' : Value} {j : Nat} {o : Obj} (h : FlI w wr q lv j) (hq : w.heap.size ≤ q) (hE : EnO w1 0 lv' (exs j ++ [⟨0, str [120]⟩])) (hF : Fr (wr.alloc o) w1 (fun k => lv.ownBlock = some k)) (hX : ∀ k, lv'.ownBlock = some k → lv.ownBlock = some k ∨ (wr.alloc o).heap.size ≤ k) (h2 : w1.setCell ⟨q, 5, none⟩ lv' = w2) : FlI w w2 q lv' (j + 1) := by
  have hql := vlt_blk h.box
  have f0 : Fr wr w1 (fun k => lv.ownBlock = some k) := (Fr.alloc wr o _).trans hF (fun _ _ h => h)
  have b1 := (f0.block q hql (fun e => (h.own q e).2 rfl)).trans h.box
  have fs : Fr w1 w2 (fun k => k = q) := by rw [← h2]; exact Fr.setCell (S := fun k => k = q) _ ⟨q, 5, none⟩ _ rfl
  have hs : (wr.alloc o).heap.size = wr.heap.size + 1 := by simp
  have hls := h.low.size
  have hown : ∀ k, lv'.ownBlock = some k → w.heap.size ≤ k ∧ k ≠ q := fun k hk => by
    rcases hX k hk with e | e
    · exact h.own k e
    · omega
  refine ⟨by rw [← h2]; exact vblk_set (i := 5) _ b1, ?_, hown, ?_⟩
  · have e : exs (j + 1) = exs j ++ [⟨0, str [120]⟩] := by unfold exs; rw [List.replicate_succ']
    rw [e]
    exact hE.kept fs (fun k hk e => (hown k hk).2 e)
  · have l1 : Below w.heap.size w w1 := h.low.trans (f0.below hls (fun k hk => (h.own k hk).1))
    exact l1.trans (fs.below l1.size (fun k e => by omega))
theorem heap_alloc_lt (w : World) (o : Obj) {k : Nat} (h : k < w.heap.size) : (w.alloc o).heap[k]? = w.heap[k]? := (vone_new w o).block k h
theorem exs_len (j : Nat) : (exs j).length = j := by simp [exs]
/-- Between two proposals. -/
structure PrI (w wr : World) (q p : Nat) (A : Nd) (n : Nat) : Prop where
  al : AL wr q p A
  bi : A.bi = 0
  len : A.log.length = n
  low : Below q w wr
theorem PrI.last {w wr : World} {q p : Nat} {A : Nd} {n : Nat} (h : PrI w wr q p A n) : A.last = n := by unfold Nd.last; rw [h.bi, h.len]; omega
theorem PrI.new {w wr W : World} {q p : Nat} {A : Nd} {n : Nat} (h : PrI w wr q p A n) (hq : w.heap.size = q) (hb : Below wr.heap.size wr W) : PrI w W q p A n := ⟨h.al.new hb, h.bi, h.len, h.low.trans (hb.mono (by have := h.low.size; omega))⟩
theorem PrI.step {w wr : World} {q p : Nat} {A : Nd} {n : Nat} (h : PrI w wr q p A n) (hq : w.heap.size = q) (hn : n < 1000) (s : ByteArray) : Calls Try.prog 32 #[.pointer (some ⟨p, 0, none⟩), .string s] wr fun r w' => r = .returned (.tuple #[.int .i64 ((n : Int) + 1), .slice none 0 0, .bool true]) ∧ PrI w w' q p (A.proposed s) (n + 1) := by
  have hs := h.low.size
  refine (propose_alone h.al (by omega) (by rw [h.len]; exact hn) s).mono ?_
  rintro r w' ⟨rfl, h1, h2⟩
  rw [h.last]
  refine ⟨rfl, h1, h.bi, ?_, h.low.trans h2⟩
  show (A.log ++ [⟨A.vw, s⟩] : List Ent).length = n + 1
  rw [List.length_append, h.len]
  rfl
set_option maxRecDepth 100000 in
set_option maxHeartbeats 2000000 in
theorem law_vfull (w : World) (more : Int) : Calls Try.prog 8 #[.int .i64 more] w fun r w' => r = .returned (.bool true) ∧ Below w.heap.size w w' := by
  obtain ⟨k, hk, hand⟩ := and7 more
  go_enter Try.func8, Try.ntmps8
  go_upto_region 2 with (fail)
  generalize hW : World.alloc _ _ = W
  have hI0 : FlI w W w.heap.size (.slice none 0 0) 0 := by
    rw [← hW]
    exact ⟨heap_alloc_new _ _, EnO.nil _ _, fun k hk => (by cases hk), vone_new _ _⟩
  have HI0 : Hid (FlI w W w.heap.size (.slice none 0 0) 0) := hI0
  obtain ⟨q, hq⟩ : ∃ q, w.heap.size = q := ⟨_, rfl⟩
  rw [hq] at HI0 ⊢
  have HQ : Hid (w.heap.size = q) := hq
  clear hW hI0 hq
  have hkI : (k : Int) ≤ 7 := by omega
  have hk0 : (0 : Int) ≤ k := by omega
  go_upto_block 0 with (fail)
  clear hand
  obtain ⟨n0, hn0⟩ : ∃ n0, 999 - k = n0 := ⟨_, rfl⟩
  have HN0 : Hid (999 - k = n0) := hn0
  have hnI : (1000 : Int) - ((k : Int) + 1) = n0 := by omega
  have HNI : Hid ((1000 : Int) - ((k : Int) + 1) = n0) := hnI
  clear hn0 hnI
  go_cut [5] (fun _ wx => ∃ lv, FlI w wx q lv n0)
  case first =>
    go_wp2
    go_loopw [5] (fun i wr => ∃ (j : Nat) (lv : Value), j ≤ n0 ∧ i = .int .i64 j ∧ FlI w wr q lv j) (fun i _ => n0 - (intOf i).toNat)
    case atStart => exact ⟨0, _, Nat.zero_le _, rfl, HI0.out⟩
    case round =>
      obtain ⟨j, lv, hj, rfl, hI⟩ := hrel
      have HI : Hid (FlI w wr q lv j) := hI
      have hnI := HNI.out
      by_cases hlt : j < n0
      · obtain ⟨ao, cc, e, _⟩ := hI.row.shape
        rw [exs_len] at e
        subst e
        obtain ⟨_, _, _, _, _, c5⟩ := hbox6 hI.box
        have hjI : (j : Int) < 1000 - ((k : Int) + 1) := by omega
        have hql := vlt_blk hI.box
        have b0 : Below wr.heap.size wr (wr.alloc (.cells #[.int .i64 0, .string (str [120])] 31)) := vone_new _ _
        have HSrc : Hid (EnS (wr.alloc (.cells #[.int .i64 0, .string (str [120])] 31)) (.slice (some ⟨wr.heap.size, 0, none⟩) 1 1) [⟨0, str [120]⟩]) := by
          refine ⟨_, 1, rfl, Nat.le_refl _, fun _ => ⟨wr.heap.size, 0, rfl, fun j hj => ?_⟩⟩
          obtain rfl : j = 0 := by simpa using hj
          have := heap_alloc_new wr (.cells #[.int .i64 0, .string (str [120])] 31)
          exact ⟨vcell_blk this, vcell_blk this⟩
        have HRow : Hid (EnO (wr.alloc (.cells #[.int .i64 0, .string (str [120])] 31)) 0 (.slice ao j cc) (exs j)) := hI.row.new b0
        have hN0 := HN0.out
        have HLn : Hid ((exs j).length + ([⟨0, str [120]⟩] : List Ent).length ≤ 2000000000) := by show _ ≤ _; rw [exs_len]; simp; omega
        clear hI b0 hnI hN0
        go_wp2_with (at_builtin; refine wpl_appV rfl rfl rfl rfl HRow.out HSrc.out HLn.out (Nat.zero_le _) ?_)
        intro v' w1 hE hF hX
        have hq := HQ.out
        have hnq : ∀ k, (Value.slice ao j cc).ownBlock = some k → k ≠ q := fun k hk => (HI.out.own k hk).2
        have hb1 : w1.heap[q]? = some (.cells #[.int .i64 0, .int .i64 0, .int .i64 0, .int .i64 0, .string (str []), .slice ao j cc] 49 (0, 0)) := (hF.block q (by simp; omega) (fun e => hnq q e rfl)).trans ((heap_alloc_lt _ _ hql).trans HI.out.box)
        obtain ⟨_, _, _, _, _, d5⟩ := hbox6 hb1
        have f5 := hfree hb1 5
        obtain ⟨a1, c1, e1, _⟩ := hE.shape
        have hel : (exs j ++ ([⟨0, str [120]⟩] : List Ent)).length = j + 1 := by rw [List.length_append, exs_len]; rfl
        rw [hel] at e1
        subst e1
        clear hel
        have HSt : Hid (∀ W2, w1.setCell ⟨q, 5, none⟩ (.slice a1 (j + 1) c1) = W2 → FlI w W2 q (.slice a1 (j + 1) c1) (j + 1)) := fun W2 h2 => HI.out.step (by omega) hE hF (fun k hk => by rw [World.size_alloc]; exact hX k hk) h2
        clear hE hF hX hb1 hnq hq HRow HSrc HLn
        go_wp2
        go_roundw
        case rel => exact ⟨j + 1, _, by omega, by go_num, HSt.out _ rfl⟩
        case measure => simp [intOf]; omega
      · obtain rfl : j = n0 := by omega
        have hjI : (1000 : Int) - ((k : Int) + 1) ≤ j := by omega
        clear hI hnI
        go_wp2
        go_meet
        exact ⟨lv, HI.out⟩
  case rest =>
    obtain ⟨lv, hI⟩ := hcut
    have hq := HQ.out
    obtain ⟨c0, c1, c2, c3, c4, c5⟩ := hbox6 hI.box
    have hN0 := HN0.out
    have hmay : mayN 0 1 0 0 0 (exs n0).length = true := by rw [exs_len]; simp [mayN, mayI, numI]; omega
    obtain ⟨A0, hA0⟩ : ∃ A0, (Nd.born 0 1 0 0 0 0 (str []) (exs n0)).counted = A0 := ⟨_, rfl⟩
    have HNew : Hid (Calls Try.prog 25 #[.int .i64 0, .int .i64 1, .agg #[.int .i64 0, .int .i64 0, .int .i64 0, .int .i64 0, .string (str []), lv]] wc fun r w' => ∃ p, r = .returned (.tuple #[.pointer (some ⟨p, 0, none⟩), .int .i64 0]) ∧ PrI w w' q p A0 n0) := by
      refine (new_ok hI.row.toS hmay).mono ?_
      rintro r w' ⟨p, rfl, hN, hb⟩
      have hls := hI.low.size
      rw [hA0] at hN
      refine ⟨p, rfl, ⟨hN.mono (fun k _ h => ?_), by rw [← hA0]; exact Alone.born hmay⟩, by rw [← hA0]; rfl, by rw [← hA0]; exact exs_len n0, by rw [← hq]; exact hI.low.trans (hb.mono hls)⟩
      show q ≤ k
      omega
    clear hI hA0 hmay HI0 hN0 hq
    go_upto_region 8 with (go_at_call 25; refine Calls.mono HNew.out ?_; rintro r w7 ⟨p, rfl, hP7⟩; have HP7 : Hid (PrI w w7 q p A0 n0) := hP7; clear hP7)
    go_upto_block 2 with (go_at_call 11; refine (awake13 _).mono ?_; rintro r w8 ⟨rfl, hb8⟩; have HP8 : Hid (PrI w w8 q p A0 n0) := HP7.out.new HQ.out hb8; clear hb8)
    go_cut [8] (fun _ wx => ∃ A, PrI w wx q p A 1000)
    case first =>
      go_wp2
      go_loopw [8] (fun i wr => ∃ (j : Nat) (A : Nd), j ≤ k + 1 ∧ i = .int .i64 j ∧ PrI w wr q p A (n0 + j)) (fun i _ => k + 1 - (intOf i).toNat)
      case atStart => exact ⟨0, _, Nat.zero_le _, rfl, HP8.out⟩
      case round =>
        obtain ⟨j, A, hj, rfl, hP⟩ := hrel
        have HP : Hid (PrI w wr q p A (n0 + j)) := hP
        have hN0 := HN0.out
        by_cases hlt : j < k + 1
        · have hjI : (j : Int) < (k : Int) + 1 := by omega
          have HSt : Hid (Calls Try.prog 32 #[.pointer (some ⟨p, 0, none⟩), .string (str [121])] wr fun r w' => r = .returned (.tuple #[.int .i64 (1000 - ((k : Int) + 1) + j + 1), .slice none 0 0, .bool true]) ∧ PrI w w' q p (A.proposed (str [121])) (n0 + (j + 1))) := by
            have := hP.step HQ.out (by omega) (str [121])
            have e : ((n0 + j : Nat) : Int) + 1 = 1000 - ((k : Int) + 1) + j + 1 := by omega
            rw [e] at this
            exact this
          clear hP hN0
          go_wp2_with (go_at_call 32; refine Calls.mono HSt.out ?_; rintro r w9 ⟨rfl, hP9⟩; have HP9 : Hid (PrI w w9 q p (A.proposed (str [121])) (n0 + (j + 1))) := hP9; clear hP9)
          go_roundw
          case rel => exact ⟨j + 1, _, by omega, by go_num, HP9.out⟩
          case measure => simp [intOf]; omega
        · have hjI : (k : Int) + 1 ≤ j := by omega
          have e : n0 + j = 1000 := by omega
          have HE : Hid (n0 + j = 1000) := e
          clear hP hN0 e
          go_wp2
          go_meet
          exact ⟨A, by have := HP.out; rw [HE.out] at this; exact this⟩
    case rest =>
      obtain ⟨A, hP⟩ := hcut
      have HP : Hid (PrI w wc q p A 1000) := hP
      have HFu : Hid (Calls Try.prog 32 #[.pointer (some ⟨p, 0, none⟩), .string (str [122])] wc fun r w' => r = .returned (.tuple #[.int .i64 0, .slice none 0 0, .bool false]) ∧ Below wc.heap.size wc w') := propose_full hP.al hP.len (str [122])
      have HCp : Hid (∀ W, PrI w W q p A 1000 → Calls Try.prog 33 #[.pointer (some ⟨p, 0, none⟩), .int .i64 5, .string (str [102, 105, 118, 101])] W fun r w' => r = .returned (.bool true) ∧ ∃ A2, AL w' q p A2 ∧ A2.last = 1000 ∧ A2.log.length = 995 ∧ Below q w w') := fun W hW => by
        have hl := hW.len
        have hs := hW.low.size
        have hq := HQ.out
        refine (compact_alone (j := 4) hW.al (by omega) (by omega) (by rw [hW.bi]; rfl) (by rw [hW.bi]; decide) (str [102, 105, 118, 101])).mono ?_
        rintro r w' ⟨rfl, h1, h2⟩
        have hl2 : (A.log.drop 5).length = 995 := by rw [List.length_drop]; omega
        refine ⟨rfl, _, h1, ?_, hl2, hW.low.trans h2⟩
        show A.bi + ((5 : Nat) : Int) + ((A.log.drop 5).length : Int) = 1000
        rw [hl2, hW.bi]
        decide
      clear hP
      go_wp2_with (first
        | (go_at_call 33; refine Calls.mono (HCp.out _ HP1.out) ?_; rintro r w2 ⟨rfl, A2, hA2, hl2, hn2, hb2⟩; have HA2 : Hid (AL w2 q p A2) := hA2; have HL2 : Hid (A2.last = 1000) := hl2; have HN2 : Hid (A2.log.length = 995) := hn2; have HB2 : Hid (Below q w w2) := hb2; clear hA2 hl2 hn2 hb2)
        | (go_at_call 32; first
            | (refine Calls.mono HFu.out ?_; rintro r w1 ⟨rfl, hb1⟩; have HP1 : Hid (PrI w w1 q p A 1000) := HP.out.new HQ.out hb1; clear hb1 HFu)
            | (refine Calls.mono (propose_alone HA2.out (by have := HB2.out.size; have := HQ.out; omega) (by rw [HN2.out]; decide) (str [122])) ?_; rintro r w3 ⟨rfl, _, hb3⟩; rw [HL2.out]; have HB3 : Hid (Below q w w3) := HB2.out.trans hb3; clear hb3)))
      go_ret
      have hq := HQ.out
      exact ⟨rfl, by rw [hq]; exact HB3.out⟩
end Go.Proofs.Ytiodepmioglfpaa
