import Derived.Test.YthkfbaoeimjgaaaGreatMaTaM
import Derived.Test.YthkfbaoeimjgaaaGreatMaNzM
import Derived.Test.YthkfbaoeimjgaaaGreatRows
import Derived.ProofKit
import Derived.OpenShut
import Derived.Deep.Slices
import Derived.Deep.Strs
import Derived.Lib.SmallJoins
import Derived.ShutString
import Derived.ChangeOld
import Derived.SizedLaws
section
/- Stage 17's awake: a job begins when it is submitted, if a worker is there. -/
namespace Go.Proofs.YthkfbaoeimjgaaaGreat
open Go.RowKit
attribute [local go_sem] Oper.semAt_some
theorem aw_chk17 : jobN ⟨#[99, 99]⟩ [] [] ((9 : Nat) : Int) ((0 : Nat) : Int) ((2 : Nat) : Int) = 0 := by decide +kernel
theorem aw_dec17 : DecOk (str (jobB ⟨#[99, 99]⟩ [] [] 9 0 2)) ⟨#[99, 99]⟩ [] [] 9 0 2 := dec_back (st := 9) (se := 0) (pa := 2) (fun _ h => by cases h) (fun _ h => by cases h) aw_chk17
theorem aw_join17 : joinP [] 3 1 = [⟨3, 1⟩] := by rfl
theorem aw_asgn17 : asgn 2 (risL (([⟨3, 1⟩] : List Pz).map (·.k))) = [3, 3] := by decide
theorem aw_plcs17 : plcs [3, 3] 3 2 = [0, 1] := by decide
theorem aw_text17 (W : World) : Calls Tryz.prog 36 #[.agg #[.string ⟨#[99, 99]⟩, .slice none 0 0, .slice none 0 0, .int .i64 9, .int .i64 0, .int .i64 2]] W fun r w' => r = .returned (.string (str (jobB ⟨#[99, 99]⟩ [] [] 9 0 2))) ∧ Below W.heap.size W w' :=
  mtext (w := W) (P := fun _ => True) (t := ⟨#[99, 99]⟩) (go := none) (po := none) (G := []) (n := 0) (gc := 0) (m := 0) (pc := 0) (ps := []) (st := 9) (se := 0) (pa := 2) rfl rfl (by decide) (by decide) (by decide) (fun h => absurd h (by simp)) (fun _ h => by cases h) (fun h => absurd h (by simp)) (fun _ h => by cases h) aw_chk17
set_option maxRecDepth 100000 in
set_option maxHeartbeats 2000000 in
theorem awake17 (w : World) : Calls Tryz.prog 27 #[] w fun r w' => r = .returned (.bool true) ∧ Below w.heap.size w w' := by
  have hN := mnew w
  obtain ⟨p, hp⟩ : ∃ p, w.heap.size = p := ⟨_, rfl⟩
  rw [hp] at hN
  have HPw : Hid (w.heap.size = p) := hp
  have HJ : Hid (∀ W, MaBox W p (.pointer none) none (.slice none 0 0) 0 (.pointer none) [] → ∀ q1 q2 q3 q4 r0 r1 r2 r3 r4 r5 r6 r7 r8 r9 r10 r11 r12 r13 r14 r15 r16 r17 r18 r19 : Value, Calls Tryz.prog 21 #[.pointer (some ⟨p, 0, none⟩), .agg #[.int .i64 3, q1, q2, q3, q4, .int .i64 3, .int .i64 1, r0, r1, r2, r3, r4, r5, r6, r7, r8, r9, r10, r11, r12, r13, r14, r15, r16, r17, r18, r19]] W fun r w' => r = .returned (.tuple #[.agg #[.int .i64 0, .int .i64 0], .int .i64 0]) ∧ PoJ W w' p (.pointer none) none 0 [⟨3, 1⟩]) := fun W h q1 q2 q3 q4 r0 r1 r2 r3 r4 r5 r6 r7 r8 r9 r10 r11 r12 r13 r14 r15 r16 r17 r18 r19 => by
    have := mapply_join h (by decide) (x := 3) (l := 1) (by unfold W6; decide) (by unfold W6; decide) q1 q2 q3 q4 r0 r1 r2 r3 r4 r5 r6 r7 r8 r9 r10 r11 r12 r13 r14 r15 r16 r17 r18 r19
    rw [aw_join17] at this
    exact this
  obtain ⟨s, hs⟩ : ∃ s, str (jobB ⟨#[99, 99]⟩ [] [] 9 0 2) = s := ⟨_, rfl⟩
  have hT := aw_text17
  have hD := aw_dec17
  rw [hs] at hT hD
  have HT : Hid _ := hT
  have HD : Hid _ := hD
  clear hT hD hs hp
  go_enter Tryz.func27, Tryz.ntmps27
  go_upto_region 2 with (go_at_call 34; refine hN.mono ?_; rintro r w1 ⟨rfl, hM1, hb1⟩)
  have HB1 : Hid (Below p w w1) := hb1
  clear hN hb1
  go_upto_region 3 with (go_at_call 21; refine (HJ.out w1 hM1 _ _ _ _ _ _ _ _ _ _ _ _ _ _ _ _ _ _ _ _ _ _ _ _).mono ?_; rintro r w2 ⟨rfl, mb, hM2, hF2, hmb⟩)
  have HB2 : Hid (Below p w w2) := HB1.out.trans (hF2.below (by have := HPw.out; have := HB1.out.size; omega) (fun k hk => by
    rcases hk with hk | hk
    · omega
    · cases hk))
  clear hF2 hmb hM1
  have h2 := heap_alloc_new w2 (.cells #[.int .i64 0, .int .i64 0] 62)
  have HBa := ma_new w2 (.cells #[.int .i64 0, .int .i64 0] 62)
  have HS2 : Hid (p ≤ w2.heap.size) := Nat.le_trans (by have := HPw.out; omega) HB2.out.size
  generalize hW3 : World.alloc w2 _ = W3
  rw [hW3] at h2 HBa
  have HM3 : Hid (MaBox W3 p (.pointer none) mb (.slice none 0 0) 0 (.pointer none) [⟨3, 1⟩]) := hM2.new HBa
  have HB3 : Hid (Below p w W3) := HB2.out.trans (HBa.mono HS2.out)
  clear hM2 HBa hW3 h2
  go_upto_region 4 with (first
    | (go_at_call 36; refine (HT.out W3).mono ?_; rintro r w4 ⟨rfl, hb4⟩)
    | (go_at_call 21; refine (mapply_submit (HM3.out.new hb4) (by decide) (by decide) HD.out _ _ _ _ _ _ _ _ _ _ _ _ _ _ _ _ _ _ _ _ _ _ _).mono ?_; rintro r w5 ⟨rfl, tb, hS, hF5⟩))
  have HB4 : Hid (Below p w w4) := HB3.out.trans (hb4.mono (by have := HS2.out; have := HB3.out.size; have := HB2.out.size; have := HPw.out; omega))
  have HB5 : Hid (Below p w w5) := HB4.out.trans (hF5.below (by have := HPw.out; have := HB4.out.size; omega) (fun k hk => by omega))
  have HS5 : Hid (p ≤ w5.heap.size) := Nat.le_trans (by have := HPw.out; omega) HB5.out.size
  obtain ⟨jb, jc, q, hb, av, go, gc, po, pc, hR, hG, hP, _⟩ := hS
  have has := hR.as_
  rw [aw_asgn17] at has
  obtain ⟨ao, ac, rfl, _, hg⟩ := GO.shape has
  obtain ⟨ga, rfl⟩ := hg (by decide)
  have h5 := heap_alloc_new w5 (.cells #[.int .i64 0, .int .i64 1] 62)
  have HBb := ma_new w5 (.cells #[.int .i64 0, .int .i64 1] 62)
  generalize hW6 : World.alloc w5 _ = Wx6
  rw [hW6] at h5 HBb
  have HB6 : Hid (Below p w Wx6) := HB5.out.trans (HBb.mono HS5.out)
  have hK := mtask_first (A := [3, 3]) (x := 3) (P := fun _ => True) (G := []) (ps := []) (hR.new HBb) aw_asgn17 rfl (by unfold W6; decide) (by decide) (fun h => absurd h (by simp)) (fun _ h => by cases h) (by decide) ⟨po, pc, rfl, Nat.zero_le _, fun h => absurd h (by simp)⟩ (by decide)
  obtain ⟨g5, hg5⟩ : ∃ g5, w5.heap.size = g5 := ⟨_, rfl⟩
  rw [hg5] at h5 ⊢
  have HH5 : Hid (Wx6.heap[g5]? = some (.cells #[.int .i64 0, .int .i64 1] 62 (0, 0))) := h5
  clear hW6 hg5 h5 hR hG hP has hg hb4 hF5 HBb
  go_upto_region 5 with (first
    | (go_at_call 23; refine hK.mono ?_; rintro r w7 ⟨v1, v2, bo, c, ao3, c3, rfl, hv1, hv2, hb7⟩; have e1 : plcs [3, 3] 3 ([3, 3] : List Int).length = [0, 1] := aw_plcs17; rw [e1] at hv1; obtain ⟨ao1, c1, rfl, _, _⟩ := GO.shape hv1; obtain ⟨ao2, c2, rfl, _, _⟩ := GO.shape hv2; have HB7 : Hid (Below Wx6.heap.size Wx6 w7) := hb7; clear hv1 hv2 hb7 e1)
    | (refine wpList_store_row rfl 69 _ _ rfl w7.heap.size #[.int .i64 1, .int .i64 1, .int .i64 0, .int .i64 1, .slice ao1 2 c1, .slice ao2 2 c2, .string ⟨#[99, 99]⟩, .slice bo 0 c, .slice ao3 0 c3, .int .i64 9, .int .i64 0, .int .i64 2, .bool false, .bool false, .bool false, .bool false, .bool false, .int .i64 0, .int .i64 0, .int .i64 0, .int .i64 0, .int .i64 0, .int .i64 0, .int .i64 0, .int .i64 0, .bool false] rfl rfl 69 #[.int .i64 0, .int .i64 0, .int .i64 0, .int .i64 0, .slice none 0 0, .slice none 0 0, .string ⟨#[]⟩, .slice none 0 0, .slice none 0 0, .int .i64 0, .int .i64 0, .int .i64 0, .bool false, .bool false, .bool false, .bool false, .bool false, .int .i64 0, .int .i64 0, .int .i64 0, .int .i64 0, .int .i64 0, .int .i64 0, .int .i64 0, .int .i64 0, .bool false] (heap_alloc_new _ _) size_task rfl (by simp [Value.oneCell']) ?_))
  generalize hW8 : World.setRow _ _ _ = W8
  obtain ⟨V, hV⟩ : ∃ V, w7.alloc (.cells #[.int .i64 0, .int .i64 0, .int .i64 0, .int .i64 0, .slice none 0 0, .slice none 0 0, .string ⟨#[]⟩, .slice none 0 0, .slice none 0 0, .int .i64 0, .int .i64 0, .int .i64 0, .bool false, .bool false, .bool false, .bool false, .bool false, .int .i64 0, .int .i64 0, .int .i64 0, .int .i64 0, .int .i64 0, .int .i64 0, .int .i64 0, .int .i64 0, .bool false] 69) = V := ⟨_, rfl⟩
  have hbV : Below w7.heap.size w7 V := by rw [← hV]; exact ma_new _ _
  have hk : V.heap[w7.heap.size]? = some (.cells #[.int .i64 0, .int .i64 0, .int .i64 0, .int .i64 0, .slice none 0 0, .slice none 0 0, .string ⟨#[]⟩, .slice none 0 0, .slice none 0 0, .int .i64 0, .int .i64 0, .int .i64 0, .bool false, .bool false, .bool false, .bool false, .bool false, .int .i64 0, .int .i64 0, .int .i64 0, .int .i64 0, .int .i64 0, .int .i64 0, .int .i64 0, .int .i64 0, .bool false] 69 (0, 0)) := by rw [← hV]; exact heap_alloc_new _ _
  rw [hV] at hW8
  have hF8 : Fr V W8 (fun k => k = w7.heap.size) := by rw [← hW8]; exact ap_setRow _ _ _
  have hn : W8.heap[w7.heap.size]? = some (.cells #[.int .i64 1, .int .i64 1, .int .i64 0, .int .i64 1, .slice ao1 2 c1, .slice ao2 2 c2, .string ⟨#[99, 99]⟩, .slice bo 0 c, .slice ao3 0 c3, .int .i64 9, .int .i64 0, .int .i64 2, .bool false, .bool false, .bool false, .bool false, .bool false, .int .i64 0, .int .i64 0, .int .i64 0, .int .i64 0, .int .i64 0, .int .i64 0, .int .i64 0, .int .i64 0, .bool false] 69 (0, 0)) := by rw [← hW8]; exact setRow_heap _ _ _ _ _ _ hk
  have hb8 : Below w7.heap.size w7 W8 := hbV.trans (hF8.below hbV.size (fun k hk => by omega))
  have h5 : w7.heap[g5]? = some (.cells #[.int .i64 0, .int .i64 1] 62 (0, 0)) := (HB7.out.block g5 (ma_lt HH5.out)).trans HH5.out
  have h58 := (hb8.block g5 (ma_lt h5)).trans h5
  have HBw : Hid (Below p w w7) := HB6.out.trans (HB7.out.mono (by have := HPw.out; have := HB6.out.size; omega))
  have HB8 : Hid (Below p w W8) := HBw.out.trans (hb8.mono (Nat.le_trans (by have := HPw.out; omega) HBw.out.size))
  have k0 : W8.cell? ⟨g5, 0, none⟩ = some (.int .i64 0) := by simp [World.cell?, h58]
  have k1 : W8.cell? ⟨g5, 1, none⟩ = some (.int .i64 1) := by simp [World.cell?, h58]
  have k3 : W8.cell? ⟨w7.heap.size, 3, none⟩ = some (.int .i64 1) := by simp [World.cell?, hn]
  have k4 : W8.cell? ⟨w7.heap.size, 4, none⟩ = some (.slice ao1 2 c1) := by simp [World.cell?, hn]
  clear hW8 hn hb8 h58 h5 hV hbV hk hF8
  generalize w7.heap.size = g7 at k3 k4 ⊢
  go_wp2
  go_ret
  refine ⟨rfl, ?_⟩
  rw [HPw.out]
  exact HB8.out
end Go.Proofs.YthkfbaoeimjgaaaGreat
end

section
/- MasterNil: a nil master, commands that are none, jobs that are none. -/
namespace Go.Proofs.YthkfbaoeimjgaaaGreat
open Go.RowKit Go.Maps
attribute [local go_sem] Oper.semAt_some
theorem bel_row {w : World} {o : Obj} {cs : Array Value} : Below w.heap.size w ((w.alloc o).setRow w.heap.size cs) :=
  (ma_new w o).trans ((ap_setRow (w.alloc o) w.heap.size cs).below (by simp) (fun k hk => by omega))
/-- A load of a row out of a greater one, at an operation whose guard lets it run. -/
theorem wpList_load_midg {P : Program} {ops : Array Oper} {rest : List Oper} {op : Oper} {a : Act} {w : World} {Q : Exit → Act → World → Prop} (hw : Region.wanted op (yielded ops a.tmps) = true) (ty : TypeId) (x : Operand) (ho : op.op = .load ty x)
    (b o : Nat) (hx : a.eval x = .pointer (some ⟨b, o, none⟩)) (cs : List Value) (d : TypeDesc) (hc : w.rangeAt b o cs)
    (hu : P.underlying ty = some d) (hd : d.isRow = true) (hi : (P.info? ty).map (·.size) = some cs.length)
    (h : wpList P ops Q rest (a.put op.dst (.agg cs.toArray)) w) : wpList P ops Q (op :: rest) a w := by
  unfold wpList
  rw [if_pos hw]
  exact .inl (wp_load_mid ty x ho b o hx cs d hc hu hd hi h)
/-- The command's box, and all that was there. -/
structure CmI (w wr : World) (g : Nat) (C : Array Value) : Prop where
  bx : wr.heap[g]? = some (.cells C 59 (0, 0))
  lo : Below w.heap.size w wr
  gs : w.heap.size ≤ wr.heap.size
theorem CmI.new {w wr w' : World} {g : Nat} {C : Array Value} (h : CmI w wr g C) (hb : Below wr.heap.size wr w') : CmI w w' g C := ⟨(hb.block g (ma_lt h.bx)).trans h.bx, h.lo.trans (hb.mono h.gs), Nat.le_trans h.gs hb.size⟩
set_option linter.unusedSimpArgs false in
set_option maxRecDepth 100000 in
set_option maxHeartbeats 8000000 in
theorem law_mnil (w : World) {k a b x y z rw id : Int} {s : ByteArray} {r0 r1 r2 r3 r5 r6 r7 r8 r9 r10 r11 r12 r13 r14 r15 r16 r17 r18 r19 : Value} (hb6 : b ≤ 9223372036854775807) (hs : s.size ≤ maxLen) (hy : W6 y) (hz : W6 z) : Calls Tryz.prog 4 #[.agg #[.int .i64 k, .int .i64 a, .int .i64 b, .string s, .int .i64 x, .int .i64 y, .int .i64 z, r0, r1, r2, r3, .int .i64 rw, r5, r6, r7, r8, r9, r10, r11, r12, r13, r14, r15, r16, r17, r18, r19], .int .i64 id] w fun r w' => r = .returned (.bool true) ∧ Below w.heap.size w w' := by
  have HIn : Hid (b ≤ 9223372036854775807 ∧ s.size ≤ maxLen ∧ W6 y ∧ W6 z) := ⟨hb6, hs, hy, hz⟩
  have HAw : Hid (∀ W, Calls Tryz.prog 27 #[] W fun r w' => r = .returned (.bool true) ∧ Below W.heap.size W w') := fun W => awake17 W
  obtain ⟨V, hV⟩ : ∃ V, w.alloc (.cells #[.int .i64 k, .int .i64 a, .int .i64 b, .string s, .int .i64 x, .int .i64 y, .int .i64 z, r0, r1, r2, r3, .int .i64 rw, r5, r6, r7, r8, r9, r10, r11, r12, r13, r14, r15, r16, r17, r18, r19] 59) = V := ⟨_, rfl⟩
  have HI0 : Hid (CmI w V w.heap.size #[.int .i64 k, .int .i64 a, .int .i64 b, .string s, .int .i64 x, .int .i64 y, .int .i64 z, r0, r1, r2, r3, .int .i64 rw, r5, r6, r7, r8, r9, r10, r11, r12, r13, r14, r15, r16, r17, r18, r19]) := by rw [← hV]; exact ⟨heap_alloc_new _ _, ma_new _ _, by simp⟩
  obtain ⟨g, hg⟩ : ∃ g, w.heap.size = g := ⟨_, rfl⟩
  have HG : Hid (w.heap.size = g) := hg
  have HI0 : Hid (CmI w V g #[.int .i64 k, .int .i64 a, .int .i64 b, .string s, .int .i64 x, .int .i64 y, .int .i64 z, r0, r1, r2, r3, .int .i64 rw, r5, r6, r7, r8, r9, r10, r11, r12, r13, r14, r15, r16, r17, r18, r19]) := by rw [← hg]; exact HI0.out
  clear hb6 hs hy hz
  go_enter Tryz.func4, Tryz.ntmps4
  go_upto_region 1 with (fail)
  clear hV
  clear hg
  go_upto_region 3 with (first
    | (refine wpList_load_row rfl 59 _ rfl g rfl 59 #[.int .i64 k, .int .i64 a, .int .i64 b, .string s, .int .i64 x, .int .i64 y, .int .i64 z, r0, r1, r2, r3, .int .i64 rw, r5, r6, r7, r8, r9, r10, r11, r12, r13, r14, r15, r16, r17, r18, r19] (0, 0) _ HI0.out.bx Tryz.underlying59 rfl size_cmd ?_)
    | (go_at_call 21; refine (napply _ _).mono ?_; rintro r w1 ⟨rfl, hb1⟩))
  generalize hW : World.alloc w1 _ = V1
  have HI1 : Hid (CmI w V1 g #[.int .i64 k, .int .i64 a, .int .i64 b, .string s, .int .i64 x, .int .i64 y, .int .i64 z, r0, r1, r2, r3, .int .i64 rw, r5, r6, r7, r8, r9, r10, r11, r12, r13, r14, r15, r16, r17, r18, r19]) := (HI0.out.new hb1).new (by rw [← hW]; first | exact bel_row | exact ma_new _ _)
  clear hW hb1
  have c1 : V1.cell? ⟨g, 1, none⟩ = some (.int .i64 a) := by simp [World.cell?, HI1.out.bx]
  have c2 : V1.cell? ⟨g, 2, none⟩ = some (.int .i64 b) := by simp [World.cell?, HI1.out.bx]
  go_upto_region 4 with (go_at_call 22; refine (nlook _ _ _).mono ?_; rintro r w2 ⟨rfl, hb2⟩)
  generalize hW : World.alloc w2 _ = V2
  have HI2 : Hid (CmI w V2 g #[.int .i64 k, .int .i64 a, .int .i64 b, .string s, .int .i64 x, .int .i64 y, .int .i64 z, r0, r1, r2, r3, .int .i64 rw, r5, r6, r7, r8, r9, r10, r11, r12, r13, r14, r15, r16, r17, r18, r19]) := (HI1.out.new hb2).new (by rw [← hW]; first | exact bel_row | exact ma_new _ _)
  clear hW hb2
  clear c1 c2
  go_upto_region 5 with (first
    | (go_at_call 23; refine (ntask _ _).mono ?_; rintro r w3 ⟨rfl, hb3⟩)
    | (refine wpList_store_row rfl 69 _ _ rfl w3.heap.size #[.int .i64 0, .int .i64 0, .int .i64 0, .int .i64 0, .slice none 0 0, .slice none 0 0, .string ⟨#[]⟩, .slice none 0 0, .slice none 0 0, .int .i64 0, .int .i64 0, .int .i64 0, .bool false, .bool false, .bool false, .bool false, .bool false, .int .i64 0, .int .i64 0, .int .i64 0, .int .i64 0, .int .i64 0, .int .i64 0, .int .i64 0, .int .i64 0, .bool false] rfl rfl 69 #[.int .i64 0, .int .i64 0, .int .i64 0, .int .i64 0, .slice none 0 0, .slice none 0 0, .string ⟨#[]⟩, .slice none 0 0, .slice none 0 0, .int .i64 0, .int .i64 0, .int .i64 0, .bool false, .bool false, .bool false, .bool false, .bool false, .int .i64 0, .int .i64 0, .int .i64 0, .int .i64 0, .int .i64 0, .int .i64 0, .int .i64 0, .int .i64 0, .bool false] (heap_alloc_new _ _) size_taskN rfl (by simp [Value.oneCell']) ?_))
  generalize hW : World.setRow _ _ _ = V3
  have HI3 : Hid (CmI w V3 g #[.int .i64 k, .int .i64 a, .int .i64 b, .string s, .int .i64 x, .int .i64 y, .int .i64 z, r0, r1, r2, r3, .int .i64 rw, r5, r6, r7, r8, r9, r10, r11, r12, r13, r14, r15, r16, r17, r18, r19]) := (HI2.out.new hb3).new (by rw [← hW]; first | exact bel_row | exact ma_new _ _)
  clear hW hb3
  go_upto_region 6 with (first
    | (go_at_call 24; refine (nstatus _ _).mono ?_; rintro r w4 ⟨rfl, hb4⟩)
    | (refine wpList_store_row rfl 75 _ _ rfl w4.heap.size #[.int .i64 0, .int .i64 0, .int .i64 0, .int .i64 0, .int .i64 0, .int .i64 0, .int .i64 0, .slice none 0 0] rfl rfl 75 #[.int .i64 0, .int .i64 0, .int .i64 0, .int .i64 0, .int .i64 0, .int .i64 0, .int .i64 0, .slice none 0 0] (heap_alloc_new _ _) size_statusN rfl (by simp [Value.oneCell']) ?_))
  generalize hW : World.setRow _ _ _ = V4
  have HI4 : Hid (CmI w V4 g #[.int .i64 k, .int .i64 a, .int .i64 b, .string s, .int .i64 x, .int .i64 y, .int .i64 z, r0, r1, r2, r3, .int .i64 rw, r5, r6, r7, r8, r9, r10, r11, r12, r13, r14, r15, r16, r17, r18, r19]) := (HI3.out.new hb4).new (by rw [← hW]; first | exact bel_row | exact ma_new _ _)
  clear hW hb4
  go_upto_region 7 with (first
    | (go_at_call 25; refine (nspec _ _).mono ?_; rintro r w5 ⟨rfl, hb5⟩)
    | (refine wpList_store_row rfl 27 _ _ rfl w5.heap.size #[.string ⟨#[]⟩, .slice none 0 0, .slice none 0 0, .int .i64 0, .int .i64 0, .int .i64 0] rfl rfl 27 #[.string ⟨#[]⟩, .slice none 0 0, .slice none 0 0, .int .i64 0, .int .i64 0, .int .i64 0] (heap_alloc_new _ _) size_jobN rfl (by simp [Value.oneCell']) ?_))
  generalize hW : World.setRow _ _ _ = V5
  have HI5 : Hid (CmI w V5 g #[.int .i64 k, .int .i64 a, .int .i64 b, .string s, .int .i64 x, .int .i64 y, .int .i64 z, r0, r1, r2, r3, .int .i64 rw, r5, r6, r7, r8, r9, r10, r11, r12, r13, r14, r15, r16, r17, r18, r19]) := (HI4.out.new hb5).new (by rw [← hW]; first | exact bel_row | exact ma_new _ _)
  clear hW hb5
  go_upto_region 8 with (go_at_call 26; refine (nlife _ _).mono ?_; rintro r w6 ⟨rfl, hb6⟩)
  have HI6 : Hid (CmI w w6 g #[.int .i64 k, .int .i64 a, .int .i64 b, .string s, .int .i64 x, .int .i64 y, .int .i64 z, r0, r1, r2, r3, .int .i64 rw, r5, r6, r7, r8, r9, r10, r11, r12, r13, r14, r15, r16, r17, r18, r19]) := HI5.out.new hb6
  clear hb6
  have HMi : Hid (∀ W, Below w6.heap.size w6 W → W.rangeAt g 7 [r0, r1, r2, r3, .int .i64 rw, r5, r6, r7, r8, r9, r10, r11, r12, r13, r14, r15, r16, r17, r18, r19]) := fun W hb => cmd_mid (HI6.out.new hb).bx
  go_upto_region 10 with (first
    | (go_at_call 27; refine (HAw.out w6).mono ?_; rintro r w7 ⟨rfl, hb7⟩)
    | (refine wpList_load_midg (by rfl) 57 _ rfl g 7 rfl [r0, r1, r2, r3, .int .i64 rw, r5, r6, r7, r8, r9, r10, r11, r12, r13, r14, r15, r16, r17, r18, r19] _ (HMi.out _ hb7) Tryz.underlying57 rfl size_repN ?_)
    | (go_at_call 28; refine (nwants _ _ _ _ _ _ _ _ _ _ _ _ _ _ _ _ _ _ _ _ _).mono ?_; rintro r w8 ⟨rfl, hb8⟩)
    | (go_at_call 29; refine (njobs _).mono ?_; rintro r w9 ⟨rfl, hb9⟩)
    | (go_at_call 30; refine (nworkers _).mono ?_; rintro r w10 ⟨rfl, hb10⟩)
    | (go_at_call 31; refine (nopen _).mono ?_; rintro r w11 ⟨rfl, hb11⟩)
    | (go_at_call 32; refine (nepoch _).mono ?_; rintro r w12 ⟨rfl, hb12⟩)
    | (go_at_call 33; refine (nencode _).mono ?_; rintro r w13 ⟨rfl, hb13⟩))
  have HI13 : Hid (CmI w w13 g #[.int .i64 k, .int .i64 a, .int .i64 b, .string s, .int .i64 x, .int .i64 y, .int .i64 z, r0, r1, r2, r3, .int .i64 rw, r5, r6, r7, r8, r9, r10, r11, r12, r13, r14, r15, r16, r17, r18, r19]) := ((((((HI6.out.new hb7).new hb8).new hb9).new hb10).new hb11).new hb12).new hb13
  clear hb7 hb8 hb9 hb10 hb11 hb12 hb13
  go_upto_region 11 with (go_at_call 34; refine (mnew w13).mono ?_; rintro r w14 ⟨rfl, hM, hb14⟩)
  have HI14 : Hid (CmI w w14 g #[.int .i64 k, .int .i64 a, .int .i64 b, .string s, .int .i64 x, .int .i64 y, .int .i64 z, r0, r1, r2, r3, .int .i64 rw, r5, r6, r7, r8, r9, r10, r11, r12, r13, r14, r15, r16, r17, r18, r19]) := HI13.out.new hb14
  obtain ⟨p, hp⟩ : ∃ p, w13.heap.size = p := ⟨_, rfl⟩
  rw [hp] at hM ⊢
  have HGp : Hid (g ≠ p ∧ w.heap.size ≤ p) := ⟨fun e => by have := ma_lt HI13.out.bx; omega, by have := HI13.out.gs; omega⟩
  have HM14 : Hid (MaBox w14 p (.pointer none) none (.slice none 0 0) 0 (.pointer none) []) := hM
  clear hp hM hb14
  go_upto_region 12 with (first
    | (go_at_call 24; refine (mstatus_none HM14.out _).mono ?_; rintro r w15 ⟨rfl, hb15⟩)
    | (refine wpList_store_row rfl 75 _ _ rfl w15.heap.size #[.int .i64 0, .int .i64 0, .int .i64 0, .int .i64 0, .int .i64 0, .int .i64 0, .int .i64 0, .slice none 0 0] rfl rfl 75 #[.int .i64 0, .int .i64 0, .int .i64 0, .int .i64 0, .int .i64 0, .int .i64 0, .int .i64 0, .slice none 0 0] (heap_alloc_new _ _) size_statusN rfl (by simp [Value.oneCell']) ?_))
  generalize hW : World.setRow _ _ _ = V15
  have HB15 : Hid (Below w14.heap.size w14 V15) := hb15.trans (Below.mono (by rw [← hW]; exact bel_row) hb15.size)
  have HI15 : Hid (CmI w V15 g #[.int .i64 k, .int .i64 a, .int .i64 b, .string s, .int .i64 x, .int .i64 y, .int .i64 z, r0, r1, r2, r3, .int .i64 rw, r5, r6, r7, r8, r9, r10, r11, r12, r13, r14, r15, r16, r17, r18, r19]) := HI14.out.new HB15.out
  have HM15 : Hid (MaBox V15 p (.pointer none) none (.slice none 0 0) 0 (.pointer none) []) := HM14.out.new HB15.out
  clear hW hb15
  have c0 : V15.cell? ⟨g, 0, none⟩ = some (.int .i64 k) := by simp [World.cell?, HI15.out.bx]
  by_cases hk : 1 ≤ k ∧ k ≤ 5
  · have HKk : Hid (1 ≤ k ∧ k ≤ 5) := hk
    obtain ⟨hk1, hk5⟩ := hk
    have hk1' : ¬ k < 1 := by omega
    have hk5' : ¬ 5 < k := by omega
    have hA := napply_all HM15.out HKk.out HIn.out.1 HIn.out.2.1 HIn.out.2.2.1 HIn.out.2.2.2 r0 r1 r2 r3 r5 r6 r7 r8 r9 r10 r11 r12 r13 r14 r15 r16 r17 r18 r19 (a := a) (x := x) (rw := rw)
    go_upto_region 16 with (first
      | (refine wpList_load_row rfl 59 _ rfl g rfl 59 #[.int .i64 k, .int .i64 a, .int .i64 b, .string s, .int .i64 x, .int .i64 y, .int .i64 z, r0, r1, r2, r3, .int .i64 rw, r5, r6, r7, r8, r9, r10, r11, r12, r13, r14, r15, r16, r17, r18, r19] (0, 0) _ HI15.out.bx Tryz.underlying59 rfl size_cmd ?_)
      | (go_at_call 21; refine hA.mono ?_; rintro r w16 ⟨⟨ra, rb, re, rfl⟩, hN, hF⟩))
    have HI16 : Hid (CmI w w16 g #[.int .i64 k, .int .i64 a, .int .i64 b, .string s, .int .i64 x, .int .i64 y, .int .i64 z, r0, r1, r2, r3, .int .i64 rw, r5, r6, r7, r8, r9, r10, r11, r12, r13, r14, r15, r16, r17, r18, r19]) := ⟨(hF.block g (ma_lt HI15.out.bx) HGp.out.1).trans HI15.out.bx, HI15.out.lo.trans (hF.below HI15.out.gs (fun k hk => by rw [hk]; exact HGp.out.2)), Nat.le_trans HI15.out.gs hF.size⟩
    have HM2 : Hid (w16.rangeAt g 7 [r0, r1, r2, r3, .int .i64 rw, r5, r6, r7, r8, r9, r10, r11, r12, r13, r14, r15, r16, r17, r18, r19]) := cmd_mid HI16.out.bx
    obtain ⟨ax, mb, js, ep, M, hMk⟩ := hN
    have hWa := mwants_none hMk r0 r1 r2 r3 r5 r6 r7 r8 r9 r10 r11 r12 r13 r14 r15 r16 r17 r18 r19 rw
    clear hF hMk hA c0
    go_wp2_with (first
      | (refine wpList_load_midg (by rfl) 57 _ rfl g 7 rfl [r0, r1, r2, r3, .int .i64 rw, r5, r6, r7, r8, r9, r10, r11, r12, r13, r14, r15, r16, r17, r18, r19] _ HM2.out Tryz.underlying57 rfl size_repN ?_)
      | (go_at_call 28; refine hWa.mono ?_; rintro r w17 ⟨rfl, hb17⟩))
    go_ret
    exact ⟨rfl, HI16.out.lo.trans (hb17.mono HI16.out.gs)⟩
  · have hk' : k < 1 ∨ 5 < k := by omega
    have hA : ∀ q1 q2 q3 q4 q5 q6 r0 r1 r2 r3 r4 r5 r6 r7 r8 r9 r10 r11 r12 r13 r14 r15 r16 r17 r18 r19, _ := fun q1 q2 q3 q4 q5 q6 r0 r1 r2 r3 r4 r5 r6 r7 r8 r9 r10 r11 r12 r13 r14 r15 r16 r17 r18 r19 => napply_bad (w := V15) (p := p) hk' q1 q2 q3 q4 q5 q6 r0 r1 r2 r3 r4 r5 r6 r7 r8 r9 r10 r11 r12 r13 r14 r15 r16 r17 r18 r19
    have HA : Hid _ := hA
    clear hA hk
    rcases hk' with hk | hk
    · go_upto_region 14 with (first
        | (refine wpList_load_row rfl 59 _ rfl g rfl 59 #[.int .i64 k, .int .i64 a, .int .i64 b, .string s, .int .i64 x, .int .i64 y, .int .i64 z, r0, r1, r2, r3, .int .i64 rw, r5, r6, r7, r8, r9, r10, r11, r12, r13, r14, r15, r16, r17, r18, r19] (0, 0) _ HI15.out.bx Tryz.underlying59 rfl size_cmd ?_)
        | (go_at_call 21; refine (HA.out _ _ _ _ _ _ _ _ _ _ _ _ _ _ _ _ _ _ _ _ _ _ _ _ _ _).mono ?_; rintro r w16 ⟨rfl, hb16⟩))
      generalize hW : World.alloc w16 _ = V16
      have HB16 : Hid (Below w16.heap.size w16 V16) := by rw [← hW]; exact ma_new _ _
      clear hW
      go_wp2
      go_ret
      exact ⟨rfl, ((HI15.out.new hb16).new HB16.out).lo⟩
    · have hk1 : ¬ k < 1 := by omega
      go_upto_region 14 with (first
        | (refine wpList_load_row rfl 59 _ rfl g rfl 59 #[.int .i64 k, .int .i64 a, .int .i64 b, .string s, .int .i64 x, .int .i64 y, .int .i64 z, r0, r1, r2, r3, .int .i64 rw, r5, r6, r7, r8, r9, r10, r11, r12, r13, r14, r15, r16, r17, r18, r19] (0, 0) _ HI15.out.bx Tryz.underlying59 rfl size_cmd ?_)
        | (go_at_call 21; refine (HA.out _ _ _ _ _ _ _ _ _ _ _ _ _ _ _ _ _ _ _ _ _ _ _ _ _ _).mono ?_; rintro r w16 ⟨rfl, hb16⟩))
      generalize hW : World.alloc w16 _ = V16
      have HB16 : Hid (Below w16.heap.size w16 V16) := by rw [← hW]; exact ma_new _ _
      clear hW
      go_wp2
      go_ret
      exact ⟨rfl, ((HI15.out.new hb16).new HB16.out).lo⟩
end Go.Proofs.YthkfbaoeimjgaaaGreat
end

section
/- MasterNil over arguments of any make. -/
namespace Go.Proofs.YthkfbaoeimjgaaaGreat
open Go.RowKit Go.Deep Go.Joins Go.ChangeShapes
theorem ccI : Tryz.prog.cellsOf 3 = 1 := by kernel_rfl
theorem ccJ : Tryz.prog.cellsOf 2 = 1 := by kernel_rfl
theorem ccS : Tryz.prog.cellsOf 9 = 1 := by kernel_rfl
theorem ccR : Tryz.prog.cellsOf 57 = 20 := by kernel_rfl
theorem ccC : Tryz.prog.cellsOf 59 = 27 := by kernel_rfl
theorem many_ofC {α : Type} {l : List α} (h : l.length = 27) : ∃ a0 a1 a2 a3 a4 a5 a6 a7 a8 a9 a10 a11 a12 a13 a14 a15 a16 a17 a18 a19 a20 a21 a22 a23 a24 a25 a26, l = [a0, a1, a2, a3, a4, a5, a6, a7, a8, a9, a10, a11, a12, a13, a14, a15, a16, a17, a18, a19, a20, a21, a22, a23, a24, a25, a26] := by
  match l, h with
  | [a0, a1, a2, a3, a4, a5, a6, a7, a8, a9, a10, a11, a12, a13, a14, a15, a16, a17, a18, a19, a20, a21, a22, a23, a24, a25, a26], _ => exact ⟨a0, a1, a2, a3, a4, a5, a6, a7, a8, a9, a10, a11, a12, a13, a14, a15, a16, a17, a18, a19, a20, a21, a22, a23, a24, a25, a26, rfl⟩
section
variable {H : Type} {enc : TypeId × Value → H} {w : World} {base : Nat} {spare : Nat → Bool} {held : Bool}
/-- A field of a struct that came in. -/
theorem trod_fieldM {t : TypeId} {fs : Array Field} {fuel : Nat} {cs : List Value} {x : DataW H × List MemPlace} (ht : Tryz.prog.underlying t = some (.struct fs)) (h : DataW.trod enc Tryz.prog w base spare held fuel t cs = some x) {i : Nat} {f : Field} (hi : fs[i]? = some f) :
    ∃ n y, DataW.trod enc Tryz.prog w base spare held n f.type ((cs.drop f.offset).take (Tryz.prog.cellsOf f.type)) = some y := by
  obtain ⟨xs, n, _, _, _, hlen, hf⟩ := DataW.trod_struct ht h
  have hi' : i < xs.length := by rw [hlen]; exact (Array.getElem?_eq_some_iff.1 hi).1
  exact ⟨n, xs[i], (hf i f hi).trans (List.getElem?_eq_getElem hi')⟩
theorem c_struct8 {t : TypeId} {f0 f1 f2 f3 f4 f5 f6 f7 : Field} {fuel : Nat} {cs : List Value} {x : DataW H × List MemPlace} (ht : Tryz.prog.underlying t = some (.struct #[f0, f1, f2, f3, f4, f5, f6, f7])) (h : DataW.trod enc Tryz.prog w base spare held fuel t cs = some x) :
    (∃ n y, DataW.trod enc Tryz.prog w base spare held n f0.type ((cs.drop f0.offset).take (Tryz.prog.cellsOf f0.type)) = some y) ∧ (∃ n y, DataW.trod enc Tryz.prog w base spare held n f1.type ((cs.drop f1.offset).take (Tryz.prog.cellsOf f1.type)) = some y) ∧ (∃ n y, DataW.trod enc Tryz.prog w base spare held n f2.type ((cs.drop f2.offset).take (Tryz.prog.cellsOf f2.type)) = some y) ∧ (∃ n y, DataW.trod enc Tryz.prog w base spare held n f3.type ((cs.drop f3.offset).take (Tryz.prog.cellsOf f3.type)) = some y) ∧ (∃ n y, DataW.trod enc Tryz.prog w base spare held n f4.type ((cs.drop f4.offset).take (Tryz.prog.cellsOf f4.type)) = some y) ∧ (∃ n y, DataW.trod enc Tryz.prog w base spare held n f5.type ((cs.drop f5.offset).take (Tryz.prog.cellsOf f5.type)) = some y) ∧ (∃ n y, DataW.trod enc Tryz.prog w base spare held n f6.type ((cs.drop f6.offset).take (Tryz.prog.cellsOf f6.type)) = some y) ∧ (∃ n y, DataW.trod enc Tryz.prog w base spare held n f7.type ((cs.drop f7.offset).take (Tryz.prog.cellsOf f7.type)) = some y) :=
  ⟨trod_fieldM ht h (i := 0) rfl, trod_fieldM ht h (i := 1) rfl, trod_fieldM ht h (i := 2) rfl, trod_fieldM ht h (i := 3) rfl, trod_fieldM ht h (i := 4) rfl, trod_fieldM ht h (i := 5) rfl, trod_fieldM ht h (i := 6) rfl, trod_fieldM ht h (i := 7) rfl⟩
theorem r_struct11 {t : TypeId} {f0 f1 f2 f3 f4 f5 f6 f7 f8 f9 f10 : Field} {fuel : Nat} {cs : List Value} {x : DataW H × List MemPlace} (ht : Tryz.prog.underlying t = some (.struct #[f0, f1, f2, f3, f4, f5, f6, f7, f8, f9, f10])) (h : DataW.trod enc Tryz.prog w base spare held fuel t cs = some x) :
    (∃ n y, DataW.trod enc Tryz.prog w base spare held n f4.type ((cs.drop f4.offset).take (Tryz.prog.cellsOf f4.type)) = some y) :=
  trod_fieldM ht h (i := 4) rfl
theorem open_cmd {n : Nat} {cs : List Value} {v : DataW H × List MemPlace} (h : DataW.trod enc Tryz.prog w base spare held n 59 cs = some v) :
    ∃ (k a b x y z rw : Int) (s : ByteArray) (r0 r1 r2 r3 r5 r6 r7 r8 r9 r10 r11 r12 r13 r14 r15 r16 r17 r18 r19 : Value), cs = [.int .i64 k, .int .i64 a, .int .i64 b, .string s, .int .i64 x, .int .i64 y, .int .i64 z, r0, r1, r2, r3, .int .i64 rw, r5, r6, r7, r8, r9, r10, r11, r12, r13, r14, r15, r16, r17, r18, r19] ∧ b ≤ 9223372036854775807 ∧ s.size ≤ maxLen ∧ W6 y ∧ W6 z := by
  obtain ⟨_, _, _, _, hl, _, _⟩ := DataW.trod_struct Tryz.underlying59 h
  rw [ccC] at hl
  obtain ⟨a0, a1, a2, a3, a4, a5, a6, a7, a8, a9, a10, a11, a12, a13, a14, a15, a16, a17, a18, a19, a20, a21, a22, a23, a24, a25, a26, rfl⟩ := many_ofC hl
  obtain ⟨⟨n0, y0, f0⟩, ⟨n1, y1, f1⟩, ⟨n2, y2, f2⟩, ⟨n3, y3, f3⟩, ⟨n4, y4, f4⟩, ⟨n5, y5, f5⟩, ⟨n6, y6, f6⟩, ⟨n7, y7, f7⟩⟩ := c_struct8 Tryz.underlying59 h
  simp only [ccI, ccJ, ccS, ccR, List.drop, List.take] at f0 f1 f2 f3 f4 f5 f6 f7
  obtain ⟨n8, y8, f8⟩ := r_struct11 Tryz.underlying57 f7
  simp only [ccI, List.drop, List.take] at f8
  obtain ⟨k, e0, _, _⟩ := DataW.trod_int Tryz.underlying3 f0
  obtain ⟨a, e1, _, _⟩ := DataW.trod_int Tryz.underlying2 f1
  obtain ⟨b, e2, _, wb⟩ := DataW.trod_int Tryz.underlying3 f2
  obtain ⟨s, e3, _, hs⟩ := DataW.trod_string Tryz.underlying9 f3
  obtain ⟨x, e4, _, _⟩ := DataW.trod_int Tryz.underlying3 f4
  obtain ⟨y, e5, _, wy⟩ := DataW.trod_int Tryz.underlying3 f5
  obtain ⟨z, e6, _, wz⟩ := DataW.trod_int Tryz.underlying3 f6
  obtain ⟨rw, e8, _, _⟩ := DataW.trod_int Tryz.underlying3 f8
  simp only [List.cons.injEq, and_true] at e0 e1 e2 e3 e4 e5 e6 e8
  subst e0 e1 e2 e3 e4 e5 e6 e8
  exact ⟨k, a, b, x, y, z, rw, s, _, _, _, _, _, _, _, _, _, _, _, _, _, _, _, _, _, _, _, rfl, (bounds_i64 wb).2, hs, bounds_i64 wy, bounds_i64 wz⟩
end
end Go.Proofs.YthkfbaoeimjgaaaGreat
namespace Go.Proofs.YthkfbaoeimjgaaaGreat.masterNil
open Go.ChangeShapes Go.WideShapes Go.ChangeAt Go.RowKit
theorem own : ownKnob Tryz.prog.godebug = none := by kernel_rfl
theorem laidOut : laidOutB Tryz.prog = true := by kernel_rfl

set_option maxRecDepth 100000 in
theorem lifted (os : Os) (started : os.Started) (H : Type) (enc : TypeId × Value → H) :
    ReturnsInHanded {} Tryz.checked os 4 .any (Rows.masterNilSpec.pre6 enc Tryz.prog Tryz.f4 Rows.masterNilRow.domain false) (Rows.masterNilSpec.post enc Tryz.prog Tryz.f4 false true false false) := by
  refine returnsInHanded_of_change (C := Tryz.checked) own started (by kernel_rfl) Tryz.func4
    (ChangeSpec.witness6 (enc := enc) (C := Tryz.checked) false ⟨#[], #[.agg #[.int .i64 0, .int .i64 0, .int .i64 0, .string ByteArray.empty, .int .i64 0, .int .i64 0, .int .i64 0, .int .i64 0, .int .i64 0, .int .i64 0, .int .i64 0, .int .i64 0, .int .i64 0, .int .i64 0, .int .i64 0, .int .i64 0, .bool false, .bool false, .bool false, .bool false, .bool false, .int .i64 0, .int .i64 0, .int .i64 0, .int .i64 0, .int .i64 0, .slice none 0 0], .int .i64 0], []⟩ 8 (by kernel_rfl) (by kernel_rfl) (by kernel_rfl) (by kernel_rfl)) ?_
  intro W base args ds gs before hval0 hW hcnd _
  have hval : ∀ (j : Nat) t v, Tryz.f4.params[j]? = some t → args[j]? = some v → Value.okWide Tryz.prog W .any base t v := hval0
  have hW' := hW
  obtain ⟨p, q, hA0, hV, rfl, hfz, hnd⟩ := hW
  have hA : DataW.TrodAll enc Tryz.prog W 0 (fun _ => true) true Tryz.f4.params.toList args.toList ds p := hA0
  rw [Tryz.params4] at hA hval
  obtain ⟨v1, vs1, d1, ds1, p1, q1, hargs, rfl, rfl, h1, r1⟩ := trodAll_cons hA
  obtain ⟨v2, vs2, d2, ds2, p2, q2, rfl, rfl, rfl, h2, r2⟩ := trodAll_cons r1
  obtain ⟨rfl, rfl, rfl⟩ := trodAll_nil r2
  obtain rfl : args = #[v1, v2] := by cases args; simp_all
  obtain ⟨rfl, rfl⟩ := trodVars_none hV
  obtain ⟨cs, rfl, -⟩ := okWide_struct Tryz.underlying59 (hval 0 59 v1 rfl rfl)
  have k1 := h1
  have lt1 : ∀ x ∈ p1, x.block < W.heap.size := by obtain ⟨m, hm⟩ := k1; exact DataW.trod_lt m _ _ _ hm
  obtain ⟨a2, rfl, rfl, rfl, w2⟩ := open_int Tryz.underlying3 (hval 1 3 v2 rfl rfl) h2
  clear hA0 hval0
  have key : Calls Tryz.prog 4 #[.agg cs, .int .i64 a2] W fun e w' => e = .returned (.bool true) ∧ Below W.heap.size W w' := by
    obtain ⟨fuel1, hf1⟩ := h1
    obtain ⟨k, a, b, x, y, z, rw, s, r0, r1, r2, r3, r5, r6, r7, r8, r9, r10, r11, r12, r13, r14, r15, r16, r17, r18, r19, hcs, hb, hs, hy, hz⟩ := open_cmd hf1
    obtain rfl : cs = #[.int .i64 k, .int .i64 a, .int .i64 b, .string s, .int .i64 x, .int .i64 y, .int .i64 z, r0, r1, r2, r3, .int .i64 rw, r5, r6, r7, r8, r9, r10, r11, r12, r13, r14, r15, r16, r17, r18, r19] := by cases cs; simpa [Value.cells] using hcs
    exact law_mnil W hb hs hy hz
  refine key.mono fun e W' ⟨he, bel⟩ => ?_
  subst he
  exact ⟨_, rfl, _, _, _, [], _, [], hW', trodAll_mk1 (shut_bool Tryz.underlying4 _), (trodAll_cons_mk (Below.trod laidOut (by kernel_rfl) (of_decide_eq_true (by kernel_rfl)) k1 bel lt1) (trodAll_cons_mk (shut_int Tryz.underlying3 w2) trodAll_mk0)), rfl, bel.frame _, fun h => by cases h⟩
end Go.Proofs.YthkfbaoeimjgaaaGreat.masterNil
end
