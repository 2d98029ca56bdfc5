import Derived.Test.YthkfbaoeimjgaaaGreatMaTaM
import Derived.Test.YthkfbaoeimjgaaaGreatSsFindM
import Derived.Test.YthkfbaoeimjgaaaGreatMaBgM
import Derived.Test.YthkfbaoeimjgaaaGreatRows
import Derived.ProofKit
import Derived.OpenShut
import Derived.Deep.Slices
import Derived.Deep.Strs
import Derived.Lib.SmallJoins
import Derived.ShutString
import Derived.ChangeOld
import Derived.SizedLaws
section
/- Stage 17's awake: a job begins when it is submitted, if a worker is there. -/
namespace Go.Proofs.YthkfbaoeimjgaaaGreat
open Go.RowKit
attribute [local go_sem] Oper.semAt_some
theorem aw_chk17 : jobN ⟨#[99, 99]⟩ [] [] ((9 : Nat) : Int) ((0 : Nat) : Int) ((2 : Nat) : Int) = 0 := by decide +kernel
theorem aw_dec17 : DecOk (str (jobB ⟨#[99, 99]⟩ [] [] 9 0 2)) ⟨#[99, 99]⟩ [] [] 9 0 2 := dec_back (st := 9) (se := 0) (pa := 2) (fun _ h => by cases h) (fun _ h => by cases h) aw_chk17
theorem aw_join17 : joinP [] 3 1 = [⟨3, 1⟩] := by rfl
theorem aw_asgn17 : asgn 2 (risL (([⟨3, 1⟩] : List Pz).map (·.k))) = [3, 3] := by decide
theorem aw_plcs17 : plcs [3, 3] 3 2 = [0, 1] := by decide
theorem aw_text17 (W : World) : Calls Tryz.prog 36 #[.agg #[.string ⟨#[99, 99]⟩, .slice none 0 0, .slice none 0 0, .int .i64 9, .int .i64 0, .int .i64 2]] W fun r w' => r = .returned (.string (str (jobB ⟨#[99, 99]⟩ [] [] 9 0 2))) ∧ Below W.heap.size W w' :=
  mtext (w := W) (P := fun _ => True) (t := ⟨#[99, 99]⟩) (go := none) (po := none) (G := []) (n := 0) (gc := 0) (m := 0) (pc := 0) (ps := []) (st := 9) (se := 0) (pa := 2) rfl rfl (by decide) (by decide) (by decide) (fun h => absurd h (by simp)) (fun _ h => by cases h) (fun h => absurd h (by simp)) (fun _ h => by cases h) aw_chk17
set_option maxRecDepth 100000 in
set_option maxHeartbeats 2000000 in
theorem awake17 (w : World) : Calls Tryz.prog 27 #[] w fun r w' => r = .returned (.bool true) ∧ Below w.heap.size w w' := by
  have hN := mnew w
  obtain ⟨p, hp⟩ : ∃ p, w.heap.size = p := ⟨_, rfl⟩
  rw [hp] at hN
  have HPw : Hid (w.heap.size = p) := hp
  have HJ : Hid (∀ W, MaBox W p (.pointer none) none (.slice none 0 0) 0 (.pointer none) [] → ∀ q1 q2 q3 q4 r0 r1 r2 r3 r4 r5 r6 r7 r8 r9 r10 r11 r12 r13 r14 r15 r16 r17 r18 r19 : Value, Calls Tryz.prog 21 #[.pointer (some ⟨p, 0, none⟩), .agg #[.int .i64 3, q1, q2, q3, q4, .int .i64 3, .int .i64 1, r0, r1, r2, r3, r4, r5, r6, r7, r8, r9, r10, r11, r12, r13, r14, r15, r16, r17, r18, r19]] W fun r w' => r = .returned (.tuple #[.agg #[.int .i64 0, .int .i64 0], .int .i64 0]) ∧ PoJ W w' p (.pointer none) none 0 [⟨3, 1⟩]) := fun W h q1 q2 q3 q4 r0 r1 r2 r3 r4 r5 r6 r7 r8 r9 r10 r11 r12 r13 r14 r15 r16 r17 r18 r19 => by
    have := mapply_join h (by decide) (x := 3) (l := 1) (by unfold W6; decide) (by unfold W6; decide) q1 q2 q3 q4 r0 r1 r2 r3 r4 r5 r6 r7 r8 r9 r10 r11 r12 r13 r14 r15 r16 r17 r18 r19
    rw [aw_join17] at this
    exact this
  obtain ⟨s, hs⟩ : ∃ s, str (jobB ⟨#[99, 99]⟩ [] [] 9 0 2) = s := ⟨_, rfl⟩
  have hT := aw_text17
  have hD := aw_dec17
  rw [hs] at hT hD
  have HT : Hid _ := hT
  have HD : Hid _ := hD
  clear hT hD hs hp
  go_enter Tryz.func27, Tryz.ntmps27
  go_upto_region 2 with (go_at_call 34; refine hN.mono ?_; rintro r w1 ⟨rfl, hM1, hb1⟩)
  have HB1 : Hid (Below p w w1) := hb1
  clear hN hb1
  go_upto_region 3 with (go_at_call 21; refine (HJ.out w1 hM1 _ _ _ _ _ _ _ _ _ _ _ _ _ _ _ _ _ _ _ _ _ _ _ _).mono ?_; rintro r w2 ⟨rfl, mb, hM2, hF2, hmb⟩)
  have HB2 : Hid (Below p w w2) := HB1.out.trans (hF2.below (by have := HPw.out; have := HB1.out.size; omega) (fun k hk => by
    rcases hk with hk | hk
    · omega
    · cases hk))
  clear hF2 hmb hM1
  have h2 := heap_alloc_new w2 (.cells #[.int .i64 0, .int .i64 0] 62)
  have HBa := ma_new w2 (.cells #[.int .i64 0, .int .i64 0] 62)
  have HS2 : Hid (p ≤ w2.heap.size) := Nat.le_trans (by have := HPw.out; omega) HB2.out.size
  generalize hW3 : World.alloc w2 _ = W3
  rw [hW3] at h2 HBa
  have HM3 : Hid (MaBox W3 p (.pointer none) mb (.slice none 0 0) 0 (.pointer none) [⟨3, 1⟩]) := hM2.new HBa
  have HB3 : Hid (Below p w W3) := HB2.out.trans (HBa.mono HS2.out)
  clear hM2 HBa hW3 h2
  go_upto_region 4 with (first
    | (go_at_call 36; refine (HT.out W3).mono ?_; rintro r w4 ⟨rfl, hb4⟩)
    | (go_at_call 21; refine (mapply_submit (HM3.out.new hb4) (by decide) (by decide) HD.out _ _ _ _ _ _ _ _ _ _ _ _ _ _ _ _ _ _ _ _ _ _ _).mono ?_; rintro r w5 ⟨rfl, tb, hS, hF5⟩))
  have HB4 : Hid (Below p w w4) := HB3.out.trans (hb4.mono (by have := HS2.out; have := HB3.out.size; have := HB2.out.size; have := HPw.out; omega))
  have HB5 : Hid (Below p w w5) := HB4.out.trans (hF5.below (by have := HPw.out; have := HB4.out.size; omega) (fun k hk => by omega))
  have HS5 : Hid (p ≤ w5.heap.size) := Nat.le_trans (by have := HPw.out; omega) HB5.out.size
  obtain ⟨jb, jc, q, hb, av, go, gc, po, pc, hR, hG, hP, _⟩ := hS
  have has := hR.as_
  rw [aw_asgn17] at has
  obtain ⟨ao, ac, rfl, _, hg⟩ := GO.shape has
  obtain ⟨ga, rfl⟩ := hg (by decide)
  have h5 := heap_alloc_new w5 (.cells #[.int .i64 0, .int .i64 1] 62)
  have HBb := ma_new w5 (.cells #[.int .i64 0, .int .i64 1] 62)
  generalize hW6 : World.alloc w5 _ = Wx6
  rw [hW6] at h5 HBb
  have HB6 : Hid (Below p w Wx6) := HB5.out.trans (HBb.mono HS5.out)
  have hK := mtask_first (A := [3, 3]) (x := 3) (P := fun _ => True) (G := []) (ps := []) (hR.new HBb) aw_asgn17 rfl (by unfold W6; decide) (by decide) (fun h => absurd h (by simp)) (fun _ h => by cases h) (by decide) ⟨po, pc, rfl, Nat.zero_le _, fun h => absurd h (by simp)⟩ (by decide)
  obtain ⟨g5, hg5⟩ : ∃ g5, w5.heap.size = g5 := ⟨_, rfl⟩
  rw [hg5] at h5 ⊢
  have HH5 : Hid (Wx6.heap[g5]? = some (.cells #[.int .i64 0, .int .i64 1] 62 (0, 0))) := h5
  clear hW6 hg5 h5 hR hG hP has hg hb4 hF5 HBb
  go_upto_region 5 with (first
    | (go_at_call 23; refine hK.mono ?_; rintro r w7 ⟨v1, v2, bo, c, ao3, c3, rfl, hv1, hv2, hb7⟩; have e1 : plcs [3, 3] 3 ([3, 3] : List Int).length = [0, 1] := aw_plcs17; rw [e1] at hv1; obtain ⟨ao1, c1, rfl, _, _⟩ := GO.shape hv1; obtain ⟨ao2, c2, rfl, _, _⟩ := GO.shape hv2; have HB7 : Hid (Below Wx6.heap.size Wx6 w7) := hb7; clear hv1 hv2 hb7 e1)
    | (refine wpList_store_row rfl 69 _ _ rfl w7.heap.size #[.int .i64 1, .int .i64 1, .int .i64 0, .int .i64 1, .slice ao1 2 c1, .slice ao2 2 c2, .string ⟨#[99, 99]⟩, .slice bo 0 c, .slice ao3 0 c3, .int .i64 9, .int .i64 0, .int .i64 2, .bool false, .bool false, .bool false, .bool false, .bool false, .int .i64 0, .int .i64 0, .int .i64 0, .int .i64 0, .int .i64 0, .int .i64 0, .int .i64 0, .int .i64 0, .bool false] rfl rfl 69 #[.int .i64 0, .int .i64 0, .int .i64 0, .int .i64 0, .slice none 0 0, .slice none 0 0, .string ⟨#[]⟩, .slice none 0 0, .slice none 0 0, .int .i64 0, .int .i64 0, .int .i64 0, .bool false, .bool false, .bool false, .bool false, .bool false, .int .i64 0, .int .i64 0, .int .i64 0, .int .i64 0, .int .i64 0, .int .i64 0, .int .i64 0, .int .i64 0, .bool false] (heap_alloc_new _ _) size_task rfl (by simp [Value.oneCell']) ?_))
  generalize hW8 : World.setRow _ _ _ = W8
  obtain ⟨V, hV⟩ : ∃ V, w7.alloc (.cells #[.int .i64 0, .int .i64 0, .int .i64 0, .int .i64 0, .slice none 0 0, .slice none 0 0, .string ⟨#[]⟩, .slice none 0 0, .slice none 0 0, .int .i64 0, .int .i64 0, .int .i64 0, .bool false, .bool false, .bool false, .bool false, .bool false, .int .i64 0, .int .i64 0, .int .i64 0, .int .i64 0, .int .i64 0, .int .i64 0, .int .i64 0, .int .i64 0, .bool false] 69) = V := ⟨_, rfl⟩
  have hbV : Below w7.heap.size w7 V := by rw [← hV]; exact ma_new _ _
  have hk : V.heap[w7.heap.size]? = some (.cells #[.int .i64 0, .int .i64 0, .int .i64 0, .int .i64 0, .slice none 0 0, .slice none 0 0, .string ⟨#[]⟩, .slice none 0 0, .slice none 0 0, .int .i64 0, .int .i64 0, .int .i64 0, .bool false, .bool false, .bool false, .bool false, .bool false, .int .i64 0, .int .i64 0, .int .i64 0, .int .i64 0, .int .i64 0, .int .i64 0, .int .i64 0, .int .i64 0, .bool false] 69 (0, 0)) := by rw [← hV]; exact heap_alloc_new _ _
  rw [hV] at hW8
  have hF8 : Fr V W8 (fun k => k = w7.heap.size) := by rw [← hW8]; exact ap_setRow _ _ _
  have hn : W8.heap[w7.heap.size]? = some (.cells #[.int .i64 1, .int .i64 1, .int .i64 0, .int .i64 1, .slice ao1 2 c1, .slice ao2 2 c2, .string ⟨#[99, 99]⟩, .slice bo 0 c, .slice ao3 0 c3, .int .i64 9, .int .i64 0, .int .i64 2, .bool false, .bool false, .bool false, .bool false, .bool false, .int .i64 0, .int .i64 0, .int .i64 0, .int .i64 0, .int .i64 0, .int .i64 0, .int .i64 0, .int .i64 0, .bool false] 69 (0, 0)) := by rw [← hW8]; exact setRow_heap _ _ _ _ _ _ hk
  have hb8 : Below w7.heap.size w7 W8 := hbV.trans (hF8.below hbV.size (fun k hk => by omega))
  have h5 : w7.heap[g5]? = some (.cells #[.int .i64 0, .int .i64 1] 62 (0, 0)) := (HB7.out.block g5 (ma_lt HH5.out)).trans HH5.out
  have h58 := (hb8.block g5 (ma_lt h5)).trans h5
  have HBw : Hid (Below p w w7) := HB6.out.trans (HB7.out.mono (by have := HPw.out; have := HB6.out.size; omega))
  have HB8 : Hid (Below p w W8) := HBw.out.trans (hb8.mono (Nat.le_trans (by have := HPw.out; omega) HBw.out.size))
  have k0 : W8.cell? ⟨g5, 0, none⟩ = some (.int .i64 0) := by simp [World.cell?, h58]
  have k1 : W8.cell? ⟨g5, 1, none⟩ = some (.int .i64 1) := by simp [World.cell?, h58]
  have k3 : W8.cell? ⟨w7.heap.size, 3, none⟩ = some (.int .i64 1) := by simp [World.cell?, hn]
  have k4 : W8.cell? ⟨w7.heap.size, 4, none⟩ = some (.slice ao1 2 c1) := by simp [World.cell?, hn]
  clear hW8 hn hb8 h58 h5 hV hbV hk hF8
  generalize w7.heap.size = g7 at k3 k4 ⊢
  go_wp2
  go_ret
  refine ⟨rfl, ?_⟩
  rw [HPw.out]
  exact HB8.out
end Go.Proofs.YthkfbaoeimjgaaaGreat
end

section
/- MasterLives: a worker is there in its latest life alone. -/
namespace Go.Proofs.YthkfbaoeimjgaaaGreat
open Go.RowKit Go.Maps
attribute [local go_sem] Oper.semAt_some
set_option maxRecDepth 100000 in
set_option maxHeartbeats 4000000 in
theorem law_mlives (w : World) {ao : Option Addr} {cap : Nat} {X : List AcL} (hX : AcLS w (.slice ao X.length cap) X) (hok : ∀ y ∈ X, W6 y.k ∧ W6 y.n) : Calls Tryz.prog 6 #[.slice ao X.length cap] w fun r w' => r = .returned (.bool true) ∧ Below w.heap.size w w' := by
  obtain ⟨ao', cap', e, hc⟩ := hX
  cases e
  have HX : Hid (0 < X.length → ∃ b off, ao = some ⟨b, off, none⟩ ∧ ∀ j (h : j < X.length), w.cell? ⟨b, off + j * 8, none⟩ = some (.int .i64 X[j].k) ∧ w.cell? ⟨b, off + j * 8 + 1, none⟩ = some (.int .i64 X[j].n)) := hc
  have HO : Hid (∀ y ∈ X, W6 y.k ∧ W6 y.n) := hok
  have hN := mnew w
  have HAw : Hid (∀ W, Calls Tryz.prog 27 #[] W fun r w' => r = .returned (.bool true) ∧ Below W.heap.size W w') := fun W => awake17 W
  have hmm := @run_makeMap Tryz.prog
  clear hc hok
  go_enter Tryz.func6, Tryz.ntmps6
  go_upto_region 2 with (go_at_call 34; refine hN.mono ?_; rintro r w1 ⟨rfl, hM1, hb1⟩)
  have HM1 : Hid (MaBox w1 w.heap.size (.pointer none) none (.slice none 0 0) 0 (.pointer none) []) := hM1
  have HB1 : Hid (Below w.heap.size w w1) := hb1
  clear hN hM1 hb1
  go_upto_region 3 with (fail)
  generalize hW : World.alloc _ _ = W
  have HV0 : Hid (LvW w W w.heap.size w1.heap.size none []) := by
    have hb : Below w1.heap.size w1 W := by rw [← hW]; exact ma_new _ _
    exact ⟨HM1.out.new hb, by rw [← hW]; exact WMap.made w1, LvI.nil, fun b e => (by cases e), fun e => by have := HM1.out.lt; omega, Nat.le_refl _, HB1.out.size, HB1.out.trans (hb.mono HB1.out.size)⟩
  clear hW HM1 HB1 hmm
  obtain ⟨p, hp⟩ : ∃ p, w.heap.size = p := ⟨_, rfl⟩
  have HV0 : Hid (LvW w W p w1.heap.size none []) := by rw [← hp]; exact HV0.out
  rw [hp]
  have HPw : Hid (w.heap.size = p) := hp
  clear hp
  generalize w1.heap.size = lb at HV0 ⊢
  go_wp2
  go_loopw [5] (fun i wr => ∃ (j : Nat) (mb : Option Nat) (M : List Pz), j ≤ X.length ∧ j ≤ 100 ∧ i = .int .i64 j ∧ Hid (LvW w wr p lb mb M)) (fun i _ => X.length - (intOf i).toNat)
  case atStart => exact ⟨0, none, [], Nat.zero_le _, Nat.zero_le _, rfl, HV0⟩
  case round =>
    clear HV0
    obtain ⟨j, mb, M, hj, hj2, rfl, HV⟩ := hrel
    by_cases hlt : j < X.length ∧ j < 100
    · obtain ⟨hlt, hlt2⟩ := hlt
      obtain ⟨b, off, rfl, hc⟩ := HX.out (by omega)
      obtain ⟨e0, e1⟩ := hc j hlt
      have hbb := ma_ltc e0
      have d0 := (HV.out.lo.cell (p := ⟨b, off + j * 8, none⟩) hbb).trans e0
      have d1 := (HV.out.lo.cell (p := ⟨b, off + j * 8 + 1, none⟩) hbb).trans e1
      have HXo : Hid (W6 X[j].k ∧ W6 X[j].n) := HO.out _ (List.getElem_mem hlt)
      generalize X[j] = y at d0 d1 HXo
      have hjn : (j : Int) < X.length := by omega
      have hj3 : (j : Int) < 100 := by omega
      obtain ⟨m, hm, hand⟩ := and3l y.k
      have HX1 : Hid (-70 < y.n.tmod 70 ∧ y.n.tmod 70 < 70) := ⟨Int.lt_tmod_of_pos y.n (by decide), Int.tmod_lt_of_pos y.n (by decide)⟩
      clear hc e0 e1 hbb
      go_upto_region 6 with (fail)
      go_region
      have HVd : Hid (LvW w wr.drew p lb mb M) := HV.out.new (Below.drew (Below.refl wr.heap.size wr))
      have d0d : wr.drew.cell? ⟨b, off + j * 8, none⟩ = some (.int .i64 y.k) := d0
      have d1d : wr.drew.cell? ⟨b, off + j * 8 + 1, none⟩ = some (.int .i64 y.n) := d1
      clear HV d0 d1
      obtain ⟨wd, hwd⟩ : ∃ wd, wr.drew = wd := ⟨_, rfl⟩
      rw [hwd] at HVd d0d d1d ⊢
      have HV := HVd
      clear hwd HVd
      go_upto_region 7 with (fail)
      obtain ⟨x, hx⟩ : ∃ x, y.n.tmod 70 = x := ⟨_, rfl⟩
      rw [hx] at HX1
      simp only [hx]
      have hx1 : -70 < x := HX1.out.1
      have hx2 : x < 70 := HX1.out.2
      have HK : Hid (W6 x) := by have := HX1.out; unfold W6; exact ⟨by omega, by omega⟩
      have hlk := HV.out.mp.look HK.out
      have HL1 : Hid (∀ l, (1 : Int) ≤ l → joinP M x l = if 0 ≤ x ∧ x < 64 ∧ lifeP M x < l then insP M ⟨x, l⟩ else M) := fun l hl => join_is HV.out.iv x hl
      have HL2 : Hid (∀ l, (1 : Int) ≤ l → loseP M x l = if lifeP M x = l then delP M x else M) := fun l hl => lose_is HV.out.iv x hl
      clear hx HX1
      generalize lifeP M x = l0 at hlk HL1 HL2
      by_cases hpar : y.k.tmod 2 = 0
      · have HJ : Hid (∀ q1 q2 q3 q4 r0 r1 r2 r3 r4 r5 r6 r7 r8 r9 r10 r11 r12 r13 r14 r15 r16 r17 r18 r19 : Value, Calls Tryz.prog 21 #[.pointer (some ⟨p, 0, none⟩), .agg #[.int .i64 3, q1, q2, q3, q4, .int .i64 x, .int .i64 (1 + (m : Int)), r0, r1, r2, r3, r4, r5, r6, r7, r8, r9, r10, r11, r12, r13, r14, r15, r16, r17, r18, r19]] wd fun r w' => r = .returned (.tuple #[.agg #[.int .i64 0, .int .i64 0], .int .i64 0]) ∧ PoJ wd w' p (.pointer none) mb 0 (joinP M x (1 + (m : Int)))) := fun q1 q2 q3 q4 r0 r1 r2 r3 r4 r5 r6 r7 r8 r9 r10 r11 r12 r13 r14 r15 r16 r17 r18 r19 => mapply_join HV.out.ma (by have := HV.out.iv.few; omega) HK.out (by unfold W6; omega) q1 q2 q3 q4 r0 r1 r2 r3 r4 r5 r6 r7 r8 r9 r10 r11 r12 r13 r14 r15 r16 r17 r18 r19
        go_upto_region 10 with (go_at_call 21; refine (HJ.out _ _ _ _ _ _ _ _ _ _ _ _ _ _ _ _ _ _ _ _ _ _ _ _).mono ?_; rintro r w3 ⟨rfl, hP⟩)
        obtain ⟨mb2, hH⟩ := HV.out.took hP (HV.out.iv.join (by omega))
        have HH : Hid (LvH w w3 p lb mb2 M (joinP M x (1 + (m : Int)))) := hH
        clear hP hH HJ HL2
        by_cases hcd : 0 ≤ x ∧ x < 64 ∧ l0 < 1 + (m : Int)
        · obtain ⟨W4, hrun, hM4, hF4⟩ := wput HH.out.mp (by have := HV.out.iv.few; omega) HK.out (l := 1 + (m : Int)) (by unfold W6; omega)
          have HV4 : Hid (LvW w W4 p lb mb2 (insP M ⟨x, 1 + (m : Int)⟩)) := by
            have h := HH.out
            rw [HL1.out _ (by omega), if_pos hcd] at h
            exact h.wrote hM4 hF4
          obtain ⟨hc1, hc2, hc3⟩ := hcd
          clear hM4 hF4 HH HL1
          obtain ⟨M2, hM2⟩ : ∃ M2, insP M ⟨x, 1 + (m : Int)⟩ = M2 := ⟨_, rfl⟩
          rw [hM2] at HV4
          clear hM2 HV
          have HV := HV4
          clear HV4
          go_upto_region 16 with (go_at_call 26; refine (mlife_is HV.out.ma HV.out.iv HK.out).mono ?_; rintro r w5 ⟨rfl, hb5⟩)
          have HV5 : Hid (LvW w w5 p lb mb2 M2) := HV.out.new hb5
          have hl5 := HV5.out.mp.look HK.out
          have HWk : Hid (Calls Tryz.prog 30 #[.pointer (some ⟨p, 0, none⟩)] w5 fun r w' => ∃ ao c, r = .returned (.slice ao M2.length c) ∧ Below w5.heap.size w5 w') := mworkers_len HV5.out.ma HV5.out.iv
          have HTh : Hid (∀ W, Below w5.heap.size w5 W → Calls Tryz.prog 37 #[.map (some lb)] W fun r w' => r = .returned (.int .i64 (M2.length : Nat)) ∧ w' = W) := fun W hb => there_len (HV5.out.mp.new hb) HV5.out.iv
          clear hb5
          generalize lifeP M2 x = lx at hl5 ⊢
          by_cases hpos : 0 < lx
          · have hd : decide (0 < lx) = true := by simpa using hpos
            rw [hd]
            go_wp2_with (first | (go_at_call 30; refine HWk.out.mono ?_; rintro r w6 ⟨ao6, c6, rfl, hb6⟩) | (go_at_call 37; refine (HTh.out _ hb6).mono ?_; rintro r w7 ⟨rfl, rfl⟩))
            go_roundw
            case rel => exact ⟨j + 1, mb2, M2, by omega, by omega, by go_num, HV5.out.new hb6⟩
            case measure => simp [intOf]; omega
          · have hd : decide (0 < lx) = false := by simpa using hpos
            rw [hd]
            go_wp2_with (first | (go_at_call 30; refine HWk.out.mono ?_; rintro r w6 ⟨ao6, c6, rfl, hb6⟩) | (go_at_call 37; refine (HTh.out _ hb6).mono ?_; rintro r w7 ⟨rfl, rfl⟩))
            go_roundw
            case rel => exact ⟨j + 1, mb2, M2, by omega, by omega, by go_num, HV5.out.new hb6⟩
            case measure => simp [intOf]; omega
        · have HV4 : Hid (LvW w w3 p lb mb2 M) := by
            have h := HH.out
            rw [HL1.out _ (by omega), if_neg hcd] at h
            exact h.same
          clear HH HL1 HV
          have HV := HV4
          clear HV4
          by_cases hc1 : 0 ≤ x
          · by_cases hc2 : x < 64
            · have hc3 : ¬ l0 < 1 + (m : Int) := fun h => hcd ⟨hc1, hc2, h⟩
              clear hcd
              go_upto_region 16 with (go_at_call 26; refine (mlife_is HV.out.ma HV.out.iv HK.out).mono ?_; rintro r w5 ⟨rfl, hb5⟩)
              have HV5 : Hid (LvW w w5 p lb mb2 M) := HV.out.new hb5
              have hl5 := HV5.out.mp.look HK.out
              have HWk : Hid (Calls Tryz.prog 30 #[.pointer (some ⟨p, 0, none⟩)] w5 fun r w' => ∃ ao c, r = .returned (.slice ao M.length c) ∧ Below w5.heap.size w5 w') := mworkers_len HV5.out.ma HV5.out.iv
              have HTh : Hid (∀ W, Below w5.heap.size w5 W → Calls Tryz.prog 37 #[.map (some lb)] W fun r w' => r = .returned (.int .i64 (M.length : Nat)) ∧ w' = W) := fun W hb => there_len (HV5.out.mp.new hb) HV5.out.iv
              clear hb5
              generalize lifeP M x = lx at hl5 ⊢
              by_cases hpos : 0 < lx
              · have hd : decide (0 < lx) = true := by simpa using hpos
                rw [hd]
                go_wp2_with (first | (go_at_call 30; refine HWk.out.mono ?_; rintro r w6 ⟨ao6, c6, rfl, hb6⟩) | (go_at_call 37; refine (HTh.out _ hb6).mono ?_; rintro r w7 ⟨rfl, rfl⟩))
                go_roundw
                case rel => exact ⟨j + 1, mb2, M, by omega, by omega, by go_num, HV5.out.new hb6⟩
                case measure => simp [intOf]; omega
              · have hd : decide (0 < lx) = false := by simpa using hpos
                rw [hd]
                go_wp2_with (first | (go_at_call 30; refine HWk.out.mono ?_; rintro r w6 ⟨ao6, c6, rfl, hb6⟩) | (go_at_call 37; refine (HTh.out _ hb6).mono ?_; rintro r w7 ⟨rfl, rfl⟩))
                go_roundw
                case rel => exact ⟨j + 1, mb2, M, by omega, by omega, by go_num, HV5.out.new hb6⟩
                case measure => simp [intOf]; omega
            · clear hcd
              go_upto_region 16 with (go_at_call 26; refine (mlife_is HV.out.ma HV.out.iv HK.out).mono ?_; rintro r w5 ⟨rfl, hb5⟩)
              have HV5 : Hid (LvW w w5 p lb mb2 M) := HV.out.new hb5
              have hl5 := HV5.out.mp.look HK.out
              have HWk : Hid (Calls Tryz.prog 30 #[.pointer (some ⟨p, 0, none⟩)] w5 fun r w' => ∃ ao c, r = .returned (.slice ao M.length c) ∧ Below w5.heap.size w5 w') := mworkers_len HV5.out.ma HV5.out.iv
              have HTh : Hid (∀ W, Below w5.heap.size w5 W → Calls Tryz.prog 37 #[.map (some lb)] W fun r w' => r = .returned (.int .i64 (M.length : Nat)) ∧ w' = W) := fun W hb => there_len (HV5.out.mp.new hb) HV5.out.iv
              clear hb5
              generalize lifeP M x = lx at hl5 ⊢
              by_cases hpos : 0 < lx
              · have hd : decide (0 < lx) = true := by simpa using hpos
                rw [hd]
                go_wp2_with (first | (go_at_call 30; refine HWk.out.mono ?_; rintro r w6 ⟨ao6, c6, rfl, hb6⟩) | (go_at_call 37; refine (HTh.out _ hb6).mono ?_; rintro r w7 ⟨rfl, rfl⟩))
                go_roundw
                case rel => exact ⟨j + 1, mb2, M, by omega, by omega, by go_num, HV5.out.new hb6⟩
                case measure => simp [intOf]; omega
              · have hd : decide (0 < lx) = false := by simpa using hpos
                rw [hd]
                go_wp2_with (first | (go_at_call 30; refine HWk.out.mono ?_; rintro r w6 ⟨ao6, c6, rfl, hb6⟩) | (go_at_call 37; refine (HTh.out _ hb6).mono ?_; rintro r w7 ⟨rfl, rfl⟩))
                go_roundw
                case rel => exact ⟨j + 1, mb2, M, by omega, by omega, by go_num, HV5.out.new hb6⟩
                case measure => simp [intOf]; omega
          · clear hcd
            go_upto_region 16 with (go_at_call 26; refine (mlife_is HV.out.ma HV.out.iv HK.out).mono ?_; rintro r w5 ⟨rfl, hb5⟩)
            have HV5 : Hid (LvW w w5 p lb mb2 M) := HV.out.new hb5
            have hl5 := HV5.out.mp.look HK.out
            have HWk : Hid (Calls Tryz.prog 30 #[.pointer (some ⟨p, 0, none⟩)] w5 fun r w' => ∃ ao c, r = .returned (.slice ao M.length c) ∧ Below w5.heap.size w5 w') := mworkers_len HV5.out.ma HV5.out.iv
            have HTh : Hid (∀ W, Below w5.heap.size w5 W → Calls Tryz.prog 37 #[.map (some lb)] W fun r w' => r = .returned (.int .i64 (M.length : Nat)) ∧ w' = W) := fun W hb => there_len (HV5.out.mp.new hb) HV5.out.iv
            clear hb5
            generalize lifeP M x = lx at hl5 ⊢
            by_cases hpos : 0 < lx
            · have hd : decide (0 < lx) = true := by simpa using hpos
              rw [hd]
              go_wp2_with (first | (go_at_call 30; refine HWk.out.mono ?_; rintro r w6 ⟨ao6, c6, rfl, hb6⟩) | (go_at_call 37; refine (HTh.out _ hb6).mono ?_; rintro r w7 ⟨rfl, rfl⟩))
              go_roundw
              case rel => exact ⟨j + 1, mb2, M, by omega, by omega, by go_num, HV5.out.new hb6⟩
              case measure => simp [intOf]; omega
            · have hd : decide (0 < lx) = false := by simpa using hpos
              rw [hd]
              go_wp2_with (first | (go_at_call 30; refine HWk.out.mono ?_; rintro r w6 ⟨ao6, c6, rfl, hb6⟩) | (go_at_call 37; refine (HTh.out _ hb6).mono ?_; rintro r w7 ⟨rfl, rfl⟩))
              go_roundw
              case rel => exact ⟨j + 1, mb2, M, by omega, by omega, by go_num, HV5.out.new hb6⟩
              case measure => simp [intOf]; omega
      · have HJ : Hid (∀ q1 q2 q3 q4 r0 r1 r2 r3 r4 r5 r6 r7 r8 r9 r10 r11 r12 r13 r14 r15 r16 r17 r18 r19 : Value, Calls Tryz.prog 21 #[.pointer (some ⟨p, 0, none⟩), .agg #[.int .i64 4, q1, q2, q3, q4, .int .i64 x, .int .i64 (1 + (m : Int)), r0, r1, r2, r3, r4, r5, r6, r7, r8, r9, r10, r11, r12, r13, r14, r15, r16, r17, r18, r19]] wd fun r w' => r = .returned (.tuple #[.agg #[.int .i64 0, .int .i64 0], .int .i64 0]) ∧ PoJ wd w' p (.pointer none) mb 0 (loseP M x (1 + (m : Int)))) := fun q1 q2 q3 q4 r0 r1 r2 r3 r4 r5 r6 r7 r8 r9 r10 r11 r12 r13 r14 r15 r16 r17 r18 r19 => mapply_lose HV.out.ma HK.out q1 q2 q3 q4 r0 r1 r2 r3 r4 r5 r6 r7 r8 r9 r10 r11 r12 r13 r14 r15 r16 r17 r18 r19
        go_upto_region 13 with (go_at_call 21; refine (HJ.out _ _ _ _ _ _ _ _ _ _ _ _ _ _ _ _ _ _ _ _ _ _ _ _).mono ?_; rintro r w3 ⟨rfl, hP⟩)
        obtain ⟨mb2, hH⟩ := HV.out.took hP (HV.out.iv.lose (by omega))
        have HH : Hid (LvH w w3 p lb mb2 M (loseP M x (1 + (m : Int)))) := hH
        clear hP hH HJ HL1
        by_cases hcd : l0 = 1 + (m : Int)
        · obtain ⟨W4, hrun, hM4, hF4⟩ := WMap.del (h := HH.out.mp) HK.out 0 (M' := delP M x) (delP_nod HV.out.iv.nod) (fun z hz => HH.out.mp.oks z (delP_mem hz).1) (delP_get M x)
          have HV4 : Hid (LvW w W4 p lb mb2 (delP M x)) := by
            have h := HH.out
            rw [HL2.out _ (by omega), if_pos hcd] at h
            exact h.wrote hM4 hF4
          clear hM4 hF4 HH HL2
          obtain ⟨M2, hM2⟩ : ∃ M2, delP M x = M2 := ⟨_, rfl⟩
          rw [hM2] at HV4
          clear hM2 HV
          have HV := HV4
          clear HV4
          go_upto_region 16 with (go_at_call 26; refine (mlife_is HV.out.ma HV.out.iv HK.out).mono ?_; rintro r w5 ⟨rfl, hb5⟩)
          have HV5 : Hid (LvW w w5 p lb mb2 M2) := HV.out.new hb5
          have hl5 := HV5.out.mp.look HK.out
          have HWk : Hid (Calls Tryz.prog 30 #[.pointer (some ⟨p, 0, none⟩)] w5 fun r w' => ∃ ao c, r = .returned (.slice ao M2.length c) ∧ Below w5.heap.size w5 w') := mworkers_len HV5.out.ma HV5.out.iv
          have HTh : Hid (∀ W, Below w5.heap.size w5 W → Calls Tryz.prog 37 #[.map (some lb)] W fun r w' => r = .returned (.int .i64 (M2.length : Nat)) ∧ w' = W) := fun W hb => there_len (HV5.out.mp.new hb) HV5.out.iv
          clear hb5
          generalize lifeP M2 x = lx at hl5 ⊢
          by_cases hpos : 0 < lx
          · have hd : decide (0 < lx) = true := by simpa using hpos
            rw [hd]
            go_wp2_with (first | (go_at_call 30; refine HWk.out.mono ?_; rintro r w6 ⟨ao6, c6, rfl, hb6⟩) | (go_at_call 37; refine (HTh.out _ hb6).mono ?_; rintro r w7 ⟨rfl, rfl⟩))
            go_roundw
            case rel => exact ⟨j + 1, mb2, M2, by omega, by omega, by go_num, HV5.out.new hb6⟩
            case measure => simp [intOf]; omega
          · have hd : decide (0 < lx) = false := by simpa using hpos
            rw [hd]
            go_wp2_with (first | (go_at_call 30; refine HWk.out.mono ?_; rintro r w6 ⟨ao6, c6, rfl, hb6⟩) | (go_at_call 37; refine (HTh.out _ hb6).mono ?_; rintro r w7 ⟨rfl, rfl⟩))
            go_roundw
            case rel => exact ⟨j + 1, mb2, M2, by omega, by omega, by go_num, HV5.out.new hb6⟩
            case measure => simp [intOf]; omega
        · have HV4 : Hid (LvW w w3 p lb mb2 M) := by
            have h := HH.out
            rw [HL2.out _ (by omega), if_neg hcd] at h
            exact h.same
          clear HH HL2 HV
          have HV := HV4
          clear HV4
          go_upto_region 16 with (go_at_call 26; refine (mlife_is HV.out.ma HV.out.iv HK.out).mono ?_; rintro r w5 ⟨rfl, hb5⟩)
          have HV5 : Hid (LvW w w5 p lb mb2 M) := HV.out.new hb5
          have hl5 := HV5.out.mp.look HK.out
          have HWk : Hid (Calls Tryz.prog 30 #[.pointer (some ⟨p, 0, none⟩)] w5 fun r w' => ∃ ao c, r = .returned (.slice ao M.length c) ∧ Below w5.heap.size w5 w') := mworkers_len HV5.out.ma HV5.out.iv
          have HTh : Hid (∀ W, Below w5.heap.size w5 W → Calls Tryz.prog 37 #[.map (some lb)] W fun r w' => r = .returned (.int .i64 (M.length : Nat)) ∧ w' = W) := fun W hb => there_len (HV5.out.mp.new hb) HV5.out.iv
          clear hb5
          generalize lifeP M x = lx at hl5 ⊢
          by_cases hpos : 0 < lx
          · have hd : decide (0 < lx) = true := by simpa using hpos
            rw [hd]
            go_wp2_with (first | (go_at_call 30; refine HWk.out.mono ?_; rintro r w6 ⟨ao6, c6, rfl, hb6⟩) | (go_at_call 37; refine (HTh.out _ hb6).mono ?_; rintro r w7 ⟨rfl, rfl⟩))
            go_roundw
            case rel => exact ⟨j + 1, mb2, M, by omega, by omega, by go_num, HV5.out.new hb6⟩
            case measure => simp [intOf]; omega
          · have hd : decide (0 < lx) = false := by simpa using hpos
            rw [hd]
            go_wp2_with (first | (go_at_call 30; refine HWk.out.mono ?_; rintro r w6 ⟨ao6, c6, rfl, hb6⟩) | (go_at_call 37; refine (HTh.out _ hb6).mono ?_; rintro r w7 ⟨rfl, rfl⟩))
            go_roundw
            case rel => exact ⟨j + 1, mb2, M, by omega, by omega, by go_num, HV5.out.new hb6⟩
            case measure => simp [intOf]; omega
    · have HA := HAw.out wr
      have HB : Hid (Below w.heap.size w wr) := HV.out.lo
      have hge : ¬ ((j : Int) < X.length ∧ (j : Int) < 100) := fun h => hlt ⟨by omega, by omega⟩
      clear HV hlt
      by_cases hlt1 : j < X.length
      · have hge2 : ¬ (j : Int) < 100 := fun h => hge ⟨by omega, h⟩
        have hlt2 : (j : Int) < X.length := by omega
        clear hge hlt1
        go_wp2_with (go_at_call 27; refine HA.mono ?_; rintro r w8 ⟨rfl, hb8⟩)
        go_ret
        exact ⟨rfl, HB.out.trans (hb8.mono HB.out.size)⟩
      · have hge2 : ¬ (j : Int) < X.length := by omega
        clear hge hlt1
        go_wp2_with (go_at_call 27; refine HA.mono ?_; rintro r w8 ⟨rfl, hb8⟩)
        go_ret
        exact ⟨rfl, HB.out.trans (hb8.mono HB.out.size)⟩
end Go.Proofs.YthkfbaoeimjgaaaGreat
end

section
/- MasterLives over arguments of any make. -/
namespace Go.Proofs.YthkfbaoeimjgaaaGreat
open Go.RowKit Go.Deep Go.Joins Go.ChangeShapes
theorem lcI : Tryz.prog.cellsOf 3 = 1 := by kernel_rfl
theorem lcA : Tryz.prog.cellsOf 92 = 8 := by kernel_rfl
theorem eight_ofL {α : Type} {l : List α} (h : l.length = 8) : ∃ a b c d e f g i, l = [a, b, c, d, e, f, g, i] := by
  match l, h with
  | [a, b, c, d, e, f, g, i], _ => exact ⟨a, b, c, d, e, f, g, i, rfl⟩
section
variable {H : Type} {enc : TypeId × Value → H} {w : World} {base : Nat} {spare : Nat → Bool} {held : Bool}
theorem open_actL {n : Nat} {cs : List Value} {x : DataW H × List MemPlace} (h : DataW.trod enc Tryz.prog w base spare held n 92 cs = some x) :
    ∃ y : AcL, (∃ a b c d e f, cs = [.int .i64 y.k, .int .i64 y.n, a, b, c, d, e, f]) ∧ W6 y.k ∧ W6 y.n := by
  obtain ⟨y0, y1, y2, m, hx, hl, f0, f1, f2⟩ := trod_struct3 Tryz.underlying92 h
  rw [lcA] at hl
  obtain ⟨x0, x1, x2, x3, x4, x5, x6, x7, rfl⟩ := eight_ofL hl
  simp only [lcI, List.drop, List.take] at f0 f1
  obtain ⟨k, e0, _, wk⟩ := DataW.trod_int Tryz.underlying3 f0
  obtain ⟨q, e1, _, wq⟩ := DataW.trod_int Tryz.underlying3 f1
  simp only [List.cons.injEq, and_true] at e0 e1
  subst e0 e1
  exact ⟨⟨k, q⟩, ⟨_, _, _, _, _, _, rfl⟩, bounds_i64 wk, bounds_i64 wq⟩
theorem open_actsL {n : Nat} {cs : List Value} {x : DataW H × List MemPlace} (h : DataW.trod enc Tryz.prog w base spare held n 89 cs = some x) :
    ∃ (ao : Option Addr) (cap : Nat) (Y : List AcL), cs = [.slice ao Y.length cap] ∧ AcLS w (.slice ao Y.length cap) Y ∧ ∀ y ∈ Y, W6 y.k ∧ W6 y.n := by
  rcases open_slice Tryz.underlying89 h with ⟨h0, h1⟩ | ⟨a, len, cap, m, k, D, Pl, rfl, hb, hl, hm, hmm, rfl, hx⟩
  · exact ⟨none, 0, [], h0, ⟨none, 0, rfl, fun h => absurd h (by simp)⟩, fun y hy => (by cases hy)⟩
  · have hlm : len ≤ m := by rw [hmm]; split <;> omega
    have each : ∀ i, i < len → ∃ y : AcL, (∃ a0 b0 c0 d0 e0 f0, w.cells? base (a.add (i * 8)) 8 = some [.int .i64 y.k, .int .i64 y.n, a0, b0, c0, d0, e0, f0]) ∧ W6 y.k ∧ W6 y.n := by
      intro i hi
      obtain ⟨cs', h1, h2⟩ := hx i (by omega)
      rw [lcA] at h1
      obtain ⟨y, ⟨a0, b0, c0, d0, e0, f0, rfl⟩, h3⟩ := open_actL h2
      exact ⟨y, ⟨_, _, _, _, _, _, h1⟩, h3⟩
    haveI : Inhabited AcL := ⟨⟨0, 0⟩⟩
    obtain ⟨q, hq⟩ := choose_lt each
    have hlen : ((List.range len).map q).length = len := by simp
    refine ⟨some a, cap, (List.range len).map q, by rw [hlen], ⟨some a, cap, by rw [hlen], ?_⟩, ?_⟩
    · intro hpos
      rw [hlen] at hpos
      obtain ⟨⟨_, _, _, _, _, _, hq0⟩, _⟩ := hq 0 hpos
      obtain ⟨_, _, hc0⟩ := World.cells?_some hq0
      have hs0 := World.cell?_spot (hc0 0 (by simp))
      have hspot : a.spot = none := by simpa [Addr.add] using hs0
      obtain ⟨b, off, spot⟩ := a
      simp only at hspot
      subst hspot
      refine ⟨b, off, rfl, fun j hj => ?_⟩
      rw [hlen] at hj
      obtain ⟨⟨_, _, _, _, _, _, hqj⟩, _⟩ := hq j hj
      obtain ⟨_, _, hc⟩ := World.cells?_some hqj
      have g0 := hc 0 (by simp)
      have g1 := hc 1 (by simp)
      have e : ∀ i, (((⟨b, off, none⟩ : Addr).add (j * 8)).add i) = ⟨b, off + j * 8 + i, none⟩ := fun i => by rw [Addr.add_lit, Addr.add_lit]
      rw [e] at g0 g1
      simp only [List.getElem_map, List.getElem_range]
      exact ⟨by simpa using g0, by simpa using g1⟩
    · intro y hy
      obtain ⟨i, hi, rfl⟩ := List.mem_map.1 hy
      exact (hq i (List.mem_range.1 hi)).2
end
end Go.Proofs.YthkfbaoeimjgaaaGreat
namespace Go.Proofs.YthkfbaoeimjgaaaGreat.masterLives
open Go.ChangeShapes Go.WideShapes Go.ChangeAt Go.RowKit
theorem own : ownKnob Tryz.prog.godebug = none := by kernel_rfl
theorem laidOut : laidOutB Tryz.prog = true := by kernel_rfl

set_option maxRecDepth 100000 in
theorem lifted (os : Os) (started : os.Started) (H : Type) (enc : TypeId × Value → H) :
    ReturnsInHanded {} Tryz.checked os 6 .any (Rows.masterLivesSpec.pre6 enc Tryz.prog Tryz.f6 Rows.masterLivesRow.domain false) (Rows.masterLivesSpec.post enc Tryz.prog Tryz.f6 false true false false) := by
  refine returnsInHanded_of_change (C := Tryz.checked) own started (by kernel_rfl) Tryz.func6
    (ChangeSpec.witness6 (enc := enc) (C := Tryz.checked) false ⟨#[], #[.slice none 0 0], []⟩ 8 (by kernel_rfl) (by kernel_rfl) (by kernel_rfl) (by kernel_rfl)) ?_
  intro W base args ds gs before hval0 hW hcnd _
  have hval : ∀ (j : Nat) t v, Tryz.f6.params[j]? = some t → args[j]? = some v → Value.okWide Tryz.prog W .any base t v := hval0
  have hW' := hW
  obtain ⟨p, q, hA0, hV, rfl, hfz, hnd⟩ := hW
  have hA : DataW.TrodAll enc Tryz.prog W 0 (fun _ => true) true Tryz.f6.params.toList args.toList ds p := hA0
  rw [Tryz.params6] at hA hval
  obtain ⟨v0, vs0, d0, ds0, p0, q0, hargs, rfl, rfl, h0, r0⟩ := trodAll_cons hA
  obtain ⟨rfl, rfl, rfl⟩ := trodAll_nil r0
  obtain rfl : args = #[v0] := by cases args; simp_all
  obtain ⟨rfl, rfl⟩ := trodVars_none hV
  obtain ⟨a0, len0, cap0, rfl⟩ := okWide_slice Tryz.underlying89 (hval 0 89 v0 rfl rfl)
  have kk := h0
  have lt0 : ∀ x ∈ p0, x.block < W.heap.size := by obtain ⟨m, hm⟩ := kk; exact DataW.trod_lt m _ _ _ hm
  clear hA0 hval0
  have key : Calls Tryz.prog 6 #[.slice a0 len0 cap0] W fun e w' => e = .returned (.bool true) ∧ Below W.heap.size W w' := by
    obtain ⟨fuel, hf⟩ := h0
    obtain ⟨ao, cap, Y, hcs, hact, hok⟩ := open_actsL hf
    simp [Value.cells] at hcs
    obtain ⟨rfl, rfl, rfl⟩ := hcs
    exact law_mlives W hact hok
  refine key.mono fun e W' ⟨he, bel⟩ => ?_
  subst he
  exact ⟨_, rfl, _, _, _, [], _, [], hW', trodAll_mk1 (shut_bool Tryz.underlying4 _), (trodAll_cons_mk (Below.trod laidOut (by kernel_rfl) (of_decide_eq_true (by kernel_rfl)) kk bel lt0) trodAll_mk0), rfl, bel.frame _, fun h => by cases h⟩
end Go.Proofs.YthkfbaoeimjgaaaGreat.masterLives
end
