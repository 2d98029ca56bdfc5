import Derived.Test.YtidghoipmggklaaGreatMaPrM
import Derived.Test.YtidghoipmggklaaGreatGrPutM
import Derived.Deep.RegionHeld3
section
/- What agg.Take takes. -/
namespace Go.Proofs.YtidghoipmggklaaGreat
open Go.RowKit
/-- Behind the first so many kinds: what was taken, where the reader stands, its error. -/
def tk (s : ByteArray) (a : Nat) (e : Int) : Nat → (Nat → Option Int) × Nat × Int
  | 0 => (fun _ => none, a, e)
  | k + 1 =>
    if (rdBool s (tk s a e k).2.1 (tk s a e k).2.2).1 = true then
      (updA (tk s a e k).1 k (some (unfoldN (rdNum s (rdBool s (tk s a e k).2.1 (tk s a e k).2.2).2.1 (rdBool s (tk s a e k).2.1 (tk s a e k).2.2).2.2).1)), (rdNum s (rdBool s (tk s a e k).2.1 (tk s a e k).2.2).2.1 (rdBool s (tk s a e k).2.1 (tk s a e k).2.2).2.2).2)
    else ((tk s a e k).1, (rdBool s (tk s a e k).2.1 (tk s a e k).2.2).2)
theorem tk_no {s : ByteArray} {a k a' a1 : Nat} {e e' e1 : Int} {o : Nat → Option Int} (h : tk s a e k = (o, a', e')) (hq : rdBool s a' e' = (false, a1, e1)) : tk s a e (k + 1) = (o, a1, e1) := by
  unfold tk
  rw [h]
  simp only [hq]
  rfl
theorem tk_yes {s : ByteArray} {a k a' a1 a2 t : Nat} {e e' e1 e2 : Int} {o : Nat → Option Int} (h : tk s a e k = (o, a', e')) (hq : rdBool s a' e' = (true, a1, e1)) (hn : rdNum s a1 e1 = (t, a2, e2)) : tk s a e (k + 1) = (updA o k (some (unfoldN t)), a2, e2) := by
  unfold tk
  rw [h]
  simp only [hq, hn]
  rfl
/-- What is taken in all: nothing, where there is an error. -/
def takeO (s : ByteArray) (a : Nat) (e : Int) : Nat → Option Int := if (tk s a e 5).2.2 = 0 then (tk s a e 5).1 else fun _ => none
theorem rdBool_le {s : ByteArray} {a a' : Nat} {b : Bool} {e e' : Int} (ha : a ≤ s.size) (h : rdBool s a e = (b, a', e')) : a' ≤ s.size := by
  by_cases he : e = 0
  · subst he
    rcases three s a ha with ⟨n, k, hp, h1, h2, h3, h4⟩ | ⟨n, k, x, hp, hx⟩
    · rw [show rdBool s a 0 = _ from rd_ok hp] at h
      split at h
      · cases h; exact ha
      · cases h; exact h2
    · rw [show rdBool s a 0 = _ from rd_bad hp hx] at h
      cases h; exact ha
  · rw [show rdBool s a e = _ from rd_err he] at h
    cases h; exact ha
theorem rbo_to {w : World} {p : Nat} {s : ByteArray} {a a' : Nat} {b : Bool} {e e' : Int} (h : Rd w p s a e) (hs : s.size ≤ maxLen) (ha : a ≤ s.size) (hq : rdBool s a e = (b, a', e')) :
    Calls Tryz.prog 99 #[.pointer (some ⟨p, 0, none⟩)] w fun r w' => r = .returned (.bool b) ∧ Rd w' p s a' e' ∧ Fr w w' (fun k => k = p) := by
  have := rbool_any h hs ha; rw [hq] at this; exact this
theorem Rd.drewd' {w : World} {p : Nat} {s : ByteArray} {a e : Int} (h : Rd w p s a e) : Rd w.drew p s a e := h
/-- Between two kinds: the reader, the two boxes. -/
structure TK (w wr : World) (p : Nat) (s : ByteArray) (o : Nat → Option Int) (a : Nat) (e : Int) : Prop where
  rd : Rd wr p s a e
  fr : Fr w wr (fun k => k = p)
  br : wr.heap[w.heap.size]? = some (.cells zc 54 (0, 0))
  bx : wr.heap[w.heap.size + 1]? = some (.cells (AOc o) 54 (0, 0))
  hp : p < w.heap.size
section
variable {w wr w' : World} {p : Nat} {s : ByteArray} {o : Nat → Option Int} {a a' : Nat} {e e' : Int}
theorem TK.step (h : TK w wr p s o a e) (hr : Rd w' p s a' e') (hf : Fr wr w' (fun k => k = p)) : TK w w' p s o a' e' := by
  have hp := h.hp
  exact ⟨hr, h.fr.trans hf (fun _ _ h => h), (hf.block _ (lt_of_block h.br) (by omega)).trans h.br, (hf.block _ (lt_of_block h.bx) (by omega)).trans h.bx, hp⟩
theorem TK.drew (h : TK w wr p s o a e) : TK w wr.drew p s o a e := ⟨h.rd, ⟨h.fr.os, h.fr.tape, h.fr.output, h.fr.size, h.fr.block⟩, h.br, h.bx, h.hp⟩
theorem TK.put (h : TK w wr p s o a e) (i j : Nat) {u v : Value} {o' : Nat → Option Int} (_ : i ≤ 9) (ho : ((AOc o).setIfInBounds i u).setIfInBounds j v = AOc o') : TK w ((wr.setCell ⟨w.heap.size + 1, i, none⟩ u).setCell ⟨w.heap.size + 1, j, none⟩ v) p s o' a e := by
  have hp := h.hp
  have f : Fr wr ((wr.setCell ⟨w.heap.size + 1, i, none⟩ u).setCell ⟨w.heap.size + 1, j, none⟩ v) (fun k => k = w.heap.size + 1) :=
    (Fr.setCell (S := fun k => k = w.heap.size + 1) wr ⟨w.heap.size + 1, i, none⟩ u rfl).trans (Fr.setCell (S := fun k => k = w.heap.size + 1) _ ⟨w.heap.size + 1, j, none⟩ v rfl) (fun _ _ h => h)
  refine ⟨h.rd.kept f (by omega), h.fr.trans f (fun k hk e => by omega), (f.block _ (lt_of_block h.br) (by omega)).trans h.br, ?_, hp⟩
  rw [← ho]
  exact blk_set0 v (blk_set0 u h.bx)
theorem TK.start (hr : Rd w p s a e) (hp : p < w.heap.size) : TK w ((w.alloc (.cells zc 54)).alloc (.cells zc 54)) p s (fun _ => none) a e :=
  ⟨(hr.kept (Fr.alloc w _ (fun _ => False)) (fun h => h)).kept (Fr.alloc _ _ (fun _ => False)) (fun h => h), (Fr.alloc w _ (fun k => k = p)).trans (Fr.alloc _ _ (fun k => k = p)) (fun _ _ h => h), blk_al2 _ _ _, heap_alloc_new2 _ _ _, hp⟩
end
set_option maxRecDepth 100000 in
set_option maxHeartbeats 4000000 in
theorem atake_any {w : World} {p : Nat} {s : ByteArray} {a : Nat} {e : Int} (h : Rd w p s a e) (hs : s.size ≤ maxLen) (ha : a ≤ s.size) (hp : p < w.heap.size) :
    Calls Tryz.prog 94 #[.pointer (some ⟨p, 0, none⟩)] w fun r w' => r = .returned (AO (takeO s a e)) ∧ Rd w' p s (tk s a e 5).2.1 (tk s a e 5).2.2 ∧ Fr w w' (fun k => k = p) := by
  have HS : Hid _ := TK.start h hp
  clear h
  go_enter Tryz.func94, Tryz.ntmps94
  go_wp2
  go_loopw [6] (fun i wr => ∃ (k : Nat) (o : Nat → Option Int) (a' : Nat) (e' : Int), k ≤ 5 ∧ i = .int .i64 k ∧ Hid (tk s a e k = (o, a', e')) ∧ Hid (a' ≤ s.size) ∧ TK w wr p s o a' e') (fun i _ => 5 - (intOf i).toNat)
  case atStart => exact ⟨0, _, a, e, Nat.zero_le _, rfl, rfl, ha, HS.out⟩
  case round =>
    obtain ⟨k, o, a', e', hk, rfl, HM, HA, hT⟩ := hrel
    clear HS ha
    by_cases hlt : k < 5
    · have hk5 : k = 0 ∨ k = 1 ∨ k = 2 ∨ k = 3 ∨ k = 4 := by omega
      obtain ⟨⟨bo, a1, e1⟩, hq⟩ : ∃ q, rdBool s a' e' = q := ⟨_, rfl⟩
      have HQ : Hid _ := hq
      clear hq
      rcases hk5 with rfl | rfl | rfl | rfl | rfl
      · cases hbo : bo with
        | false =>
          subst hbo
          have HR : Hid (tk s a e (0 + 1) = (o, a1, e1)) := tk_no HM.out HQ.out
          clear HM
          go_wp2_with (go_at_call 99; refine (rbo_to hT.rd hs HA.out HQ.out).mono ?_; rintro r w1 ⟨rfl, hr1, hf1⟩)
          go_roundw
          case rel => exact ⟨0 + 1, o, a1, e1, by omega, by go_num, HR.out, rdBool_le HA.out HQ.out, hT.step hr1 hf1⟩
          case measure => simp [intOf]
        | true =>
          subst hbo
          obtain ⟨⟨t, a2, e2⟩, hn⟩ : ∃ q, rdNum s a1 e1 = q := ⟨_, rfl⟩
          have HN : Hid _ := hn
          have HR : Hid (tk s a e (0 + 1) = (updA o 0 (some (unfoldN t)), a2, e2)) := tk_yes HM.out HQ.out hn
          have HL1 : Hid _ := rdBool_le HA.out HQ.out
          clear HM hn
          go_wp2_with (go_at_call 99; refine (rbo_to hT.rd hs HA.out HQ.out).mono ?_; rintro r w1 ⟨rfl, hr1, hf1⟩; have hT1 := hT.step hr1 hf1; clear hr1 hf1)
          have HT1 : Hid _ := hT1
          clear hT1
          go_region_with (go_at_call 119; refine (rsg_to HT1.out.rd.drewd' hs HL1.out HN.out).mono ?_; rintro r w2 ⟨rfl, hr2, hf2⟩; have hT2 := HT1.out.drew.step hr2 hf2; obtain ⟨c0, c1, c2, c3, c4, c5, c6, c7, c8, c9⟩ := box_ao hT2.bx; have g0 := froz10 hT2.bx 0; have g1 := froz10 hT2.bx 5; have HT2 : Hid _ := hT2; clear hT2)
          all_goals
            clear c0 c1 c2 c3 c4 c5 c6 c7 c8 c9 g0 g1
            go_wp2
            go_roundw
            case rel => exact ⟨0 + 1, _, a2, e2, by omega, by go_num, HR.out, (rdNum_to HL1.out HN.out).1, HT2.out.put 0 5 (by omega) rfl⟩
            case measure => simp [intOf]
      · cases hbo : bo with
        | false =>
          subst hbo
          have HR : Hid (tk s a e (1 + 1) = (o, a1, e1)) := tk_no HM.out HQ.out
          clear HM
          go_wp2_with (go_at_call 99; refine (rbo_to hT.rd hs HA.out HQ.out).mono ?_; rintro r w1 ⟨rfl, hr1, hf1⟩)
          go_roundw
          case rel => exact ⟨1 + 1, o, a1, e1, by omega, by go_num, HR.out, rdBool_le HA.out HQ.out, hT.step hr1 hf1⟩
          case measure => simp [intOf]
        | true =>
          subst hbo
          obtain ⟨⟨t, a2, e2⟩, hn⟩ : ∃ q, rdNum s a1 e1 = q := ⟨_, rfl⟩
          have HN : Hid _ := hn
          have HR : Hid (tk s a e (1 + 1) = (updA o 1 (some (unfoldN t)), a2, e2)) := tk_yes HM.out HQ.out hn
          have HL1 : Hid _ := rdBool_le HA.out HQ.out
          clear HM hn
          go_wp2_with (go_at_call 99; refine (rbo_to hT.rd hs HA.out HQ.out).mono ?_; rintro r w1 ⟨rfl, hr1, hf1⟩; have hT1 := hT.step hr1 hf1; clear hr1 hf1)
          have HT1 : Hid _ := hT1
          clear hT1
          go_region_with (go_at_call 119; refine (rsg_to HT1.out.rd.drewd' hs HL1.out HN.out).mono ?_; rintro r w2 ⟨rfl, hr2, hf2⟩; have hT2 := HT1.out.drew.step hr2 hf2; obtain ⟨c0, c1, c2, c3, c4, c5, c6, c7, c8, c9⟩ := box_ao hT2.bx; have g0 := froz10 hT2.bx 1; have g1 := froz10 hT2.bx 6; have HT2 : Hid _ := hT2; clear hT2)
          all_goals
            clear c0 c1 c2 c3 c4 c5 c6 c7 c8 c9 g0 g1
            go_wp2
            go_roundw
            case rel => exact ⟨1 + 1, _, a2, e2, by omega, by go_num, HR.out, (rdNum_to HL1.out HN.out).1, HT2.out.put 1 6 (by omega) rfl⟩
            case measure => simp [intOf]
      · cases hbo : bo with
        | false =>
          subst hbo
          have HR : Hid (tk s a e (2 + 1) = (o, a1, e1)) := tk_no HM.out HQ.out
          clear HM
          go_wp2_with (go_at_call 99; refine (rbo_to hT.rd hs HA.out HQ.out).mono ?_; rintro r w1 ⟨rfl, hr1, hf1⟩)
          go_roundw
          case rel => exact ⟨2 + 1, o, a1, e1, by omega, by go_num, HR.out, rdBool_le HA.out HQ.out, hT.step hr1 hf1⟩
          case measure => simp [intOf]
        | true =>
          subst hbo
          obtain ⟨⟨t, a2, e2⟩, hn⟩ : ∃ q, rdNum s a1 e1 = q := ⟨_, rfl⟩
          have HN : Hid _ := hn
          have HR : Hid (tk s a e (2 + 1) = (updA o 2 (some (unfoldN t)), a2, e2)) := tk_yes HM.out HQ.out hn
          have HL1 : Hid _ := rdBool_le HA.out HQ.out
          clear HM hn
          go_wp2_with (go_at_call 99; refine (rbo_to hT.rd hs HA.out HQ.out).mono ?_; rintro r w1 ⟨rfl, hr1, hf1⟩; have hT1 := hT.step hr1 hf1; clear hr1 hf1)
          have HT1 : Hid _ := hT1
          clear hT1
          go_region_with (go_at_call 119; refine (rsg_to HT1.out.rd.drewd' hs HL1.out HN.out).mono ?_; rintro r w2 ⟨rfl, hr2, hf2⟩; have hT2 := HT1.out.drew.step hr2 hf2; obtain ⟨c0, c1, c2, c3, c4, c5, c6, c7, c8, c9⟩ := box_ao hT2.bx; have g0 := froz10 hT2.bx 2; have g1 := froz10 hT2.bx 7; have HT2 : Hid _ := hT2; clear hT2)
          all_goals
            clear c0 c1 c2 c3 c4 c5 c6 c7 c8 c9 g0 g1
            go_wp2
            go_roundw
            case rel => exact ⟨2 + 1, _, a2, e2, by omega, by go_num, HR.out, (rdNum_to HL1.out HN.out).1, HT2.out.put 2 7 (by omega) rfl⟩
            case measure => simp [intOf]
      · cases hbo : bo with
        | false =>
          subst hbo
          have HR : Hid (tk s a e (3 + 1) = (o, a1, e1)) := tk_no HM.out HQ.out
          clear HM
          go_wp2_with (go_at_call 99; refine (rbo_to hT.rd hs HA.out HQ.out).mono ?_; rintro r w1 ⟨rfl, hr1, hf1⟩)
          go_roundw
          case rel => exact ⟨3 + 1, o, a1, e1, by omega, by go_num, HR.out, rdBool_le HA.out HQ.out, hT.step hr1 hf1⟩
          case measure => simp [intOf]
        | true =>
          subst hbo
          obtain ⟨⟨t, a2, e2⟩, hn⟩ : ∃ q, rdNum s a1 e1 = q := ⟨_, rfl⟩
          have HN : Hid _ := hn
          have HR : Hid (tk s a e (3 + 1) = (updA o 3 (some (unfoldN t)), a2, e2)) := tk_yes HM.out HQ.out hn
          have HL1 : Hid _ := rdBool_le HA.out HQ.out
          clear HM hn
          go_wp2_with (go_at_call 99; refine (rbo_to hT.rd hs HA.out HQ.out).mono ?_; rintro r w1 ⟨rfl, hr1, hf1⟩; have hT1 := hT.step hr1 hf1; clear hr1 hf1)
          have HT1 : Hid _ := hT1
          clear hT1
          go_region_with (go_at_call 119; refine (rsg_to HT1.out.rd.drewd' hs HL1.out HN.out).mono ?_; rintro r w2 ⟨rfl, hr2, hf2⟩; have hT2 := HT1.out.drew.step hr2 hf2; obtain ⟨c0, c1, c2, c3, c4, c5, c6, c7, c8, c9⟩ := box_ao hT2.bx; have g0 := froz10 hT2.bx 3; have g1 := froz10 hT2.bx 8; have HT2 : Hid _ := hT2; clear hT2)
          all_goals
            clear c0 c1 c2 c3 c4 c5 c6 c7 c8 c9 g0 g1
            go_wp2
            go_roundw
            case rel => exact ⟨3 + 1, _, a2, e2, by omega, by go_num, HR.out, (rdNum_to HL1.out HN.out).1, HT2.out.put 3 8 (by omega) rfl⟩
            case measure => simp [intOf]
      · cases hbo : bo with
        | false =>
          subst hbo
          have HR : Hid (tk s a e (4 + 1) = (o, a1, e1)) := tk_no HM.out HQ.out
          clear HM
          go_wp2_with (go_at_call 99; refine (rbo_to hT.rd hs HA.out HQ.out).mono ?_; rintro r w1 ⟨rfl, hr1, hf1⟩)
          go_roundw
          case rel => exact ⟨4 + 1, o, a1, e1, by omega, by go_num, HR.out, rdBool_le HA.out HQ.out, hT.step hr1 hf1⟩
          case measure => simp [intOf]
        | true =>
          subst hbo
          obtain ⟨⟨t, a2, e2⟩, hn⟩ : ∃ q, rdNum s a1 e1 = q := ⟨_, rfl⟩
          have HN : Hid _ := hn
          have HR : Hid (tk s a e (4 + 1) = (updA o 4 (some (unfoldN t)), a2, e2)) := tk_yes HM.out HQ.out hn
          have HL1 : Hid _ := rdBool_le HA.out HQ.out
          clear HM hn
          go_wp2_with (go_at_call 99; refine (rbo_to hT.rd hs HA.out HQ.out).mono ?_; rintro r w1 ⟨rfl, hr1, hf1⟩; have hT1 := hT.step hr1 hf1; clear hr1 hf1)
          have HT1 : Hid _ := hT1
          clear hT1
          go_region_with (go_at_call 119; refine (rsg_to HT1.out.rd.drewd' hs HL1.out HN.out).mono ?_; rintro r w2 ⟨rfl, hr2, hf2⟩; have hT2 := HT1.out.drew.step hr2 hf2; obtain ⟨c0, c1, c2, c3, c4, c5, c6, c7, c8, c9⟩ := box_ao hT2.bx; have g0 := froz10 hT2.bx 4; have g1 := froz10 hT2.bx 9; have HT2 : Hid _ := hT2; clear hT2)
          all_goals
            clear c0 c1 c2 c3 c4 c5 c6 c7 c8 c9 g0 g1
            go_wp2
            go_roundw
            case rel => exact ⟨4 + 1, _, a2, e2, by omega, by go_num, HR.out, (rdNum_to HL1.out HN.out).1, HT2.out.put 4 9 (by omega) rfl⟩
            case measure => simp [intOf]
    · obtain rfl : k = 5 := by omega
      have hq := hT.br
      unfold zc at hq
      obtain ⟨d0, d1, d2, d3, d4, d5, d6, d7, d8, d9⟩ := mblk10 hq
      obtain ⟨q0, q1, q2, q3, q4, q5, q6, q7, q8, q9⟩ := fro_ao hT.br
      have HT : Hid _ := hT
      have h5 := HM.out
      by_cases he : e' = 0
      · subst he
        have HE : Hid (takeO s a e = o) := by
          show _ = _
          unfold takeO
          rw [h5]
          exact if_pos rfl
        obtain ⟨c0, c1, c2, c3, c4, c5, c6, c7, c8, c9⟩ := box_ao hT.bx
        clear hq h5
        go_wp2_with (go_at_call 58; refine (err_any HT.out.rd).mono ?_; rintro r w1 ⟨rfl, rfl⟩)
        refine bodyPost_ret (v := AO o) (results_cell_row Tryz.results94 _ _ w.heap.size 54 (AOc o) (0, 0) _ rfl (mset10 _ _ _ _ _ _ _ _ _ _ HT.out.br) Tryz.underlying54 rfl size_ag) rfl ?_
        have hp := HT.out.hp
        exact ⟨by rw [HE.out], by rw [HM.out]; exact HT.out.rd.kept (fs10 _ _ _ _ _ _ _ _ _ _ _ _) (by omega), HT.out.fr.trans (fs10 _ _ _ _ _ _ _ _ _ _ _ _) (fun k hk e => by omega)⟩
      · have HE : Hid (takeO s a e = fun _ => none) := by
          show _ = _
          unfold takeO
          rw [h5]
          exact if_neg he
        have hne : (e' != 0) = true := by simpa using he
        clear hq h5
        go_wp2_with (go_at_call 58; refine (err_any HT.out.rd).mono ?_; rintro r w1 ⟨rfl, rfl⟩)
        refine bodyPost_ret (v := AO (fun _ => none)) (results_cell_row Tryz.results94 _ _ w.heap.size 54 zc (0, 0) _ rfl (mset10 _ _ _ _ _ _ _ _ _ _ HT.out.br) Tryz.underlying54 rfl size_ag) rfl ?_
        have hp := HT.out.hp
        exact ⟨by rw [HE.out], by rw [HM.out]; exact HT.out.rd.kept (fs10 _ _ _ _ _ _ _ _ _ _ _ _) (by omega), HT.out.fr.trans (fs10 _ _ _ _ _ _ _ _ _ _ _ _) (fun k hk e => by omega)⟩
end Go.Proofs.YtidghoipmggklaaGreat
end

section
/- A report, off a reader. -/
namespace Go.Proofs.YtidghoipmggklaaGreat
open Go.RowKit
attribute [local go_sem] Oper.semAt_some
theorem there_blkM {w : World} {b o n : Nat} {cs : Array Value} {t : TypeId} (h : w.heap[b]? = some (.cells cs t (0, 0))) (hn : o + n ≤ cs.size) : w.there b o n := fun j hj => by
  refine ⟨?_, by simp [World.frozen?, h]⟩
  simp [World.cell?, h]
  omega
theorem fr_setCellsM (b : Nat) {S : Nat → Prop} (hS : S b) : ∀ (vs : List Value) (o : Nat) (w : World), Fr w (w.setCells b o vs) S
  | [], _, w => Fr.refl w S
  | v :: r, o, w => (Fr.setCell w ⟨b, o, none⟩ v hS).trans (fr_setCellsM b hS r (o + 1) _) (fun _ _ h => h)
def putC (cs : Array Value) : Nat → List Value → Array Value
  | _, [] => cs
  | o, v :: r => putC (cs.setIfInBounds o v) (o + 1) r
theorem blk_setCells {b : Nat} {t : TypeId} : ∀ (vs : List Value) (o : Nat) (w : World) (cs : Array Value), w.heap[b]? = some (.cells cs t (0, 0)) → (w.setCells b o vs).heap[b]? = some (.cells (putC cs o vs) t (0, 0))
  | [], _, _, _, h => h
  | v :: r, o, w, cs, h => blk_setCells r (o + 1) (w.setCell ⟨b, o, none⟩ v) (cs.setIfInBounds o v) (ma_set v h)
theorem mid_putC (x0 x1 x2 x3 x4 x5 x6 x7 x8 x9 x10 x11 x12 x13 x14 x15 x16 x17 x18 x19 y9 y10 y11 y12 y13 y14 y15 y16 y17 y18 : Value) : putC #[x0, x1, x2, x3, x4, x5, x6, x7, x8, x9, x10, x11, x12, x13, x14, x15, x16, x17, x18, x19] 9 [y9, y10, y11, y12, y13, y14, y15, y16, y17, y18] = #[x0, x1, x2, x3, x4, x5, x6, x7, x8, y9, y10, y11, y12, y13, y14, y15, y16, y17, y18, x19] := by
  simp only [putC, List.setIfInBounds_toArray, List.set_cons_succ, List.set_cons_zero]
/-- What is read of a report. -/
structure RpR (s : ByteArray) (a : Nat) (e : Int) (x0 x1 x2 x3 x4 x5 x6 x7 x8 a1 a2 a3 a4 a5 a6 a7 a8 a9 : Nat) (e1 e2 e3 e4 e5 e6 e7 e8 e9 : Int) (o : Nat → Option Int) (aa : Nat) (ea : Int) (n an : Nat) (en : Int) (L : List Ed) (az : Nat) (ez : Int) : Prop where
  h0 : rdCount s a e 2147483647 = (x0, a1, e1)
  h1 : rdCount s a1 e1 2147483647 = (x1, a2, e2)
  h2 : rdCount s a2 e2 2147483647 = (x2, a3, e3)
  h3 : rdCount s a3 e3 2147483647 = (x3, a4, e4)
  h4 : rdCount s a4 e4 2147483647 = (x4, a5, e5)
  h5 : rdCount s a5 e5 2147483647 = (x5, a6, e6)
  h6 : rdCount s a6 e6 2147483647 = (x6, a7, e7)
  h7 : rdCount s a7 e7 2147483647 = (x7, a8, e8)
  h8 : rdCount s a8 e8 2147483647 = (x8, a9, e9)
  ho : takeO s a9 e9 = o
  hk : (tk s a9 e9 5).2 = (aa, ea)
  hn : rdCount s aa ea 256 = (n, an, en)
  hl : rdVl s n an en [] = (L, az, ez)
theorem tk_to {s : ByteArray} {a : Nat} {e : Int} (ha : a ≤ s.size) : ∀ k, (tk s a e k).2.1 ≤ s.size
  | 0 => ha
  | k + 1 => by
    have ih := tk_to (e := e) ha k
    rw [tk]
    split
    · exact (rdNum_to (rdBool_le ih rfl) rfl).1
    · exact rdBool_le ih rfl
/-- A round of reading a report into its box. -/
structure TrI (w W : World) (p : Nat) (s : ByteArray) (a : Nat) (e : Int) (gr gx : Nat) (C : Array Value) : Prop where
  rd : Rd W p s a e
  fr : Fr w W (fun k => k = p)
  bx : W.heap[gx]? = some (.cells C 57 (0, 0))
  br : W.heap[gr]? = some (.cells #[.int .i64 0, .int .i64 0, .int .i64 0, .int .i64 0, .int .i64 0, .int .i64 0, .int .i64 0, .int .i64 0, .int .i64 0, .bool false, .bool false, .bool false, .bool false, .bool false, .int .i64 0, .int .i64 0, .int .i64 0, .int .i64 0, .int .i64 0, .slice none 0 0] 57 (0, 0))
  ap : gx ≠ p ∧ gr ≠ p ∧ gr ≠ gx ∧ w.heap.size ≤ gx
theorem TrI.call {w W W' : World} {p : Nat} {s : ByteArray} {a a' : Nat} {e e' : Int} {gr gx : Nat} {C : Array Value} (h : TrI w W p s a e gr gx C) (hr : Rd W' p s a' e') (f : Fr W W' (fun k => k = p)) : TrI w W' p s a' e' gr gx C :=
  ⟨hr, h.fr.trans f (fun _ _ h => h), (f.block gx (ma_lt h.bx) h.ap.1).trans h.bx, (f.block gr (ma_lt h.br) h.ap.2.1).trans h.br, h.ap⟩
theorem TrI.write {w W W' : World} {p : Nat} {s : ByteArray} {a : Nat} {e : Int} {gr gx : Nat} {C C' : Array Value} (h : TrI w W p s a e gr gx C) (f : Fr W W' (fun k => k = gx)) (hb : W'.heap[gx]? = some (.cells C' 57 (0, 0))) : TrI w W' p s a e gr gx C' :=
  ⟨h.rd.kept f (fun e => h.ap.1 e.symm), h.fr.trans f (fun k hk e => by have := h.ap.2.2.2; omega), hb, (f.block gr (ma_lt h.br) h.ap.2.2.1).trans h.br, h.ap⟩
theorem TrI.fz {w W : World} {p : Nat} {s : ByteArray} {a : Nat} {e : Int} {gr gx : Nat} {C : Array Value} (h : TrI w W p s a e gr gx C) (i : Nat) : W.frozen? ⟨gx, i, none⟩ = false := by simp [World.frozen?, h.bx]
theorem size_repT : (Tryz.prog.info? 57).map (·.size) = some 20 := by kernel_rfl
set_option maxRecDepth 100000 in
set_option maxHeartbeats 4000000 in
theorem takereport_any {w : World} {p : Nat} {s : ByteArray} {a : Nat} {e : Int} {x0 x1 x2 x3 x4 x5 x6 x7 x8 a1 a2 a3 a4 a5 a6 a7 a8 a9 : Nat} {e1 e2 e3 e4 e5 e6 e7 e8 e9 : Int} {o : Nat → Option Int} {aa : Nat} {ea : Int} {n an : Nat} {en : Int} {L : List Ed} {az : Nat} {ez : Int} (h : Rd w p s a e) (hs : s.size ≤ maxLen) (ha : a ≤ s.size) (hR : RpR s a e x0 x1 x2 x3 x4 x5 x6 x7 x8 a1 a2 a3 a4 a5 a6 a7 a8 a9 e1 e2 e3 e4 e5 e6 e7 e8 e9 o aa ea n an en L az ez) :
    Calls Tryz.prog 39 #[.pointer (some ⟨p, 0, none⟩)] w fun r w' => ((ez = 0 ∧ ∃ v, r = .returned (.agg #[.int .i64 (x0 : Nat), .int .i64 (x1 : Nat), .int .i64 (x2 : Nat), .int .i64 (x3 : Nat), .int .i64 (x4 : Nat), .int .i64 (x5 : Nat), .int .i64 (x6 : Nat), .int .i64 (x7 : Nat), .int .i64 (x8 : Nat), .bool (oh o 0), .bool (oh o 1), .bool (oh o 2), .bool (oh o 3), .bool (oh o 4), .int .i64 (ov o 0), .int .i64 (ov o 1), .int .i64 (ov o 2), .int .i64 (ov o 3), .int .i64 (ov o 4), v]) ∧ VO w' w.heap.size v L) ∨ (ez ≠ 0 ∧ r = .returned (.agg #[.int .i64 0, .int .i64 0, .int .i64 0, .int .i64 0, .int .i64 0, .int .i64 0, .int .i64 0, .int .i64 0, .int .i64 0, .bool false, .bool false, .bool false, .bool false, .bool false, .int .i64 0, .int .i64 0, .int .i64 0, .int .i64 0, .int .i64 0, .slice none 0 0]))) ∧ Rd w' p s az ez ∧ Fr w w' (fun k => k = p) := by
  have b1 : a1 ≤ s.size := (rdCount_to (most := 2147483647) ha hR.h0).1
  have b2 : a2 ≤ s.size := (rdCount_to (most := 2147483647) b1 hR.h1).1
  have b3 : a3 ≤ s.size := (rdCount_to (most := 2147483647) b2 hR.h2).1
  have b4 : a4 ≤ s.size := (rdCount_to (most := 2147483647) b3 hR.h3).1
  have b5 : a5 ≤ s.size := (rdCount_to (most := 2147483647) b4 hR.h4).1
  have b6 : a6 ≤ s.size := (rdCount_to (most := 2147483647) b5 hR.h5).1
  have b7 : a7 ≤ s.size := (rdCount_to (most := 2147483647) b6 hR.h6).1
  have b8 : a8 ≤ s.size := (rdCount_to (most := 2147483647) b7 hR.h7).1
  have b9 : a9 ≤ s.size := (rdCount_to (most := 2147483647) b8 hR.h8).1
  have ba : aa ≤ s.size := by have := tk_to (e := e9) b9 5; rw [hR.hk] at this; exact this
  have HBs : Hid (a ≤ s.size ∧ a1 ≤ s.size ∧ a2 ≤ s.size ∧ a3 ≤ s.size ∧ a4 ≤ s.size ∧ a5 ≤ s.size ∧ a6 ≤ s.size ∧ a7 ≤ s.size ∧ a8 ≤ s.size ∧ a9 ≤ s.size ∧ aa ≤ s.size) := ⟨ha, b1, b2, b3, b4, b5, b6, b7, b8, b9, ba⟩
  have HR : Hid (RpR s a e x0 x1 x2 x3 x4 x5 x6 x7 x8 a1 a2 a3 a4 a5 a6 a7 a8 a9 e1 e2 e3 e4 e5 e6 e7 e8 e9 o aa ea n an en L az ez) := hR
  have HSz : Hid (s.size ≤ maxLen) := hs
  obtain ⟨W0, hW0⟩ : ∃ W0, w.alloc (.cells #[.int .i64 0, .int .i64 0, .int .i64 0, .int .i64 0, .int .i64 0, .int .i64 0, .int .i64 0, .int .i64 0, .int .i64 0, .bool false, .bool false, .bool false, .bool false, .bool false, .int .i64 0, .int .i64 0, .int .i64 0, .int .i64 0, .int .i64 0, .slice none 0 0] 57) = W0 := ⟨_, rfl⟩
  have HK0 : Hid (W0.heap[w.heap.size]? = some (.cells #[.int .i64 0, .int .i64 0, .int .i64 0, .int .i64 0, .int .i64 0, .int .i64 0, .int .i64 0, .int .i64 0, .int .i64 0, .bool false, .bool false, .bool false, .bool false, .bool false, .int .i64 0, .int .i64 0, .int .i64 0, .int .i64 0, .int .i64 0, .slice none 0 0] 57 (0, 0))) := by show _ = _; rw [← hW0]; exact heap_alloc_new _ _
  have HB0 : Hid (Below w.heap.size w W0) := by rw [← hW0]; exact ma_new _ _
  have HRd0 : Hid (Rd W0 p s a e) := h.below HB0.out
  have HZ0 : Hid (W0.heap.size = w.heap.size + 1) := by show _ = _; rw [← hW0]; simp
  have HPl : Hid (p < w.heap.size) := h.lt
  have tk1 : Hid True := trivial
  have hC1 := srd_most HRd0.out HSz.out HBs.out.1 HR.out.h0
  clear h hs ha hR b1 b2 b3 b4 b5 b6 b7 b8 b9 ba
  go_enter Tryz.func39, Tryz.ntmps39
  go_upto_region 1 with (fail)
  clear hW0
  obtain ⟨gr, hgr⟩ : ∃ gr, w.heap.size = gr := ⟨_, rfl⟩
  have HGr : Hid (w.heap.size = gr) := hgr
  have HF0 : Hid (Fr w W0 (fun k => k = p)) := Fr.ofBelow HB0.out _
  rw [hgr] at HK0
  try rw [hgr]
  clear hgr
  go_upto_region 2 with (first
    | (go_at_call 56; have _t := tk1; refine hC1.mono ?_; rintro r w1 ⟨rfl, hw, hf⟩; clear tk1 _t; have HRd1 : Hid (Rd w1 p s a1 e1) := hw; have HF1 : Hid (Fr w w1 (fun k => k = p)) := HF0.out.trans hf (fun _ _ h => h); have HKr1 : Hid (w1.heap[gr]? = some (.cells #[.int .i64 0, .int .i64 0, .int .i64 0, .int .i64 0, .int .i64 0, .int .i64 0, .int .i64 0, .int .i64 0, .int .i64 0, .bool false, .bool false, .bool false, .bool false, .bool false, .int .i64 0, .int .i64 0, .int .i64 0, .int .i64 0, .int .i64 0, .slice none 0 0] 57 (0, 0))) := (hf.block gr (ma_lt HK0.out) (by have := HPl.out; have := HGr.out; omega)).trans HK0.out; clear hw hf hC1; have tk2 : Hid True := trivial; have hC2 := srd_most HRd1.out HSz.out HBs.out.2.1 HR.out.h1)
    | (go_at_call 56; have _t := tk2; refine hC2.mono ?_; rintro r w2 ⟨rfl, hw, hf⟩; clear tk2 _t; have HRd2 : Hid (Rd w2 p s a2 e2) := hw; have HF2 : Hid (Fr w w2 (fun k => k = p)) := HF1.out.trans hf (fun _ _ h => h); have HKr2 : Hid (w2.heap[gr]? = some (.cells #[.int .i64 0, .int .i64 0, .int .i64 0, .int .i64 0, .int .i64 0, .int .i64 0, .int .i64 0, .int .i64 0, .int .i64 0, .bool false, .bool false, .bool false, .bool false, .bool false, .int .i64 0, .int .i64 0, .int .i64 0, .int .i64 0, .int .i64 0, .slice none 0 0] 57 (0, 0))) := (hf.block gr (ma_lt HKr1.out) (by have := HPl.out; have := HGr.out; omega)).trans HKr1.out; clear hw hf hC2; have tk3 : Hid True := trivial; have hC3 := srd_most HRd2.out HSz.out HBs.out.2.2.1 HR.out.h2)
    | (go_at_call 56; have _t := tk3; refine hC3.mono ?_; rintro r w3 ⟨rfl, hw, hf⟩; clear tk3 _t; have HRd3 : Hid (Rd w3 p s a3 e3) := hw; have HF3 : Hid (Fr w w3 (fun k => k = p)) := HF2.out.trans hf (fun _ _ h => h); have HKr3 : Hid (w3.heap[gr]? = some (.cells #[.int .i64 0, .int .i64 0, .int .i64 0, .int .i64 0, .int .i64 0, .int .i64 0, .int .i64 0, .int .i64 0, .int .i64 0, .bool false, .bool false, .bool false, .bool false, .bool false, .int .i64 0, .int .i64 0, .int .i64 0, .int .i64 0, .int .i64 0, .slice none 0 0] 57 (0, 0))) := (hf.block gr (ma_lt HKr2.out) (by have := HPl.out; have := HGr.out; omega)).trans HKr2.out; clear hw hf hC3; have tk4 : Hid True := trivial; have hC4 := srd_most HRd3.out HSz.out HBs.out.2.2.2.1 HR.out.h3)
    | (go_at_call 56; have _t := tk4; refine hC4.mono ?_; rintro r w4 ⟨rfl, hw, hf⟩; clear tk4 _t; have HRd4 : Hid (Rd w4 p s a4 e4) := hw; have HF4 : Hid (Fr w w4 (fun k => k = p)) := HF3.out.trans hf (fun _ _ h => h); have HKr4 : Hid (w4.heap[gr]? = some (.cells #[.int .i64 0, .int .i64 0, .int .i64 0, .int .i64 0, .int .i64 0, .int .i64 0, .int .i64 0, .int .i64 0, .int .i64 0, .bool false, .bool false, .bool false, .bool false, .bool false, .int .i64 0, .int .i64 0, .int .i64 0, .int .i64 0, .int .i64 0, .slice none 0 0] 57 (0, 0))) := (hf.block gr (ma_lt HKr3.out) (by have := HPl.out; have := HGr.out; omega)).trans HKr3.out; clear hw hf hC4; have tk5 : Hid True := trivial; have hC5 := srd_most HRd4.out HSz.out HBs.out.2.2.2.2.1 HR.out.h4)
    | (go_at_call 56; have _t := tk5; refine hC5.mono ?_; rintro r w5 ⟨rfl, hw, hf⟩; clear tk5 _t; have HRd5 : Hid (Rd w5 p s a5 e5) := hw; have HF5 : Hid (Fr w w5 (fun k => k = p)) := HF4.out.trans hf (fun _ _ h => h); have HKr5 : Hid (w5.heap[gr]? = some (.cells #[.int .i64 0, .int .i64 0, .int .i64 0, .int .i64 0, .int .i64 0, .int .i64 0, .int .i64 0, .int .i64 0, .int .i64 0, .bool false, .bool false, .bool false, .bool false, .bool false, .int .i64 0, .int .i64 0, .int .i64 0, .int .i64 0, .int .i64 0, .slice none 0 0] 57 (0, 0))) := (hf.block gr (ma_lt HKr4.out) (by have := HPl.out; have := HGr.out; omega)).trans HKr4.out; clear hw hf hC5; skip)
    | (refine wpList_store_row rfl 57 _ _ rfl w5.heap.size #[.int .i64 (x0 : Nat), .int .i64 (x1 : Nat), .int .i64 (x2 : Nat), .int .i64 (x3 : Nat), .int .i64 (x4 : Nat), .int .i64 0, .int .i64 0, .int .i64 0, .int .i64 0, .bool false, .bool false, .bool false, .bool false, .bool false, .int .i64 0, .int .i64 0, .int .i64 0, .int .i64 0, .int .i64 0, .slice none 0 0] rfl rfl 57 #[.int .i64 0, .int .i64 0, .int .i64 0, .int .i64 0, .int .i64 0, .int .i64 0, .int .i64 0, .int .i64 0, .int .i64 0, .bool false, .bool false, .bool false, .bool false, .bool false, .int .i64 0, .int .i64 0, .int .i64 0, .int .i64 0, .int .i64 0, .slice none 0 0] (heap_alloc_new _ _) size_repT rfl (by simp [Value.oneCell']) ?_))
  generalize hW6 : World.setRow _ _ _ = W6
  obtain ⟨gx, hgx⟩ : ∃ gx, w5.heap.size = gx := ⟨_, rfl⟩
  have HI6 : Hid (TrI w W6 p s a5 e5 gr gx #[.int .i64 (x0 : Nat), .int .i64 (x1 : Nat), .int .i64 (x2 : Nat), .int .i64 (x3 : Nat), .int .i64 (x4 : Nat), .int .i64 0, .int .i64 0, .int .i64 0, .int .i64 0, .bool false, .bool false, .bool false, .bool false, .bool false, .int .i64 0, .int .i64 0, .int .i64 0, .int .i64 0, .int .i64 0, .slice none 0 0]) := by
    obtain ⟨V, hV⟩ : ∃ V, w5.alloc (.cells #[.int .i64 0, .int .i64 0, .int .i64 0, .int .i64 0, .int .i64 0, .int .i64 0, .int .i64 0, .int .i64 0, .int .i64 0, .bool false, .bool false, .bool false, .bool false, .bool false, .int .i64 0, .int .i64 0, .int .i64 0, .int .i64 0, .int .i64 0, .slice none 0 0] 57) = V := ⟨_, rfl⟩
    have hbV : Below w5.heap.size w5 V := by rw [← hV]; exact ma_new _ _
    have hkV : V.heap[gx]? = some (.cells #[.int .i64 0, .int .i64 0, .int .i64 0, .int .i64 0, .int .i64 0, .int .i64 0, .int .i64 0, .int .i64 0, .int .i64 0, .bool false, .bool false, .bool false, .bool false, .bool false, .int .i64 0, .int .i64 0, .int .i64 0, .int .i64 0, .int .i64 0, .slice none 0 0] 57 (0, 0)) := by rw [← hV, ← hgx]; exact heap_alloc_new _ _
    rw [hV, hgx] at hW6
    have hf : Fr V W6 (fun k => k = gx) := by rw [← hW6]; exact ap_setRow _ _ _
    have hz := HF5.out.size
    have hpl := HPl.out
    have hgg := HGr.out
    have hrr := ma_lt HKr5.out
    have hI : TrI w V p s a5 e5 gr gx #[.int .i64 0, .int .i64 0, .int .i64 0, .int .i64 0, .int .i64 0, .int .i64 0, .int .i64 0, .int .i64 0, .int .i64 0, .bool false, .bool false, .bool false, .bool false, .bool false, .int .i64 0, .int .i64 0, .int .i64 0, .int .i64 0, .int .i64 0, .slice none 0 0] := ⟨HRd5.out.below hbV, HF5.out.trans (Fr.ofBelow hbV _) (fun _ _ h => h), hkV, (hbV.block gr hrr).trans HKr5.out, by omega, by omega, by omega, by omega⟩
    exact hI.write hf (by rw [← hW6]; exact setRow_heap _ _ _ _ _ _ hkV)
  rw [hgx]
  clear hW6 hgx HRd1 HRd2 HRd3 HRd4 HRd5 HF0 HF1 HF2 HF3 HF4 HF5 HKr1 HKr2 HKr3 HKr4 HKr5 HK0 HB0 HRd0 HZ0
  have hC6 := srd_most HI6.out.rd HSz.out HBs.out.2.2.2.2.2.1 HR.out.h5
  go_upto_region 3 with (go_at_call 56; refine hC6.mono ?_; rintro r w6 ⟨rfl, hw, hf⟩; have HI6b : Hid (TrI w w6 p s a6 e6 gr gx #[.int .i64 (x0 : Nat), .int .i64 (x1 : Nat), .int .i64 (x2 : Nat), .int .i64 (x3 : Nat), .int .i64 (x4 : Nat), .int .i64 0, .int .i64 0, .int .i64 0, .int .i64 0, .bool false, .bool false, .bool false, .bool false, .bool false, .int .i64 0, .int .i64 0, .int .i64 0, .int .i64 0, .int .i64 0, .slice none 0 0]) := HI6.out.call hw hf; have g5 := HI6b.out.fz 5; have c5 : w6.cell? ⟨gx, 5, none⟩ = some (.int .i64 0) := (by simp [World.cell?, HI6b.out.bx]); clear hw hf hC6)
  generalize hW7 : World.setCell _ _ _ = W7
  have HI7 : Hid (TrI w W7 p s a6 e6 gr gx #[.int .i64 (x0 : Nat), .int .i64 (x1 : Nat), .int .i64 (x2 : Nat), .int .i64 (x3 : Nat), .int .i64 (x4 : Nat), .int .i64 (x5 : Nat), .int .i64 0, .int .i64 0, .int .i64 0, .bool false, .bool false, .bool false, .bool false, .bool false, .int .i64 0, .int .i64 0, .int .i64 0, .int .i64 0, .int .i64 0, .slice none 0 0]) := HI6b.out.write (by rw [← hW7]; exact Fr.setCell (S := fun k => k = gx) _ _ _ rfl) (by rw [← hW7]; exact ma_set _ HI6b.out.bx)
  clear hW7 g5 c5
  have hC1 := srd_most HI7.out.rd HSz.out HBs.out.2.2.2.2.2.2.1 HR.out.h6
  have tk1 : Hid True := trivial
  go_upto_region 4 with (first
    | (go_at_call 56; have _t := tk1; refine hC1.mono ?_; rintro r w7 ⟨rfl, hw, hf⟩; clear tk1 _t; have HI7b : Hid (TrI w w7 p s a7 e7 gr gx #[.int .i64 (x0 : Nat), .int .i64 (x1 : Nat), .int .i64 (x2 : Nat), .int .i64 (x3 : Nat), .int .i64 (x4 : Nat), .int .i64 (x5 : Nat), .int .i64 0, .int .i64 0, .int .i64 0, .bool false, .bool false, .bool false, .bool false, .bool false, .int .i64 0, .int .i64 0, .int .i64 0, .int .i64 0, .int .i64 0, .slice none 0 0]) := HI7.out.call hw hf; clear hw hf hC1; have tk2 : Hid True := trivial; have hC2 := srd_most HI7b.out.rd HSz.out HBs.out.2.2.2.2.2.2.2.1 HR.out.h7)
    | (go_at_call 56; have _t := tk2; refine hC2.mono ?_; rintro r w8 ⟨rfl, hw, hf⟩; clear tk2 _t; have HI8b : Hid (TrI w w8 p s a8 e8 gr gx #[.int .i64 (x0 : Nat), .int .i64 (x1 : Nat), .int .i64 (x2 : Nat), .int .i64 (x3 : Nat), .int .i64 (x4 : Nat), .int .i64 (x5 : Nat), .int .i64 0, .int .i64 0, .int .i64 0, .bool false, .bool false, .bool false, .bool false, .bool false, .int .i64 0, .int .i64 0, .int .i64 0, .int .i64 0, .int .i64 0, .slice none 0 0]) := HI7b.out.call hw hf; clear hw hf hC2; have hC3 := srd_most HI8b.out.rd HSz.out HBs.out.2.2.2.2.2.2.2.2.1 HR.out.h8)
    | (go_at_call 56; refine hC3.mono ?_; rintro r w9 ⟨rfl, hw, hf⟩; have HI9b : Hid (TrI w w9 p s a9 e9 gr gx #[.int .i64 (x0 : Nat), .int .i64 (x1 : Nat), .int .i64 (x2 : Nat), .int .i64 (x3 : Nat), .int .i64 (x4 : Nat), .int .i64 (x5 : Nat), .int .i64 0, .int .i64 0, .int .i64 0, .bool false, .bool false, .bool false, .bool false, .bool false, .int .i64 0, .int .i64 0, .int .i64 0, .int .i64 0, .int .i64 0, .slice none 0 0]) := HI8b.out.call hw hf; clear hw hf hC3; have g6 := HI9b.out.fz 6; have g7 := HI9b.out.fz 7; have g8 := HI9b.out.fz 8; have c6 : w9.cell? ⟨gx, 6, none⟩ = some (.int .i64 0) := (by simp [World.cell?, HI9b.out.bx]); have c7 : w9.cell? ⟨gx, 7, none⟩ = some (.int .i64 0) := (by simp [World.cell?, HI9b.out.bx]); have c8 : w9.cell? ⟨gx, 8, none⟩ = some (.int .i64 0) := (by simp [World.cell?, HI9b.out.bx])))
  generalize hW10 : World.setCell _ _ _ = W10
  have HI10 : Hid (TrI w W10 p s a9 e9 gr gx #[.int .i64 (x0 : Nat), .int .i64 (x1 : Nat), .int .i64 (x2 : Nat), .int .i64 (x3 : Nat), .int .i64 (x4 : Nat), .int .i64 (x5 : Nat), .int .i64 (x6 : Nat), .int .i64 (x7 : Nat), .int .i64 (x8 : Nat), .bool false, .bool false, .bool false, .bool false, .bool false, .int .i64 0, .int .i64 0, .int .i64 0, .int .i64 0, .int .i64 0, .slice none 0 0]) := HI9b.out.write (by rw [← hW10]; exact ((Fr.setCell (S := fun k => k = gx) _ _ _ rfl).trans (Fr.setCell (S := fun k => k = gx) _ _ _ rfl) (fun _ _ h => h)).trans (Fr.setCell (S := fun k => k = gx) _ _ _ rfl) (fun _ _ h => h)) (by rw [← hW10]; exact ma_set _ (ma_set _ (ma_set _ HI9b.out.bx)))
  clear hW10 g6 g7 g8 c6 c7 c8
  have hT := atake_any HI10.out.rd HSz.out HBs.out.2.2.2.2.2.2.2.2.2.1 HI10.out.rd.lt
  rw [HR.out.ho, HR.out.hk] at hT
  have hT : Calls Tryz.prog 94 #[.pointer (some ⟨p, 0, none⟩)] W10 fun r w' => r = .returned (.agg #[.bool (oh o 0), .bool (oh o 1), .bool (oh o 2), .bool (oh o 3), .bool (oh o 4), .int .i64 (ov o 0), .int .i64 (ov o 1), .int .i64 (ov o 2), .int .i64 (ov o 3), .int .i64 (ov o 4)]) ∧ Rd w' p s aa ea ∧ Fr W10 w' (fun k => k = p) := hT
  go_upto_region 5 with (first
    | (go_at_call 94; refine hT.mono ?_; rintro r w11 ⟨rfl, hw, hf⟩; have HI11 : Hid (TrI w w11 p s aa ea gr gx #[.int .i64 (x0 : Nat), .int .i64 (x1 : Nat), .int .i64 (x2 : Nat), .int .i64 (x3 : Nat), .int .i64 (x4 : Nat), .int .i64 (x5 : Nat), .int .i64 (x6 : Nat), .int .i64 (x7 : Nat), .int .i64 (x8 : Nat), .bool false, .bool false, .bool false, .bool false, .bool false, .int .i64 0, .int .i64 0, .int .i64 0, .int .i64 0, .int .i64 0, .slice none 0 0]) := HI10.out.call hw hf; clear hw hf hT)
    | (refine wpList_store_mid rfl 54 _ _ rfl gx 9 #[.bool (oh o 0), .bool (oh o 1), .bool (oh o 2), .bool (oh o 3), .bool (oh o 4), .int .i64 (ov o 0), .int .i64 (ov o 1), .int .i64 (ov o 2), .int .i64 (ov o 3), .int .i64 (ov o 4)] rfl rfl (there_blkM HI11.out.bx (by simp)) size_ag (by simp [Value.oneCell']) ?_))
  generalize hW12 : World.setCells _ _ _ _ = W12
  have HI12 : Hid (TrI w W12 p s aa ea gr gx #[.int .i64 (x0 : Nat), .int .i64 (x1 : Nat), .int .i64 (x2 : Nat), .int .i64 (x3 : Nat), .int .i64 (x4 : Nat), .int .i64 (x5 : Nat), .int .i64 (x6 : Nat), .int .i64 (x7 : Nat), .int .i64 (x8 : Nat), .bool (oh o 0), .bool (oh o 1), .bool (oh o 2), .bool (oh o 3), .bool (oh o 4), .int .i64 (ov o 0), .int .i64 (ov o 1), .int .i64 (ov o 2), .int .i64 (ov o 3), .int .i64 (ov o 4), .slice none 0 0]) := HI11.out.write (by rw [← hW12]; exact fr_setCellsM gx (S := fun k => k = gx) rfl _ _ _) (by rw [← hW12]; have := blk_setCells [.bool (oh o 0), .bool (oh o 1), .bool (oh o 2), .bool (oh o 3), .bool (oh o 4), .int .i64 (ov o 0), .int .i64 (ov o 1), .int .i64 (ov o 2), .int .i64 (ov o 3), .int .i64 (ov o 4)] 9 w11 _ HI11.out.bx; rw [mid_putC] at this; exact this)
  clear hW12
  have hV := takevals_any (most := 256) HI12.out.rd HSz.out HBs.out.2.2.2.2.2.2.2.2.2.2 (by decide) HR.out.hn HR.out.hl
  simp only at hV
  go_upto_region 6 with (go_at_call 95; refine hV.mono ?_; rintro r w13 ⟨v, rfl, hv, hw, hf⟩; have HI13 : Hid (TrI w w13 p s az ez gr gx #[.int .i64 (x0 : Nat), .int .i64 (x1 : Nat), .int .i64 (x2 : Nat), .int .i64 (x3 : Nat), .int .i64 (x4 : Nat), .int .i64 (x5 : Nat), .int .i64 (x6 : Nat), .int .i64 (x7 : Nat), .int .i64 (x8 : Nat), .bool (oh o 0), .bool (oh o 1), .bool (oh o 2), .bool (oh o 3), .bool (oh o 4), .int .i64 (ov o 0), .int .i64 (ov o 1), .int .i64 (ov o 2), .int .i64 (ov o 3), .int .i64 (ov o 4), .slice none 0 0]) := HI12.out.call hw hf; have HVo : Hid (VO w13 W12.heap.size v L) := hv; have g19 := HI13.out.fz 19; have c19 : w13.cell? ⟨gx, 19, none⟩ = some (.slice none 0 0) := (by simp [World.cell?, HI13.out.bx]); obtain ⟨vo, vc, rfl, _, _⟩ := GO.shape hv; clear hw hf hV hv)
  generalize hW14 : World.setCell _ _ _ = W14
  have HF14 : Hid (Fr w13 W14 (fun k => k = gx)) := by rw [← hW14]; exact Fr.setCell (S := fun k => k = gx) _ _ _ rfl
  have HI14 : Hid (TrI w W14 p s az ez gr gx #[.int .i64 (x0 : Nat), .int .i64 (x1 : Nat), .int .i64 (x2 : Nat), .int .i64 (x3 : Nat), .int .i64 (x4 : Nat), .int .i64 (x5 : Nat), .int .i64 (x6 : Nat), .int .i64 (x7 : Nat), .int .i64 (x8 : Nat), .bool (oh o 0), .bool (oh o 1), .bool (oh o 2), .bool (oh o 3), .bool (oh o 4), .int .i64 (ov o 0), .int .i64 (ov o 1), .int .i64 (ov o 2), .int .i64 (ov o 3), .int .i64 (ov o 4), .slice vo L.length vc]) := HI13.out.write HF14.out (by rw [← hW14]; exact ma_set _ HI13.out.bx)
  have HV14 : Hid (VO W14 W12.heap.size (.slice vo L.length vc) L) := GO.kept HVo.out HF14.out (fun k hk e => by have := (GO.lt HVo.out k hk).1; have := ma_lt HI12.out.bx; omega)
  have HZ12 : Hid (gr < W12.heap.size ∧ w.heap.size ≤ W12.heap.size) := ⟨ma_lt HI12.out.br, HI12.out.fr.size⟩
  clear hW14 g19 c19
  by_cases hz : ez = 0
  · subst hz
    go_wp2_with (first
      | (go_at_call 58; refine (err_any HI14.out.rd).mono ?_; rintro r w15 ⟨rfl, h15⟩; rw [h15]; clear h15)
      | (refine wpList_load_row rfl 57 _ rfl gx rfl 57 #[.int .i64 (x0 : Nat), .int .i64 (x1 : Nat), .int .i64 (x2 : Nat), .int .i64 (x3 : Nat), .int .i64 (x4 : Nat), .int .i64 (x5 : Nat), .int .i64 (x6 : Nat), .int .i64 (x7 : Nat), .int .i64 (x8 : Nat), .bool (oh o 0), .bool (oh o 1), .bool (oh o 2), .bool (oh o 3), .bool (oh o 4), .int .i64 (ov o 0), .int .i64 (ov o 1), .int .i64 (ov o 2), .int .i64 (ov o 3), .int .i64 (ov o 4), .slice vo L.length vc] (0, 0) _ HI14.out.bx Tryz.underlying57 rfl size_repT ?_)
      | (refine wpList_store_row rfl 57 _ _ rfl gr #[.int .i64 (x0 : Nat), .int .i64 (x1 : Nat), .int .i64 (x2 : Nat), .int .i64 (x3 : Nat), .int .i64 (x4 : Nat), .int .i64 (x5 : Nat), .int .i64 (x6 : Nat), .int .i64 (x7 : Nat), .int .i64 (x8 : Nat), .bool (oh o 0), .bool (oh o 1), .bool (oh o 2), .bool (oh o 3), .bool (oh o 4), .int .i64 (ov o 0), .int .i64 (ov o 1), .int .i64 (ov o 2), .int .i64 (ov o 3), .int .i64 (ov o 4), .slice vo L.length vc] rfl rfl 57 #[.int .i64 0, .int .i64 0, .int .i64 0, .int .i64 0, .int .i64 0, .int .i64 0, .int .i64 0, .int .i64 0, .int .i64 0, .bool false, .bool false, .bool false, .bool false, .bool false, .int .i64 0, .int .i64 0, .int .i64 0, .int .i64 0, .int .i64 0, .slice none 0 0] HI14.out.br size_repT rfl (by simp [Value.oneCell']) ?_))
    refine bodyPost_ret (v := .agg #[.int .i64 (x0 : Nat), .int .i64 (x1 : Nat), .int .i64 (x2 : Nat), .int .i64 (x3 : Nat), .int .i64 (x4 : Nat), .int .i64 (x5 : Nat), .int .i64 (x6 : Nat), .int .i64 (x7 : Nat), .int .i64 (x8 : Nat), .bool (oh o 0), .bool (oh o 1), .bool (oh o 2), .bool (oh o 3), .bool (oh o 4), .int .i64 (ov o 0), .int .i64 (ov o 1), .int .i64 (ov o 2), .int .i64 (ov o 3), .int .i64 (ov o 4), .slice vo L.length vc]) (results_cell_row Tryz.results39 _ _ gr 57 _ (0, 0) _ rfl (setRow_heap _ _ _ _ _ _ HI14.out.br) Tryz.underlying57 rfl size_repT) rfl ?_
    have f15 := ap_setRow W14 gr #[.int .i64 (x0 : Nat), .int .i64 (x1 : Nat), .int .i64 (x2 : Nat), .int .i64 (x3 : Nat), .int .i64 (x4 : Nat), .int .i64 (x5 : Nat), .int .i64 (x6 : Nat), .int .i64 (x7 : Nat), .int .i64 (x8 : Nat), .bool (oh o 0), .bool (oh o 1), .bool (oh o 2), .bool (oh o 3), .bool (oh o 4), .int .i64 (ov o 0), .int .i64 (ov o 1), .int .i64 (ov o 2), .int .i64 (ov o 3), .int .i64 (ov o 4), .slice vo L.length vc]
    have h1 := HZ12.out
    have hgg := HGr.out
    have hap := HI14.out.ap
    refine ⟨⟨_, rfl, (GO.kept HV14.out f15 (fun k hk e => by have := (GO.lt HV14.out k hk).1; omega)).lower (by omega)⟩, HI14.out.rd.kept f15 (fun e => hap.2.1 e.symm), HI14.out.fr.trans f15 (fun k hk e => by omega)⟩
  · go_wp2_with (first
      | (go_at_call 58; refine (err_any HI14.out.rd).mono ?_; rintro r w15 ⟨rfl, h15⟩; rw [h15]; clear h15)
      | (refine wpList_store_row rfl 57 _ _ rfl gr #[.int .i64 0, .int .i64 0, .int .i64 0, .int .i64 0, .int .i64 0, .int .i64 0, .int .i64 0, .int .i64 0, .int .i64 0, .bool false, .bool false, .bool false, .bool false, .bool false, .int .i64 0, .int .i64 0, .int .i64 0, .int .i64 0, .int .i64 0, .slice none 0 0] rfl rfl 57 #[.int .i64 0, .int .i64 0, .int .i64 0, .int .i64 0, .int .i64 0, .int .i64 0, .int .i64 0, .int .i64 0, .int .i64 0, .bool false, .bool false, .bool false, .bool false, .bool false, .int .i64 0, .int .i64 0, .int .i64 0, .int .i64 0, .int .i64 0, .slice none 0 0] HI14.out.br size_repT rfl (by simp [Value.oneCell']) ?_))
    refine bodyPost_ret (v := .agg #[.int .i64 0, .int .i64 0, .int .i64 0, .int .i64 0, .int .i64 0, .int .i64 0, .int .i64 0, .int .i64 0, .int .i64 0, .bool false, .bool false, .bool false, .bool false, .bool false, .int .i64 0, .int .i64 0, .int .i64 0, .int .i64 0, .int .i64 0, .slice none 0 0]) (results_cell_row Tryz.results39 _ _ gr 57 _ (0, 0) _ rfl (setRow_heap _ _ _ _ _ _ HI14.out.br) Tryz.underlying57 rfl size_repT) rfl ?_
    have f15 := ap_setRow W14 gr #[.int .i64 0, .int .i64 0, .int .i64 0, .int .i64 0, .int .i64 0, .int .i64 0, .int .i64 0, .int .i64 0, .int .i64 0, .bool false, .bool false, .bool false, .bool false, .bool false, .int .i64 0, .int .i64 0, .int .i64 0, .int .i64 0, .int .i64 0, .slice none 0 0]
    have hgg := HGr.out
    have hap := HI14.out.ap
    exact ⟨.inr ⟨hz, rfl⟩, HI14.out.rd.kept f15 (fun e => hap.2.1 e.symm), HI14.out.fr.trans f15 (fun k hk e => by omega)⟩
end Go.Proofs.YtidghoipmggklaaGreat
end

section
/- A job put by any writer. -/
namespace Go.Proofs.YtidghoipmggklaaGreat
open Go.RowKit
attribute [local go_sem] Oper.semAt_some
theorem wput_v {w0 w : World} {base p : Nat} {v : Value} {l : List UInt8} {ao : Option Addr} (G : List Vx) (n cap : Nat) (hn : n = G.length) (h : WTo w0 w base p v l) (hG : VxAt w0 (fun k => k ≠ p ∧ v.ownBlock ≠ some k) ao G) (hok : ∀ v ∈ G, v.ok) (hl : G.length ≤ 256) (hroom : l.length + 10 + room G ≤ 140737488355328) :
    Calls Tryz.prog 50 #[.pointer (some ⟨p, 0, none⟩), .agg #[.slice ao n cap]] w fun r w' => r = .returned (.tuple #[]) ∧ WTo w0 w' base p v (l ++ grB G) := by
  obtain ⟨v1, hw, hf, hr⟩ := h
  subst hn
  refine (put_any G cap hw ?_ hok (by omega) hroom).mono fun r w' ⟨h1, h2⟩ => ⟨h1, WTo.then hf hr h2⟩
  refine hG.kept hf (fun k hk hp' => ⟨?_, hp'.1, ?_⟩)
  · rintro (e | e)
    · exact hp'.1 e
    · exact hp'.2 e
  · intro e
    rcases hr with e1 | ⟨g, e1, hg⟩
    · rw [e1] at e; exact hp'.2 e
    · rw [e1] at e; simp at e; omega
set_option maxRecDepth 100000 in
set_option maxHeartbeats 2000000 in
theorem putj_at {w : World} {base p : Nat} {v : Value} {l : List UInt8} {go po : Option Addr} {gn gc pn pc : Nat} {t : ByteArray} {G : List Vx} {ps : List Int} {st se pa : Nat} (hn : gn = G.length) (hp : pn = ps.length) (h : Wr w base p v l) (hG : VxAt w (fun k => k ≠ p ∧ v.ownBlock ≠ some k) go G) (hP : IsP w (fun k => k ≠ p ∧ v.ownBlock ≠ some k) po ps) (hroom : l.length + 61000 ≤ 140737488355328) (ht : t.size ≤ 9) (hok : ∀ v ∈ G, v.ok) (hc : chk G = 0) (hpl : ps.length ≤ 4) (hpk : ∀ x ∈ ps, I64 x) (hst : st ≤ 1000) (hse : se ≤ 65536) (hpa : pa ≤ 16) :
    Calls Tryz.prog 14 #[.pointer (some ⟨p, 0, none⟩), .agg #[.string t, .slice go gn gc, .slice po pn pc, .int .i64 (st : Int), .int .i64 (se : Int), .int .i64 (pa : Int)]] w fun r w' => r = .returned (.tuple #[]) ∧ WTo w w' base p v (l ++ jobB t G ps st se pa) := by
  obtain ⟨r1, r2, r3, r4, r5, r6, r7, r8⟩ := job_rooms ht hok hc hpl hpk hst hse hpa
  have hrm := (room_ok hc hok).1
  have hgl := (chk_ok hc).1
  have hpw := h.lt
  obtain ⟨W0, hW0⟩ : ∃ W0, w.alloc (.cells #[.string t, .slice go gn gc, .slice po pn pc, .int .i64 (st : Int), .int .i64 (se : Int), .int .i64 (pa : Int)] 27) = W0 := ⟨_, rfl⟩
  have hb0 : Below w.heap.size w W0 := by rw [← hW0]; exact one_new _ _
  have hJ0 : JobBoxC W0 w.heap.size #[.string t, .slice go gn gc, .slice po pn pc, .int .i64 (st : Int), .int .i64 (se : Int), .int .i64 (pa : Int)] := by rw [← hW0]; exact heap_alloc_new _ _
  obtain ⟨c0, c1, c2, c3, c4, c5⟩ := job_cells hJ0
  have hT0 : WTo W0 W0 base p v l := by rw [← hW0]; exact WTo.refl (h.al _)
  have HG : Hid (VxAt W0 (fun k => k ≠ p ∧ v.ownBlock ≠ some k) go G) := hG.new hb0
  have HP : Hid (IsP W0 (fun k => k ≠ p ∧ v.ownBlock ≠ some k) po ps) := hP.new hb0
  have HO : Hid (∀ v ∈ G, v.ok) := hok
  have HPK : Hid (∀ x ∈ ps, I64 x) := hpk
  have HN : Hid _ := hn
  have HPn : Hid _ := hp
  have HR4 : Hid _ := r4
  have hbp : w.heap.size ≠ p := by omega
  have hv0 : v.ownBlock ≠ some w.heap.size := fun e => by have := h.olt _ e; omega
  have hpn : pn ≤ 4 := by rw [hp]; exact hpl
  have hp0 : p < W0.heap.size := by have := hb0.size; omega
  have HFin : Hid (∀ w' l', WTo W0 w' base p v l' → WTo w w' base p v l') := fun w' l' h' => by rw [← hW0] at h'; exact h'.fromAlloc
  clear hn hp h hG hP hok hpk hb0 hJ0 hpw r4 hc
  go_enter Tryz.func14, Tryz.ntmps14
  go_upto_region 2 with (go_at_call 49; refine (wtext_o t hT0 (by omega)).mono ?_; rintro r w1 ⟨rfl, hT1⟩)
  have d1 := hT1.cell hbp hv0 c1
  go_upto_region 3 with (go_at_call 50; refine (wput_v G gn gc HN.out hT1 HG.out HO.out hgl (by rw [List.length_append]; omega)).mono ?_; rintro r w2 ⟨rfl, hT2⟩)
  have d2 := hT2.cell hbp hv0 c2
  have hl2 : (l ++ textB t.data.toList ++ grB G).length + 10 ≤ 140737488355328 := by rw [List.length_append, List.length_append]; omega
  go_upto_region 4 with (go_at_call 51; refine (wcount_w pn hT2 (by omega) hl2).mono ?_; rintro r w3 ⟨rfl, hT3⟩)
  have e2 := hT3.cell hbp hv0 c2
  have HT3 : Hid _ := hT3
  have HH : Hid ((l ++ textB t.data.toList ++ grB G ++ numB pn).length ≤ l.length + 50030) := by show _ ≤ _; rw [List.length_append, List.length_append, List.length_append, HPn.out]; omega
  clear hT0 hT1 hT2 hT3 d1 d2 hl2
  go_upto_block 0 with (fail)
  go_wp2
  go_loopw [5, 22] (fun _ i wr => ∃ j : Nat, j ≤ pn ∧ i = .int .i64 j ∧ WTo W0 wr base p v (l ++ textB t.data.toList ++ grB G ++ numB pn ++ (ps.take j).flatMap sgB)) (fun _ i _ => pn - (intOf i).toNat)
  case atStart => exact ⟨0, Nat.zero_le _, rfl, by rw [List.take_zero, List.flatMap_nil, List.append_nil]; exact HT3.out⟩
  case round =>
    obtain ⟨j, hj, rfl, hTj⟩ := hrel
    have hlj : (l ++ textB t.data.toList ++ grB G ++ numB pn ++ (ps.take j).flatMap sgB).length ≤ l.length + 50070 := by
      have := HR4.out j
      have := HH.out
      rw [List.length_append]; omega
    by_cases hlt : j < pn
    · have hjl : j < ps.length := by rw [← HPn.out]; exact hlt
      obtain ⟨b, off, rfl, hB, hcs⟩ := HP.out (by omega)
      have x0 := hTj.cell (b := b) hB.1 hB.2 (hcs j hjl)
      have HZ : Hid (I64 ps[j]) := HPK.out _ (List.getElem_mem hjl)
      have HS : Hid _ := ps_snoc ps j hjl
      generalize ps[j] = z at x0 HZ HS
      clear hcs
      go_wp2_with (go_at_call 52; refine (wsigned_w z hTj HZ.out (by omega)).mono ?_; rintro r w4 ⟨rfl, hT4⟩)
      go_roundw
      case rel => exact ⟨j + 1, by omega, by go_num, by rw [HS.out]; simpa only [List.append_assoc] using hT4⟩
      case measure => simp [intOf]; omega
    · obtain rfl : j = pn := by omega
      have HTj : Hid _ := hTj
      have f3 := hTj.cell hbp hv0 c3
      clear hTj HT3
      go_upto_region 10 with (go_at_call 51; refine (wcount_w st HTj.out (by omega) (by omega)).mono ?_; rintro r w5 ⟨rfl, hT5⟩)
      have f4 := hT5.cell hbp hv0 c4
      go_upto_region 11 with (go_at_call 51; refine (wcount_w se hT5 (by omega) (by rw [List.length_append]; omega)).mono ?_; rintro r w6 ⟨rfl, hT6⟩)
      have f5 := hT6.cell hbp hv0 c5
      go_wp2_with (go_at_call 51; refine (wcount_w pa hT6 (by omega) (by rw [List.length_append, List.length_append]; omega)).mono ?_; rintro r w7 ⟨rfl, hT7⟩)
      go_end0
      refine ⟨rfl, HFin.out _ _ ?_⟩
      have e : l ++ jobB t G ps st se pa = l ++ textB t.data.toList ++ grB G ++ numB j ++ (ps.take j).flatMap sgB ++ numB st ++ numB se ++ numB pa := by
        unfold jobB
        rw [HPn.out, List.take_length]
        simp only [List.append_assoc]
      rw [e]
      exact hT7
end Go.Proofs.YtidghoipmggklaaGreat
end
