/- What agg.Take takes. -/
import Derived.Test.YtjbkbhilcmiamaaAgMerge
import Derived.Test.YtjbkbhilcmiamaaGrTake
import Derived.Deep.RegionHeld3
namespace Go.Proofs.Ytjbkbhilcmiamaa
open Go.RowKit
/-- Behind the first so many kinds: what was taken, where the reader stands, its error. -/
def tk (s : ByteArray) (a : Nat) (e : Int) : Nat → (Nat → Option Int) × Nat × Int
  | 0 => (fun _ => none, a, e)
  | k + 1 =>
    if (rdBool s (tk s a e k).2.1 (tk s a e k).2.2).1 = true then
      (upd (tk s a e k).1 k (some (unfoldN (rdNum s (rdBool s (tk s a e k).2.1 (tk s a e k).2.2).2.1 (rdBool s (tk s a e k).2.1 (tk s a e k).2.2).2.2).1)), (rdNum s (rdBool s (tk s a e k).2.1 (tk s a e k).2.2).2.1 (rdBool s (tk s a e k).2.1 (tk s a e k).2.2).2.2).2)
    else ((tk s a e k).1, (rdBool s (tk s a e k).2.1 (tk s a e k).2.2).2)
theorem tk_no {s : ByteArray} {a k a' a1 : Nat} {e e' e1 : Int} {o : Nat → Option Int} (h : tk s a e k = (o, a', e')) (hq : rdBool s a' e' = (false, a1, e1)) : tk s a e (k + 1) = (o, a1, e1) := by
  unfold tk
  rw [h]
  simp only [hq]
  rfl
theorem tk_yes {s : ByteArray} {a k a' a1 a2 t : Nat} {e e' e1 e2 : Int} {o : Nat → Option Int} (h : tk s a e k = (o, a', e')) (hq : rdBool s a' e' = (true, a1, e1)) (hn : rdNum s a1 e1 = (t, a2, e2)) : tk s a e (k + 1) = (upd o k (some (unfoldN t)), a2, e2) := by
  unfold tk
  rw [h]
  simp only [hq, hn]
  rfl
/-- What is taken in all: nothing, where there is an error. -/
def takeO (s : ByteArray) (a : Nat) (e : Int) : Nat → Option Int := if (tk s a e 5).2.2 = 0 then (tk s a e 5).1 else fun _ => none
theorem rdBool_le {s : ByteArray} {a a' : Nat} {b : Bool} {e e' : Int} (ha : a ≤ s.size) (h : rdBool s a e = (b, a', e')) : a' ≤ s.size := by
  by_cases he : e = 0
  · subst he
    rcases three s a ha with ⟨n, k, hp, h1, h2, h3, h4⟩ | ⟨n, k, x, hp, hx⟩
    · rw [show rdBool s a 0 = _ from rd_ok hp] at h
      split at h
      · cases h; exact ha
      · cases h; exact h2
    · rw [show rdBool s a 0 = _ from rd_bad hp hx] at h
      cases h; exact ha
  · rw [show rdBool s a e = _ from rd_err he] at h
    cases h; exact ha
theorem rbo_to {w : World} {p : Nat} {s : ByteArray} {a a' : Nat} {b : Bool} {e e' : Int} (h : Rd w p s a e) (hs : s.size ≤ maxLen) (ha : a ≤ s.size) (hq : rdBool s a e = (b, a', e')) :
    Calls Try.prog 43 #[.pointer (some ⟨p, 0, none⟩)] w fun r w' => r = .returned (.bool b) ∧ Rd w' p s a' e' ∧ Fr w w' (fun k => k = p) := by
  have := rbool_any h hs ha; rw [hq] at this; exact this
theorem Rd.drewd' {w : World} {p : Nat} {s : ByteArray} {a e : Int} (h : Rd w p s a e) : Rd w.drew p s a e := h
/-- Between two kinds: the reader, the two boxes. -/
structure TK (w wr : World) (p : Nat) (s : ByteArray) (o : Nat → Option Int) (a : Nat) (e : Int) : Prop where
  rd : Rd wr p s a e
  fr : Fr w wr (fun k => k = p)
  br : wr.heap[w.heap.size]? = some (.cells zc 26 (0, 0))
  bx : wr.heap[w.heap.size + 1]? = some (.cells (AOc o) 26 (0, 0))
  hp : p < w.heap.size
section
variable {w wr w' : World} {p : Nat} {s : ByteArray} {o : Nat → Option Int} {a a' : Nat} {e e' : Int}
theorem TK.step (h : TK w wr p s o a e) (hr : Rd w' p s a' e') (hf : Fr wr w' (fun k => k = p)) : TK w w' p s o a' e' := by
  have hp := h.hp
  exact ⟨hr, h.fr.trans hf (fun _ _ h => h), (hf.block _ (lt_of_block h.br) (by omega)).trans h.br, (hf.block _ (lt_of_block h.bx) (by omega)).trans h.bx, hp⟩
theorem TK.drew (h : TK w wr p s o a e) : TK w wr.drew p s o a e := ⟨h.rd, ⟨h.fr.os, h.fr.tape, h.fr.output, h.fr.size, h.fr.block⟩, h.br, h.bx, h.hp⟩
theorem TK.put (h : TK w wr p s o a e) (i j : Nat) {u v : Value} {o' : Nat → Option Int} (_ : i ≤ 9) (ho : ((AOc o).setIfInBounds i u).setIfInBounds j v = AOc o') : TK w ((wr.setCell ⟨w.heap.size + 1, i, none⟩ u).setCell ⟨w.heap.size + 1, j, none⟩ v) p s o' a e := by
  have hp := h.hp
  have f : Fr wr ((wr.setCell ⟨w.heap.size + 1, i, none⟩ u).setCell ⟨w.heap.size + 1, j, none⟩ v) (fun k => k = w.heap.size + 1) :=
    (Fr.setCell (S := fun k => k = w.heap.size + 1) wr ⟨w.heap.size + 1, i, none⟩ u rfl).trans (Fr.setCell (S := fun k => k = w.heap.size + 1) _ ⟨w.heap.size + 1, j, none⟩ v rfl) (fun _ _ h => h)
  refine ⟨h.rd.kept f (by omega), h.fr.trans f (fun k hk e => by omega), (f.block _ (lt_of_block h.br) (by omega)).trans h.br, ?_, hp⟩
  rw [← ho]
  exact blk_set0 v (blk_set0 u h.bx)
theorem TK.start (hr : Rd w p s a e) (hp : p < w.heap.size) : TK w ((w.alloc (.cells zc 26)).alloc (.cells zc 26)) p s (fun _ => none) a e :=
  ⟨(hr.kept (Fr.alloc w _ (fun _ => False)) (fun h => h)).kept (Fr.alloc _ _ (fun _ => False)) (fun h => h), (Fr.alloc w _ (fun k => k = p)).trans (Fr.alloc _ _ (fun k => k = p)) (fun _ _ h => h), blk_al2 _ _ _, heap_alloc_new2 _ _ _, hp⟩
end
set_option maxRecDepth 100000 in
set_option maxHeartbeats 4000000 in
theorem atake_any {w : World} {p : Nat} {s : ByteArray} {a : Nat} {e : Int} (h : Rd w p s a e) (hs : s.size ≤ maxLen) (ha : a ≤ s.size) (hp : p < w.heap.size) :
    Calls Try.prog 20 #[.pointer (some ⟨p, 0, none⟩)] w fun r w' => r = .returned (AO (takeO s a e)) ∧ Rd w' p s (tk s a e 5).2.1 (tk s a e 5).2.2 ∧ Fr w w' (fun k => k = p) := by
  have HS : Hid _ := TK.start h hp
  clear h
  go_enter Try.func20, Try.ntmps20
  go_wp2
  go_loopw [6] (fun i wr => ∃ (k : Nat) (o : Nat → Option Int) (a' : Nat) (e' : Int), k ≤ 5 ∧ i = .int .i64 k ∧ Hid (tk s a e k = (o, a', e')) ∧ Hid (a' ≤ s.size) ∧ TK w wr p s o a' e') (fun i _ => 5 - (intOf i).toNat)
  case atStart => exact ⟨0, _, a, e, Nat.zero_le _, rfl, rfl, ha, HS.out⟩
  case round =>
    obtain ⟨k, o, a', e', hk, rfl, HM, HA, hT⟩ := hrel
    clear HS ha
    by_cases hlt : k < 5
    · have hk5 : k = 0 ∨ k = 1 ∨ k = 2 ∨ k = 3 ∨ k = 4 := by omega
      obtain ⟨⟨bo, a1, e1⟩, hq⟩ : ∃ q, rdBool s a' e' = q := ⟨_, rfl⟩
      have HQ : Hid _ := hq
      clear hq
      rcases hk5 with rfl | rfl | rfl | rfl | rfl
      · cases hbo : bo with
        | false =>
          subst hbo
          have HR : Hid (tk s a e (0 + 1) = (o, a1, e1)) := tk_no HM.out HQ.out
          clear HM
          go_wp2_with (go_at_call 43; refine (rbo_to hT.rd hs HA.out HQ.out).mono ?_; rintro r w1 ⟨rfl, hr1, hf1⟩)
          go_roundw
          case rel => exact ⟨0 + 1, o, a1, e1, by omega, by go_num, HR.out, rdBool_le HA.out HQ.out, hT.step hr1 hf1⟩
          case measure => simp [intOf]
        | true =>
          subst hbo
          obtain ⟨⟨t, a2, e2⟩, hn⟩ : ∃ q, rdNum s a1 e1 = q := ⟨_, rfl⟩
          have HN : Hid _ := hn
          have HR : Hid (tk s a e (0 + 1) = (upd o 0 (some (unfoldN t)), a2, e2)) := tk_yes HM.out HQ.out hn
          have HL1 : Hid _ := rdBool_le HA.out HQ.out
          clear HM hn
          go_wp2_with (go_at_call 43; refine (rbo_to hT.rd hs HA.out HQ.out).mono ?_; rintro r w1 ⟨rfl, hr1, hf1⟩; have hT1 := hT.step hr1 hf1; clear hr1 hf1)
          have HT1 : Hid _ := hT1
          clear hT1
          go_region_with (go_at_call 44; refine (rsg_to HT1.out.rd.drewd' hs HL1.out HN.out).mono ?_; rintro r w2 ⟨rfl, hr2, hf2⟩; have hT2 := HT1.out.drew.step hr2 hf2; obtain ⟨c0, c1, c2, c3, c4, c5, c6, c7, c8, c9⟩ := box_ao hT2.bx; have g0 := froz10 hT2.bx 0; have g1 := froz10 hT2.bx 5; have HT2 : Hid _ := hT2; clear hT2)
          all_goals
            clear c0 c1 c2 c3 c4 c5 c6 c7 c8 c9 g0 g1
            go_wp2
            go_roundw
            case rel => exact ⟨0 + 1, _, a2, e2, by omega, by go_num, HR.out, (rdNum_to HL1.out HN.out).1, HT2.out.put 0 5 (by omega) rfl⟩
            case measure => simp [intOf]
      · cases hbo : bo with
        | false =>
          subst hbo
          have HR : Hid (tk s a e (1 + 1) = (o, a1, e1)) := tk_no HM.out HQ.out
          clear HM
          go_wp2_with (go_at_call 43; refine (rbo_to hT.rd hs HA.out HQ.out).mono ?_; rintro r w1 ⟨rfl, hr1, hf1⟩)
          go_roundw
          case rel => exact ⟨1 + 1, o, a1, e1, by omega, by go_num, HR.out, rdBool_le HA.out HQ.out, hT.step hr1 hf1⟩
          case measure => simp [intOf]
        | true =>
          subst hbo
          obtain ⟨⟨t, a2, e2⟩, hn⟩ : ∃ q, rdNum s a1 e1 = q := ⟨_, rfl⟩
          have HN : Hid _ := hn
          have HR : Hid (tk s a e (1 + 1) = (upd o 1 (some (unfoldN t)), a2, e2)) := tk_yes HM.out HQ.out hn
          have HL1 : Hid _ := rdBool_le HA.out HQ.out
          clear HM hn
          go_wp2_with (go_at_call 43; refine (rbo_to hT.rd hs HA.out HQ.out).mono ?_; rintro r w1 ⟨rfl, hr1, hf1⟩; have hT1 := hT.step hr1 hf1; clear hr1 hf1)
          have HT1 : Hid _ := hT1
          clear hT1
          go_region_with (go_at_call 44; refine (rsg_to HT1.out.rd.drewd' hs HL1.out HN.out).mono ?_; rintro r w2 ⟨rfl, hr2, hf2⟩; have hT2 := HT1.out.drew.step hr2 hf2; obtain ⟨c0, c1, c2, c3, c4, c5, c6, c7, c8, c9⟩ := box_ao hT2.bx; have g0 := froz10 hT2.bx 1; have g1 := froz10 hT2.bx 6; have HT2 : Hid _ := hT2; clear hT2)
          all_goals
            clear c0 c1 c2 c3 c4 c5 c6 c7 c8 c9 g0 g1
            go_wp2
            go_roundw
            case rel => exact ⟨1 + 1, _, a2, e2, by omega, by go_num, HR.out, (rdNum_to HL1.out HN.out).1, HT2.out.put 1 6 (by omega) rfl⟩
            case measure => simp [intOf]
      · cases hbo : bo with
        | false =>
          subst hbo
          have HR : Hid (tk s a e (2 + 1) = (o, a1, e1)) := tk_no HM.out HQ.out
          clear HM
          go_wp2_with (go_at_call 43; refine (rbo_to hT.rd hs HA.out HQ.out).mono ?_; rintro r w1 ⟨rfl, hr1, hf1⟩)
          go_roundw
          case rel => exact ⟨2 + 1, o, a1, e1, by omega, by go_num, HR.out, rdBool_le HA.out HQ.out, hT.step hr1 hf1⟩
          case measure => simp [intOf]
        | true =>
          subst hbo
          obtain ⟨⟨t, a2, e2⟩, hn⟩ : ∃ q, rdNum s a1 e1 = q := ⟨_, rfl⟩
          have HN : Hid _ := hn
          have HR : Hid (tk s a e (2 + 1) = (upd o 2 (some (unfoldN t)), a2, e2)) := tk_yes HM.out HQ.out hn
          have HL1 : Hid _ := rdBool_le HA.out HQ.out
          clear HM hn
          go_wp2_with (go_at_call 43; refine (rbo_to hT.rd hs HA.out HQ.out).mono ?_; rintro r w1 ⟨rfl, hr1, hf1⟩; have hT1 := hT.step hr1 hf1; clear hr1 hf1)
          have HT1 : Hid _ := hT1
          clear hT1
          go_region_with (go_at_call 44; refine (rsg_to HT1.out.rd.drewd' hs HL1.out HN.out).mono ?_; rintro r w2 ⟨rfl, hr2, hf2⟩; have hT2 := HT1.out.drew.step hr2 hf2; obtain ⟨c0, c1, c2, c3, c4, c5, c6, c7, c8, c9⟩ := box_ao hT2.bx; have g0 := froz10 hT2.bx 2; have g1 := froz10 hT2.bx 7; have HT2 : Hid _ := hT2; clear hT2)
          all_goals
            clear c0 c1 c2 c3 c4 c5 c6 c7 c8 c9 g0 g1
            go_wp2
            go_roundw
            case rel => exact ⟨2 + 1, _, a2, e2, by omega, by go_num, HR.out, (rdNum_to HL1.out HN.out).1, HT2.out.put 2 7 (by omega) rfl⟩
            case measure => simp [intOf]
      · cases hbo : bo with
        | false =>
          subst hbo
          have HR : Hid (tk s a e (3 + 1) = (o, a1, e1)) := tk_no HM.out HQ.out
          clear HM
          go_wp2_with (go_at_call 43; refine (rbo_to hT.rd hs HA.out HQ.out).mono ?_; rintro r w1 ⟨rfl, hr1, hf1⟩)
          go_roundw
          case rel => exact ⟨3 + 1, o, a1, e1, by omega, by go_num, HR.out, rdBool_le HA.out HQ.out, hT.step hr1 hf1⟩
          case measure => simp [intOf]
        | true =>
          subst hbo
          obtain ⟨⟨t, a2, e2⟩, hn⟩ : ∃ q, rdNum s a1 e1 = q := ⟨_, rfl⟩
          have HN : Hid _ := hn
          have HR : Hid (tk s a e (3 + 1) = (upd o 3 (some (unfoldN t)), a2, e2)) := tk_yes HM.out HQ.out hn
          have HL1 : Hid _ := rdBool_le HA.out HQ.out
          clear HM hn
          go_wp2_with (go_at_call 43; refine (rbo_to hT.rd hs HA.out HQ.out).mono ?_; rintro r w1 ⟨rfl, hr1, hf1⟩; have hT1 := hT.step hr1 hf1; clear hr1 hf1)
          have HT1 : Hid _ := hT1
          clear hT1
          go_region_with (go_at_call 44; refine (rsg_to HT1.out.rd.drewd' hs HL1.out HN.out).mono ?_; rintro r w2 ⟨rfl, hr2, hf2⟩; have hT2 := HT1.out.drew.step hr2 hf2; obtain ⟨c0, c1, c2, c3, c4, c5, c6, c7, c8, c9⟩ := box_ao hT2.bx; have g0 := froz10 hT2.bx 3; have g1 := froz10 hT2.bx 8; have HT2 : Hid _ := hT2; clear hT2)
          all_goals
            clear c0 c1 c2 c3 c4 c5 c6 c7 c8 c9 g0 g1
            go_wp2
            go_roundw
            case rel => exact ⟨3 + 1, _, a2, e2, by omega, by go_num, HR.out, (rdNum_to HL1.out HN.out).1, HT2.out.put 3 8 (by omega) rfl⟩
            case measure => simp [intOf]
      · cases hbo : bo with
        | false =>
          subst hbo
          have HR : Hid (tk s a e (4 + 1) = (o, a1, e1)) := tk_no HM.out HQ.out
          clear HM
          go_wp2_with (go_at_call 43; refine (rbo_to hT.rd hs HA.out HQ.out).mono ?_; rintro r w1 ⟨rfl, hr1, hf1⟩)
          go_roundw
          case rel => exact ⟨4 + 1, o, a1, e1, by omega, by go_num, HR.out, rdBool_le HA.out HQ.out, hT.step hr1 hf1⟩
          case measure => simp [intOf]
        | true =>
          subst hbo
          obtain ⟨⟨t, a2, e2⟩, hn⟩ : ∃ q, rdNum s a1 e1 = q := ⟨_, rfl⟩
          have HN : Hid _ := hn
          have HR : Hid (tk s a e (4 + 1) = (upd o 4 (some (unfoldN t)), a2, e2)) := tk_yes HM.out HQ.out hn
          have HL1 : Hid _ := rdBool_le HA.out HQ.out
          clear HM hn
          go_wp2_with (go_at_call 43; refine (rbo_to hT.rd hs HA.out HQ.out).mono ?_; rintro r w1 ⟨rfl, hr1, hf1⟩; have hT1 := hT.step hr1 hf1; clear hr1 hf1)
          have HT1 : Hid _ := hT1
          clear hT1
          go_region_with (go_at_call 44; refine (rsg_to HT1.out.rd.drewd' hs HL1.out HN.out).mono ?_; rintro r w2 ⟨rfl, hr2, hf2⟩; have hT2 := HT1.out.drew.step hr2 hf2; obtain ⟨c0, c1, c2, c3, c4, c5, c6, c7, c8, c9⟩ := box_ao hT2.bx; have g0 := froz10 hT2.bx 4; have g1 := froz10 hT2.bx 9; have HT2 : Hid _ := hT2; clear hT2)
          all_goals
            clear c0 c1 c2 c3 c4 c5 c6 c7 c8 c9 g0 g1
            go_wp2
            go_roundw
            case rel => exact ⟨4 + 1, _, a2, e2, by omega, by go_num, HR.out, (rdNum_to HL1.out HN.out).1, HT2.out.put 4 9 (by omega) rfl⟩
            case measure => simp [intOf]
    · obtain rfl : k = 5 := by omega
      have hq := hT.br
      unfold zc at hq
      obtain ⟨d0, d1, d2, d3, d4, d5, d6, d7, d8, d9⟩ := mblk10 hq
      obtain ⟨q0, q1, q2, q3, q4, q5, q6, q7, q8, q9⟩ := fro_ao hT.br
      have HT : Hid _ := hT
      have h5 := HM.out
      by_cases he : e' = 0
      · subst he
        have HE : Hid (takeO s a e = o) := by
          show _ = _
          unfold takeO
          rw [h5]
          exact if_pos rfl
        obtain ⟨c0, c1, c2, c3, c4, c5, c6, c7, c8, c9⟩ := box_ao hT.bx
        clear hq h5
        go_wp2_with (go_at_call 24; refine (err_any HT.out.rd).mono ?_; rintro r w1 ⟨rfl, rfl⟩)
        refine bodyPost_ret (v := AO o) (results_cell_row Try.results20 _ _ w.heap.size 26 (AOc o) (0, 0) _ rfl (mset10 _ _ _ _ _ _ _ _ _ _ HT.out.br) Try.underlying26 rfl size_ag) rfl ?_
        have hp := HT.out.hp
        exact ⟨by rw [HE.out], by rw [HM.out]; exact HT.out.rd.kept (fs10 _ _ _ _ _ _ _ _ _ _ _ _) (by omega), HT.out.fr.trans (fs10 _ _ _ _ _ _ _ _ _ _ _ _) (fun k hk e => by omega)⟩
      · have HE : Hid (takeO s a e = fun _ => none) := by
          show _ = _
          unfold takeO
          rw [h5]
          exact if_neg he
        have hne : (e' != 0) = true := by simpa using he
        clear hq h5
        go_wp2_with (go_at_call 24; refine (err_any HT.out.rd).mono ?_; rintro r w1 ⟨rfl, rfl⟩)
        refine bodyPost_ret (v := AO (fun _ => none)) (results_cell_row Try.results20 _ _ w.heap.size 26 zc (0, 0) _ rfl (mset10 _ _ _ _ _ _ _ _ _ _ HT.out.br) Try.underlying26 rfl size_ag) rfl ?_
        have hp := HT.out.hp
        exact ⟨by rw [HE.out], by rw [HM.out]; exact HT.out.rd.kept (fs10 _ _ _ _ _ _ _ _ _ _ _ _) (by omega), HT.out.fr.trans (fs10 _ _ _ _ _ _ _ _ _ _ _ _) (fun k hk e => by omega)⟩
end Go.Proofs.Ytjbkbhilcmiamaa
