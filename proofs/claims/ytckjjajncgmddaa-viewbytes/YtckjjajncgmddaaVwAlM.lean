import Derived.Test.YtckjjajncgmddaaVwPrM
/- A master alone: nobody is told anything; what it is proposed is committed at once. -/
namespace Go.Proofs.Ytckjjajncgmddaa
open Go.RowKit Go.Maps
attribute [local go_sem] Oper.semAt_some
section
variable {w : World} {S : Nat → Prop} {p : Nat} {A : Nd} {lv : Value} {mw mg mu mk : Nat}
set_option maxHeartbeats 800000 in
theorem others_alone (h : NA w S p A lv mw mg mu mk) (h1 : A.all = 1) (h0 : A.me = 0) (f : Value) : Calls Try.prog 58 #[.pointer (some ⟨p, 0, none⟩), f] w fun r w' => r = .returned (.slice none 0 0) ∧ w' = w := by
  obtain ⟨c0, c1, _⟩ := h.cells
  rw [h1] at c1
  rw [h0] at c0
  clear h h1 h0
  go_enter Try.func58, Try.ntmps58
  go_wp2
  refine wp_loop_rounds 2 ?_
  rw [rounds_succ]
  go_wp2
  rw [rounds_succ]
  go_wp2
  go_ret
  exact ⟨rfl, rfl⟩
end
/-- A master alone, in its first view. -/
structure Alone (A : Nd) : Prop where
  ok : A.ok
  all : A.all = 1
  me : A.me = 0
  vw : A.vw = 0
  nm : A.nm = 0
  cm : A.cm = A.last
  up : ∀ x, A.upTo x = none
theorem Alone.role {A : Nd} (h : Alone A) : A.role = 3 := by
  unfold Nd.role
  rw [h.nm, h.vw, h.all, h.me]
  decide
theorem Alone.upOk {A : Nd} (h : Alone A) : A.upOk := fun x v e => by rw [h.up x] at e; cases e
theorem alone_far {A : Nd} (h1 : A.all = 1) (h0 : A.me = 0) : (srt (farL A))[(A.all.toNat - 1) / 2]?.getD 0 = A.last := by
  have : farL A = [A.last] := by
    unfold farL
    rw [h1, h0]
    rfl
  rw [this, h1, show srt [A.last] = [A.last] from by unfold srt; exact List.mergeSort_singleton _]
  rfl
theorem Alone.born {bi bv : Int} {base : ByteArray} {L : List Ent} (h : mayN 0 1 0 0 bi L.length = true) : Alone (Nd.born 0 1 0 0 bi bv base L).counted := by
  have ok := born_ok (bv := bv) (base := base) h
  refine ⟨counted_ok ok (fun x v e => by cases e), rfl, rfl, rfl, rfl, ?_, fun x => rfl⟩
  show max bi _ = (Nd.born 0 1 0 0 bi bv base L).last
  rw [alone_far rfl rfl]
  show max bi (bi + (L.length : Int)) = bi + (L.length : Int)
  omega
theorem Alone.proposed {A : Nd} (h : Alone A) {s : ByteArray} (hl : A.log.length < 1000) : Alone (A.proposed s) := by
  have ok := add_ok (s := s) h.ok hl
  have hu : (A.add s).upOk := fun x v e => by have := h.up x; rw [show (A.add s).upTo x = A.upTo x from rfl, this] at e; cases e
  refine ⟨{ (counted_ok ok hu) with tk0 := Int.le_refl _ }, h.all, h.me, h.vw, h.nm, ?_, h.up⟩
  show max A.cm _ = (A.add s).last
  rw [alone_far (A := A.add s) h.all h.me, add_last, h.cm]
  omega
/-- A master alone in memory, from a block on. -/
def AL (w : World) (B p : Nat) (A : Nd) : Prop := NdAt w (fun k => B ≤ k) p A ∧ Alone A
theorem AL.new {w w' : World} {B p : Nat} {A : Nd} (h : AL w B p A) (hb : Below w.heap.size w w') : AL w' B p A := ⟨h.1.new hb, h.2⟩
section
variable {w : World} {B p : Nat} {A : Nd}
theorem propose_alone (h : AL w B p A) (hB : B ≤ w.heap.size) (hl : A.log.length < 1000) (s : ByteArray) : Calls Try.prog 30 #[.pointer (some ⟨p, 0, none⟩), .string s] w fun r w' => r = .returned (.tuple #[.int .i64 (A.last + 1), .slice none 0 0, .bool true]) ∧ AL w' B p (A.proposed s) ∧ Below B w w' := by
  obtain ⟨⟨lv, mw, mg, mu, mk, hN⟩, hA⟩ := h
  refine (propose_core (R := fun v _ => v = .slice none 0 0) hN hA.ok hA.upOk hA.role hl (fun W lv' hW => ?_)).mono ?_
  · refine (others_alone hW hA.all hA.me _).mono ?_
    rintro r w' ⟨rfl, rfl⟩
    exact ⟨_, rfl, rfl, Below.refl _ _⟩
  · rintro r w' ⟨v, rfl, rfl, hN', hF⟩
    refine ⟨rfl, ⟨hN'.mono (fun k _ h => ?_), hA.proposed hl⟩, hF.below hB (fun k h => ?_)⟩
    · rcases h with h | h
      · exact h
      · exact Nat.le_trans hB h
    · rcases h with rfl | h
      · exact hN.sp
      · exact hN.sl k h
end
theorem no_born : mayN 0 1 0 0 0 ([] : List Ent).length = true := by decide
set_option maxRecDepth 100000 in
set_option maxHeartbeats 1000000 in
theorem awake13 (w : World) : Calls Try.prog 8 #[] w fun r w' => r = .returned (.bool true) ∧ Below w.heap.size w w' := by
  go_enter Try.func8, Try.ntmps8
  obtain ⟨A0, hA0⟩ : ∃ A0, (Nd.born 0 1 0 0 0 0 (str []) []).counted = A0 := ⟨_, rfl⟩
  have hAl : Alone A0 := by rw [← hA0]; exact Alone.born no_born
  have hL0 : A0.log = [] := by rw [← hA0]; rfl
  have hb0 : A0.bi = 0 := by rw [← hA0]; rfl
  have hE : (A0.proposed (str [97])).log = [⟨0, str [97]⟩] := by
    show A0.log ++ [⟨A0.vw, str [97]⟩] = _
    rw [hL0, hAl.vw]
    rfl
  have hla : A0.last = 0 := by unfold Nd.last; rw [hb0, hL0]; rfl
  have hAl2 : Alone (A0.proposed (str [97])) := hAl.proposed (by rw [hL0]; decide)
  have hb2 : (A0.proposed (str [97])).bi = 0 := hb0
  have hc2 : (A0.proposed (str [97])).cm = 1 := by rw [hAl2.cm, show (A0.proposed (str [97])).last = A0.last + 1 from add_last A0 _, hla]; rfl
  have HL0 : Hid (A0.log = []) := hL0
  have HLa : Hid (A0.last = 0) := hla
  have HA0 : Hid ((Nd.born 0 1 0 0 0 0 (str []) []).counted = A0) := hA0
  have HAl : Hid (Alone A0) := hAl
  have HNew : Hid (∀ W, Calls Try.prog 22 #[.int .i64 0, .int .i64 1, .agg #[.int .i64 0, .int .i64 0, .int .i64 0, .int .i64 0, .string (str []), .slice none 0 0]] W fun r w' => ∃ p, r = .returned (.tuple #[.pointer (some ⟨p, 0, none⟩), .int .i64 0]) ∧ AL w' W.heap.size p A0 ∧ Below W.heap.size W w') := fun W => by
    refine (new_ok (L := []) (EnO.nil W 0).toS no_born).mono ?_
    rintro r w' ⟨p, rfl, hN, hb⟩
    rw [hA0] at hN
    exact ⟨p, rfl, ⟨hN, hAl⟩, hb⟩
  obtain ⟨A1, hA1⟩ : ∃ A1, A0.proposed (str [97]) = A1 := ⟨_, rfl⟩
  rw [hA1] at hE hAl2 hb2 hc2
  have HPr : Hid (∀ W B p, AL W B p A0 → B ≤ W.heap.size → Calls Try.prog 30 #[.pointer (some ⟨p, 0, none⟩), .string (str [97])] W fun r w' => r = .returned (.tuple #[.int .i64 1, .slice none 0 0, .bool true]) ∧ AL w' B p A1 ∧ Below B W w') := fun W B p h hB => by
    have := propose_alone h hB (by rw [hL0]; decide) (str [97])
    rw [hla, hA1] at this
    exact this
  have HEn : Hid (∀ W B p, AL W B p A1 → Calls Try.prog 26 #[.pointer (some ⟨p, 0, none⟩), .int .i64 1] W fun r w' => r = .returned (.tuple #[.agg #[.int .i64 0, .string (str [97])], .bool true]) ∧ Below W.heap.size W w') := fun W B p h => by
    obtain ⟨⟨lv, mw, mg, mu, mk, hN⟩, hA⟩ := h
    have hl : A1.log.length = 1 := by rw [hE]; rfl
    have := entry_in hN hA.ok (ix := 1) (j := 0) (by omega) (by rw [hb2]; rfl) (by rw [hc2]; exact Int.le_refl _)
    have e : A1.log[0]'(by omega) = ⟨0, str [97]⟩ := by simp [hE]
    rw [e] at this
    exact this
  have HRo : Hid (∀ W B p, AL W B p A1 → Calls Try.prog 34 #[.pointer (some ⟨p, 0, none⟩)] W fun r w' => r = .returned (.int .i64 3) ∧ ∃ q, w' = W.drewN q) := fun W B p h => by
    obtain ⟨⟨lv, mw, mg, mu, mk, hN⟩, hA⟩ := h
    have := role_any hN hA.ok
    rw [hA.role] at this
    exact this
  clear hA0 hAl hL0 hb0 hE hla hAl2 hb2 hc2 hA1 HL0 HLa HA0 HAl
  go_upto_region 2 with (go_at_call 22; refine Calls.mono (HNew.out _) ?_; rintro r w1 ⟨p, rfl, hA1, hb1⟩; have HA1 : Hid (AL w1 w.heap.size p A0) := hA1; have HB1 : Hid (Below w.heap.size w w1) := hb1; clear hA1 hb1)
  go_upto_region 5 with (go_at_call 30; refine Calls.mono (HPr.out _ _ _ HA1.out HB1.out.size) ?_; rintro r w2 ⟨rfl, hA2, hb2⟩; have HA2 : Hid (AL w2 w.heap.size p A1) := hA2; have HB2 : Hid (Below w.heap.size w w2) := HB1.out.trans hb2; clear hA2 hb2)
  go_upto_region 6 with (go_at_call 26; refine Calls.mono (HEn.out _ _ _ HA2.out) ?_; rintro r w3 ⟨rfl, hb3⟩; have HA3 : Hid (AL w3 w.heap.size p A1) := HA2.out.new hb3; have HB3 : Hid (Below w.heap.size w w3) := HB2.out.trans (hb3.mono HB2.out.size); clear hb3)
  generalize hW4 : World.alloc _ _ = W4
  have b4 : Below w3.heap.size w3 W4 := by rw [← hW4]; exact vone_new _ _
  have x1 : W4.cell? ⟨w3.heap.size, 1, none⟩ = some (.string (str [97])) := by rw [← hW4]; exact vcell_blk (heap_alloc_new _ _)
  have HA4 : Hid (AL W4 w.heap.size p A1) := HA3.out.new b4
  have HB4 : Hid (Below w.heap.size w W4) := HB3.out.trans (b4.mono HB3.out.size)
  have hs97 : (str [97]).toList = [97] := str_toList _
  clear hW4 b4
  go_wp2_with (go_at_call 34; refine Calls.mono (HRo.out _ _ _ HA4.out) ?_; rintro r w5 ⟨rfl, q5, rfl⟩)
  go_ret
  exact ⟨rfl, HB4.out.trans ((below_dn _ _).mono HB4.out.size)⟩
end Go.Proofs.Ytckjjajncgmddaa
