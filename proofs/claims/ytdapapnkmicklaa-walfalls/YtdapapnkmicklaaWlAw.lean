/- wal: falls of a disk all of whose changes are sure; nil logs, no disk, a dead one; what awake returns: true. -/
import Derived.Test.YtdapapnkmicklaaWlOpen
namespace Go.Proofs.Ytdapapnkmicklaa
open Go.RowKit Go.Maps
attribute [local go_sem] Oper.semAt_some
section
variable {w : World} {B p : Nat} {A : Dk} {M k : Nat}
theorem cl_crash (h : DkAt w B p A) (hB : B ≤ w.heap.size) (hc : Cl A M k) (hM : M ≤ 2305843009213693952) (hk : k ≤ 90000) (keep tn : Int) : Calls Try.prog 16 #[.pointer (some ⟨p, 0, none⟩), .int .i64 keep, .int .i64 tn] w fun r w' => r = .returned (.tuple #[]) ∧ DkAt w' B p (A.fail keep tn) ∧ FrD B w w' := by
  obtain ⟨mn, ms, lv, h⟩ := h
  exact crash_any h hB (hc.bdA hM (by omega)) hc.dead keep tn
theorem cl_up {keep tn : Int} (h : DkAt w B p (A.fail keep tn)) (hc : Cl A M k) : Calls Try.prog 17 #[.pointer (some ⟨p, 0, none⟩)] w fun r w' => r = .returned (.bool true) ∧ DkAt w' B p A ∧ FrD B w w' := by
  obtain ⟨mn, ms, lv, h⟩ := h
  have := up_dead h rfl
  rw [hc.crash] at this
  exact this
end
theorem tx1 (w : World) (x : Bs) : TxO (w.alloc (.cells #[.string (str x)] 9)) 0 (.slice (some ⟨w.heap.size, 0, none⟩) 1 1) [x] := by
  refine .inr ⟨w.heap.size, 0, 1, rfl, Nat.zero_le _, ⟨_, heap_alloc_new _ _, Nat.le_refl _⟩, Nat.le_refl _, by decide, fun j hj => ?_⟩
  obtain rfl : j = 0 := by simpa using hj
  exact cell_blk (heap_alloc_new _ _)
theorem open_nil (w : World) : Calls Try.prog 12 #[.pointer none] w fun r w' => r = .returned (.tuple #[.pointer none, .int .i64 0, .int .i64 1]) ∧ w' = w := by
  go_enter Try.func12, Try.ntmps12
  go_wp2
  go_ret3
  exact ⟨rfl, rfl⟩
theorem add_nil (w : World) (v : Value) : Calls Try.prog 18 #[.pointer none, v] w fun r w' => r = .returned (.int .i64 1) ∧ w' = w := by
  go_enter Try.func18, Try.ntmps18
  go_wp2
  go_ret
  exact ⟨rfl, rfl⟩
theorem reset_nil (w : World) (s v : Value) : Calls Try.prog 14 #[.pointer none, s, v] w fun r w' => r = .returned (.int .i64 1) ∧ w' = w := by
  go_enter Try.func14, Try.ntmps14
  go_wp2
  go_ret
  exact ⟨rfl, rfl⟩
theorem snap_nil (w : World) : Calls Try.prog 19 #[.pointer none] w fun r w' => r = .returned (.string (str [])) ∧ w' = w := by
  go_enter Try.func19, Try.ntmps19
  go_wp2
  go_ret
  exact ⟨rfl, rfl⟩
theorem len_nil (w : World) : Calls Try.prog 20 #[.pointer none] w fun r w' => r = .returned (.int .i64 0) ∧ w' = w := by
  go_enter Try.func20, Try.ntmps20
  go_wp2
  go_ret
  exact ⟨rfl, rfl⟩
theorem all_nil (w : World) : Calls Try.prog 22 #[.pointer none] w fun r w' => r = .returned (.slice none 0 0) ∧ w' = w := by
  go_enter Try.func22, Try.ntmps22
  go_wp2
  go_ret
  exact ⟨rfl, rfl⟩
theorem open_dead {w : World} {B p : Nat} {A : Dk} (h : DkAt w B p A) (hd : A.dead = true) : Calls Try.prog 12 #[.pointer (some ⟨p, 0, none⟩)] w fun r w' => r = .returned (.tuple #[.pointer none, .int .i64 0, .int .i64 7]) ∧ Below w.heap.size w w' := by
  obtain ⟨mn, ms, lv, h⟩ := h
  have hR := read_dead (nm := log_) (.pointer (some ⟨p, 0, none⟩)) (dead_at h hd)
  clear h hd
  go_enter Try.func12, Try.ntmps12
  go_wp2_with (go_at_call 31; refine hR.mono ?_; rintro r w1 ⟨rfl, hb⟩; have HB1 : Hid _ := hb; clear hb)
  go_ret3
  exact ⟨rfl, HB1.out⟩
/- The disks of awake. -/
def wk1 : Dk := dk0.anew (frs [[]])
def wk2 : Dk := wk1.more (frs [[97]])
theorem cl0 : Cl dk0 1000000 0 := ⟨rfl, rfl, List.Pairwise.nil, fun p hp => (by cases hp), Nat.le_refl _, Nat.le_refl _, rfl⟩
theorem frs0 : (frs [[]]).length ≤ 14 := by rw [frs_one]; exact frameB_le [] (by simp)
theorem frs1 : (frs [[97]]).length ≤ 15 := by rw [frs_one]; exact frameB_le [97] (by simp)
theorem cl1 : Cl wk1 1000000 2 ∧ getF log_ wk1.sure = some (frs [[]]) := cl0.anew (Nat.le_trans frs0 (by decide))
theorem cl2 : Cl wk2 1000000 3 ∧ getF log_ wk2.sure = some (frs [[], [97]]) := by
  have h := cl1.1.more (F := frs [[97]]) cl1.2 (by have h1 := frs0; have h2 := frs1; rw [List.length_append]; omega)
  rw [← frs_append] at h
  exact h
theorem unf_wk2 : unfV (frs [[], [97]]) = ([] :: [[97]], (frs [[], [97]]).length) := unfV_all _ (fun x hx => by simp at hx; rcases hx with rfl | rfl <;> decide)
theorem open_first {w : World} {B p : Nat} (h : DkAt w B p dk0) (hB : B ≤ w.heap.size) : Calls Try.prog 12 #[.pointer (some ⟨p, 0, none⟩)] w fun r w' => ∃ q, r = .returned (.tuple #[.pointer (some ⟨q, 0, none⟩), .int .i64 0, .int .i64 0]) ∧ w.heap.size ≤ q ∧ Lg w' B q p [] (.slice none 0 0) [] ∧ DkAt w' B p wk1 ∧ FrD B w w' := open_none h hB cl0 (by decide) (by decide) (by decide) (l := []) rfl (e := 0) (unfV_none unf1_nil)
set_option maxRecDepth 100000 in
set_option maxHeartbeats 1600000 in
theorem awake12 (w : World) : Calls Try.prog 13 #[] w fun r w' => r = .returned (.bool true) ∧ Below w.heap.size w w' := by
  have hN := new_any w
  obtain ⟨n0, hn0⟩ : ∃ n0, w.heap.size = n0 := ⟨_, rfl⟩
  rw [hn0] at hN ⊢
  have HO1 : Hid (∀ W, DkAt W n0 n0 dk0 → n0 ≤ W.heap.size → Calls Try.prog 12 #[.pointer (some ⟨n0, 0, none⟩)] W fun r w' => ∃ q, r = .returned (.tuple #[.pointer (some ⟨q, 0, none⟩), .int .i64 0, .int .i64 0]) ∧ W.heap.size ≤ q ∧ Lg w' n0 q n0 [] (.slice none 0 0) [] ∧ DkAt w' n0 n0 wk1 ∧ FrD n0 W w') := fun W h hB => open_first h hB
  have HAd : Hid (∀ W q, n0 ≤ W.heap.size → DkAt W n0 n0 wk1 → Lg W n0 q n0 [] (.slice none 0 0) [] → Calls Try.prog 18 #[.pointer (some ⟨q, 0, none⟩), .slice (some ⟨W.heap.size, 0, none⟩) 1 1] (W.alloc (.cells #[.string (str [97])] 9)) fun r w' => r = .returned (.int .i64 0) ∧ DkAt w' n0 n0 wk2 ∧ Below n0 W w') := fun W q hB hD hL => by
    have b1 := one_newD W (.cells #[.string (str [97])] 9)
    refine (add_any (T := [[97]]) (hL.new b1) (hD.new b1) (Nat.le_trans hB b1.size) cl1.1 (by decide) (by decide) (tx1 W [97]) (Nat.le_trans frs1 (by decide)) (by decide) (Nat.le_trans frs1 (by decide))).mono ?_
    rintro r w' ⟨rfl, h1, _, h3⟩
    refine ⟨rfl, h1, (b1.mono hB).trans (h3.below (Nat.le_trans hB b1.size) (fun k hk => ?_))⟩
    rcases hk with hk | hk | hk
    · exact hk.1
    · rw [hk]; exact hL.hq
    · cases hk
  have HC : Hid (∀ W, n0 ≤ W.heap.size → DkAt W n0 n0 wk2 → Calls Try.prog 16 #[.pointer (some ⟨n0, 0, none⟩), .int .i64 0, .int .i64 0] W fun r w' => r = .returned (.tuple #[]) ∧ DkAt w' n0 n0 (wk2.fail 0 0) ∧ FrD n0 W w') := fun W hB hD => cl_crash hD hB cl2.1 (by decide) (by decide) 0 0
  have HU : Hid (∀ W, DkAt W n0 n0 (wk2.fail 0 0) → Calls Try.prog 17 #[.pointer (some ⟨n0, 0, none⟩)] W fun r w' => r = .returned (.bool true) ∧ DkAt w' n0 n0 wk2 ∧ FrD n0 W w') := fun W hD => cl_up hD cl2.1
  have HO2 : Hid (∀ W, n0 ≤ W.heap.size → DkAt W n0 n0 wk2 → Calls Try.prog 12 #[.pointer (some ⟨n0, 0, none⟩)] W fun r w' => ∃ q rv y, r = .returned (.tuple #[.pointer (some ⟨q, 0, none⟩), y, .int .i64 0]) ∧ Lg w' n0 q n0 [] rv [[97]] ∧ FrD n0 W w') := fun W hB hD => by
    refine (open_some (s := []) (R := [[97]]) hD hB cl2.1 (by decide) (by decide) cl2.2 unf_wk2 (by decide) (fun h => absurd rfl h)).mono ?_
    rintro r w' ⟨q, rv, rfl, _, h2, _, _, h3⟩
    exact ⟨q, rv, _, rfl, h2, h3⟩
  have heq : ((str [97]).toList == [97]) = true := by rw [str_toList]; rfl
  go_enter Try.func13, Try.ntmps13
  have t1 : True := trivial
  go_wp2_with (first
    | (go_at_call 8; refine hN.mono ?_; rintro r w1 ⟨rfl, hD, hb1⟩; have HD1 : Hid (DkAt w1 n0 n0 dk0) := ⟨_, _, _, hD⟩; have HB1 : Hid (Below n0 w w1) := hb1; have HS1 : Hid (n0 ≤ w1.heap.size) := (by have := hb1.size; show _ ≤ _; omega); clear hD hb1)
    | (go_at_call 12; have _t := t1; clear t1; refine (HO1.out _ HD1.out HS1.out).mono ?_; rintro r w2 ⟨q, rfl, hq, hL, hD, hF⟩; have HD2 : Hid (DkAt w2 n0 n0 wk1) := hD; have HL2 : Hid (Lg w2 n0 q n0 [] (.slice none 0 0) []) := hL; have HB2 : Hid (Below n0 w w2) := HB1.out.trans (FrD.below hF HS1.out); have HS2 : Hid (n0 ≤ w2.heap.size) := Nat.le_trans HS1.out hF.size; clear hD hL hF hq)
    | (go_at_call 18; refine (HAd.out w2 _ HS2.out HD2.out HL2.out).mono ?_; rintro r w3 ⟨rfl, hD, hb⟩; have HD3 : Hid (DkAt w3 n0 n0 wk2) := hD; have HB3 : Hid (Below n0 w w3) := HB2.out.trans hb; have HS3 : Hid (n0 ≤ w3.heap.size) := Nat.le_trans HS2.out hb.size; clear hD hb)
    | (go_at_call 16; refine (HC.out _ HS3.out HD3.out).mono ?_; rintro r w4 ⟨rfl, hD, hF⟩; have HD4 : Hid (DkAt w4 n0 n0 (wk2.fail 0 0)) := hD; have HB4 : Hid (Below n0 w w4) := HB3.out.trans (FrD.below hF HS3.out); have HS4 : Hid (n0 ≤ w4.heap.size) := Nat.le_trans HS3.out hF.size; clear hD hF)
    | (go_at_call 17; refine (HU.out _ HD4.out).mono ?_; rintro r w5 ⟨rfl, hD, hF⟩; have HD5 : Hid (DkAt w5 n0 n0 wk2) := hD; have HB5 : Hid (Below n0 w w5) := HB4.out.trans (FrD.below hF HS4.out); have HS5 : Hid (n0 ≤ w5.heap.size) := Nat.le_trans HS4.out hF.size; clear hD hF)
    | (go_at_call 12; refine (HO2.out _ HS5.out HD5.out).mono ?_; rintro r w6 ⟨q2, rv, y, rfl, hL, hF⟩; have HL6 : Hid (Lg w6 n0 q2 n0 [] rv [[97]]) := hL; have HB6 : Hid (Below n0 w w6) := HB5.out.trans (FrD.below hF HS5.out); have HS6 : Hid (n0 ≤ w6.heap.size) := Nat.le_trans HS5.out hF.size; clear hL hF)
    | (go_at_call 20; refine (len_any HL6.out).mono ?_; rintro r w7 ⟨rfl, rfl⟩)
    | (go_at_call 22; refine (all_any HL6.out (by decide)).mono ?_; rintro r w8 ⟨v8, rfl, ho, hb⟩; have HB8 : Hid (Below n0 w w8) := HB6.out.trans (hb.mono HS6.out); obtain ⟨ao, cc, rfl, _, hc8⟩ := ho.toS; obtain ⟨b8, o8, rfl, hc9⟩ := hc8 (by decide); have z8 : w8.cell? ⟨b8, o8, none⟩ = some (.string (str [97])) := hc9 0 (by decide); clear ho hb hc8 hc9))
  go_ret
  exact ⟨rfl, HB8.out⟩
end Go.Proofs.Ytdapapnkmicklaa
