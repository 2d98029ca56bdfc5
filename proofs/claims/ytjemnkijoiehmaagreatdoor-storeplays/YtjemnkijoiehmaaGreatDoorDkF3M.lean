import Derived.Test.YtjemnkijoiehmaaGreatDoorDkF2M
/- Move and Remove of a disk; calls on none. -/
namespace Go.Proofs.YtjemnkijoiehmaaGreatDoor
open Go.RowKit Go.Maps
variable {Xm : Nat → Prop}
attribute [local go_sem] Oper.semAt_some
section
variable {w : World} {B p : Nat} {A : Dk} {mn ms : Option Nat} {lv : Value} {nm tt s : Bs}
set_option maxHeartbeats 400000 in
theorem remove_err (P : Value) {er : Int} {x : Value} (h0 : ¬ er = 0) (hR : Calls Tryz.prog 28 #[P, .string (str nm)] w fun r w' => r = .returned (.tuple #[x, .int .i64 er]) ∧ Below w.heap.size w w') : Calls Tryz.prog 21 #[P, .string (str nm)] w fun r w' => r = .returned (.int .i64 er) ∧ Below w.heap.size w w' := by
  have hzb : (er != 0) = true := by simpa using h0
  clear h0
  go_enter Tryz.func21, Tryz.ntmps21
  go_wp2_with (go_at_call 28; refine hR.mono ?_; rintro r w' ⟨rfl, hb⟩; have HB : Hid _ := hb; clear hb)
  go_ret
  exact ⟨rfl, HB.out⟩
set_option maxRecDepth 100000 in
set_option maxHeartbeats 400000 in
theorem remove_ok (h : DA Xm w B p A mn ms lv) (hB : B ≤ w.heap.size) (hqu : Quiet w A) (hd : A.dead = false) (hn : nameB nm = true) (hg : (getF nm A.now).isSome = true) (hb : Bd A ⟨3, nm, [], []⟩) : Calls Tryz.prog 21 #[.pointer (some ⟨p, 0, none⟩), .string (str nm)] w fun r w' => r = .returned (.int .i64 0) ∧ DkAt Xm w' B p (A.add ⟨3, nm, [], []⟩) ∧ FrD Xm B w w' := by
  have hR := read_ok h hd hn (er := 0) (by rw [hg]; rfl)
  have HD : Hid (DA Xm w B p A mn ms lv) := h
  have HS : Hid (B ≤ w.heap.size) := hB
  have HQu : Hid (Quiet w A) := hqu
  have HK : Hid (Chg.ok ⟨3, nm, [], []⟩) := ⟨by simp, name32 hn, by simp⟩
  have HBd : Hid (Bd A ⟨3, nm, [], []⟩) := hb
  have HA : Hid (∀ W, Below w.heap.size w W → Calls Tryz.prog 37 #[.pointer (some ⟨p, 0, none⟩), .agg #[.int .i64 3, .string (str nm), .string (str []), .string (str [])]] W fun r w' => r = .returned (.int .i64 0) ∧ DkAt Xm w' B p (A.add ⟨3, nm, [], []⟩) ∧ FrD Xm B W w') := fun W hW => attempt_b (c := ⟨3, nm, [], []⟩) (HD.out.new hW) (Nat.le_trans HS.out hW.size) (HQu.out.new hW) HK.out HBd.out
  clear h hn hd hg hb hB hqu
  go_enter Tryz.func21, Tryz.ntmps21
  go_wp2_with (first
    | (go_at_call 28; refine hR.mono ?_; rintro r w1 ⟨rfl, hb⟩; have HB : Hid _ := hb; clear hb)
    | (go_at_call 37; refine Calls.mono (HA.out _ HB.out) ?_; rintro r w2 ⟨rfl, hD2, hF2⟩; have HD2 : Hid _ := hD2; have HF2 : Hid _ := hF2; clear hD2 hF2))
  go_ret
  exact ⟨rfl, HD2.out, (FrD.new HB.out).trans HF2.out⟩
end
theorem new_any (w : World) : Calls Tryz.prog 5 #[] w fun r w' => r = .returned (.pointer (some ⟨w.heap.size, 0, none⟩)) ∧ DA (fun _ => False) w' w.heap.size w.heap.size ⟨[], [], 0, false, .slice none 0 0⟩ none none (.slice none 0 0) ∧ Below w.heap.size w w' := by
  have HN : Hid (DA (fun _ => False) (w.alloc (.cells #[.map none, .map none, .slice none 0 0, .slice none 0 0, .int .i64 0, .bool false] 54)) w.heap.size w.heap.size ⟨[], [], 0, false, .slice none 0 0⟩ none none (.slice none 0 0)) :=
    ⟨heap_alloc_new _ _, rfl, rfl, .inl ⟨rfl, rfl, rfl⟩, ⟨rfl, .inl ⟨rfl, rfl⟩⟩, fun c hc => (by cases hc), Nat.le_refl _, fun k e => (by cases e), fun k e => (by cases e), fun _ _ h => h, fun _ h => h.elim⟩
  have HB : Hid (Below w.heap.size w (w.alloc (.cells #[.map none, .map none, .slice none 0 0, .slice none 0 0, .int .i64 0, .bool false] 54))) := one_newD _ _
  go_enter Tryz.func5, Tryz.ntmps5
  go_wp2
  go_ret
  exact ⟨rfl, HN.out, HB.out⟩
/- A nil disk. -/
end Go.Proofs.YtjemnkijoiehmaaGreatDoor
