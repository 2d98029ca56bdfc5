/- Move and Remove of a disk; calls on none. -/
import Derived.Test.YtdapapnkmicklaaDkF2
namespace Go.Proofs.Ytdapapnkmicklaa
open Go.RowKit Go.Maps
attribute [local go_sem] Oper.semAt_some
section
variable {w : World} {B p : Nat} {A : Dk} {mn ms : Option Nat} {lv : Value} {nm tt s : Bs}
set_option maxHeartbeats 400000 in
theorem move_dead (P : Value) (hd : ∀ W, Below w.heap.size w W → Calls Try.prog 25 #[P] W fun r w' => r = .returned (.bool true) ∧ w' = W) : Calls Try.prog 35 #[P, .string (str nm), .string (str tt)] w fun r w' => r = .returned (.int .i64 7) ∧ Below w.heap.size w w' := by
  have hH := hd_dead P hd
  have HB : Hid (Below w.heap.size w (w.alloc (.cells #[.string (str nm), .string (str tt)] 9))) := one_newD _ _
  go_enter Try.func35, Try.ntmps35
  go_wp2_with (go_at_call 61; refine (hH _ HB.out _).mono ?_; rintro r w' ⟨rfl, rfl⟩)
  go_ret
  exact ⟨rfl, HB.out⟩
set_option maxHeartbeats 400000 in
theorem move_bad (h : DA w B p A mn ms lv) (hd : A.dead = false) (hm : nm.length ≤ maxLen) (ht : tt.length ≤ maxLen) (hn : (nameB nm && nameB tt) = false) : Calls Try.prog 35 #[.pointer (some ⟨p, 0, none⟩), .string (str nm), .string (str tt)] w fun r w' => r = .returned (.int .i64 110) ∧ Below w.heap.size w w' := by
  have hH := hind2 h hd hm ht (er := 110) (by rw [hn]; rfl)
  have HB : Hid (Below w.heap.size w (w.alloc (.cells #[.string (str nm), .string (str tt)] 9))) := one_newD _ _
  clear h hn hd
  go_enter Try.func35, Try.ntmps35
  go_wp2_with (go_at_call 61; refine hH.mono ?_; rintro r w' ⟨rfl, rfl⟩)
  go_ret
  exact ⟨rfl, HB.out⟩
set_option maxRecDepth 100000 in
set_option maxHeartbeats 400000 in
theorem move_none (h : DA w B p A mn ms lv) (hd : A.dead = false) (hn : nameB nm = true) (ht : nameB tt = true) (hg : (getF nm A.now).isSome = false) : Calls Try.prog 35 #[.pointer (some ⟨p, 0, none⟩), .string (str nm), .string (str tt)] w fun r w' => r = .returned (.int .i64 2) ∧ Below w.heap.size w w' := by
  have h32 : (32 : Nat) ≤ maxLen := by decide
  have hm := Nat.le_trans (name32 hn) h32
  have hH := hind2 h hd hm (Nat.le_trans (name32 ht) h32) (er := 0) (by rw [hn, ht]; rfl)
  have hb0 := one_newD w (.cells #[.string (str nm), .string (str tt)] 9)
  have hD := h.new hb0
  obtain ⟨c0, _, _, _, _, _⟩ := hD.cells
  have hlk := hD.now.look hm
  rw [hg] at hlk
  have HB : Hid (Below w.heap.size w (w.alloc (.cells #[.string (str nm), .string (str tt)] 9))) := hb0
  obtain ⟨W, hW⟩ : ∃ W, w.alloc (.cells #[.string (str nm), .string (str tt)] 9) = W := ⟨_, rfl⟩
  rw [hW] at hH c0 hlk HB
  clear h hn hd hD hb0 ht hg
  have HB9 : Hid (∀ x, Below w.heap.size w (W.alloc x)) := fun x => HB.out.trans ((one_newD _ _).mono HB.out.size)
  go_enter Try.func35, Try.ntmps35
  go_wp2_with (go_at_call 61; refine hH.mono ?_; rintro r w' ⟨rfl, rfl⟩)
  go_ret
  exact ⟨rfl, HB9.out _⟩
theorem str_eqB (a b : Bs) : ((str a).toList == (str b).toList) = decide (a = b) := by rw [str_toList, str_toList, Bool.eq_iff_iff]; simp
set_option maxRecDepth 100000 in
set_option maxHeartbeats 400000 in
theorem move_same (h : DA w B p A mn ms lv) (hd : A.dead = false) (hn : nameB nm = true) (hg : (getF nm A.now).isSome = true) : Calls Try.prog 35 #[.pointer (some ⟨p, 0, none⟩), .string (str nm), .string (str nm)] w fun r w' => r = .returned (.int .i64 1) ∧ Below w.heap.size w w' := by
  have h32 : (32 : Nat) ≤ maxLen := by decide
  have hm := Nat.le_trans (name32 hn) h32
  have hH := hind2 h hd hm hm (er := 0) (by rw [hn]; rfl)
  have hb0 := one_newD w (.cells #[.string (str nm), .string (str nm)] 9)
  have hD := h.new hb0
  obtain ⟨c0, _, _, _, _, _⟩ := hD.cells
  have hlk := hD.now.look hm
  rw [hg] at hlk
  have HB : Hid (Below w.heap.size w (w.alloc (.cells #[.string (str nm), .string (str nm)] 9))) := hb0
  obtain ⟨W, hW⟩ : ∃ W, w.alloc (.cells #[.string (str nm), .string (str nm)] 9) = W := ⟨_, rfl⟩
  rw [hW] at hH c0 hlk HB
  have heq := str_eqB nm nm
  rw [decide_eq_true rfl] at heq
  clear h hn hd hD hb0 hg
  have HB9 : Hid (∀ x, Below w.heap.size w (W.alloc x)) := fun x => HB.out.trans ((one_newD _ _).mono HB.out.size)
  go_enter Try.func35, Try.ntmps35
  go_wp2_with (go_at_call 61; refine hH.mono ?_; rintro r w' ⟨rfl, rfl⟩)
  go_ret
  exact ⟨rfl, HB9.out _⟩
set_option maxRecDepth 100000 in
set_option maxHeartbeats 400000 in
theorem move_ok (h : DA w B p A mn ms lv) (hB : B ≤ w.heap.size) (hqu : Quiet w A) (hd : A.dead = false) (hn : nameB nm = true) (ht : nameB tt = true) (hg : (getF nm A.now).isSome = true) (hne : ¬ nm = tt) (hb : Bd A ⟨2, nm, tt, []⟩) : Calls Try.prog 35 #[.pointer (some ⟨p, 0, none⟩), .string (str nm), .string (str tt)] w fun r w' => r = .returned (.int .i64 0) ∧ DkAt w' B p (A.add ⟨2, nm, tt, []⟩) ∧ FrD B w w' := by
  have h32 : (32 : Nat) ≤ maxLen := by decide
  have hm := Nat.le_trans (name32 hn) h32
  have hH := hind2 h hd hm (Nat.le_trans (name32 ht) h32) (er := 0) (by rw [hn, ht]; rfl)
  have hb0 := one_newD w (.cells #[.string (str nm), .string (str tt)] 9)
  have hD := h.new hb0
  obtain ⟨c0, _, _, _, _, _⟩ := hD.cells
  have hlk := hD.now.look hm
  rw [hg] at hlk
  have HB : Hid (Below w.heap.size w (w.alloc (.cells #[.string (str nm), .string (str tt)] 9))) := hb0
  have HS : Hid (B ≤ w.heap.size) := hB
  have HQu : Hid (Quiet w A) := hqu
  have HK : Hid (Chg.ok ⟨2, nm, tt, []⟩) := ⟨by simp [hne], name32 hn, name32 ht⟩
  have HBd : Hid (Bd A ⟨2, nm, tt, []⟩) := hb
  obtain ⟨W, hW⟩ : ∃ W, w.alloc (.cells #[.string (str nm), .string (str tt)] 9) = W := ⟨_, rfl⟩
  rw [hW] at hH c0 hlk HB hD
  have HD : Hid (DA W B p A mn ms lv) := hD
  have heq := str_eqB nm tt
  rw [decide_eq_false hne] at heq
  clear h hn hd hD hb0 ht hg hne hb hB hqu
  have HB9 : Hid (∀ x, Below w.heap.size w (W.alloc x)) := fun x => HB.out.trans ((one_newD _ _).mono HB.out.size)
  have HA : Hid (∀ x, Calls Try.prog 64 #[.pointer (some ⟨p, 0, none⟩), .agg #[.int .i64 2, .string (str nm), .string (str tt), .string (str [])]] (W.alloc x) fun r w' => r = .returned (.int .i64 0) ∧ DkAt w' B p (A.add ⟨2, nm, tt, []⟩) ∧ FrD B (W.alloc x) w') := fun x => attempt_b (c := ⟨2, nm, tt, []⟩) (HD.out.new (one_newD _ _)) (Nat.le_trans HS.out (HB9.out x).size) (HQu.out.new (HB9.out x)) HK.out HBd.out
  go_enter Try.func35, Try.ntmps35
  go_wp2_with (first
    | (go_at_call 61; refine hH.mono ?_; rintro r w' ⟨rfl, rfl⟩)
    | (go_at_call 64; refine Calls.mono (HA.out _) ?_; rintro r w2 ⟨rfl, hD2, hF2⟩; have HD2 : Hid _ := hD2; have HF2 : Hid _ := hF2; clear hD2 hF2))
  go_ret
  exact ⟨rfl, HD2.out, (FrD.new (HB9.out _)).trans HF2.out⟩
set_option maxHeartbeats 400000 in
theorem remove_err (P : Value) {er : Int} {x : Value} (h0 : ¬ er = 0) (hR : Calls Try.prog 31 #[P, .string (str nm)] w fun r w' => r = .returned (.tuple #[x, .int .i64 er]) ∧ Below w.heap.size w w') : Calls Try.prog 36 #[P, .string (str nm)] w fun r w' => r = .returned (.int .i64 er) ∧ Below w.heap.size w w' := by
  have hzb : (er != 0) = true := by simpa using h0
  clear h0
  go_enter Try.func36, Try.ntmps36
  go_wp2_with (go_at_call 31; refine hR.mono ?_; rintro r w' ⟨rfl, hb⟩; have HB : Hid _ := hb; clear hb)
  go_ret
  exact ⟨rfl, HB.out⟩
set_option maxRecDepth 100000 in
set_option maxHeartbeats 400000 in
theorem remove_ok (h : DA w B p A mn ms lv) (hB : B ≤ w.heap.size) (hqu : Quiet w A) (hd : A.dead = false) (hn : nameB nm = true) (hg : (getF nm A.now).isSome = true) (hb : Bd A ⟨3, nm, [], []⟩) : Calls Try.prog 36 #[.pointer (some ⟨p, 0, none⟩), .string (str nm)] w fun r w' => r = .returned (.int .i64 0) ∧ DkAt w' B p (A.add ⟨3, nm, [], []⟩) ∧ FrD B w w' := by
  have hR := read_ok h hd hn (er := 0) (by rw [hg]; rfl)
  have HD : Hid (DA w B p A mn ms lv) := h
  have HS : Hid (B ≤ w.heap.size) := hB
  have HQu : Hid (Quiet w A) := hqu
  have HK : Hid (Chg.ok ⟨3, nm, [], []⟩) := ⟨by simp, name32 hn, by simp⟩
  have HBd : Hid (Bd A ⟨3, nm, [], []⟩) := hb
  have HA : Hid (∀ W, Below w.heap.size w W → Calls Try.prog 64 #[.pointer (some ⟨p, 0, none⟩), .agg #[.int .i64 3, .string (str nm), .string (str []), .string (str [])]] W fun r w' => r = .returned (.int .i64 0) ∧ DkAt w' B p (A.add ⟨3, nm, [], []⟩) ∧ FrD B W w') := fun W hW => attempt_b (c := ⟨3, nm, [], []⟩) (HD.out.new hW) (Nat.le_trans HS.out hW.size) (HQu.out.new hW) HK.out HBd.out
  clear h hn hd hg hb hB hqu
  go_enter Try.func36, Try.ntmps36
  go_wp2_with (first
    | (go_at_call 31; refine hR.mono ?_; rintro r w1 ⟨rfl, hb⟩; have HB : Hid _ := hb; clear hb)
    | (go_at_call 64; refine Calls.mono (HA.out _ HB.out) ?_; rintro r w2 ⟨rfl, hD2, hF2⟩; have HD2 : Hid _ := hD2; have HF2 : Hid _ := hF2; clear hD2 hF2))
  go_ret
  exact ⟨rfl, HD2.out, (FrD.new HB.out).trans HF2.out⟩
end
theorem new_any (w : World) : Calls Try.prog 8 #[] w fun r w' => r = .returned (.pointer (some ⟨w.heap.size, 0, none⟩)) ∧ DA w' w.heap.size w.heap.size ⟨[], [], 0, false, .slice none 0 0⟩ none none (.slice none 0 0) ∧ Below w.heap.size w w' := by
  have HN : Hid (DA (w.alloc (.cells #[.map none, .map none, .slice none 0 0, .slice none 0 0, .int .i64 0, .bool false] 69)) w.heap.size w.heap.size ⟨[], [], 0, false, .slice none 0 0⟩ none none (.slice none 0 0)) :=
    ⟨heap_alloc_new _ _, rfl, rfl, .inl ⟨rfl, rfl, rfl⟩, ⟨rfl, .inl ⟨rfl, rfl⟩⟩, fun c hc => (by cases hc), Nat.le_refl _, fun k e => (by cases e), fun k e => (by cases e)⟩
  have HB : Hid (Below w.heap.size w (w.alloc (.cells #[.map none, .map none, .slice none 0 0, .slice none 0 0, .int .i64 0, .bool false] 69))) := one_newD _ _
  go_enter Try.func8, Try.ntmps8
  go_wp2
  go_ret
  exact ⟨rfl, HN.out, HB.out⟩
/- A nil disk. -/
theorem sync_dead {w : World} (P : Value) (hd : Calls Try.prog 25 #[P] w fun r w' => r = .returned (.bool true) ∧ w' = w) : Calls Try.prog 28 #[P] w fun r w' => r = .returned (.int .i64 7) ∧ w' = w := by
  go_enter Try.func28, Try.ntmps28
  go_wp2_with (go_at_call 25; refine hd.mono ?_; rintro r w ⟨rfl, rfl⟩)
  go_ret
  exact ⟨rfl, rfl⟩
theorem crash_dead {w : World} (P k t : Value) (hd : Calls Try.prog 25 #[P] w fun r w' => r = .returned (.bool true) ∧ w' = w) : Calls Try.prog 16 #[P, k, t] w fun r w' => r = .returned (.tuple #[]) ∧ w' = w := by
  go_enter Try.func16, Try.ntmps16
  go_wp2_with (go_at_call 25; refine hd.mono ?_; rintro r w ⟨rfl, rfl⟩)
  refine bodyPost_ret (results_none rfl _ _ _) rfl ?_
  exact ⟨rfl, rfl⟩
theorem names_dead {w : World} (P : Value) (hd : Calls Try.prog 25 #[P] w fun r w' => r = .returned (.bool true) ∧ w' = w) : Calls Try.prog 41 #[P] w fun r w' => r = .returned (.slice none 0 0) ∧ w' = w := by
  go_enter Try.func41, Try.ntmps41
  go_wp2_with (go_at_call 25; refine hd.mono ?_; rintro r w ⟨rfl, rfl⟩)
  go_ret
  exact ⟨rfl, rfl⟩
theorem up_nil (w : World) : Calls Try.prog 17 #[.pointer none] w fun r w' => r = .returned (.bool false) ∧ w' = w := by
  go_enter Try.func17, Try.ntmps17
  go_wp2
  go_ret
  exact ⟨rfl, rfl⟩
theorem changes_nil (w : World) : Calls Try.prog 23 #[.pointer none] w fun r w' => r = .returned (.int .i64 0) ∧ w' = w := by
  go_enter Try.func23, Try.ntmps23
  go_wp2
  go_ret
  exact ⟨rfl, rfl⟩
theorem loose_nil (w : World) : Calls Try.prog 40 #[.pointer none] w fun r w' => r = .returned (.int .i64 0) ∧ w' = w := by
  go_enter Try.func40, Try.ntmps40
  go_wp2
  go_ret
  exact ⟨rfl, rfl⟩
theorem clone_nil (w : World) : Calls Try.prog 39 #[.pointer none] w fun r w' => r = .returned (.pointer none) ∧ w' = w := by
  go_enter Try.func39, Try.ntmps39
  go_wp2
  go_ret
  exact ⟨rfl, rfl⟩
theorem plan_nil (w : World) (v : Value) : Calls Try.prog 24 #[.pointer none, v] w fun r w' => r = .returned (.tuple #[]) ∧ Below w.heap.size w w' := by
  have HB : Hid (Below w.heap.size w (w.alloc (.cells #[.pointer none] 23))) := one_newD _ _
  go_enter Try.func24, Try.ntmps24
  go_wp2
  refine bodyPost_ret (results_none rfl _ _ _) rfl ?_
  exact ⟨rfl, HB.out⟩
end Go.Proofs.Ytdapapnkmicklaa
