/- A master that is none; are numbers such? -/
import Derived.Test.YtiodepmioglfpaaVwAl
namespace Go.Proofs.Ytiodepmioglfpaa
open Go.RowKit Go.Maps
attribute [local go_sem] Oper.semAt_some
section
variable (w : World)
theorem role_nil : Calls Try.prog 34 #[.pointer none] w fun r w' => r = .returned (.int .i64 0) ∧ w' = w := by
  go_enter Try.func34, Try.ntmps34
  go_wp2_with (go_at_call 59; refine (none_nil _).mono ?_; rintro r w1 ⟨rfl, rfl⟩)
  go_ret
  exact ⟨rfl, rfl⟩
theorem role_nilq : Calls Try.prog 34 #[.pointer none] w fun r w' => r = .returned (.int .i64 0) ∧ ∃ q, w' = w.drewN q := (role_nil w).mono (by rintro r w1 ⟨rfl, rfl⟩; exact ⟨rfl, 0, rfl⟩)
theorem none_nilq : Calls Try.prog 59 #[.pointer none] w fun r w' => r = .returned (.bool true) ∧ ∃ q, w' = w.drewN q := (none_nil w).mono (by rintro r w1 ⟨rfl, rfl⟩; exact ⟨rfl, 0, rfl⟩)
theorem leader_nil : Calls Try.prog 36 #[.pointer none] w fun r w' => r = .returned (.int .i64 (-1)) ∧ w' = w := by
  go_enter Try.func36, Try.ntmps36
  go_wp2_with (go_at_call 59; refine (none_nil _).mono ?_; rintro r w1 ⟨rfl, rfl⟩)
  go_ret
  exact ⟨rfl, rfl⟩
theorem commit_nil : Calls Try.prog 26 #[.pointer none] w fun r w' => r = .returned (.int .i64 0) ∧ w' = w := by
  go_enter Try.func26, Try.ntmps26
  go_wp2_with (go_at_call 59; refine (none_nil _).mono ?_; rintro r w1 ⟨rfl, rfl⟩)
  go_ret
  exact ⟨rfl, rfl⟩
theorem view_nil : Calls Try.prog 27 #[.pointer none] w fun r w' => r = .returned (.int .i64 0) ∧ w' = w := by
  go_enter Try.func27, Try.ntmps27
  go_wp2_with (go_at_call 59; refine (none_nil _).mono ?_; rintro r w1 ⟨rfl, rfl⟩)
  go_ret
  exact ⟨rfl, rfl⟩
theorem ready_nil : Calls Try.prog 35 #[.pointer none] w fun r w' => r = .returned (.bool false) ∧ Below w.heap.size w w' := by
  go_enter Try.func35, Try.ntmps35
  go_wp2
  go_quiet ((go_at_call 34; exact Calls.quiet_of (role_nilq _)))
  go_wp2
  go_ret
  exact ⟨rfl, below_dn _ _⟩
theorem tick_nil : Calls Try.prog 31 #[.pointer none] w fun r w' => r = .returned (.slice none 0 0) ∧ w' = w := by
  go_enter Try.func31, Try.ntmps31
  go_wp2_with (go_at_call 59; refine (none_nil _).mono ?_; rintro r w1 ⟨rfl, rfl⟩)
  go_ret
  exact ⟨rfl, rfl⟩
theorem propose_nil (s : ByteArray) : Calls Try.prog 32 #[.pointer none, .string s] w fun r w' => r = .returned (.tuple #[.int .i64 0, .slice none 0 0, .bool false]) ∧ w' = w := by
  have hu : undef = Value.tuple #[] := rfl
  go_enter Try.func32, Try.ntmps32
  go_wp2_with (go_at_call 34; refine (role_nil _).mono ?_; rintro r w1 ⟨rfl, rfl⟩)
  go_ret3
  exact ⟨rfl, rfl⟩
set_option maxRecDepth 100000 in
set_option maxHeartbeats 800000 in
theorem entry_nil (ix : Int) : Calls Try.prog 29 #[.pointer none, .int .i64 ix] w fun r w' => r = .returned (.tuple #[.agg #[.int .i64 0, .string (str [])], .bool false]) ∧ Below w.heap.size w w' := by
  have hu : undef = Value.tuple #[] := rfl
  go_enter Try.func29, Try.ntmps29
  go_upto_region 1 with (fail)
  generalize hW : World.alloc _ _ = W
  have hB : Below w.heap.size w W := by rw [← hW]; exact vone_new w _
  have hZ : W.heap[w.heap.size]? = some (.cells #[.int .i64 0, .string (str [])] 31 (0, 0)) := by rw [← hW]; exact heap_alloc_new w _
  obtain ⟨z0, z1, f0, f1⟩ := vbox2 hZ
  obtain ⟨q, hq⟩ : ∃ q, w.heap.size = q := ⟨_, rfl⟩
  rw [hq] at hB hZ z0 z1 f0 f1 ⊢
  have HZ : Hid _ := hZ
  have HB : Hid (Below q w W) := hB
  have HQ : Hid (w.heap.size = q) := hq
  clear hW hB hZ hq
  go_wp2_with (go_at_call 59; refine (none_nil _).mono ?_; rintro r w1 ⟨rfl, rfl⟩)
  refine bodyPost_ret (v := .tuple #[.agg #[.int .i64 0, .string (str [])], .bool false]) (res_ctV Try.results29 _ _ q 31 _ (0, 0) _ rfl (vset2 _ _ HZ.out) Try.underlying31 rfl size_ent) rfl ?_
  have hQ := HQ.out
  have hB2 := HB.out
  rw [hQ]
  exact ⟨rfl, hB2.trans (Fr.below (vset2_fr _ q _ _) (by have := hB2.size; omega) (fun k e => by omega))⟩
set_option maxHeartbeats 800000 in
theorem compact_nil (ix : Int) (s : ByteArray) : Calls Try.prog 33 #[.pointer none, .int .i64 ix, .string s] w fun r w' => r = .returned (.bool false) ∧ Below w.heap.size w w' := by
  go_enter Try.func33, Try.ntmps33
  go_wp2_with (go_at_call 29; refine (entry_nil _ ix).mono ?_; rintro r w1 ⟨rfl, hb1⟩; have HB1 : Hid (Below w.heap.size w w1) := hb1; clear hb1)
  go_ret
  exact ⟨rfl, HB1.out.trans ((vone_new _ _).mono HB1.out.size)⟩
theorem size_hard : (Try.prog.info? 49).map (·.size) = some 6 := by kernel_rfl
theorem hset6 {W : World} {q : Nat} {t : TypeId} {x0 x1 x2 x3 x4 x5 : Value} (a b c d e f : Value) (h : W.heap[q]? = some (.cells #[x0, x1, x2, x3, x4, x5] t (0, 0))) : ((((((W.setCell ⟨q, 0, none⟩ a).setCell ⟨q, 1, none⟩ b).setCell ⟨q, 2, none⟩ c).setCell ⟨q, 3, none⟩ d).setCell ⟨q, 4, none⟩ e).setCell ⟨q, 5, none⟩ f).heap[q]? = some (.cells #[a, b, c, d, e, f] t (0, 0)) := vblk_set (i := 5) f (vblk_set (i := 4) e (vblk_set (i := 3) d (vblk_set (i := 2) c (vblk_set (i := 1) b (vblk_set (i := 0) a h)))))
theorem hset6_fr (W : World) (q : Nat) (a b c d e f : Value) : Fr W ((((((W.setCell ⟨q, 0, none⟩ a).setCell ⟨q, 1, none⟩ b).setCell ⟨q, 2, none⟩ c).setCell ⟨q, 3, none⟩ d).setCell ⟨q, 4, none⟩ e).setCell ⟨q, 5, none⟩ f) (fun k => k = q) :=
  (Fr.setCell (S := fun k => k = q) _ ⟨q, 0, none⟩ a rfl).trans ((Fr.setCell (S := fun k => k = q) _ ⟨q, 1, none⟩ b rfl).trans ((Fr.setCell (S := fun k => k = q) _ ⟨q, 2, none⟩ c rfl).trans ((Fr.setCell (S := fun k => k = q) _ ⟨q, 3, none⟩ d rfl).trans ((Fr.setCell (S := fun k => k = q) _ ⟨q, 4, none⟩ e rfl).trans (Fr.setCell (S := fun k => k = q) _ ⟨q, 5, none⟩ f rfl) (fun _ _ h => h)) (fun _ _ h => h)) (fun _ _ h => h)) (fun _ _ h => h)) (fun _ _ h => h)
theorem hfree {W : World} {q : Nat} {cs : Array Value} {t : TypeId} (h : W.heap[q]? = some (.cells cs t (0, 0))) (i : Nat) : W.frozen? ⟨q, i, none⟩ = false := by simp [World.frozen?, h]
set_option maxRecDepth 100000 in
set_option maxHeartbeats 1000000 in
theorem hard_nil : Calls Try.prog 28 #[.pointer none] w fun r w' => r = .returned (.agg #[.int .i64 0, .int .i64 0, .int .i64 0, .int .i64 0, .string (str []), .slice none 0 0]) ∧ Below w.heap.size w w' := by
  go_enter Try.func28, Try.ntmps28
  go_upto_region 1 with (fail)
  generalize hW : World.alloc _ _ = W
  have hB : Below w.heap.size w W := by rw [← hW]; exact vone_new w _
  have hZ : W.heap[w.heap.size]? = some (.cells #[.int .i64 0, .int .i64 0, .int .i64 0, .int .i64 0, .string (str []), .slice none 0 0] 49 (0, 0)) := by rw [← hW]; exact heap_alloc_new w _
  obtain ⟨q, hq⟩ : ∃ q, w.heap.size = q := ⟨_, rfl⟩
  rw [hq] at hB hZ ⊢
  obtain ⟨z0, z1, z2, z3, z4, z5⟩ := hbox6 hZ
  have f0 := hfree hZ 0
  have f1 := hfree hZ 1
  have f2 := hfree hZ 2
  have f3 := hfree hZ 3
  have f4 := hfree hZ 4
  have f5 := hfree hZ 5
  have HZ : Hid (W.heap[q]? = some (.cells #[.int .i64 0, .int .i64 0, .int .i64 0, .int .i64 0, .string (str []), .slice none 0 0] 49 (0, 0))) := hZ
  have HB : Hid (Below q w W) := hB
  have HQ : Hid (w.heap.size = q) := hq
  clear hW hB hZ hq
  go_wp2_with (go_at_call 59; refine (none_nil _).mono ?_; rintro r w1 ⟨rfl, rfl⟩)
  refine bodyPost_ret (v := .agg #[.int .i64 0, .int .i64 0, .int .i64 0, .int .i64 0, .string (str []), .slice none 0 0]) (results_cell_row Try.results28 _ _ q 49 _ (0, 0) _ rfl (hset6 _ _ _ _ _ _ HZ.out) Try.underlying49 rfl size_hard) rfl ?_
  have hQ := HQ.out
  have hB2 := HB.out
  rw [hQ]
  exact ⟨rfl, hB2.trans (Fr.below (hset6_fr _ q _ _ _ _ _ _) (by have := hB2.size; omega) (fun k e => by omega))⟩
theorem step_nil {m : Value} (cs : Array Value) (hm : m = .agg cs) : Calls Try.prog 30 #[.pointer none, m] w fun r w' => r = .returned (.slice none 0 0) ∧ Below w.heap.size w w' := by
  subst hm
  have hu : undef = Value.tuple #[] := rfl
  go_enter Try.func30, Try.ntmps30
  go_upto_region 1 with (fail)
  generalize hW : World.alloc _ _ = W
  have HB : Hid (Below w.heap.size w W) := by show Below _ _ _; rw [← hW]; exact vone_new w _
  clear hW
  go_quiet ((go_at_call 59; exact Calls.quiet_of (none_nilq _)))
  go_wp2
  go_ret
  exact ⟨rfl, HB.out.trans ((below_dn _ _).mono HB.out.size)⟩
end
end Go.Proofs.Ytiodepmioglfpaa
