/- GraphFinds: graphs that may not be, and the graph without vertices. -/
import Derived.Test.YtfajkfngjfhkoaaLawFinds
namespace Go.Proofs.Ytfajkfngjfhkoaa
open Go.RowKit
theorem chk_bdF (G : List Vx) : 0 ≤ chk G ∧ chk G ≤ 31 := by
  unfold chk
  repeat' split
  all_goals omega
set_option maxRecDepth 100000 in
set_option maxHeartbeats 1000000 in
theorem finds_bad {w : World} {P : Nat → Prop} {ao : Option Addr} (G : List Vx) (cap : Nat) (id parts : Int) (h : VxAt w P ao G) (hok : ∀ v ∈ G, v.ok) (hl : G.length * 40 ≤ 140737488355328) (hz : chk G ≠ 0) :
    Calls Try.prog 5 #[.agg #[.slice ao G.length cap], .int .i64 id, .int .i64 parts] w fun r w' => r = .returned (.bool true) ∧ Below w.heap.size w w' := by
  have HG : Hid (∀ W, Below w.heap.size w W → VxAt W P ao G) := fun W hb => h.new hb
  have HOk : Hid (∀ v ∈ G, v.ok) := hok
  obtain ⟨c, hc⟩ : ∃ c, chk G = c := ⟨_, rfl⟩
  have hc1 : 0 < c := by have := chk_bdF G; omega
  have hc2 : c ≤ 31 := by have := chk_bdF G; omega
  have HC : Hid _ := hc
  have hS0 : GB w (w.alloc (.cells #[.slice ao G.length cap] 24)) ao G.length cap := ⟨heap_alloc_new _ _, one_new _ _⟩
  have HS0 : Hid _ := hS0
  clear h hok hc hS0 hz
  go_enter Try.func5, Try.ntmps5
  go_wp2_with (first
    | (go_at_call 11; first
      | (have := hS3; refine (awake_any _).mono ?_; rintro r w4 ⟨rfl, hb4⟩; have hS4 := hS3.new hb4)
      | (refine (awake_any _).mono ?_; rintro r w1 ⟨rfl, hb1⟩; have hS1 := GB.new HS0.out hb1; have x1 := hS1.cell))
    | (go_at_call 13; refine (ref_any G cap (HG.out _ hS1.low) HOk.out hl).mono ?_; rintro r w2 ⟨bo2, c2, rfl, hV2, hb2⟩; have hS2 := hS1.new hb2; have x2 := hS2.cell)
    | (go_at_call 14; refine (refcheck_any c2 hV2 (by omega) HOk.out).mono ?_; rintro r w3 ⟨rfl, hb3⟩; rw [HC.out]; have hS3 := hS2.new hb3; have x3 := hS3.cell))
  go_ret
  exact ⟨rfl, hS4.low⟩
theorem sameG_nil : sameG [] [] = true := (sameG_iff [] []).2 rfl
theorem VxAt.nil (w : World) (ao : Option Addr) : VxAt w (fun _ => True) ao [] := fun h => absurd h (by simp)
set_option maxRecDepth 100000 in
set_option maxHeartbeats 1000000 in
theorem finds_nil {w : World} {ao : Option Addr} (cap : Nat) (id parts : Int) (hp : I64 parts) :
    Calls Try.prog 5 #[.agg #[.slice ao 0 cap], .int .i64 id, .int .i64 parts] w fun r w' => r = .returned (.bool true) ∧ Below w.heap.size w w' := by
  have hok : ∀ v ∈ ([] : List Vx), v.ok := fun v hv => by cases hv
  have hS0 : GB w (w.alloc (.cells #[.slice ao 0 cap] 24)) ao 0 cap := ⟨heap_alloc_new _ _, one_new _ _⟩
  have HS0 : Hid _ := hS0
  have hRef : ∀ W, Calls Try.prog 13 #[.agg #[.slice ao 0 cap]] W fun r w' => ∃ bo c, r = .returned (.slice bo 0 c) ∧ Below W.heap.size W w' := fun W => (ref_any [] cap (VxAt.nil W ao) hok (by simp)).mono (fun r w' ⟨bo, c, h1, _, h2⟩ => ⟨bo, c, h1, h2⟩)
  have hChk : ∀ W bo c, Calls Try.prog 14 #[.slice bo 0 c] W fun r w' => r = .returned (.int .i64 0) ∧ Below W.heap.size W w' := fun W bo c => by
    have := refcheck_any c (VxAt.nil W bo) (by simp) hok
    rw [chk_nil] at this
    exact this
  have hFind : ∀ W, Calls Try.prog 16 #[.agg #[.slice ao 0 cap], .int .i64 id] W fun r w' => r = .returned (.tuple #[.int .i64 0, .bool false]) ∧ Below W.heap.size W w' := fun W => by
    have := find_any cap id (VxAt.nil W ao) (by simp) (fun j h => absurd h (by simp [ids]))
    exact this
  have hRFind : ∀ W bo c, Calls Try.prog 20 #[.slice bo 0 c, .int .i64 id] W fun r w' => r = .returned (.tuple #[.int .i64 0, .bool false]) ∧ Below W.heap.size W w' := fun W bo c => reffind_any c id (VxAt.nil W bo) (by simp)
  have hCl : ∀ W, Calls Try.prog 21 #[.agg #[.slice ao 0 cap]] W fun r w' => ∃ fo c, r = .returned (.agg #[.slice fo 0 c]) ∧ Below W.heap.size W w' := fun W => (clonew_any [] cap (VxAt.nil W ao) hok (by simp)).mono (fun r w' ⟨h1, h2⟩ => by
    rcases h1 with ⟨_, fo, c, h1⟩ | ⟨h0, _⟩
    · exact ⟨fo, c, h1, h2⟩
    · simp at h0)
  have hSame : ∀ W fo bo c d, Calls Try.prog 22 #[.agg #[.slice fo 0 c], .agg #[.slice bo 0 d]] W fun r w' => r = .returned (.bool true) ∧ Below W.heap.size W w' := fun W fo bo c d => by
    have := same_any c d (VxAt.nil W fo) (VxAt.nil W bo) (by simp) (fun v hv => by cases hv)
    rw [sameG_nil] at this
    exact this
  clear hS0 hok
  go_enter Try.func5, Try.ntmps5
  go_wp2_with (first
    | (go_at_call 11; refine (awake_any _).mono ?_; rintro r w1 ⟨rfl, hb1⟩; have hS1 := GB.new HS0.out hb1; have x1 := hS1.cell)
    | (go_at_call 13; first
      | (have := hS4; refine (hRef _).mono ?_; rintro r w5 ⟨bo5, c5, rfl, hb5⟩; have hS5 := hS4.new hb5; have x5 := hS5.cell)
      | (refine (hRef _).mono ?_; rintro r w2 ⟨bo2, c2, rfl, hb2⟩; have hS2 := hS1.new hb2; have x2 := hS2.cell))
    | (go_at_call 14; refine (hChk _ _ _).mono ?_; rintro r w3 ⟨rfl, hb3⟩; have hS3 := hS2.new hb3; have x3 := hS3.cell)
    | (go_at_call 16; refine (hFind _).mono ?_; rintro r w4 ⟨rfl, hb4⟩; have hS4 := hS3.new hb4; have x4 := hS4.cell)
    | (go_at_call 20; refine (hRFind _ _ _).mono ?_; rintro r w6 ⟨rfl, hb6⟩; have hS6 := hS5.new hb6; have x6 := hS6.cell)
    | (go_at_call 21; refine (hCl _).mono ?_; rintro r w7 ⟨fo, c7, rfl, hb7⟩; have hS7 := hS6.new hb7; have x7 := hS7.cell; have l7 := lt_of_block hS7.gb)
    | (go_at_call 22; refine (hSame _ _ _ _ _).mono ?_; rintro r w8 ⟨rfl, hb8⟩))
  have hb7' : Below w7.heap.size w7 w8 := (one_new w7 _).trans (hb8.mono (by rw [World.size_alloc]; omega))
  have hS8 := hS7.new hb7'
  have x8 := hS8.cell
  have c8 : w8.cell? ⟨w7.heap.size, 0, none⟩ = some (.slice fo 0 c7) := (cl_one ((hb8.block _ (by rw [World.size_alloc]; omega)).trans (heap_alloc_new _ _))).1
  refine wp_loop_rounds 1 ?_
  rw [rounds_succ]
  go_wp2_with (first
    | (go_at_call 11; refine (awake_any _).mono ?_; rintro r u1 ⟨rfl, kb1⟩; have hS9 := hS8.new kb1; have z1 := hS9.cell)
    | (go_at_call 17; refine (part_any _ _ _ hp).mono ?_; rintro r u2 ⟨rfl, rfl⟩)
    | (go_at_call 18; refine (refpart_any _ _ _ hp).mono ?_; rintro r u3 ⟨rfl, rfl⟩)
    | (go_at_call 22; refine (hSame _ _ _ _ _).mono ?_; rintro r u4 ⟨rfl, kb4⟩; have hS10 := hS9.new kb4))
  go_ret
  exact ⟨rfl, hS10.low⟩
end Go.Proofs.Ytfajkfngjfhkoaa
