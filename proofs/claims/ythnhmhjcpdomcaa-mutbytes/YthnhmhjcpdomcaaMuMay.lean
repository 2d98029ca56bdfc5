/- Which requests may be: Check, and the document's May. -/
import Derived.Test.YthnhmhjcpdomcaaMuMath
import Derived.Test.YthnhmhjcpdomcaaMuThat
namespace Go.Proofs.Ythnhmhjcpdomcaa
open Go.RowKit
/-- Which requests may be. -/
def mayU (m : Mu) : Bool := if m.k = 1 then m.v == 0 else if m.k = 2 then m.t == 0 && m.v == 0 else if m.k = 3 then m.t == 0 else m.k == 4
set_option maxRecDepth 100000 in
set_option maxHeartbeats 1000000 in
theorem checkU_any (m : Mu) (w : World) : Calls Try.prog 26 #[.agg #[.int .i64 m.k, .int .i64 m.i, .int .i64 m.t, .int .i64 m.v]] w fun e w' => e = .returned (.bool (mayU m)) ∧ Below w.heap.size w w' := by
  obtain ⟨k, i, t, v⟩ := m
  have HE : Hid (mayU ⟨k, i, t, v⟩ = if k = 1 then v == 0 else if k = 2 then t == 0 && v == 0 else if k = 3 then t == 0 else k == 4) := rfl
  by_cases h1 : k = 1
  · subst h1
    go_enter Try.func26, Try.ntmps26
    go_wp2
    go_ret
    exact ⟨by rw [HE.out]; rfl, one_newU _ _⟩
  · have b1 : (k == 1) = false := by simpa using h1
    by_cases h2 : k = 2
    · subst h2
      cases e : (t == 0)
      · go_enter Try.func26, Try.ntmps26
        go_wp2
        go_ret
        exact ⟨by rw [HE.out, e]; rfl, one_newU _ _⟩
      · go_enter Try.func26, Try.ntmps26
        go_wp2
        go_ret
        exact ⟨by rw [HE.out, e]; simp, one_newU _ _⟩
    · have b2 : (k == 2) = false := by simpa using h2
      by_cases h3 : k = 3
      · subst h3
        go_enter Try.func26, Try.ntmps26
        go_wp2
        go_ret
        exact ⟨by rw [HE.out]; rfl, one_newU _ _⟩
      · have b3 : (k == 3) = false := by simpa using h3
        by_cases h4 : k = 4
        · subst h4
          go_enter Try.func26, Try.ntmps26
          go_wp2
          go_ret
          exact ⟨by rw [HE.out]; rfl, one_newU _ _⟩
        · have b4 : (k == 4) = false := by simpa using h4
          have HF : Hid (mayU ⟨k, i, t, v⟩ = false) := by show _ = _; rw [HE.out, if_neg h1, if_neg h2, if_neg h3, b4]
          clear h1 h2 h3 h4
          go_enter Try.func26, Try.ntmps26
          go_wp2
          go_ret
          exact ⟨by rw [HF.out]; rfl, one_newU _ _⟩
set_option maxRecDepth 100000 in
set_option maxHeartbeats 1000000 in
theorem mayRef_any (m : Mu) (w : World) : Calls Try.prog 25 #[.agg #[.int .i64 m.k, .int .i64 m.i, .int .i64 m.t, .int .i64 m.v]] w fun e w' => e = .returned (.bool (mayU m)) ∧ Below w.heap.size w w' := by
  obtain ⟨k, i, t, v⟩ := m
  have HE : Hid (mayU ⟨k, i, t, v⟩ = if k = 1 then v == 0 else if k = 2 then t == 0 && v == 0 else if k = 3 then t == 0 else k == 4) := rfl
  by_cases h1 : k = 1
  · subst h1
    go_enter Try.func25, Try.ntmps25
    go_wp2
    go_ret
    exact ⟨by rw [HE.out]; rfl, one_newU _ _⟩
  · have b1 : (k == 1) = false := by simpa using h1
    by_cases h2 : k = 2
    · subst h2
      cases e : (t == 0)
      · go_enter Try.func25, Try.ntmps25
        go_wp2
        go_ret
        exact ⟨by rw [HE.out, e]; rfl, one_newU _ _⟩
      · go_enter Try.func25, Try.ntmps25
        go_wp2
        go_ret
        exact ⟨by rw [HE.out, e]; simp, one_newU _ _⟩
    · have b2 : (k == 2) = false := by simpa using h2
      by_cases h3 : k = 3
      · subst h3
        go_enter Try.func25, Try.ntmps25
        go_wp2
        go_ret
        exact ⟨by rw [HE.out]; rfl, one_newU _ _⟩
      · have b3 : (k == 3) = false := by simpa using h3
        by_cases h4 : k = 4
        · subst h4
          go_enter Try.func25, Try.ntmps25
          go_wp2
          go_ret
          exact ⟨by rw [HE.out]; rfl, one_newU _ _⟩
        · have b4 : (k == 4) = false := by simpa using h4
          have HF : Hid (mayU ⟨k, i, t, v⟩ = false) := by show _ = _; rw [HE.out, if_neg h1, if_neg h2, if_neg h3, b4]
          clear h1 h2 h3 h4
          go_enter Try.func25, Try.ntmps25
          go_wp2
          go_ret
          exact ⟨by rw [HF.out]; rfl, one_newU _ _⟩
end Go.Proofs.Ythnhmhjcpdomcaa
