import Derived.Test.YtjemnkijoiehmaaGreatDoorProg
import Derived.Test.YtjemnkijoiehmaaGreatDoorNumM
import Derived.WalkKit
import Derived.WalkSpells
import Derived.WalkLawsBesides
/- Which texts may be names: both functions answer alike. -/
namespace Go.Proofs.YtjemnkijoiehmaaGreatDoor
open Go.RowKit
def inB (c : UInt8) : Bool := decide (97 ≤ c.toNat ∧ c.toNat ≤ 122) || decide (48 ≤ c.toNat ∧ c.toNat ≤ 57) || decide (c.toNat = 46) || decide (c.toNat = 45)
def nameB (l : List UInt8) : Bool := decide (1 ≤ l.length ∧ l.length ≤ 32) && l.all inB
set_option maxHeartbeats 400000 in
theorem inname_any (c : UInt8) (w : World) : Calls Tryz.prog 90 #[.int .u8 c.toNat] w fun r w' => r = .returned (.bool (inB c)) ∧ w' = w := by
  have h0 := c.toNat_lt
  have key : ∀ n : Nat, c.toNat = n → inB c = (decide (97 ≤ n ∧ n ≤ 122) || decide (48 ≤ n ∧ n ≤ 57) || decide (n = 46) || decide (n = 45)) := fun n e => by subst e; rfl
  generalize c.toNat = n at *
  have K := key n rfl
  clear key
  generalize inB c = b at K ⊢
  have HK : Hid (b = (decide (97 ≤ n ∧ n ≤ 122) || decide (48 ≤ n ∧ n ≤ 57) || decide (n = 46) || decide (n = 45))) := K
  clear K
  go_enter Tryz.func90, Tryz.ntmps90
  go_wp2
  all_goals (go_ret; refine ⟨?_, rfl⟩; rw [HK.out])
  all_goals (refine congrArg Ending.returned (congrArg Value.bool ?_); rw [Bool.eq_iff_iff]; simp; try omega)
theorem take_all {l : List UInt8} {k : Nat} (h : ∀ c ∈ l.take k, inB c = true) (hk : l.length ≤ k) : l.all inB = true := by
  rw [List.take_of_length_le hk] at h
  exact List.all_eq_true.2 h
theorem take_more {s : ByteArray} {k : Nat} (hlt : k < s.size) (h : ∀ c ∈ s.data.toList.take k, inB c = true) (hc : inB s[k] = true) : ∀ c ∈ s.data.toList.take (k + 1), inB c = true := by
  have hl : k < s.data.toList.length := by simpa using hlt
  intro c hm
  rw [List.take_succ_eq_append_getElem hl, List.mem_append, List.mem_singleton] at hm
  rcases hm with hm | rfl
  · exact h c hm
  · simpa [ByteArray.getElem_eq_getElem_data] using hc
theorem not_all {s : ByteArray} {k : Nat} (hlt : k < s.size) (hc : inB s[k] = false) : nameB s.data.toList = false := by
  have hl : k < s.data.toList.length := by simpa using hlt
  unfold nameB
  rw [Bool.and_eq_false_iff]
  refine .inr ?_
  rw [List.all_eq_false]
  exact ⟨s.data.toList[k], List.getElem_mem hl, by simpa [ByteArray.getElem_eq_getElem_data] using hc⟩
theorem name_long {s : ByteArray} (h : ¬ (1 ≤ s.size ∧ s.size ≤ 32)) : nameB s.data.toList = false := by
  unfold nameB
  rw [Bool.and_eq_false_iff]
  refine .inl (decide_eq_false ?_)
  simpa using h
theorem name_ok {s : ByteArray} (h : 1 ≤ s.size ∧ s.size ≤ 32) {k : Nat} (ha : ∀ c ∈ s.data.toList.take k, inB c = true) (hk : s.size ≤ k) : nameB s.data.toList = true := by
  unfold nameB
  rw [Bool.and_eq_true]
  exact ⟨decide_eq_true (by simpa using h), take_all ha (by simpa using hk)⟩
set_option maxHeartbeats 400000 in
theorem name_any (s : ByteArray) (w : World) (hs : s.size ≤ maxLen) : Calls Tryz.prog 68 #[.string s] w fun r w' => r = .returned (.bool (nameB s.data.toList)) ∧ w' = w := by
  unfold maxLen at hs
  by_cases hlen : 1 ≤ s.size ∧ s.size ≤ 32
  · obtain ⟨h1, h2⟩ := hlen
    have HA : Hid (1 ≤ s.size ∧ s.size ≤ 32) := ⟨h1, h2⟩
    go_enter Tryz.func68, Tryz.ntmps68
    go_wp2
    go_loop [3, 14] (fun _ i => ∃ k : Nat, k ≤ s.size ∧ i = .int .i64 k ∧ ∀ c ∈ s.data.toList.take k, inB c = true) (fun _ i => s.size - (intOf i).toNat)
    case atStart => exact ⟨0, Nat.zero_le _, rfl, by simp⟩
    case round =>
      obtain ⟨k, hk, rfl, ha⟩ := hrel
      by_cases hlt : k < s.size
      · have HT : Hid (∀ c ∈ s.data.toList.take k, inB c = true) := ha
        clear ha
        cases hc : inB s[k] with
        | true =>
          have hC : Calls Tryz.prog 90 #[.int .u8 (s[k].toNat : Nat)] w fun r w' => r = .returned (.bool true) ∧ w' = w := by rw [← hc]; exact inname_any _ w
          have HC : Hid (inB s[k] = true) := hc
          clear hc
          go_wp2_with (go_at_call 90; refine hC.mono ?_; rintro r w' ⟨rfl, rfl⟩)
          go_round
          case rel => exact ⟨k + 1, by omega, by go_num, take_more hlt HT.out HC.out⟩
          case measure => simp [intOf]; omega
        | false =>
          have hC : Calls Tryz.prog 90 #[.int .u8 (s[k].toNat : Nat)] w fun r w' => r = .returned (.bool false) ∧ w' = w := by rw [← hc]; exact inname_any _ w
          have HC : Hid (inB s[k] = false) := hc
          clear hc
          go_wp2_with (go_at_call 90; refine hC.mono ?_; rintro r w' ⟨rfl, rfl⟩)
          go_ret
          exact ⟨by rw [not_all hlt HC.out]; rfl, rfl⟩
      · have HT : Hid (nameB s.data.toList = true) := name_ok HA.out ha (by omega)
        clear ha
        go_wp2
        go_ret
        exact ⟨by rw [HT.out]; rfl, rfl⟩
  · have HF : Hid (nameB s.data.toList = false) := name_long hlen
    by_cases h1 : s.size < 1
    · go_enter Tryz.func68, Tryz.ntmps68
      go_wp2
      go_ret
      exact ⟨by rw [HF.out]; rfl, rfl⟩
    · have h2 : 32 < s.size := by omega
      go_enter Tryz.func68, Tryz.ntmps68
      go_wp2
      go_ret
      exact ⟨by rw [HF.out]; rfl, rfl⟩
end Go.Proofs.YtjemnkijoiehmaaGreatDoor
