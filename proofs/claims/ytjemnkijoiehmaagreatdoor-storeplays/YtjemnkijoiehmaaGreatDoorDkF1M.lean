import Derived.Test.YtjemnkijoiehmaaGreatDoorDkAtM
/- Dead, hindered, Read, Up of a disk, and of none. -/
namespace Go.Proofs.YtjemnkijoiehmaaGreatDoor
open Go.RowKit Go.Maps
variable {Xm : Nat → Prop}
attribute [local go_sem] Oper.semAt_some
section
variable {w : World} {B p : Nat} {A : Dk} {mn ms : Option Nat} {lv : Value}
theorem dead_any (h : DA Xm w B p A mn ms lv) : Calls Tryz.prog 25 #[.pointer (some ⟨p, 0, none⟩)] w fun r w' => r = .returned (.bool A.dead) ∧ w' = w := by
  obtain ⟨_, _, _, _, _, c5⟩ := h.cells
  generalize A.dead = dd at c5 ⊢
  clear h
  go_enter Tryz.func25, Tryz.ntmps25
  go_wp2
  go_ret
  exact ⟨rfl, rfl⟩
/-- Names in memory. -/
def NmAt (w : World) (b : Nat) (L : List Bs) : Prop := ∀ j (h : j < L.length), w.cell? ⟨b, j, none⟩ = some (.string (str L[j])) ∧ L[j].length ≤ maxLen
set_option maxHeartbeats 400000 in
theorem hind_live {b : Nat} {L : List Bs} (P : Value) (hd : Calls Tryz.prog 25 #[P] w fun r w' => r = .returned (.bool false) ∧ w' = w) (hL : NmAt w b L) (hm : L.length ≤ 2) {er : Int} (he : er = if L.all nameB then 0 else 110) : Calls Tryz.prog 45 #[P, .slice (some ⟨b, 0, none⟩) L.length L.length] w fun r w' => r = .returned (.int .i64 er) ∧ w' = w := by
  have HE : Hid (er = if L.all nameB then 0 else 110) := he
  clear he
  go_enter Tryz.func45, Tryz.ntmps45
  go_wp2_with (go_at_call 25; refine hd.mono ?_; rintro r w ⟨rfl, rfl⟩)
  go_loop [6, 11] (fun _ i => ∃ k : Nat, k ≤ L.length ∧ i = .int .i64 k ∧ (L.take k).all nameB = true) (fun _ i => L.length - (intOf i).toNat)
  case atStart => exact ⟨0, Nat.zero_le _, rfl, by simp⟩
  case round =>
    obtain ⟨k, hk, rfl, ha⟩ := hrel
    have HT : Hid ((L.take k).all nameB = true) := ha
    clear ha
    by_cases hlt : k < L.length
    · obtain ⟨c0, hl⟩ := hL k hlt
      have HG : Hid ((L.take (k + 1)).all nameB = ((L.take k).all nameB && nameB L[k])) := by
        show _ = _
        rw [List.take_succ_eq_append_getElem hlt, List.all_append]
        simp
      have HI : Hid (nameB L[k] = false → L.all nameB = false) := fun e => List.all_eq_false.2 ⟨L[k], List.getElem_mem hlt, by simp [e]⟩
      have hN := name_any (str L[k]) w hl
      rw [str_list] at hN
      generalize L[k] = nm at c0 HG HI hN
      clear hL hl
      cases hc : nameB nm with
      | true =>
        rw [hc] at hN
        have HC : Hid (nameB nm = true) := hc
        clear hc
        go_wp2_with (go_at_call 68; refine hN.mono ?_; rintro r w ⟨rfl, rfl⟩)
        go_round
        case rel => exact ⟨k + 1, by omega, by go_num, by rw [HG.out, HT.out, HC.out]; rfl⟩
        case measure => simp [intOf]; omega
      | false =>
        rw [hc] at hN
        have HC : Hid (L.all nameB = false) := HI.out hc
        clear hc
        go_wp2_with (go_at_call 68; refine hN.mono ?_; rintro r w ⟨rfl, rfl⟩)
        go_ret
        exact ⟨by rw [HE.out, HC.out]; rfl, rfl⟩
    · have HF : Hid (L.all nameB = true) := by
        have := HT.out
        rw [List.take_of_length_le (by omega)] at this
        exact this
      clear hL HT
      obtain rfl : k = L.length := by omega
      clear hlt hk hm
      go_wp2
      go_ret
      exact ⟨by rw [HE.out, HF.out]; rfl, rfl⟩
end
end Go.Proofs.YtjemnkijoiehmaaGreatDoor
