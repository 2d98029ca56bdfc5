/- Crash and Up of a disk; what awake of layer 11 returns: true. -/
import Derived.Test.YtdapapnkmicklaaDkFail2
namespace Go.Proofs.Ytdapapnkmicklaa
open Go.RowKit Go.Maps
attribute [local go_sem] Oper.semAt_some
section
variable {w : World} {B p : Nat} {A : Dk} {mn ms : Option Nat} {lv : Value}
theorem fail_any {M : Nat} (h : DA w B p A mn ms lv) (hB : B ≤ w.heap.size) (hbd : BdA A M) (keep tn : Int) : Calls Try.prog 46 #[.pointer (some ⟨p, 0, none⟩), .int .i64 keep, .int .i64 tn] w fun r w' => r = .returned (.tuple #[]) ∧ DkAt w' B p (A.fail keep tn) ∧ FrD B w w' := by
  rcases h.two with ⟨rfl, rfl, _⟩ | ⟨a, b, rfl, rfl, _⟩
  · exact fail_nil h keep tn
  · by_cases hl : A.loose = []
    · exact fail_empty h hB hl keep tn
    · exact fail_some h hB hbd (List.length_pos_iff.2 hl) keep tn
theorem crash_any {M : Nat} (h : DA w B p A mn ms lv) (hB : B ≤ w.heap.size) (hbd : BdA A M) (hd : A.dead = false) (keep tn : Int) : Calls Try.prog 16 #[.pointer (some ⟨p, 0, none⟩), .int .i64 keep, .int .i64 tn] w fun r w' => r = .returned (.tuple #[]) ∧ DkAt w' B p (A.fail keep tn) ∧ FrD B w w' := by
  have hD := dead_any h
  rw [hd] at hD
  have HF : Hid (Calls Try.prog 46 #[.pointer (some ⟨p, 0, none⟩), .int .i64 keep, .int .i64 tn] w fun r w' => r = .returned (.tuple #[]) ∧ DkAt w' B p (A.fail keep tn) ∧ FrD B w w') := fail_any h hB hbd keep tn
  clear h hB hbd hd
  go_enter Try.func16, Try.ntmps16
  go_wp2_with (first
    | (go_at_call 25; refine hD.mono ?_; rintro r w ⟨rfl, rfl⟩)
    | (go_at_call 46; refine Calls.mono HF.out ?_; rintro r w2 ⟨rfl, hD2, hF2⟩; have HD2 : Hid _ := hD2; have HF2 : Hid _ := hF2; clear hD2 hF2))
  go_end0
  exact ⟨rfl, HD2.out, HF2.out⟩
theorem up_dead (h : DA w B p A mn ms lv) (hd : A.dead = true) : Calls Try.prog 17 #[.pointer (some ⟨p, 0, none⟩)] w fun r w' => r = .returned (.bool true) ∧ DkAt w' B p { A with dead := false } ∧ FrD B w w' := by
  obtain ⟨_, _, _, _, _, c5⟩ := h.cells
  have f5 := h.free 5
  rw [hd] at c5
  have fs : Fr w (w.setCell ⟨p, 5, none⟩ (.bool false)) (fun k => k = p) := Fr.setCell (S := fun k => k = p) _ ⟨p, 5, none⟩ _ rfl
  have HD : Hid (DA (w.setCell ⟨p, 5, none⟩ (.bool false)) B p { A with dead := false } mn ms lv) :=
    ⟨blk_set (i := 5) (.bool false) h.blk, h.now.kept fs (fun k e s => h.pmap.1 (by rw [e, s])), h.sure.kept fs (fun k e s => h.pmap.2 (by rw [e, s])), h.two, row_keep h.row fs (fun k e s => h.prow (by rw [e, s])), h.ok, h.hp, h.hn, h.hs⟩
  have HF : Hid (FrD B w (w.setCell ⟨p, 5, none⟩ (.bool false))) := h.frP fs (fun _ e => e)
  clear h fs hd
  go_enter Try.func17, Try.ntmps17
  go_wp2
  go_ret
  exact ⟨rfl, ⟨_, _, _, HD.out⟩, HF.out⟩
theorem up_live (h : DA w B p A mn ms lv) (hd : A.dead = false) : Calls Try.prog 17 #[.pointer (some ⟨p, 0, none⟩)] w fun r w' => r = .returned (.bool false) ∧ w' = w := by
  obtain ⟨_, _, _, _, _, c5⟩ := h.cells
  rw [hd] at c5
  clear h hd
  go_enter Try.func17, Try.ntmps17
  go_wp2
  go_ret
  exact ⟨rfl, rfl⟩
end
def dk0 : Dk := ⟨[], [], 0, false, .slice none 0 0⟩
def dk1 : Dk := dk0.add ⟨0, [97], [], [120, 121]⟩
def dk2 : Dk := ⟨[([97], [120])], [], 1, true, .slice none 0 0⟩
theorem dk1_fail : dk1.fail 0 1 = dk2 := by rfl
set_option maxRecDepth 100000 in
set_option maxHeartbeats 400000 in
theorem awake11 (w : World) : Calls Try.prog 9 #[] w fun r w' => r = .returned (.bool true) ∧ Below w.heap.size w w' := by
  have hbd0 : Bd dk0 ⟨0, [97], [], [120, 121]⟩ := ⟨by decide +kernel, by decide +kernel, by decide, by decide⟩
  have hbd1 : BdA dk1 0 := ⟨fun p hp => (by cases hp), by decide +kernel, by decide, by decide⟩
  have hN := new_any w
  have HA : Hid (∀ W B p, B ≤ W.heap.size → DkAt W B p dk0 → Calls Try.prog 30 #[.pointer (some ⟨p, 0, none⟩), .string (str [97]), .string (str [120, 121])] W fun r w' => r = .returned (.int .i64 0) ∧ DkAt w' B p dk1 ∧ FrD B W w') := fun W B p hB hD => by
    obtain ⟨mn, ms, lv, h⟩ := hD
    exact append_ok h hB (quiet_nil rfl) rfl (by decide) hbd0
  have HC : Hid (∀ W B p, B ≤ W.heap.size → DkAt W B p dk1 → Calls Try.prog 16 #[.pointer (some ⟨p, 0, none⟩), .int .i64 0, .int .i64 1] W fun r w' => r = .returned (.tuple #[]) ∧ DkAt w' B p dk2 ∧ FrD B W w') := fun W B p hB hD => by
    obtain ⟨mn, ms, lv, h⟩ := hD
    rw [← dk1_fail]
    exact crash_any h hB hbd1 rfl 0 1
  have HU : Hid (∀ W B p, DkAt W B p dk2 → Calls Try.prog 17 #[.pointer (some ⟨p, 0, none⟩)] W fun r w' => r = .returned (.bool true) ∧ DkAt w' B p { dk2 with dead := false } ∧ FrD B W w') := fun W B p hD => by
    obtain ⟨mn, ms, lv, h⟩ := hD
    exact up_dead h rfl
  have HR : Hid (∀ W B p, DkAt W B p { dk2 with dead := false } → Calls Try.prog 31 #[.pointer (some ⟨p, 0, none⟩), .string (str [97])] W fun r w' => r = .returned (.tuple #[.string (str [120]), .int .i64 0]) ∧ Below W.heap.size W w') := fun W B p hD => by
    obtain ⟨mn, ms, lv, h⟩ := hD
    exact read_ok h rfl (by decide) (by decide)
  have heq : ((str [120]).toList == [120]) = true := by rw [str_toList]; rfl
  clear hbd0 hbd1
  go_enter Try.func9, Try.ntmps9
  go_wp2_with (first
    | (go_at_call 8; refine hN.mono ?_; rintro r w1 ⟨rfl, hD, hb1⟩; have HD1 : Hid (DkAt w1 w.heap.size w.heap.size dk0) := ⟨_, _, _, hD⟩; have HB1 : Hid _ := hb1; clear hD hb1)
    | (go_at_call 30; refine Calls.mono (HA.out w1 w.heap.size w.heap.size HB1.out.size HD1.out) ?_; rintro r w2 ⟨rfl, hD, hF⟩; have HD2 : Hid _ := hD; have HF2 : Hid _ := hF; clear hD hF)
    | (go_at_call 16; refine Calls.mono (HC.out w2 w.heap.size w.heap.size (Nat.le_trans HB1.out.size HF2.out.size) HD2.out) ?_; rintro r w3 ⟨rfl, hD, hF⟩; have HD3 : Hid _ := hD; have HF3 : Hid _ := hF; clear hD hF)
    | (go_at_call 17; refine Calls.mono (HU.out w3 w.heap.size w.heap.size HD3.out) ?_; rintro r w4 ⟨rfl, hD, hF⟩; have HD4 : Hid _ := hD; have HF4 : Hid _ := hF; clear hD hF)
    | (go_at_call 31; refine Calls.mono (HR.out w4 w.heap.size w.heap.size HD4.out) ?_; rintro r w5 ⟨rfl, hb⟩; have HB5 : Hid _ := hb; clear hb))
  go_ret
  have f14 : FrD w.heap.size w1 w4 := FrD.trans (FrD.trans HF2.out HF3.out) HF4.out
  have b14 := f14.below HB1.out.size
  exact ⟨rfl, (HB1.out.trans b14).trans (HB5.out.mono (Nat.le_trans HB1.out.size f14.size))⟩
end Go.Proofs.Ytdapapnkmicklaa
