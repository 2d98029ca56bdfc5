/- The walk of the statement on combiners. -/
import Derived.Test.YtfajkfngjfhkoaaCbRef
namespace Go.Proofs.Ytfajkfngjfhkoaa
open Go.RowKit
theorem combO_len {k : Int} {L R : List Msg} (h : combO k L = some R) : R.length ≤ L.length := by
  match L, h with
  | [], h => cases h; exact Nat.le_refl _
  | m :: l, h =>
    have h' : (if k = 0 then some (m :: l) else (foldM k m.v l).map fun v => [⟨m.f, m.t, m.a, v⟩]) = some R := h
    split at h'
    · cases h'; exact Nat.le_refl _
    · cases hf : foldM k m.v l with
      | none => rw [hf] at h'; cases h'
      | some v => rw [hf] at h'; cases h'; simp
set_option maxRecDepth 100000 in
set_option maxHeartbeats 1000000 in
theorem law_combines (k : Int) (ao : Option Addr) (cap : Nat) (L : List Msg) (w : World) {P : Nat → Prop} (h : MsAt w P ao L) (hok : ∀ m ∈ L, m.ok) (hl : L.length * 32 ≤ 140737488355328) (hcap : L.length ≤ cap) (hn : ao = none → cap = 0) :
    Calls Try.prog 8 #[.int .i64 k, .slice ao L.length cap] w fun e w' => e = .returned (.bool true) ∧ Below w.heap.size w w' := by
  have HM : Hid _ := h
  have HO : Hid _ := hok
  clear h hok
  cases hc : combO k L with
  | none =>
    have HC : Hid _ := hc
    clear hc
    go_enter Try.func8, Try.ntmps8
    go_wp2_with (first
      | (go_at_call 38; refine (combine_any k L cap HM.out HO.out hl hcap hn).mono ?_; rintro e w1 ⟨hr, hb1⟩; rw [HC.out] at hr; have hr' : e = .returned (.tuple #[.slice none 0 0, .int .i64 20]) := hr; subst hr'; clear hr; have HB1 : Hid _ := hb1; clear hb1)
      | (go_at_call 37; refine (ref_msgs L cap (MsAt.new HM.out HB1.out) hl).mono ?_; rintro e w2 ⟨g, c, rfl, hg, ho, hb2⟩; have HR : Hid _ := Mo.at_ ho; have HB2 : Hid _ := HB1.out.trans (hb2.mono HB1.out.size); clear ho hb2)
      | (go_at_call 39; refine (rcombine_any k L c HR.out HO.out hl).mono ?_; rintro e w3 ⟨hr, hb3⟩; rw [HC.out] at hr; have hr' : e = .returned (.tuple #[.slice none 0 0, .int .i64 20]) := hr; subst hr'; clear hr; have HB3 : Hid _ := HB2.out.trans (hb3.mono HB2.out.size); clear hb3)
      | (go_at_call 24; refine (awake5 _).mono ?_; rintro e w4 ⟨rfl, hb4⟩; have HB4 : Hid _ := HB3.out.trans (hb4.mono HB3.out.size); clear hb4))
    go_ret
    exact ⟨rfl, HB4.out⟩
  | some R =>
    have HC : Hid _ := hc
    have hRl : R.length ≤ L.length := combO_len hc
    clear hc
    go_enter Try.func8, Try.ntmps8
    go_wp2_with (first
      | (go_at_call 38; refine (combine_any k L cap HM.out HO.out hl hcap hn).mono ?_; rintro e w1 ⟨hr, hb1⟩; rw [HC.out] at hr; obtain ⟨bo, bc', rfl, hm1⟩ := hr; have HB1 : Hid _ := hb1; have HM1 : Hid _ := hm1; clear hb1 hm1)
      | (go_at_call 37; refine (ref_msgs L cap (MsAt.new HM.out HB1.out) hl).mono ?_; rintro e w2 ⟨g, c, rfl, hg, ho, hb2⟩; have HR : Hid _ := Mo.at_ ho; have HB2 : Hid _ := HB1.out.trans (hb2.mono HB1.out.size); have HM2 : Hid _ := MsAt.new HM1.out hb2; clear ho hb2)
      | (go_at_call 39; refine (rcombine_any k L c HR.out HO.out hl).mono ?_; rintro e w3 ⟨hr, hb3⟩; rw [HC.out] at hr; obtain ⟨co, cc, rfl, hm3⟩ := hr; have HM3 : Hid _ := MsAt.new HM2.out hb3; have HN3 : Hid _ := hm3; have HB3 : Hid _ := HB2.out.trans (hb3.mono HB2.out.size); clear hb3 hm3)
      | (go_at_call 24; refine (awake5 _).mono ?_; rintro e w4 ⟨rfl, hb4⟩; have HB4 : Hid _ := HB3.out.trans (hb4.mono HB3.out.size); have HM4 : Hid _ := MsAt.new HM3.out hb4; have HN4 : Hid _ := MsAt.new HN3.out hb4; clear hb4)
      | (go_at_call 32; refine (same_msgs R bc' cc HM4.out HN4.out (by omega)).mono ?_; rintro e w5 ⟨rfl, hb5⟩; have HB5 : Hid _ := HB4.out.trans (hb5.mono HB4.out.size); clear hb5))
    go_ret
    exact ⟨rfl, HB5.out⟩
end Go.Proofs.Ytfajkfngjfhkoaa
