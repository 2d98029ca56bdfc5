/- Stage 15's awake: a request is done once. -/
import Derived.Test.YtdnakakichblgaaSsDo
namespace Go.Proofs.Ytdnakakichblgaa
open Go.RowKit
attribute [local go_sem] Oper.semAt_some
theorem look_put {L : List Req} (h : RiseQ L) {a : Req} (h1 : 1 ≤ a.n) : lookR (putR L a) a.k a.n = (a.s, true, 0) := by
  unfold lookR
  rw [put_last h, if_neg (by omega), if_pos rfl]
theorem fresh_none (k : Int) : freshR [] k 1 := by
  unfold freshR lookR
  simp [lastR, posR]
theorem tells_aw (w : World) : Tells 29 #[] ⟨#[120]⟩ w := by
  refine ⟨fun _ _ => rfl, ?_⟩
  go_enter Try.func29, Try.ntmps29
  go_wp2
  go_ret
  exact ⟨rfl, Below.refl _ _⟩
set_option maxRecDepth 100000 in
set_option maxHeartbeats 1000000 in
theorem awake15 (w : World) : Calls Try.prog 7 #[] w fun r w' => r = .returned (.bool true) ∧ Below w.heap.size w w' := by
  have hN := snew w w.heap.size (Nat.le_refl _)
  go_enter Try.func7, Try.ntmps7
  go_upto_region 2 with (go_at_call 6; refine hN.mono ?_; rintro r w1 ⟨rfl, hT1, hb1⟩)
  have HB1 : Hid (Below w.heap.size w w1) := hb1
  have HP : Hid (w.heap.size ≤ w1.heap.size) := hb1.size
  have hD := sdo_fresh hT1 Tab.nil (k := 1) (n := 1) (by decide) (fresh_none 1) (fun W _ => tells_aw W)
  have HT : Hid (Tab (putR [] ⟨1, 1, ⟨#[120]⟩⟩)) := Tab.nil.put _ (fresh_none 1)
  have HK : Hid (lookR (putR [] ⟨1, 1, ⟨#[120]⟩⟩) 1 1 = (⟨#[120]⟩, true, 0)) := look_put (a := ⟨1, 1, ⟨#[120]⟩⟩) List.Pairwise.nil (by decide)
  clear hN hb1 hT1
  obtain ⟨p, hp⟩ : ∃ p, w.heap.size = p := ⟨_, rfl⟩
  have HPe : Hid (w.heap.size = p) := hp
  rw [hp] at hD ⊢
  clear hp
  go_upto_region 3 with (go_at_call 10; refine hD.mono ?_; rintro r w2 ⟨rfl, v2, hT2, hF2, hR2⟩)
  have HB2 : Hid (Below w.heap.size w w2) := by
    have h1 := HPe.out
    have h2 := HB1.out
    exact h2.trans (hF2.below HP.out (fun k hk => by
      rcases hk with hk | hk
      · omega
      · cases hk))
  have hL := slook hT2 (by have := HT.out.few; omega) HT.out.rise 1 1 (by decide)
  rw [HK.out] at hL
  simp only at hL
  clear hT2 hF2 hR2 hD
  go_wp2_with (go_at_call 9; refine hL.mono ?_; rintro r w3 ⟨rfl, hb3⟩)
  go_ret
  exact ⟨by rfl, HB2.out.trans (hb3.mono HB2.out.size)⟩
end Go.Proofs.Ytdnakakichblgaa
