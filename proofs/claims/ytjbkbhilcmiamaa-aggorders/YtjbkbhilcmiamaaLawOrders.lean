/- AggOrders: its walk. -/
import Derived.Test.YtjbkbhilcmiamaaAgR10
import Derived.Test.YtjbkbhilcmiamaaAgR11
import Derived.Test.YtjbkbhilcmiamaaAgR12
import Derived.Test.YtjbkbhilcmiamaaAgMath
import Derived.Deep.CutBlock
namespace Go.Proofs.Ytjbkbhilcmiamaa
open Go.RowKit
set_option maxRecDepth 100000 in
set_option maxHeartbeats 2000000 in
theorem law_orders {P : Nat → Prop} (ao : Option Addr) (cap : Nat) (L : List Ed) (turn : Int) (w : World) (hE : EdAt w P ao L) (hok : ∀ y ∈ L, y.ok) (hl : L.length ≤ 35184372088832) :
    Calls Try.prog 5 #[.slice ao L.length cap, .int .i64 turn] w fun e w' => e = .returned (.bool true) ∧ Below w.heap.size w w' := by
  obtain ⟨i0, hi, hz0, hz1, hz2⟩ : ∃ i, Try.prog.info? 31 = some i ∧ i.zero = some (.agg #[.int .i64 0, .int .i64 0]) ∧ i.size = 2 ∧ i.bytes = 16 := by
    obtain ⟨i, h1, h2⟩ := Option.map_eq_some_iff.1 infoGv
    simp at h2
    exact ⟨i, h1, h2.1, h2.2.1, h2.2.2⟩
  have HE : Hid (EdAt w P ao L) := hE
  have HO : Hid (∀ y ∈ L, y.ok) := hok
  clear hE hok
  go_enter Try.func5, Try.ntmps5
  go_upto_block 0 with fail
  go_cut [5] (fun u wx => ∃ (D : List Ed), D.length ≤ 40 ∧ Hid (∀ y ∈ D, y.ok ∧ -1000000 < y.w ∧ y.w < 1000000) ∧ wx.ownsRow w.heap.size 31 2 u D.length (g_ecs D) ∧ Below w.heap.size w wx ∧ ∃ g cp, u = .slice (some ⟨g, 0, none⟩) D.length cp ∧ D.length ≤ cp ∧ cp ≤ maxLen)
  case first =>
   go_wp2_with fail
   go_loopw [5, 6] (fun u i wr => ∃ (j : Nat), j ≤ L.length ∧ j ≤ 40 ∧ i = .int .i64 j ∧ wr.ownsRow w.heap.size 31 2 u j (g_ecs (smallL (L.take j))) ∧ Below w.heap.size w wr ∧ ∃ g cp, u = .slice (some ⟨g, 0, none⟩) j cp ∧ j ≤ cp ∧ cp ≤ maxLen) (fun _ i _ => 40 - (intOf i).toNat)
   case atStart =>
     exact ⟨0, Nat.zero_le _, Nat.zero_le _, rfl, g_own_empty (Nat.le_refl _), one_new' _ _, _, _, rfl, Nat.le_refl _, Nat.zero_le _⟩
   case round =>
     obtain ⟨j, hj, hj4, rfl, hown, hb, gg, cp, rfl, hcp, hcm⟩ := hrel
     by_cases hlt : j < L.length
     · by_cases hl4 : j < 40
       · obtain ⟨b, off, rfl, hP, hc⟩ := HE.out (by omega)
         have f0 := (hb.cell (p := ⟨b, off + j * 2, none⟩) (lt_cell (hc j hlt).1)).trans (hc j hlt).1
         have f1 := (hb.cell (p := ⟨b, off + j * 2 + 1, none⟩) (lt_cell (hc j hlt).1)).trans (hc j hlt).2
         have HS : Hid _ := smallL_snoc L j hlt
         have HL : Hid ((smallL (L.take j)).length = j) := by show _ = _; rw [smallL_len, List.length_take]; omega
         have HZ : Hid (L[j].ok) := HO.out _ (List.getElem_mem hlt)
         generalize L[j] = z at f0 f1 HS HZ
         have hz1' := HZ.out.w
         have HB : Hid _ := hb
         have HX : Hid _ := hown
         have lb := lt_cell f0
         clear hown hb hc
         go_wp2
         go_region_law
           ((refine g_step_append_own rfl (.tmp 24) (.tmp 37) 22 rfl w.heap.size 31 i0 (.agg #[.int .i64 0, .int .i64 0]) 2 16 Try.underlying22 hi hz0 hz1 hz2 rfl (by decide) (.slice (some ⟨gg, 0, none⟩) j cp) _ _ (by simp [Act.eval]) (g_own_new (g_own_new HX.out ((Below.refl _ _).drew)) (one_new' _ _)) ⟨wr.heap.size, 0, none⟩ 1 1 [.int .i64 z.t, .int .i64 (z.w.tmod 1000000)] (by simp [Act.eval]) rfl (g_two_new (heap_alloc_new _ _)) (by intro u hu; simp at hu; rcases hu with rfl | rfl <;> rfl) (by unfold maxLen; omega) (by omega) (by have := HB.out.size; simp; omega) ?_; intro v' w1 hown' hgrow hat; have H4 : Hid _ := hown'; have H5 : Hid _ := hgrow; clear hown' hgrow hat))
         all_goals
           have H6 : Hid _ := grown_low HB.out H5.out (fun k hk => (World.ownsRow.lt HX.out k hk).1)
           go_wp2
           go_roundw
           case rel => exact ⟨j + 1, by omega, by omega, by go_num, by rw [HS.out, g_ecs_snoc]; exact H4.out, H6.out, own_some H4.out⟩
           case measure => simp [intOf]; omega
       · go_wp2
         go_meet
         exact ⟨smallL (L.take j), by rw [smallL_len, List.length_take]; omega, small_ok _ (fun y hy => HO.out y (List.mem_of_mem_take hy)), by rw [show (smallL (L.take j)).length = j by rw [smallL_len, List.length_take]; omega]; exact hown, hb, gg, cp, by rw [show (smallL (L.take j)).length = j by rw [smallL_len, List.length_take]; omega], by rw [smallL_len, List.length_take]; omega, hcm⟩
     · go_wp2
       go_meet
       exact ⟨smallL (L.take j), by rw [smallL_len, List.length_take]; omega, small_ok _ (fun y hy => HO.out y (List.mem_of_mem_take hy)), by rw [show (smallL (L.take j)).length = j by rw [smallL_len, List.length_take]; omega]; exact hown, hb, gg, cp, by rw [show (smallL (L.take j)).length = j by rw [smallL_len, List.length_take]; omega], by rw [smallL_len, List.length_take]; omega, hcm⟩
  case rest =>
    obtain ⟨D, hD, HD, hown, hb, gg, cp, rfl, hcp, hcm⟩ := hcut
    obtain ⟨_, hEd⟩ := g_own_eds hown
    have HEd : Hid _ := hEd
    have HB : Hid _ := hb
    clear hEd hb hown HE HO
    go_upto_if 42 with fail
    go_cut [8] (fun v wx => ∃ kk : Nat, (kk < D.length ∨ (D = [] ∧ kk = 0)) ∧ v = .int .i64 kk ∧ wx = wc)
    case first =>
      by_cases h0 : 0 < D.length
      · obtain ⟨r, hr⟩ : ∃ r, turn.tmod (D.length : Int) = r := ⟨_, rfl⟩
        have hr1 : -(D.length : Int) < r ∧ r < D.length := by
          have a := Int.tmod_lt_of_pos turn (b := (D.length : Int)) (by omega)
          have b := Int.tmod_lt_of_pos (-turn) (b := (D.length : Int)) (by omega)
          rw [Int.neg_tmod] at b
          omega
        obtain ⟨q, hq⟩ : ∃ q, (r + (D.length : Int)).tmod (D.length : Int) = q := ⟨_, rfl⟩
        have hq1 : 0 ≤ q ∧ q < D.length := by
          rw [← hq]
          exact ⟨Int.tmod_nonneg _ (by omega), Int.tmod_lt_of_pos _ (by omega)⟩
        obtain ⟨kk, rfl⟩ : ∃ kk : Nat, q = kk := ⟨q.toNat, by omega⟩
        go_wp2
        go_meet
        exact ⟨kk, .inl (by omega), rfl, rfl⟩
      · go_wp2
        go_meet
        exact ⟨0, .inr ⟨List.eq_nil_of_length_eq_zero (by omega), rfl⟩, rfl, rfl⟩
    case rest =>
      obtain ⟨kk, hks, rfl, rfl⟩ := hcut
      have HO : Hid (∀ y ∈ D, y.ok) := fun y hy => (HD.out y hy).1
      obtain ⟨m1, m2, m3, m4⟩ := orders_math D kk (fun y hy => (HD.out y hy).2) hD
      have M3 : Hid _ := m3
      have M4 : Hid _ := m4
      clear m3 m4
      go_wp2
      refine orders_r10 (D := D) hks hD hcp hcm HO HEd ?_
      intro h1 wx1 e50 e51 e52 e53 e54 e55 e56 e57 e58 e59 e60 e61 hz1 hl1 hb1
      rw [m1]
      have HZ1 : Hid _ := hz1
      have B1 : Hid _ := HB.out.trans (hb1.mono HB.out.size)
      have HE1 : Hid _ := EdAt.new HEd.out hb1
      clear hz1 hb1 hl1
      go_wp2
      refine orders_r11 (D := D) hks hD hcp hcm HO HE1 ?_
      intro h2 wx2 e62 e63 e64 e65 e66 e67 e68 e69 e70 e71 e72 e73 hz2 hl2 hb2
      rw [m2]
      have H1 : Hid (wx2.heap[h1]? = some (.cells (AOc (allO D)) 26 (0, 0))) := by
        have := (hb2.block h1 (lt_of_block HZ1.out)).trans HZ1.out
        rw [M3.out] at this
        exact this
      have H2 : Hid (wx2.heap[h2]? = some (.cells (AOc (allO D)) 26 (0, 0))) := by
        rw [M4.out] at hz2
        exact hz2
      have B2 : Hid _ := B1.out.trans (hb2.mono B1.out.size)
      have HE2 : Hid _ := EdAt.new HE1.out hb2
      clear hz2 hb2 hl2
      go_wp2
      refine orders_r12 (D := D) hD HO HE2 H1 H2 ?_
      intro wx3 e74 e75 e76 e77 e78 e79 e80 e81 e82 e83 e84 e85 e86 e87 e88 e89 e90 e91 e92 e93 hb3
      go_wp2
      go_ret
      exact ⟨rfl, B2.out.trans (hb3.mono B2.out.size)⟩
end Go.Proofs.Ytjbkbhilcmiamaa
