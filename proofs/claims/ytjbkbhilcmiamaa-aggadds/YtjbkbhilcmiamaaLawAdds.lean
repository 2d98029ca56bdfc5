/- AggAdds: its walk. -/
import Derived.Test.YtjbkbhilcmiamaaAgReg5
import Derived.Test.YtjbkbhilcmiamaaAgReg6
namespace Go.Proofs.Ytjbkbhilcmiamaa
open Go.RowKit
set_option maxRecDepth 100000 in
set_option maxHeartbeats 8000000 in
theorem law_adds {P : Nat → Prop} (ao : Option Addr) (cap : Nat) (L : List Ed) (w : World) (hE : EdAt w P ao L) (hok : ∀ y ∈ L, y.ok) (hl : L.length ≤ 35184372088832) :
    Calls Try.prog 3 #[.slice ao L.length cap] w fun e w' => e = .returned (.bool true) ∧ Below w.heap.size w w' := by
  have HE : Hid (EdAt w P ao L) := hE
  have HO : Hid (∀ y ∈ L, y.ok) := hok
  clear hE hok
  go_enter Try.func3, Try.ntmps3
  go_wp2
  go_loopw [5] (fun i wr => ∃ (k : Nat), k ≤ L.length ∧ i = .int .i64 k ∧ XY w wr (allO (L.take k)) (allO (L.take k))) (fun i _ => L.length - (intOf i).toNat)
  case atStart => exact ⟨0, Nat.zero_le _, rfl, blk_al2 _ _ _, heap_alloc_new2 _ _ _, two_new2 _ _ _⟩
  case round =>
    obtain ⟨k, hk, rfl, hx⟩ := hrel
    by_cases hlt : k < L.length
    · obtain ⟨b, off, rfl, hP, hc⟩ := HE.out (by omega)
      have HF : Hid (∀ wx, Below w.heap.size w wx → wx.cell? ⟨b, off + k * 2, none⟩ = some (.int .i64 L[k].t) ∧ wx.cell? ⟨b, off + k * 2 + 1, none⟩ = some (.int .i64 L[k].w)) := fun wx hw => ⟨(hw.cell (p := ⟨b, off + k * 2, none⟩) (lt_cell (hc k hlt).1)).trans (hc k hlt).1, (hw.cell (p := ⟨b, off + k * 2 + 1, none⟩) (lt_cell (hc k hlt).1)).trans (hc k hlt).2⟩
      have HS : Hid _ := allO_snoc L k hlt
      have HZ : Hid (L[k].ok) := HO.out _ (List.getElem_mem hlt)
      have HK : Hid (OkO (allO (L.take k))) := allO_ok _ (fun y hy => HO.out y (List.mem_of_mem_take hy))
      generalize L[k] = z at HF HS HZ
      generalize allO (L.take k) = o at hx HS HK
      clear hc
      obtain ⟨f0, f1⟩ := HF.out wr hx.low
      obtain ⟨c0, c1, c2, c3, c4, c5, c6, c7, c8, c9⟩ := box_ao hx.bx
      have HX : Hid _ := hx
      have lb := lt_cell f0
      have lx := lt_of_block hx.bx
      clear hx
      go_wp2
      refine adds_r5 (w := w) (o := o) (z := z) hlt HK HZ HX f0 f1 ?_
      intro g wc e21 e22 e23 e24 e25 e26 e27 e28 e29 e30 e31 e32 e33 e34 e35 hg hgl hx
      clear f0 f1 lb lx c0 c1 c2 c3 c4 c5 c6 c7 c8 c9 HX
      obtain ⟨f0, f1⟩ := HF.out wc hx.low
      obtain ⟨c0, c1, c2, c3, c4, c5, c6, c7, c8, c9⟩ := box_ao hx.by_
      have HX : Hid _ := hx
      have HG : Hid _ := hg
      have lb := lt_cell f0
      have lx := lt_of_block hx.by_
      have lg := lt_of_block hg
      clear hx hg
      go_wp2
      refine adds_r6 (w := w) (o := o) (z := z) (g0 := g) hlt HK HZ HX HG f0 f1 ?_
      intro g' wc d36 d37 d38 d39 d40 d41 d42 d43 d44 d45 d46 d47 d48 d49 d50 hg' hg hgg hx
      clear f0 f1 lb lx lg c0 c1 c2 c3 c4 c5 c6 c7 c8 c9 HX HG
      have HX : Hid _ := hx
      have HG : Hid _ := hg
      have HG' : Hid _ := hg'
      have HH : Hid (OkO (addO o z.t z.w)) := HK.out.add _ HZ.out.w
      have HN : Hid _ := fun w' => neqE (w := w') (addO o z.t z.w)
      have HGU : Hid _ := fun w' x y => guardE .neq (w := w') x y (addO o z.t z.w)
      generalize addE o z.t z.w = er
      obtain ⟨p, hp⟩ : ∃ p, addO o z.t z.w = p := ⟨_, rfl⟩
      have HP : Hid _ := hp
      rw [hp] at HG HG' HH HN HGU
      clear hx hg hg' hp
      have lg := lt_of_block HG.out
      obtain ⟨c0, c1, c2, c3, c4, c5, c6, c7, c8, c9⟩ := box_ao HG.out
      obtain ⟨d0, d1, d2, d3, d4, d5, d6, d7, d8, d9⟩ := box_ao HG'.out
      have n1 := HN.out
      have n2 := HGU.out
      unfold AOc AC at n1 n2
      go_wp2
      clear n1 n2
      obtain ⟨p0, p1, p2, p3, p4, p5, p6, p7, p8, p9⟩ := box_ao HX.out.bx
      obtain ⟨q0, q1, q2, q3, q4, q5, q6, q7, q8, q9⟩ := fro_ao HX.out.bx
      obtain ⟨r0, r1, r2, r3, r4, r5, r6, r7, r8, r9⟩ := box_ao HX.out.by_
      obtain ⟨s0, s1, s2, s3, s4, s5, s6, s7, s8, s9⟩ := fro_ao HX.out.by_
      go_cut [] (fun wx => XY w wx p p)
      case first =>
        go_region
        all_goals
          go_wp2
          go_meet
          exact XY.drew (XY.puty (XY.putx HX.out (fs10 _ _ _ _ _ _ _ _ _ _ _ _) (mset10 _ _ _ _ _ _ _ _ _ _ HX.out.bx)) (fs10 _ _ _ _ _ _ _ _ _ _ _ _) (mset10 _ _ _ _ _ _ _ _ _ _ (XY.putx HX.out (fs10 _ _ _ _ _ _ _ _ _ _ _ _) (mset10 _ _ _ _ _ _ _ _ _ _ HX.out.bx)).by_))
      case rest =>
        have hx := hcut
        clear c0 c1 c2 c3 c4 c5 c6 c7 c8 c9 d0 d1 d2 d3 d4 d5 d6 d7 d8 d9 p0 p1 p2 p3 p4 p5 p6 p7 p8 p9 q0 q1 q2 q3 q4 q5 q6 q7 q8 q9 r0 r1 r2 r3 r4 r5 r6 r7 r8 r9 s0 s1 s2 s3 s4 s5 s6 s7 s8 s9 HG HG' HX lg
        obtain ⟨f0, f1⟩ := HF.out wc hx.low
        obtain ⟨c0, c1, c2, c3, c4, c5, c6, c7, c8, c9⟩ := box_ao hx.bx
        have HX : Hid _ := hx
        clear hx hcut
        go_wp2
        go_cut [10, 11] (fun n e wx => n = .int .i64 ((getO p z.t).getD 0) ∧ e = .bool (getO p z.t).isSome ∧ XY w wx p p)
        case first =>
          go_region_with (go_at_call 11; refine (get_any p z.t _).mono ?_; rintro e w1 ⟨rfl, hb1⟩)
          all_goals
            go_wp2_with fail
            go_meet
            exact ⟨rfl, rfl, HX.out.new (below_c' hb1)⟩
        case rest =>
          obtain ⟨rfl, rfl, hx⟩ := hcut
          clear f0 f1 c0 c1 c2 c3 c4 c5 c6 c7 c8 c9 HX
          obtain ⟨f0, f1⟩ := HF.out wc hx.low
          obtain ⟨c0, c1, c2, c3, c4, c5, c6, c7, c8, c9⟩ := box_ao hx.by_
          have HX : Hid _ := hx
          clear hx
          obtain ⟨kd, hkd⟩ : ∃ kd, z.t = kd := ⟨_, rfl⟩
          rw [hkd] at f0 ⊢
          go_upto_region 11 with fail
          go_cut [12] (fun h wx => h = .bool (getO p kd).isSome ∧ wx = wc)
          case first =>
            by_cases hk5 : 0 ≤ kd ∧ kd ≤ 4
            · rcases kind5 hk5 with rfl | rfl | rfl | rfl | rfl
              all_goals
                rw [getO_in (by decide)]
                go_wp2
                go_meet
                exact ⟨rfl, rfl⟩
            · by_cases h0 : 0 ≤ kd
              · have h4 : ¬ kd < 5 := by omega
                go_wp2
                go_meet
                exact ⟨by rw [getO_out hk5]; rfl, rfl⟩
              · go_wp2
                go_meet
                exact ⟨by rw [getO_out hk5]; rfl, rfl⟩
          case rest =>
            obtain ⟨rfl, rfl⟩ := hcut
            by_cases hk5 : 0 ≤ kd ∧ kd ≤ 4
            · rcases kind5 hk5 with rfl | rfl | rfl | rfl | rfl
              · rw [getO_in (by decide)]
                cases hp0 : p 0 with
                | none =>
                  simp only [Option.isSome_none, Option.getD_none]
                  go_wp2
                  go_roundw
                  case rel => exact ⟨k + 1, by omega, by go_num, by rw [HS.out, HP.out]; exact HX.out⟩
                  case measure => simp [intOf]; omega
                | some y =>
                  rw [ov_some hp0] at c5
                  simp only [Option.isSome_some, Option.getD_some]
                  go_wp2
                  go_roundw
                  case rel => exact ⟨k + 1, by omega, by go_num, by rw [HS.out, HP.out]; exact HX.out⟩
                  case measure => simp [intOf]; omega
              · rw [getO_in (by decide)]
                cases hp0 : p 1 with
                | none =>
                  simp only [Option.isSome_none, Option.getD_none]
                  go_wp2
                  go_roundw
                  case rel => exact ⟨k + 1, by omega, by go_num, by rw [HS.out, HP.out]; exact HX.out⟩
                  case measure => simp [intOf]; omega
                | some y =>
                  rw [ov_some hp0] at c6
                  simp only [Option.isSome_some, Option.getD_some]
                  go_wp2
                  go_roundw
                  case rel => exact ⟨k + 1, by omega, by go_num, by rw [HS.out, HP.out]; exact HX.out⟩
                  case measure => simp [intOf]; omega
              · rw [getO_in (by decide)]
                cases hp0 : p 2 with
                | none =>
                  simp only [Option.isSome_none, Option.getD_none]
                  go_wp2
                  go_roundw
                  case rel => exact ⟨k + 1, by omega, by go_num, by rw [HS.out, HP.out]; exact HX.out⟩
                  case measure => simp [intOf]; omega
                | some y =>
                  rw [ov_some hp0] at c7
                  simp only [Option.isSome_some, Option.getD_some]
                  go_wp2
                  go_roundw
                  case rel => exact ⟨k + 1, by omega, by go_num, by rw [HS.out, HP.out]; exact HX.out⟩
                  case measure => simp [intOf]; omega
              · rw [getO_in (by decide)]
                cases hp0 : p 3 with
                | none =>
                  simp only [Option.isSome_none, Option.getD_none]
                  go_wp2
                  go_roundw
                  case rel => exact ⟨k + 1, by omega, by go_num, by rw [HS.out, HP.out]; exact HX.out⟩
                  case measure => simp [intOf]; omega
                | some y =>
                  rw [ov_some hp0] at c8
                  simp only [Option.isSome_some, Option.getD_some]
                  go_wp2
                  go_roundw
                  case rel => exact ⟨k + 1, by omega, by go_num, by rw [HS.out, HP.out]; exact HX.out⟩
                  case measure => simp [intOf]; omega
              · rw [getO_in (by decide)]
                cases hp0 : p 4 with
                | none =>
                  simp only [Option.isSome_none, Option.getD_none]
                  go_wp2
                  go_roundw
                  case rel => exact ⟨k + 1, by omega, by go_num, by rw [HS.out, HP.out]; exact HX.out⟩
                  case measure => simp [intOf]; omega
                | some y =>
                  rw [ov_some hp0] at c9
                  simp only [Option.isSome_some, Option.getD_some]
                  go_wp2
                  go_roundw
                  case rel => exact ⟨k + 1, by omega, by go_num, by rw [HS.out, HP.out]; exact HX.out⟩
                  case measure => simp [intOf]; omega
            · rw [getO_out hk5]
              simp only [Option.isSome_none, Option.getD_none]
              go_wp2
              go_roundw
              case rel => exact ⟨k + 1, by omega, by go_num, by rw [HS.out, HP.out]; exact HX.out⟩
              case measure => simp [intOf]; omega
    · go_wp2_with (go_at_call 12; refine (awake4_any _).mono ?_; rintro e w1 ⟨rfl, hb1⟩)
      go_ret
      exact ⟨rfl, hx.low.trans (hb1.mono hx.low.size)⟩
end Go.Proofs.Ytjbkbhilcmiamaa
