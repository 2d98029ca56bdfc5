/- The walk of the statement on a master alone. -/
import Derived.Test.YtiodepmioglfpaaVwAl3
namespace Go.Proofs.Ytiodepmioglfpaa
open Go.RowKit Go.Maps
attribute [local go_sem] Oper.semAt_some
def mkE (s : ByteArray) : Ent := ⟨0, s⟩
/-- What holds between two steps: the log has so many of the texts. -/
structure VaI (w wr : World) (b p : Nat) (A : Nd) (g c0 gh c1 ma : Nat) (vv : Value) (R : List ByteArray) (m : Nat) : Prop where
  al : AL3 w wr b p A g c0 gh c1 ma vv
  log : A.log = (R.take m).map mkE
  bi : A.bi = 0
  tk : A.tk ≤ 2
  le : m ≤ R.length
section
variable {w wr : World} {b p : Nat} {A : Nd} {g c0 gh c1 ma : Nat} {vv : Value} {R : List ByteArray} {m : Nat}
theorem VaI.new {W : World} (h : VaI w wr b p A g c0 gh c1 ma vv R m) (hb : Below wr.heap.size wr W) : VaI w W b p A g c0 gh c1 ma vv R m := { h with al := h.al.new hb }
theorem VaI.len (h : VaI w wr b p A g c0 gh c1 ma vv R m) : A.log.length = m := by
  rw [h.log, List.length_map, List.length_take]
  have := h.le
  omega
theorem VaI.last (h : VaI w wr b p A g c0 gh c1 ma vv R m) : A.last = m := by
  unfold Nd.last
  rw [h.bi, h.len]
  omega
theorem VaI.propose (h : VaI w wr b p A g c0 gh c1 ma vv R m) (hm : m < R.length) (h40 : m < 40) : Calls Try.prog 32 #[.pointer (some ⟨p, 0, none⟩), .string R[m]] wr fun r w' => r = .returned (.tuple #[.int .i64 ((m : Int) + 1), .slice none 0 0, .bool true]) ∧ VaI w w' b p (A.proposed R[m]) g c0 gh c1 ma vv R (m + 1) := by
  refine (h.al.propose (by rw [h.len]; omega) R[m]).mono ?_
  rintro r w' ⟨rfl, k⟩
  rw [h.last]
  refine ⟨rfl, k, ?_, h.bi, by show (0 : Int) ≤ 2; decide, hm⟩
  show A.log ++ [⟨A.vw, R[m]⟩] = _
  rw [h.al.alone.vw, h.log, List.take_succ_eq_append_getElem hm, List.map_append]
  rfl
theorem VaI.commit (h : VaI w wr b p A g c0 gh c1 ma vv R m) : Calls Try.prog 26 #[.pointer (some ⟨p, 0, none⟩)] wr fun r w' => r = .returned (.int .i64 (m : Int)) ∧ ∃ q, w' = wr.drewN q := by
  have := h.al.commit
  rw [h.last] at this
  exact this
theorem VaI.tick (h : VaI w wr b p A g c0 gh c1 ma vv R m) : Calls Try.prog 31 #[.pointer (some ⟨p, 0, none⟩)] wr fun r w' => ∃ A', r = .returned (.slice none 0 0) ∧ VaI w w' b p A' g c0 gh c1 ma vv R m := by
  refine (h.al.tick h.tk).mono ?_
  rintro r w' ⟨t, rfl, k, kt⟩
  exact ⟨A.tkd t, rfl, k, h.log, h.bi, kt, h.le⟩
theorem VaI.one (h : VaI w wr b p A g c0 gh c1 ma vv R m) : Calls Try.prog 40 #[.pointer (some ⟨b, 0, none⟩), .agg #[.int .i64 10, .int .i64 0, .int .i64 0], .int .i64 0] wr fun r w' => r = .returned (.bool true) ∧ ∃ p' A', VaI w w' b p' A' g c0 gh c1 ma vv R m ∧ A'.had ≤ A'.last := by
  refine h.al.one.mono ?_
  rintro r w' ⟨rfl, p', k⟩
  exact ⟨rfl, p', A.again, ⟨k, h.log, h.bi, by show (0 : Int) ≤ 2; decide, h.le⟩, Int.le_refl _⟩
theorem VaI.entry (h : VaI w wr b p A g c0 gh c1 ma vv R m) {j : Nat} (hj : j < m) (hjR : j < R.length) : Calls Try.prog 29 #[.pointer (some ⟨p, 0, none⟩), .int .i64 ((j : Int) + 1)] wr fun r w' => r = .returned (.tuple #[.agg #[.int .i64 0, .string R[j]], .bool true]) ∧ Below wr.heap.size wr w' := by
  have hl := h.len
  have := h.al.entry (j := j) (ix := (j : Int) + 1) (by omega) (by rw [h.bi]; omega)
  have e : A.log[j]'(by omega) = mkE R[j] := by simp [h.log]
  rw [e] at this
  exact this
end
set_option linter.unusedSimpArgs false in
set_option maxRecDepth 100000 in
set_option maxHeartbeats 4000000 in
theorem law_valone {w : World} {ao : Option Addr} {R : List ByteArray} (cap : Nat) (hR : 0 < R.length → ∃ tb off, ao = some ⟨tb, off, none⟩ ∧ ∀ j (h : j < R.length), w.cell? ⟨tb, off + j, none⟩ = some (.string R[j])) (ticks : Int) : Calls Try.prog 7 #[.slice ao R.length cap, .int .i64 ticks] w fun r w' => r = .returned (.bool true) ∧ Below w.heap.size w w' := by
  have HR : Hid (0 < R.length → ∃ tb off, ao = some ⟨tb, off, none⟩ ∧ ∀ j (h : j < R.length), w.cell? ⟨tb, off + j, none⟩ = some (.string R[j])) := hR
  clear hR
  go_enter Try.func7, Try.ntmps7
  go_upto_region 2 with (go_at_call 37; refine (AL3.begun w).mono ?_; rintro r w1 ⟨b, p, g, c0, gh, c1, ma, vv, rfl, hA1⟩; have H1 : Hid (VaI w w1 b p (Nd.born 0 1 0 0 0 0 (str []) []).counted g c0 gh c1 ma vv R 0) := ⟨hA1, rfl, rfl, (by show (0 : Int) ≤ 2; decide), Nat.zero_le _⟩; clear hA1)
  generalize (Nd.born 0 1 0 0 0 0 (str []) []).counted = A0 at H1
  go_upto_region 4 with (first
    | (go_at_call 11; refine (awake13 _).mono ?_; rintro r w2 ⟨rfl, hb2⟩; have H2 : Hid (VaI w w2 b p A0 g c0 gh c1 ma vv R 0) := H1.out.new hb2; clear hb2; obtain ⟨x0, xg⟩ := H2.out.al.cells)
    | (go_at_call 34; refine (AL3.role H2.out.al).mono ?_; rintro r w3 ⟨rfl, q3, rfl⟩)
    | (go_at_call 36; refine (AL3.leader (H2.out.al.dn _)).mono ?_; rintro r w4 ⟨rfl, q4, rfl⟩)
    | (go_at_call 27; refine (AL3.view (H2.out.al.dn _)).mono ?_; rintro r w5 ⟨rfl, q5, rfl⟩))
  generalize hV : World.drewN _ _ = V
  have HV : Hid (VaI w V b p A0 g c0 gh c1 ma vv R 0) := by rw [← hV]; exact H2.out.new (below_dn _ _)
  clear hV x0 xg H1 H2
  go_upto_block 0 with (fail)
  go_cut [7] (fun u wx => ∃ (m : Nat) (A : Nd), u = .int .i64 m ∧ m ≤ 40 ∧ VaI w wx b p A g c0 gh c1 ma vv R m)
  case first =>
    go_wp2
    go_loopw [7, 8] (fun n i wr => ∃ (j : Nat) (A : Nd), j ≤ 40 ∧ n = .int .i64 j ∧ i = .int .i64 j ∧ VaI w wr b p A g c0 gh c1 ma vv R j) (fun _ i _ => 40 - (intOf i).toNat)
    case atStart => exact ⟨0, _, Nat.zero_le _, rfl, rfl, HV.out⟩
    case round =>
      obtain ⟨j, A, hj, rfl, rfl, hI⟩ := hrel
      have HI : Hid (VaI w wr b p A g c0 gh c1 ma vv R j) := hI
      by_cases hlt : j < R.length
      · by_cases h40 : j < 40
        · obtain ⟨tb, off, rfl, hcell⟩ := HR.out (by omega)
          have HPr : Hid (∀ W, VaI w W b p A g c0 gh c1 ma vv R j → Calls Try.prog 32 #[.pointer (some ⟨p, 0, none⟩), .string R[j]] W fun r w' => r = .returned (.tuple #[.int .i64 ((j : Int) + 1), .slice none 0 0, .bool true]) ∧ VaI w w' b p (A.proposed R[j]) g c0 gh c1 ma vv R (j + 1)) := fun W h => h.propose hlt h40
          have tc := hcell j hlt
          generalize R[j] = s at tc HPr
          have hjI : (j : Int) < R.length := by omega
          have hj40 : (j : Int) < 40 := by omega
          have hj0 : (0 : Int) ≤ j := by omega
          have HTc : Hid (w.cell? ⟨tb, off + j, none⟩ = some (.string s)) := tc
          clear hI hcell tc
          go_upto_region 8 with (fail)
          obtain ⟨Wd, hWd⟩ : ∃ Wd, wr.drew = Wd := ⟨_, rfl⟩
          have bd : Below wr.heap.size wr Wd := by rw [← hWd]; exact Below.drew (Below.refl _ _)
          have HD : Hid (VaI w Wd b p A g c0 gh c1 ma vv R j) := HI.out.new bd
          obtain ⟨x0, xg⟩ := HD.out.al.cells
          have xt := (HD.out.al.low.cell (p := ⟨tb, off + j, none⟩) (vlt_cell HTc.out)).trans HTc.out
          clear bd
          refine wp_calmV ?_
          refine wp_region_L [] (fun w' : World => w'.cell? ⟨b, 0, none⟩ = some (.slice (some ⟨g, 0, none⟩) 1 c0) ∧ w'.cell? ⟨g, 0, none⟩ = some (.pointer (some ⟨p, 0, none⟩)) ∧ w'.cell? ⟨tb, off + j, none⟩ = some (.string s)) (by kernel_rfl) ?_
          rw [hWd]
          clear hWd
          have hS : (fun w' : World => w'.cell? ⟨b, 0, none⟩ = some (.slice (some ⟨g, 0, none⟩) 1 c0) ∧ w'.cell? ⟨g, 0, none⟩ = some (.pointer (some ⟨p, 0, none⟩)) ∧ w'.cell? ⟨tb, off + j, none⟩ = some (.string s)) Wd := ⟨x0, xg, xt⟩
          refine wpAnyL_take (i := 0) 67 (v := .pointer (some ⟨b, 0, none⟩)) rfl rfl (by kernel_rfl) (by kernel_rfl) (by kernel_rfl) (by kernel_rfl) (by kernel_rfl) (by kernel_rfl) (fun _ _ _ h => h) hS (by rfl) (by intro w' hSw; obtain ⟨y0, y1, y2⟩ := hSw; go_simp <;> with_reducible rfl) ?_
          simp only [Act.put, List.setIfInBounds_toArray, List.set_cons_zero, List.set_cons_succ]
          refine wpAnyL_take (i := 1) 68 (v := .pointer (some ⟨b, 0, none⟩)) rfl rfl (by kernel_rfl) (by kernel_rfl) (by kernel_rfl) (by kernel_rfl) (by kernel_rfl) (by kernel_rfl) (fun _ _ _ h => h) hS (by rfl) (by intro w' hSw; obtain ⟨y0, y1, y2⟩ := hSw; go_simp <;> with_reducible rfl) ?_
          simp only [Act.put, List.setIfInBounds_toArray, List.set_cons_zero, List.set_cons_succ]
          refine wpAnyL_take (i := 2) 69 (v := .pointer (some ⟨b, 0, none⟩)) rfl rfl (by kernel_rfl) (by kernel_rfl) (by kernel_rfl) (by kernel_rfl) (by kernel_rfl) (by kernel_rfl) (fun _ _ _ h => h) hS (by rfl) (by intro w' hSw; obtain ⟨y0, y1, y2⟩ := hSw; go_simp <;> with_reducible rfl) ?_
          simp only [Act.put, List.setIfInBounds_toArray, List.set_cons_zero, List.set_cons_succ]
          refine wpAnyL_take (i := 3) 70 (v := .slice (some ⟨g, 0, none⟩) 1 c0) rfl rfl (by kernel_rfl) (by kernel_rfl) (by kernel_rfl) (by kernel_rfl) (by kernel_rfl) (by kernel_rfl) (fun _ _ _ h => h) hS (by rfl) (by intro w' hSw; obtain ⟨y0, y1, y2⟩ := hSw; go_simp <;> with_reducible rfl) ?_
          simp only [Act.put, List.setIfInBounds_toArray, List.set_cons_zero, List.set_cons_succ]
          refine wpAnyL_take (i := 4) 71 (v := .pointer (some ⟨g, 0, none⟩)) rfl rfl (by kernel_rfl) (by kernel_rfl) (by kernel_rfl) (by kernel_rfl) (by kernel_rfl) (by kernel_rfl) (fun _ _ _ h => h) hS (by rfl) (by intro w' hSw; obtain ⟨y0, y1, y2⟩ := hSw; go_simp <;> with_reducible rfl) ?_
          simp only [Act.put, List.setIfInBounds_toArray, List.set_cons_zero, List.set_cons_succ]
          refine wpAnyL_take (i := 5) 72 (v := .pointer (some ⟨p, 0, none⟩)) rfl rfl (by kernel_rfl) (by kernel_rfl) (by kernel_rfl) (by kernel_rfl) (by kernel_rfl) (by kernel_rfl) (fun _ _ _ h => h) hS (by rfl) (by intro w' hSw; obtain ⟨y0, y1, y2⟩ := hSw; go_simp <;> with_reducible rfl) ?_
          simp only [Act.put, List.setIfInBounds_toArray, List.set_cons_zero, List.set_cons_succ]
          refine wpAnyL_take (i := 6) 73 (v := .slice (some ⟨tb, off, none⟩) R.length cap) rfl rfl (by kernel_rfl) (by kernel_rfl) (by kernel_rfl) (by kernel_rfl) (by kernel_rfl) (by kernel_rfl) (fun _ _ _ h => h) hS (by rfl) (by intro w' hSw; obtain ⟨y0, y1, y2⟩ := hSw; go_simp <;> with_reducible rfl) ?_
          simp only [Act.put, List.setIfInBounds_toArray, List.set_cons_zero, List.set_cons_succ]
          refine wpAnyL_take (i := 7) 74 (v := .int .i64 (j : Int)) rfl rfl (by kernel_rfl) (by kernel_rfl) (by kernel_rfl) (by kernel_rfl) (by kernel_rfl) (by kernel_rfl) (fun _ _ _ h => h) hS (by rfl) (by intro w' hSw; obtain ⟨y0, y1, y2⟩ := hSw; go_simp <;> with_reducible rfl) ?_
          simp only [Act.put, List.setIfInBounds_toArray, List.set_cons_zero, List.set_cons_succ]
          refine wpAnyL_take (i := 8) 75 (v := .pointer (some ⟨tb, off + j, none⟩)) rfl rfl (by kernel_rfl) (by kernel_rfl) (by kernel_rfl) (by kernel_rfl) (by kernel_rfl) (by kernel_rfl) (fun _ _ _ h => h) hS (by rfl) (by intro w' hSw; obtain ⟨y0, y1, y2⟩ := hSw; go_simp <;> with_reducible rfl) ?_
          simp only [Act.put, List.setIfInBounds_toArray, List.set_cons_zero, List.set_cons_succ]
          refine wpAnyL_take (i := 9) 76 (v := .string s) rfl rfl (by kernel_rfl) (by kernel_rfl) (by kernel_rfl) (by kernel_rfl) (by kernel_rfl) (by kernel_rfl) (fun _ _ _ h => h) hS (by rfl) (by intro w' hSw; obtain ⟨y0, y1, y2⟩ := hSw; go_simp <;> with_reducible rfl) ?_
          simp only [Act.put, List.setIfInBounds_toArray, List.set_cons_zero, List.set_cons_succ]
          refine wpAnyL_one (i := 10) (by kernel_rfl) rfl (fun Ka hKa => ?_)
          go_simp
          refine Calls.mono (HPr.out _ HD.out) ?_
          rintro r w6 ⟨rfl, h6⟩
          obtain ⟨y0, yg⟩ := h6.al.cells
          have yt := (h6.al.low.cell (p := ⟨tb, off + j, none⟩) (vlt_cell HTc.out)).trans HTc.out
          refine hKa.out _ _ (fun _ => ⟨y0, yg, yt⟩) ?_
          have H6 : Hid (VaI w w6 b p (A.proposed s) g c0 gh c1 ma vv R (j + 1)) := h6
          clear hKa Ka h6
          try simp only [Act.put, List.setIfInBounds_toArray, List.set_cons_zero, List.set_cons_succ]
          have hS6 : (fun w' : World => w'.cell? ⟨b, 0, none⟩ = some (.slice (some ⟨g, 0, none⟩) 1 c0) ∧ w'.cell? ⟨g, 0, none⟩ = some (.pointer (some ⟨p, 0, none⟩)) ∧ w'.cell? ⟨tb, off + j, none⟩ = some (.string s)) w6 := ⟨y0, yg, yt⟩
          refine wpAnyL_take (i := 11) 66 (v := .tuple #[.int .i64 ((j : Int) + 1), .slice none 0 0, .bool true]) rfl rfl (by kernel_rfl) (by kernel_rfl) (by kernel_rfl) (by kernel_rfl) (by kernel_rfl) (by kernel_rfl) (fun _ _ _ h => h) hS6 (by rfl) (by intro w' hSw; obtain ⟨y0, y1, y2⟩ := hSw; go_simp <;> with_reducible rfl) ?_
          simp only [Act.put, List.setIfInBounds_toArray, List.set_cons_zero, List.set_cons_succ]
          refine wpAnyL_take (i := 12) 78 (v := .int .i64 ((j : Int) + 1)) rfl rfl (by kernel_rfl) (by kernel_rfl) (by kernel_rfl) (by kernel_rfl) (by kernel_rfl) (by kernel_rfl) (fun _ _ _ h => h) hS6 (by rfl) (by intro w' hSw; obtain ⟨y0, y1, y2⟩ := hSw; go_simp <;> with_reducible rfl) ?_
          simp only [Act.put, List.setIfInBounds_toArray, List.set_cons_zero, List.set_cons_succ]
          refine wpAnyL_take (i := 13) 79 (v := .slice none 0 0) rfl rfl (by kernel_rfl) (by kernel_rfl) (by kernel_rfl) (by kernel_rfl) (by kernel_rfl) (by kernel_rfl) (fun _ _ _ h => h) hS6 (by rfl) (by intro w' hSw; obtain ⟨y0, y1, y2⟩ := hSw; go_simp <;> with_reducible rfl) ?_
          simp only [Act.put, List.setIfInBounds_toArray, List.set_cons_zero, List.set_cons_succ]
          refine wpAnyL_take (i := 14) 80 (v := .bool true) rfl rfl (by kernel_rfl) (by kernel_rfl) (by kernel_rfl) (by kernel_rfl) (by kernel_rfl) (by kernel_rfl) (fun _ _ _ h => h) hS6 (by rfl) (by intro w' hSw; obtain ⟨y0, y1, y2⟩ := hSw; go_simp <;> with_reducible rfl) ?_
          simp only [Act.put, List.setIfInBounds_toArray, List.set_cons_zero, List.set_cons_succ]
          refine wpAnyL_take (i := 15) 9 (v := .int .i64 ((j : Int) + 1)) rfl rfl (by kernel_rfl) (by kernel_rfl) (by kernel_rfl) (by kernel_rfl) (by kernel_rfl) (by kernel_rfl) (fun _ _ _ h => h) hS6 (by rfl) (by intro w' hSw; obtain ⟨y0, y1, y2⟩ := hSw; go_simp <;> with_reducible rfl) ?_
          simp only [Act.put, List.setIfInBounds_toArray, List.set_cons_zero, List.set_cons_succ]
          refine wpAnyL_take (i := 16) 10 (v := .slice none 0 0) rfl rfl (by kernel_rfl) (by kernel_rfl) (by kernel_rfl) (by kernel_rfl) (by kernel_rfl) (by kernel_rfl) (fun _ _ _ h => h) hS6 (by rfl) (by intro w' hSw; obtain ⟨y0, y1, y2⟩ := hSw; go_simp <;> with_reducible rfl) ?_
          simp only [Act.put, List.setIfInBounds_toArray, List.set_cons_zero, List.set_cons_succ]
          refine wpAnyL_take (i := 17) 11 (v := .bool true) rfl rfl (by kernel_rfl) (by kernel_rfl) (by kernel_rfl) (by kernel_rfl) (by kernel_rfl) (by kernel_rfl) (fun _ _ _ h => h) hS6 (by rfl) (by intro w' hSw; obtain ⟨y0, y1, y2⟩ := hSw; go_simp <;> with_reducible rfl) ?_
          simp only [Act.put, List.setIfInBounds_toArray, List.set_cons_zero, List.set_cons_succ]
          refine wpAnyL_done (by kernel_rfl) ?_ _
          have HCm : Hid (Calls Try.prog 26 #[.pointer (some ⟨p, 0, none⟩)] w6 fun r w' => r = .returned (.int .i64 ((j : Int) + 1)) ∧ ∃ q, w' = w6.drewN q) := H6.out.commit
          clear hS hS6 x0 xg xt yt
          go_wp2_with (go_at_call 26; refine Calls.mono HCm.out ?_; rintro r w7 ⟨rfl, q7, rfl⟩)
          go_roundw
          case rel => exact ⟨j + 1, _, by omega, by go_num, by go_num, H6.out.new (below_dn _ _)⟩
          case measure => simp [intOf]; omega
        · have h40I : (40 : Int) ≤ j := by omega
          clear hI
          go_wp2
          go_meet
          exact ⟨j, A, rfl, hj, HI.out⟩
      · clear hI
        go_wp2
        go_meet
        exact ⟨j, A, rfl, hj, HI.out⟩
  case rest =>
    obtain ⟨m, A1, rfl, hm40, hI1⟩ := hcut
    have H1 : Hid (VaI w wc b p A1 g c0 gh c1 ma vv R m) := hI1
    clear hI1 HV
    obtain ⟨t1, ht1⟩ : ∃ t, ticks.tmod 50 = t := ⟨_, rfl⟩
    have hb1 := Int.tmod_lt_of_pos ticks (show (0 : Int) < 50 by decide)
    have hb2 := Int.lt_tmod_of_pos ticks (show (0 : Int) < 50 by decide)
    rw [ht1] at hb1 hb2
    obtain ⟨tn, htn⟩ : ∃ tn : Nat, (t1 + 50) % 50 = tn := ⟨((t1 + 50) % 50).toNat, by omega⟩
    have ht2 : (t1 + 50).tmod 50 = tn := by rw [Int.tmod_eq_emod_of_nonneg (by omega)]; exact htn
    have htb : tn < 50 := by omega
    have hb3 : t1 ≤ 49 := by omega
    have hb4 : -49 ≤ t1 := by omega
    clear hb1 hb2
    go_upto_block 2 with (fail)
    go_cut [12] (fun _ wx => ∃ A, VaI w wx b p A g c0 gh c1 ma vv R m)
    case first =>
      go_wp2
      go_loopw [12] (fun i wr => ∃ (j : Nat) (A : Nd), j ≤ tn ∧ i = .int .i64 j ∧ VaI w wr b p A g c0 gh c1 ma vv R m) (fun i _ => tn - (intOf i).toNat)
      case atStart => exact ⟨0, _, Nat.zero_le _, rfl, H1.out⟩
      case round =>
        obtain ⟨j, A, hj, rfl, hI⟩ := hrel
        have HI : Hid (VaI w wr b p A g c0 gh c1 ma vv R m) := hI
        obtain ⟨x0, xg⟩ := hI.al.cells
        clear hI
        by_cases hlt : j < tn
        · have hjI : (j : Int) < tn := by omega
          go_wp2_with (go_at_call 31; refine HI.out.tick.mono ?_; rintro r w6 ⟨A', rfl, h6⟩; have H6 : Hid (VaI w w6 b p A' g c0 gh c1 ma vv R m) := h6; clear h6)
          go_roundw
          case rel => exact ⟨j + 1, _, by omega, by go_num, H6.out⟩
          case measure => simp [intOf]; omega
        · have hjI : (tn : Int) ≤ j := by omega
          go_wp2
          go_meet
          exact ⟨A, HI.out⟩
    case rest =>
      obtain ⟨A2, hI2⟩ := hcut
      have H2 : Hid (VaI w wc b p A2 g c0 gh c1 ma vv R m) := hI2
      clear hI2 H1 ht1 ht2 htn htb hb3 hb4
      go_upto_region 19 with (first
        | (go_at_call 40; refine H2.out.one.mono ?_; rintro r w7 ⟨rfl, p2, A3, h7, hd7⟩; have H7 : Hid (VaI w w7 b p2 A3 g c0 gh c1 ma vv R m) := h7; have HD7 : Hid (A3.had ≤ A3.last) := hd7; obtain ⟨x0, xg⟩ := h7.al.cells; clear h7 hd7)
        | (go_at_call 26; refine H7.out.commit.mono ?_; rintro r w8 ⟨rfl, q8, rfl⟩)
        | (go_at_call 34; refine (AL3.role (H7.out.al.dn _)).mono ?_; rintro r w9 ⟨rfl, q9, rfl⟩)
        | (go_at_call 35; refine (AL3.ready (H7.out.al.dn _) HD7.out).mono ?_; rintro r w10 ⟨rfl, q10, rfl⟩))
      generalize hV : World.drewN _ _ = V
      have HV : Hid (VaI w V b p2 A3 g c0 gh c1 ma vv R m) := by rw [← hV]; exact H7.out.new (below_dn _ _)
      clear hV x0 xg H7 H2
      go_wp2
      go_loopw [13] (fun i wr => ∃ (j : Nat), j ≤ m ∧ i = .int .i64 j ∧ VaI w wr b p2 A3 g c0 gh c1 ma vv R m) (fun i _ => m - (intOf i).toNat)
      case atStart => exact ⟨0, Nat.zero_le _, rfl, HV.out⟩
      case round =>
        obtain ⟨j, hj, rfl, hI⟩ := hrel
        have HI : Hid (VaI w wr b p2 A3 g c0 gh c1 ma vv R m) := hI
        obtain ⟨x0, xg⟩ := hI.al.cells
        have hle := hI.le
        clear hI
        by_cases hlt : j < m
        · have hjI : (j : Int) < m := by omega
          have hjR : j < R.length := by omega
          have hjRI : (j : Int) < R.length := by omega
          have hj0 : (0 : Int) ≤ j := by omega
          obtain ⟨tb, off, rfl, hcell⟩ := HR.out (by omega)
          have tc := hcell j hjR
          have HEn : Hid (Calls Try.prog 29 #[.pointer (some ⟨p2, 0, none⟩), .int .i64 ((j : Int) + 1)] wr fun r w' => r = .returned (.tuple #[.agg #[.int .i64 0, .string R[j]], .bool true]) ∧ Below wr.heap.size wr w') := HI.out.entry hlt hjR
          generalize R[j] = s at tc HEn
          have HTc : Hid (w.cell? ⟨tb, off + j, none⟩ = some (.string s)) := tc
          clear hcell tc
          go_upto_region 23 with (go_at_call 29; refine Calls.mono HEn.out ?_; rintro r w7 ⟨rfl, hb7⟩; have H7 : Hid (VaI w w7 b p2 A3 g c0 gh c1 ma vv R m) := HI.out.new hb7; clear hb7)
          generalize hW8 : World.alloc _ _ = W8
          have b8 : Below w7.heap.size w7 W8 := by rw [← hW8]; exact vone_new _ _
          have hZ8 : W8.heap[w7.heap.size]? = some (.cells #[.int .i64 0, .string s] 31 (0, 0)) := by rw [← hW8]; exact heap_alloc_new _ _
          have H8 : Hid (VaI w W8 b p2 A3 g c0 gh c1 ma vv R m) := H7.out.new b8
          obtain ⟨q, hq⟩ : ∃ q, w7.heap.size = q := ⟨_, rfl⟩
          rw [hq] at hZ8 ⊢
          have e0 : W8.cell? ⟨q, 0, none⟩ = some (.int .i64 0) := vcell_blk hZ8
          have e1 : W8.cell? ⟨q, 1, none⟩ = some (.string s) := vcell_blk hZ8
          have xt := (H8.out.al.low.cell (p := ⟨tb, off + j, none⟩) (vlt_cell HTc.out)).trans HTc.out
          clear hW8 b8 hZ8 hq
          go_quiet (fail)
          go_wp2
          go_roundw
          case rel => exact ⟨j + 1, by omega, by go_num, H8.out.new (below_dn _ _)⟩
          case measure => simp [intOf]; omega
        · have hjI : (m : Int) ≤ j := by omega
          go_wp2
          go_ret
          exact ⟨rfl, HI.out.al.low⟩
end Go.Proofs.Ytiodepmioglfpaa
