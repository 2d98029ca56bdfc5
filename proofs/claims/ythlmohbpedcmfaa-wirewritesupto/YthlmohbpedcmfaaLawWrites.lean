/- The walk of cohortlaw01.WireWrites: it returns true where all that is put has room. -/
import Derived.Test.YthlmohbpedcmfaaAwakeW
import Derived.Test.YthlmohbpedcmfaaWriteMath
import Derived.Deep.DeepCutAuto
namespace Go.Proofs.Ythlmohbpedcmfaa
open Go.RowKit
theorem rnumber_to {w : World} {p : Nat} {s : ByteArray} {a n a' : Nat} {e e' : Int} (h : Rd w p s a e) (hs : s.size ≤ maxLen) (ha : a ≤ s.size) (hq : rdNum s a e = (n, a', e')) :
    Calls Try.prog 32 #[.pointer (some ⟨p, 0, none⟩)] w fun r w' => r = .returned (.int .u64 n) ∧ Rd w' p s a' e' ∧ Fr w w' (fun k => k = p) := by
  have := rnumber_any h hs ha; rw [hq] at this; exact this
theorem rsigned_to {w : World} {p : Nat} {s : ByteArray} {a n a' : Nat} {e e' z : Int} (h : Rd w p s a e) (hs : s.size ≤ maxLen) (ha : a ≤ s.size) (hq : rdNum s a e = (n, a', e')) (hz : unfoldN n = z) :
    Calls Try.prog 33 #[.pointer (some ⟨p, 0, none⟩)] w fun r w' => r = .returned (.int .i64 z) ∧ Rd w' p s a' e' ∧ Fr w w' (fun k => k = p) := by
  have := rsigned_any h hs ha; rw [hq, hz] at this; exact this
theorem rbool_to {w : World} {p : Nat} {s : ByteArray} {a a' : Nat} {b : Bool} {e e' : Int} (h : Rd w p s a e) (hs : s.size ≤ maxLen) (ha : a ≤ s.size) (hq : rdBool s a e = (b, a', e')) :
    Calls Try.prog 35 #[.pointer (some ⟨p, 0, none⟩)] w fun r w' => r = .returned (.bool b) ∧ Rd w' p s a' e' ∧ Fr w w' (fun k => k = p) := by
  have := rbool_any h hs ha; rw [hq] at this; exact this
theorem Rd.drewd' {w : World} {p : Nat} {s : ByteArray} {a e : Int} (h : Rd w p s a e) : Rd w.drew p s a e := h
theorem Wr.below {w w' : World} {base p : Nat} {v : Value} {l : List UInt8} (h : Wr w base p v l) (f : Fr w w' (fun k => k = p ∨ v.ownBlock = some k)) {B : Nat} (h1 : B ≤ p) (h2 : B ≤ base) : Below B w w' :=
  f.below (Nat.le_trans h1 (Nat.le_of_lt h.lt)) (fun k hk => by
    rcases hk with rfl | hk
    · exact h1
    · exact Nat.le_trans h2 (h.own.lt k hk).1)

/-- Behind one taking of the reader at q: the writer stands, and what was there before. -/
theorem wend {w wx w5 : World} {base p q : Nat} {v : Value} {l : List UInt8} (h : Wr wx base p v l) (hf : Fr wx.drew w5 (fun k => k = q)) (hpq : p < q) (hv : ∀ k, v.ownBlock = some k → k < q) (hb : Below p w wx) : Wr w5 base p v l ∧ Below p w w5 := by
  have f : Fr wx w5 (fun k => k = q) := (Fr.drew wx _).trans hf (fun _ _ h => h)
  exact ⟨h.kept f (by omega) (fun k hk => by have := hv k hk; omega), hb.trans (f.below (Nat.le_of_lt h.lt) (fun k hk => by omega))⟩
theorem later3 {w wx w5 : World} {b o q : Nat} {u : Value} (hbb : b < w.heap.size) (hf : Fr wx.drew w5 (fun k => k = q)) (hpq : w.heap.size < q) (hb : Below w.heap.size w wx) (h : wx.cell? ⟨b, o, none⟩ = some u) : w5.cell? ⟨b, o, none⟩ = some u :=
  (World.cell?_of_block (w := wx) (hf.block b (Nat.lt_of_lt_of_le hbb hb.size) (by omega))).trans h

set_option maxRecDepth 100000 in
set_option maxHeartbeats 8000000 in
theorem law_writes (b off cap : Nat) (L : List ActV) (w : World) (hL : roomL L ≤ 140737488355328) (hact : Acts w b off L) (hok : ∀ y ∈ L, y.ok) :
    Calls Try.prog 6 #[.slice (some ⟨b, off, none⟩) L.length cap] w fun e w' => e = .returned (.bool true) ∧ Below w.heap.size w w' := by
  have hlen : L.length ≤ 140737488355328 := Nat.le_trans (room_len L) hL
  go_enter Try.func6, Try.ntmps6
  go_wp2_with (first
    | (go_at_call 27; refine (newwriter_any _).mono ?_; rintro e w1 ⟨rfl, hw1, hb1⟩)
    | (go_at_call 9; refine (awake_any _).mono ?_; rintro e w2 ⟨rfl, hb2⟩))
  have hb12 : Below w.heap.size w w2 := hb1.trans (hb2.mono hb1.size)
  have hw2 := hw1.kept (Fr.ofBelow hb2 (fun _ => False)) (fun h => h) (fun _ _ h => h)
  go_loopw [4, 5] (fun c i wr => ∃ (k : Nat) (v : Value), k ≤ L.length ∧ i = .int .i64 k ∧ c = .string (str (outB (L.take k))) ∧ Wr wr (w.heap.size + 1) w.heap.size v (outB (L.take k)) ∧ Below w.heap.size w wr) (fun _ i _ => L.length - (intOf i).toNat)
  case atStart => exact ⟨0, _, Nat.zero_le _, rfl, rfl, hw2, hb12⟩
  case round =>
    obtain ⟨k, v, hk, rfl, rfl, hw, hbel⟩ := hrel
    by_cases hlt : k < L.length
    · obtain ⟨t0, t1, t2, t3⟩ := hact k hlt
      have hbb : b < w.heap.size := World.block_lt_of_cell? _ _ t0
      have t0' := (hbel.cell (p := ⟨b, off + k * 4, none⟩) hbb).trans t0
      have t1' := (hbel.cell (p := ⟨b, off + k * 4 + 1, none⟩) hbb).trans t1
      have t2' := (hbel.cell (p := ⟨b, off + k * 4 + 2, none⟩) hbb).trans t2
      have t3' := (hbel.cell (p := ⟨b, off + k * 4 + 3, none⟩) hbb).trans t3
      have hP := put_any L[k] hw (hok _ (List.getElem_mem hlt)) (room_put hok hL k hlt)
      have HO : Hid (outB (L.take (k + 1)) = outB (L.take k) ++ actB L[k]) := outB_snoc L k hlt
      have hbd : (outB (L.take k)).length + (actB L[k]).length ≤ 140737488355328 := by rw [← List.length_append, ← outB_snoc L k hlt]; exact out_take_len hok hL _
      have HS : Hid (str (outB (L.take k)) ++ str (actB L[k]) = str (outB (L.take k) ++ actB L[k])) := str_append _ _
      have s1 : (str (outB (L.take k))).size = (outB (L.take k)).length := rfl
      have s2 : (str (actB L[k])).size = (actB L[k]).length := rfl
      generalize L[k] = y at t0' t1' t2' t3' hP HO hbd HS s2
      clear t0 t1 t2 t3
      go_wp2_with (first
        | (go_at_call 28; refine hP.mono ?_; rintro r w3 ⟨rfl, v3, hw3, hf3, hr3⟩)
        | (go_at_call 29; refine (wlen_any hw3).mono ?_; rintro r w4 ⟨rfl, rfl⟩))
      go_roundw
      case rel => exact ⟨k + 1, v3, by omega, by go_num, by rw [HO.out, HS.out], by rw [HO.out]; exact hw3, hbel.trans (hw.below hf3 (Nat.le_refl _) (by omega))⟩
      case measure => simp [intOf]; omega
    · obtain rfl : k = L.length := by omega
      rw [List.take_length] at hw ⊢
      have hO := out_len hok hL
      have HSZ : Hid ((str (outB L)).size ≤ maxLen) := by show (outB L).length ≤ maxLen; unfold maxLen; omega
      have hpl := hw.lt
      have hvl := hw.own_lt
      go_wp2_with (first
        | (go_at_call 30; refine (wall_any hw).mono ?_; rintro r w3 ⟨rfl, rfl⟩)
        | (go_at_call 22; refine (newreader_any _ _).mono ?_; rintro r w4 ⟨rfl, hr4, hb4⟩))
      have hw4 := hw.kept (Fr.ofBelow hb4 (fun _ => False)) (fun h => h) (fun _ _ h => h)
      go_loopw [7, 8] (fun i _ wx => ∃ (k : Nat), k ≤ L.length ∧ i = .int .i64 k ∧ Rd wx w3.heap.size (str (outB L)) (outB (L.take k)).length 0 ∧ Wr wx (w.heap.size + 1) w.heap.size v (outB L) ∧ Below w.heap.size w wx) (fun i _ _ => L.length - (intOf i).toNat)
      case atStart => exact ⟨0, Nat.zero_le _, rfl, hr4, hw4, hbel.trans (hb4.mono hbel.size)⟩
      case round =>
        obtain ⟨k, hk2, rfl, hr, hwx, hbx⟩ := hrel
        by_cases hlt2 : k < L.length
        · obtain ⟨t0, t1, t2, t3⟩ := hact k hlt2
          have hbb : b < w.heap.size := World.block_lt_of_cell? _ _ t0
          have t0' := (hbx.cell (p := ⟨b, off + k * 4, none⟩) hbb).trans t0
          have t1' := (hbx.cell (p := ⟨b, off + k * 4 + 1, none⟩) hbb).trans t1
          have t2' := (hbx.cell (p := ⟨b, off + k * 4 + 2, none⟩) hbb).trans t2
          have t3' := (hbx.cell (p := ⟨b, off + k * 4 + 3, none⟩) hbb).trans t3
          have hoy := hok _ (List.getElem_mem hlt2)
          have hts := Nat.le_trans (room_mem (List.getElem_mem hlt2)) hL
          have HO : Hid (outB (L.take (k + 1)) = outB (L.take k) ++ actB L[k]) := outB_snoc L k hlt2
          have HD : Hid ((str (outB L)).data.toList = outB (L.take k) ++ (actB L[k] ++ outB (L.drop (k + 1)))) := outB_split L k hlt2
          generalize L[k] = y at t0' t1' t2' t3' HO HD hoy hts
          generalize outB (L.drop (k + 1)) = C at HD
          have HA : Hid ((outB (L.take k)).length ≤ (str (outB L)).size) := by show _ ≤ _; rw [size_out HD.out]; omega
          generalize str (outB L) = S at hr HD HSZ HA
          have hpq : w.heap.size < w3.heap.size := hpl
          obtain ⟨hy0, hy1, hy2, hy3, hy4, hy5, _⟩ := hoy
          have HLN : Hid ((outB (L.take (k + 1))).length = (outB (L.take k)).length + (actB y).length) := by show _ = _; rw [HO.out, List.length_append]
          clear t0 t1 t2 t3
          rcases (show y.k = 0 ∨ y.k = 1 ∨ y.k = 2 ∨ y.k = 3 ∨ y.k = 4 ∨ ¬ (0 ≤ y.k ∧ y.k ≤ 4) from by omega) with hk | hk | hk | hk | hk | hk
          · rw [hk] at t0'
            have hD := HD.out
            rw [actB0 hk] at hD
            have HB : Hid (actB y = _) := actB0 hk
            have hq := bytes_out hD
            rw [show (outB (L.take k)).length + y.t.size = (outB (L.take (k + 1))).length by rw [HLN.out, HB.out]; simp] at hq
            have HQ : Hid (rdBytes S (outB (L.take k)).length 0 (y.t.size : Int) = (y.t, (outB (L.take (k + 1))).length, 0)) := hq
            clear hq hD hk hy0 hy1
            go_wp2
            first | go_region_with (first | (go_at_call 31; refine (rbytes_eq hr.drewd' HSZ.out HA.out HQ.out).mono ?_; rintro r w5 ⟨rfl, hr5, hf5⟩; have u3 := later3 hbb hf5 hpq hbx t3')) | skip
            all_goals
              have hwe := wend hwx hf5 hpq hvl hbx
              go_wp2
              go_roundw
              case rel => exact ⟨k + 1, by omega, by go_num, hr5, hwe.1, hwe.2⟩
              case measure => simp [intOf]; omega
          · rw [hk] at t0'
            have hD := HD.out
            rw [actB1 hk] at hD
            have HB : Hid (actB y = _) := actB1 hk
            have hq := num_out hD (by omega)
            rw [show (outB (L.take k)).length + (numB y.x.toNat).length = (outB (L.take (k + 1))).length by rw [HLN.out, HB.out]] at hq
            have HQ : Hid (rdNum S (outB (L.take k)).length 0 = (y.x.toNat, (outB (L.take (k + 1))).length, 0)) := hq
            have hxx : ((y.x.toNat : Nat) : Int) = y.x := by omega
            clear hq hD hk hy0 hy1
            go_wp2
            first | go_region_with (first | (go_at_call 32; refine (rnumber_to hr.drewd' HSZ.out HA.out HQ.out).mono ?_; rintro r w5 ⟨rfl, hr5, hf5⟩; have u2 := later3 hbb hf5 hpq hbx t2')) | skip
            all_goals
              have hwe := wend hwx hf5 hpq hvl hbx
              go_wp2
              go_roundw
              case rel => exact ⟨k + 1, by omega, by go_num, hr5, hwe.1, hwe.2⟩
              case measure => simp [intOf]; omega
          · rw [hk] at t0'
            have hD := HD.out
            rw [actB2 hk] at hD
            have HB : Hid (actB y = _) := actB2 hk
            have hw64 : -9223372036854775808 ≤ wrap64 y.x ∧ wrap64 y.x ≤ 9223372036854775807 := by unfold wrap64; omega
            have hfb := fold_bd _ hw64.1 hw64.2
            have hq := num_out hD (by omega)
            rw [show (outB (L.take k)).length + (numB (foldN (wrap64 y.x)).toNat).length = (outB (L.take (k + 1))).length by rw [HLN.out, HB.out]] at hq
            have HQ : Hid (rdNum S (outB (L.take k)).length 0 = ((foldN (wrap64 y.x)).toNat, (outB (L.take (k + 1))).length, 0)) := hq
            have HZ : Hid (unfoldN (((foldN (wrap64 y.x)).toNat : Nat) : Int) = wrap64 y.x) := by show _ = _; rw [Int.toNat_of_nonneg hfb.1, unfold_fold]
            clear hq hD hk hy0 hy1 hw64 hfb
            go_wp2
            first | go_region_with (first | (go_at_call 33; refine (rsigned_to hr.drewd' HSZ.out HA.out HQ.out HZ.out).mono ?_; rintro r w5 ⟨rfl, hr5, hf5⟩; have u2 := later3 hbb hf5 hpq hbx t2')) | skip
            all_goals
              have hwe := wend hwx hf5 hpq hvl hbx
              go_wp2
              go_roundw
              case rel => exact ⟨k + 1, by omega, by go_num, hr5, hwe.1, hwe.2⟩
              case measure => simp [intOf]; omega
          · rw [hk] at t0'
            have hD := HD.out
            rw [actB3 hk] at hD
            have HB : Hid (actB y = _) := actB3 hk
            have hq := num_out hD (by omega)
            rw [show (outB (L.take k)).length + (numB y.n.toNat).length = (outB (L.take (k + 1))).length by rw [HLN.out, HB.out]] at hq
            have HQ : Hid (rdNum S (outB (L.take k)).length 0 = (y.n.toNat, (outB (L.take (k + 1))).length, 0)) := hq
            obtain ⟨m, hm, HM, hmb⟩ : ∃ m : Nat, max y.n 0 = m ∧ Hid (y.n.toNat = m) ∧ (m : Int) ≤ 9223372036854775807 := ⟨y.n.toNat, by omega, rfl, by omega⟩
            have hF := fun w => reffold_any (m : Int) w (by omega) (by omega)
            have HF : Hid (foldN (m : Int) = 2 * (m : Int)) := by show _ = _; unfold foldN; rw [if_neg (by omega)]
            simp only [HF.out] at hF
            have HQ2 : Hid (rdNum S (outB (L.take k)).length 0 = (m, (outB (L.take (k + 1))).length, 0)) := by show _ = _; rw [← HM.out]; exact HQ.out
            have hdv : 2 * (m : Int) / 2 = m := by omega
            clear hq hD hk hy0 hy1 HQ
            go_wp2
            first | go_region_with (first | (go_at_call 32; refine (rnumber_to hr.drewd' HSZ.out HA.out HQ2.out).mono ?_; rintro r w5 ⟨rfl, hr5, hf5⟩; have u1 := later3 hbb hf5 hpq hbx t1') | (go_at_call 13; refine (hF _).mono ?_; rintro r w6 ⟨rfl, rfl⟩)) | skip
            all_goals
              have hwe := wend hwx hf5 hpq hvl hbx
              go_wp2
              go_roundw
              case rel => exact ⟨k + 1, by omega, by go_num, hr5, hwe.1, hwe.2⟩
              case measure => simp [intOf]; omega
          · rw [hk] at t0'
            have hD := HD.out
            rw [actB4 hk] at hD
            have HB : Hid (actB y = _) := actB4 hk
            have hq := text_out hD (by omega)
            rw [show (outB (L.take k)).length + (textB y.t.data.toList).length = (outB (L.take (k + 1))).length by rw [HLN.out, HB.out]] at hq
            have HQ : Hid (rdText S (outB (L.take k)).length 0 = (y.t, (outB (L.take (k + 1))).length, 0)) := hq
            clear hq hD hk hy0 hy1
            go_wp2
            first | go_region_with (first | (go_at_call 34; refine (rtext_eq hr.drewd' HSZ.out HA.out HQ.out).mono ?_; rintro r w5 ⟨rfl, hr5, hf5⟩; have u3 := later3 hbb hf5 hpq hbx t3')) | skip
            all_goals
              have hwe := wend hwx hf5 hpq hvl hbx
              go_wp2
              go_roundw
              case rel => exact ⟨k + 1, by omega, by go_num, hr5, hwe.1, hwe.2⟩
              case measure => simp [intOf]; omega
          · have e0 : (y.k == 0) = false := by rw [beq_eq_false_iff_ne]; omega
            have e1 : (y.k == 1) = false := by rw [beq_eq_false_iff_ne]; omega
            have e2 : (y.k == 2) = false := by rw [beq_eq_false_iff_ne]; omega
            have e3 : (y.k == 3) = false := by rw [beq_eq_false_iff_ne]; omega
            have e4 : (y.k == 4) = false := by rw [beq_eq_false_iff_ne]; omega
            have hD := HD.out
            rw [actB5 hk] at hD
            have HB : Hid (actB y = _) := actB5 hk
            have hq := bool_out hD (by omega)
            rw [show (outB (L.take k)).length + (numB (y.x % 2).toNat).length = (outB (L.take (k + 1))).length by rw [HLN.out, HB.out]] at hq
            have HQ : Hid (rdBool S (outB (L.take k)).length 0 = (((y.x % 2).toNat == 1), (outB (L.take (k + 1))).length, 0)) := hq
            have hbe : ((y.x % 2).toNat == 1) = (y.x % 2 == 1) := by rw [Bool.eq_iff_iff, beq_iff_eq, beq_iff_eq]; omega
            rw [hbe] at hq
            have HQ2 : Hid (rdBool S (outB (L.take k)).length 0 = ((y.x % 2 == 1), (outB (L.take (k + 1))).length, 0)) := hq
            clear hq hD hk hy0 hy1 HQ hbe
            go_wp2
            first | go_region_with (first | (go_at_call 35; refine (rbool_to hr.drewd' HSZ.out HA.out HQ2.out).mono ?_; rintro r w5 ⟨rfl, hr5, hf5⟩; have u2 := later3 hbb hf5 hpq hbx t2')) | skip
            all_goals
              have hwe := wend hwx hf5 hpq hvl hbx
              go_wp2
              go_roundw
              case rel => exact ⟨k + 1, by omega, by go_num, hr5, hwe.1, hwe.2⟩
              case measure => simp [intOf]; omega
        · obtain rfl : k = L.length := by omega
          rw [List.take_length] at hr
          have hEnd := rend_any hr HSZ.out (Nat.le_refl _)
          rw [rdEnd_ge 0 (by show ¬ (outB L).length < (outB L).length; omega)] at hEnd
          go_wp2_with (first
            | (go_at_call 30; refine (wall_any hwx).mono ?_; rintro r w5 ⟨rfl, rfl⟩)
            | (go_at_call 36; refine hEnd.mono ?_; rintro r w6 ⟨rfl, hr6, hf6⟩))
          go_ret
          exact ⟨rfl, hbx.trans (hf6.below hbx.size (fun i hi => by omega))⟩
end Go.Proofs.Ythlmohbpedcmfaa
