/- Clones of rows of texts; the frames of texts, one behind the other. -/
import Derived.Test.YtdapapnkmicklaaWlF1
import Derived.Test.YtdapapnkmicklaaWlBld
namespace Go.Proofs.Ytdapapnkmicklaa
open Go.RowKit Go.Maps
attribute [local go_sem] Oper.semAt_some
theorem clone_txt {w : World} {v : Value} {R : List Bs} (h : TxS w v R) (hl : R.length ≤ 1000000) : Calls Try.prog 45 #[v] w fun r w' => ∃ v', r = .returned v' ∧ TxO w' w.heap.size v' R ∧ Below w.heap.size w w' := by
  obtain ⟨ao, cap, rfl, h1, h2⟩ := h
  by_cases h0 : 0 < R.length
  · obtain ⟨b, off, rfl, h3⟩ := h2 h0
    refine (AnyG.slices_Clone_string layCloneS b off R.length cap (R.map str) w (by simp) (by omega) (fun j hj => ?_)).mono ?_
    · rw [List.length_map] at hj
      rw [h3 j hj]
      simp [List.getD, hj]
    · rintro r w' ⟨v', rfl, h4, _, h5⟩
      refine ⟨v', rfl, TxO.ofRow ?_, h5⟩
      have e : ((R.map str).take R.length).map Value.string = txc R := by
        rw [List.take_of_length_le (by simp), List.map_map]
        rfl
      rw [e] at h4
      exact h4
  · have e0 : R = [] := List.length_eq_zero_iff.1 (by omega)
    subst e0
    cases ao with
    | none =>
      refine (AnyG.slices_Clone_string_nil layCloneS 0 cap w).mono ?_
      rintro r w' ⟨rfl, rfl⟩
      exact ⟨_, rfl, TxO.nil _ _, Below.refl _ _⟩
    | some a =>
      refine (AnyG.slices_Clone_string_zero layCloneS a cap w).mono ?_
      rintro r w' ⟨v', rfl, h4, _, h5⟩
      exact ⟨v', rfl, TxO.ofRow h4, h5⟩
theorem bld_kept1 {w w' : World} {B b : Nat} {p : Value} {bs : List Value} (h : Lib.BuilderAt 132 5 B b p bs w) (hb : Below w.heap.size w w') : Lib.BuilderAt 132 5 B b p bs w' := by
  obtain ⟨h1, v, h2, h3, h4⟩ := h
  exact ⟨h1, v, (hb.block b (lt_blk h2)).trans h2, row_keep h3 (Fr.ofBelow hb (fun _ => False)) (fun _ _ h => h), h4⟩
theorem bld_kept {w w' : World} {B b : Nat} {bs : List Value} (h : Lib.IsBuilder 132 5 B b bs w) (hb : Below w.heap.size w w') : Lib.IsBuilder 132 5 B b bs w' := h.elim (fun h => .inl (bld_kept1 h hb)) (fun h => .inr (bld_kept1 h hb))
theorem frs_take (R : List Bs) (k : Nat) (h : k < R.length) : frs (R.take (k + 1)) = frs (R.take k) ++ frameB R[k] := by
  rw [List.take_succ_eq_append_getElem h, frs_append, frs_one]
theorem frs_le (R : List Bs) (k : Nat) : (frs (R.take k)).length ≤ (frs R).length := by
  have h := congrArg List.length (congrArg frs (List.take_append_drop k R))
  rw [frs_append, List.length_append] at h
  omega
set_option maxRecDepth 100000 in
set_option maxHeartbeats 1600000 in
theorem frameAll_any {w : World} {v : Value} {R : List Bs} (h : TxS w v R) (hl : (frs R).length ≤ 1000000) : Calls Try.prog 47 #[v] w fun r w' => r = .returned (.string (str (frs R))) ∧ Below w.heap.size w w' := by
  obtain ⟨ao, cap, rfl, h1, h2⟩ := h
  have hR : R.length ≤ 1000000 := by have := len_frs R; omega
  have HR : Hid (0 < R.length → ∃ b off, ao = some ⟨b, off, none⟩ ∧ ∀ j (h : j < R.length), w.cell? ⟨b, off + j, none⟩ = some (.string (str R[j]))) := h2
  have HL : Hid ((frs R).length ≤ 1000000) := hl
  have HB0 : Hid (Below w.heap.size w (w.alloc (.cells #[.pointer none, .slice none 0 0] 132))) := one_newD _ _
  have HI0 : Hid (Lib.IsBuilder 132 5 w.heap.size w.heap.size (Lib.byteCells (frs (R.take 0))) (w.alloc (.cells #[.pointer none, .slice none 0 0] 132))) := Lib.fresh_isBuilder _ _ w
  clear h2 hl
  obtain ⟨n0, hn0⟩ : ∃ n0, R.length = n0 := ⟨_, rfl⟩
  have HN0 : Hid (R.length = n0) := hn0
  rw [hn0] at h1 hR ⊢
  clear hn0
  go_enter Try.func47, Try.ntmps47
  go_wp2
  go_loopw [5, 8] (fun _ i wr => ∃ k : Nat, k ≤ n0 ∧ i = .int .i64 k ∧ Hid (Lib.IsBuilder 132 5 w.heap.size w.heap.size (Lib.byteCells (frs (R.take k))) wr) ∧ Hid (Below w.heap.size w wr)) (fun _ i _ => n0 - (intOf i).toNat)
  case atStart => exact ⟨0, Nat.zero_le _, rfl, HI0, HB0⟩
  case round =>
    obtain ⟨k, hk, rfl, HI, HB⟩ := hrel
    by_cases hlt : k < n0
    · have hkl : k < R.length := by have := HN0.out; omega
      obtain ⟨b, off, rfl, hcs⟩ := HR.out (by omega)
      have z0 := (HB.out.cell (p := ⟨b, off + k, none⟩) (lt_cellD (hcs k hkl))).trans (hcs k hkl)
      have HY : Hid (frs (R.take (k + 1)) = frs (R.take k) ++ frameB R[k]) := frs_take R k hkl
      have HZ : Hid ((frs (R.take (k + 1))).length ≤ 1000000) := Nat.le_trans (frs_le R (k + 1)) HL.out
      have HX : Hid (R[k].length ≤ 1000000) := by
        have h3 := HZ.out
        rw [HY.out, List.length_append] at h3
        have h4 := frameB_pos R[k]
        show _ ≤ _
        omega
      have HF : Hid (∀ W, Calls Try.prog 71 #[.string (str R[k])] W fun e w' => e = .returned (.string (str (frameB R[k]))) ∧ Below W.heap.size W w') := fun W => frame_any (str R[k]) W (by have h3 := HX.out; rw [str_size]; omega)
      have HLt : Hid (k < n0) := hlt
      have HI2 : Hid (∀ W, Below wr.heap.size wr W → Calls Try.prog 75 #[.pointer (some ⟨w.heap.size, 0, none⟩), .string (str (frameB R[k]))] W fun e w' => e = .returned (.tuple #[.int .i64 (str (frameB R[k])).size, .nilIface]) ∧ (Lib.BuilderAt 132 5 w.heap.size w.heap.size (.pointer (some ⟨w.heap.size, 0, none⟩)) (Lib.byteCells (frs (R.take (k + 1)))) w' ∧ Below w.heap.size W w')) := fun W hW => by
        have h6 := writeString_any w.heap.size w.heap.size (Lib.byteCells (frs (R.take k))) (str (frameB R[k])) W (bld_kept HI.out hW) (by
          have h3 := HZ.out
          rw [HY.out, List.length_append] at h3
          rw [Lib.byteCells_length, str_size]
          omega) (Nat.le_trans HB.out.size hW.size)
        rw [HY.out, Lib.byteCells_append]
        rw [Lib.strCells_eq, str_list] at h6
        exact h6
      clear hcs HX HY
      generalize R[k] = y at z0 HF HI2
      clear hkl
      go_wp2_with (first
        | (go_at_call 71; refine (HF.out _).mono ?_; rintro r w1 ⟨rfl, hb⟩; have HB1 : Hid (Below wr.heap.size wr w1) := hb; clear hb)
        | (go_at_call 75; refine (HI2.out _ HB1.out).mono ?_; rintro r w2 ⟨rfl, hi, hb⟩; have HI3 : Hid (Lib.IsBuilder 132 5 w.heap.size w.heap.size (Lib.byteCells (frs (R.take (k + 1)))) w2) := .inr hi; have HB2 : Hid (Below w.heap.size w1 w2) := hb; clear hi hb))
      refine ⟨⟨k + 1, HLt.out, by go_num, HI3, (HB.out.trans (HB1.out.mono HB.out.size)).trans HB2.out⟩, by have := HLt.out; simp [intOf]; omega⟩
    · obtain rfl : k = n0 := by omega
      have hS := bstring_any w.heap.size w.heap.size (frs (R.take k)) wr HI.out HB.out.size
      have HE : Hid (frs (R.take k) = frs R) := by
        show _ = _
        rw [List.take_of_length_le (by have := HN0.out; omega)]
      go_wp2_with (go_at_call 76; refine hS.mono ?_; rintro r w1 ⟨rfl, hb⟩; have HB1 : Hid _ := hb; clear hb)
      go_ret
      rw [HE.out]
      exact ⟨rfl, HB.out.trans HB1.out⟩
end Go.Proofs.Ytdapapnkmicklaa
