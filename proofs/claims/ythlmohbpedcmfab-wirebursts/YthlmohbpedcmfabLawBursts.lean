/- Proved: for every text s, place and burst, cohortlaw01.WireBursts returns true, and its arguments read as they did. No condition. -/
import Derived.Test.YthlmohbpedcmfabRows
import Derived.Test.YthlmohbpedcmfabAwakeW
import Derived.Test.YthlmohbpedcmfabBurst
import Derived.Lib.ConvBytes
import Derived.Lib.SlBytesRow
import Derived.Deep.RegionWith
import Derived.WalkKit
import Derived.ProofKit
import Derived.OpenShut
import Derived.ShutString
import Derived.ChangeOld
import Derived.Below
namespace Go.Proofs.Ythlmohbpedcmfab
open Go.RowKit

/-- Bytes lie in the row at block g, and may be written. -/
def Brow (w : World) (g : Nat) (l : List UInt8) : Prop := ∀ j (h : j < l.length), w.cell? ⟨g, j, none⟩ = some (.int .u8 (l[j].toNat : Int)) ∧ w.frozen? ⟨g, j, none⟩ = false

theorem xor_bit (b : UInt8) (i : Nat) (hi : i < 8) : (UInt8.ofNat (b.toNat ^^^ 2 ^ i)).toNat = b.toNat ^^^ 2 ^ i ∧ bits .xor .u8 (b.toNat : Int) (2 ^ i % 256) = (((UInt8.ofNat (b.toNat ^^^ 2 ^ i)).toNat : Nat) : Int) := by
  have hb := b.toNat_lt
  have h2 : 2 ^ i < 256 := Nat.lt_of_lt_of_le (Nat.pow_lt_pow_right (by decide) hi) (by decide)
  have hx : b.toNat ^^^ 2 ^ i < 256 := Nat.xor_lt_two_pow (n := 8) hb h2
  have e1 : (UInt8.ofNat (b.toNat ^^^ 2 ^ i)).toNat = b.toNat ^^^ 2 ^ i := by rw [UInt8.toNat_ofNat']; exact Nat.mod_eq_of_lt hx
  refine ⟨e1, ?_⟩
  have e2 : ((2 : Int) ^ i % 256) = ((2 ^ i : Nat) : Int) := by
    have : ((2 ^ i : Nat) : Int) = (2 : Int) ^ i := by simp
    rw [← this]
    exact Int.emod_eq_of_lt (Int.natCast_nonneg _) (Int.ofNat_lt.2 h2)
  rw [e1, e2]
  exact u8_xor_nat b.toNat (2 ^ i) hb h2
theorem Brow.set {w : World} {g : Nat} {l : List UInt8} {j : Nat} {b : UInt8} (h : Brow w g l) (hj : j < l.length) : Brow (w.setCell ⟨g, j, none⟩ (.int .u8 (b.toNat : Int))) g (l.set j b) := by
  intro i hi
  have hi' : i < l.length := by simpa using hi
  refine ⟨?_, by rw [World.frozen?_setCell]; exact (h i hi').2⟩
  by_cases e : i = j
  · subst e
    rw [World.cell?_setCell_same _ _ _ (h i hj).1]; simp
  · rw [World.cell?_setCell_other _ _ _ _ (by intro hh; cases hh; exact e rfl), (h i hi').1, List.getElem_set_ne (by omega)]
theorem brow_start (w : World) (s : ByteArray) : Brow (Lib.bytesWorld w 5 s) w.heap.size s.data.toList := by
  intro j hj
  have hj' : j < s.size := by simpa using hj
  refine ⟨?_, ?_⟩
  · rw [Lib.bytesWorld_cell w 5 s j hj']; simp [List.getD, hj']
  · simp [World.frozen?, Lib.bytesWorld_at_new, Lib.bytesCells]; omega
theorem bytes_below (w : World) (s : ByteArray) : Below w.heap.size w (Lib.bytesWorld w 5 s) :=
  ⟨rfl, rfl, rfl, by rw [Lib.bytesWorld_size]; omega, fun k hk => Lib.bytesWorld_at_old w 5 s k hk⟩
theorem conv_row {W : World} {g : Nat} {l : List UInt8} (h : Brow W g l) (cap : Nat) : (convert 24 9 (.slice (some ⟨g, 0, none⟩) l.length cap)).run Try.prog W = .ok (.string (str l)) W :=
  Lib.run_convert_whole W 24 5 9 Try.underlying24 Try.underlying5 Try.underlying9 g 0 (str l) (fun i hi => by rw [Nat.zero_add]; exact (h i hi).1) cap
theorem Brow.later {w wr w3 : World} {l : List UInt8} (h : Brow wr w.heap.size l) (hw : w.heap.size < wr.heap.size) (hb : Below wr.drew.heap.size wr.drew w3) : Brow w3 w.heap.size l := by
  intro j hj
  have h1 := hb.cell (p := ⟨w.heap.size, j, none⟩) hw
  have h2 := hb.frozen (p := ⟨w.heap.size, j, none⟩) hw
  exact ⟨h1.trans (h j hj).1, h2.trans (h j hj).2⟩
theorem first_bd (N : Nat) (a : Int) (h1 : 1 ≤ N) (h2 : N ≤ 1000) : ∃ f : Nat, (wrap64 (a.tmod (8 * (N : Int)) + 8 * (N : Int))).tmod (8 * (N : Int)) = f ∧ f < 8 * N := by
  have hp : (0 : Int) < 8 * (N : Int) := by omega
  have l1 := Int.tmod_lt_of_pos a hp
  have l2 := Int.lt_tmod_of_pos a hp
  generalize a.tmod (8 * (N : Int)) = r at l1 l2
  rw [IntWalk.wrap64_in (r + 8 * (N : Int)) ⟨by omega, by omega⟩]
  rw [Int.tmod_eq_emod_of_nonneg (by omega)]
  have m1 := Int.emod_nonneg (r + 8 * (N : Int)) (show 8 * (N : Int) ≠ 0 by omega)
  have m2 := Int.emod_lt_of_pos (r + 8 * (N : Int)) hp
  exact ⟨((r + 8 * (N : Int)) % (8 * (N : Int))).toNat, by omega, by omega⟩

set_option maxRecDepth 100000 in
set_option maxHeartbeats 4000000 in
theorem law_bursts (s : ByteArray) (at' : Int) (burst : Int) (w : World) (hs : s.size ≤ maxLen) (_ha0 : -9223372036854775808 ≤ at') (_ha1 : at' ≤ 9223372036854775807) (_hb0 : 0 ≤ burst) (_hb1 : burst ≤ 4294967295) :
    Calls Try.prog 3 #[.string s, .int .i64 at', .int .u32 burst] w fun e w' => e = .returned (.bool true) ∧ Below w.heap.size w w' := by
  unfold maxLen at hs
  by_cases h0 : s.size = 0 ∨ 1000 < s.size
  · rcases h0 with h0 | h0
    · have z : ((s.size : Int) == 0) = true := by rw [beq_iff_eq]; omega
      clear h0
      go_enter Try.func3, Try.ntmps3
      go_wp2_with (go_at_call 4; refine (awake_any _).mono ?_; rintro e w1 ⟨rfl, hb1⟩)
      go_ret
      exact ⟨rfl, hb1⟩
    · have z : ((s.size : Int) == 0) = false := by rw [beq_eq_false_iff_ne]; omega
      go_enter Try.func3, Try.ntmps3
      go_wp2_with (go_at_call 4; refine (awake_any _).mono ?_; rintro e w1 ⟨rfl, hb1⟩)
      go_ret
      exact ⟨rfl, hb1⟩
  · have z : ((s.size : Int) == 0) = false := by rw [beq_eq_false_iff_ne]; omega
    have h1 : 1 ≤ s.size := by omega
    have h2 : s.size ≤ 1000 := by omega
    clear h0
    have hcv := fun w => Lib.run_convert_string_bytes (P := Try.prog) w 9 24 5 s Try.underlying9 Try.underlying24 Try.underlying5
    go_enter Try.func3, Try.ntmps3
    go_wp2
    obtain ⟨f, hf, hfl⟩ := first_bd s.size at' h1 h2
    rw [hf]
    clear hf
    go_loopw [9] (fun i wr => ∃ (k : Nat) (l : List UInt8) (c : Nat), k ≤ 32 ∧ i = .int .i64 k ∧ l.length = s.size ∧ Hid (c < 2 ^ k) ∧ Hid (numL l = numL s.data.toList ^^^ 2 ^ f * c) ∧ Brow wr w.heap.size l ∧ Below w.heap.size w wr) (fun i _ => 32 - (intOf i).toNat)
    case atStart => exact ⟨0, s.data.toList, 0, by omega, rfl, by simp, (by decide : 0 < 2 ^ 0), (by simp : numL s.data.toList = numL s.data.toList ^^^ 2 ^ f * 0), brow_start w s, bytes_below w s⟩
    case round =>
      obtain ⟨k, l, c, hk, rfl, hl, HC, HN, hrow, hbel⟩ := hrel
      by_cases hk32 : k < 32
      · by_cases hp : f + k < 8 * s.size
        · have hj : (f + k) / 8 < l.length := by omega
          have hc := (hrow _ hj).1
          have hfz := (hrow _ hj).2
          cases hbit : (bits .and .u32 (burst / 2 ^ k) 1 == 1) with
          | false =>
            go_wp2
            go_roundw
            case rel => exact ⟨k + 1, l, c, by omega, by go_num, hl, (Nat.lt_of_lt_of_le HC.out (Nat.pow_le_pow_right (by decide) (by omega)) : c < 2 ^ (k + 1)), HN, hrow, hbel⟩
            case measure => simp [intOf]; omega
          | true =>
            go_wp2
            go_roundw
            case rel =>
              have hv := xor_bit l[(f + k) / 8] ((f + k) % 8) (Nat.mod_lt _ (by decide))
              have hbit := pow_bit f HC.out
              refine ⟨k + 1, l.set ((f + k) / 8) (UInt8.ofNat (l[(f + k) / 8].toNat ^^^ 2 ^ ((f + k) % 8))), c + 2 ^ k, by omega, by go_num, by simp [hl], hbit.2, ?_, ?_, hbel.setCell (Nat.le_refl _) _⟩
              · show numL _ = _
                rw [numL_set l ((f + k) / 8) ((f + k) % 8) _ hj (Nat.mod_lt _ (by decide)) hv.1, HN.out, Nat.xor_assoc, Nat.div_add_mod, hbit.1]
              · rw [hv.2]
                exact hrow.set hj
            case measure => simp [intOf]; omega
        · go_wp2
          go_roundw
          case rel => exact ⟨k + 1, l, c, by omega, by go_num, hl, (Nat.lt_of_lt_of_le HC.out (Nat.pow_le_pow_right (by decide) (by omega)) : c < 2 ^ (k + 1)), HN, hrow, hbel⟩
          case measure => simp [intOf]; omega
      · obtain rfl : k = 32 := by omega
        have hun : crcN s.data.toList = crcN l ↔ s.data.toList = l := burst_unlike (by simp [hl]) (by simp; omega) HC.out HN.out
        have hlt : w.heap.size < wr.heap.size := World.block_lt_of_cell? _ _ (hrow 0 (by omega)).1
        obtain ⟨T, HT⟩ : ∃ T, Hid (str l = T) := ⟨_, rfl⟩
        have hS1 := fun w => sum_any s w (by unfold maxLen; omega)
        have hS2 := fun w => sum_any T w (by rw [← HT.out]; show l.length ≤ maxLen; unfold maxLen; omega)
        rw [show T.data.toList = l by rw [← HT.out]; rfl] at hS2
        have hcl : ∀ W, Brow W w.heap.size l → ∀ cap, (convert 24 9 (.slice (some ⟨w.heap.size, 0, none⟩) s.size cap)).run Try.prog W = .ok (.string T) W := by
          intro W hW cap
          rw [← HT.out, ← hl]
          exact conv_row hW cap
        have HCL : Hid _ := hcl
        have e12 : (((crcN s.data.toList : Nat) : Int) == ((crcN l : Nat) : Int)) = (s.toList == T.toList) := by
          rw [Bool.eq_iff_iff, beq_iff_eq, beq_iff_eq, ByteArray.toList_eq, ByteArray.toList_eq, show T.data.toList = l by rw [← HT.out]; rfl, ← hun]
          omega
        generalize crcN s.data.toList = A at hS1 e12
        generalize crcN l = B at hS2 e12
        clear hcl hun
        go_wp2
        obtain ⟨q, e2⟩ : ∃ q, (s.toList == T.toList) = q := ⟨_, rfl⟩
        rw [e2] at e12
        clear hcv HC HN HT hl z h1 h2 hfl hs _ha0 _ha1 _hb0 _hb1
        first | go_region_with (first | (go_at_call 4; refine (awake_any _).mono ?_; rintro e w3 ⟨rfl, hb3⟩; have hcv3 := HCL.out w3 (hrow.later hlt hb3)) | (go_at_call_of 5 s; refine (hS1 _).mono ?_; rintro e w4 ⟨rfl, rfl⟩) | (go_at_call_of 5 T; refine (hS2 _).mono ?_; rintro e w4 ⟨rfl, rfl⟩)) | skip
        all_goals
          go_wp2
          go_ret
          exact ⟨rfl, hbel.drew.trans (hb3.mono hbel.size)⟩
end Go.Proofs.Ythlmohbpedcmfab
