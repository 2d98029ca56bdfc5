import Derived.Test.YtidghoipmggklaaGreatProg
import Derived.Test.YtidghoipmggklaaGreatNumM
import Derived.WalkKit
import Derived.WalkSpells
import Derived.WalkLawsBesides
/- What Number returns: the number's bytes, in the program and in the document's words. -/
namespace Go.Proofs.YtidghoipmggklaaGreat
open Go.RowKit
theorem Tryz.infoB : (Tryz.prog.info? 5).map (fun i => (i.zero, i.size, i.bytes)) = some (some (.int .u8 0), 1, 1) := by kernel_rfl

theorem or128 (m : Nat) : bits .or .u8 ((m : Int) % 256) 128 = (((UInt8.ofNat (m % 128 + 128)).toNat : Nat) : Int) := by
  have e : ((m : Int) % 256) = ((m % 256 : Nat) : Int) := by omega
  have h := u8_or_nat (m % 256) 128 (by omega) (by decide)
  rw [e]
  refine h.trans ?_
  have : m % 256 ||| 128 = m % 128 + 128 := by
    have a : m % 256 = m % 128 ∨ m % 256 = 128 ||| m % 128 := by
      have h2 : 128 ||| m % 128 = 128 + m % 128 := nat_join 7 128 (m % 128) (by decide) (by omega)
      omega
    rcases a with a | a
    · rw [a, Nat.or_comm, nat_join 7 128 (m % 128) (by decide) (by omega)]; omega
    · rw [a, Nat.or_comm, ← Nat.or_assoc, Nat.or_self, nat_join 7 128 (m % 128) (by decide) (by omega)]; omega
  rw [this, UInt8.toNat_ofNat']; congr 1; omega

set_option maxRecDepth 100000 in
set_option maxHeartbeats 400000 in
theorem append_number (base : Nat) (v : Value) (xs : List UInt8) (n : Nat) (w : World) (hn : n < 18446744073709551616) (hown : w.ownsRow base 5 1 v xs.length (bc xs)) (hbase : base ≤ w.heap.size)
    (hroom : xs.length + 10 ≤ 140737488355328) :
    Calls Tryz.prog 168 #[v, .int .u64 n] w fun e w' => ∃ v', e = .returned v' ∧ w'.ownsRow base 5 1 v' (xs ++ numB n).length (bc (xs ++ numB n)) ∧ Fr w w' (fun k => v.ownBlock = some k) ∧ Row w v v' := by
  obtain ⟨i0, hi, hz0, hz1, hz2⟩ := info_parts Tryz.infoB
  have hl10 := numB_len10 hn
  go_enter Tryz.func168, Tryz.ntmps168
  go_wp2
  go_loopw [0, 1] (fun u x wr => ∃ (pre : List UInt8) (m : Nat), x = .int .u64 m ∧ m < 18446744073709551616 ∧ pre ++ numB m = numB n ∧ wr.ownsRow base 5 1 u (xs ++ pre).length (bc (xs ++ pre)) ∧ Fr w wr (fun k => v.ownBlock = some k) ∧ Row w v u)
    (fun _ x _ => (intOf x).toNat)
  case atStart => exact ⟨[], n, rfl, hn, rfl, by simpa using hown, Fr.refl _ _, Row.refl _ _⟩
  case round =>
    obtain ⟨pre, m, rfl, hm, hpre, ho, hfr, hrow⟩ := hrel
    have hlen : pre.length + (numB m).length ≤ 10 := by rw [← List.length_append, hpre]; exact hl10
    have hp1 := numB_pos m
    have hsz := hfr.size
    have HP : Hid (pre ++ numB m = numB n) := hpre
    have HR := hrow
    have hbw : base ≤ wr.heap.size := Nat.le_trans hbase hsz
    clear hpre hrow
    have hll : (xs ++ pre).length = xs.length + pre.length := List.length_append
    by_cases hlo : m < 128
    · go_wp2_with (first
        | (at_builtin; refine wpList_append_own_at _ rfl _ _ 118 rfl base 5 i0 (.int .u8 0) 1 1 Tryz.underlying118 hi hz0 hz1 hz2 rfl (by decide) _ _ _ rfl (ho.alloc _) ⟨wr.heap.size, 0, none⟩ 1 1 [.int .u8 m] rfl rfl ?c1 ?c2 ?c3 ?c4 ?c5 ?_))
      case c1 => exact cell_one_new _ _ _
      case c2 => intro u hu; simp at hu; subst hu; rfl
      case c3 => unfold maxLen; omega
      case c4 => omega
      case c5 => simp; omega
      · intro v' w1 hown' hgrow _ hat
        go_wp2
        go_ret
        have E := numB_stop HP.out hlo
        refine ⟨v', rfl, ?_, app_fr hfr HR hgrow, app_row (o := .cells #[.int .u8 m] 5) hsz HR (by simpa using hat)⟩
        rw [E]
        exact own_snoc hown' rfl (by rw [UInt8.toNat_ofNat']; omega)
    · go_wp2_with (first
        | (at_builtin; refine wpList_append_own_at _ rfl _ _ 118 rfl base 5 i0 (.int .u8 0) 1 1 Tryz.underlying118 hi hz0 hz1 hz2 rfl (by decide) _ _ _ rfl (ho.alloc _) ⟨wr.heap.size, 0, none⟩ 1 1 [.int .u8 (bits .or .u8 ((m : Int) % 256) 128)] rfl rfl ?d1 ?d2 ?d3 ?d4 ?d5 ?_))
      case d1 => exact cell_one_new _ _ _
      case d2 => intro u hu; simp at hu; subst hu; rfl
      case d3 => unfold maxLen; omega
      case d4 => omega
      case d5 => simp; omega
      · intro v' w1 hown' hgrow _ hat
        go_wp2
        go_roundw
        case rel =>
          have hb := or128 m
          exact ⟨pre ++ [UInt8.ofNat (m % 128 + 128)], m / 128, by go_num, by omega, numB_go HP.out hlo, own_snoc hown' rfl hb, app_fr hfr HR hgrow, app_row (o := .cells #[.int .u8 (bits .or .u8 ((m : Int) % 256) 128)] 5) hsz HR (by simpa using hat)⟩
        case measure => simp [intOf]; omega
end Go.Proofs.YtidghoipmggklaaGreat
