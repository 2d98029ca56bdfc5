import Derived.Test.YtnhijofnhflklaaGreatProg
import Derived.Test.YtnhijofnhflklaaGreatNmAddM
import Derived.Test.YtnhijofnhflklaaGreatNumM
/- agg.known, agg.join and the document's join at any values. -/
namespace Go.Proofs.YtnhijofnhflklaaGreat
open Go.RowKit

theorem ret_b {a b : Bool} (h : a = b) : Ending.returned (.bool a) = .returned (.bool b) := by rw [h]
theorem known_in (k : Int) (w : World) (h : 0 ≤ k) (h' : k ≤ 4) : Calls Tryz.prog 176 #[.int .i64 k] w fun e w' => e = .returned (.bool true) ∧ w' = w := by
  go_enter Tryz.func176, Tryz.ntmps176
  go_wp2
  all_goals first | (exfalso; omega) | (go_ret; exact ⟨ret_b (by simp; omega), rfl⟩)
theorem known_out (k : Int) (w : World) (h : ¬ (0 ≤ k ∧ k ≤ 4)) : Calls Tryz.prog 176 #[.int .i64 k] w fun e w' => e = .returned (.bool false) ∧ w' = w := by
  go_enter Tryz.func176, Tryz.ntmps176
  go_wp2
  all_goals first | (exfalso; omega) | (go_ret; exact ⟨ret_b (by first | rfl | (simp; omega)), rfl⟩)

/-- The bits that two numbers have in common, and those of either. -/
def andI (a b : Int) : Int := IntKind.i64.wrap ((BitVec.ofInt IntKind.i64.bits a &&& BitVec.ofInt IntKind.i64.bits b).toNat : Int)
def orI (a b : Int) : Int := IntKind.i64.wrap ((BitVec.ofInt IntKind.i64.bits a ||| BitVec.ofInt IntKind.i64.bits b).toNat : Int)
/-- Two values of a kind as one, where there is room; the error. -/
def jv (k : Nat) (a b : Int) : Int :=
  match k with
  | 0 => hv (a + b)
  | 1 => if b < a then b else a
  | 2 => if a < b then b else a
  | 3 => andI a b
  | _ => orI a b
def je (k : Nat) (a b : Int) : Int := if k = 0 then he (a + b) else 0
theorem ret2e {a b a' b' : Int} (h : a = a') (h' : b = b') : Ending.returned (.tuple #[.int .i64 a, .int .i64 b]) = .returned (.tuple #[.int .i64 a', .int .i64 b']) := by rw [h, h']

theorem ajoin_any (k : Nat) (a b : Int) (w : World) (hk : k ≤ 4) (ha : -9223372036854775808 ≤ a) (ha' : a ≤ 9223372036854775807) (hb : -9223372036854775808 ≤ b) (hb' : b ≤ 9223372036854775807) :
    Calls Tryz.prog 177 #[.int .i64 (k : Int), .int .i64 a, .int .i64 b] w fun e w' => e = .returned (.tuple #[.int .i64 (jv k a b), .int .i64 (je k a b)]) ∧ w' = w := by
  have hc : k = 0 ∨ k = 1 ∨ k = 2 ∨ k = 3 ∨ k = 4 := by omega
  rcases hc with rfl | rfl | rfl | rfl | rfl
  · go_enter Tryz.func177, Tryz.ntmps177
    go_wp2
    all_goals go_ret2
    all_goals exact ⟨ret2e (by show _ = hv (a + b); unfold hv; split <;> omega) (by show _ = he (a + b); unfold he; split <;> omega), rfl⟩
  · go_enter Tryz.func177, Tryz.ntmps177
    go_wp2
    all_goals go_ret2
    all_goals exact ⟨ret2e (by simp only [jv]; split <;> omega) rfl, rfl⟩
  · go_enter Tryz.func177, Tryz.ntmps177
    go_wp2
    all_goals go_ret2
    all_goals exact ⟨ret2e (by simp only [jv]; split <;> omega) rfl, rfl⟩
  · go_enter Tryz.func177, Tryz.ntmps177
    go_wp2
    go_ret2
    exact ⟨rfl, rfl⟩
  · go_enter Tryz.func177, Tryz.ntmps177
    go_wp2
    go_ret2
    exact ⟨rfl, rfl⟩
end Go.Proofs.YtnhijofnhflklaaGreat
