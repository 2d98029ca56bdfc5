/- Messages and requests held against one another. -/
import Derived.Test.YtepdpafpjiaaeaaKnData
import Derived.Laws.StructEq
import Derived.Deep.QuietTactic
namespace Go.Proofs.Ytepdpafpjiaaeaa
open Go.RowKit
theorem k_part4 {t : TypeId} (ht : (Try.prog.info? t).map (fun i => i.size) = some 1) (ha : ∀ w, (isAgg t).run Try.prog w = .ok false w) (w : World) (a b c d : Value) : (part t #[a, b, c, d] 0).run Try.prog w = .ok a w ∧ (part t #[a, b, c, d] 1).run Try.prog w = .ok b w ∧ (part t #[a, b, c, d] 2).run Try.prog w = .ok c w ∧ (part t #[a, b, c, d] 3).run Try.prog w = .ok d w := by
  obtain ⟨i, hi, hs⟩ := Option.map_eq_some_iff.1 ht
  refine ⟨?_, ?_, ?_, ?_⟩ <;> simp [part, typeInfo, hi, hs, sizeOf, ha]
theorem k_sizeI64 : (Try.prog.info? 2).map (fun i => i.size) = some 1 := by kernel_rfl
theorem k_sizeI : (Try.prog.info? 3).map (fun i => i.size) = some 1 := by kernel_rfl
theorem k_eq64 (w : World) (a b : Int) : (Op.equalIn 9999 2 (.int .i64 a) (.int .i64 b)).run Try.prog w = .ok (a == b) w := by
  unfold Op.equalIn
  simp [run_underlying Try.underlying2]
theorem k_eqI (w : World) (a b : Int) : (Op.equalIn 9999 3 (.int .i64 a) (.int .i64 b)).run Try.prog w = .ok (a == b) w := by
  unfold Op.equalIn
  simp [run_underlying Try.underlying3]
/-- A message is the same as itself. -/
theorem k_neM (w : World) (a b c d : Int) : (binOp .neq 66 (.agg #[.int .i64 a, .int .i64 b, .int .i64 c, .int .i64 d]) (.agg #[.int .i64 a, .int .i64 b, .int .i64 c, .int .i64 d])).run Try.prog w = .ok (.bool false) w := by
  have h : (Op.equalIn 10000 66 (.agg #[.int .i64 a, .int .i64 b, .int .i64 c, .int .i64 d]) (.agg #[.int .i64 a, .int .i64 b, .int .i64 c, .int .i64 d])).run Try.prog w = .ok true w := by
    unfold Op.equalIn
    simp [run_underlying Try.underlying66, (k_part4 k_sizeI64 Try.isAgg2 _ _ _ _ _).1, (k_part4 k_sizeI64 Try.isAgg2 _ _ _ _ _).2.1, (k_part4 k_sizeI Try.isAgg3 _ _ _ _ _).2.2.1, (k_part4 k_sizeI64 Try.isAgg2 _ _ _ _ _).2.2.2, k_eq64, k_eqI]
  simp only [binOp]
  simp [Op.equal, Op.maxDepth, h]
theorem k_guardM (w : World) (p q : Operand) (a b c d a' b' c' d' : Int) : (eqGuard .neq 66 p q (.agg #[.int .i64 a, .int .i64 b, .int .i64 c, .int .i64 d]) (.agg #[.int .i64 a', .int .i64 b', .int .i64 c', .int .i64 d'])).run Try.prog w = .ok () w := by
  unfold eqGuard
  simp
theorem k_neU (w : World) (a b c d : Int) : (binOp .neq 70 (.agg #[.int .i64 a, .int .i64 b, .int .i64 c, .int .i64 d]) (.agg #[.int .i64 a, .int .i64 b, .int .i64 c, .int .i64 d])).run Try.prog w = .ok (.bool false) w := by
  have h : (Op.equalIn 10000 70 (.agg #[.int .i64 a, .int .i64 b, .int .i64 c, .int .i64 d]) (.agg #[.int .i64 a, .int .i64 b, .int .i64 c, .int .i64 d])).run Try.prog w = .ok true w := by
    unfold Op.equalIn
    simp [run_underlying Try.underlying70, (k_part4 k_sizeI Try.isAgg3 _ _ _ _ _).1, (k_part4 k_sizeI64 Try.isAgg2 _ _ _ _ _).2.1, (k_part4 k_sizeI64 Try.isAgg2 _ _ _ _ _).2.2.1, (k_part4 k_sizeI64 Try.isAgg2 _ _ _ _ _).2.2.2, k_eq64, k_eqI]
  simp only [binOp]
  simp [Op.equal, Op.maxDepth, h]
theorem k_guardU (w : World) (p q : Operand) (a b c d a' b' c' d' : Int) : (eqGuard .neq 70 p q (.agg #[.int .i64 a, .int .i64 b, .int .i64 c, .int .i64 d]) (.agg #[.int .i64 a', .int .i64 b', .int .i64 c', .int .i64 d'])).run Try.prog w = .ok () w := by
  unfold eqGuard
  simp
theorem k_drewN {B : Nat} {w wr : World} (h : Below B w wr) (n : Nat) : Below B w (wr.drewN n) := by
  induction n with
  | zero => exact h
  | succ n ih => exact ih.drew
end Go.Proofs.Ytepdpafpjiaaeaa
