/- Two edges held against one another: the operation itself. -/
import Derived.Test.YtnijacbfcffnpaaGrWalk1
namespace Go.Proofs.Ytnijacbfcffnpaa
open Go.RowKit
theorem sizeI64 : (Try.prog.info? 2).map (fun i => i.size) = some 1 := by kernel_rfl
theorem part_at (w : World) (a b : Int) : (part 2 #[.int .i64 a, .int .i64 b] 0).run Try.prog w = .ok (.int .i64 a) w ∧ (part 2 #[.int .i64 a, .int .i64 b] 1).run Try.prog w = .ok (.int .i64 b) w := by
  obtain ⟨i, hi, hs⟩ := Option.map_eq_some_iff.1 sizeI64
  constructor <;> simp [part, typeInfo, hi, hs, sizeOf]
theorem run_equal2 (w : World) (a b : Int) : (Op.equalIn 9999 2 (.int .i64 a) (.int .i64 b)).run Try.prog w = .ok (a == b) w := by
  unfold Op.equalIn
  simp [run_underlying Try.underlying2]
theorem run_equal60 (w : World) (a b c d : Int) : (Op.equalIn 10000 50 (.agg #[.int .i64 a, .int .i64 b]) (.agg #[.int .i64 c, .int .i64 d])).run Try.prog w = .ok (a == c && b == d) w := by
  unfold Op.equalIn
  simp [run_underlying Try.underlying50, (part_at _ _ _).1, (part_at _ _ _).2, run_equal2]
  by_cases h1 : a = c <;> by_cases h2 : b = d <;> simp [h1, h2]
theorem run_neq60 (w : World) (a b c d : Int) : (binOp .neq 50 (.agg #[.int .i64 a, .int .i64 b]) (.agg #[.int .i64 c, .int .i64 d])).run Try.prog w = .ok (.bool (!(a == c && b == d))) w := by
  simp only [binOp]
  simp [Op.equal, Op.maxDepth, run_equal60]
theorem run_guard60 (w : World) (x y : Operand) (a b c d : Int) : (eqGuard .neq 50 x y (.agg #[.int .i64 a, .int .i64 b]) (.agg #[.int .i64 c, .int .i64 d])).run Try.prog w = .ok () w := by
  unfold eqGuard
  simp
end Go.Proofs.Ytnijacbfcffnpaa
