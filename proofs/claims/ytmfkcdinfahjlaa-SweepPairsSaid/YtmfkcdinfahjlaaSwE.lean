/- Pairs are compared. -/
import Derived.Test.YtmfkcdinfahjlaaSwW
namespace Go.Proofs.Ytmfkcdinfahjlaa.Fx
open Go.ChangeShapes Go.WideShapes Go.ChangeAt Go.RowKit
set_option linter.unusedVariables false

theorem part_0 (a b : Int) (w : World) : (part 3 #[.int .i64 a, .int .i64 b] 0).run Try.prog w = .ok (.int .i64 a) w := by kernel_rfl
theorem part_1 (a b : Int) (w : World) : (part 3 #[.int .i64 a, .int .i64 b] 1).run Try.prog w = .ok (.int .i64 b) w := by kernel_rfl
theorem equalIn_pair (n : Nat) (a b c e : Int) (w : World) : (Op.equalIn (n + 2) 58 (.agg #[.int .i64 a, .int .i64 b]) (.agg #[.int .i64 c, .int .i64 e])).run Try.prog w = .ok ((a == c) && (b == e)) w := by
  have u := Try.underlying58
  have z := Try.sizeOf3 w
  have q1 := run_equalIn_int (P := Try.prog) w n 3 .i64 .i64 a c Try.underlying3
  have q2 := run_equalIn_int (P := Try.prog) w n 3 .i64 .i64 b e Try.underlying3
  rw [show n + 2 = (n + 1) + 1 from rfl]
  unfold Op.equalIn
  simp only [Sem.run_bind, run_underlying u, Result.andThen_ok, z]
  simp only [Std.Legacy.Range.forIn_eq_forIn_range', Std.Legacy.Range.size]
  simp only [List.range', List.forIn_cons, List.forIn_nil, Sem.run_bind, Result.andThen_ok, part_0, Nat.zero_mul, q1]
  generalize (a == c) = r
  cases r
  · simp
  · simp only [Bool.not_true, Bool.false_eq_true, if_false, Sem.run_pure, Result.andThen_ok, Sem.run_bind, Nat.one_mul, Nat.zero_add, part_1, q2]
    generalize (b == e) = r
    cases r <;> simp
theorem peql (a b c e : Int) (w : World) : (binOp .eql 58 (.agg #[.int .i64 a, .int .i64 b]) (.agg #[.int .i64 c, .int .i64 e])).run Try.prog w = .ok (.bool ((a == c) && (b == e))) w := by
  rw [run_eql_struct, show (10000 : Nat) = 9998 + 2 from rfl, equalIn_pair]
  rfl
theorem pneq (a b c e : Int) (w : World) : (binOp .neq 58 (.agg #[.int .i64 a, .int .i64 b]) (.agg #[.int .i64 c, .int .i64 e])).run Try.prog w = .ok (.bool (!((a == c) && (b == e)))) w := by
  rw [run_neq_struct, show (10000 : Nat) = 9998 + 2 from rfl, equalIn_pair]
  rfl
end Go.Proofs.Ytmfkcdinfahjlaa.Fx
