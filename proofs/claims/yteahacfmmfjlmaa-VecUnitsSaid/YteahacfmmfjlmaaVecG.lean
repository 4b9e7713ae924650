/- VecUnits: the walk. -/
import Derived.Test.YteahacfmmfjlmaaVecE
import Derived.Test.YteahacfmmfjlmaaVecP
namespace Go.Proofs.Yteahacfmmfjlmaa.Fx
open Go.ChangeShapes Go.WideShapes Go.ChangeAt Go.RowKit
set_option linter.unusedVariables false

theorem div_is (a b r : Int) (w : World) (ha : I64 a) (hb : I64 b) (e : divF a b = r) : Calls Try.prog 25 #[.int .i64 a, .int .i64 b] w (Ret (.int .i64 r) w) := by subst e; exact div_c a b w ha hb
theorem sqrt_is (a r : Int) (w : World) (ha : I64 a) (e : sqrtF a = r) : Calls Try.prog 24 #[.int .i64 a] w fun e w' => e = .returned (.int .i64 r) ∧ w = w' := by subst e; exact sqrt_c a w ha
end Go.Proofs.Yteahacfmmfjlmaa.Fx
