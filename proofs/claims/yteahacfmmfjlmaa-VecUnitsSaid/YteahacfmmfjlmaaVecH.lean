/- VecUnits: the walk. -/
import Derived.Test.YteahacfmmfjlmaaVecGz
import Derived.Test.YteahacfmmfjlmaaVecGs
import Derived.Test.YteahacfmmfjlmaaVecGb
import Derived.Test.YteahacfmmfjlmaaVecGm
namespace Go.Proofs.Yteahacfmmfjlmaa.Fx
open Go.ChangeShapes Go.WideShapes Go.ChangeAt Go.RowKit
set_option linter.unusedVariables false

theorem vunits_walk (a b : Int) (w : World) (ha : I64 a) (hb : I64 b) :
    Calls Try.prog 4 #[vecV a b] w fun e w' => e = .returned (.bool true) ∧ Grown w w' := by
  by_cases hz : lenF (cl a) (cl b) = 0
  · exact vunits_zero a b w ha hb hz
  · by_cases h : max (absF (cl a)) (absF (cl b)) < 42949672
    · exact vunits_small a b w ha hb hz h
    · by_cases h' : 17179869184000 < max (absF (cl a)) (absF (cl b))
      · exact vunits_big a b w ha hb hz h'
      · exact vunits_mid a b w ha hb hz (by omega) (by omega)
end Go.Proofs.Yteahacfmmfjlmaa.Fx
