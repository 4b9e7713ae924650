/- The statements' own cut: two ends, by a corner and a way. -/
import Derived.Test.YtmfkcdinfahjlaaTouchA
import Derived.Test.YtmfkcdinfahjlaaMex
import Derived.Deep.DeepCutAuto
namespace Go.Proofs.Ytmfkcdinfahjlaa.Fx
open Go.ChangeShapes Go.WideShapes Go.ChangeAt Go.RowKit
set_option linter.unusedVariables false

end Go.Proofs.Ytmfkcdinfahjlaa.Fx
