/- The contract of the statements' anchor. -/
import Derived.Test.YtahbnbaldoblaaaShapeG
import Derived.Test.YtahbnbaldoblaaaShapeE
import Derived.Test.YtahbnbaldoblaaaShapeF
namespace Go.Proofs.Ytahbnbaldoblaaa.Fx
open Go.ChangeShapes Go.WideShapes Go.ChangeAt Go.RowKit
set_option linter.unusedVariables false

end Go.Proofs.Ytahbnbaldoblaaa.Fx
