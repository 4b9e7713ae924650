/- The contract of the statements' own 'right'. -/
import Derived.Test.YtahbnbaldoblaaaShapes
namespace Go.Proofs.Ytahbnbaldoblaaa.Fx
open Go.ChangeShapes Go.WideShapes Go.ChangeAt Go.RowKit
set_option linter.unusedVariables false

end Go.Proofs.Ytahbnbaldoblaaa.Fx
