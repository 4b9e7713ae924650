/- SweepRows, for the frame. -/
import Derived.Test.YtmfkcdinfahjlaaSwR
namespace Go.Proofs.Ytmfkcdinfahjlaa.Fx
open Go.ChangeShapes Go.WideShapes Go.ChangeAt Go.RowKit
theorem U8_wf2 {a : Int} (h : (Lit.int .u8 a).wf = true) : 0 ≤ a ∧ a ≤ 255 := bounds_u8 h
end Go.Proofs.Ytmfkcdinfahjlaa.Fx
