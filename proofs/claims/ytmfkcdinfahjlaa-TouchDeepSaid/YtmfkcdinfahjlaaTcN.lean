/- What package touch answers, whole. -/
import Derived.Test.YtmfkcdinfahjlaaTcM
import Derived.Test.YtmfkcdinfahjlaaTouchX
namespace Go.Proofs.Ytmfkcdinfahjlaa.Fx
open Go.ChangeShapes Go.WideShapes Go.ChangeAt Go.RowKit

theorem touch_says : TouchSays where
  of X Y A K R X2 Y2 A2 K2 R2 s s2 b b2 w h h2 := (tof_is X Y A K R X2 Y2 A2 K2 R2 s s2 b b2 w h h2).mono fun _ _ h => h.r
end Go.Proofs.Ytmfkcdinfahjlaa.Fx
