/- What package touch answers, whole. -/
import Derived.Test.YtckgpkbdckpcmaaTcM
import Derived.Test.YtckgpkbdckpcmaaTouchX
namespace Go.Proofs.Ytckgpkbdckpcmaa.Fx
open Go.ChangeShapes Go.WideShapes Go.ChangeAt Go.RowKit

theorem touch_says : TouchSays where
  of X Y A K R X2 Y2 A2 K2 R2 s s2 b b2 w h h2 := (tof_is X Y A K R X2 Y2 A2 K2 R2 s s2 b b2 w h h2).mono fun _ _ h => h.r
  gap b off n cap b2 off2 m cap2 P Q w hn h8 hm hm8 hp hq iP iQ := tgap_is b off n cap b2 off2 m cap2 P Q _ _ w (by omega) h8 (by omega) hm8 hp hq iP iQ rfl rfl
end Go.Proofs.Ytckgpkbdckpcmaa.Fx
