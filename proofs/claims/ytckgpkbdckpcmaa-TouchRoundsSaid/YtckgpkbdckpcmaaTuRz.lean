/- TouchRounds: the walk and what package touch answers, together. -/
import Derived.Test.YtckgpkbdckpcmaaTuR
import Derived.Test.YtckgpkbdckpcmaaTcN
import Derived.Test.YtckgpkbdckpcmaaArs
import Derived.OpenShut
namespace Go.Proofs.Ytckgpkbdckpcmaa.Fx
theorem U8_wf' {a : Int} (h : (Lit.int .u8 a).wf = true) : 0 ≤ a ∧ a ≤ 255 := bounds_u8 h
end Go.Proofs.Ytckgpkbdckpcmaa.Fx
