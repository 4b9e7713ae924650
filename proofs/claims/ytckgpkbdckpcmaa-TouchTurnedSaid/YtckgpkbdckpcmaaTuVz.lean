/- TouchTurned: the walk and what package touch answers, together. -/
import Derived.Test.YtckgpkbdckpcmaaTuV
import Derived.Test.YtckgpkbdckpcmaaTcN
import Derived.Test.YtckgpkbdckpcmaaArr
namespace Go.Proofs.Ytckgpkbdckpcmaa.Fx
end Go.Proofs.Ytckgpkbdckpcmaa.Fx
