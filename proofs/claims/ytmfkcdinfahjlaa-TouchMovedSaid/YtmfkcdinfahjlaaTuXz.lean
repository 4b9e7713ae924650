/- TouchMoved: the walk and what package touch answers, together. -/
import Derived.Test.YtmfkcdinfahjlaaTuX
import Derived.Test.YtmfkcdinfahjlaaTcN
import Derived.Test.YtmfkcdinfahjlaaArr
namespace Go.Proofs.Ytmfkcdinfahjlaa.Fx
end Go.Proofs.Ytmfkcdinfahjlaa.Fx
