/- WorldRuns: the walk and what came in. -/
import Derived.Test.YtggpchclfikneaaWrB
import Derived.Test.YtggpchclfikneaaOpD
namespace Go.Proofs.Ytggpchclfikneaa.Fx
theorem wruns_c (l : List De) (ao : Option Addr) (nl c : Nat) (w : World) (hn : l.length = nl) (hD : DesAt w ao l) (hnc : nl ≤ c) (hcm : c ≤ maxLen) (ho : (ao = none ∧ nl = 0 ∧ c = 0) ∨ ∃ a, ao = some a) :
    Calls Try.prog 3 #[.slice ao nl c] w fun e v => e = .returned (.bool true) ∧ Made w.heap.size w v := wruns_walk l ao nl c w hn hD hnc hcm ho
end Go.Proofs.Ytggpchclfikneaa.Fx
