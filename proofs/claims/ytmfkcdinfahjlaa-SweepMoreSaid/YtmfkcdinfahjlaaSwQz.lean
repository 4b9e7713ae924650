/- SweepMore, for the frame. -/
import Derived.Test.YtmfkcdinfahjlaaSwQ
namespace Go.Proofs.Ytmfkcdinfahjlaa.Fx
open Go.ChangeShapes Go.WideShapes Go.ChangeAt Go.RowKit
theorem it_wf {a b c d e : Int} {s : Bool} (h0 : (Lit.int .i64 a).wf = true) (h1 : (Lit.int .i64 b).wf = true) (h2 : (Lit.int .i64 c).wf = true) (h3 : (Lit.int .i64 d).wf = true) (h4 : (Lit.int .i64 e).wf = true) : ItI ⟨a, b, c, d, e, s⟩ :=
  ⟨i64_wf' h0, i64_wf' h1, i64_wf' h2, i64_wf' h3, i64_wf' h4⟩
end Go.Proofs.Ytmfkcdinfahjlaa.Fx
