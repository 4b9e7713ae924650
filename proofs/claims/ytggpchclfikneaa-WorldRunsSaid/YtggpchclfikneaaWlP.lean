/- WorldNumbers. -/
import Derived.Test.YtggpchclfikneaaWlO
namespace Go.Proofs.Ytggpchclfikneaa.Fx
open Go.ChangeShapes Go.WideShapes Go.ChangeAt Go.RowKit
set_option linter.unusedVariables false

/-- a slice of small numbers that came in -/
def U8At (w : World) (ao : Option Addr) (n : Nat) (f : Nat → Int) : Prop := 0 < n → ∃ b off, ao = some ⟨b, off, none⟩ ∧ ∀ i, i < n → w.cell? ⟨b, off + i, none⟩ = some (.int .u8 (f i)) ∧ 0 ≤ f i ∧ f i < 256
theorem U8At.kept {w v : World} {ao : Option Addr} {n : Nat} {f : Nat → Int} (h : U8At w ao n f) (k : Made w.heap.size w v) : U8At v ao n f := fun hn => by
  obtain ⟨b, off, e, h⟩ := h hn
  exact ⟨b, off, e, fun i hi => ⟨k.reads (h i hi).1, (h i hi).2⟩⟩
/-- what a call of Made has given, laid into a variable -/
theorem wv_new {w v : World} {P : PW} {ob oj oc : Option Addr} {cb cj cc : Nat} {gw : Nat} (hH : Has v gw 31 #[.int .i64 0, .int .i64 P.nb, .int .i64 P.nj, .int .i64 0, .int .i64 0, .slice ob P.B.length cb, .slice oj P.J.length cj, .slice oc P.C.length cc]) (hL : WLs Nil0 w ob cb P.B oj cj P.J oc cc P.C) (k : Made w.heap.size w v) (hg : w.heap.size ≤ gw) : WV (fun b => b = gw) v gw P :=
  ⟨ob, oj, oc, cb, cj, cc, hH, (hL.free (Y := fun b => b = gw) (fun b hb => .inr (by have hb : b = gw := hb; omega))).kept k⟩
end Go.Proofs.Ytggpchclfikneaa.Fx
