/- Place -/
import Derived.Test.YtgdcphmmehedoaaGreatCc15
set_option maxRecDepth 100000
set_option maxHeartbeats 64000000
/- The contract of the statements' place: a body of a seed's shape, with a place and an angle. -/
namespace Go.Proofs.YtgdcphmmehedoaaGreat.Fx
open Go.ChangeShapes Go.WideShapes Go.ChangeAt Go.RowKit
set_option linter.unusedVariables false
theorem Has.put11 {w : World} {g : Nat} {t : TypeId} {c0 c1 c2 c3 c4 c5 c6 c7 c8 c9 c10 : Value} (h : Has w g t #[c0, c1, c2, c3, c4, c5, c6, c7, c8, c9, c10]) (v0 v1 v2 v3 v4 v5 v6 v7 v8 v9 v10 : Value) :
  Has (((((((((((w.setCell ⟨g, 0, none⟩ v0).setCell ⟨g, 1, none⟩ v1).setCell ⟨g, 2, none⟩ v2).setCell ⟨g, 3, none⟩ v3).setCell ⟨g, 4, none⟩ v4).setCell ⟨g, 5, none⟩ v5).setCell ⟨g, 6, none⟩ v6).setCell ⟨g, 7, none⟩ v7).setCell ⟨g, 8, none⟩ v8).setCell ⟨g, 9, none⟩ v9).setCell ⟨g, 10, none⟩ v10) g t #[v0, v1, v2, v3, v4, v5, v6, v7, v8, v9, v10] := by
 have h1 : Has (w.setCell ⟨g, 0, none⟩ v0) g t #[v0, c1, c2, c3, c4, c5, c6, c7, c8, c9, c10] := h.put 0 v0
 have h2 : Has ((w.setCell ⟨g, 0, none⟩ v0).setCell ⟨g, 1, none⟩ v1) g t #[v0, v1, c2, c3, c4, c5, c6, c7, c8, c9, c10] := h1.put 1 v1
 have h3 : Has (((w.setCell ⟨g, 0, none⟩ v0).setCell ⟨g, 1, none⟩ v1).setCell ⟨g, 2, none⟩ v2) g t #[v0, v1, v2, c3, c4, c5, c6, c7, c8, c9, c10] := h2.put 2 v2
 have h4 : Has ((((w.setCell ⟨g, 0, none⟩ v0).setCell ⟨g, 1, none⟩ v1).setCell ⟨g, 2, none⟩ v2).setCell ⟨g, 3, none⟩ v3) g t #[v0, v1, v2, v3, c4, c5, c6, c7, c8, c9, c10] := h3.put 3 v3
 have h5 : Has (((((w.setCell ⟨g, 0, none⟩ v0).setCell ⟨g, 1, none⟩ v1).setCell ⟨g, 2, none⟩ v2).setCell ⟨g, 3, none⟩ v3).setCell ⟨g, 4, none⟩ v4) g t #[v0, v1, v2, v3, v4, c5, c6, c7, c8, c9, c10] := h4.put 4 v4
 have h6 : Has ((((((w.setCell ⟨g, 0, none⟩ v0).setCell ⟨g, 1, none⟩ v1).setCell ⟨g, 2, none⟩ v2).setCell ⟨g, 3, none⟩ v3).setCell ⟨g, 4, none⟩ v4).setCell ⟨g, 5, none⟩ v5) g t #[v0, v1, v2, v3, v4, v5, c6, c7, c8, c9, c10] := h5.put 5 v5
 have h7 : Has (((((((w.setCell ⟨g, 0, none⟩ v0).setCell ⟨g, 1, none⟩ v1).setCell ⟨g, 2, none⟩ v2).setCell ⟨g, 3, none⟩ v3).setCell ⟨g, 4, none⟩ v4).setCell ⟨g, 5, none⟩ v5).setCell ⟨g, 6, none⟩ v6) g t #[v0, v1, v2, v3, v4, v5, v6, c7, c8, c9, c10] := h6.put 6 v6
 have h8 : Has ((((((((w.setCell ⟨g, 0, none⟩ v0).setCell ⟨g, 1, none⟩ v1).setCell ⟨g, 2, none⟩ v2).setCell ⟨g, 3, none⟩ v3).setCell ⟨g, 4, none⟩ v4).setCell ⟨g, 5, none⟩ v5).setCell ⟨g, 6, none⟩ v6).setCell ⟨g, 7, none⟩ v7) g t #[v0, v1, v2, v3, v4, v5, v6, v7, c8, c9, c10] := h7.put 7 v7
 have h9 : Has (((((((((w.setCell ⟨g, 0, none⟩ v0).setCell ⟨g, 1, none⟩ v1).setCell ⟨g, 2, none⟩ v2).setCell ⟨g, 3, none⟩ v3).setCell ⟨g, 4, none⟩ v4).setCell ⟨g, 5, none⟩ v5).setCell ⟨g, 6, none⟩ v6).setCell ⟨g, 7, none⟩ v7).setCell ⟨g, 8, none⟩ v8) g t #[v0, v1, v2, v3, v4, v5, v6, v7, v8, c9, c10] := h8.put 8 v8
 have h10 : Has ((((((((((w.setCell ⟨g, 0, none⟩ v0).setCell ⟨g, 1, none⟩ v1).setCell ⟨g, 2, none⟩ v2).setCell ⟨g, 3, none⟩ v3).setCell ⟨g, 4, none⟩ v4).setCell ⟨g, 5, none⟩ v5).setCell ⟨g, 6, none⟩ v6).setCell ⟨g, 7, none⟩ v7).setCell ⟨g, 8, none⟩ v8).setCell ⟨g, 9, none⟩ v9) g t #[v0, v1, v2, v3, v4, v5, v6, v7, v8, v9, c10] := h9.put 9 v9
 have h11 : Has (((((((((((w.setCell ⟨g, 0, none⟩ v0).setCell ⟨g, 1, none⟩ v1).setCell ⟨g, 2, none⟩ v2).setCell ⟨g, 3, none⟩ v3).setCell ⟨g, 4, none⟩ v4).setCell ⟨g, 5, none⟩ v5).setCell ⟨g, 6, none⟩ v6).setCell ⟨g, 7, none⟩ v7).setCell ⟨g, 8, none⟩ v8).setCell ⟨g, 9, none⟩ v9).setCell ⟨g, 10, none⟩ v10) g t #[v0, v1, v2, v3, v4, v5, v6, v7, v8, v9, v10] := h10.put 10 v10
 exact h11
theorem Below.put11 {B : Nat} {a w : World} {g : Nat} (h : Below B a w) (hg : B ≤ g) (v0 v1 v2 v3 v4 v5 v6 v7 v8 v9 v10 : Value) : Below B a (((((((((((w.setCell ⟨g, 0, none⟩ v0).setCell ⟨g, 1, none⟩ v1).setCell ⟨g, 2, none⟩ v2).setCell ⟨g, 3, none⟩ v3).setCell ⟨g, 4, none⟩ v4).setCell ⟨g, 5, none⟩ v5).setCell ⟨g, 6, none⟩ v6).setCell ⟨g, 7, none⟩ v7).setCell ⟨g, 8, none⟩ v8).setCell ⟨g, 9, none⟩ v9).setCell ⟨g, 10, none⟩ v10) := by
 have h1 : Below B a (w.setCell ⟨g, 0, none⟩ v0) := h.setCell (p := ⟨g, 0, none⟩) hg v0
 have h2 : Below B a ((w.setCell ⟨g, 0, none⟩ v0).setCell ⟨g, 1, none⟩ v1) := h1.setCell (p := ⟨g, 1, none⟩) hg v1
 have h3 : Below B a (((w.setCell ⟨g, 0, none⟩ v0).setCell ⟨g, 1, none⟩ v1).setCell ⟨g, 2, none⟩ v2) := h2.setCell (p := ⟨g, 2, none⟩) hg v2
 have h4 : Below B a ((((w.setCell ⟨g, 0, none⟩ v0).setCell ⟨g, 1, none⟩ v1).setCell ⟨g, 2, none⟩ v2).setCell ⟨g, 3, none⟩ v3) := h3.setCell (p := ⟨g, 3, none⟩) hg v3
 have h5 : Below B a (((((w.setCell ⟨g, 0, none⟩ v0).setCell ⟨g, 1, none⟩ v1).setCell ⟨g, 2, none⟩ v2).setCell ⟨g, 3, none⟩ v3).setCell ⟨g, 4, none⟩ v4) := h4.setCell (p := ⟨g, 4, none⟩) hg v4
 have h6 : Below B a ((((((w.setCell ⟨g, 0, none⟩ v0).setCell ⟨g, 1, none⟩ v1).setCell ⟨g, 2, none⟩ v2).setCell ⟨g, 3, none⟩ v3).setCell ⟨g, 4, none⟩ v4).setCell ⟨g, 5, none⟩ v5) := h5.setCell (p := ⟨g, 5, none⟩) hg v5
 have h7 : Below B a (((((((w.setCell ⟨g, 0, none⟩ v0).setCell ⟨g, 1, none⟩ v1).setCell ⟨g, 2, none⟩ v2).setCell ⟨g, 3, none⟩ v3).setCell ⟨g, 4, none⟩ v4).setCell ⟨g, 5, none⟩ v5).setCell ⟨g, 6, none⟩ v6) := h6.setCell (p := ⟨g, 6, none⟩) hg v6
 have h8 : Below B a ((((((((w.setCell ⟨g, 0, none⟩ v0).setCell ⟨g, 1, none⟩ v1).setCell ⟨g, 2, none⟩ v2).setCell ⟨g, 3, none⟩ v3).setCell ⟨g, 4, none⟩ v4).setCell ⟨g, 5, none⟩ v5).setCell ⟨g, 6, none⟩ v6).setCell ⟨g, 7, none⟩ v7) := h7.setCell (p := ⟨g, 7, none⟩) hg v7
 have h9 : Below B a (((((((((w.setCell ⟨g, 0, none⟩ v0).setCell ⟨g, 1, none⟩ v1).setCell ⟨g, 2, none⟩ v2).setCell ⟨g, 3, none⟩ v3).setCell ⟨g, 4, none⟩ v4).setCell ⟨g, 5, none⟩ v5).setCell ⟨g, 6, none⟩ v6).setCell ⟨g, 7, none⟩ v7).setCell ⟨g, 8, none⟩ v8) := h8.setCell (p := ⟨g, 8, none⟩) hg v8
 have h10 : Below B a ((((((((((w.setCell ⟨g, 0, none⟩ v0).setCell ⟨g, 1, none⟩ v1).setCell ⟨g, 2, none⟩ v2).setCell ⟨g, 3, none⟩ v3).setCell ⟨g, 4, none⟩ v4).setCell ⟨g, 5, none⟩ v5).setCell ⟨g, 6, none⟩ v6).setCell ⟨g, 7, none⟩ v7).setCell ⟨g, 8, none⟩ v8).setCell ⟨g, 9, none⟩ v9) := h9.setCell (p := ⟨g, 9, none⟩) hg v9
 have h11 : Below B a (((((((((((w.setCell ⟨g, 0, none⟩ v0).setCell ⟨g, 1, none⟩ v1).setCell ⟨g, 2, none⟩ v2).setCell ⟨g, 3, none⟩ v3).setCell ⟨g, 4, none⟩ v4).setCell ⟨g, 5, none⟩ v5).setCell ⟨g, 6, none⟩ v6).setCell ⟨g, 7, none⟩ v7).setCell ⟨g, 8, none⟩ v8).setCell ⟨g, 9, none⟩ v9).setCell ⟨g, 10, none⟩ v10) := h10.setCell (p := ⟨g, 10, none⟩) hg v10
 exact h11
theorem Made.put11 {B : Nat} {a w : World} {g : Nat} (h : Made B a w) (hg : B ≤ g) (v0 v1 v2 v3 v4 v5 v6 v7 v8 v9 v10 : Value) : Made B a (((((((((((w.setCell ⟨g, 0, none⟩ v0).setCell ⟨g, 1, none⟩ v1).setCell ⟨g, 2, none⟩ v2).setCell ⟨g, 3, none⟩ v3).setCell ⟨g, 4, none⟩ v4).setCell ⟨g, 5, none⟩ v5).setCell ⟨g, 6, none⟩ v6).setCell ⟨g, 7, none⟩ v7).setCell ⟨g, 8, none⟩ v8).setCell ⟨g, 9, none⟩ v9).setCell ⟨g, 10, none⟩ v10) := by
 have h1 : Made B a (w.setCell ⟨g, 0, none⟩ v0) := h.put (p := ⟨g, 0, none⟩) hg v0
 have h2 : Made B a ((w.setCell ⟨g, 0, none⟩ v0).setCell ⟨g, 1, none⟩ v1) := h1.put (p := ⟨g, 1, none⟩) hg v1
 have h3 : Made B a (((w.setCell ⟨g, 0, none⟩ v0).setCell ⟨g, 1, none⟩ v1).setCell ⟨g, 2, none⟩ v2) := h2.put (p := ⟨g, 2, none⟩) hg v2
 have h4 : Made B a ((((w.setCell ⟨g, 0, none⟩ v0).setCell ⟨g, 1, none⟩ v1).setCell ⟨g, 2, none⟩ v2).setCell ⟨g, 3, none⟩ v3) := h3.put (p := ⟨g, 3, none⟩) hg v3
 have h5 : Made B a (((((w.setCell ⟨g, 0, none⟩ v0).setCell ⟨g, 1, none⟩ v1).setCell ⟨g, 2, none⟩ v2).setCell ⟨g, 3, none⟩ v3).setCell ⟨g, 4, none⟩ v4) := h4.put (p := ⟨g, 4, none⟩) hg v4
 have h6 : Made B a ((((((w.setCell ⟨g, 0, none⟩ v0).setCell ⟨g, 1, none⟩ v1).setCell ⟨g, 2, none⟩ v2).setCell ⟨g, 3, none⟩ v3).setCell ⟨g, 4, none⟩ v4).setCell ⟨g, 5, none⟩ v5) := h5.put (p := ⟨g, 5, none⟩) hg v5
 have h7 : Made B a (((((((w.setCell ⟨g, 0, none⟩ v0).setCell ⟨g, 1, none⟩ v1).setCell ⟨g, 2, none⟩ v2).setCell ⟨g, 3, none⟩ v3).setCell ⟨g, 4, none⟩ v4).setCell ⟨g, 5, none⟩ v5).setCell ⟨g, 6, none⟩ v6) := h6.put (p := ⟨g, 6, none⟩) hg v6
 have h8 : Made B a ((((((((w.setCell ⟨g, 0, none⟩ v0).setCell ⟨g, 1, none⟩ v1).setCell ⟨g, 2, none⟩ v2).setCell ⟨g, 3, none⟩ v3).setCell ⟨g, 4, none⟩ v4).setCell ⟨g, 5, none⟩ v5).setCell ⟨g, 6, none⟩ v6).setCell ⟨g, 7, none⟩ v7) := h7.put (p := ⟨g, 7, none⟩) hg v7
 have h9 : Made B a (((((((((w.setCell ⟨g, 0, none⟩ v0).setCell ⟨g, 1, none⟩ v1).setCell ⟨g, 2, none⟩ v2).setCell ⟨g, 3, none⟩ v3).setCell ⟨g, 4, none⟩ v4).setCell ⟨g, 5, none⟩ v5).setCell ⟨g, 6, none⟩ v6).setCell ⟨g, 7, none⟩ v7).setCell ⟨g, 8, none⟩ v8) := h8.put (p := ⟨g, 8, none⟩) hg v8
 have h10 : Made B a ((((((((((w.setCell ⟨g, 0, none⟩ v0).setCell ⟨g, 1, none⟩ v1).setCell ⟨g, 2, none⟩ v2).setCell ⟨g, 3, none⟩ v3).setCell ⟨g, 4, none⟩ v4).setCell ⟨g, 5, none⟩ v5).setCell ⟨g, 6, none⟩ v6).setCell ⟨g, 7, none⟩ v7).setCell ⟨g, 8, none⟩ v8).setCell ⟨g, 9, none⟩ v9) := h9.put (p := ⟨g, 9, none⟩) hg v9
 have h11 : Made B a (((((((((((w.setCell ⟨g, 0, none⟩ v0).setCell ⟨g, 1, none⟩ v1).setCell ⟨g, 2, none⟩ v2).setCell ⟨g, 3, none⟩ v3).setCell ⟨g, 4, none⟩ v4).setCell ⟨g, 5, none⟩ v5).setCell ⟨g, 6, none⟩ v6).setCell ⟨g, 7, none⟩ v7).setCell ⟨g, 8, none⟩ v8).setCell ⟨g, 9, none⟩ v9).setCell ⟨g, 10, none⟩ v10) := h10.put (p := ⟨g, 10, none⟩) hg v10
 exact h11
theorem Row.other11 {w : World} {g b n : Nat} {t : TypeId} {f : Cs} (h : Row w g t n f) (hg : g ≠ b) (v0 v1 v2 v3 v4 v5 v6 v7 v8 v9 v10 : Value) : Row (((((((((((w.setCell ⟨b, 0, none⟩ v0).setCell ⟨b, 1, none⟩ v1).setCell ⟨b, 2, none⟩ v2).setCell ⟨b, 3, none⟩ v3).setCell ⟨b, 4, none⟩ v4).setCell ⟨b, 5, none⟩ v5).setCell ⟨b, 6, none⟩ v6).setCell ⟨b, 7, none⟩ v7).setCell ⟨b, 8, none⟩ v8).setCell ⟨b, 9, none⟩ v9).setCell ⟨b, 10, none⟩ v10) g t n f := by
 have h1 : Row (w.setCell ⟨b, 0, none⟩ v0) g t n f := h.other ⟨b, 0, none⟩ hg v0
 have h2 : Row ((w.setCell ⟨b, 0, none⟩ v0).setCell ⟨b, 1, none⟩ v1) g t n f := h1.other ⟨b, 1, none⟩ hg v1
 have h3 : Row (((w.setCell ⟨b, 0, none⟩ v0).setCell ⟨b, 1, none⟩ v1).setCell ⟨b, 2, none⟩ v2) g t n f := h2.other ⟨b, 2, none⟩ hg v2
 have h4 : Row ((((w.setCell ⟨b, 0, none⟩ v0).setCell ⟨b, 1, none⟩ v1).setCell ⟨b, 2, none⟩ v2).setCell ⟨b, 3, none⟩ v3) g t n f := h3.other ⟨b, 3, none⟩ hg v3
 have h5 : Row (((((w.setCell ⟨b, 0, none⟩ v0).setCell ⟨b, 1, none⟩ v1).setCell ⟨b, 2, none⟩ v2).setCell ⟨b, 3, none⟩ v3).setCell ⟨b, 4, none⟩ v4) g t n f := h4.other ⟨b, 4, none⟩ hg v4
 have h6 : Row ((((((w.setCell ⟨b, 0, none⟩ v0).setCell ⟨b, 1, none⟩ v1).setCell ⟨b, 2, none⟩ v2).setCell ⟨b, 3, none⟩ v3).setCell ⟨b, 4, none⟩ v4).setCell ⟨b, 5, none⟩ v5) g t n f := h5.other ⟨b, 5, none⟩ hg v5
 have h7 : Row (((((((w.setCell ⟨b, 0, none⟩ v0).setCell ⟨b, 1, none⟩ v1).setCell ⟨b, 2, none⟩ v2).setCell ⟨b, 3, none⟩ v3).setCell ⟨b, 4, none⟩ v4).setCell ⟨b, 5, none⟩ v5).setCell ⟨b, 6, none⟩ v6) g t n f := h6.other ⟨b, 6, none⟩ hg v6
 have h8 : Row ((((((((w.setCell ⟨b, 0, none⟩ v0).setCell ⟨b, 1, none⟩ v1).setCell ⟨b, 2, none⟩ v2).setCell ⟨b, 3, none⟩ v3).setCell ⟨b, 4, none⟩ v4).setCell ⟨b, 5, none⟩ v5).setCell ⟨b, 6, none⟩ v6).setCell ⟨b, 7, none⟩ v7) g t n f := h7.other ⟨b, 7, none⟩ hg v7
 have h9 : Row (((((((((w.setCell ⟨b, 0, none⟩ v0).setCell ⟨b, 1, none⟩ v1).setCell ⟨b, 2, none⟩ v2).setCell ⟨b, 3, none⟩ v3).setCell ⟨b, 4, none⟩ v4).setCell ⟨b, 5, none⟩ v5).setCell ⟨b, 6, none⟩ v6).setCell ⟨b, 7, none⟩ v7).setCell ⟨b, 8, none⟩ v8) g t n f := h8.other ⟨b, 8, none⟩ hg v8
 have h10 : Row ((((((((((w.setCell ⟨b, 0, none⟩ v0).setCell ⟨b, 1, none⟩ v1).setCell ⟨b, 2, none⟩ v2).setCell ⟨b, 3, none⟩ v3).setCell ⟨b, 4, none⟩ v4).setCell ⟨b, 5, none⟩ v5).setCell ⟨b, 6, none⟩ v6).setCell ⟨b, 7, none⟩ v7).setCell ⟨b, 8, none⟩ v8).setCell ⟨b, 9, none⟩ v9) g t n f := h9.other ⟨b, 9, none⟩ hg v9
 have h11 : Row (((((((((((w.setCell ⟨b, 0, none⟩ v0).setCell ⟨b, 1, none⟩ v1).setCell ⟨b, 2, none⟩ v2).setCell ⟨b, 3, none⟩ v3).setCell ⟨b, 4, none⟩ v4).setCell ⟨b, 5, none⟩ v5).setCell ⟨b, 6, none⟩ v6).setCell ⟨b, 7, none⟩ v7).setCell ⟨b, 8, none⟩ v8).setCell ⟨b, 9, none⟩ v9).setCell ⟨b, 10, none⟩ v10) g t n f := h10.other ⟨b, 10, none⟩ hg v10
 exact h11
def alP (n : Nat) (F : Cs) (i : Nat) (v : World) (g : Nat) : Prop := Row v g 28 n F
def valP (n : Nat) (i g e : Nat) : Value := shapeV 2 0 (.slice (some ⟨g, 0, none⟩) n e)
theorem alP_lasts (n : Nat) (F : Cs) : Lasts (alP n F) := fun i u v g h hg k => h.stays k hg
abbrev placeV (K N S T x y an : Int) : Value := .agg #[.int .i64 K, .int .i64 N, .int .i64 S, .int .i64 T, .int .i64 x, .int .i64 y, .int .i64 an]
def thou (x : Int) : Int := bringF x (negF 4294967296000) 4294967296000
theorem thou_bd {x : Int} (h : I64 x) : -4294967296000 ≤ thou x ∧ thou x ≤ 4294967296000 := by
 unfold thou
 rw [negF_in (by omega)]
 exact ⟨(bring_around h (by omega) (by omega)).1, (bring_around h (by omega) (by omega)).2.1⟩
theorem place_circle {K N S T R : Int} (h : SeedC K N S T R) (x y an X Y A : Int) (w : World) (hx : I64 x) (hy : I64 y) (eX : thou x = X) (eY : thou y = Y) (eA : an % 4294967296 = A) :
  Calls Tryz.prog 95 #[placeV K N S T x y an] w fun e w' => e = .returned (bodyV 0 X Y 0 0 A 0 0 1 R (.slice none 0 0)) ∧ Made w.heap.size w w' := by
 obtain ⟨r0, r1, hs⟩ := h
 have iM : I64 4294967296000 := by unfold I64; omega
 have EX := hid (show bringF x (negF 4294967296000) 4294967296000 = X from eX)
 have EY := hid (show bringF y (negF 4294967296000) 4294967296000 = Y from eY)
 have HS := hid hs
 have aA := and32 an
 rw [eA] at aA
 clear eX eY eA hs
 go_enter Tryz.func95, Tryz.ntmps95
 go_wp2_with fail
 refine reg_made_tail 10 (by kernel_rfl) (by kernel_rfl) ?_
 intro Ty hT fw hf
 have c0 := Class.reads hf (p := ⟨w.heap.size, 0, none⟩) (u := .int .i64 K) (by go_simp)
 have c1 := Class.reads hf (p := ⟨w.heap.size, 1, none⟩) (u := .int .i64 N) (by go_simp)
 have c2 := Class.reads hf (p := ⟨w.heap.size, 2, none⟩) (u := .int .i64 S) (by go_simp)
 have c3 := Class.reads hf (p := ⟨w.heap.size, 3, none⟩) (u := .int .i64 T) (by go_simp)
 have c4 := Class.reads hf (p := ⟨w.heap.size, 4, none⟩) (u := .int .i64 x) (by go_simp)
 have c5 := Class.reads hf (p := ⟨w.heap.size, 5, none⟩) (u := .int .i64 y) (by go_simp)
 have c6 := Class.reads hf (p := ⟨w.heap.size, 6, none⟩) (u := .int .i64 an) (by go_simp)
 simp only [List.take_succ_cons, List.take_zero, List.drop_succ_cons, List.drop_zero]
 repeat (go_big_quiet_step ((first | (go_at_call 81; with_reducible exact hf.made (vbring_is _ _ _ _ _ _ hx hy iM EX.out EY.out)) | (go_at_call 116; with_reducible exact hf.made (HS.out _)))))
 refine wpQuiet_nil ?_
 intro w1 h1
 have hb := hf.here h1
 have hH : Has w1 (w.heap.size + 1) 35 #[.int .i64 0, .int .i64 0, .int .i64 0, .int .i64 0, .int .i64 0, .int .i64 0, .int .i64 0, .int .i64 0, .int .i64 0, .int .i64 0, .slice none 0 0] := (has_next w (.cells (#[.int .i64 K, .int .i64 N, .int .i64 S, .int .i64 T, .int .i64 x, .int .i64 y, .int .i64 an] : Array Value) 30) 35 #[.int .i64 0, .int .i64 0, .int .i64 0, .int .i64 0, .int .i64 0, .int .i64 0, .int .i64 0, .int .i64 0, .int .i64 0, .int .i64 0, .slice none 0 0]).stays hb (by simp)
 have z0 := hH.at_ 0
 have z1 := hH.at_ 1
 have z2 := hH.at_ 2
 have z3 := hH.at_ 3
 have z4 := hH.at_ 4
 have z5 := hH.at_ 5
 have z6 := hH.at_ 6
 have z7 := hH.at_ 7
 have z8 := hH.at_ 8
 have z9 := hH.at_ 9
 have z10 := hH.at_ 10
 simp at z0 z1 z2 z3 z4 z5 z6 z7 z8 z9 z10
 have zf : ∀ i, w1.frozen? ⟨w.heap.size + 1, i, none⟩ = false := fun i => hH.free i
 have HH := hid hH
 have M1 := hid (made_box (made_box hb))
 clear hb h1 hf hH c0 c1 c2 c3 c4 c5 c6
 go_wp2_with fail
 obtain ⟨V, eV⟩ : ∃ V, V = (((((((((((w1.setCell ⟨w.heap.size + 1, 0, none⟩ (.int .i64 0)).setCell ⟨w.heap.size + 1, 1, none⟩ (.int .i64 X)).setCell ⟨w.heap.size + 1, 2, none⟩ (.int .i64 Y)).setCell ⟨w.heap.size + 1, 3, none⟩ (.int .i64 0)).setCell ⟨w.heap.size + 1, 4, none⟩ (.int .i64 0)).setCell ⟨w.heap.size + 1, 5, none⟩ (.int .i64 A)).setCell ⟨w.heap.size + 1, 6, none⟩ (.int .i64 0)).setCell ⟨w.heap.size + 1, 7, none⟩ (.int .i64 0)).setCell ⟨w.heap.size + 1, 8, none⟩ (.int .i64 1)).setCell ⟨w.heap.size + 1, 9, none⟩ (.int .i64 R)).setCell ⟨w.heap.size + 1, 10, none⟩ (.slice none 0 0)) := ⟨_, rfl⟩
 have hV : Has V (w.heap.size + 1) 35 #[.int .i64 0, .int .i64 X, .int .i64 Y, .int .i64 0, .int .i64 0, .int .i64 A, .int .i64 0, .int .i64 0, .int .i64 1, .int .i64 R, .slice none 0 0] := by
  rw [eV]
  exact HH.out.put11 _ _ _ _ _ _ _ _ _ _ _
 have kV : Made w.heap.size w V := by
  rw [eV]
  exact M1.out.put11 (by simp) _ _ _ _ _ _ _ _ _ _ _
 rw [← eV]
 have r0 := hV.at_ 0
 have r1 := hV.at_ 1
 have r2 := hV.at_ 2
 have r3 := hV.at_ 3
 have r4 := hV.at_ 4
 have r5 := hV.at_ 5
 have r6 := hV.at_ 6
 have r7 := hV.at_ 7
 have r8 := hV.at_ 8
 have r9 := hV.at_ 9
 have r10 := hV.at_ 10
 simp at r0 r1 r2 r3 r4 r5 r6 r7 r8 r9 r10
 exact bodyPost_ret (v := bodyV 0 X Y 0 0 A 0 0 1 R (.slice none 0 0)) (by simp [results, Tryz.results95, go_sem, r0, r1, r2, r3, r4, r5, r6, r7, r8, r9, r10]) rfl ⟨rfl, kV⟩
theorem place_poly {K N S T : Int} {n : Nat} {gx gy : Nat → Int} {gk : Int} (h : SeedG K N S T n gx gy gk) (x y an X Y A : Int) (w : World) (hx : I64 x) (hy : I64 y) (eX : thou x = X) (eY : thou y = Y) (eA : an % 4294967296 = A) :
  Calls Tryz.prog 95 #[placeV K N S T x y an] w fun e w' => ∃ g c, e = .returned (bodyV 0 X Y 0 0 A 0 0 2 0 (.slice (some ⟨g, 0, none⟩) n c)) ∧ w.heap.size ≤ g ∧ Row w' g 28 n (grid gx gy gk) ∧ Made w.heap.size w w' := by
 obtain ⟨gr, ar, hs⟩ := h
 obtain ⟨F, eF⟩ : ∃ F, grid gx gy gk = F := ⟨_, rfl⟩
 rw [eF] at hs
 rw [eF]
 clear eF gr ar
 have iM : I64 4294967296000 := by unfold I64; omega
 have EX := hid (show bringF x (negF 4294967296000) 4294967296000 = X from eX)
 have EY := hid (show bringF y (negF 4294967296000) 4294967296000 = Y from eY)
 have HS := hid hs
 have aA := and32 an
 rw [eA] at aA
 clear eX eY eA hs
 go_enter Tryz.func95, Tryz.ntmps95
 go_wp2_with fail
 obtain ⟨W0, eW⟩ : ∃ W, W = (w.alloc (.cells (#[.int .i64 K, .int .i64 N, .int .i64 S, .int .i64 T, .int .i64 x, .int .i64 y, .int .i64 an] : Array Value) 30)).alloc (.cells #[.int .i64 0, .int .i64 0, .int .i64 0, .int .i64 0, .int .i64 0, .int .i64 0, .int .i64 0, .int .i64 0, .int .i64 0, .int .i64 0, .slice none 0 0] 35) := ⟨_, rfl⟩
 have hP : Has W0 w.heap.size 30 #[.int .i64 K, .int .i64 N, .int .i64 S, .int .i64 T, .int .i64 x, .int .i64 y, .int .i64 an] := by rw [eW]; exact (has_new _ _ _).more _
 have hH0 : Has W0 (w.heap.size + 1) 35 #[.int .i64 0, .int .i64 0, .int .i64 0, .int .i64 0, .int .i64 0, .int .i64 0, .int .i64 0, .int .i64 0, .int .i64 0, .int .i64 0, .slice none 0 0] := by rw [eW]; exact has_next _ _ _ _
 have M0 : Hid (Made w.heap.size w W0) := by unfold Hid; rw [eW]; exact ((Made.rfl_ _ _).cells (Nat.le_refl _) _ _).cells (by simp) _ _
 rw [← eW]
 clear eW
 have p0 := hP.at_ 0
 have p1 := hP.at_ 1
 have p2 := hP.at_ 2
 have p3 := hP.at_ 3
 have p4 := hP.at_ 4
 have p5 := hP.at_ 5
 have p6 := hP.at_ 6
 simp at p0 p1 p2 p3 p4 p5 p6
 refine region_makes 9 13 [0, 1, 2, 3, 4, 5, 6, 7] [8] (alP n F) (valP n) (by kernel_rfl) (alP_lasts n F) (by kernel_rfl) rfl (by kernel_rfl) rfl ?_
 apply Exists.intro
 refine ⟨?h1, ?h2⟩
 case h1 =>
  intro Ty hT fw hf
  have c0 := Class.reads hf p0
  have c1 := Class.reads hf p1
  have c2 := Class.reads hf p2
  have c3 := Class.reads hf p3
  have c4 := Class.reads hf p4
  have c5 := Class.reads hf p5
  have c6 := Class.reads hf p6
  change wpQuiet _ _ _ _ [_, _, _, _, _, _, _, _] _
  repeat (go_big_quiet_step ((go_at_call 81; with_reducible exact hf.made (vbring_is _ _ _ _ _ _ hx hy iM EX.out EY.out))))
  exact wpQuiet_nil rfl
 clear p0 p1 p2 p3 p4 p5 p6
 have mk : Hid (∀ (G : Nat → Option Nat) (u : World), ClM W0 (alP n F) G u → MkUpon Tryz.prog W0 (alP n F) (valP n) 8 G (.ok (.enter 116 #[seedV K N S T]) u)) := by
  intro G u hu
  refine (HS.out u).mono ?_
  rintro e u' ⟨g', c', rfl, hg', hrow', k'⟩
  exact ⟨g', c', rfl, hu.next (alP_lasts n F) k' hg' hrow'.here hrow'⟩
 refine ⟨_, 11, rfl, ⟨rfl, rfl, fun G u hu => ?mk1⟩, fun g c => ?rest⟩
 case mk1 =>
  rw [show (execOp _ _).run Tryz.prog u = .ok (.enter 116 #[seedV K N S T]) u by kernel_rfl]
  exact mk.out G u hu
 clear mk
 intro w1 hu
 have q : upd (fun _ => none) 8 g 8 = some g := by unfold upd; simp
 obtain ⟨lg, _, hrow⟩ := hu.2.1 8 g q
 have hrow : Row w1 g 28 n F := hrow
 have hH : Has w1 (w.heap.size + 1) 35 #[.int .i64 0, .int .i64 0, .int .i64 0, .int .i64 0, .int .i64 0, .int .i64 0, .int .i64 0, .int .i64 0, .int .i64 0, .int .i64 0, .slice none 0 0] := hH0.stays hu.1 hH0.here
 have hg1 : w.heap.size + 1 < g := Nat.lt_of_lt_of_le hH0.here lg
 have M1 : Hid (Made w.heap.size w w1) := M0.out.then_ (hu.1.low M0.out.1.size)
 have HR := hid hrow
 have HG := hid hg1
 clear hu q lg hrow hg1 hH0 hP
 rw [show valP n 8 g c = shapeV 2 0 (.slice (some ⟨g, 0, none⟩) n c) from rfl]
 simp only [List.drop_succ_cons, List.drop_zero]
 have z0 := hH.at_ 0
 have z1 := hH.at_ 1
 have z2 := hH.at_ 2
 have z3 := hH.at_ 3
 have z4 := hH.at_ 4
 have z5 := hH.at_ 5
 have z6 := hH.at_ 6
 have z7 := hH.at_ 7
 have z8 := hH.at_ 8
 have z9 := hH.at_ 9
 have z10 := hH.at_ 10
 simp at z0 z1 z2 z3 z4 z5 z6 z7 z8 z9 z10
 have zf : ∀ i, w1.frozen? ⟨w.heap.size + 1, i, none⟩ = false := fun i => hH.free i
 have HH := hid hH
 clear hH
 go_wp2_with fail
 obtain ⟨V, eV⟩ : ∃ V, V = (((((((((((w1.setCell ⟨w.heap.size + 1, 0, none⟩ (.int .i64 0)).setCell ⟨w.heap.size + 1, 1, none⟩ (.int .i64 X)).setCell ⟨w.heap.size + 1, 2, none⟩ (.int .i64 Y)).setCell ⟨w.heap.size + 1, 3, none⟩ (.int .i64 0)).setCell ⟨w.heap.size + 1, 4, none⟩ (.int .i64 0)).setCell ⟨w.heap.size + 1, 5, none⟩ (.int .i64 A)).setCell ⟨w.heap.size + 1, 6, none⟩ (.int .i64 0)).setCell ⟨w.heap.size + 1, 7, none⟩ (.int .i64 0)).setCell ⟨w.heap.size + 1, 8, none⟩ (.int .i64 2)).setCell ⟨w.heap.size + 1, 9, none⟩ (.int .i64 0)).setCell ⟨w.heap.size + 1, 10, none⟩ (.slice (some ⟨g, 0, none⟩) n c)) := ⟨_, rfl⟩
 have hV : Has V (w.heap.size + 1) 35 #[.int .i64 0, .int .i64 X, .int .i64 Y, .int .i64 0, .int .i64 0, .int .i64 A, .int .i64 0, .int .i64 0, .int .i64 2, .int .i64 0, .slice (some ⟨g, 0, none⟩) n c] := by
  rw [eV]
  exact HH.out.put11 _ _ _ _ _ _ _ _ _ _ _
 have kV : Made w.heap.size w V := by
  rw [eV]
  exact M1.out.put11 (by simp) _ _ _ _ _ _ _ _ _ _ _
 have rV : Row V g 28 n F := by
  rw [eV]
  exact HR.out.other11 (by have := HG.out; omega) _ _ _ _ _ _ _ _ _ _ _
 rw [← eV]
 have r0 := hV.at_ 0
 have r1 := hV.at_ 1
 have r2 := hV.at_ 2
 have r3 := hV.at_ 3
 have r4 := hV.at_ 4
 have r5 := hV.at_ 5
 have r6 := hV.at_ 6
 have r7 := hV.at_ 7
 have r8 := hV.at_ 8
 have r9 := hV.at_ 9
 have r10 := hV.at_ 10
 simp at r0 r1 r2 r3 r4 r5 r6 r7 r8 r9 r10
 exact bodyPost_ret (v := bodyV 0 X Y 0 0 A 0 0 2 0 (.slice (some ⟨g, 0, none⟩) n c)) (by simp [results, Tryz.results95, go_sem, r0, r1, r2, r3, r4, r5, r6, r7, r8, r9, r10]) rfl ⟨g, c, rfl, by have := HG.out; omega, rV, kV⟩
end Go.Proofs.YtgdcphmmehedoaaGreat.Fx