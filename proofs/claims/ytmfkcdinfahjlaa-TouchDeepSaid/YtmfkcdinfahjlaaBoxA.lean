/- What package box is to answer, as one premise; the statements' own circle; BoxGrows. -/
import Derived.Test.YtmfkcdinfahjlaaPlace
import Derived.Test.YtmfkcdinfahjlaaBoxP
namespace Go.Proofs.Ytmfkcdinfahjlaa.Fx
open Go.ChangeShapes Go.WideShapes Go.ChangeAt Go.RowKit
set_option linter.unusedVariables false

abbrev rectV (lx ly hx hy : Int) : Value := .agg #[.int .i64 lx, .int .i64 ly, .int .i64 hx, .int .i64 hy]
structure BoxSays : Prop where
  disc : ∀ (X Y A R : Int) (w : World), I64 X → I64 Y → I64 R → Calls Try.prog 14 #[bodyV 0 X Y 0 0 A 0 0 1 R (.slice none 0 0)] w fun e w' => e = .returned (rectV (subF X R) (subF Y R) (addF X R) (addF Y R)) ∧ Made w.heap.size w w'
  poly : ∀ (X Y A : Int) (b off n cap : Nat) (f : Cs) (lx hx ly hy : Int) (w : World), I64 X → I64 Y → I64 A → 3 ≤ n → n ≤ 8 → Pts w b off n f → Cin f n →
    Ext (fun i => (placeF f (cs (stepF A)) (sn (stepF A)) X Y i).1) n lx hx → Ext (fun i => (placeF f (cs (stepF A)) (sn (stepF A)) X Y i).2) n ly hy →
    Calls Try.prog 14 #[bodyV 0 X Y 0 0 A 0 0 2 0 (.slice (some ⟨b, off, none⟩) n cap)] w fun e w' => e = .returned (rectV lx ly hx hy) ∧ Made w.heap.size w w'
  grow : ∀ (lx ly hx hy d : Int) (w : World), I64 lx → I64 ly → I64 hx → I64 hy → I64 d → Calls Try.prog 13 #[rectV lx ly hx hy, .int .i64 d] w fun e w' => e = .returned (rectV (subF lx d) (subF ly d) (addF hx d) (addF hy d)) ∧ Made w.heap.size w w'
  holds : ∀ (lx ly hx hy x y : Int) (r : Bool) (w : World), Rg lx → Rg ly → Rg hx → Rg hy → Rg x → Rg y → (r = true ↔ (lx ≤ x ∧ x ≤ hx) ∧ (ly ≤ y ∧ y ≤ hy)) →
    Calls Try.prog 63 #[rectV lx ly hx hy, vecV x y] w fun e w' => e = .returned (.bool r) ∧ Made w.heap.size w w'
  meet : ∀ (lx ly hx hy x y u v : Int) (r : Bool) (w : World), Rg lx → Rg ly → Rg hx → Rg hy → Rg x → Rg y → Rg u → Rg v → (r = true ↔ (lx ≤ u ∧ x ≤ hx) ∧ (ly ≤ v ∧ y ≤ hy)) →
    Calls Try.prog 12 #[rectV lx ly hx hy, rectV x y u v] w fun e w' => e = .returned (.bool r) ∧ Made w.heap.size w w'

end Go.Proofs.Ytmfkcdinfahjlaa.Fx
