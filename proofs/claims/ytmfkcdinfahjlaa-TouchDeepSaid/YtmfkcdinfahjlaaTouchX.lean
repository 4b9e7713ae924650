/- What package touch is to answer, as one premise; the statements' own same. -/
import Derived.Test.YtmfkcdinfahjlaaTouchA
import Derived.Test.YtmfkcdinfahjlaaTouchC
namespace Go.Proofs.Ytmfkcdinfahjlaa.Fx
open Go.ChangeShapes Go.WideShapes Go.ChangeAt Go.RowKit
set_option linter.unusedVariables false

structure TouchSays : Prop where
  of : ∀ (X Y A K R X2 Y2 A2 K2 R2 : Int) (s s2 : Value) (b b2 : Bdy) (w : World), BodyAt w X Y A K R s b → BodyAt w X2 Y2 A2 K2 R2 s2 b2 →
    Calls Try.prog 11 #[bodyV 0 X Y 0 0 A 0 0 K R s, bodyV 0 X2 Y2 0 0 A2 0 0 K2 R2 s2] w (TouchR (wantF b b2) w)

end Go.Proofs.Ytmfkcdinfahjlaa.Fx
