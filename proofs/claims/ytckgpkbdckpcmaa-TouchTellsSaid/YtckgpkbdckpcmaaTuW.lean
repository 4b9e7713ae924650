/- Wanted, in letters. -/
import Derived.Test.YtckgpkbdckpcmaaTuB
import Derived.Test.YtckgpkbdckpcmaaTouchW
namespace Go.Proofs.Ytckgpkbdckpcmaa.Fx
open Go.ChangeShapes Go.WideShapes Go.ChangeAt Go.RowKit
set_option linter.unusedVariables false
theorem wantL {X Y A K R X2 Y2 A2 K2 R2 : Int} {bd bd2 : Bdy} {t : Option Tch} {nx ny : Int} {l : List Pnt} {ok : Bool} (et : wantF bd bd2 = t) (e1 : (t.getD noTch).nx = nx) (e2 : (t.getD noTch).ny = ny) (e3 : (t.getD noTch).pts = l) (e4 : t.isSome = ok) :
    OfL 12 X Y A K R X2 Y2 A2 K2 R2 bd bd2 nx ny l ok := by
  subst et; subst e1; subst e2; subst e3; subst e4
  intro w s s2 h1 h2
  exact lwanted_is X Y A K R X2 Y2 A2 K2 R2 s s2 bd bd2 w h1 h2
end Go.Proofs.Ytckgpkbdckpcmaa.Fx
