/- Package mass answers as it is to. -/
import Derived.Test.YtahbnbaldoblaaaMassH
import Derived.Test.YtahbnbaldoblaaaMassI
namespace Go.Proofs.Ytahbnbaldoblaaa.Fx
open Go.ChangeShapes Go.WideShapes Go.ChangeAt Go.RowKit
set_option linter.unusedVariables false

theorem pts_below {w v : World} {b off n : Nat} {f : Cs} (h0 : 0 < n) (h : Pts w b off n f) (k : Below w.heap.size w v) : Pts v b off n f := fun i hi => ⟨Below.reads k (h i hi).1, Below.reads k (h i hi).2⟩
theorem mass_says : MassSays where
  area b off n cap f w h0 h8 hp hi := area_is 2 0 b off n cap f w (by decide) h0 h8 hp hi
  disc R w hR := (area_circle R _ none 0 0 w hR rfl).mono fun _ _ ⟨he, hm⟩ => ⟨he, hm.1⟩
  round b off n cap f w h0 h8 hp hi := round_is 2 0 b off n cap f w (by decide) h0 h8 hp hi
  discRound R w hR := (round_circle R _ none 0 0 w hR rfl).mono fun _ _ ⟨he, hm⟩ => ⟨he, hm.1⟩
  of d b off n cap f w id_ h0 h8 hp hi := of_answers d 2 0 _ w id_ _ _ (sumT_i64 _ _ _ _) (sumT_i64 _ _ _ _)
    (fun v k => area_is 2 0 b off n cap f v (by decide) h0 h8 (pts_below h0 hp k) hi) (fun v k => round_is 2 0 b off n cap f v (by decide) h0 h8 (pts_below h0 hp k) hi)
  ofDisc d R w id_ hR := of_answers d 1 R _ w id_ _ _ (i64_mul _ _) (i64_div _ _)
    (fun v k => (area_circle R _ none 0 0 v hR rfl).mono fun _ _ ⟨he, hm⟩ => ⟨he, hm.1⟩) (fun v k => (round_circle R _ none 0 0 v hR rfl).mono fun _ _ ⟨he, hm⟩ => ⟨he, hm.1⟩)
end Go.Proofs.Ytahbnbaldoblaaa.Fx
