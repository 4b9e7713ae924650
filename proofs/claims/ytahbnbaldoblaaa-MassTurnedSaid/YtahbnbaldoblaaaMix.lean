/- Corners of which the first have turned already. No Go in sight. -/
import Derived.Test.YtahbnbaldoblaaaPlain
namespace Go.Proofs.Ytahbnbaldoblaaa.Fx
set_option linter.unusedVariables false

def mixF (F H : Cs) (m : Nat) : Cs := fun i => if i < m then H i else F i
theorem mix_next (F H : Cs) (m : Nat) {x y : Int} (hx : (H m).1 = x) (hy : (H m).2 = y) (i : Nat) : (fun j => if j = m then (x, y) else mixF F H m j) i = mixF F H (m + 1) i := by
  subst hx; subst hy
  unfold mixF
  simp only []
  by_cases h : i = m
  · subst h; rw [if_pos rfl, if_pos (by omega)]
  · rw [if_neg h]
    by_cases h1 : i < m
    · rw [if_pos h1, if_pos (by omega)]
    · rw [if_neg h1, if_neg (by omega)]
theorem mix_all (F H : Cs) (n i : Nat) (h : i < n) : mixF F H n i = H i := by unfold mixF; rw [if_pos h]

end Go.Proofs.Ytahbnbaldoblaaa.Fx
