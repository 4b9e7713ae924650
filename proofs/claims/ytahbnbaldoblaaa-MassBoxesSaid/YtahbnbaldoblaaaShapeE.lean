/- Contracts of package shape: Normals. -/
import Derived.Test.YtahbnbaldoblaaaShapes
namespace Go.Proofs.Ytahbnbaldoblaaa.Fx
open Go.ChangeShapes Go.WideShapes Go.ChangeAt Go.RowKit
set_option linter.unusedVariables false

theorem unitV_uF (a b : Int) : unitV a b = .tuple #[vecV (uF a b).1 (uF a b).2, .bool (decide (lenF a b ≠ 0))] := by
  unfold unitV uF
  by_cases h : lenF a b = 0
  · rw [if_pos h, if_pos h]; simp [h]
  · rw [if_neg h, if_neg h]; simp [h]
theorem i64_u (a b : Int) : I64 (uF a b).1 ∧ I64 (uF a b).2 := by
  unfold uF; split
  · simp only []; unfold I64; omega
  · exact ⟨i64_div _ _, i64_div _ _⟩
theorem neg_is (a r : Int) (w : World) (ha : I64 a) (e : negF a = r) : Calls Try.prog 32 #[.int .i64 a] w fun e w' => e = .returned (.int .i64 r) ∧ w = w' := by subst e; exact neg_c a w ha

end Go.Proofs.Ytahbnbaldoblaaa.Fx
