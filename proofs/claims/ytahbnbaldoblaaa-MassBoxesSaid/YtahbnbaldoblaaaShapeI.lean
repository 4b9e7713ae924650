/- ShapeBoxes: the walk. -/
import Derived.Test.YtahbnbaldoblaaaShapeH
import Derived.Deep.DeepCutAuto
namespace Go.Proofs.Ytahbnbaldoblaaa.Fx
open Go.ChangeShapes Go.WideShapes Go.ChangeAt Go.RowKit
set_option linter.unusedVariables false

theorem mul_is (a b r : Int) (w : World) (ha : I64 a) (hb : I64 b) (e : mulF a b = r) : Calls Try.prog 10 #[.int .i64 a, .int .i64 b] w fun e w' => e = .returned (.int .i64 r) ∧ w = w' := by subst e; exact mul_c a b w ha hb
theorem and40 (x : Int) : bits .and .i64 x 1099511627775 = x % 1099511627776 := and_low x 40 (by omega)
/-- every cross of a rectangle is the product of its sides -/
theorem box_cross {a b p : Int} (ha : -1099511627776 ≤ a ∧ a ≤ 1099511627776) (hb : -1099511627776 ≤ b ∧ b ≤ 1099511627776) (hp : mulF (2 * a) (2 * b) = p) :
    ∀ i, i < 4 → ∀ j, j < 4 → j ≠ i → j ≠ (i + 1) % 4 → crossF (boxF a b) i ((i + 1) % 4) j = p := by
  have na : negF a = -a := negR (by unfold Rg; omega)
  have nb : negF b = -b := negR (by unfold Rg; omega)
  have s1 : subF a (-a) = 2 * a := by rw [sub_exact (by unfold Rg; omega) (by unfold Rg; omega) (by unfold Rg; omega)]; omega
  have s2 : subF (-a) a = -(2 * a) := by rw [sub_exact (by unfold Rg; omega) (by unfold Rg; omega) (by unfold Rg; omega)]; omega
  have s3 : subF b (-b) = 2 * b := by rw [sub_exact (by unfold Rg; omega) (by unfold Rg; omega) (by unfold Rg; omega)]; omega
  have s4 : subF (-b) b = -(2 * b) := by rw [sub_exact (by unfold Rg; omega) (by unfold Rg; omega) (by unfold Rg; omega)]; omega
  have s5 : subF a a = 0 := sub_self (by unfold Rg; omega)
  have s6 : subF b b = 0 := sub_self (by unfold Rg; omega)
  have s7 : subF (-a) (-a) = 0 := sub_self (by unfold Rg; omega)
  have s8 : subF (-b) (-b) = 0 := sub_self (by unfold Rg; omega)
  have ra : Rg (2 * a) := by unfold Rg; omega
  have rb : Rg (2 * b) := by unfold Rg; omega
  have m1 : mulF (2 * b) (2 * a) = p := by rw [mul_comm']; exact hp
  have m2 : mulF (2 * b) (-(2 * a)) = -p := by rw [mul_neg_right rb ra, m1]
  have m3 : mulF (-(2 * b)) (2 * a) = -p := by rw [mul_neg_left rb ra, m1]
  have m4 : mulF (-(2 * a)) (-(2 * b)) = p := by rw [mul_neg_right (Rg_neg ra) rb, mul_neg_left ra rb, hp]; omega
  have z1 : ∀ x, mulF 0 x = 0 := fun x => by rw [mul_comm']; exact mul_zero x
  have rp : Rg p := by rw [← hp]; exact rg_mul _ _
  have t1 : subF p 0 = p := by rw [sub_exact rp (by unfold Rg; omega) (by rw [Int.sub_zero]; exact rp)]; omega
  have t2 : subF 0 (-p) = p := by rw [sub_exact (by unfold Rg; omega) (Rg_neg rp) (by unfold Rg at *; omega)]; omega
  intro i hi j hj h1 h2
  rcases (show i = 0 ∨ i = 1 ∨ i = 2 ∨ i = 3 by omega) with rfl | rfl | rfl | rfl <;> rcases (show j = 0 ∨ j = 1 ∨ j = 2 ∨ j = 3 by omega) with rfl | rfl | rfl | rfl <;>
    first
    | (exfalso; omega)
    | (unfold crossF boxF
       simp only [Nat.reduceAdd, Nat.reduceMod, Nat.reduceEqDiff, true_or, or_true, or_self, if_true, if_false, na, nb, s1, s2, s3, s4, s5, s6, s7, s8, hp, m2, m3, m4, z1, t1, t2])
theorem box_right {a b p : Int} (ha : -1099511627776 ≤ a ∧ a ≤ 1099511627776) (hb : -1099511627776 ≤ b ∧ b ≤ 1099511627776) (hp : mulF (2 * a) (2 * b) = p) :
    RightP 2 0 4 (boxF a b) ↔ (-274877906944 ≤ a ∧ a ≤ 274877906944) ∧ (-274877906944 ≤ b ∧ b ≤ 274877906944) ∧ 0 < p := by
  have na : negF a = -a := negR (by unfold Rg; omega)
  have nb : negF b = -b := negR (by unfold Rg; omega)
  have cr := box_cross ha hb hp
  constructor
  · rintro (h | ⟨_, _, _, _, h1, h2⟩)
    · omega
    · have n2 : NearP (boxF a b 2) := h1 2 (by omega)
      have e : boxF a b 2 = (a, b) := rfl
      rw [e] at n2
      have c := h2 0 (by omega) 2 (by omega) (by omega) (by omega)
      rw [cr 0 (by omega) 2 (by omega) (by omega) (by omega)] at c
      exact ⟨n2.1, n2.2, c⟩
  · rintro ⟨h1, h2, h3⟩
    refine .inr ⟨rfl, rfl, by omega, by omega, fun i hi => ?_, fun i hi j hj g1 g2 => ?_⟩
    · unfold NearP boxF
      rw [na, nb]
      simp only []
      constructor <;> split <;> omega
    · rw [cr i hi j hj g1 g2]; exact h3
theorem box_i64 {a b : Int} (ha : I64 a) (hb : I64 b) : Cin (boxF a b) 4 := fun i hi => by
  unfold boxF
  simp only []
  constructor <;> split <;> first | exact i64_neg (by assumption) | assumption

end Go.Proofs.Ytahbnbaldoblaaa.Fx
