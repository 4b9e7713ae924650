/- Plain words for vectors: bounds of what the calls answer. -/
import Derived.Test.YtekcehhoimhjeaaFixQ
namespace Go.Proofs.Ytekcehhoimhjeaa.Fx
set_option linter.unusedVariables false

theorem i64_rg {a : Int} (h : Rg a) : I64 a := by unfold Rg I64 at *; omega
theorem absF_nn (a : Int) : 0 ≤ absF a := by unfold absF negF cl; (repeat' split) <;> omega
theorem rg_sign {n : Int} (t : Bool) (h : 0 ≤ n) : Rg (signF n t) := by unfold signF Rg; (repeat' split) <;> omega
theorem rg_mul (a b : Int) : Rg (mulF a b) := by
  unfold mulF; exact rg_sign _ (Int.ediv_nonneg (Int.mul_nonneg (absF_nn _) (absF_nn _)) (by omega))
theorem rg_div (a b : Int) : Rg (divF a b) := by
  unfold divF; split
  · unfold Rg; omega
  · refine rg_sign _ ?_
    split
    · omega
    · have := absF_nn b
      exact Int.ediv_nonneg (Int.mul_nonneg (absF_nn _) (by omega)) this
theorem rg_sat (a : Int) : Rg (sat a) := by unfold sat Rg; (repeat' split) <;> omega
theorem rg_add (a b : Int) : Rg (addF a b) := rg_sat _
theorem rg_sub (a b : Int) : Rg (subF a b) := rg_sat _
theorem sqAux_bd (P : Int) : ∀ (k : Nat) (r : Int), r ≤ sqAux P k r ∧ sqAux P k r < r + 2 ^ k
  | 0, r => by simp [sqAux]; omega
  | k + 1, r => by
    have hp : (0 : Int) < 2 ^ k := Int.pow_pos (by omega)
    have e : (2 : Int) ^ (k + 1) = 2 ^ k + 2 ^ k := by rw [Int.pow_succ]; omega
    have h1 := sqAux_bd P k (r + 2 ^ k)
    have h2 := sqAux_bd P k r
    rw [sqAux, e]; split <;> omega
theorem sqrt_bd (a : Int) : 0 ≤ sqrtF a ∧ sqrtF a < 281474976710656 := by
  unfold sqrtF; split
  · omega
  · have := sqAux_bd (a * 4294967296) 48 0
    have e : (2 : Int) ^ 48 = 281474976710656 := by decide
    rw [e] at this; omega
theorem i64_mul (a b : Int) : I64 (mulF a b) := i64_rg (rg_mul a b)
theorem i64_div (a b : Int) : I64 (divF a b) := i64_rg (rg_div a b)
theorem i64_add (a b : Int) : I64 (addF a b) := i64_rg (rg_add a b)
theorem i64_sub (a b : Int) : I64 (subF a b) := i64_rg (rg_sub a b)
theorem i64_sqrt (a : Int) : I64 (sqrtF a) := by have := sqrt_bd a; unfold I64; omega
theorem i64_neg {a : Int} (h : I64 a) : I64 (negF a) := by have := cl_bd h; unfold negF I64 L M at *; omega
theorem i64_bring {a b c : Int} (ha : I64 a) (hb : I64 b) (hc : I64 c) : I64 (bringF a b c) := by
  have h1 := cl_bd ha; have h2 := cl_bd hb; have h3 := cl_bd hc
  unfold bringF I64 L M at *; (repeat' split) <;> omega
/-- a length -/
def lenF (a b : Int) : Int := sqrtF (addF (mulF a a) (mulF b b))
end Go.Proofs.Ytekcehhoimhjeaa.Fx
