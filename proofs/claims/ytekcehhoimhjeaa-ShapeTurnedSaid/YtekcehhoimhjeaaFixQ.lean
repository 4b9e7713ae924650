/- The plain laws of fixed-point numbers: what comes back. -/
import Derived.Test.YtekcehhoimhjeaaFixP
namespace Go.Proofs.Ytekcehhoimhjeaa.Fx
set_option linter.unusedVariables false

theorem sign_small {n : Int} (t : Bool) (h1 : n ≤ 9223372036854775807) : signF n t = if t then -n else n := by
  unfold signF; cases t <;> simp <;> omega
/-- a small number -/
def Sm (a : Int) : Prop := -70368744177664 < a ∧ a < 70368744177664
theorem Sm_Rg {a : Int} (h : Sm a) : Rg a := by unfold Sm Rg at *; omega
theorem tmod_Sm (a : Int) : Sm (a.tmod 70368744177664) := by
  unfold Sm
  by_cases h : 0 ≤ a
  · rw [Int.tmod_eq_emod_of_nonneg h]; omega
  · have e : a = -(-a) := by omega
    rw [e, Int.neg_tmod, Int.tmod_eq_emod_of_nonneg (by omega)]; omega
theorem abs_Sm {a : Int} (h : Sm a) : 0 ≤ absF a ∧ absF a < 70368744177664 := by
  rw [absR (Sm_Rg h)]; unfold Sm at h; split <;> omega
theorem abs_ite {n : Int} {t : Bool} (h0 : 0 ≤ n) (h1 : n ≤ 9223372036854775807) : absF (if t then -n else n) = n := by
  cases t
  · simp; rw [absR (by unfold Rg; omega)]; omega
  · simp; rw [absR (by unfold Rg; omega)]; omega
theorem prod_Sm {x y : Int} (hx0 : 0 ≤ x) (hx1 : x < 70368744177664) (hy0 : 0 ≤ y) (hy1 : y < 70368744177664) : 0 ≤ x * y ∧ x * y ≤ 4951760157141380478003019809 + 1000000000000000 := by
  refine ⟨Int.mul_nonneg hx0 hy0, ?_⟩
  have : x * y ≤ 70368744177663 * 70368744177663 := Int.mul_le_mul (by omega) (by omega) hy0 (by omega)
  omega
theorem back_quo {a b : Int} (ha : Sm a) (hb : Sm b) (h : b ≠ 0) :
    divF (mulF a b) b = (if decide (a < 0) then -(absF a * absF b / 4294967296 * 4294967296 / absF b) else absF a * absF b / 4294967296 * 4294967296 / absF b) ∧
    0 ≤ absF a * absF b / 4294967296 * 4294967296 / absF b ∧ absF a * absF b / 4294967296 * 4294967296 / absF b ≤ absF a := by
  have hx := abs_Sm ha
  have hy := abs_Sm hb
  have hp := prod_Sm hx.1 hx.2 hy.1 hy.2
  have hyz : absF b ≠ 0 := fun e => h ((absR_zero (Sm_Rg hb)).1 e)
  have hn0 : 0 ≤ absF a * absF b / 4294967296 := by omega
  have hm : mulF a b = if (decide (a < 0) != decide (b < 0)) then -(absF a * absF b / 4294967296) else absF a * absF b / 4294967296 := by
    unfold mulF; exact sign_small _ (by omega)
  have hm0 : 0 ≤ absF a * absF b / 4294967296 * 4294967296 / absF b := Int.ediv_nonneg (by omega) hy.1
  have hm1 : absF a * absF b / 4294967296 * 4294967296 / absF b ≤ absF a := by
    have h1 : absF a * absF b / 4294967296 * 4294967296 ≤ absF a * absF b := by omega
    have h2 := Int.ediv_le_ediv (c := absF b) (by omega) h1
    rw [Int.mul_ediv_cancel _ hyz] at h2; exact h2
  refine ⟨?_, hm0, hm1⟩
  have habs : absF (mulF a b) = absF a * absF b / 4294967296 := by rw [hm]; exact abs_ite hn0 (by omega)
  generalize absF a * absF b / 4294967296 = n at *
  by_cases hz : n = 0
  · subst hz
    have : mulF a b = 0 := by rw [hm]; split <;> rfl
    rw [this]; unfold divF
    rw [if_pos rfl, Int.zero_mul, Int.zero_ediv]; split <;> rfl
  · have hmz : mulF a b ≠ 0 := by rw [hm]; split <;> omega
    unfold divF
    rw [if_neg hmz, if_neg hyz, habs, sign_small _ (by omega)]
    have hs : decide (mulF a b < 0) = (decide (a < 0) != decide (b < 0)) := by
      rw [hm]
      by_cases c : (decide (a < 0) != decide (b < 0)) = true
      · rw [c, if_pos rfl]; exact decide_eq_true (by omega)
      · rw [Bool.not_eq_true] at c
        rw [c, if_neg (by simp)]; exact decide_eq_false (by omega)
    rw [hs]
    have : ((decide (a < 0) != decide (b < 0)) != decide (b < 0)) = decide (a < 0) := by
      cases decide (a < 0) <;> cases decide (b < 0) <;> rfl
    rw [this]
theorem one_quo {b : Int} (hb : Sm b) (h : b ≠ 0) : absF (divF 1 b) = 4294967296 / absF b ∧ 0 ≤ 4294967296 / absF b ∧ 4294967296 / absF b ≤ 4294967296 := by
  have hy := abs_Sm hb
  have hyz : absF b ≠ 0 := fun e => h ((absR_zero (Sm_Rg hb)).1 e)
  have h0 : 0 ≤ 4294967296 / absF b := Int.ediv_nonneg (by omega) hy.1
  have h1 : 4294967296 / absF b ≤ 4294967296 := Int.ediv_le_self _ (by omega)
  refine ⟨?_, h0, h1⟩
  have e : absF 1 = 1 := by decide
  unfold divF
  rw [if_neg (by omega), if_neg hyz, e, Int.one_mul, sign_small _ (by omega)]
  exact abs_ite h0 (by omega)
theorem back_off {a b : Int} (ha : Sm a) (hb : Sm b) (h : b ≠ 0) : absF (subF (divF (mulF a b) b) a) ≤ absF (divF 1 b) + 1 ∧ absF (divF 1 b) ≤ 4294967296 ∧ 0 ≤ absF (divF 1 b) := by
  obtain ⟨q1, q2, q3⟩ := back_quo ha hb h
  obtain ⟨d1, d2, d3⟩ := one_quo hb h
  rw [d1]
  refine ⟨?_, d3, d2⟩
  rw [q1]
  have hx := abs_Sm ha
  have hy := abs_Sm hb
  have hp := prod_Sm hx.1 hx.2 hy.1 hy.2
  have hyz : absF b ≠ 0 := fun e => h ((absR_zero (Sm_Rg hb)).1 e)
  have key : absF a - 4294967296 / absF b - 1 ≤ absF a * absF b / 4294967296 * 4294967296 / absF b := by
    refine (Int.le_ediv_iff_mul_le (by omega)).2 ?_
    have e1 := Int.mul_ediv_add_emod 4294967296 (absF b)
    have e2 := Int.emod_lt_of_pos 4294967296 (b := absF b) (by omega)
    rw [Int.mul_comm] at e1
    have e3 : (absF a - 4294967296 / absF b - 1) * absF b = absF a * absF b - 4294967296 / absF b * absF b - absF b := by
      rw [Int.sub_mul, Int.sub_mul, Int.one_mul]
    rw [e3]; omega
  generalize absF a * absF b / 4294967296 * 4294967296 / absF b = m at *
  have hA := absR (Sm_Rg ha)
  have e : subF (if decide (a < 0) then -m else m) a = (if decide (a < 0) then -m else m) - a := by
    have hr : Rg (if decide (a < 0) then -m else m) := by unfold Rg; split <;> omega
    unfold subF
    rw [negR (Sm_Rg ha), addR hr (Rg_neg (Sm_Rg ha)), satR]
    · omega
    · unfold Rg Sm at *; split <;> omega
  rw [e]
  have e2 : absF ((if decide (a < 0) then -m else m) - a) = absF a - m := by
    rw [absR (by unfold Rg Sm at *; split <;> omega), hA]
    by_cases c : a < 0
    · have e3 : (if decide (a < 0) = true then -m else m) = -m := by rw [decide_eq_true c]; rfl
      rw [e3, if_pos c]; rw [hA, if_pos c] at q3; split <;> omega
    · have e3 : (if decide (a < 0) = true then -m else m) = m := by rw [decide_eq_false c]; rfl
      rw [e3, if_neg c]; rw [hA, if_neg c] at q3; split <;> omega
  rw [e2]; omega
theorem back_root {x : Int} (h0 : 0 ≤ x) (h1 : x < 70368744177664) :
    0 ≤ sqrtF x ∧ sqrtF x < 281474976710656 ∧ 0 ≤ mulF 2 (sqrtF x) ∧ mulF 2 (sqrtF x) ≤ 281474976710656 ∧ 0 ≤ subF x (mulF (sqrtF x) (sqrtF x)) ∧ subF x (mulF (sqrtF x) (sqrtF x)) ≤ 2 * sqrtF x + 1 := by
  have hb : 0 ≤ sqrtF x ∧ sqrtF x < 281474976710656 ∧ sqrtF x * sqrtF x ≤ x * 4294967296 ∧ x * 4294967296 < (sqrtF x + 1) * (sqrtF x + 1) := by
    by_cases c : 0 < x
    · exact sqrt_spec c (by omega)
    · have : x = 0 := by omega
      subst this; decide
  obtain ⟨b0, b1, b2, b3⟩ := hb
  generalize sqrtF x = s at *
  have hs : Rg s := by unfold Rg; omega
  have es : absF s = s := by rw [absR hs, if_neg (by omega)]
  have e2 : absF 2 = 2 := by decide
  have ds : decide (s < 0) = false := decide_eq_false (by omega)
  have ss : 0 ≤ s * s := Int.mul_nonneg b0 b0
  have m1 : mulF s s = s * s / 4294967296 := by
    unfold mulF; rw [es, ds, sign_small _ (by omega)]; rfl
  have m2 : mulF 2 s = 2 * s / 4294967296 := by
    unfold mulF; rw [es, e2, ds, sign_small _ (by omega)]; rfl
  have rs : Rg (s * s / 4294967296) := by unfold Rg; omega
  have sb : subF x (s * s / 4294967296) = x - s * s / 4294967296 := by
    unfold subF
    rw [negR rs, addR (by unfold Rg; omega) (Rg_neg rs), satR (by unfold Rg; omega)]; omega
  rw [m1, m2, sb]
  have e3 : (s + 1) * (s + 1) = s * s + 2 * s + 1 := by rw [Int.add_mul, Int.mul_add]; omega
  rw [e3] at b3
  refine ⟨b0, b1, by omega, by omega, by omega, by omega⟩
end Go.Proofs.Ytekcehhoimhjeaa.Fx
