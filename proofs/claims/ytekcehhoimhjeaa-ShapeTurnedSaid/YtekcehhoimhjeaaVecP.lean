/- Lengths, plain: what a length says of the squares, and a unit vector's length. -/
import Derived.Test.YtekcehhoimhjeaaVecM
namespace Go.Proofs.Ytekcehhoimhjeaa.Fx
set_option linter.unusedVariables false

theorem lt_or_le (x y : Int) : x < y ∨ y ≤ x := by omega
theorem sq_le {x y : Int} (h0 : 0 ≤ x) (h : x ≤ y) : x * x ≤ y * y := Int.mul_le_mul h h h0 (by omega)
theorem sq_add (x y : Int) : (x + y) * (x + y) = x * x + 2 * (x * y) + y * y := by
  rw [Int.add_mul, Int.mul_add, Int.mul_add, Int.mul_comm y x]; omega
theorem sq_lt {x y : Int} (h0 : 0 ≤ x) (h : x < y) : x * x < y * y := by
  have h1 := sq_le (x := x + 1) (y := y) (by omega) (by omega)
  rw [sq_add] at h1; omega
theorem lt_of_sq {x y : Int} (hy : 0 ≤ y) (h : x * x < y * y) : x < y := by
  rcases lt_or_le x y with c | c
  · exact c
  · have := sq_le hy c; omega
theorem le_of_sq {x y : Int} (hy : 0 ≤ y) (h : x * x ≤ y * y) : x ≤ y := by
  rcases lt_or_le y x with c | c
  · have := sq_lt hy c; omega
  · exact c
theorem sq_nn (x : Int) : 0 ≤ x * x := by
  rcases Int.le_total 0 x with h | h
  · exact Int.mul_nonneg h h
  · have := Int.mul_nonneg (a := -x) (b := -x) (by omega) (by omega)
    rw [Int.neg_mul_neg] at this; exact this
theorem abs_sq {a : Int} (h : Rg a) : absF a * absF a = a * a := by
  rw [absR h]; split
  · rw [Int.neg_mul_neg]
  · rfl
theorem prod_in {x y X Y : Int} (hx0 : -X ≤ x) (hx1 : x ≤ X) (hy0 : -Y ≤ y) (hy1 : y ≤ Y) : -(X * Y) ≤ x * y ∧ x * y ≤ X * Y := by
  rcases Int.le_total 0 x with h | h
  · have a1 : x * y ≤ x * Y := Int.mul_le_mul_of_nonneg_left hy1 h
    have a2 : x * (-Y) ≤ x * y := Int.mul_le_mul_of_nonneg_left hy0 h
    have a3 : x * Y ≤ X * Y := Int.mul_le_mul_of_nonneg_right hx1 (by omega)
    rw [Int.mul_neg] at a2
    omega
  · have a1 : (-x) * y ≤ (-x) * Y := Int.mul_le_mul_of_nonneg_left hy1 (by omega)
    have a2 : (-x) * (-Y) ≤ (-x) * y := Int.mul_le_mul_of_nonneg_left hy0 (by omega)
    have a3 : (-x) * Y ≤ X * Y := Int.mul_le_mul_of_nonneg_right (by omega) (by omega)
    rw [Int.neg_mul_neg] at a2
    rw [Int.neg_mul] at a1 a2 a3
    rw [Int.neg_mul] at a1
    omega
/-- a product is rounded by less than a unit -/
theorem mul_near {a b : Int} (ha : Sm a) (hb : Sm b) : -4294967296 < 4294967296 * mulF a b - a * b ∧ 4294967296 * mulF a b - a * b < 4294967296 := by
  have hx := abs_Sm ha
  have hy := abs_Sm hb
  have hp := prod_Sm hx.1 hx.2 hy.1 hy.2
  have e : mulF a b = if (decide (a < 0) != decide (b < 0)) = true then -(absF a * absF b / 4294967296) else absF a * absF b / 4294967296 := by
    unfold mulF; exact sign_small _ (by omega)
  have f : a * b = if (decide (a < 0) != decide (b < 0)) = true then -(absF a * absF b) else absF a * absF b := by
    rw [absR (Sm_Rg ha), absR (Sm_Rg hb)]
    by_cases c : a < 0 <;> by_cases d : b < 0 <;> simp [c, d, Int.neg_mul, Int.mul_neg]
  rw [e, f]
  generalize absF a * absF b = p at *
  split <;> omega
theorem mul_self {a : Int} (ha : Sm a) : mulF a a = a * a / 4294967296 ∧ 0 ≤ a * a ∧ a * a ≤ 4951760157141380478003019809 + 1000000000000000 := by
  have hx := abs_Sm ha
  have hp := prod_Sm hx.1 hx.2 hx.1 hx.2
  rw [abs_sq (Sm_Rg ha)] at hp
  refine ⟨?_, hp.1, hp.2⟩
  unfold mulF
  rw [abs_sq (Sm_Rg ha), show (decide (a < 0) != decide (a < 0)) = false by simp, sign_small _ (by omega)]; simp
/-- a length squared, and one more squared, against the sum of squares -/
theorem len_spec {a b : Int} (ha : Sm a) (hb : Sm b) : 0 ≤ lenF a b ∧ lenF a b * lenF a b ≤ a * a + b * b ∧ a * a + b * b < (lenF a b + 1) * (lenF a b + 1) + 8589934592 := by
  obtain ⟨e1, p1, q1⟩ := mul_self ha
  obtain ⟨e2, p2, q2⟩ := mul_self hb
  have ed : addF (mulF a a) (mulF b b) = a * a / 4294967296 + b * b / 4294967296 := by
    rw [addR (rg_mul _ _) (rg_mul _ _), e1, e2, satR (by unfold Rg; omega)]
  unfold lenF
  rw [ed]
  generalize a * a = p at *
  generalize b * b = q at *
  by_cases c : 0 < p / 4294967296 + q / 4294967296
  · obtain ⟨a1, a2, a3, a4⟩ := sqrt_spec c (by omega)
    generalize sqrtF (p / 4294967296 + q / 4294967296) = n at *
    exact ⟨a1, by omega, by omega⟩
  · have : sqrtF (p / 4294967296 + q / 4294967296) = 0 := by unfold sqrtF; rw [if_pos (by omega)]
    rw [this]; omega
theorem len_part {a n S : Int} (hn : 0 ≤ n) (h0 : 0 ≤ a) (h : a * a ≤ S) (hS : S < (n + 1) * (n + 1) + 8589934592) : a < n + 131073 := by
  refine lt_of_sq (by omega) ?_
  have e1 := sq_add (n + 1) 131072
  rw [show n + 1 + 131072 = n + 131073 by omega] at e1
  have : 0 ≤ (n + 1) * 131072 := Int.mul_nonneg (by omega) (by omega)
  omega
/-- a quotient by a length -/
theorem div_len {a n : Int} (ha : Rg a) (hn : 42949500 ≤ n) (hm : n < 281474976710656) (h : absF a < n + 131073) :
    0 ≤ absF (divF a n) ∧ absF (divF a n) ≤ 4308100000 ∧ absF (divF a n) * n ≤ absF a * 4294967296 ∧ absF a * 4294967296 < (absF (divF a n) + 1) * n ∧ Sm (divF a n) := by
  have hb := absR_bd ha
  have e : divF a n = signF (absF a * 4294967296 / n) (decide (a < 0)) := div_eq ha (by unfold Rg; omega) (by omega)
  have q0 : 0 ≤ absF a * 4294967296 / n := Int.ediv_nonneg (by omega) (by omega)
  have q1 : absF a * 4294967296 / n ≤ 4308100000 := by
    have : absF a * 4294967296 / n < 4308100001 := (Int.ediv_lt_iff_lt_mul (by omega)).2 (by omega)
    omega
  have f : absF (divF a n) = absF a * 4294967296 / n := by
    rw [e, sign_small _ (by omega)]; exact abs_ite q0 (by omega)
  have g := Int.emod_add_mul_ediv (absF a * 4294967296) n
  have g0 := Int.emod_nonneg (absF a * 4294967296) (show n ≠ 0 by omega)
  have g1 := Int.emod_lt_of_pos (absF a * 4294967296) (show 0 < n by omega)
  rw [f]
  rw [Int.mul_comm n] at g
  refine ⟨q0, q1, by omega, by rw [Int.add_mul]; omega, ?_⟩
  rw [e, sign_small _ (by omega)]
  unfold Sm; split <;> omega
theorem unit_len {a b : Int} (ha : -17179869184000 ≤ a ∧ a ≤ 17179869184000) (hb : -17179869184000 ≤ b ∧ b ≤ 17179869184000) (hx : 42949672 ≤ absF a ∨ 42949672 ≤ absF b) :
    -4294967 < lenF (divF a (lenF a b)) (divF b (lenF a b)) - 4294967296 ∧ lenF (divF a (lenF a b)) (divF b (lenF a b)) - 4294967296 < 4294967 := by
  have sa : Sm a := by unfold Sm; omega
  have sb : Sm b := by unfold Sm; omega
  have ra := Sm_Rg sa
  have rb := Sm_Rg sb
  obtain ⟨n0, n1, n2⟩ := len_spec sa sb
  have nM := (sqrt_bd (addF (mulF a a) (mulF b b))).2
  change lenF a b < _ at nM
  generalize lenF a b = n at *
  have qa := abs_sq ra
  have qb := abs_sq rb
  have pa := absF_nn a
  have pb := absF_nn b
  have za := sq_nn a
  have zb := sq_nn b
  have big : 42949500 ≤ n := by
    rcases lt_or_le n 42949500 with c | c
    · have h1 := sq_le (x := n + 1) (y := 42949500) (by omega) (by omega)
      rcases hx with hx | hx
      · have h2 := sq_le (x := 42949672) (by omega) hx; omega
      · have h2 := sq_le (x := 42949672) (by omega) hx; omega
    · exact c
  have la : absF a < n + 131073 := len_part n0 pa (by omega) n2
  have lb : absF b < n + 131073 := len_part n0 pb (by omega) n2
  obtain ⟨u0, u1, u2, u3, u4⟩ := div_len ra big nM la
  obtain ⟨v0, v1, v2, v3, v4⟩ := div_len rb big nM lb
  obtain ⟨m0, m1, m2⟩ := len_spec u4 v4
  rw [← abs_sq (Sm_Rg u4), ← abs_sq (Sm_Rg v4)] at m1 m2
  generalize lenF (divF a n) (divF b n) = m at *
  generalize absF (divF a n) = u at *
  generalize absF (divF b n) = v at *
  generalize absF a = x at *
  generalize absF b = y at *
  -- the squares of the bounds
  have w1 := sq_le (Int.mul_nonneg u0 n0) u2
  have w2 := sq_le (Int.mul_nonneg v0 n0) v2
  have w3 := sq_lt (Int.mul_nonneg pa (by omega)) u3
  have w4 := sq_lt (Int.mul_nonneg pb (by omega)) v3
  have mix : ∀ s t : Int, s * t * (s * t) = s * s * (t * t) := fun s t => by
    rw [Int.mul_assoc s t, Int.mul_assoc s s, Int.mul_left_comm t s t]
  rw [mix, mix] at w1 w2 w3 w4
  have nn := sq_nn n
  have n3 : 42949500 * n ≤ n * n := Int.mul_le_mul_of_nonneg_right big n0
  have e1 := sq_add n 1
  have e2 := sq_add u 1
  have e3 := sq_add v 1
  have e4 := sq_add m 1
  constructor
  · -- not too short
    rcases lt_or_le (-4294967) (m - 4294967296) with c | c
    · exact c
    · exfalso
      have h1 := sq_le (x := m + 1) (y := 4290672330) (by omega) (by omega)
      have h2 : (u + 1) * (u + 1) + (v + 1) * (v + 1) ≤ 18446744073709551616 := by omega
      have h3 : ((u + 1) * (u + 1) + (v + 1) * (v + 1)) * (n * n) ≤ 18446744073709551616 * (n * n) := Int.mul_le_mul_of_nonneg_right h2 nn
      rw [Int.add_mul] at h3
      omega
  · rcases lt_or_le (m - 4294967296) 4294967 with c | c
    · exact c
    · exfalso
      have h1 := sq_le (x := 4299262263) (y := m) (by omega) (by omega)
      have h2 : 4299262263 * 4299262263 ≤ u * u + v * v := by omega
      have h3 : 4299262263 * 4299262263 * (n * n) ≤ (u * u + v * v) * (n * n) := Int.mul_le_mul_of_nonneg_right h2 nn
      rw [Int.add_mul] at h3
      omega
end Go.Proofs.Ytekcehhoimhjeaa.Fx
