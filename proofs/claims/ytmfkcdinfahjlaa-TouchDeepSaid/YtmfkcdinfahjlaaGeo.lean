/- Plain words for two convex polygons: where no side parts them, no rectangle does, nearly. -/
import Derived.Test.YtmfkcdinfahjlaaTouchP
import Derived.Test.YtmfkcdinfahjlaaMid
namespace Go.Proofs.Ytmfkcdinfahjlaa.Fx
set_option linter.unusedVariables false

theorem ab_nn (z : Int) : 0 ≤ ab z := by unfold ab; split <;> omega
theorem ab_le (z : Int) : z ≤ ab z ∧ -z ≤ ab z := by unfold ab; split <;> omega
theorem ab_neg (z : Int) : ab (-z) = ab z := by unfold ab; split <;> split <;> omega
theorem ab_of {z : Int} (h : 0 ≤ z) : ab z = z := by unfold ab; rw [if_neg (by omega)]
theorem ab_of' {z : Int} (h : z ≤ 0) : ab z = -z := by unfold ab; split <;> omega
theorem ab_mul {z p : Int} (hp : 0 ≤ p) : ab (z * p) = ab z * p := by
  unfold ab
  by_cases h : z < 0
  · rw [if_pos h]
    by_cases h2 : p = 0
    · subst h2; simp
    · have := Int.mul_neg_of_neg_of_pos h (show 0 < p by omega)
      rw [if_pos this, Int.neg_mul]
  · rw [if_neg h]
    have := Int.mul_nonneg (show 0 ≤ z by omega) hp
    rw [if_neg (by omega)]
theorem ab_add (a b : Int) : ab (a + b) ≤ ab a + ab b := by unfold ab; split <;> split <;> split <;> omega
theorem mul_l {a b c : Int} (h : 0 ≤ a) (k : b ≤ c) : a * b ≤ a * c := Int.mul_le_mul_of_nonneg_left k h

/-- two ways on both sides of (1, 0), of one polygon -/
theorem cone_one {a1 b1 a2 b2 dx dy K τ s1 s2 : Int} (h1 : b1 ≤ 0) (h2 : 0 ≤ b2) (e1 : ab a1 + ab b1 = s1) (e2 : ab a2 + ab b2 = s2) (p1 : 0 < s1) (p2 : 0 < s2) (hK : 0 ≤ K) (hτ : 0 ≤ τ)
    (hf : s1 * s2 ≤ K * (a1 * b2 - b1 * a2)) (d1 : a1 * dx + b1 * dy ≤ τ * s1) (d2 : a2 * dx + b2 * dy ≤ τ * s2) : dx ≤ 2 * (K * τ) := by
  have q1 := Int.mul_pos p1 p2
  have l1 : -b1 ≤ s1 := by have := ab_le b1; have := ab_nn a1; omega
  have l2 : b2 ≤ s2 := by have := ab_le b2; have := ab_nn a2; omega
  have hx : 0 < a1 * b2 - b1 * a2 := by
    rcases Int.lt_or_le 0 (a1 * b2 - b1 * a2) with h | h
    · exact h
    · have := mul_l hK h
      omega
  rcases Int.lt_or_le (2 * (K * τ)) dx with h | h
  · exfalso
    -- (n1 x n2) dx = b2 (n1 D) - b1 (n2 D)
    have i1 : (a1 * b2 - b1 * a2) * dx = b2 * (a1 * dx + b1 * dy) + (-b1) * (a2 * dx + b2 * dy) := by grind
    have i2 := mul_l h2 d1
    have i3 := mul_l (show 0 ≤ -b1 by omega) d2
    have i4 : b2 * (τ * s1) ≤ τ * (s1 * s2) := by
      have := mul_l (Int.mul_nonneg hτ (show 0 ≤ s1 by omega)) l2
      grind
    have i5 : (-b1) * (τ * s2) ≤ τ * (s1 * s2) := by
      have := mul_l (Int.mul_nonneg hτ (show 0 ≤ s2 by omega)) l1
      grind
    have i6 := mul_l hτ hf
    have i7 : (a1 * b2 - b1 * a2) * (2 * (K * τ)) < (a1 * b2 - b1 * a2) * dx := Int.mul_lt_mul_of_pos_left h hx
    have i8 : (a1 * b2 - b1 * a2) * (2 * (K * τ)) = 2 * (τ * (K * (a1 * b2 - b1 * a2))) := by grind
    omega
  · exact h

/-- the lower way of one polygon and the upper of another, each within the other's -/
theorem cone_two {a1 b1 a2 b2 c1 d1 dx dy K τ s1 s2 t1 : Int} (h1 : b1 ≤ 0) (h2 : 0 ≤ b2) (h3 : d1 ≤ 0) (e1 : ab a1 + ab b1 = s1) (e2 : ab a2 + ab b2 = s2) (e3 : ab c1 + ab d1 = t1) (p1 : 0 < s1) (p2 : 0 < s2) (p3 : 0 < t1)
    (hK : 1 ≤ K) (hτ : 0 ≤ τ) (hf : s1 * s2 ≤ K * (a1 * b2 - b1 * a2)) (hc : d1 = 0 → 0 < c1) (hin : 0 ≤ a1 * d1 - b1 * c1)
    (D1 : c1 * dx + d1 * dy ≤ τ * t1) (D2 : a2 * dx + b2 * dy ≤ τ * s2) : dx ≤ 2 * (K * τ) := by
  have hKτ : τ ≤ 2 * (K * τ) := by
    have := Int.mul_le_mul_of_nonneg_right hK hτ
    omega
  by_cases hd : d1 = 0
  · subst hd
    have hc := hc rfl
    have : t1 = c1 := by rw [← e3, ab_of (by omega)]; unfold ab; simp
    subst this
    rcases Int.lt_or_le τ dx with h | h
    · exfalso
      have := Int.mul_lt_mul_of_pos_left h hc
      rw [Int.mul_comm t1 τ] at this
      omega
    · omega
  · have q1 := Int.mul_pos p1 p2
    have hx : 0 < a1 * b2 - b1 * a2 := by
      rcases Int.lt_or_le 0 (a1 * b2 - b1 * a2) with h | h
      · exact h
      · have := mul_l (show 0 ≤ K by omega) h
        omega
    have q0 : 0 < -d1 := by omega
    have p0 : 0 < -b1 := by
      rcases Int.lt_or_le 0 (-b1) with h | h
      · exact h
      · exfalso
        obtain rfl : b1 = 0 := by omega
        have a0 : 0 < a1 := by
          rcases Int.lt_or_le 0 a1 with h | h
          · exact h
          · have := mul_l h2 h
            rw [Int.mul_comm b2 a1] at this
            omega
        have := Int.mul_pos a0 q0
        rw [Int.mul_neg] at this
        omega
    rcases Int.lt_or_le (2 * (K * τ)) dx with h | h
    · exfalso
      -- p (m1 x n2) = q (n1 x n2) + b2 (n1 x m1)
      have i1 : (-b1) * ((c1 * b2 - d1 * a2) * dx) = (-d1) * (a1 * b2 - b1 * a2) * dx + b2 * (a1 * d1 - b1 * c1) * dx := by grind
      have i2 : (c1 * b2 - d1 * a2) * dx = b2 * (c1 * dx + d1 * dy) + (-d1) * (a2 * dx + b2 * dy) := by grind
      have i3 := mul_l h2 D1
      have i4 := mul_l (show 0 ≤ -d1 by omega) D2
      have i5 : (-b1) * ((c1 * b2 - d1 * a2) * dx) ≤ (-b1) * (b2 * (τ * t1) + (-d1) * (τ * s2)) := mul_l (by omega) (by omega)
      -- p t1 ≤ s1 q + n1 x m1
      have j1 : (-b1) * t1 ≤ s1 * (-d1) + (a1 * d1 - b1 * c1) := by
        have k1 : ab c1 * (-b1) = ab (a1 * (-d1) + (a1 * d1 - b1 * c1)) := by rw [← ab_mul (by omega)]; congr 1; grind
        have k2 := ab_add (a1 * (-d1)) (a1 * d1 - b1 * c1)
        rw [ab_mul (by omega), ab_of hin] at k2
        have k3 : ab d1 = -d1 := ab_of' h3
        have k4 : ab b1 = -b1 := ab_of' h1
        rw [← e3, ← e1, k3, k4]
        have k5 : -b1 * (ab c1 + -d1) = ab c1 * (-b1) + (-b1) * (-d1) := by grind
        have k6 : (ab a1 + -b1) * -d1 = ab a1 * (-d1) + (-b1) * (-d1) := by grind
        omega
      have l1 : -b1 ≤ s1 := by have := ab_le b1; have := ab_nn a1; omega
      have l2 : b2 ≤ s2 := by have := ab_le b2; have := ab_nn a2; omega
      have j2 := mul_l (Int.mul_nonneg h2 hτ) j1
      have j3 : b2 * τ * (s1 * (-d1) + (a1 * d1 - b1 * c1)) = τ * (-d1) * (b2 * s1) + τ * (b2 * (a1 * d1 - b1 * c1)) := by grind
      have n1 : 0 ≤ τ * (-d1) := Int.mul_nonneg hτ (by omega)
      have j4 : b2 * s1 ≤ K * (a1 * b2 - b1 * a2) := by
        have := mul_l (show 0 ≤ s1 by omega) l2
        rw [Int.mul_comm s1 b2] at this
        omega
      have j5 : (-b1) * s2 ≤ K * (a1 * b2 - b1 * a2) := by
        have := mul_l (show 0 ≤ s2 by omega) l1
        rw [Int.mul_comm s2 (-b1), Int.mul_comm s2 s1] at this
        omega
      have j6 := mul_l n1 j4
      have j7 := mul_l n1 j5
      have j8 : (-b1) * (b2 * (τ * t1) + (-d1) * (τ * s2)) = b2 * τ * ((-b1) * t1) + τ * (-d1) * ((-b1) * s2) := by grind
      have j9 : (-d1) * (a1 * b2 - b1 * a2) * (2 * (K * τ)) < (-d1) * (a1 * b2 - b1 * a2) * dx := Int.mul_lt_mul_of_pos_left h (Int.mul_pos q0 hx)
      have j10 : b2 * (a1 * d1 - b1 * c1) * τ ≤ b2 * (a1 * d1 - b1 * c1) * dx := mul_l (Int.mul_nonneg h2 hin) (by omega)
      have j11 : (-d1) * (a1 * b2 - b1 * a2) * (2 * (K * τ)) = 2 * (τ * (-d1) * (K * (a1 * b2 - b1 * a2))) := by grind
      have j12 : b2 * (a1 * d1 - b1 * c1) * τ = τ * (b2 * (a1 * d1 - b1 * c1)) := by grind
      omega
    · exact h

/-- the lower way that lies nearer to (1, 0) lies below the upper one -/
theorem cone_up {a1 b1 c1 d1 a2 b2 : Int} (h1 : b1 ≤ 0) (h3 : d1 ≤ 0) (h2 : 0 ≤ b2) (hx : 0 < a1 * b2 - b1 * a2) (hc : d1 = 0 → 0 < c1) (hin : 0 ≤ a1 * d1 - b1 * c1) : 0 ≤ c1 * b2 - d1 * a2 := by
  have i : (-b1) * (c1 * b2 - d1 * a2) = (a1 * b2 - b1 * a2) * (-d1) + b2 * (a1 * d1 - b1 * c1) := by grind
  have i1 := Int.mul_nonneg (show 0 ≤ a1 * b2 - b1 * a2 by omega) (show 0 ≤ -d1 by omega)
  have i2 := Int.mul_nonneg h2 hin
  by_cases hb : b1 = 0
  · subst hb
    have a0 : 0 < a1 := by
      rcases Int.lt_or_le 0 a1 with h | h
      · exact h
      · have := mul_l h2 h
        rw [Int.mul_comm b2 a1] at this
        omega
    have d0 : d1 = 0 := by
      rcases Int.lt_or_le d1 0 with h | h
      · have := Int.mul_pos a0 (show 0 < -d1 by omega)
        rw [Int.mul_neg] at this
        omega
      · omega
    have := hc d0
    have := Int.mul_nonneg (show 0 ≤ c1 by omega) h2
    subst d0
    omega
  · rcases Int.lt_or_le (c1 * b2 - d1 * a2) 0 with h | h
    · have := Int.mul_neg_of_pos_of_neg (show 0 < -b1 by omega) h
      omega
    · exact h
/-- both pairs of ways -/
theorem cones {a1 b1 a2 b2 c1 d1 c2 d2 dx dy K τ s1 s2 t1 t2 : Int} (h1 : b1 ≤ 0) (h2 : 0 ≤ b2) (h3 : d1 ≤ 0) (h4 : 0 ≤ d2) (e1 : ab a1 + ab b1 = s1) (e2 : ab a2 + ab b2 = s2) (e3 : ab c1 + ab d1 = t1) (e4 : ab c2 + ab d2 = t2)
    (p1 : 0 < s1) (p2 : 0 < s2) (p3 : 0 < t1) (p4 : 0 < t2) (hK : 1 ≤ K) (hτ : 0 ≤ τ) (hf : s1 * s2 ≤ K * (a1 * b2 - b1 * a2)) (hg : t1 * t2 ≤ K * (c1 * d2 - d1 * c2))
    (D1 : 0 ≤ c1 * b1 - d1 * a1 → 0 ≤ a1 * d2 - b1 * c2 → a1 * dx + b1 * dy ≤ τ * s1)
    (D2 : 0 ≤ c1 * b2 - d1 * a2 → 0 ≤ a2 * d2 - b2 * c2 → a2 * dx + b2 * dy ≤ τ * s2)
    (D3 : 0 ≤ a1 * d1 - b1 * c1 → 0 ≤ c1 * b2 - d1 * a2 → c1 * dx + d1 * dy ≤ τ * t1)
    (D4 : 0 ≤ a1 * d2 - b1 * c2 → 0 ≤ c2 * b2 - d2 * a2 → c2 * dx + d2 * dy ≤ τ * t2) : dx ≤ 2 * (K * τ) := by
  have hx : 0 < a1 * b2 - b1 * a2 := by
    have := Int.mul_pos p1 p2
    rcases Int.lt_or_le 0 (a1 * b2 - b1 * a2) with h | h
    · exact h
    · have := mul_l (show 0 ≤ K by omega) h
      omega
  have hy : 0 < c1 * d2 - d1 * c2 := by
    have := Int.mul_pos p3 p4
    rcases Int.lt_or_le 0 (c1 * d2 - d1 * c2) with h | h
    · exact h
    · have := mul_l (show 0 ≤ K by omega) h
      omega
  have hc : d1 = 0 → 0 < c1 := fun e => by
    subst e
    rcases Int.lt_or_le 0 c1 with h | h
    · exact h
    · have := mul_l h4 h
      rw [Int.mul_comm d2 c1] at this
      omega
  have ha : b1 = 0 → 0 < a1 := fun e => by
    subst e
    rcases Int.lt_or_le 0 a1 with h | h
    · exact h
    · have := mul_l h2 h
      rw [Int.mul_comm b2 a1] at this
      omega
  have w1 : a1 * d1 - b1 * c1 = -(c1 * b1 - d1 * a1) := by grind
  have w2 : a2 * d2 - b2 * c2 = -(c2 * b2 - d2 * a2) := by grind
  rcases Int.lt_or_le (a1 * d1 - b1 * c1) 0 with g | g
  · -- n1 is the nearer one
    have g1 : 0 ≤ c1 * b1 - d1 * a1 := by omega
    have g2 := cone_up h3 h1 h4 hy ha g1
    rcases Int.lt_or_le (a2 * d2 - b2 * c2) 0 with k | k
    · exact cone_two h3 h4 h1 e3 e4 e1 p3 p4 p1 hK hτ hg ha g1 (D1 g1 g2) (D4 g2 (by omega))
    · have g3 : 0 ≤ c1 * b2 - d1 * a2 := by
        -- by the mirror: the upper one that lies nearer lies above the lower one
        have := cone_up (a1 := c2) (b1 := -d2) (c1 := a2) (d1 := -b2) (a2 := c1) (b2 := -d1) (by omega) (by omega) (by omega) (by grind) (fun e => by
          rcases Int.lt_or_le 0 a2 with h | h
          · exact h
          · exfalso
            obtain rfl : b2 = 0 := by omega
            have := mul_l (show 0 ≤ -b1 by omega) h
            have : a1 * 0 - b1 * a2 = -b1 * a2 := by grind
            omega) (by grind)
        grind
      exact cone_one h1 h2 e1 e2 p1 p2 (by omega) hτ hf (D1 g1 g2) (D2 g3 k)
  · have g3 := cone_up h1 h3 h2 hx hc g
    rcases Int.lt_or_le (a2 * d2 - b2 * c2) 0 with k | k
    · have g2 : 0 ≤ a1 * d2 - b1 * c2 := by
        have := cone_up (a1 := a2) (b1 := -b2) (c1 := c2) (d1 := -d2) (a2 := a1) (b2 := -b1) (by omega) (by omega) (by omega) (by grind) (fun e => by
          rcases Int.lt_or_le 0 c2 with h | h
          · exact h
          · exfalso
            obtain rfl : d2 = 0 := by omega
            have := mul_l (show 0 ≤ -d1 by omega) h
            have : c1 * 0 - d1 * c2 = -d1 * c2 := by grind
            omega) (by grind)
        grind
      exact cone_one h3 h4 e3 e4 p3 p4 (by omega) hτ hg (D3 g g3) (D4 g2 (by omega))
    · exact cone_two h1 h2 h3 e1 e2 e3 p1 p2 p3 hK hτ hf hc g (D3 g g3) (D2 g3 k)
end Go.Proofs.Ytmfkcdinfahjlaa.Fx
