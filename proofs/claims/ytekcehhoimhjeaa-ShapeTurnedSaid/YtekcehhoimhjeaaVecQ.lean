/- Lengths, plain: a length against its parts, and the way along two others. -/
import Derived.Test.YtekcehhoimhjeaaVecP
namespace Go.Proofs.Ytekcehhoimhjeaa.Fx
set_option linter.unusedVariables false

theorem lens_sum {a b : Int} (ha : Sm a) (hb : Sm b) : lenF a b ≤ absF a + absF b := by
  obtain ⟨n0, n1, n2⟩ := len_spec ha hb
  have pa := absF_nn a
  have pb := absF_nn b
  rw [← abs_sq (Sm_Rg ha), ← abs_sq (Sm_Rg hb)] at n1
  refine le_of_sq (by omega) ?_
  have := Int.mul_nonneg pa pb
  rw [sq_add]; omega
theorem lens_part {a b : Int} (ha : Sm a) (hb : Sm b) : absF a < lenF a b + 131073 ∧ absF b < lenF a b + 131073 := by
  obtain ⟨n0, n1, n2⟩ := len_spec ha hb
  have za := sq_nn a
  have zb := sq_nn b
  have qa := abs_sq (Sm_Rg ha)
  have qb := abs_sq (Sm_Rg hb)
  exact ⟨len_part n0 (absF_nn a) (by omega) n2, len_part n0 (absF_nn b) (by omega) n2⟩
theorem lagrange (a b c d : Int) : (a * a + b * b) * (c * c + d * d) = (a * c + b * d) * (a * c + b * d) + (a * d - b * c) * (a * d - b * c) := by
  simp only [Int.mul_add, Int.mul_sub, Int.mul_comm, Int.mul_left_comm]
  omega
theorem len_wide {S n : Int} (n0 : 0 ≤ n) (n2 : S < (n + 1) * (n + 1) + 8589934592) : S < (n + 131072) * (n + 131072) := by
  have e := sq_add (n + 1) 131071
  rw [show n + 1 + 131071 = n + 131072 by omega] at e
  have : 0 ≤ (n + 1) * 131071 := Int.mul_nonneg (by omega) (by omega)
  omega
theorem lens_tri {a b c d : Int} (ha : Sm a) (hb : Sm b) (hc : Sm c) (hd : Sm d) (he : Sm (a + c)) (hf : Sm (b + d)) :
    lenF (a + c) (b + d) ≤ lenF a b + lenF c d + 262144 := by
  obtain ⟨n0, n1, n2⟩ := len_spec ha hb
  obtain ⟨k0, k1, k2⟩ := len_spec hc hd
  obtain ⟨m0, m1, m2⟩ := len_spec he hf
  have hp := len_wide n0 n2
  have hq := len_wide k0 k2
  generalize lenF a b = n at *
  generalize lenF c d = k at *
  generalize lenF (a + c) (b + d) = m at *
  obtain ⟨P, eP⟩ : ∃ P, P = n + 131072 := ⟨_, rfl⟩
  obtain ⟨Q, eQ⟩ : ∃ Q, Q = k + 131072 := ⟨_, rfl⟩
  rw [← eP] at hp
  rw [← eQ] at hq
  have P0 : 0 ≤ P := by omega
  have Q0 : 0 ≤ Q := by omega
  have PQ : 0 ≤ P * Q := Int.mul_nonneg P0 Q0
  have zc := sq_nn c
  have zd := sq_nn d
  have zp := sq_nn P
  have L := lagrange a b c d
  have zl := sq_nn (a * d - b * c)
  have hm : (a * a + b * b) * (c * c + d * d) ≤ P * P * (Q * Q) := Int.mul_le_mul (by omega) (by omega) (by omega) (by omega)
  have e : P * P * (Q * Q) = P * Q * (P * Q) := by rw [Int.mul_assoc P P, Int.mul_assoc P Q, Int.mul_left_comm Q P Q]
  have hg : a * c + b * d ≤ P * Q := le_of_sq PQ (by omega)
  have hs := sq_add P Q
  have ha2 := sq_add a c
  have hb2 := sq_add b d
  have : m < P + Q := lt_of_sq (by omega) (by omega)
  omega
end Go.Proofs.Ytekcehhoimhjeaa.Fx
