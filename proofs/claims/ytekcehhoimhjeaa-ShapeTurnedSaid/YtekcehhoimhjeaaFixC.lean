/- Contracts: products. -/
import Derived.Test.YtekcehhoimhjeaaFixB
namespace Go.Proofs.Ytekcehhoimhjeaa.Fx
open Go.ChangeShapes Go.WideShapes Go.ChangeAt Go.RowKit
set_option linter.unusedVariables false

theorem or_joint (a b : Int) (h0 : 0 ≤ a) (h1 : a < 4294967296) (h2 : 0 ≤ b) (h3 : b < 4294967296) :
    bits .or .u64 (a * 4294967296) b = a * 4294967296 + b := by
  obtain ⟨n, rfl⟩ := Int.eq_ofNat_of_zero_le h0
  obtain ⟨m, rfl⟩ := Int.eq_ofNat_of_zero_le h2
  have h := bits_or_u64_nat (n * 4294967296) m (by omega) (by omega)
  have e : n * 4294967296 ||| m = n * 4294967296 + m := by
    have := Nat.two_pow_add_eq_or_of_lt (i := 32) (b := m) (by omega) n
    rw [show (2 : Nat) ^ 32 = 4294967296 from rfl, Nat.mul_comm] at this
    exact this.symm
  rw [e] at h
  simpa using h
theorem prod_bd {x y : Int} (hx0 : 0 ≤ x) (hx1 : x ≤ 9223372036854775807) (hy0 : 0 ≤ y) (hy1 : y ≤ 9223372036854775807) :
    0 ≤ x * y ∧ x * y ≤ 85070591730234615847396907784232501249 := by
  refine ⟨Int.mul_nonneg hx0 hy0, ?_⟩
  have := Int.mul_le_mul hx1 hy1 hy0 (by omega)
  omega
/-- what the code makes of a product of two words -/
theorem join_words (p : Int) (h0 : 0 ≤ p) (h : p / 18446744073709551616 / 4294967296 = 0) :
    bits .or .u64 (IntKind.u64.wrap (p / 18446744073709551616 * 4294967296)) (p % 18446744073709551616 / 4294967296) = p / 4294967296 := by
  rw [IntKind.wrap_u64]
  have e : p / 18446744073709551616 * 4294967296 % 18446744073709551616 = p / 18446744073709551616 * 4294967296 := by omega
  rw [e, or_joint _ _ (by omega) (by omega) (by omega) (by omega)]
  omega
theorem signF_big (n : Int) (t : Bool) (h : 9223372036854775807 ≤ n) : signF n t = signF 9223372036854775807 t := by
  unfold signF; split
  · rw [if_neg (by omega), if_neg (by omega)]
  · rw [if_neg (by omega), if_neg (by omega)]
set_option maxHeartbeats 1000000 in
theorem mul_c (a b : Int) (w : World) (ha : I64 a) (hb : I64 b) :
    Calls Try.prog 23 #[.int .i64 a, .int .i64 b] w fun e w' => e = .returned (.int .i64 (mulF a b)) ∧ w = w' := by
  have hx := absF_bd ha
  have hy := absF_bd hb
  unfold M at hx hy
  obtain ⟨hx0, hx1⟩ := hx
  obtain ⟨hy0, hy1⟩ := hy
  have hp := prod_bd hx0 hx1 hy0 hy1
  obtain ⟨hp0, hp1⟩ := hp
  have HF : Hid (mulF a b = signF (absF a * absF b / 4294967296) (decide (a < 0) != decide (b < 0))) := rfl
  have hx2 : absF a ≤ 18446744073709551615 := by omega
  have hy2 : absF b ≤ 18446744073709551615 := by omega
  by_cases hc : absF a * absF b / 18446744073709551616 / 4294967296 = 0
  · have HJ : Hid _ := join_words _ hp0 hc
    have hc' : (absF a * absF b / 18446744073709551616 / 4294967296 == 0) = true := by simp [hc]
    clear hc
    go_enter Try.func23, Try.ntmps23
    go_wp2_with (first | (go_at_call 39; first | (refine (size_c _ _ ha).mono ?_; rintro e w' ⟨rfl, rfl⟩) | (refine (size_c _ _ hb).mono ?_; rintro e w' ⟨rfl, rfl⟩)) | (go_at_call 38; refine (mul64_c _ _ _ hx0 hx2 hy0 hy2).mono ?_; rintro e w' ⟨rfl, rfl⟩) | (go_at_call 40; fail))
    rw [HJ.out]
    refine (signed_c _ _ _ (by omega) (by simp at hc'; omega)).mono ?_
    rintro e w' ⟨rfl, rfl⟩
    go_wp2
    go_ret
    exact ⟨ret_i (by rw [HF.out]; rfl), rfl⟩
  · have hc' : (absF a * absF b / 18446744073709551616 / 4294967296 == 0) = false := by simp; omega
    have HJ : Hid (9223372036854775807 ≤ absF a * absF b / 4294967296) := by unfold Hid; omega
    clear hc
    go_enter Try.func23, Try.ntmps23
    go_wp2_with (first | (go_at_call 39; first | (refine (size_c _ _ ha).mono ?_; rintro e w' ⟨rfl, rfl⟩) | (refine (size_c _ _ hb).mono ?_; rintro e w' ⟨rfl, rfl⟩)) | (go_at_call 38; refine (mul64_c _ _ _ hx0 hx2 hy0 hy2).mono ?_; rintro e w' ⟨rfl, rfl⟩) | (go_at_call 40; fail))
    refine (signed_c _ _ _ (by omega) (by omega)).mono ?_
    rintro e w' ⟨rfl, rfl⟩
    go_wp2
    go_ret
    exact ⟨ret_i (by rw [HF.out, signF_big _ _ HJ.out]; rfl), rfl⟩
end Go.Proofs.Ytekcehhoimhjeaa.Fx
