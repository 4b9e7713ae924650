/- Contracts: quotients, parts. -/
import Derived.Test.YtekcehhoimhjeaaFixG
import Derived.Test.YtekcehhoimhjeaaFixE
namespace Go.Proofs.Ytekcehhoimhjeaa.Fx
open Go.ChangeShapes Go.WideShapes Go.ChangeAt Go.RowKit
set_option linter.unusedVariables false

set_option maxHeartbeats 1000000 in
theorem div64_small (lo y : Int) (w : World) (h0 : 0 ≤ lo) (h1 : 0 < y) (h2 : y ≤ 18446744073709551615) (h4 : lo ≤ 18446744073709551615) :
    Calls Try.prog 47 #[.int .u64 0, .int .u64 lo, .int .u64 y] w (QuoR ((0 * 18446744073709551616 + lo) / y) w) := by
  have e : (0 * 18446744073709551616 + lo) = lo := by omega
  rw [e]
  clear e
  have hy : 1 ≤ y := by omega
  go_enter Try.func47, Try.ntmps47
  go_wp2
  go_quiet (fail)
  go_wp2
  go_ret2
  exact ⟨_, _, rfl, rfl⟩
theorem div64_c (hi lo y : Int) (w : World) (h0 : 0 ≤ hi) (h1 : hi < y) (h2 : y ≤ 18446744073709551615) (h3 : 0 ≤ lo) (h4 : lo ≤ 18446744073709551615) :
    Calls Try.prog 47 #[.int .u64 hi, .int .u64 lo, .int .u64 y] w (QuoR ((hi * 18446744073709551616 + lo) / y) w) := by
  by_cases c : hi = 0
  · subst c; exact div64_small lo y w h3 h1 h2 h4
  · exact div64_big hi lo y w h0 h1 h2 h3 h4 (by omega)
theorem scaled_eq (x : Int) : x / 4294967296 * 18446744073709551616 + x % 4294967296 * 4294967296 = x * 4294967296 := by omega
theorem quo_bd {x d : Int} (h0 : 0 ≤ x) (h : x / 4294967296 < d) : 0 ≤ x * 4294967296 / d ∧ x * 4294967296 / d ≤ 18446744073709551615 := by
  have h1 : 0 ≤ x / 4294967296 := by omega
  refine ⟨Int.ediv_nonneg (by omega) (by omega), ?_⟩
  have : x * 4294967296 / d < 18446744073709551616 := Int.ediv_lt_of_lt_mul (by omega) (by omega)
  omega
theorem quo_big {x d : Int} (hd : 0 < d) (h : d ≤ x / 4294967296) : 9223372036854775807 ≤ x * 4294967296 / d := by
  exact (Int.le_ediv_iff_mul_le hd).2 (by omega)
set_option maxHeartbeats 1000000 in
theorem div_c (a b : Int) (w : World) (ha : I64 a) (hb : I64 b) :
    Calls Try.prog 36 #[.int .i64 a, .int .i64 b] w (Ret (.int .i64 (divF a b)) w) := by
  have hx := absF_bd ha
  have hy := absF_bd hb
  unfold M at hx hy
  obtain ⟨hx0, hx1⟩ := hx
  obtain ⟨hy0, hy1⟩ := hy
  have HF : Hid (divF a b = if a = 0 then 0 else signF (if absF b = 0 then 9223372036854775807 else absF a * 4294967296 / absF b) (decide (a < 0) != decide (b < 0))) := rfl
  by_cases c0 : a = 0
  · have HZ : Hid (divF a b = 0) := by rw [HF.out, if_pos c0]; exact rfl
    have c0' : (a == 0) = true := by simp [c0]
    clear c0
    go_enter Try.func36, Try.ntmps36
    go_wp2
    go_ret
    exact ⟨ret_i HZ.out.symm, 0, rfl⟩
  · have c0' : (a == 0) = false := by simp [c0]
    have HN : Hid (¬ a = 0) := c0
    clear c0
    by_cases c1 : absF a / 4294967296 < absF b
    · obtain ⟨k0, k1⟩ := quo_bd hx0 c1
      go_enter Try.func36, Try.ntmps36
      go_wp2_with (first | (go_at_call 46; refine (scaled_c _ _ ha).mono ?_; rintro e w' ⟨rfl, rfl⟩) | (go_at_call 39; refine (size_c _ _ hb).mono ?_; rintro e w' ⟨rfl, rfl⟩) | (go_at_call 47; fail) | (go_at_call 40; fail))
      refine (div64_c _ _ _ _ (by omega) c1 (by omega) (by omega) (by omega)).mono ?_
      rintro e w' ⟨r, k, rfl, rfl⟩
      rw [scaled_eq]
      go_wp2_with (go_at_call 40; fail)
      refine (signed_c _ _ _ k0 k1).mono ?_
      rintro e w' ⟨rfl, rfl⟩
      go_wp2
      go_ret
      exact ⟨ret_i (by rw [HF.out, if_neg HN.out, if_neg (by omega)]; rfl), k, rfl⟩
    · go_enter Try.func36, Try.ntmps36
      go_wp2_with (first | (go_at_call 46; refine (scaled_c _ _ ha).mono ?_; rintro e w' ⟨rfl, rfl⟩) | (go_at_call 39; refine (size_c _ _ hb).mono ?_; rintro e w' ⟨rfl, rfl⟩) | (go_at_call 47; fail) | (go_at_call 40; fail))
      refine (signed_c _ _ _ (by omega) (by omega)).mono ?_
      rintro e w' ⟨rfl, rfl⟩
      go_wp2
      go_ret
      refine ⟨ret_i ?_, 0, rfl⟩
      rw [HF.out, if_neg HN.out]
      split
      · rfl
      · rw [signF_big _ _ (quo_big (by omega) (by omega))]; rfl
theorem signF_bd (n : Int) (t : Bool) (h : 0 ≤ n) : -9223372036854775807 ≤ signF n t ∧ signF n t ≤ 9223372036854775807 := by
  unfold signF; cases t <;> simp <;> (split <;> omega)
theorem I64_div (a b : Int) (ha : I64 a) (hb : I64 b) : I64 (divF a b) := by
  unfold divF I64
  split
  · omega
  · have hx := absF_bd ha
    have hy := absF_bd hb
    have := signF_bd (if absF b = 0 then 9223372036854775807 else absF a * 4294967296 / absF b) (decide (a < 0) != decide (b < 0)) (by
      split
      · omega
      · exact Int.ediv_nonneg (by omega) (by omega))
    omega
end Go.Proofs.Ytekcehhoimhjeaa.Fx
