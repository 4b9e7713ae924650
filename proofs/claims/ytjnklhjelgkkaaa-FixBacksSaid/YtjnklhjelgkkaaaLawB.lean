/- Contracts of the statements' own helpers: sums of sizes, what fits. -/
import Derived.Test.YtjnklhjelgkkaaaLawA
namespace Go.Proofs.Ytjnklhjelgkkaaa.Fx
open Go.ChangeShapes Go.WideShapes Go.ChangeAt Go.RowKit
set_option linter.unusedVariables false

theorem sum_same {a b : Int} (ha : I64 a) (hb : I64 b) (h : a < 0 ↔ b < 0) : lowF (decide (a < 0)) (absF a + absF b) = addF a b := by
  unfold I64 at ha hb
  unfold lowF addF absF negF sat cl
  by_cases c : a < 0
  · have c2 : b < 0 := h.1 c
    simp only [c, c2, decide_true, if_true]
    (repeat' split) <;> omega
  · have c2 : ¬ b < 0 := fun x => c (h.2 x)
    simp only [c, c2, decide_false, if_false]
    simp
    (repeat' split) <;> omega
theorem sum_left {a b : Int} (ha : I64 a) (hb : I64 b) (h : ¬ (a < 0 ↔ b < 0)) (hc : absF b ≤ absF a) : lowF (decide (a < 0)) (absF a - absF b) = addF a b := by
  unfold I64 at ha hb
  unfold absF negF cl at hc
  unfold lowF addF absF negF sat cl
  by_cases c : a < 0
  · have c2 : ¬ b < 0 := fun x => h ⟨fun _ => x, fun _ => c⟩
    simp only [c, c2, decide_true, if_true, if_false] at hc ⊢
    (repeat' split) <;> (repeat' split at hc) <;> omega
  · have c2 : b < 0 := by
      by_cases x : b < 0
      · exact x
      · exact absurd ⟨fun y => absurd y c, fun y => absurd y x⟩ h
    rw [if_neg c, if_pos c2] at *
    rw [decide_eq_false c]
    simp only [Bool.false_eq_true, if_false]
    (repeat' split) <;> (repeat' split at hc) <;> omega
theorem sum_right {a b : Int} (ha : I64 a) (hb : I64 b) (h : ¬ (a < 0 ↔ b < 0)) (hc : ¬ absF b ≤ absF a) : lowF (decide (b < 0)) (absF b - absF a) = addF a b := by
  have := sum_left hb ha (fun x => h x.symm) (by omega)
  rw [this]; unfold addF; rw [Int.add_comm]
set_option maxHeartbeats 1000000 in
theorem lsum_c (a b : Int) (w : World) (ha : I64 a) (hb : I64 b) :
    Calls Try.prog 14 #[.int .i64 a, .int .i64 b] w fun e w' => e = .returned (.int .i64 (addF a b)) ∧ Boxed w w' := by
  have hx := absF_bd ha
  have hy := absF_bd hb
  unfold M at hx hy
  obtain ⟨hx0, hx1⟩ := hx
  obtain ⟨hy0, hy1⟩ := hy
  by_cases c : (a < 0 ↔ b < 0)
  · have HE : Hid _ := sum_same ha hb c
    have c' : (decide (a < 0) == decide (b < 0)) = true := by simp [c]
    clear c
    go_enter Try.func14, Try.ntmps14
    go_wp2_with fail
    refine (lsize_c _ _ ha).mono ?_
    rintro e w' ⟨rfl, rfl⟩
    go_wp2_with fail
    refine (lsize_c _ _ hb).mono ?_
    rintro e w' ⟨rfl, rfl⟩
    go_wp2_with fail
    refine (lbring_c _ _ _ (by omega) (by omega)).mono ?_
    rintro e w' ⟨rfl, hg⟩
    go_wp2
    go_ret
    exact ⟨ret_i HE.out, hg⟩
  · have HC : Hid (¬ (a < 0 ↔ b < 0)) := c
    have c' : (decide (a < 0) == decide (b < 0)) = false := by simpa using c
    clear c
    by_cases d : absF b ≤ absF a
    · have HE : Hid _ := sum_left ha hb HC.out d
      go_enter Try.func14, Try.ntmps14
      go_wp2_with fail
      refine (lsize_c _ _ ha).mono ?_
      rintro e w' ⟨rfl, rfl⟩
      go_wp2_with fail
      refine (lsize_c _ _ hb).mono ?_
      rintro e w' ⟨rfl, rfl⟩
      go_wp2_with fail
      refine (lbring_c _ _ _ (by omega) (by omega)).mono ?_
      rintro e w' ⟨rfl, hg⟩
      go_wp2
      go_ret
      exact ⟨ret_i HE.out, hg⟩
    · have HE : Hid _ := sum_right ha hb HC.out d
      go_enter Try.func14, Try.ntmps14
      go_wp2_with fail
      refine (lsize_c _ _ ha).mono ?_
      rintro e w' ⟨rfl, rfl⟩
      go_wp2_with fail
      refine (lsize_c _ _ hb).mono ?_
      rintro e w' ⟨rfl, rfl⟩
      go_wp2_with fail
      refine (lbring_c _ _ _ (by omega) (by omega)).mono ?_
      rintro e w' ⟨rfl, hg⟩
      go_wp2
      go_ret
      exact ⟨ret_i HE.out, hg⟩
theorem I64_lit (a : Int) (h : -9223372036854775808 ≤ a ∧ a ≤ 9223372036854775807) : I64 a := h
set_option maxHeartbeats 1000000 in
theorem fit_c (w : World) : Calls Try.prog 12 #[] w (Ret (.bool true) w) := by
  have e1 : ofF 4 = 17179869184 := by decide
  have e2 : sqrtF 17179869184 = 8589934592 := by decide +kernel
  have e3 : ofF 2 = 8589934592 := by decide
  have e4 : partF 1 2 = 2147483648 := by decide +kernel
  have e5 : mulF 2147483648 (-3) = -1 := by decide +kernel
  have e6 : addF 9223372036854775807 1 = 9223372036854775807 := by decide +kernel
  go_enter Try.func12, Try.ntmps12
  go_wp2_with fail
  refine (of_c 4 _ (I64_lit _ (by omega))).mono ?_
  rintro e w' ⟨rfl, rfl⟩
  rw [e1]
  go_wp2_with fail
  refine (sqrt_c 17179869184 _ (I64_lit _ (by omega))).mono ?_
  rintro e w' ⟨rfl, rfl⟩
  rw [e2]
  go_wp2_with fail
  refine (of_c 2 _ (I64_lit _ (by omega))).mono ?_
  rintro e w' ⟨rfl, rfl⟩
  rw [e3]
  go_wp2_with fail
  refine (part_c 1 2 _ (I64_lit _ (by omega)) (I64_lit _ (by omega))).mono ?_
  rintro e w' ⟨rfl, k, rfl⟩
  rw [e4]
  go_wp2_with fail
  refine (mul_c 2147483648 (-3) _ (I64_lit _ (by omega)) (I64_lit _ (by omega))).mono ?_
  rintro e w' ⟨rfl, rfl⟩
  rw [e5]
  go_wp2_with fail
  refine (add_c 9223372036854775807 1 _ (I64_lit _ (by omega)) (I64_lit _ (by omega))).mono ?_
  rintro e w' ⟨rfl, rfl⟩
  rw [e6]
  go_wp2
  go_ret
  exact ⟨rfl, k, rfl⟩
end Go.Proofs.Ytjnklhjelgkkaaa.Fx
