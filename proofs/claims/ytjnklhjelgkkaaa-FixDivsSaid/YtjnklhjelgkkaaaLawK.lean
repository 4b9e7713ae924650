/- FixDivs: the walk. -/
import Derived.Test.YtjnklhjelgkkaaaLawJ
namespace Go.Proofs.Ytjnklhjelgkkaaa.Fx
open Go.ChangeShapes Go.WideShapes Go.ChangeAt Go.RowKit
set_option linter.unusedVariables false

theorem absF_sign {n : Int} (t : Bool) (h : 0 ≤ n) : absF (signF n t) = if n < 9223372036854775807 then n else 9223372036854775807 := by
  rw [absR (signF_bd n t h)]
  unfold signF
  cases t
  · simp only [Bool.false_eq_true, if_false]; (repeat' split) <;> omega
  · simp only [if_true]; (repeat' split) <;> omega
theorem sign_lt {n : Int} (t : Bool) (h : 0 ≤ n) (hz : signF n t ≠ 0) : decide (signF n t < 0) = t := by
  unfold signF at *
  cases t
  · simp only [Bool.false_eq_true, if_false] at *; exact decide_eq_false (by split <;> omega)
  · simp only [if_true] at *; exact decide_eq_true (by split <;> (split at hz <;> omega))
theorem absF_pos {b : Int} (ib : I64 b) (h : b ≠ 0) : 0 < absF b := by
  have := absF_bd ib
  unfold absF negF cl at *
  (repeat' split) <;> omega
theorem divs_fact (a b : Int) (ia : I64 a) (ib : I64 b) (h : b ≠ 0) :
    absF (divF a b) * absF b ≤ absF a * 4294967296 ∧ (absF (divF a b) < 9223372036854775807 → absF a * 4294967296 < (absF (divF a b) + 1) * absF b) ∧
    (divF a b ≠ 0 → decide (divF a b < 0) = (decide (a < 0) != decide (b < 0))) := by
  obtain ⟨hx0, hx1⟩ := absF_bd ia
  have hy := absF_pos ib h
  have hy1 := (absF_bd ib).2
  have e1 := Int.mul_ediv_add_emod (absF a * 4294967296) (absF b)
  have e2 := Int.emod_nonneg (absF a * 4294967296) (b := absF b) (by omega)
  have e3 := Int.emod_lt_of_pos (absF a * 4294967296) hy
  have hn : 0 ≤ absF a * 4294967296 / absF b := Int.ediv_nonneg (by omega) (by omega)
  rw [Int.mul_comm] at e1
  have ez : divF a b = signF (absF a * 4294967296 / absF b) (decide (a < 0) != decide (b < 0)) := by
    unfold divF
    split
    · rename_i hz; subst hz
      have : absF 0 = 0 := by decide
      rw [this, Int.zero_mul, Int.zero_ediv, sign_zero]
    · rw [if_neg (by omega)]
  refine ⟨?_, ?_, ?_⟩
  · rw [ez, absF_sign _ hn]
    split
    · omega
    · have : 9223372036854775807 * absF b ≤ absF a * 4294967296 / absF b * absF b := Int.mul_le_mul_of_nonneg_right (by omega) (by omega)
      omega
  · rw [ez, absF_sign _ hn]
    intro hs
    split at hs
    · rw [if_pos (by assumption), Int.add_mul]; omega
    · omega
  · intro hz
    rw [ez] at hz ⊢
    exact sign_lt _ hn hz
theorem div_by_zero (a : Int) (ia : I64 a) : divF a 0 = if a < 0 then -9223372036854775807 else if a = 0 then 0 else 9223372036854775807 := by
  have e : absF 0 = 0 := by decide
  unfold divF
  rw [e, if_pos rfl, show decide ((0 : Int) < 0) = false from by decide, Bool.bne_false]
  by_cases c : a < 0
  · rw [if_neg (by omega), if_pos c, decide_eq_true c]; decide
  · by_cases d : a = 0
    · rw [if_pos d, if_neg c, if_pos d]
    · rw [if_neg d, if_neg c, if_neg d, decide_eq_false c]; decide
set_option maxRecDepth 100000 in
set_option maxHeartbeats 2000000 in
theorem divs_zero (a : Int) (w : World) (ia : I64 a) :
    Calls Try.prog 5 #[.int .i64 a, .int .i64 0] w fun e w' => e = .returned (.bool true) ∧ Grown w w' := by
  have i0 : I64 0 := by unfold I64; omega
  have ez : Hid _ := div_by_zero a ia
  by_cases c : a < 0
  · have EQ : Hid (divF a 0 = -9223372036854775807) := by unfold Hid; rw [ez.out, if_pos c]
    go_enter Try.func5, Try.ntmps5
    go_wp2_with fail
    refine (fit_c _).mono ?_
    rintro e w' ⟨rfl, k, rfl⟩
    go_wp2_with fail
    refine (div_c a 0 _ ia i0).mono ?_
    rintro e w' ⟨rfl, k2, rfl⟩
    rw [EQ.out]
    go_wp2_with fail
    go_ret
    exact ⟨by simp, gend _ _⟩
  · by_cases d : a = 0
    · have EQ : Hid (divF a 0 = 0) := by unfold Hid; rw [ez.out, if_neg c, if_pos d]
      have d' : (a == 0) = true := by simp [d]
      have d2 : ¬ 0 < a := by omega
      clear d
      go_enter Try.func5, Try.ntmps5
      go_wp2_with fail
      refine (fit_c _).mono ?_
      rintro e w' ⟨rfl, k, rfl⟩
      go_wp2_with fail
      refine (div_c a 0 _ ia i0).mono ?_
      rintro e w' ⟨rfl, k2, rfl⟩
      rw [EQ.out]
      go_wp2_with fail
      go_ret
      exact ⟨by simp, gend _ _⟩
    · have EQ : Hid (divF a 0 = 9223372036854775807) := by unfold Hid; rw [ez.out, if_neg c, if_neg d]
      have d2 : 0 < a := by omega
      clear d
      go_enter Try.func5, Try.ntmps5
      go_wp2_with fail
      refine (fit_c _).mono ?_
      rintro e w' ⟨rfl, k, rfl⟩
      go_wp2_with fail
      refine (div_c a 0 _ ia i0).mono ?_
      rintro e w' ⟨rfl, k2, rfl⟩
      rw [EQ.out]
      go_wp2_with fail
      go_ret
      exact ⟨by simp, gend _ _⟩
set_option maxRecDepth 100000 in
set_option maxHeartbeats 2000000 in
theorem divs_walk (a b : Int) (w : World) (ia : I64 a) (ib : I64 b) :
    Calls Try.prog 5 #[.int .i64 a, .int .i64 b] w fun e w' => e = .returned (.bool true) ∧ Grown w w' := by
  by_cases bz : b = 0
  · subst bz; exact divs_zero a w ia
  obtain ⟨hx0, hx1⟩ := absF_bd ia
  obtain ⟨hy0, hy1⟩ := absF_bd ib
  have ip := Rg_I64 (divF_bd a b ia ib)
  obtain ⟨hp0, hp1⟩ := absF_bd ip
  simp only [M] at hx1 hy1 hp1
  have hx2 : absF a ≤ 18446744073709551615 := by omega
  have hy2 : absF b ≤ 18446744073709551615 := by omega
  have hp2 : absF (divF a b) ≤ 18446744073709551615 := by omega
  have hp3 : absF (divF a b) + 1 ≤ 18446744073709551615 := by omega
  obtain ⟨m1, m2, m3⟩ := divs_fact a b ia ib bz
  have bz' : (b == 0) = false := by simp [bz]
  clear bz
  obtain ⟨a0, a1⟩ := ia
  have ia : I64 a := ⟨a0, a1⟩
  obtain ⟨b0, b1⟩ := ib
  have ib : I64 b := ⟨b0, b1⟩
  have m3' : Hid (divF a b ≠ 0 → decide (divF a b < 0) = (decide (a < 0) != decide (b < 0))) := m3
  clear m3
  by_cases cs : absF (divF a b) < 9223372036854775807
  · have n1 := cmpF_le m1
    have n2 := cmpF_gt (m2 cs)
    by_cases pz : divF a b = 0
    · have pz' : (divF a b == 0) = true := by simp [pz]
      clear pz m2
      go_enter Try.func5, Try.ntmps5
      go_wp2_with fail
      refine (fit_c _).mono ?_
      rintro e w' ⟨rfl, k, rfl⟩
      go_wp2_with fail
      refine (div_c a b _ ia ib).mono ?_
      rintro e w' ⟨rfl, k2, rfl⟩
      go_wp2_with fail
      refine (lsize_c a _ ia).mono ?_
      rintro e w' ⟨rfl, rfl⟩
      go_wp2_with fail
      refine (times_c (absF a) 4294967296 _ hx0 hx2 (by omega) (by omega)).mono ?_
      rintro e w' ⟨rfl, g1, rfl⟩
      go_wp2_with fail
      refine (lsize_c (divF a b) _ ip).mono ?_
      rintro e w' ⟨rfl, rfl⟩
      go_wp2_with fail
      refine (lsize_c b _ ib).mono ?_
      rintro e w' ⟨rfl, rfl⟩
      go_wp2_with fail
      refine (times_c (absF (divF a b)) (absF b) _ hp0 hp2 hy0 hy2).mono ?_
      rintro e w' ⟨rfl, g2, rfl⟩
      go_wp2_with fail
      refine (lsize_c (divF a b) _ ip).mono ?_
      rintro e w' ⟨rfl, rfl⟩
      go_wp2_with fail
      refine (lsize_c b _ ib).mono ?_
      rintro e w' ⟨rfl, rfl⟩
      go_wp2_with fail
      refine (times_c (absF (divF a b) + 1) (absF b) _ (by omega) hp3 hy0 hy2).mono ?_
      rintro e w' ⟨rfl, g3, rfl⟩
      go_wp2_with fail
      refine (cmp_c (absF (divF a b) * absF b) (absF a * 4294967296) _).mono ?_
      rintro e w' ⟨rfl, g4, g5, rfl⟩
      go_wp2_with fail
      refine (lsize_c (divF a b) _ ip).mono ?_
      rintro e w' ⟨rfl, rfl⟩
      go_wp2_with fail
      refine (cmp_c ((absF (divF a b) + 1) * absF b) (absF a * 4294967296) _).mono ?_
      rintro e w' ⟨rfl, g6, g7, rfl⟩
      go_wp2_with fail
      go_ret
      exact ⟨by first | (simp; done) | (simp; rfl), by repeat (first | exact gend _ _ | apply Grown.alloc)⟩
    · have pz' : (divF a b == 0) = false := by simp [pz]
      have es := m3'.out pz
      clear pz m2
      go_enter Try.func5, Try.ntmps5
      go_wp2_with fail
      refine (fit_c _).mono ?_
      rintro e w' ⟨rfl, k, rfl⟩
      go_wp2_with fail
      refine (div_c a b _ ia ib).mono ?_
      rintro e w' ⟨rfl, k2, rfl⟩
      go_wp2_with fail
      refine (lsize_c a _ ia).mono ?_
      rintro e w' ⟨rfl, rfl⟩
      go_wp2_with fail
      refine (times_c (absF a) 4294967296 _ hx0 hx2 (by omega) (by omega)).mono ?_
      rintro e w' ⟨rfl, g1, rfl⟩
      go_wp2_with fail
      refine (lsize_c (divF a b) _ ip).mono ?_
      rintro e w' ⟨rfl, rfl⟩
      go_wp2_with fail
      refine (lsize_c b _ ib).mono ?_
      rintro e w' ⟨rfl, rfl⟩
      go_wp2_with fail
      refine (times_c (absF (divF a b)) (absF b) _ hp0 hp2 hy0 hy2).mono ?_
      rintro e w' ⟨rfl, g2, rfl⟩
      go_wp2_with fail
      refine (lsize_c (divF a b) _ ip).mono ?_
      rintro e w' ⟨rfl, rfl⟩
      go_wp2_with fail
      refine (lsize_c b _ ib).mono ?_
      rintro e w' ⟨rfl, rfl⟩
      go_wp2_with fail
      refine (times_c (absF (divF a b) + 1) (absF b) _ (by omega) hp3 hy0 hy2).mono ?_
      rintro e w' ⟨rfl, g3, rfl⟩
      go_wp2_with fail
      refine (cmp_c (absF (divF a b) * absF b) (absF a * 4294967296) _).mono ?_
      rintro e w' ⟨rfl, g4, g5, rfl⟩
      go_wp2_with fail
      refine (lsize_c (divF a b) _ ip).mono ?_
      rintro e w' ⟨rfl, rfl⟩
      go_wp2_with fail
      refine (cmp_c ((absF (divF a b) + 1) * absF b) (absF a * 4294967296) _).mono ?_
      rintro e w' ⟨rfl, g6, g7, rfl⟩
      go_wp2_with fail
      go_ret
      exact ⟨by first | (simp; done) | (simp; rfl), by repeat (first | exact gend _ _ | apply Grown.alloc)⟩
  · have n1 := cmpF_le m1
    by_cases pz : divF a b = 0
    · have pz' : (divF a b == 0) = true := by simp [pz]
      clear pz m2
      go_enter Try.func5, Try.ntmps5
      go_wp2_with fail
      refine (fit_c _).mono ?_
      rintro e w' ⟨rfl, k, rfl⟩
      go_wp2_with fail
      refine (div_c a b _ ia ib).mono ?_
      rintro e w' ⟨rfl, k2, rfl⟩
      go_wp2_with fail
      refine (lsize_c a _ ia).mono ?_
      rintro e w' ⟨rfl, rfl⟩
      go_wp2_with fail
      refine (times_c (absF a) 4294967296 _ hx0 hx2 (by omega) (by omega)).mono ?_
      rintro e w' ⟨rfl, g1, rfl⟩
      go_wp2_with fail
      refine (lsize_c (divF a b) _ ip).mono ?_
      rintro e w' ⟨rfl, rfl⟩
      go_wp2_with fail
      refine (lsize_c b _ ib).mono ?_
      rintro e w' ⟨rfl, rfl⟩
      go_wp2_with fail
      refine (times_c (absF (divF a b)) (absF b) _ hp0 hp2 hy0 hy2).mono ?_
      rintro e w' ⟨rfl, g2, rfl⟩
      go_wp2_with fail
      refine (lsize_c (divF a b) _ ip).mono ?_
      rintro e w' ⟨rfl, rfl⟩
      go_wp2_with fail
      refine (lsize_c b _ ib).mono ?_
      rintro e w' ⟨rfl, rfl⟩
      go_wp2_with fail
      refine (times_c (absF (divF a b) + 1) (absF b) _ (by omega) hp3 hy0 hy2).mono ?_
      rintro e w' ⟨rfl, g3, rfl⟩
      go_wp2_with fail
      refine (cmp_c (absF (divF a b) * absF b) (absF a * 4294967296) _).mono ?_
      rintro e w' ⟨rfl, g4, g5, rfl⟩
      go_wp2_with fail
      refine (lsize_c (divF a b) _ ip).mono ?_
      rintro e w' ⟨rfl, rfl⟩
      go_wp2_with fail
      go_ret
      exact ⟨by first | (simp; done) | (simp; rfl), by repeat (first | exact gend _ _ | apply Grown.alloc)⟩
    · have pz' : (divF a b == 0) = false := by simp [pz]
      have es := m3'.out pz
      clear pz m2
      go_enter Try.func5, Try.ntmps5
      go_wp2_with fail
      refine (fit_c _).mono ?_
      rintro e w' ⟨rfl, k, rfl⟩
      go_wp2_with fail
      refine (div_c a b _ ia ib).mono ?_
      rintro e w' ⟨rfl, k2, rfl⟩
      go_wp2_with fail
      refine (lsize_c a _ ia).mono ?_
      rintro e w' ⟨rfl, rfl⟩
      go_wp2_with fail
      refine (times_c (absF a) 4294967296 _ hx0 hx2 (by omega) (by omega)).mono ?_
      rintro e w' ⟨rfl, g1, rfl⟩
      go_wp2_with fail
      refine (lsize_c (divF a b) _ ip).mono ?_
      rintro e w' ⟨rfl, rfl⟩
      go_wp2_with fail
      refine (lsize_c b _ ib).mono ?_
      rintro e w' ⟨rfl, rfl⟩
      go_wp2_with fail
      refine (times_c (absF (divF a b)) (absF b) _ hp0 hp2 hy0 hy2).mono ?_
      rintro e w' ⟨rfl, g2, rfl⟩
      go_wp2_with fail
      refine (lsize_c (divF a b) _ ip).mono ?_
      rintro e w' ⟨rfl, rfl⟩
      go_wp2_with fail
      refine (lsize_c b _ ib).mono ?_
      rintro e w' ⟨rfl, rfl⟩
      go_wp2_with fail
      refine (times_c (absF (divF a b) + 1) (absF b) _ (by omega) hp3 hy0 hy2).mono ?_
      rintro e w' ⟨rfl, g3, rfl⟩
      go_wp2_with fail
      refine (cmp_c (absF (divF a b) * absF b) (absF a * 4294967296) _).mono ?_
      rintro e w' ⟨rfl, g4, g5, rfl⟩
      go_wp2_with fail
      refine (lsize_c (divF a b) _ ip).mono ?_
      rintro e w' ⟨rfl, rfl⟩
      go_wp2_with fail
      go_ret
      exact ⟨by first | (simp; done) | (simp; rfl), by repeat (first | exact gend _ _ | apply Grown.alloc)⟩
end Go.Proofs.Ytjnklhjelgkkaaa.Fx
