/- FixMuls: the walk. -/
import Derived.Test.YtjnklhjelgkkaaaLawI
namespace Go.Proofs.Ytjnklhjelgkkaaa.Fx
open Go.ChangeShapes Go.WideShapes Go.ChangeAt Go.RowKit
set_option linter.unusedVariables false

theorem cmpF_le {p q : Int} (h : p ≤ q) : cmpF p q ≤ 0 := by unfold cmpF; (repeat' split) <;> omega
theorem cmpF_gt {p q : Int} (h : q < p) : 0 < cmpF p q := by unfold cmpF; (repeat' split) <;> omega
theorem muls_fact (a b : Int) (ia : I64 a) (ib : I64 b) :
    absF (mulF a b) * 4294967296 ≤ absF a * absF b ∧ (absF (mulF a b) < 9223372036854775807 → absF a * absF b < (absF (mulF a b) + 1) * 4294967296) ∧
    (mulF a b ≠ 0 → decide (mulF a b < 0) = (decide (a < 0) != decide (b < 0))) := by
  obtain ⟨hx0, hx1⟩ := absF_bd ia
  obtain ⟨hy0, hy1⟩ := absF_bd ib
  have hp0 : 0 ≤ absF a * absF b := Int.mul_nonneg hx0 hy0
  unfold mulF
  generalize absF a * absF b = P at *
  generalize (decide (a < 0) != decide (b < 0)) = t
  have hn : 0 ≤ P / 4294967296 := by omega
  have hb := signF_bd (P / 4294967296) t hn
  have ha : absF (signF (P / 4294967296) t) = if P / 4294967296 < 9223372036854775807 then P / 4294967296 else 9223372036854775807 := by
    rw [absR hb]
    unfold signF
    cases t
    · simp only [Bool.false_eq_true, if_false]; (repeat' split) <;> omega
    · simp only [if_true]; (repeat' split) <;> omega
  rw [ha]
  refine ⟨by split <;> omega, by intro h; split at h <;> (split <;> omega), ?_⟩
  intro hz
  unfold signF at *
  cases t
  · simp only [Bool.false_eq_true, if_false] at *; exact decide_eq_false (by split <;> omega)
  · simp only [if_true] at *; exact decide_eq_true (by split <;> (split at hz <;> omega))
set_option maxRecDepth 100000 in
set_option maxHeartbeats 2000000 in
theorem muls_walk (a b : Int) (w : World) (ia : I64 a) (ib : I64 b) :
    Calls Try.prog 4 #[.int .i64 a, .int .i64 b] w fun e w' => e = .returned (.bool true) ∧ Grown w w' := by
  obtain ⟨hx0, hx1⟩ := absF_bd ia
  obtain ⟨hy0, hy1⟩ := absF_bd ib
  have ip := Rg_I64 (mulF_bd a b ia ib)
  obtain ⟨hp0, hp1⟩ := absF_bd ip
  simp only [M] at hx1 hy1 hp1
  have hx2 : absF a ≤ 18446744073709551615 := by omega
  have hy2 : absF b ≤ 18446744073709551615 := by omega
  have hp2 : absF (mulF a b) ≤ 18446744073709551615 := by omega
  have hp3 : absF (mulF a b) + 1 ≤ 18446744073709551615 := by omega
  obtain ⟨m1, m2, m3⟩ := muls_fact a b ia ib
  have EC : Hid _ := mul_comm' b a
  have EO : Hid _ := mul_one (Rg_cl ia)
  have icl := I64_cl ia
  have em : max a (-9223372036854775807) = cl a := by unfold cl; omega
  obtain ⟨a0, a1⟩ := ia
  have ia : I64 a := ⟨a0, a1⟩
  obtain ⟨b0, b1⟩ := ib
  have ib : I64 b := ⟨b0, b1⟩
  have m3' : Hid (mulF a b ≠ 0 → decide (mulF a b < 0) = (decide (a < 0) != decide (b < 0))) := m3
  clear m3
  by_cases cs : absF (mulF a b) < 9223372036854775807
  · have n1 := cmpF_le m1
    have n2 := cmpF_gt (m2 cs)
    have cs' : (absF (mulF a b) == 9223372036854775807) = false := by simp; omega
    by_cases pz : mulF a b = 0
    · have pz' : (mulF a b == 0) = true := by simp [pz]
      clear pz m2
      go_enter Try.func4, Try.ntmps4
      go_wp2_with fail
      refine (fit_c _).mono ?_
      rintro e w' ⟨rfl, k, rfl⟩
      go_wp2_with fail
      refine (mul_c a b _ ia ib).mono ?_
      rintro e w' ⟨rfl, rfl⟩
      go_wp2_with fail
      refine (lsize_c a _ ia).mono ?_
      rintro e w' ⟨rfl, rfl⟩
      go_wp2_with fail
      refine (lsize_c b _ ib).mono ?_
      rintro e w' ⟨rfl, rfl⟩
      go_wp2_with fail
      refine (times_c (absF a) (absF b) _ hx0 hx2 hy0 hy2).mono ?_
      rintro e w' ⟨rfl, g1, rfl⟩
      go_wp2_with fail
      refine (lsize_c (mulF a b) _ ip).mono ?_
      rintro e w' ⟨rfl, rfl⟩
      go_wp2_with fail
      refine (times_c (absF (mulF a b)) 4294967296 _ hp0 hp2 (by omega) (by omega)).mono ?_
      rintro e w' ⟨rfl, g2, rfl⟩
      go_wp2_with fail
      refine (lsize_c (mulF a b) _ ip).mono ?_
      rintro e w' ⟨rfl, rfl⟩
      go_wp2_with fail
      refine (times_c (absF (mulF a b) + 1) 4294967296 _ (by omega) hp3 (by omega) (by omega)).mono ?_
      rintro e w' ⟨rfl, g3, rfl⟩
      go_wp2_with fail
      refine (lsize_c (mulF a b) _ ip).mono ?_
      rintro e w' ⟨rfl, rfl⟩
      go_wp2_with fail
      refine (cmp_c (absF (mulF a b) * 4294967296) (absF a * absF b) _).mono ?_
      rintro e w' ⟨rfl, g4, g5, rfl⟩
      go_wp2_with fail
      refine (cmp_c ((absF (mulF a b) + 1) * 4294967296) (absF a * absF b) _).mono ?_
      rintro e w' ⟨rfl, g6, g7, rfl⟩
      go_wp2_with fail
      refine (lsize_c (mulF a b) _ ip).mono ?_
      rintro e w' ⟨rfl, rfl⟩
      go_wp2_with fail
      refine (mul_c b a _ ib ia).mono ?_
      rintro e w' ⟨rfl, rfl⟩
      rw [EC.out]
      go_wp2_with fail
      refine (mul_c (cl a) 4294967296 _ icl (I64_lit _ (by omega))).mono ?_
      rintro e w' ⟨rfl, rfl⟩
      rw [EO.out]
      go_wp2_with fail
      go_ret
      exact ⟨by simp, by repeat (first | exact gend _ _ | apply Grown.alloc)⟩
    · have pz' : (mulF a b == 0) = false := by simp [pz]
      have es := m3'.out pz
      clear pz m2
      go_enter Try.func4, Try.ntmps4
      go_wp2_with fail
      refine (fit_c _).mono ?_
      rintro e w' ⟨rfl, k, rfl⟩
      go_wp2_with fail
      refine (mul_c a b _ ia ib).mono ?_
      rintro e w' ⟨rfl, rfl⟩
      go_wp2_with fail
      refine (lsize_c a _ ia).mono ?_
      rintro e w' ⟨rfl, rfl⟩
      go_wp2_with fail
      refine (lsize_c b _ ib).mono ?_
      rintro e w' ⟨rfl, rfl⟩
      go_wp2_with fail
      refine (times_c (absF a) (absF b) _ hx0 hx2 hy0 hy2).mono ?_
      rintro e w' ⟨rfl, g1, rfl⟩
      go_wp2_with fail
      refine (lsize_c (mulF a b) _ ip).mono ?_
      rintro e w' ⟨rfl, rfl⟩
      go_wp2_with fail
      refine (times_c (absF (mulF a b)) 4294967296 _ hp0 hp2 (by omega) (by omega)).mono ?_
      rintro e w' ⟨rfl, g2, rfl⟩
      go_wp2_with fail
      refine (lsize_c (mulF a b) _ ip).mono ?_
      rintro e w' ⟨rfl, rfl⟩
      go_wp2_with fail
      refine (times_c (absF (mulF a b) + 1) 4294967296 _ (by omega) hp3 (by omega) (by omega)).mono ?_
      rintro e w' ⟨rfl, g3, rfl⟩
      go_wp2_with fail
      refine (lsize_c (mulF a b) _ ip).mono ?_
      rintro e w' ⟨rfl, rfl⟩
      go_wp2_with fail
      refine (cmp_c (absF (mulF a b) * 4294967296) (absF a * absF b) _).mono ?_
      rintro e w' ⟨rfl, g4, g5, rfl⟩
      go_wp2_with fail
      refine (cmp_c ((absF (mulF a b) + 1) * 4294967296) (absF a * absF b) _).mono ?_
      rintro e w' ⟨rfl, g6, g7, rfl⟩
      go_wp2_with fail
      refine (lsize_c (mulF a b) _ ip).mono ?_
      rintro e w' ⟨rfl, rfl⟩
      go_wp2_with fail
      refine (mul_c b a _ ib ia).mono ?_
      rintro e w' ⟨rfl, rfl⟩
      rw [EC.out]
      go_wp2_with fail
      refine (mul_c (cl a) 4294967296 _ icl (I64_lit _ (by omega))).mono ?_
      rintro e w' ⟨rfl, rfl⟩
      rw [EO.out]
      go_wp2_with fail
      go_ret
      exact ⟨by simp, by repeat (first | exact gend _ _ | apply Grown.alloc)⟩
  · have n1 := cmpF_le m1
    have cs' : (absF (mulF a b) == 9223372036854775807) = true := by simp; omega
    by_cases pz : mulF a b = 0
    · have pz' : (mulF a b == 0) = true := by simp [pz]
      clear pz m2
      go_enter Try.func4, Try.ntmps4
      go_wp2_with fail
      refine (fit_c _).mono ?_
      rintro e w' ⟨rfl, k, rfl⟩
      go_wp2_with fail
      refine (mul_c a b _ ia ib).mono ?_
      rintro e w' ⟨rfl, rfl⟩
      go_wp2_with fail
      refine (lsize_c a _ ia).mono ?_
      rintro e w' ⟨rfl, rfl⟩
      go_wp2_with fail
      refine (lsize_c b _ ib).mono ?_
      rintro e w' ⟨rfl, rfl⟩
      go_wp2_with fail
      refine (times_c (absF a) (absF b) _ hx0 hx2 hy0 hy2).mono ?_
      rintro e w' ⟨rfl, g1, rfl⟩
      go_wp2_with fail
      refine (lsize_c (mulF a b) _ ip).mono ?_
      rintro e w' ⟨rfl, rfl⟩
      go_wp2_with fail
      refine (times_c (absF (mulF a b)) 4294967296 _ hp0 hp2 (by omega) (by omega)).mono ?_
      rintro e w' ⟨rfl, g2, rfl⟩
      go_wp2_with fail
      refine (lsize_c (mulF a b) _ ip).mono ?_
      rintro e w' ⟨rfl, rfl⟩
      go_wp2_with fail
      refine (times_c (absF (mulF a b) + 1) 4294967296 _ (by omega) hp3 (by omega) (by omega)).mono ?_
      rintro e w' ⟨rfl, g3, rfl⟩
      go_wp2_with fail
      refine (lsize_c (mulF a b) _ ip).mono ?_
      rintro e w' ⟨rfl, rfl⟩
      go_wp2_with fail
      refine (lsize_c (mulF a b) _ ip).mono ?_
      rintro e w' ⟨rfl, rfl⟩
      go_wp2_with fail
      refine (cmp_c (absF (mulF a b) * 4294967296) (absF a * absF b) _).mono ?_
      rintro e w' ⟨rfl, g4, g5, rfl⟩
      go_wp2_with fail
      refine (mul_c b a _ ib ia).mono ?_
      rintro e w' ⟨rfl, rfl⟩
      rw [EC.out]
      go_wp2_with fail
      refine (mul_c (cl a) 4294967296 _ icl (I64_lit _ (by omega))).mono ?_
      rintro e w' ⟨rfl, rfl⟩
      rw [EO.out]
      go_wp2_with fail
      go_ret
      exact ⟨by simp, by repeat (first | exact gend _ _ | apply Grown.alloc)⟩
    · have pz' : (mulF a b == 0) = false := by simp [pz]
      have es := m3'.out pz
      clear pz m2
      go_enter Try.func4, Try.ntmps4
      go_wp2_with fail
      refine (fit_c _).mono ?_
      rintro e w' ⟨rfl, k, rfl⟩
      go_wp2_with fail
      refine (mul_c a b _ ia ib).mono ?_
      rintro e w' ⟨rfl, rfl⟩
      go_wp2_with fail
      refine (lsize_c a _ ia).mono ?_
      rintro e w' ⟨rfl, rfl⟩
      go_wp2_with fail
      refine (lsize_c b _ ib).mono ?_
      rintro e w' ⟨rfl, rfl⟩
      go_wp2_with fail
      refine (times_c (absF a) (absF b) _ hx0 hx2 hy0 hy2).mono ?_
      rintro e w' ⟨rfl, g1, rfl⟩
      go_wp2_with fail
      refine (lsize_c (mulF a b) _ ip).mono ?_
      rintro e w' ⟨rfl, rfl⟩
      go_wp2_with fail
      refine (times_c (absF (mulF a b)) 4294967296 _ hp0 hp2 (by omega) (by omega)).mono ?_
      rintro e w' ⟨rfl, g2, rfl⟩
      go_wp2_with fail
      refine (lsize_c (mulF a b) _ ip).mono ?_
      rintro e w' ⟨rfl, rfl⟩
      go_wp2_with fail
      refine (times_c (absF (mulF a b) + 1) 4294967296 _ (by omega) hp3 (by omega) (by omega)).mono ?_
      rintro e w' ⟨rfl, g3, rfl⟩
      go_wp2_with fail
      refine (lsize_c (mulF a b) _ ip).mono ?_
      rintro e w' ⟨rfl, rfl⟩
      go_wp2_with fail
      refine (lsize_c (mulF a b) _ ip).mono ?_
      rintro e w' ⟨rfl, rfl⟩
      go_wp2_with fail
      refine (cmp_c (absF (mulF a b) * 4294967296) (absF a * absF b) _).mono ?_
      rintro e w' ⟨rfl, g4, g5, rfl⟩
      go_wp2_with fail
      refine (mul_c b a _ ib ia).mono ?_
      rintro e w' ⟨rfl, rfl⟩
      rw [EC.out]
      go_wp2_with fail
      refine (mul_c (cl a) 4294967296 _ icl (I64_lit _ (by omega))).mono ?_
      rintro e w' ⟨rfl, rfl⟩
      rw [EO.out]
      go_wp2_with fail
      go_ret
      exact ⟨by simp, by repeat (first | exact gend _ _ | apply Grown.alloc)⟩
end Go.Proofs.Ytjnklhjelgkkaaa.Fx
