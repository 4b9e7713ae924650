/- FixLaws: the walk. -/
import Derived.Test.YtjnklhjelgkkaaaLawC
import Derived.Test.YtjnklhjelgkkaaaFixP
namespace Go.Proofs.Ytjnklhjelgkkaaa.Fx
open Go.ChangeShapes Go.WideShapes Go.ChangeAt Go.RowKit
set_option linter.unusedVariables false

theorem vint {k : IntKind} {a b : Int} (h : a = b) : Value.int k a = Value.int k b := by rw [h]
theorem gend (w : World) (k : Nat) : Grown w (w.drewN k) := Grown.refl w
theorem Rg_cl {a : Int} (h : I64 a) : Rg (cl a) := cl_bd h
theorem Rg_I64 {a : Int} (h : Rg a) : I64 a := by unfold Rg I64 at *; omega
theorem mulF_bd (a b : Int) (ha : I64 a) (hb : I64 b) : Rg (mulF a b) := by
  have hx := absF_bd ha
  have hy := absF_bd hb
  exact signF_bd _ _ (Int.ediv_nonneg (Int.mul_nonneg hx.1 hy.1) (by omega))
theorem divF_bd (a b : Int) (ha : I64 a) (hb : I64 b) : Rg (divF a b) := by
  unfold divF Rg
  split
  · omega
  · have hx := absF_bd ha
    have hy := absF_bd hb
    exact signF_bd (if absF b = 0 then 9223372036854775807 else absF a * 4294967296 / absF b) (decide (a < 0) != decide (b < 0)) (by
      split
      · omega
      · exact Int.ediv_nonneg (by omega) (by omega))
theorem addF_bd (a b : Int) : Rg (addF a b) := sat_bd _
set_option maxHeartbeats 2000000 in
set_option maxRecDepth 100000 in
theorem laws_walk (a b : Int) (w : World) (ha : I64 a) (hb : I64 b) :
    Calls Try.prog 9 #[.int .i64 a, .int .i64 b] w fun e w' => e = .returned (.bool true) ∧ Grown w w' := by
  have HA : Hid (I64 a) := ha
  have HB : Hid (I64 b) := hb
  obtain ⟨a0, a1⟩ := ha
  obtain ⟨b0, b1⟩ := hb
  go_enter Try.func9, Try.ntmps9
  go_wp2_with fail
  refine (fit_c _).mono ?_
  rintro e w' ⟨rfl, k, rfl⟩
  go_upto_region 3 with fail
  go_cut [0, 1] (fun s0 s1 wx => s0 = .int .i64 (cl a) ∧ s1 = .int .i64 (cl b) ∧ wx = w.drewN k)
  case first =>
    go_wp2_with fail
    go_meet
    exact ⟨vint (by unfold cl; omega), vint (by unfold cl; omega), rfl⟩
  case rest =>
    obtain ⟨rfl, rfl, rfl⟩ := hcut
    have hA := Rg_cl HA.out
    have hB := Rg_cl HB.out
    clear HA HB a0 a1 b0 b1
    generalize cl a = A at *
    generalize cl b = B at *
    have ia := Rg_I64 hA
    have ib := Rg_I64 hB
    have ina := Rg_I64 (Rg_neg hA)
    have inb := Rg_I64 (Rg_neg hB)
    have F1 : Hid _ := mul_one hA
    have F2 : Hid _ := mul_zero A
    have F3 : Hid _ := mul_minus hA
    have F4 : Hid _ := div_one hA
    have F5 : Hid _ := add_zero hA
    have F6 : Hid _ := sub_self hA
    have F7 : Hid _ := mul_neg_left hA hB
    have F8 : Hid _ := add_neg hA hB
    have F10 : Hid _ := div_neg (b := B) hA
    obtain ⟨m0, m1⟩ := mulF_bd A B ia ib
    obtain ⟨s0, s1⟩ := addF_bd A B
    obtain ⟨d0, d1⟩ := divF_bd A B ia ib
    by_cases cz : A = 0
    · have cz' : (A == 0) = true := by simp [cz]
      obtain ⟨c0, c1⟩ := hA
      obtain ⟨e0, e1⟩ := hB
      clear cz
      go_wp2_with fail
      refine (mul_c A 4294967296 _ ia (I64_lit _ (by omega))).mono ?_
      rintro e w' ⟨rfl, rfl⟩
      rw [F1.out]
      go_wp2_with fail
      refine (mul_c A 0 _ ia (I64_lit _ (by omega))).mono ?_
      rintro e w' ⟨rfl, rfl⟩
      rw [F2.out]
      go_wp2_with fail
      refine (mul_c A (-4294967296) _ ia (I64_lit _ (by omega))).mono ?_
      rintro e w' ⟨rfl, rfl⟩
      rw [F3.out]
      go_wp2_with fail
      refine (div_c A 4294967296 _ ia (I64_lit _ (by omega))).mono ?_
      rintro e w' ⟨rfl, k2, rfl⟩
      rw [F4.out]
      go_wp2_with fail
      refine (add_c A 0 _ ia (I64_lit _ (by omega))).mono ?_
      rintro e w' ⟨rfl, rfl⟩
      rw [F5.out]
      go_wp2_with fail
      refine (sub_c A A _ ia ia).mono ?_
      rintro e w' ⟨rfl, rfl⟩
      rw [F6.out]
      go_wp2_with fail
      refine (mul_c (-A) B _ ina ib).mono ?_
      rintro e w' ⟨rfl, rfl⟩
      rw [F7.out]
      go_wp2_with fail
      refine (mul_c A B _ ia ib).mono ?_
      rintro e w' ⟨rfl, rfl⟩
      go_wp2_with fail
      refine (add_c (-A) (-B) _ ina inb).mono ?_
      rintro e w' ⟨rfl, rfl⟩
      rw [F8.out]
      go_wp2_with fail
      refine (add_c A B _ ia ib).mono ?_
      rintro e w' ⟨rfl, rfl⟩
      go_wp2_with fail
      refine (div_c (-A) B _ ina ib).mono ?_
      rintro e w' ⟨rfl, k3, rfl⟩
      rw [F10.out]
      go_wp2_with fail
      refine (div_c A B _ ia ib).mono ?_
      rintro e w' ⟨rfl, k4, rfl⟩
      go_wp2_with fail
      go_ret
      exact ⟨by simp, gend _ _⟩
    · have F9 : Hid _ := div_self hA cz
      have cz' : (A == 0) = false := by simp [cz]
      obtain ⟨c0, c1⟩ := hA
      obtain ⟨e0, e1⟩ := hB
      clear cz
      go_wp2_with fail
      refine (mul_c A 4294967296 _ ia (I64_lit _ (by omega))).mono ?_
      rintro e w' ⟨rfl, rfl⟩
      rw [F1.out]
      go_wp2_with fail
      refine (mul_c A 0 _ ia (I64_lit _ (by omega))).mono ?_
      rintro e w' ⟨rfl, rfl⟩
      rw [F2.out]
      go_wp2_with fail
      refine (mul_c A (-4294967296) _ ia (I64_lit _ (by omega))).mono ?_
      rintro e w' ⟨rfl, rfl⟩
      rw [F3.out]
      go_wp2_with fail
      refine (div_c A 4294967296 _ ia (I64_lit _ (by omega))).mono ?_
      rintro e w' ⟨rfl, k2, rfl⟩
      rw [F4.out]
      go_wp2_with fail
      refine (add_c A 0 _ ia (I64_lit _ (by omega))).mono ?_
      rintro e w' ⟨rfl, rfl⟩
      rw [F5.out]
      go_wp2_with fail
      refine (sub_c A A _ ia ia).mono ?_
      rintro e w' ⟨rfl, rfl⟩
      rw [F6.out]
      go_wp2_with fail
      refine (mul_c (-A) B _ ina ib).mono ?_
      rintro e w' ⟨rfl, rfl⟩
      rw [F7.out]
      go_wp2_with fail
      refine (mul_c A B _ ia ib).mono ?_
      rintro e w' ⟨rfl, rfl⟩
      go_wp2_with fail
      refine (add_c (-A) (-B) _ ina inb).mono ?_
      rintro e w' ⟨rfl, rfl⟩
      rw [F8.out]
      go_wp2_with fail
      refine (add_c A B _ ia ib).mono ?_
      rintro e w' ⟨rfl, rfl⟩
      go_wp2_with fail
      refine (div_c A A _ ia ia).mono ?_
      rintro e w' ⟨rfl, k5, rfl⟩
      rw [F9.out]
      go_wp2_with fail
      refine (div_c (-A) B _ ina ib).mono ?_
      rintro e w' ⟨rfl, k3, rfl⟩
      rw [F10.out]
      go_wp2_with fail
      refine (div_c A B _ ia ib).mono ?_
      rintro e w' ⟨rfl, k4, rfl⟩
      go_wp2_with fail
      go_ret
      exact ⟨by simp, gend _ _⟩
end Go.Proofs.Ytjnklhjelgkkaaa.Fx
