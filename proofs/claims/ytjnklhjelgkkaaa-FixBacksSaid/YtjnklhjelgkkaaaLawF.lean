/- FixBacks: the walk. -/
import Derived.Test.YtjnklhjelgkkaaaLawD
import Derived.Test.YtjnklhjelgkkaaaFixQ
namespace Go.Proofs.Ytjnklhjelgkkaaa.Fx
open Go.ChangeShapes Go.WideShapes Go.ChangeAt Go.RowKit
set_option linter.unusedVariables false

set_option maxRecDepth 100000 in
set_option maxHeartbeats 2000000 in
theorem backs_walk (a b : Int) (w : World) (ha : I64 a) (hb : I64 b) :
    Calls Try.prog 11 #[.int .i64 a, .int .i64 b] w fun e w' => e = .returned (.bool true) ∧ Grown w w' := by
  obtain ⟨a0, a1⟩ := ha
  obtain ⟨b0, b1⟩ := hb
  have ta := tmod_Sm a
  have tb := tmod_Sm b
  obtain ⟨ta0, ta1⟩ := ta
  obtain ⟨tb0, tb1⟩ := tb
  go_enter Try.func11, Try.ntmps11
  go_wp2_with fail
  refine (fit_c _).mono ?_
  rintro e w' ⟨rfl, k, rfl⟩
  go_upto_region 3 with fail
  go_cut [0, 1] (fun s0 s1 wx => s0 = .int .i64 (a.tmod 70368744177664) ∧ s1 = .int .i64 (b.tmod 70368744177664) ∧ wx = w.drewN k)
  case first =>
    go_wp2_with fail
    go_meet
    exact ⟨rfl, rfl, rfl⟩
  case rest =>
    obtain ⟨rfl, rfl, rfl⟩ := hcut
    clear a0 a1 b0 b1 ta0 ta1 tb0 tb1
    have hA := tmod_Sm a
    have hB := tmod_Sm b
    generalize a.tmod 70368744177664 = A at *
    generalize b.tmod 70368744177664 = B at *
    have ia := Rg_I64 (Sm_Rg hA)
    have ib := Rg_I64 (Sm_Rg hB)
    by_cases cz : B = 0
    · have cz' : (B == 0) = true := by simp [cz]
      clear cz
      go_wp2_with fail
      go_ret
      exact ⟨rfl, gend _ _⟩
    · obtain ⟨G1, G2, G3⟩ := back_off hA hB cz
      have hx := abs_Sm hA
      obtain ⟨r0, r1, r2, r3, r4, r5⟩ := back_root hx.1 hx.2
      have cz' : (B == 0) = false := by simp [cz]
      clear cz
      have ip := Rg_I64 (mulF_bd A B ia ib)
      have iq := Rg_I64 (divF_bd (mulF A B) B ip ib)
      have io : I64 (subF (divF (mulF A B) B) A) := Rg_I64 (subF_bd _ _)
      have iv := Rg_I64 (divF_bd 1 B (I64_lit _ (by omega)) ib)
      have ix : I64 (absF A) := by unfold I64; omega
      have is : I64 (sqrtF (absF A)) := by unfold I64; omega
      have iss := Rg_I64 (mulF_bd _ _ is is)
      have it : I64 (2 * sqrtF (absF A) + 1) := by unfold I64; omega
      have E1 : Hid (divF (2 * sqrtF (absF A) + 1) 4294967296 = 2 * sqrtF (absF A) + 1) := div_one (by unfold Rg; omega)
      obtain ⟨hx0, hx1⟩ := hx
      clear hA hB
      go_wp2_with fail
      refine (mul_c A B _ ia ib).mono ?_
      rintro e w' ⟨rfl, rfl⟩
      go_wp2_with fail
      refine (div_c (mulF A B) B _ ip ib).mono ?_
      rintro e w' ⟨rfl, k2, rfl⟩
      go_wp2_with fail
      refine (sub_c (divF (mulF A B) B) A _ iq ia).mono ?_
      rintro e w' ⟨rfl, rfl⟩
      go_wp2_with fail
      refine (abs_c (subF (divF (mulF A B) B) A) _ io).mono ?_
      rintro e w' ⟨rfl, rfl⟩
      go_wp2_with fail
      refine (div_c 1 B _ (I64_lit _ (by omega)) ib).mono ?_
      rintro e w' ⟨rfl, k3, rfl⟩
      go_wp2_with fail
      refine (abs_c (divF 1 B) _ iv).mono ?_
      rintro e w' ⟨rfl, rfl⟩
      go_wp2_with fail
      refine (abs_c A _ ia).mono ?_
      rintro e w' ⟨rfl, rfl⟩
      go_wp2_with fail
      refine (sqrt_c (absF A) _ ix).mono ?_
      rintro e w' ⟨rfl, rfl⟩
      go_wp2_with fail
      refine (abs_c A _ ia).mono ?_
      rintro e w' ⟨rfl, rfl⟩
      go_wp2_with fail
      refine (mul_c (sqrtF (absF A)) (sqrtF (absF A)) _ is is).mono ?_
      rintro e w' ⟨rfl, rfl⟩
      go_wp2_with fail
      refine (sub_c (absF A) (mulF (sqrtF (absF A)) (sqrtF (absF A))) _ ix iss).mono ?_
      rintro e w' ⟨rfl, rfl⟩
      go_wp2_with fail
      refine (div_c _ 4294967296 _ it (I64_lit _ (by omega))).mono ?_
      rintro e w' ⟨rfl, k4, rfl⟩
      rw [E1.out]
      go_wp2_with fail
      refine (mul_c 2 (sqrtF (absF A)) _ (I64_lit _ (by omega)) is).mono ?_
      rintro e w' ⟨rfl, rfl⟩
      go_wp2_with fail
      go_ret
      exact ⟨by simp; omega, gend _ _⟩
end Go.Proofs.Ytjnklhjelgkkaaa.Fx
