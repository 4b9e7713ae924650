/- FixOrders: the walk. -/
import Derived.Test.YtjnklhjelgkkaaaLawD
import Derived.WalkLawsBesides
namespace Go.Proofs.Ytjnklhjelgkkaaa.Fx
open Go.ChangeShapes Go.WideShapes Go.ChangeAt Go.RowKit
set_option linter.unusedVariables false

/-- the less of two, and the greater, both counted -/
def loF (a b : Int) : Int := cl (if a ≤ b then a else b)
def hiF (a b : Int) : Int := cl (if a ≤ b then b else a)
theorem lohi (a b : Int) : loF a b ≤ hiF a b := by
  unfold loF hiF; split
  · exact cl_le (by omega)
  · exact cl_le (by omega)
theorem loF_Rg {a b : Int} (ha : I64 a) (hb : I64 b) : Rg (loF a b) := by
  unfold loF; split
  · exact Rg_cl ha
  · exact Rg_cl hb
theorem hiF_Rg {a b : Int} (ha : I64 a) (hb : I64 b) : Rg (hiF a b) := by
  unfold hiF; split
  · exact Rg_cl hb
  · exact Rg_cl ha
set_option maxRecDepth 100000 in
set_option maxHeartbeats 2000000 in
theorem orders_walk (a b c : Int) (w : World) (ha : I64 a) (hb : I64 b) (ic : I64 c) :
    Calls Try.prog 10 #[.int .i64 a, .int .i64 b, .int .i64 c] w fun e w' => e = .returned (.bool true) ∧ Grown w w' := by
  have HA : Hid (I64 a) := ha
  have HB : Hid (I64 b) := hb
  obtain ⟨a0, a1⟩ := ha
  obtain ⟨b0, b1⟩ := hb
  go_enter Try.func10, Try.ntmps10
  go_wp2_with fail
  refine (fit_c _).mono ?_
  rintro e w' ⟨rfl, k, rfl⟩
  go_upto_region 3 with fail
  go_cut [0, 1] (fun s0 s1 wx => s0 = .int .i64 (loF a b) ∧ s1 = .int .i64 (hiF a b) ∧ wx = w.drewN k)
  case first =>
    go_wp2_with fail
    all_goals (go_meet; exact ⟨vint (by unfold loF cl; omega), vint (by unfold hiF cl; omega), rfl⟩)
  case rest =>
    obtain ⟨rfl, rfl, rfl⟩ := hcut
    have hA := loF_Rg HA.out HB.out
    have hB := hiF_Rg HA.out HB.out
    have hAB := lohi a b
    clear HA HB a0 a1 b0 b1
    generalize loF a b = A at *
    generalize hiF a b = B at *
    have ia := Rg_I64 hA
    have ib := Rg_I64 hB
    have hd := absF_bd ic
    have hD : Rg (absF c) := by unfold M at hd; unfold Rg; omega
    have id := Rg_I64 hD
    have F1 := add_le c hAB
    have F2 := mul_le hA hB hD hd.1 hAB
    have F3 := sqrt_le ib.2 hAB
    have F5 := neg_le hAB
    by_cases cz : absF c = 0
    · have cz' : (absF c == 0) = true := by simp [cz]
      clear cz
      go_wp2_with fail
      refine (abs_c c _ ic).mono ?_
      rintro e w' ⟨rfl, rfl⟩
      go_wp2_with fail
      refine (add_c A c _ ia ic).mono ?_
      rintro e w' ⟨rfl, rfl⟩
      go_wp2_with fail
      refine (add_c B c _ ib ic).mono ?_
      rintro e w' ⟨rfl, rfl⟩
      go_wp2_with fail
      refine (mul_c A (absF c) _ ia id).mono ?_
      rintro e w' ⟨rfl, rfl⟩
      go_wp2_with fail
      refine (mul_c B (absF c) _ ib id).mono ?_
      rintro e w' ⟨rfl, rfl⟩
      go_wp2_with fail
      refine (sqrt_c A _ ia).mono ?_
      rintro e w' ⟨rfl, rfl⟩
      go_wp2_with fail
      refine (sqrt_c B _ ib).mono ?_
      rintro e w' ⟨rfl, rfl⟩
      go_wp2_with fail
      refine (neg_c B _ ib).mono ?_
      rintro e w' ⟨rfl, rfl⟩
      go_wp2_with fail
      refine (neg_c A _ ia).mono ?_
      rintro e w' ⟨rfl, rfl⟩
      go_wp2_with fail
      go_ret
      exact ⟨by simp, gend _ _⟩
    · have F4 := div_le hA hB hD (by omega) hAB
      have cz' : (absF c == 0) = false := by simp [cz]
      clear cz
      go_wp2_with fail
      refine (abs_c c _ ic).mono ?_
      rintro e w' ⟨rfl, rfl⟩
      go_wp2_with fail
      refine (add_c A c _ ia ic).mono ?_
      rintro e w' ⟨rfl, rfl⟩
      go_wp2_with fail
      refine (add_c B c _ ib ic).mono ?_
      rintro e w' ⟨rfl, rfl⟩
      go_wp2_with fail
      refine (mul_c A (absF c) _ ia id).mono ?_
      rintro e w' ⟨rfl, rfl⟩
      go_wp2_with fail
      refine (mul_c B (absF c) _ ib id).mono ?_
      rintro e w' ⟨rfl, rfl⟩
      go_wp2_with fail
      refine (sqrt_c A _ ia).mono ?_
      rintro e w' ⟨rfl, rfl⟩
      go_wp2_with fail
      refine (sqrt_c B _ ib).mono ?_
      rintro e w' ⟨rfl, rfl⟩
      go_wp2_with fail
      refine (div_c A (absF c) _ ia id).mono ?_
      rintro e w' ⟨rfl, k2, rfl⟩
      go_wp2_with fail
      refine (div_c B (absF c) _ ib id).mono ?_
      rintro e w' ⟨rfl, k3, rfl⟩
      go_wp2_with fail
      refine (neg_c B _ ib).mono ?_
      rintro e w' ⟨rfl, rfl⟩
      go_wp2_with fail
      refine (neg_c A _ ia).mono ?_
      rintro e w' ⟨rfl, rfl⟩
      go_wp2_with fail
      go_ret
      exact ⟨by simp, gend _ _⟩
end Go.Proofs.Ytjnklhjelgkkaaa.Fx
