/- FixWholes: the walk. -/
import Derived.Test.YtjnklhjelgkkaaaLawD
import Derived.Deep.CutBlock
namespace Go.Proofs.Ytjnklhjelgkkaaa.Fx
open Go.ChangeShapes Go.WideShapes Go.ChangeAt Go.RowKit
set_option linter.unusedVariables false

theorem ofF_Rg (n : Int) : Rg (ofF n) := by unfold Rg ofF; split <;> (try split) <;> omega
theorem bring_lo {a lo hi : Int} (hl : Rg lo) (hh : Rg hi) (h : cl a < lo) : bringF a lo hi = lo := by
  unfold bringF; rw [clR hl, if_pos h]
theorem bring_hi {a lo hi : Int} (hl : Rg lo) (hh : Rg hi) (h : ¬ cl a < lo) (h2 : hi < cl a) : bringF a lo hi = hi := by
  unfold bringF; rw [clR hl, clR hh, if_neg h, if_pos h2]
theorem bring_in {a lo hi : Int} (hl : Rg lo) (hh : Rg hi) (h : ¬ cl a < lo) (h2 : ¬ hi < cl a) : bringF a lo hi = cl a := by
  unfold bringF; rw [clR hl, clR hh, if_neg h, if_neg h2]
set_option maxRecDepth 100000 in
set_option maxHeartbeats 2000000 in
theorem wholes_walk (n d a : Int) (w : World) (inn : I64 n) (id : I64 d) (ia : I64 a) :
    Calls Try.prog 7 #[.int .i64 n, .int .i64 d, .int .i64 a] w fun e w' => e = .returned (.bool true) ∧ Grown w w' := by
  go_enter Try.func7, Try.ntmps7
  go_wp2_with fail
  refine (fit_c _).mono ?_
  rintro e w' ⟨rfl, k, rfl⟩
  go_wp2_with fail
  refine (of_c n _ inn).mono ?_
  rintro e w' ⟨rfl, rfl⟩
  go_upto_block 0 with fail
  go_cut [7] (fun s7 wx => s7 = .int .i64 (ofF n) ∧ wx = w.drewN k)
  case first =>
    obtain ⟨n0, n1⟩ := inn
    by_cases c1 : 2147483648 ≤ n
    · have e1 : ofF n = 9223372036854775807 := by unfold ofF; rw [if_pos (by omega)]
      go_wp2_with fail
      go_meet
      exact ⟨vint (by omega), rfl⟩
    · by_cases c2 : n ≤ -2147483648
      · have e1 : ofF n = -9223372036854775807 := by unfold ofF; rw [if_neg (by omega), if_pos (by omega)]
        go_wp2_with fail
        go_meet
        exact ⟨vint (by omega), rfl⟩
      · have e1 : ofF n = n * 4294967296 := by unfold ofF; rw [if_neg (by omega), if_neg (by omega)]
        go_wp2_with fail
        go_meet
        exact ⟨vint (by omega), rfl⟩
  case rest =>
    obtain ⟨rfl, rfl⟩ := hcut
    have ion := Rg_I64 (ofF_Rg n)
    have iod := Rg_I64 (ofF_Rg d)
    have hlr : Rg (min (ofF d) (ofF n)) := by have := ofF_Rg d; have := ofF_Rg n; unfold Rg at *; omega
    have hhr : Rg (max (ofF d) (ofF n)) := by have := ofF_Rg d; have := ofF_Rg n; unfold Rg at *; omega
    have hlh : min (ofF d) (ofF n) ≤ max (ofF d) (ofF n) := by omega
    obtain ⟨lo, el⟩ : ∃ lo, min (ofF d) (ofF n) = lo := ⟨_, rfl⟩
    obtain ⟨hi, eh⟩ : ∃ hi, max (ofF d) (ofF n) = hi := ⟨_, rfl⟩
    rw [el] at hlr hlh
    rw [eh] at hhr hlh
    have em : max a (-9223372036854775807) = cl a := by unfold cl; omega
    have il := Rg_I64 hlr
    have ih := Rg_I64 hhr
    have EP : Hid (divF (ofF n) (ofF d) = partF n d) := rfl
    by_cases c1 : cl a < lo
    · have HE : Hid _ := bring_lo (a := a) hlr hhr c1
      go_wp2_with fail
      refine (of_c d _ id).mono ?_
      rintro e w' ⟨rfl, rfl⟩
      go_wp2_with fail
      refine (of_c d _ id).mono ?_
      rintro e w' ⟨rfl, rfl⟩
      go_wp2_with fail
      refine (bring_c a lo hi _ ia il ih).mono ?_
      rintro e w' ⟨rfl, rfl⟩
      rw [HE.out]
      go_wp2_with fail
      refine (part_c n d _ inn id).mono ?_
      rintro e w' ⟨rfl, k2, rfl⟩
      go_wp2_with fail
      refine (of_c d _ id).mono ?_
      rintro e w' ⟨rfl, rfl⟩
      go_wp2_with fail
      refine (div_c (ofF n) (ofF d) _ ion iod).mono ?_
      rintro e w' ⟨rfl, k3, rfl⟩
      rw [EP.out]
      go_wp2_with fail
      go_ret
      exact ⟨by simp, gend _ _⟩
    · by_cases c2 : hi < cl a
      · have HE : Hid _ := bring_hi (a := a) hlr hhr c1 c2
        go_wp2_with fail
        refine (of_c d _ id).mono ?_
        rintro e w' ⟨rfl, rfl⟩
        go_wp2_with fail
        refine (of_c d _ id).mono ?_
        rintro e w' ⟨rfl, rfl⟩
        go_wp2_with fail
        refine (bring_c a lo hi _ ia il ih).mono ?_
        rintro e w' ⟨rfl, rfl⟩
        rw [HE.out]
        go_wp2_with fail
        refine (part_c n d _ inn id).mono ?_
        rintro e w' ⟨rfl, k2, rfl⟩
        go_wp2_with fail
        refine (of_c d _ id).mono ?_
        rintro e w' ⟨rfl, rfl⟩
        go_wp2_with fail
        refine (div_c (ofF n) (ofF d) _ ion iod).mono ?_
        rintro e w' ⟨rfl, k3, rfl⟩
        rw [EP.out]
        go_wp2_with fail
        go_ret
        exact ⟨by simp, gend _ _⟩
      · have HE : Hid _ := bring_in (a := a) hlr hhr c1 c2
        go_wp2_with fail
        refine (of_c d _ id).mono ?_
        rintro e w' ⟨rfl, rfl⟩
        go_wp2_with fail
        refine (of_c d _ id).mono ?_
        rintro e w' ⟨rfl, rfl⟩
        go_wp2_with fail
        refine (bring_c a lo hi _ ia il ih).mono ?_
        rintro e w' ⟨rfl, rfl⟩
        rw [HE.out]
        go_wp2_with fail
        refine (part_c n d _ inn id).mono ?_
        rintro e w' ⟨rfl, k2, rfl⟩
        go_wp2_with fail
        refine (of_c d _ id).mono ?_
        rintro e w' ⟨rfl, rfl⟩
        go_wp2_with fail
        refine (div_c (ofF n) (ofF d) _ ion iod).mono ?_
        rintro e w' ⟨rfl, k3, rfl⟩
        rw [EP.out]
        go_wp2_with fail
        go_ret
        exact ⟨by simp, gend _ _⟩
end Go.Proofs.Ytjnklhjelgkkaaa.Fx
