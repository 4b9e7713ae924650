/- TurnWraps: the walk. -/
import Derived.Test.YthagioaenjlofaaTurnB
namespace Go.Proofs.Ythagioaenjlofaa.Fx
open Go.ChangeShapes Go.WideShapes Go.ChangeAt Go.RowKit
set_option linter.unusedVariables false

theorem wrap_wrap (a : Int) : wrapF (wrapF a) = wrapF a := by
  have := wrapF_bd a
  have e : cl (wrapF a) = wrapF a := cl_id (by omega)
  show cl (wrapF a) % 4294967296 = wrapF a
  rw [e]; omega
set_option maxHeartbeats 1000000 in
theorem wraps_walk (a t : Int) (w : World) (ha : I64 a) (ht : -128 ≤ t ∧ t ≤ 127) :
    Calls Try.prog 6 #[.int .i64 a, .int .i8 t] w fun e w' => e = .returned (.bool true) ∧ Grown w w' := by
  obtain ⟨a0, a1⟩ := ha
  obtain ⟨t0, t1⟩ := ht
  obtain ⟨A, eA⟩ : ∃ A, a / 256 = A := ⟨_, rfl⟩
  have A0 : -36028797018963968 ≤ A := by omega
  have A1 : A ≤ 36028797018963967 := by omega
  have E1 : Hid _ := wrap_wrap A
  have E2 : Hid (wrapF (A + t * 4294967296) = wrapF A) := by
    unfold Hid wrapF; rw [cl_id (by omega), cl_id (by omega)]; omega
  have E3 : Hid (stepF (A + t * 4294967296) = stepF A) := by unfold Hid stepF; rw [E2.out]
  have E4 : Hid (stepF (wrapF A) = stepF A) := by unfold Hid stepF; rw [E1.out]
  obtain ⟨W, eW⟩ : ∃ W, W = wrapF A := ⟨_, rfl⟩
  have hW := wrapF_bd A
  rw [← eW] at hW
  obtain ⟨W0, W1⟩ := hW
  have E5 : Hid (wrapF (-W) = (4294967296 - W) % 4294967296) := by
    unfold Hid wrapF; rw [cl_id (by omega)]; omega
  have HW := hid eW
  clear eW
  go_enter Try.func6, Try.ntmps6
  go_wp2_with fail
  refine (tfit_c _).mono ?_
  rintro e w1 ⟨rfl, hb⟩
  have HB := hid hb
  clear hb
  go_wp2_with fail
  refine (wrap_c A _ (by unfold I64; omega)).mono ?_
  rintro e w' ⟨rfl, rfl⟩
  rw [← HW.out]
  go_wp2_with fail
  refine (wrap_c W _ (by unfold I64; omega)).mono ?_
  rintro e w' ⟨rfl, rfl⟩
  rw [HW.out, E1.out, ← HW.out]
  go_wp2_with fail
  refine (wrap_c (A + t * 4294967296) _ (by unfold I64; omega)).mono ?_
  rintro e w' ⟨rfl, rfl⟩
  rw [E2.out, ← HW.out]
  go_wp2_with fail
  refine (step_c (A + t * 4294967296) _ (by unfold I64; omega)).mono ?_
  rintro e w' ⟨rfl, rfl⟩
  rw [E3.out]
  go_wp2_with fail
  refine (step_c A _ (by unfold I64; omega)).mono ?_
  rintro e w' ⟨rfl, rfl⟩
  go_wp2_with fail
  refine (turnOf_c (A + t * 4294967296) _ (by unfold I64; omega)).mono ?_
  rintro e w2 ⟨rfl, hb2⟩
  rw [E3.out]
  have HB2 := hid hb2
  clear hb2
  go_wp2_with fail
  refine (turnOf_c W _ (by unfold I64; omega)).mono ?_
  rintro e w3 ⟨rfl, hb3⟩
  rw [HW.out, E4.out, ← HW.out]
  have HB3 := hid hb3
  clear hb3
  go_wp2_with fail
  refine (wrap_c (-W) _ (by unfold I64; omega)).mono ?_
  rintro e w' ⟨rfl, rfl⟩
  rw [E5.out]
  go_wp2_with fail
  go_ret
  exact ⟨rfl, (HB.out.then_ ((HB2.out.then_ (HB3.out.low HB2.out.1.size)).low HB.out.1.size)).grown⟩
end Go.Proofs.Ythagioaenjlofaa.Fx
