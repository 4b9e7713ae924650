/- TurnSteps: the walk. -/
import Derived.Test.YthagioaenjlofaaTurnB
import Derived.Deep.RegionHeld3
namespace Go.Proofs.Ythagioaenjlofaa.Fx
open Go.ChangeShapes Go.WideShapes Go.ChangeAt Go.RowKit
set_option linter.unusedVariables false

set_option maxRecDepth 100000 in
set_option maxHeartbeats 2000000 in
theorem steps_walk (n0 v : Int) (w : World) (hn : I64 n0) (hv : I64 v) :
    Calls Try.prog 5 #[.int .i64 n0, .int .i64 v] w fun e w' => e = .returned (.bool true) ∧ Grown w w' := by
  obtain ⟨n, eN⟩ : ∃ n, bits .and .i64 n0 255 = n := ⟨_, rfl⟩
  obtain ⟨i, eI⟩ : ∃ i, bits .and .i64 v 4194303 = i := ⟨_, rfl⟩
  have n0' : 0 ≤ n ∧ n < 256 := by rw [← eN, and8]; omega
  have i0' : 0 ≤ i ∧ i < 4194304 := by rw [← eI, and22]; omega
  obtain ⟨n1, n2⟩ := n0'
  obtain ⟨i1, i2⟩ := i0'
  have E1 : Hid (stepF (n * 4194304) = n) := by unfold Hid; rw [stepF_at (by omega)]; omega
  have E2 : Hid (stepF (n * 4194304 + 4194304) = n + 1) := by unfold Hid; rw [stepF_at (by omega)]; omega
  have E3 : Hid (stepF (n * 4194304 + i) = n) := by unfold Hid; rw [stepF_at (by omega)]; omega
  have E4 : Hid (stepF (n * 4194304 - 1) = (n + 1023) % 1024) := by unfold Hid; rw [stepF_at (by omega)]; omega
  obtain ⟨q1, q2, q3, q4⟩ := quart_facts n n1 n2
  go_enter Try.func5, Try.ntmps5
  go_wp2_with fail
  refine (tfit_c _).mono ?_
  rintro e w1 ⟨rfl, hb⟩
  have HB := hid hb
  clear hb
  go_wp2_with fail
  refine (turnOf_is (n * 4194304) n _ (by unfold I64; omega) E1.out).mono ?_
  rintro e w2 ⟨rfl, hb2⟩
  go_wp2_with fail
  refine (turnOf_is (n * 4194304 + 4194304) (n + 1) _ (by unfold I64; omega) E2.out).mono ?_
  rintro e w3 ⟨rfl, hb3⟩
  have HM : Hid (Grown w w3) := gthen HB.out.grown (gthen hb2.grown hb3.grown)
  clear HB hb2 hb3
  go_upto_region 9 with fail
  have w1' : IntKind.i64.wrap (n * 4194304 - 1) = n * 4194304 - 1 := IntWalk.i64_in _ (by omega)
  have w2' : IntKind.i64.wrap (n + 1023) = n + 1023 := IntWalk.i64_in _ (by omega)
  have w3' : (n + 1023).tmod 1024 = (n + 1023) % 1024 := Int.tmod_eq_emod_of_nonneg (by omega)
  have I1 : Hid (I64 (n * 4194304 + i)) := by unfold Hid I64; omega
  have I2 : Hid (I64 (n * 4194304 - 1)) := by unfold Hid I64; omega
  go_region_held3 (fun w' => w'.cell? ⟨w3.heap.size, 0, none⟩ = some (.int .i64 (cs n)) ∧ w'.cell? ⟨w3.heap.size, 1, none⟩ = some (.int .i64 (sn n)) ∧ Grown w w')
    (first
      | (go_split_ands; exact ⟨hb4.reads (by assumption), hb4.reads (by assumption), gthen (by assumption) hb4.grown⟩)
      | (go_split_ands; exact ⟨by assumption, by assumption, Grown.drew (by assumption)⟩)
      | exact ⟨by go_simp, by go_simp, by repeat (first | exact HM.out | apply Grown.drew | apply Grown.alloc)⟩)
    (first
      | (go_at_call 9; refine (turnOf_is _ n _ I1.out E3.out).mono ?_; rintro e w4 ⟨rfl, hb4⟩)
      | (go_at_call 15; (with_reducible refine (step_is (n * 4194304 + i) n _ I1.out E3.out).mono ?_); rintro e w4 ⟨rfl, rfl⟩)
      | (go_at_call 15; (with_reducible refine (step_is (n * 4194304 - 1) ((n + 1023) % 1024) _ I2.out E4.out).mono ?_); rintro e w4 ⟨rfl, rfl⟩))
  clear w1' w2' w3'
  go_wp2_with fail
  go_ret
  refine ⟨rfl, ?_⟩
  (try dsimp only at *)
  go_split_ands
  assumption
end Go.Proofs.Ythagioaenjlofaa.Fx
