/- Contracts: whole numbers. -/
import Derived.Test.YtekcehhoimhjeaaFixA
namespace Go.Proofs.Ytekcehhoimhjeaa.Fx
open Go.ChangeShapes Go.WideShapes Go.ChangeAt Go.RowKit
set_option linter.unusedVariables false

set_option maxHeartbeats 400000 in
theorem bring_c (a b c : Int) (w : World) (ha : I64 a) (hb : I64 b) (hc : I64 c) :
    Calls Try.prog 49 #[.int .i64 a, .int .i64 b, .int .i64 c] w fun e w' => e = .returned (.int .i64 (bringF a b c)) ∧ w = w' := by
  have h1 := cl_bd ha
  have h2 := cl_bd hb
  have h3 := cl_bd hc
  unfold L M at h1 h2 h3
  by_cases c1 : cl a < cl b
  · go_enter Try.func49, Try.ntmps49
    go_wp2_with (go_at_call 45; first | (refine (counted_c _ _ ha).mono ?_; rintro e w' ⟨rfl, rfl⟩) | (refine (counted_c _ _ hb).mono ?_; rintro e w' ⟨rfl, rfl⟩) | (refine (counted_c _ _ hc).mono ?_; rintro e w' ⟨rfl, rfl⟩))
    go_ret
    exact ⟨ret_i (by unfold bringF; rw [if_pos (by omega)]), rfl⟩
  · by_cases c2 : cl c < cl a
    · go_enter Try.func49, Try.ntmps49
      go_wp2_with (go_at_call 45; first | (refine (counted_c _ _ ha).mono ?_; rintro e w' ⟨rfl, rfl⟩) | (refine (counted_c _ _ hb).mono ?_; rintro e w' ⟨rfl, rfl⟩) | (refine (counted_c _ _ hc).mono ?_; rintro e w' ⟨rfl, rfl⟩))
      go_ret
      exact ⟨ret_i (by unfold bringF; rw [if_neg (by omega), if_pos (by omega)]), rfl⟩
    · go_enter Try.func49, Try.ntmps49
      go_wp2_with (go_at_call 45; first | (refine (counted_c _ _ ha).mono ?_; rintro e w' ⟨rfl, rfl⟩) | (refine (counted_c _ _ hb).mono ?_; rintro e w' ⟨rfl, rfl⟩) | (refine (counted_c _ _ hc).mono ?_; rintro e w' ⟨rfl, rfl⟩))
      go_ret
      exact ⟨ret_i (by unfold bringF; rw [if_neg (by omega), if_neg (by omega)]), rfl⟩
end Go.Proofs.Ytekcehhoimhjeaa.Fx
