/- Contracts: whole numbers. -/
import Derived.Test.YteahacfmmfjlmaaFixA
namespace Go.Proofs.Yteahacfmmfjlmaa.Fx
open Go.ChangeShapes Go.WideShapes Go.ChangeAt Go.RowKit
set_option linter.unusedVariables false

set_option maxHeartbeats 400000 in
theorem of_c (n : Int) (w : World) (h : I64 n) :
    Calls Try.prog 32 #[.int .i64 n] w fun e w' => e = .returned (.int .i64 (ofF n)) ∧ w = w' := by
  obtain ⟨h0, h1⟩ := h
  by_cases h2 : 2147483647 < n
  · go_enter Try.func32, Try.ntmps32
    go_wp2
    go_ret
    exact ⟨ret_i (by unfold ofF; omega), rfl⟩
  · by_cases h3 : n < -2147483647
    · go_enter Try.func32, Try.ntmps32
      go_wp2
      go_ret
      exact ⟨ret_i (by unfold ofF; omega), rfl⟩
    · go_enter Try.func32, Try.ntmps32
      go_wp2
      go_ret
      exact ⟨ret_i (by unfold ofF; omega), rfl⟩
set_option maxHeartbeats 400000 in
theorem bring_c (a b c : Int) (w : World) (ha : I64 a) (hb : I64 b) (hc : I64 c) :
    Calls Try.prog 31 #[.int .i64 a, .int .i64 b, .int .i64 c] w fun e w' => e = .returned (.int .i64 (bringF a b c)) ∧ w = w' := by
  have h1 := cl_bd ha
  have h2 := cl_bd hb
  have h3 := cl_bd hc
  unfold L M at h1 h2 h3
  by_cases c1 : cl a < cl b
  · go_enter Try.func31, Try.ntmps31
    go_wp2_with (go_at_call 34; first | (refine (counted_c _ _ ha).mono ?_; rintro e w' ⟨rfl, rfl⟩) | (refine (counted_c _ _ hb).mono ?_; rintro e w' ⟨rfl, rfl⟩) | (refine (counted_c _ _ hc).mono ?_; rintro e w' ⟨rfl, rfl⟩))
    go_ret
    exact ⟨ret_i (by unfold bringF; rw [if_pos (by omega)]), rfl⟩
  · by_cases c2 : cl c < cl a
    · go_enter Try.func31, Try.ntmps31
      go_wp2_with (go_at_call 34; first | (refine (counted_c _ _ ha).mono ?_; rintro e w' ⟨rfl, rfl⟩) | (refine (counted_c _ _ hb).mono ?_; rintro e w' ⟨rfl, rfl⟩) | (refine (counted_c _ _ hc).mono ?_; rintro e w' ⟨rfl, rfl⟩))
      go_ret
      exact ⟨ret_i (by unfold bringF; rw [if_neg (by omega), if_pos (by omega)]), rfl⟩
    · go_enter Try.func31, Try.ntmps31
      go_wp2_with (go_at_call 34; first | (refine (counted_c _ _ ha).mono ?_; rintro e w' ⟨rfl, rfl⟩) | (refine (counted_c _ _ hb).mono ?_; rintro e w' ⟨rfl, rfl⟩) | (refine (counted_c _ _ hc).mono ?_; rintro e w' ⟨rfl, rfl⟩))
      go_ret
      exact ⟨ret_i (by unfold bringF; rw [if_neg (by omega), if_neg (by omega)]), rfl⟩
end Go.Proofs.Yteahacfmmfjlmaa.Fx
