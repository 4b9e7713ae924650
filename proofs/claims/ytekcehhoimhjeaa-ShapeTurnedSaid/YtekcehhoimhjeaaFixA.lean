/- Contracts of package fix's small functions. -/
import Derived.Test.YtekcehhoimhjeaaRows
import Derived.Test.YtekcehhoimhjeaaFixM
import Derived.WalkKit
import Derived.ProofKit
import Derived.OpenShut
import Derived.Outline
namespace Go.Proofs.Ytekcehhoimhjeaa.Fx
open Go.ChangeShapes Go.WideShapes Go.ChangeAt Go.RowKit
set_option linter.unusedVariables false

theorem ret_i {k : IntKind} {a b : Int} (h : a = b) : Ending.returned (.int k a) = .returned (.int k b) := by rw [h]

set_option maxHeartbeats 400000 in
theorem counted_c (a : Int) (w : World) (h : I64 a) :
    Calls Try.prog 45 #[.int .i64 a] w fun e w' => e = .returned (.int .i64 (cl a)) ∧ w = w' := by
  obtain ⟨h0, h1⟩ := h
  by_cases hlt : a < -9223372036854775807
  · go_enter Try.func45, Try.ntmps45
    go_wp2
    go_ret
    exact ⟨ret_i (by unfold cl; omega), rfl⟩
  · go_enter Try.func45, Try.ntmps45
    go_wp2
    go_ret
    exact ⟨ret_i (by unfold cl; omega), rfl⟩
set_option maxHeartbeats 400000 in
theorem neg_c (a : Int) (w : World) (h : I64 a) :
    Calls Try.prog 35 #[.int .i64 a] w fun e w' => e = .returned (.int .i64 (negF a)) ∧ w = w' := by
  have hb := cl_bd h
  unfold L M at hb
  obtain ⟨hb0, hb1⟩ := hb
  go_enter Try.func35, Try.ntmps35
  go_wp2_with (go_at_call 45; refine (counted_c _ _ h).mono ?_; rintro e w' ⟨rfl, rfl⟩)
  go_ret
  exact ⟨ret_i (by unfold negF; omega), rfl⟩
set_option maxHeartbeats 400000 in
theorem abs_c (a : Int) (w : World) (h : I64 a) :
    Calls Try.prog 48 #[.int .i64 a] w fun e w' => e = .returned (.int .i64 (absF a)) ∧ w = w' := by
  by_cases hlt : a < 0
  · go_enter Try.func48, Try.ntmps48
    go_wp2_with (go_at_call 35; refine (neg_c _ _ h).mono ?_; rintro e w' ⟨rfl, rfl⟩)
    go_ret
    exact ⟨ret_i (by unfold absF; rw [if_pos hlt]), rfl⟩
  · go_enter Try.func48, Try.ntmps48
    go_wp2
    go_ret
    exact ⟨ret_i (by unfold absF; rw [if_neg (by omega)]), rfl⟩
set_option maxHeartbeats 400000 in
theorem size_c (a : Int) (w : World) (h : I64 a) :
    Calls Try.prog 39 #[.int .i64 a] w fun e w' => e = .returned (.int .u64 (absF a)) ∧ w = w' := by
  have hb := absF_bd h
  unfold M at hb
  obtain ⟨hb0, hb1⟩ := hb
  go_enter Try.func39, Try.ntmps39
  go_wp2_with (go_at_call 48; refine (abs_c _ _ h).mono ?_; rintro e w' ⟨rfl, rfl⟩)
  go_ret
  exact ⟨ret_i (by omega), rfl⟩
set_option maxHeartbeats 400000 in
theorem add_c (a b : Int) (w : World) (ha : I64 a) (hb : I64 b) :
    Calls Try.prog 31 #[.int .i64 a, .int .i64 b] w fun e w' => e = .returned (.int .i64 (addF a b)) ∧ w = w' := by
  have hx := cl_bd ha
  have hy := cl_bd hb
  unfold L M at hx hy
  obtain ⟨hx0, hx1⟩ := hx
  obtain ⟨hy0, hy1⟩ := hy
  have HF : Hid (addF a b = sat (cl a + cl b)) := rfl
  by_cases h1 : 0 < cl b
  · by_cases h2 : 9223372036854775807 - cl b < cl a
    · go_enter Try.func31, Try.ntmps31
      go_wp2_with (go_at_call 45; first | (refine (counted_c _ _ ha).mono ?_; rintro e w' ⟨rfl, rfl⟩) | (refine (counted_c _ _ hb).mono ?_; rintro e w' ⟨rfl, rfl⟩))
      go_ret
      exact ⟨ret_i (by rw [HF.out]; unfold sat; omega), rfl⟩
    · go_enter Try.func31, Try.ntmps31
      go_wp2_with (go_at_call 45; first | (refine (counted_c _ _ ha).mono ?_; rintro e w' ⟨rfl, rfl⟩) | (refine (counted_c _ _ hb).mono ?_; rintro e w' ⟨rfl, rfl⟩))
      go_ret
      exact ⟨ret_i (by rw [HF.out]; unfold sat; omega), rfl⟩
  · by_cases h2 : cl b < 0
    · by_cases h3 : cl a < -9223372036854775807 - cl b
      · go_enter Try.func31, Try.ntmps31
        go_wp2_with (go_at_call 45; first | (refine (counted_c _ _ ha).mono ?_; rintro e w' ⟨rfl, rfl⟩) | (refine (counted_c _ _ hb).mono ?_; rintro e w' ⟨rfl, rfl⟩))
        go_ret
        exact ⟨ret_i (by rw [HF.out]; unfold sat; omega), rfl⟩
      · go_enter Try.func31, Try.ntmps31
        go_wp2_with (go_at_call 45; first | (refine (counted_c _ _ ha).mono ?_; rintro e w' ⟨rfl, rfl⟩) | (refine (counted_c _ _ hb).mono ?_; rintro e w' ⟨rfl, rfl⟩))
        go_ret
        exact ⟨ret_i (by rw [HF.out]; unfold sat; omega), rfl⟩
    · go_enter Try.func31, Try.ntmps31
      go_wp2_with (go_at_call 45; first | (refine (counted_c _ _ ha).mono ?_; rintro e w' ⟨rfl, rfl⟩) | (refine (counted_c _ _ hb).mono ?_; rintro e w' ⟨rfl, rfl⟩))
      go_ret
      exact ⟨ret_i (by rw [HF.out]; unfold sat; omega), rfl⟩
theorem I64_neg {a : Int} (h : I64 a) : I64 (negF a) := by
  have := cl_bd h; unfold negF I64 L M at *; omega
theorem I64_cl {a : Int} (h : I64 a) : I64 (cl a) := by
  have := cl_bd h; unfold I64 L M at *; omega
theorem I64_add (a b : Int) : I64 (addF a b) := by
  have := sat_bd (cl a + cl b); unfold addF I64 L M at *; omega
set_option maxHeartbeats 400000 in
theorem sub_c (a b : Int) (w : World) (ha : I64 a) (hb : I64 b) :
    Calls Try.prog 32 #[.int .i64 a, .int .i64 b] w fun e w' => e = .returned (.int .i64 (subF a b)) ∧ w = w' := by
  have hn := I64_neg hb
  go_enter Try.func32, Try.ntmps32
  go_wp2_with (first | (go_at_call 35; refine (neg_c _ _ hb).mono ?_; rintro e w' ⟨rfl, rfl⟩) | (go_at_call 31; refine (add_c _ _ _ ha hn).mono ?_; rintro e w' ⟨rfl, rfl⟩))
  go_ret
  exact ⟨ret_i (by unfold subF; rfl), rfl⟩
set_option maxHeartbeats 400000 in
theorem signed_c (n : Int) (t : Bool) (w : World) (h0 : 0 ≤ n) (h1 : n ≤ 18446744073709551615) :
    Calls Try.prog 40 #[.int .u64 n, .bool t] w fun e w' => e = .returned (.int .i64 (signF n t)) ∧ w = w' := by
  by_cases hlt : n ≤ 9223372036854775807
  · cases t
    · go_enter Try.func40, Try.ntmps40
      go_wp2
      go_ret
      exact ⟨ret_i (by unfold signF; simp; omega), rfl⟩
    · go_enter Try.func40, Try.ntmps40
      go_wp2
      go_ret
      exact ⟨ret_i (by unfold signF; simp; omega), rfl⟩
  · cases t
    · go_enter Try.func40, Try.ntmps40
      go_wp2
      go_ret
      exact ⟨ret_i (by unfold signF; simp; omega), rfl⟩
    · go_enter Try.func40, Try.ntmps40
      go_wp2
      go_ret
      exact ⟨ret_i (by unfold signF; simp; omega), rfl⟩
theorem ret_ii {k : IntKind} {a b c d : Int} (h : a = b) (h' : c = d) : Ending.returned (.tuple #[.int k a, .int k c]) = .returned (.tuple #[.int k b, .int k d]) := by rw [h, h']
set_option maxHeartbeats 400000 in
theorem scaled_c (a : Int) (w : World) (h : I64 a) :
    Calls Try.prog 46 #[.int .i64 a] w fun e w' => e = .returned (.tuple #[.int .u64 (absF a / 4294967296), .int .u64 (absF a % 4294967296 * 4294967296)]) ∧ w = w' := by
  have hb := absF_bd h
  unfold M at hb
  obtain ⟨hb0, hb1⟩ := hb
  go_enter Try.func46, Try.ntmps46
  go_wp2_with (go_at_call 39; refine (size_c _ _ h).mono ?_; rintro e w' ⟨rfl, rfl⟩)
  go_ret2
  exact ⟨ret_ii rfl (by rw [IntKind.wrap_u64]; omega), rfl⟩
end Go.Proofs.Ytekcehhoimhjeaa.Fx
