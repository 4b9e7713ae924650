/- Fixes TurnA TurnP TurnB Vecs Shapes -/
import Derived.Test.YtgdcphmmehedoaaGreatCa0
import Derived.Test.YtgdcphmmehedoaaGreatCa1
import Derived.Test.YtgdcphmmehedoaaGreatRows
import Derived.WalkKit
import Derived.ProofKit
import Derived.OpenShut
import Derived.Outline
import Derived.Lib.Mul64
import Derived.Laws.Bits64b
import Derived.Lib.Strings
import Derived.Lib.Slices
import Derived.Lib.Small
import Derived.Lib.Walk
import Derived.Lib.BitFns
import Derived.Deep.QuietTactic
import Derived.BigQuiet
import Derived.LoopTactic
import Derived.Great.BuildSlice
import Derived.Great.Walk
import Derived.Deep.DeepCutAuto
import Derived.Deep.LoopGhost
import Derived.LoopN
import Derived.WalkMore
import Derived.OwnWalk
import Derived.Lib.SliceRun
set_option maxRecDepth 100000
set_option maxHeartbeats 64000000
/- Contracts of package fix. -/
/- Contracts of package fix's small functions. -/
namespace Go.Proofs.YtgdcphmmehedoaaGreat.Fx
open Go.ChangeShapes Go.WideShapes Go.ChangeAt Go.RowKit
set_option linter.unusedVariables false
theorem ret_i {k : IntKind} {a b : Int} (h : a = b) : Ending.returned (.int k a) = .returned (.int k b) := by rw [h]
theorem counted_c (a : Int) (w : World) (h : I64 a) :
  Calls Tryz.prog 106 #[.int .i64 a] w fun e w' => e = .returned (.int .i64 (cl a)) ∧ w = w' := by
 obtain ⟨h0, h1⟩ := h
 by_cases hlt : a < -9223372036854775807
 ·go_enter Tryz.func106, Tryz.ntmps106
  go_wp2
  go_ret
  exact ⟨ret_i (by unfold cl; omega), rfl⟩
 ·go_enter Tryz.func106, Tryz.ntmps106
  go_wp2
  go_ret
  exact ⟨ret_i (by unfold cl; omega), rfl⟩
theorem neg_c (a : Int) (w : World) (h : I64 a) :
  Calls Tryz.prog 105 #[.int .i64 a] w fun e w' => e = .returned (.int .i64 (negF a)) ∧ w = w' := by
 have hb := cl_bd h
 unfold L M at hb
 obtain ⟨hb0, hb1⟩ := hb
 go_enter Tryz.func105, Tryz.ntmps105
 go_wp2_with (go_at_call 106; refine (counted_c _ _ h).mono ?_; rintro e w' ⟨rfl, rfl⟩)
 go_ret
 exact ⟨ret_i (by unfold negF; omega), rfl⟩
theorem abs_c (a : Int) (w : World) (h : I64 a) :
  Calls Tryz.prog 159 #[.int .i64 a] w fun e w' => e = .returned (.int .i64 (absF a)) ∧ w = w' := by
 by_cases hlt : a < 0
 ·go_enter Tryz.func159, Tryz.ntmps159
  go_wp2_with (go_at_call 105; refine (neg_c _ _ h).mono ?_; rintro e w' ⟨rfl, rfl⟩)
  go_ret
  exact ⟨ret_i (by unfold absF; rw [if_pos hlt]), rfl⟩
 ·go_enter Tryz.func159, Tryz.ntmps159
  go_wp2
  go_ret
  exact ⟨ret_i (by unfold absF; rw [if_neg (by omega)]), rfl⟩
theorem size_c (a : Int) (w : World) (h : I64 a) :
  Calls Tryz.prog 157 #[.int .i64 a] w fun e w' => e = .returned (.int .u64 (absF a)) ∧ w = w' := by
 have hb := absF_bd h
 unfold M at hb
 obtain ⟨hb0, hb1⟩ := hb
 go_enter Tryz.func157, Tryz.ntmps157
 go_wp2_with (go_at_call 159; refine (abs_c _ _ h).mono ?_; rintro e w' ⟨rfl, rfl⟩)
 go_ret
 exact ⟨ret_i (by omega), rfl⟩
theorem add_c (a b : Int) (w : World) (ha : I64 a) (hb : I64 b) :
  Calls Tryz.prog 155 #[.int .i64 a, .int .i64 b] w fun e w' => e = .returned (.int .i64 (addF a b)) ∧ w = w' := by
 have hx := cl_bd ha
 have hy := cl_bd hb
 unfold L M at hx hy
 obtain ⟨hx0, hx1⟩ := hx
 obtain ⟨hy0, hy1⟩ := hy
 have HF : Hid (addF a b = sat (cl a + cl b)) := rfl
 by_cases h1 : 0 < cl b
 ·by_cases h2 : 9223372036854775807 - cl b < cl a
  ·go_enter Tryz.func155, Tryz.ntmps155
   go_wp2_with (go_at_call 106; first | (refine (counted_c _ _ ha).mono ?_; rintro e w' ⟨rfl, rfl⟩) | (refine (counted_c _ _ hb).mono ?_; rintro e w' ⟨rfl, rfl⟩))
   go_ret
   exact ⟨ret_i (by rw [HF.out]; unfold sat; omega), rfl⟩
  ·go_enter Tryz.func155, Tryz.ntmps155
   go_wp2_with (go_at_call 106; first | (refine (counted_c _ _ ha).mono ?_; rintro e w' ⟨rfl, rfl⟩) | (refine (counted_c _ _ hb).mono ?_; rintro e w' ⟨rfl, rfl⟩))
   go_ret
   exact ⟨ret_i (by rw [HF.out]; unfold sat; omega), rfl⟩
 ·by_cases h2 : cl b < 0
  ·by_cases h3 : cl a < -9223372036854775807 - cl b
   ·go_enter Tryz.func155, Tryz.ntmps155
    go_wp2_with (go_at_call 106; first | (refine (counted_c _ _ ha).mono ?_; rintro e w' ⟨rfl, rfl⟩) | (refine (counted_c _ _ hb).mono ?_; rintro e w' ⟨rfl, rfl⟩))
    go_ret
    exact ⟨ret_i (by rw [HF.out]; unfold sat; omega), rfl⟩
   ·go_enter Tryz.func155, Tryz.ntmps155
    go_wp2_with (go_at_call 106; first | (refine (counted_c _ _ ha).mono ?_; rintro e w' ⟨rfl, rfl⟩) | (refine (counted_c _ _ hb).mono ?_; rintro e w' ⟨rfl, rfl⟩))
    go_ret
    exact ⟨ret_i (by rw [HF.out]; unfold sat; omega), rfl⟩
  ·go_enter Tryz.func155, Tryz.ntmps155
   go_wp2_with (go_at_call 106; first | (refine (counted_c _ _ ha).mono ?_; rintro e w' ⟨rfl, rfl⟩) | (refine (counted_c _ _ hb).mono ?_; rintro e w' ⟨rfl, rfl⟩))
   go_ret
   exact ⟨ret_i (by rw [HF.out]; unfold sat; omega), rfl⟩
theorem I64_neg {a : Int} (h : I64 a) : I64 (negF a) := by
 have := cl_bd h; unfold negF I64 L M at *; omega
theorem sub_c (a b : Int) (w : World) (ha : I64 a) (hb : I64 b) :
  Calls Tryz.prog 153 #[.int .i64 a, .int .i64 b] w fun e w' => e = .returned (.int .i64 (subF a b)) ∧ w = w' := by
 have hn := I64_neg hb
 go_enter Tryz.func153, Tryz.ntmps153
 go_wp2_with (first | (go_at_call 105; refine (neg_c _ _ hb).mono ?_; rintro e w' ⟨rfl, rfl⟩) | (go_at_call 155; refine (add_c _ _ _ ha hn).mono ?_; rintro e w' ⟨rfl, rfl⟩))
 go_ret
 exact ⟨ret_i (by unfold subF; rfl), rfl⟩
theorem signed_c (n : Int) (t : Bool) (w : World) (h0 : 0 ≤ n) (h1 : n ≤ 18446744073709551615) :
  Calls Tryz.prog 158 #[.int .u64 n, .bool t] w fun e w' => e = .returned (.int .i64 (signF n t)) ∧ w = w' := by
 by_cases hlt : n ≤ 9223372036854775807
 ·cases t
  ·go_enter Tryz.func158, Tryz.ntmps158
   go_wp2
   go_ret
   exact ⟨ret_i (by unfold signF; simp; omega), rfl⟩
  ·go_enter Tryz.func158, Tryz.ntmps158
   go_wp2
   go_ret
   exact ⟨ret_i (by unfold signF; simp; omega), rfl⟩
 ·cases t
  ·go_enter Tryz.func158, Tryz.ntmps158
   go_wp2
   go_ret
   exact ⟨ret_i (by unfold signF; simp; omega), rfl⟩
  ·go_enter Tryz.func158, Tryz.ntmps158
   go_wp2
   go_ret
   exact ⟨ret_i (by unfold signF; simp; omega), rfl⟩
theorem ret_ii {k : IntKind} {a b c d : Int} (h : a = b) (h' : c = d) : Ending.returned (.tuple #[.int k a, .int k c]) = .returned (.tuple #[.int k b, .int k d]) := by rw [h, h']
end Go.Proofs.YtgdcphmmehedoaaGreat.Fx
/- Contracts: products, quotients. -/
namespace Go.Proofs.YtgdcphmmehedoaaGreat.Fx
open Go.ChangeShapes Go.WideShapes Go.ChangeAt Go.RowKit
set_option linter.unusedVariables false
theorem maskN (a : Nat) (ha : a < 18446744073709551616) : bits .and .u64 (a : Int) 4294967295 = ((a % 4294967296 : Nat) : Int) := by
 have h := bits_and_u64_nat a 4294967295 ha (by omega)
 have e : a &&& 4294967295 = a % 4294967296 := Nat.and_two_pow_sub_one_eq_mod a 32
 rw [e] at h
 exact h
theorem divN (a : Nat) : (a : Int) / 4294967296 = ((a / 4294967296 : Nat) : Int) := by omega
theorem mulN (a b : Nat) : (a : Int) * (b : Int) = ((a * b : Nat) : Int) := (Int.natCast_mul a b).symm
theorem addN (a b : Nat) : (a : Int) + (b : Int) = ((a + b : Nat) : Int) := (Int.natCast_add a b).symm
theorem wrapN (a : Nat) (ha : a < 18446744073709551616) : IntKind.u64.wrap (a : Int) = (a : Int) := by rw [IntKind.wrap_u64]; omega
theorem wrapM (a : Nat) : IntKind.u64.wrap (a : Int) = ((a % 18446744073709551616 : Nat) : Int) := by rw [IntKind.wrap_u64]; omega
theorem mul64_n (x y : Nat) (hx : x < 18446744073709551616) (hy : y < 18446744073709551616) (w : World) :
  Calls Tryz.prog 156 #[.int .u64 (x : Int), .int .u64 (y : Int)] w fun e w' => e = .returned (.tuple #[.int .u64 ((x * y / 18446744073709551616 : Nat) : Int), .int .u64 ((x * y % 18446744073709551616 : Nat) : Int)]) ∧ w = w' := by
 obtain ⟨bd, bt, bw, hhi⟩ := Lib.mul64_hi x y hx hy
 have ba := Lib.half_mul_le (a := x / 4294967296) (b := y / 4294967296) (by omega) (by omega)
 have bb := Lib.half_mul_le (a := x / 4294967296) (b := y % 4294967296) (by omega) (by omega)
 have bc := Lib.half_mul_le (a := x % 4294967296) (b := y / 4294967296) (by omega) (by omega)
 have ba' : x / 4294967296 * (y / 4294967296) < 18446744073709551616 := by omega
 have bb' : x / 4294967296 * (y % 4294967296) < 18446744073709551616 := by omega
 have bc' : x % 4294967296 * (y / 4294967296) < 18446744073709551616 := by omega
 have bh1 : x / 4294967296 * (y / 4294967296) + (x / 4294967296 * (y % 4294967296) + x % 4294967296 * (y % 4294967296) / 4294967296) / 4294967296 < 18446744073709551616 := by omega
 have bh : x / 4294967296 * (y / 4294967296) + (x / 4294967296 * (y % 4294967296) + x % 4294967296 * (y % 4294967296) / 4294967296) / 4294967296 + ((x / 4294967296 * (y % 4294967296) + x % 4294967296 * (y % 4294967296) / 4294967296) % 4294967296 + x % 4294967296 * (y / 4294967296)) / 4294967296 < 18446744073709551616 := by omega
 go_enter Tryz.func156, Tryz.ntmps156
 go_wp2
 simp only [maskN x hx, maskN y hy, divN, mulN, addN, wrapN _ bd, wrapN _ bb', wrapN _ bt, maskN _ bt, wrapN _ bc', wrapN _ bw, wrapN _ ba', wrapN _ bh1, wrapN _ bh, wrapM (x * y)]
 rw [hhi]
 go_ret2
 exact ⟨rfl, rfl⟩
theorem mul64_c (x y : Int) (w : World) (h0 : 0 ≤ x) (h1 : x ≤ 18446744073709551615) (h2 : 0 ≤ y) (h3 : y ≤ 18446744073709551615) :
  Calls Tryz.prog 156 #[.int .u64 x, .int .u64 y] w fun e w' => e = .returned (.tuple #[.int .u64 (x * y / 18446744073709551616), .int .u64 (x * y % 18446744073709551616)]) ∧ w = w' := by
 obtain ⟨n, rfl⟩ := Int.eq_ofNat_of_zero_le h0
 obtain ⟨m, rfl⟩ := Int.eq_ofNat_of_zero_le h2
 refine (mul64_n n m (by omega) (by omega) w).mono ?_
 rintro e w' ⟨rfl, rfl⟩
 exact ⟨ret_ii (by simp) (by simp), rfl⟩
end Go.Proofs.YtgdcphmmehedoaaGreat.Fx
/- Contracts: products. -/
namespace Go.Proofs.YtgdcphmmehedoaaGreat.Fx
open Go.ChangeShapes Go.WideShapes Go.ChangeAt Go.RowKit
set_option linter.unusedVariables false
theorem or_joint (a b : Int) (h0 : 0 ≤ a) (h1 : a < 4294967296) (h2 : 0 ≤ b) (h3 : b < 4294967296) :
  bits .or .u64 (a * 4294967296) b = a * 4294967296 + b := by
 obtain ⟨n, rfl⟩ := Int.eq_ofNat_of_zero_le h0
 obtain ⟨m, rfl⟩ := Int.eq_ofNat_of_zero_le h2
 have h := bits_or_u64_nat (n * 4294967296) m (by omega) (by omega)
 have e : n * 4294967296 ||| m = n * 4294967296 + m := by
  have := Nat.two_pow_add_eq_or_of_lt (i := 32) (b := m) (by omega) n
  rw [show (2 : Nat) ^ 32 = 4294967296 from rfl, Nat.mul_comm] at this
  exact this.symm
 rw [e] at h
 simpa using h
theorem prod_bd {x y : Int} (hx0 : 0 ≤ x) (hx1 : x ≤ 9223372036854775807) (hy0 : 0 ≤ y) (hy1 : y ≤ 9223372036854775807) :
  0 ≤ x * y ∧ x * y ≤ 85070591730234615847396907784232501249 := by
 refine ⟨Int.mul_nonneg hx0 hy0, ?_⟩
 have := Int.mul_le_mul hx1 hy1 hy0 (by omega)
 omega
theorem join_words (p : Int) (h0 : 0 ≤ p) (h : p / 18446744073709551616 / 4294967296 = 0) :
  bits .or .u64 (IntKind.u64.wrap (p / 18446744073709551616 * 4294967296)) (p % 18446744073709551616 / 4294967296) = p / 4294967296 := by
 rw [IntKind.wrap_u64]
 have e : p / 18446744073709551616 * 4294967296 % 18446744073709551616 = p / 18446744073709551616 * 4294967296 := by omega
 rw [e, or_joint _ _ (by omega) (by omega) (by omega) (by omega)]
 omega
theorem signF_big (n : Int) (t : Bool) (h : 9223372036854775807 ≤ n) : signF n t = signF 9223372036854775807 t := by
 unfold signF; split
 ·rw [if_neg (by omega), if_neg (by omega)]
 ·rw [if_neg (by omega), if_neg (by omega)]
theorem mul_c (a b : Int) (w : World) (ha : I64 a) (hb : I64 b) :
  Calls Tryz.prog 154 #[.int .i64 a, .int .i64 b] w fun e w' => e = .returned (.int .i64 (mulF a b)) ∧ w = w' := by
 have hx := absF_bd ha
 have hy := absF_bd hb
 unfold M at hx hy
 obtain ⟨hx0, hx1⟩ := hx
 obtain ⟨hy0, hy1⟩ := hy
 have hp := prod_bd hx0 hx1 hy0 hy1
 obtain ⟨hp0, hp1⟩ := hp
 have HF : Hid (mulF a b = signF (absF a * absF b / 4294967296) (decide (a < 0) != decide (b < 0))) := rfl
 have hx2 : absF a ≤ 18446744073709551615 := by omega
 have hy2 : absF b ≤ 18446744073709551615 := by omega
 by_cases hc : absF a * absF b / 18446744073709551616 / 4294967296 = 0
 ·have HJ : Hid _ := join_words _ hp0 hc
  have hc' : (absF a * absF b / 18446744073709551616 / 4294967296 == 0) = true := by simp [hc]
  clear hc
  go_enter Tryz.func154, Tryz.ntmps154
  go_wp2_with (first | (go_at_call 157; first | (refine (size_c _ _ ha).mono ?_; rintro e w' ⟨rfl, rfl⟩) | (refine (size_c _ _ hb).mono ?_; rintro e w' ⟨rfl, rfl⟩)) | (go_at_call 156; refine (mul64_c _ _ _ hx0 hx2 hy0 hy2).mono ?_; rintro e w' ⟨rfl, rfl⟩) | (go_at_call 158; fail))
  rw [HJ.out]
  refine (signed_c _ _ _ (by omega) (by simp at hc'; omega)).mono ?_
  rintro e w' ⟨rfl, rfl⟩
  go_wp2
  go_ret
  exact ⟨ret_i (by rw [HF.out]; rfl), rfl⟩
 ·have hc' : (absF a * absF b / 18446744073709551616 / 4294967296 == 0) = false := by simp; omega
  have HJ : Hid (9223372036854775807 ≤ absF a * absF b / 4294967296) := by unfold Hid; omega
  clear hc
  go_enter Tryz.func154, Tryz.ntmps154
  go_wp2_with (first | (go_at_call 157; first | (refine (size_c _ _ ha).mono ?_; rintro e w' ⟨rfl, rfl⟩) | (refine (size_c _ _ hb).mono ?_; rintro e w' ⟨rfl, rfl⟩)) | (go_at_call 156; refine (mul64_c _ _ _ hx0 hx2 hy0 hy2).mono ?_; rintro e w' ⟨rfl, rfl⟩) | (go_at_call 158; fail))
  refine (signed_c _ _ _ (by omega) (by omega)).mono ?_
  rintro e w' ⟨rfl, rfl⟩
  go_wp2
  go_ret
  exact ⟨ret_i (by rw [HF.out, signF_big _ _ HJ.out]; rfl), rfl⟩
end Go.Proofs.YtgdcphmmehedoaaGreat.Fx
/- Contracts: numbers of bits. -/
namespace Go.Proofs.YtgdcphmmehedoaaGreat.Fx
open Go.ChangeShapes Go.WideShapes Go.ChangeAt Go.RowKit
set_option linter.unusedVariables false
end Go.Proofs.YtgdcphmmehedoaaGreat.Fx
/- Contracts: whole numbers. -/
namespace Go.Proofs.YtgdcphmmehedoaaGreat.Fx
open Go.ChangeShapes Go.WideShapes Go.ChangeAt Go.RowKit
set_option linter.unusedVariables false
theorem bring_c (a b c : Int) (w : World) (ha : I64 a) (hb : I64 b) (hc : I64 c) :
  Calls Tryz.prog 82 #[.int .i64 a, .int .i64 b, .int .i64 c] w fun e w' => e = .returned (.int .i64 (bringF a b c)) ∧ w = w' := by
 have h1 := cl_bd ha
 have h2 := cl_bd hb
 have h3 := cl_bd hc
 unfold L M at h1 h2 h3
 by_cases c1 : cl a < cl b
 ·go_enter Tryz.func82, Tryz.ntmps82
  go_wp2_with (go_at_call 106; first | (refine (counted_c _ _ ha).mono ?_; rintro e w' ⟨rfl, rfl⟩) | (refine (counted_c _ _ hb).mono ?_; rintro e w' ⟨rfl, rfl⟩) | (refine (counted_c _ _ hc).mono ?_; rintro e w' ⟨rfl, rfl⟩))
  go_ret
  exact ⟨ret_i (by unfold bringF; rw [if_pos (by omega)]), rfl⟩
 ·by_cases c2 : cl c < cl a
  ·go_enter Tryz.func82, Tryz.ntmps82
   go_wp2_with (go_at_call 106; first | (refine (counted_c _ _ ha).mono ?_; rintro e w' ⟨rfl, rfl⟩) | (refine (counted_c _ _ hb).mono ?_; rintro e w' ⟨rfl, rfl⟩) | (refine (counted_c _ _ hc).mono ?_; rintro e w' ⟨rfl, rfl⟩))
   go_ret
   exact ⟨ret_i (by unfold bringF; rw [if_neg (by omega), if_pos (by omega)]), rfl⟩
  ·go_enter Tryz.func82, Tryz.ntmps82
   go_wp2_with (go_at_call 106; first | (refine (counted_c _ _ ha).mono ?_; rintro e w' ⟨rfl, rfl⟩) | (refine (counted_c _ _ hb).mono ?_; rintro e w' ⟨rfl, rfl⟩) | (refine (counted_c _ _ hc).mono ?_; rintro e w' ⟨rfl, rfl⟩))
   go_ret
   exact ⟨ret_i (by unfold bringF; rw [if_neg (by omega), if_neg (by omega)]), rfl⟩
end Go.Proofs.YtgdcphmmehedoaaGreat.Fx
/- The plain arithmetic of the schoolbook quotient: no Go in sight. -/
namespace Go.Proofs.YtgdcphmmehedoaaGreat.Fx
open Go
def Dig (n y1 q a b : Int) : Prop := q ≤ a ∧ a ≤ 4294967297 ∧ a * y1 + b = n ∧ 0 ≤ b ∧ b < 4294967296
structure DigP (n d y1 y0 q : Int) : Prop where
 hn0 : 0 ≤ n
 hn : n < y1 * 4294967296 + y0
 hd0 : 0 ≤ d
 hd : d < 4294967296
 hy1 : 2147483648 ≤ y1
 hy2 : y1 < 4294967296
 hy0 : 0 ≤ y0
 hy3 : y0 < 4294967296
 hq : q = (n * 4294967296 + d) / (y1 * 4294967296 + y0)
end Go.Proofs.YtgdcphmmehedoaaGreat.Fx
/- Contracts: quotients of two words. -/
namespace Go.Proofs.YtgdcphmmehedoaaGreat.Fx
open Go.ChangeShapes Go.WideShapes Go.ChangeAt Go.RowKit
set_option linter.unusedVariables false
structure Norm (hi lo y : Int) (s : Nat) (Y y1 y0 n l d1 d0 q m p : Int) : Prop where
 eY : IntKind.u64.wrap (y * 2 ^ s) = Y
 e1 : Y / 4294967296 = y1
 e0 : bits .and .u64 Y 4294967295 = y0
 en : bits .or .u64 (IntKind.u64.wrap (hi * 2 ^ s)) (lo / 2 ^ (64 - s)) = n
 el : IntKind.u64.wrap (lo * 2 ^ s) = l
 f1 : l / 4294967296 = d1
 f0 : bits .and .u64 l 4294967295 = d0
 em : IntKind.u64.wrap (IntKind.u64.wrap (IntKind.u64.wrap (n * 4294967296) + d1) - IntKind.u64.wrap (q * Y)) = m
 Y0 : 9223372036854775808 ≤ Y
 Y1 : Y ≤ 18446744073709551615
 l0 : 0 ≤ l
 l1 : l ≤ 18446744073709551615
 Yn : Y = y1 * 4294967296 + y0
 P1 : DigP n d1 y1 y0 q
 P0 : DigP m d0 y1 y0 p
 all : (hi * 18446744073709551616 + lo) / y = q * 4294967296 + p
end Go.Proofs.YtgdcphmmehedoaaGreat.Fx
/- Contracts: the quotient of two words by one. -/
namespace Go.Proofs.YtgdcphmmehedoaaGreat.Fx
open Go.ChangeShapes Go.WideShapes Go.ChangeAt Go.RowKit
set_option linter.unusedVariables false
def QuoR (q : Int) (w : World) (e : Ending) (w' : World) : Prop := ∃ (r : Int) (k : Nat), e = .returned (.tuple #[.int .u64 q, .int .u64 r]) ∧ w' = w.drewN k
def Ret (v : Value) (w : World) (e : Ending) (w' : World) : Prop := e = .returned v ∧ ∃ k : Nat, w' = w.drewN k
end Go.Proofs.YtgdcphmmehedoaaGreat.Fx
/- Contracts: quotients, parts. -/
namespace Go.Proofs.YtgdcphmmehedoaaGreat.Fx
open Go.ChangeShapes Go.WideShapes Go.ChangeAt Go.RowKit
set_option linter.unusedVariables false
end Go.Proofs.YtgdcphmmehedoaaGreat.Fx
/- Contracts: roots. -/
namespace Go.Proofs.YtgdcphmmehedoaaGreat.Fx
open Go.ChangeShapes Go.WideShapes Go.ChangeAt Go.RowKit
set_option linter.unusedVariables false
def Rt (P S : Int) (k : Nat) (r t : Int) : Prop := k ≤ 48 ∧ 0 ≤ r ∧ r % 2 ^ k = 0 ∧ r + 2 ^ k ≤ 281474976710656 ∧ t = 2 ^ k / 2 ∧ sqAux P k r = S
end Go.Proofs.YtgdcphmmehedoaaGreat.Fx
/- Sum: its contract (any number of numbers), and of three. -/
namespace Go.Proofs.YtgdcphmmehedoaaGreat.Fx
open Go.ChangeShapes Go.WideShapes Go.ChangeAt Go.RowKit
set_option linter.unusedVariables false
def sumL (zs : List Int) : Int := zs.foldl addF 0
end Go.Proofs.YtgdcphmmehedoaaGreat.Fx
/- Contracts of the table of sines. -/
namespace Go.Proofs.YtgdcphmmehedoaaGreat.Fx
open Go.ChangeShapes Go.WideShapes Go.ChangeAt Go.RowKit
set_option linter.unusedVariables false
def tabV : Array Value := (tabL.map (Value.int .i64)).toArray
def zeroV : Array Value := (List.replicate 257 (Value.int .i64 0)).toArray
theorem tabV_at (k : Nat) (h : k < 257) : tabV[k]? = some (.int .i64 (tabF k)) := by
 unfold tabV
 rw [tabF_in (by omega) (by omega)]
 have hl := tabL_len
 rw [List.getElem?_toArray, List.getElem?_map, List.getD_eq_getElem?_getD, Int.toNat_natCast, List.getElem?_eq_getElem (by omega)]
 rfl
def rowSet (cs : Array Value) : Obj → Obj
 | .cells _ t f => .cells cs t f
 | o => o
def Tabbed (w wx : World) : Prop := Made w.heap.size w wx ∧ ∀ k : Nat, k < 257 → wx.cell? ⟨w.heap.size, k, none⟩ = some (.int .i64 (tabF k))
theorem Tabbed.mk (w : World) (t : TypeId) : Tabbed w ((w.alloc (.cells zeroV t)).setRow w.heap.size tabV) := by
 have hg : (w.alloc (.cells zeroV t)).heap[w.heap.size]? = some (.cells zeroV t (0, 0)) := by
  show (w.heap.push _)[w.heap.size]? = _
  simp
 refine ⟨?_, fun k hk => ?_⟩
 ·exact ⟨⟨rfl, rfl, rfl, by simp, fun k hk => (setRow_other _ _ _ _ (by omega)).trans (Below.heap_alloc _ _ _ hk)⟩, fun a => (frozen_setRow _ _ _ a).trans (frozen?_alloc_cells _ _ _ a)⟩
 ·rw [cell_setRow_same _ _ _ _ _ _ _ hg]; exact tabV_at k hk
end Go.Proofs.YtgdcphmmehedoaaGreat.Fx
/- Sines and cosines of steps, plain: what the statements of layer 2 need to know of the table. -/
namespace Go.Proofs.YtgdcphmmehedoaaGreat.Fx
def sn (k : Int) : Int := if k ≤ 256 then tabF k else if k ≤ 512 then tabF (512 - k) else if k ≤ 768 then -tabF (k - 512) else -tabF (1024 - k)
def cs (k : Int) : Int := sn ((k + 256) % 1024)
def wrapF (a : Int) : Int := cl a % 4294967296
def stepF (a : Int) : Int := wrapF a / 4194304
def tabOk (k : Int) : Bool := decide (0 ≤ tabF k) && decide (tabF k ≤ 4294967296)
def gapOk (k : Int) : Bool := decide (tabF k + 4 ≤ tabF (k + 1))
def turnOk (k : Int) : Bool := decide (sn ((k + 512) % 1024) = -sn k) && decide (sn ((1024 - k) % 1024) = -sn k) && decide (cs ((1024 - k) % 1024) = cs k) && decide (absF (addF (mulF (cs k) (cs k)) (mulF (sn k) (sn k)) - 4294967296) < 8)
def quartOk (k : Int) : Bool := decide (sn k < sn (k + 1)) && decide (cs (k + 1) < cs k) && decide (0 ≤ sn k) && decide (0 < cs k)
def tabledB (c s : Int) (n : Nat) : Bool := (List.range n).any fun k => decide (cs k = c) && decide (sn k = s)
end Go.Proofs.YtgdcphmmehedoaaGreat.Fx
/- Contracts of package turn: angles, steps, sines. -/
namespace Go.Proofs.YtgdcphmmehedoaaGreat.Fx
open Go.ChangeShapes Go.WideShapes Go.ChangeAt Go.RowKit
set_option linter.unusedVariables false
abbrev rotV (c s : Int) : Value := .agg #[.int .i64 c, .int .i64 s]
end Go.Proofs.YtgdcphmmehedoaaGreat.Fx
/- Contracts of package vec. -/
/- Contracts of package vec. -/
namespace Go.Proofs.YtgdcphmmehedoaaGreat.Fx
open Go.ChangeShapes Go.WideShapes Go.ChangeAt Go.RowKit
set_option linter.unusedVariables false
abbrev vecV (x y : Int) : Value := .agg #[.int .i64 x, .int .i64 y]
theorem made_box {w w1 : World} {A : Array Value} {t : TypeId} (hb : Made (w.alloc (.cells A t)).heap.size (w.alloc (.cells A t)) w1) : Made w.heap.size w w1 :=
 ((Made.rfl_ w.heap.size w).cells (Nat.le_refl _) A t).then_ (hb.low (by simp))
theorem vsub_c (a b c d : Int) (w : World) (ha : I64 a) (hb : I64 b) (hc : I64 c) (hd : I64 d) :
  Calls Tryz.prog 149 #[vecV a b, vecV c d] w fun e w' => e = .returned (vecV (subF a c) (subF b d)) ∧ Made w.heap.size w w' := by
 go_enter Tryz.func149, Tryz.ntmps149
 go_wp2_with fail
 refine reg_made_tail 11 (by kernel_rfl) (by kernel_rfl) ?_
 intro T hT f hf
 have c00 := Class.reads hf (p := ⟨w.heap.size, 0, none⟩) (u := .int .i64 a) (by go_simp)
 have c01 := Class.reads hf (p := ⟨w.heap.size, 1, none⟩) (u := .int .i64 b) (by go_simp)
 have c10 := Class.reads hf (p := ⟨w.heap.size + 1, 0, none⟩) (u := .int .i64 c) (by go_simp)
 have c11 := Class.reads hf (p := ⟨w.heap.size + 1, 1, none⟩) (u := .int .i64 d) (by go_simp)
 simp only [List.take_succ_cons, List.take_zero, List.drop_succ_cons, List.drop_zero]
 repeat (go_big_quiet_step (((go_at_call 153; exact hf.same (sub_c _ _ _ (by first | assumption | exact i64_mul _ _ | exact i64_add _ _ | exact i64_sub _ _ | exact i64_div _ _ | exact i64_sqrt _ | exact i64_neg (by assumption)) (by first | assumption | exact i64_mul _ _ | exact i64_add _ _ | exact i64_sub _ _ | exact i64_div _ _ | exact i64_sqrt _ | exact i64_neg (by assumption)))))))
 refine wpQuiet_nil ?_
 intro w1 h1
 have hb := hf.here h1
 have r0 := hb.reads (p := ⟨w.heap.size + 1 + 1, 0, none⟩) (x := .int .i64 0) (by go_simp)
 have m0 : w1.frozen? ⟨w.heap.size + 1 + 1, 0, none⟩ = false := (hb.2 _).trans (by go_simp)
 have r1 := hb.reads (p := ⟨w.heap.size + 1 + 1, 1, none⟩) (x := .int .i64 0) (by go_simp)
 have m1 : w1.frozen? ⟨w.heap.size + 1 + 1, 1, none⟩ = false := (hb.2 _).trans (by go_simp)
 have hw := hid (made_box (made_box (made_box (hb))))
 clear hb hf h1 c00 c01 c10 c11
 go_wp2_with fail
 refine bodyPost_ret (v := vecV (subF a c) (subF b d)) (by simp [results, Tryz.results149, go_sem, r0, r1]) rfl ⟨rfl, ?_⟩
 exact (hw.out.put (by simp; try omega) _).put (by simp; try omega) _
theorem vcross_c (a b c d : Int) (w : World) (ha : I64 a) (hb : I64 b) (hc : I64 c) (hd : I64 d) :
  Calls Tryz.prog 151 #[vecV a b, vecV c d] w fun e w' => e = .returned (.int .i64 (subF (mulF a d) (mulF b c))) ∧ Made w.heap.size w w' := by
 go_enter Tryz.func151, Tryz.ntmps151
 go_wp2_with fail
 refine reg_made (by kernel_rfl) (by kernel_rfl) ?_
 intro T hT f hf
 have c00 := Class.reads hf (p := ⟨w.heap.size, 0, none⟩) (u := .int .i64 a) (by go_simp)
 have c01 := Class.reads hf (p := ⟨w.heap.size, 1, none⟩) (u := .int .i64 b) (by go_simp)
 have c10 := Class.reads hf (p := ⟨w.heap.size + 1, 0, none⟩) (u := .int .i64 c) (by go_simp)
 have c11 := Class.reads hf (p := ⟨w.heap.size + 1, 1, none⟩) (u := .int .i64 d) (by go_simp)
 repeat (go_big_quiet_step ((first
   | (go_at_call 154; exact hf.same (mul_c _ _ _ (by first | assumption | exact i64_mul _ _ | exact i64_add _ _ | exact i64_sub _ _ | exact i64_div _ _ | exact i64_sqrt _ | exact i64_neg (by assumption)) (by first | assumption | exact i64_mul _ _ | exact i64_add _ _ | exact i64_sub _ _ | exact i64_div _ _ | exact i64_sqrt _ | exact i64_neg (by assumption))))
   | (go_at_call 153; exact hf.same (sub_c _ _ _ (by first | assumption | exact i64_mul _ _ | exact i64_add _ _ | exact i64_sub _ _ | exact i64_div _ _ | exact i64_sqrt _ | exact i64_neg (by assumption)) (by first | assumption | exact i64_mul _ _ | exact i64_add _ _ | exact i64_sub _ _ | exact i64_div _ _ | exact i64_sqrt _ | exact i64_neg (by assumption)))))))
 refine wpQuiet_nil ?_
 intro w1 h1
 have hb := hf.here h1
 have hw := hid (made_box (made_box (hb)))
 clear hb hf h1 c00 c01 c10 c11
 go_wp2_with fail
 go_ret
 exact ⟨rfl, hw.out⟩
end Go.Proofs.YtgdcphmmehedoaaGreat.Fx
/- Contracts of package vec: Bring, Spun, Len, Unit. -/
namespace Go.Proofs.YtgdcphmmehedoaaGreat.Fx
open Go.ChangeShapes Go.WideShapes Go.ChangeAt Go.RowKit
set_option linter.unusedVariables false
theorem vbring_c (a b m : Int) (w : World) (ha : I64 a) (hb : I64 b) (hm : I64 m) :
  Calls Tryz.prog 81 #[vecV a b, .int .i64 m] w fun e w' => e = .returned (vecV (bringF a (negF m) m) (bringF b (negF m) m)) ∧ Made w.heap.size w w' := by
 have hn := i64_neg hm
 go_enter Tryz.func81, Tryz.ntmps81
 go_wp2_with fail
 refine (neg_c m _ hm).mono ?_
 rintro e w' ⟨rfl, rfl⟩
 go_wp2_with fail
 refine reg_made_tail 11 (by kernel_rfl) (by kernel_rfl) ?_
 intro T hT f hf
 have c00 := Class.reads hf (p := ⟨w.heap.size, 0, none⟩) (u := .int .i64 a) (by go_simp)
 have c01 := Class.reads hf (p := ⟨w.heap.size, 1, none⟩) (u := .int .i64 b) (by go_simp)
 simp only [List.take_succ_cons, List.take_zero, List.drop_succ_cons, List.drop_zero]
 repeat (go_big_quiet_step ((go_at_call 82; exact hf.same (bring_c _ _ _ _ (by assumption) (by assumption) (by assumption)))))
 refine wpQuiet_nil ?_
 intro w1 h1
 have hb := hf.here h1
 have r0 := hb.reads (p := ⟨w.heap.size + 1, 0, none⟩) (x := .int .i64 0) (by go_simp)
 have m0 : w1.frozen? ⟨w.heap.size + 1, 0, none⟩ = false := (hb.2 _).trans (by go_simp)
 have r1 := hb.reads (p := ⟨w.heap.size + 1, 1, none⟩) (x := .int .i64 0) (by go_simp)
 have m1 : w1.frozen? ⟨w.heap.size + 1, 1, none⟩ = false := (hb.2 _).trans (by go_simp)
 have hw := hid (made_box (made_box hb))
 clear hb hf h1 c00 c01
 go_wp2_with fail
 refine bodyPost_ret (v := vecV (bringF a (negF m) m) (bringF b (negF m) m)) (by simp [results, Tryz.results81, go_sem, r0, r1]) rfl ⟨rfl, ?_⟩
 exact (hw.out.put (by simp; try omega) _).put (by simp; try omega) _
def unitV (a b : Int) : Value := if lenF a b = 0 then .tuple #[vecV 0 0, .bool false] else .tuple #[vecV (divF a (lenF a b)) (divF b (lenF a b)), .bool true]
theorem vcross_is (a b c d r : Int) (w : World) (ha : I64 a) (hb : I64 b) (hc : I64 c) (hd : I64 d) (e : subF (mulF a d) (mulF b c) = r) : Calls Tryz.prog 151 #[vecV a b, vecV c d] w fun e w' => e = .returned (.int .i64 r) ∧ Made w.heap.size w w' := by subst e; exact vcross_c a b c d w ha hb hc hd
theorem vsub_is (a b c d x y : Int) (w : World) (ha : I64 a) (hb : I64 b) (hc : I64 c) (hd : I64 d) (ex : subF a c = x) (ey : subF b d = y) : Calls Tryz.prog 149 #[vecV a b, vecV c d] w fun e w' => e = .returned (vecV x y) ∧ Made w.heap.size w w' := by subst ex; subst ey; exact vsub_c a b c d w ha hb hc hd
theorem vbring_is (a b m x y : Int) (w : World) (ha : I64 a) (hb : I64 b) (hm : I64 m) (ex : bringF a (negF m) m = x) (ey : bringF b (negF m) m = y) : Calls Tryz.prog 81 #[vecV a b, .int .i64 m] w fun e w' => e = .returned (vecV x y) ∧ Made w.heap.size w w' := by subst ex; subst ey; exact vbring_c a b m w ha hb hm
end Go.Proofs.YtgdcphmmehedoaaGreat.Fx
/- The statements' own anchor of layer 3. -/
namespace Go.Proofs.YtgdcphmmehedoaaGreat.Fx
open Go.ChangeShapes Go.WideShapes Go.ChangeAt Go.RowKit
set_option linter.unusedVariables false
end Go.Proofs.YtgdcphmmehedoaaGreat.Fx
/- VecBrings: the walk. -/
namespace Go.Proofs.YtgdcphmmehedoaaGreat.Fx
open Go.ChangeShapes Go.WideShapes Go.ChangeAt Go.RowKit
set_option linter.unusedVariables false
theorem bring_is (a b c r : Int) (w : World) (ha : I64 a) (hb : I64 b) (hc : I64 c) (e : bringF a b c = r) : Calls Tryz.prog 82 #[.int .i64 a, .int .i64 b, .int .i64 c] w fun e w' => e = .returned (.int .i64 r) ∧ w = w' := by subst e; exact bring_c a b c w ha hb hc
end Go.Proofs.YtgdcphmmehedoaaGreat.Fx
/- VecAdds: the walk. -/
namespace Go.Proofs.YtgdcphmmehedoaaGreat.Fx
open Go.ChangeShapes Go.WideShapes Go.ChangeAt Go.RowKit
set_option linter.unusedVariables false
end Go.Proofs.YtgdcphmmehedoaaGreat.Fx
/- VecLaws: the walk. -/
namespace Go.Proofs.YtgdcphmmehedoaaGreat.Fx
open Go.ChangeShapes Go.WideShapes Go.ChangeAt Go.RowKit
set_option linter.unusedVariables false
def Sx (a : Int) : Prop := -17592186044416 ≤ a ∧ a ≤ 17592186044416
end Go.Proofs.YtgdcphmmehedoaaGreat.Fx
/- VecUnits: the walk. -/
namespace Go.Proofs.YtgdcphmmehedoaaGreat.Fx
open Go.ChangeShapes Go.WideShapes Go.ChangeAt Go.RowKit
set_option linter.unusedVariables false
end Go.Proofs.YtgdcphmmehedoaaGreat.Fx
/- VecLens: the walk. -/
namespace Go.Proofs.YtgdcphmmehedoaaGreat.Fx
open Go.ChangeShapes Go.WideShapes Go.ChangeAt Go.RowKit
set_option linter.unusedVariables false
end Go.Proofs.YtgdcphmmehedoaaGreat.Fx
/- Contracts of package shape. -/
/- Contracts of package shape: after, near. -/
namespace Go.Proofs.YtgdcphmmehedoaaGreat.Fx
open Go.ChangeShapes Go.WideShapes Go.ChangeAt Go.RowKit
set_option linter.unusedVariables false
def Cin (f : Cs) (n : Nat) : Prop := ∀ i, i < n → I64 (f i).1 ∧ I64 (f i).2
theorem alc_V {d : Tmp} {ty : TypeId} {ps : String} {af : Array Edge} : Alc Tryz.prog { dst := some d, op := .alloc 28, type := ty, pos := ps, after := af, guard := none } d 28 #[.int .i64 0, .int .i64 0] :=
 ⟨rfl, rfl, fun a w => by go_simp⟩
theorem vneq_no (x y X Y : Int) (h : ¬ (X = x ∧ Y = y)) (w : World) : (binOp .neq 28 (vecV x y) (vecV X Y)).run Tryz.prog w = .ok (.bool true) w := by
 by_cases hx : x = X
 ·have hy : (y == Y) = false := by simpa using fun e => h ⟨hx.symm, e.symm⟩
  subst hx
  go_simp
 ·have hy : (x == X) = false := by simpa using hx
  go_simp
theorem after_is (b off n cap i k j : Nat) (x y : Int) (w : World) (hn : 0 < n) (h8 : n ≤ 8) (hi : i < 8) (hk : k ≤ 8) (hj : (i + k) % n = j)
  (hx : w.cell? ⟨b, off + j * 2, none⟩ = some (.int .i64 x)) (hy : w.cell? ⟨b, off + j * 2 + 1, none⟩ = some (.int .i64 y)) :
  Calls Tryz.prog 150 #[.slice (some ⟨b, off, none⟩) n cap, .int .i64 i, .int .i64 k] w fun e w' => e = .returned (vecV x y) ∧ Made w.heap.size w w' := by
 have hjn : j < n := by rw [← hj]; exact Nat.mod_lt _ hn
 have hm : ((i : Int) + (k : Int)).tmod (n : Int) = (j : Int) := by
  rw [Int.tmod_eq_emod_of_nonneg (by omega), ← hj, Int.natCast_emod, Int.natCast_add]
 have H := hid hj
 clear hj
 have hb : b < w.heap.size := World.block_lt_of_cell? _ _ hx
 go_enter Tryz.func150, Tryz.ntmps150
 go_wp2_with fail
 refine bodyPost_ret (v := vecV x y) (by simp [results, Tryz.results150, go_sem]) rfl ⟨rfl, ?_⟩
 exact (Made.rfl_ _ _).cells (Nat.le_refl _) _ _
theorem near_is (b off n cap : Nat) (f : Cs) (w : World) (h8 : n ≤ 8) (hp : Pts w b off n f) (hi : Cin f n) (r : Bool) (hr : r = true ↔ ∀ i, i < n → NearP (f i)) :
  Calls Tryz.prog 128 #[.slice (some ⟨b, off, none⟩) n cap] w fun e w' => e = .returned (.bool r) ∧ Made w.heap.size w w' := by
 have HP := hid hp
 have HI := hid hi
 have HR := hid hr
 clear hp hi hr
 have iG : I64 274877906944 := by unfold I64; omega
 go_enter Tryz.func128, Tryz.ntmps128
 go_wp2_with fail
 go_loopg [7] n (fun g t wr => ∃ k : Nat, k + g = n ∧ t = .int .i64 k ∧ Hid (∀ j, j < k → NearP (f j)) ∧ Hid (Made w.heap.size w wr))
 case atStart => exact ⟨0, by omega, rfl, fun j hj => absurd hj (by omega), Made.rfl_ _ _⟩
 case round =>
  obtain ⟨k, hk, rfl, HT, HM⟩ := hrel
  by_cases hlt : k < n
  ·obtain ⟨x, ex⟩ : ∃ x, (f k).1 = x := ⟨_, rfl⟩
   obtain ⟨y, ey⟩ : ∃ y, (f k).2 = y := ⟨_, rfl⟩
   obtain ⟨ix, iy⟩ := HI.out k hlt
   obtain ⟨c0, c1⟩ := HP.out k hlt
   rw [ex] at ix c0
   rw [ey] at iy c1
   have c0 := HM.out.reads c0
   have c1 := HM.out.reads c1
   have hb : b < wr.heap.size := World.block_lt_of_cell? _ _ c0
   have EX := hid ex
   have EY := hid ey
   clear ex ey
   obtain ⟨X, eX⟩ : ∃ X, bringF x (negF 274877906944) 274877906944 = X := ⟨_, rfl⟩
   obtain ⟨Y, eY⟩ : ∃ Y, bringF y (negF 274877906944) 274877906944 = Y := ⟨_, rfl⟩
   have EX2 := hid eX
   have EY2 := hid eY
   clear eX eY
   by_cases hN : X = x ∧ Y = y
   ·obtain ⟨hX, hY⟩ := hN
    subst hX
    subst hY
    go_wp2_with fail
    refine reg_made (by kernel_rfl) (by kernel_rfl) ?_
    intro T hT fw hf
    have x0 := Class.reads hf (p := ⟨wr.heap.size, 0, none⟩) (u := .int .i64 X) (by go_simp)
    have x1 := Class.reads hf (p := ⟨wr.heap.size, 1, none⟩) (u := .int .i64 Y) (by go_simp)
    repeat (go_big_quiet_step ((go_at_call 81; with_reducible exact hf.made (vbring_is _ _ _ _ _ _ (by assumption) (by assumption) (by assumption) EX2.out EY2.out))))
    refine wpQuiet_nil ?_
    intro w3 h3
    have k3 := hf.here h3
    go_wp2_with fail
    go_roundg (n - k - 1)
    case rel =>
     refine ⟨k + 1, by omega, by go_num, fun j hj => ?_, HM.out.then_ (made_box k3 |>.low HM.out.1.size)⟩
     rcases (show j < k ∨ j = k by omega) with h | rfl
     ·exact HT.out j h
     ·have a := (near_bring ix).1 EX2.out
      have b := (near_bring iy).1 EY2.out
      rw [← EX.out] at a
      rw [← EY.out] at b
      exact ⟨a, b⟩
    case measure => omega
   ·have HN := hid hN
    have q := vneq_no x y X Y hN
    clear hN
    go_wp2_with fail
    refine reg_made (by kernel_rfl) (by kernel_rfl) ?_
    intro T hT fw hf
    have x0 := Class.reads hf (p := ⟨wr.heap.size, 0, none⟩) (u := .int .i64 x) (by go_simp)
    have x1 := Class.reads hf (p := ⟨wr.heap.size, 1, none⟩) (u := .int .i64 y) (by go_simp)
    repeat (go_big_quiet_step ((go_at_call 81; with_reducible exact hf.made (vbring_is _ _ _ _ _ _ (by assumption) (by assumption) (by assumption) EX2.out EY2.out))))
    refine wpQuiet_nil ?_
    intro w3 h3
    have k3 := hf.here h3
    go_wp2_with fail
    go_ret
    refine ⟨?_, HM.out.then_ (made_box k3 |>.low HM.out.1.size)⟩
    have hF : r = false := by
     refine Bool.eq_false_iff.2 fun h => HN.out ?_
     have a := HR.out.1 h k hlt
     have ex := EX.out
     have ey := EY.out
     unfold NearP at a
     rw [ex, ey] at a
     exact ⟨EX2.out.symm.trans ((near_bring ix).2 a.1), EY2.out.symm.trans ((near_bring iy).2 a.2)⟩
    rw [hF]; rfl
  ·go_wp2_with fail
   go_ret
   have e : k = n := by omega
   subst e
   exact ⟨by rw [HR.out.2 HT.out]; rfl, HM.out⟩
theorem convex_is (b off n cap : Nat) (f : Cs) (w : World) (h3 : 3 ≤ n) (h8 : n ≤ 8) (hp : Pts w b off n f) (hi : Cin f n) (r : Bool) (hr : r = true ↔ CvxP f n) :
  Calls Tryz.prog 129 #[.slice (some ⟨b, off, none⟩) n cap] w fun e w' => e = .returned (.bool r) ∧ Made w.heap.size w w' := by
 have HP := hid hp
 have HI := hid hi
 have HR : Hid (r = true ↔ ∀ i, i < n → ∀ on, 2 ≤ on → on < n → 0 < crossF f i ((i + 1) % n) ((i + on) % n)) := hid (hr.trans (cvx_on h3 h8))
 clear hp hi hr
 go_enter Tryz.func129, Tryz.ntmps129
 go_wp2_with fail
 go_step3
 go_wp2_with fail
 go_step3
 go_wp2_with fail
 go_loopg [9] n (fun g t wr => ∃ k : Nat, k + g = n ∧ t = .int .i64 k ∧ Hid (∀ i, i < k → ∀ on, 2 ≤ on → on < n → 0 < crossF f i ((i + 1) % n) ((i + on) % n)) ∧ Hid (Made w.heap.size w wr))
 case atStart => exact ⟨0, by omega, rfl, fun j hj => absurd hj (by omega), Made.rfl_ _ _⟩
 case round =>
  obtain ⟨k, hk, rfl, HT, HM⟩ := hrel
  by_cases hlt : k < n
  ·obtain ⟨x, ex⟩ : ∃ x, (f k).1 = x := ⟨_, rfl⟩
   obtain ⟨y, ey⟩ : ∃ y, (f k).2 = y := ⟨_, rfl⟩
   obtain ⟨ix, iy⟩ := HI.out k hlt
   obtain ⟨c0, c1⟩ := HP.out k hlt
   rw [ex] at ix c0
   rw [ey] at iy c1
   have c0 := HM.out.reads c0
   have c1 := HM.out.reads c1
   have hb : b < wr.heap.size := World.block_lt_of_cell? _ _ c0
   have EX := hid ex
   have EY := hid ey
   clear ex ey
   have hl : (k + 1) % n < n := Nat.mod_lt _ (by omega)
   obtain ⟨l, el⟩ : ∃ l, (k + 1) % n = l := ⟨_, rfl⟩
   rw [el] at hl
   have EL := hid el
   clear el
   obtain ⟨x', ex'⟩ : ∃ x, (f l).1 = x := ⟨_, rfl⟩
   obtain ⟨y', ey'⟩ : ∃ y, (f l).2 = y := ⟨_, rfl⟩
   obtain ⟨ix', iy'⟩ := HI.out l hl
   obtain ⟨d0, d1⟩ := HP.out l hl
   rw [ex'] at ix' d0
   rw [ey'] at iy' d1
   have d0 := HM.out.reads d0
   have d1 := HM.out.reads d1
   have EX' := hid ex'
   have EY' := hid ey'
   clear ex' ey'
   obtain ⟨u, eu⟩ : ∃ u, subF x' x = u := ⟨_, rfl⟩
   obtain ⟨v, ev⟩ : ∃ v, subF y' y = v := ⟨_, rfl⟩
   have iu : I64 u := by rw [← eu]; exact i64_sub _ _
   have iv : I64 v := by rw [← ev]; exact i64_sub _ _
   have EU := hid eu
   have EV := hid ev
   clear eu ev
   go_wp2_with fail
   refine reg_float1 5 36 5 28 #[.int .i64 0, .int .i64 0] _ (by kernel_rfl) (by kernel_rfl) (by kernel_rfl) rfl rfl alc_V ?_
   apply Exists.intro
   refine ⟨?h1, ?h2⟩
   case h1 =>
    intro T hT fw hf
    have a0 := Class.reads hf (p := ⟨wr.heap.size, 0, none⟩) (u := .int .i64 x) (by go_simp)
    have a1 := Class.reads hf (p := ⟨wr.heap.size, 1, none⟩) (u := .int .i64 y) (by go_simp)
    have b0 := Class.reads hf (p := ⟨b, off + l * 2, none⟩) (u := .int .i64 x') (by go_simp)
    have b1 := Class.reads hf (p := ⟨b, off + l * 2 + 1, none⟩) (u := .int .i64 y') (by go_simp)
    simp only [List.take_succ_cons, List.take_zero]
    repeat (go_big_quiet_step ((first
     | (go_at_call 150; with_reducible exact hf.made (after_is b off n cap k 1 l x' y' _ (by omega) h8 (by omega) (by omega) EL.out (by apply b0) (by apply b1)))
     | (go_at_call 149; with_reducible exact hf.made (vsub_is _ _ _ _ _ _ _ (by assumption) (by assumption) (by assumption) (by assumption) EU.out EV.out)))))
    exact wpQuiet_nil rfl
   intro g w3 k3 hg hh
   have e0 := k3.reads (p := ⟨wr.heap.size, 0, none⟩) (x := .int .i64 x) (by go_simp)
   have e1 := k3.reads (p := ⟨wr.heap.size, 1, none⟩) (x := .int .i64 y) (by go_simp)
   have M3 : Hid (Made w.heap.size w w3) := HM.out.then_ (made_box k3 |>.low HM.out.1.size)
   have hg1 : wr.heap.size < g := by simp at hg; omega
   have hgw : w.heap.size ≤ g := Nat.le_trans HM.out.1.size (Nat.le_of_lt hg1)
   have z0 := hh.at_ 0
   have z1 := hh.at_ 1
   simp at z0 z1
   have zf : ∀ i, w3.frozen? ⟨g, i, none⟩ = false := fun i => hh.free i
   have hgs := hh.here
   clear k3 c0 c1 d0 d1 hh hg
   simp only [List.drop_succ_cons, List.drop_zero]
   go_wp2_with fail
   obtain ⟨W0, eW⟩ : ∃ W, W = (w3.setCell ⟨g, 0, none⟩ (.int .i64 u)).setCell ⟨g, 1, none⟩ (.int .i64 v) := ⟨_, rfl⟩
   have f0 : W0.cell? ⟨wr.heap.size, 0, none⟩ = some (.int .i64 x) := by rw [eW]; go_simp
   have f1 : W0.cell? ⟨wr.heap.size, 1, none⟩ = some (.int .i64 y) := by rw [eW]; go_simp
   have g0 : W0.cell? ⟨g, 0, none⟩ = some (.int .i64 u) := by rw [eW]; go_simp
   have g1 : W0.cell? ⟨g, 1, none⟩ = some (.int .i64 v) := by rw [eW]; go_simp
   have M0 : Hid (Made w.heap.size w W0) := by unfold Hid; rw [eW]; exact (M3.out.put (by simpa using hgw) _).put (by simpa using hgw) _
   have P0 : Hid (Pts W0 b off n f) := HP.out.kept (M0.out)
   rw [← eW]
   clear eW
   have F0 := hid f0; have F1 := hid f1; have G0 := hid g0; have G1 := hid g1
   clear f0 f1 g0 g1 e0 e1
   go_loopg [6] (n - 3) (fun g t v2 => ∃ m : Nat, m + g = n - 1 ∧ 2 ≤ m ∧ t = .int .i64 m ∧ Hid (∀ on, 2 ≤ on → on < m → 0 < crossF f k ((k + 1) % n) ((k + on) % n)) ∧ Hid (Made W0.heap.size W0 v2))
   case atStart => exact ⟨2, by omega, by omega, rfl, fun on h2 h => absurd h (by omega), Made.rfl_ _ _⟩
   case round =>
    obtain ⟨m, hm, hm2, rfl, HI2, HM2⟩ := hrel
    have hj : (k + m) % n < n := Nat.mod_lt _ (by omega)
    obtain ⟨j, ej⟩ : ∃ j, (k + m) % n = j := ⟨_, rfl⟩
    rw [ej] at hj
    have EJ := hid ej
    clear ej
    obtain ⟨X, eX⟩ : ∃ X, (f j).1 = X := ⟨_, rfl⟩
    obtain ⟨Y, eY⟩ : ∃ Y, (f j).2 = Y := ⟨_, rfl⟩
    obtain ⟨iX, iY⟩ := HI.out j hj
    obtain ⟨c0, c1⟩ := P0.out j hj
    rw [eX] at iX c0
    rw [eY] at iY c1
    have c0 := HM2.out.reads c0
    have c1 := HM2.out.reads c1
    have f0 := HM2.out.reads F0.out
    have f1 := HM2.out.reads F1.out
    have g0 := HM2.out.reads G0.out
    have g1 := HM2.out.reads G1.out
    have HX := hid eX
    have HY := hid eY
    clear eX eY
    obtain ⟨P, eP⟩ : ∃ P, subF X x = P := ⟨_, rfl⟩
    obtain ⟨Q, eQ⟩ : ∃ Q, subF Y y = Q := ⟨_, rfl⟩
    have iP : I64 P := by rw [← eP]; exact i64_sub _ _
    have iQ : I64 Q := by rw [← eQ]; exact i64_sub _ _
    have EP := hid eP
    have EQ := hid eQ
    clear eP eQ
    obtain ⟨C, eC⟩ : ∃ C, subF (mulF u Q) (mulF v P) = C := ⟨_, rfl⟩
    have EC := hid eC
    clear eC
    have HC : Hid (crossF f k ((k + 1) % n) ((k + m) % n) = C) := by
     unfold Hid
     rw [EL.out, EJ.out]
     unfold crossF
     rw [EX.out, EY.out, EX'.out, EY'.out, HX.out, HY.out, EU.out, EV.out, EP.out, EQ.out, EC.out]
    by_cases hpos : 0 < C
    ·have HN : Hid (∀ on, 2 ≤ on → on < m + 1 → 0 < crossF f k ((k + 1) % n) ((k + on) % n)) := fun on h2 h => by
      rcases (show on < m ∨ on = m by omega) with h' | rfl
      ·exact HI2.out on h2 h'
      ·rw [HC.out]; exact hpos
     by_cases hlast : m = n - 1
     ·have HL := hid hlast
      clear hlast
      go_wp2_with fail
      refine reg_made (by kernel_rfl) (by kernel_rfl) ?_
      intro T hT fw hf
      have a0 := Class.reads hf f0
      have a1 := Class.reads hf f1
      have b0 := Class.reads hf g0
      have b1 := Class.reads hf g1
      have d0 := Class.reads hf c0
      have d1 := Class.reads hf c1
      repeat (go_big_quiet_step ((first
       | (go_at_call 150; with_reducible exact hf.made (after_is b off n cap k m j X Y _ (by omega) h8 (by omega) (by omega) EJ.out (by apply d0) (by apply d1)))
       | (go_at_call 149; with_reducible exact hf.made (vsub_is _ _ _ _ _ _ _ (by assumption) (by assumption) (by assumption) (by assumption) EP.out EQ.out))
       | (go_at_call 151; with_reducible exact hf.made (vcross_is _ _ _ _ _ _ (by assumption) (by assumption) (by assumption) (by assumption) EC.out)))))
      refine wpQuiet_nil ?_
      intro w4 h4
      have M4 : Hid (Made W0.heap.size W0 w4) := HM2.out.then_ ((hf.here h4).low HM2.out.1.size)
      clear h4 hf a0 a1 b0 b1 d0 d1
      have hl1 : (m : Int) = (n : Int) - 1 := by have := HL.out; omega
      go_wp2_with fail
      go_roundg (n - k - 1)
      case rel =>
       refine ⟨k + 1, by omega, by go_num, fun i hi => ?_, M0.out.then_ (M4.out.low M0.out.1.size)⟩
       rcases (show i < k ∨ i = k by omega) with h | rfl
       ·exact HT.out i h
       ·intro on h2 h3; exact HN.out on h2 (by omega)
      case measure => omega
     ·go_wp2_with fail
      refine reg_made (by kernel_rfl) (by kernel_rfl) ?_
      intro T hT fw hf
      have a0 := Class.reads hf f0
      have a1 := Class.reads hf f1
      have b0 := Class.reads hf g0
      have b1 := Class.reads hf g1
      have d0 := Class.reads hf c0
      have d1 := Class.reads hf c1
      repeat (go_big_quiet_step ((first
       | (go_at_call 150; with_reducible exact hf.made (after_is b off n cap k m j X Y _ (by omega) h8 (by omega) (by omega) EJ.out (by apply d0) (by apply d1)))
       | (go_at_call 149; with_reducible exact hf.made (vsub_is _ _ _ _ _ _ _ (by assumption) (by assumption) (by assumption) (by assumption) EP.out EQ.out))
       | (go_at_call 151; with_reducible exact hf.made (vcross_is _ _ _ _ _ _ (by assumption) (by assumption) (by assumption) (by assumption) EC.out)))))
      refine wpQuiet_nil ?_
      intro w4 h4
      have M4 : Hid (Made W0.heap.size W0 w4) := HM2.out.then_ ((hf.here h4).low HM2.out.1.size)
      clear h4 hf a0 a1 b0 b1 d0 d1
      have hl1 : ¬ (m : Int) = (n : Int) - 1 := by omega
      go_wp2_with fail
      go_roundg (n - 1 - (m + 1))
      case rel => exact ⟨m + 1, by omega, by omega, by go_num, HN, M4⟩
      case measure => omega
    ·have hF : Hid (r = false) := by
      refine Bool.eq_false_iff.2 fun h => hpos ?_
      have a := HR.out.1 h k hlt m hm2 (by omega)
      rw [HC.out] at a
      exact a
     go_wp2_with fail
     refine reg_made (by kernel_rfl) (by kernel_rfl) ?_
     intro T hT fw hf
     have a0 := Class.reads hf f0
     have a1 := Class.reads hf f1
     have b0 := Class.reads hf g0
     have b1 := Class.reads hf g1
     have d0 := Class.reads hf c0
     have d1 := Class.reads hf c1
     repeat (go_big_quiet_step ((first
      | (go_at_call 150; with_reducible exact hf.made (after_is b off n cap k m j X Y _ (by omega) h8 (by omega) (by omega) EJ.out (by apply d0) (by apply d1)))
      | (go_at_call 149; with_reducible exact hf.made (vsub_is _ _ _ _ _ _ _ (by assumption) (by assumption) (by assumption) (by assumption) EP.out EQ.out))
      | (go_at_call 151; with_reducible exact hf.made (vcross_is _ _ _ _ _ _ (by assumption) (by assumption) (by assumption) (by assumption) EC.out)))))
     refine wpQuiet_nil ?_
     intro w4 h4
     have M4 : Hid (Made W0.heap.size W0 w4) := HM2.out.then_ ((hf.here h4).low HM2.out.1.size)
     clear h4 hf a0 a1 b0 b1 d0 d1
     go_wp2_with fail
     try rw [Exit.noGoto_ret]
     go_ret
     exact ⟨by rw [hF.out]; rfl, M0.out.then_ (M4.out.low M0.out.1.size)⟩
  ·go_wp2_with fail
   try rw [Exit.noGoto_ret]
   go_ret
   have e : k = n := by omega
   subst e
   exact ⟨by rw [HR.out.2 HT.out]; rfl, HM.out⟩
end Go.Proofs.YtgdcphmmehedoaaGreat.Fx
/- Contracts of package shape: Right. -/
namespace Go.Proofs.YtgdcphmmehedoaaGreat.Fx
open Go.ChangeShapes Go.WideShapes Go.ChangeAt Go.RowKit
set_option linter.unusedVariables false
abbrev shapeV (K R : Int) (s : Value) : Value := .agg #[.int .i64 K, .int .i64 R, s]
abbrev bodyV (i x y vx vy an sp d K R : Int) (s : Value) : Value := .agg #[.int .i64 i, .int .i64 x, .int .i64 y, .int .i64 vx, .int .i64 vy, .int .i64 an, .int .i64 sp, .int .i64 d, .int .i64 K, .int .i64 R, s]
def Sl (w : World) (ao : Option Addr) (n : Nat) (f : Cs) : Prop := 0 < n → ∃ b off, ao = some ⟨b, off, none⟩ ∧ Pts w b off n f
theorem Sl.kept {w v : World} {ao : Option Addr} {n : Nat} {f : Cs} (h : Sl w ao n f) (k : Made w.heap.size w v) : Sl v ao n f := fun h0 => by
 obtain ⟨b, off, e, p⟩ := h h0
 exact ⟨b, off, e, p.kept k⟩
theorem right_circle (R : Int) (ao : Option Addr) (n cap : Nat) (f : Cs) (w : World) (r : Bool) (hr : r = true ↔ RightP 1 R n f) :
  Calls Tryz.prog 102 #[shapeV 1 R (.slice ao n cap)] w fun e w' => e = .returned (.bool r) ∧ Made w.heap.size w w' := by
 have HR : Hid (r = decide (n = 0 ∧ 16777216 ≤ R ∧ R ≤ 274877906944)) := by
  unfold Hid
  rw [Bool.eq_iff_iff, hr, decide_eq_true_iff]
  constructor
  ·rintro (h | h)
   ·exact h.2
   ·omega
  ·intro h; exact .inl ⟨rfl, h⟩
 clear hr
 by_cases h1 : 16777216 ≤ R
 ·by_cases h2 : R ≤ 274877906944
  ·by_cases h3 : n = 0
   ·subst h3
    have HT : Hid (r = true) := HR.out.trans (decide_eq_true ⟨rfl, h1, h2⟩)
    go_enter Tryz.func102, Tryz.ntmps102
    go_wp2_with fail
    go_ret
    exact ⟨by rw [HT.out]; rfl, (Made.rfl_ _ _).cells (Nat.le_refl _) _ _⟩
   ·have h3' : ((n : Int) == 0) = false := by simpa using h3
    have HT : Hid (r = false) := HR.out.trans (decide_eq_false (fun h => h3 h.1))
    go_enter Tryz.func102, Tryz.ntmps102
    go_wp2_with fail
    go_ret
    exact ⟨by rw [HT.out]; rfl, (Made.rfl_ _ _).cells (Nat.le_refl _) _ _⟩
  ·have HT : Hid (r = false) := HR.out.trans (decide_eq_false (fun h => h2 h.2.2))
   go_enter Tryz.func102, Tryz.ntmps102
   go_wp2_with fail
   go_ret
   exact ⟨by rw [HT.out]; rfl, (Made.rfl_ _ _).cells (Nat.le_refl _) _ _⟩
 ·have HT : Hid (r = false) := HR.out.trans (decide_eq_false (fun h => h1 h.2.1))
  go_enter Tryz.func102, Tryz.ntmps102
  go_wp2_with fail
  go_ret
  exact ⟨by rw [HT.out]; rfl, (Made.rfl_ _ _).cells (Nat.le_refl _) _ _⟩
theorem right_none (K R : Int) (ao : Option Addr) (n cap : Nat) (f : Cs) (w : World) (h1 : K ≠ 1) (h2 : ¬ (K = 2 ∧ R = 0 ∧ 3 ≤ n ∧ n ≤ 8)) (r : Bool) (hr : r = true ↔ RightP K R n f) :
  Calls Tryz.prog 102 #[shapeV K R (.slice ao n cap)] w fun e w' => e = .returned (.bool r) ∧ Made w.heap.size w w' := by
 have HR : Hid (r = false) := by
  unfold Hid
  rw [Bool.eq_false_iff]
  intro h
  rcases hr.1 h with h | h
  ·exact h1 h.1
  ·exact h2 ⟨h.1, h.2.1, h.2.2.1, h.2.2.2.1⟩
 clear hr
 have k1 : (K == 1) = false := by simpa using h1
 by_cases hK : K = 2
 ·subst hK
  clear h1 k1
  by_cases hR : R = 0
  ·subst hR
   by_cases hn : 3 ≤ n
   ·have h8 : ¬ n ≤ 8 := fun h => h2 ⟨rfl, rfl, hn, h⟩
    clear h2
    go_enter Tryz.func102, Tryz.ntmps102
    go_wp2_with fail
    go_ret
    exact ⟨by rw [HR.out]; rfl, (Made.rfl_ _ _).cells (Nat.le_refl _) _ _⟩
   ·clear h2
    go_enter Tryz.func102, Tryz.ntmps102
    go_wp2_with fail
    go_ret
    exact ⟨by rw [HR.out]; rfl, (Made.rfl_ _ _).cells (Nat.le_refl _) _ _⟩
  ·have k2 : (R == 0) = false := by simpa using hR
   clear h2 hR
   go_enter Tryz.func102, Tryz.ntmps102
   go_wp2_with fail
   go_ret
   exact ⟨by rw [HR.out]; rfl, (Made.rfl_ _ _).cells (Nat.le_refl _) _ _⟩
 ·have k2 : (K == 2) = false := by simpa using hK
  clear h1 h2 hK
  go_enter Tryz.func102, Tryz.ntmps102
  go_wp2_with fail
  go_ret
  exact ⟨by rw [HR.out]; rfl, (Made.rfl_ _ _).cells (Nat.le_refl _) _ _⟩
theorem right_poly (b off n cap : Nat) (f : Cs) (w : World) (h3 : 3 ≤ n) (h8 : n ≤ 8) (hp : Pts w b off n f) (hi : Cin f n) (r : Bool) (hr : r = true ↔ RightP 2 0 n f) :
  Calls Tryz.prog 102 #[shapeV 2 0 (.slice (some ⟨b, off, none⟩) n cap)] w fun e w' => e = .returned (.bool r) ∧ Made w.heap.size w w' := by
 have HP : Hid (∀ v, Made w.heap.size w v → Pts v b off n f) := fun v k => hp.kept k
 have HI := hid hi
 clear hp hi
 have HR : Hid (r = true ↔ (∀ i, i < n → NearP (f i)) ∧ CvxP f n) := by
  refine hr.trans ⟨?_, fun h => .inr ⟨rfl, rfl, h3, h8, h.1, h.2⟩⟩
  rintro (h | h)
  ·omega
  ·exact ⟨h.2.2.2.2.1, h.2.2.2.2.2⟩
 clear hr
 by_cases hN : ∀ i, i < n → NearP (f i)
 ·have HN := hid hN
  have HC : Hid (r = true ↔ CvxP f n) := HR.out.trans ⟨fun h => h.2, fun h => ⟨hN, h⟩⟩
  clear hN
  go_enter Tryz.func102, Tryz.ntmps102
  go_wp2_with fail
  refine (near_is b off n cap f _ h8 (HP.out _ ((Made.rfl_ _ _).cells (Nat.le_refl _) _ _)) HI.out true ⟨fun _ => HN.out, fun _ => rfl⟩).mono ?_
  rintro e w1 ⟨rfl, k1⟩
  have x0 := k1.reads (p := ⟨w.heap.size, 2, none⟩) (x := .slice (some ⟨b, off, none⟩) n cap) (by go_simp)
  have M1 := hid (made_box k1)
  clear k1
  go_wp2_with fail
  refine (convex_is b off n cap f _ h3 h8 (HP.out _ M1.out) HI.out r HC.out).mono ?_
  rintro e w2 ⟨rfl, k2⟩
  have M2 := hid (M1.out.then_ (k2.low M1.out.1.size))
  clear k2
  go_wp2_with fail
  go_ret
  exact ⟨by cases r <;> rfl, M2.out⟩
 ·have HN := hid hN
  have HF : Hid (r = false) := Bool.eq_false_iff.2 fun h => hN (HR.out.1 h).1
  clear hN
  go_enter Tryz.func102, Tryz.ntmps102
  go_wp2_with fail
  refine (near_is b off n cap f _ h8 (HP.out _ ((Made.rfl_ _ _).cells (Nat.le_refl _) _ _)) HI.out false ⟨fun h => (by cases h), fun h => absurd h HN.out⟩).mono ?_
  rintro e w1 ⟨rfl, k1⟩
  have M1 := hid (made_box k1)
  clear k1
  go_wp2_with fail
  go_ret
  exact ⟨by rw [HF.out]; rfl, M1.out⟩
theorem right_is (K R : Int) (ao : Option Addr) (n cap : Nat) (f : Cs) (w : World) (hs : Sl w ao n f) (hi : Cin f n) (r : Bool) (hr : r = true ↔ RightP K R n f) :
  Calls Tryz.prog 102 #[shapeV K R (.slice ao n cap)] w fun e w' => e = .returned (.bool r) ∧ Made w.heap.size w w' := by
 by_cases h1 : K = 1
 ·subst h1; exact right_circle R ao n cap f w r hr
 ·by_cases h2 : K = 2 ∧ R = 0 ∧ 3 ≤ n ∧ n ≤ 8
  ·obtain ⟨rfl, rfl, h3, h8⟩ := h2
   obtain ⟨b, off, rfl, hp⟩ := hs (by omega)
   exact right_poly b off n cap f w h3 h8 hp hi r hr
  ·exact right_none K R ao n cap f w h1 h2 r hr
end Go.Proofs.YtgdcphmmehedoaaGreat.Fx
/- Contracts of package shape: Corners, Normals. -/
namespace Go.Proofs.YtgdcphmmehedoaaGreat.Fx
open Go.ChangeShapes Go.WideShapes Go.ChangeAt Go.RowKit
set_option linter.unusedVariables false
theorem info_V : (Tryz.prog.info? 28).map (fun i => (i.zero, i.size, i.bytes)) = some (some (.agg #[.int .i64 0, .int .i64 0]), 2, 16) := by kernel_rfl
def placeF (f : Cs) (c s x y : Int) : Cs := fun i => (addF (subF (mulF c (f i).1) (mulF s (f i).2)) x, addF (addF (mulF s (f i).1) (mulF c (f i).2)) y)
def upto (f : Cs) (k : Nat) : Cs := fun i => if i < k then f i else (0, 0)
end Go.Proofs.YtgdcphmmehedoaaGreat.Fx
/- Contracts of package shape: Box, Copy, Reach. -/
namespace Go.Proofs.YtgdcphmmehedoaaGreat.Fx
open Go.ChangeShapes Go.WideShapes Go.ChangeAt Go.RowKit
set_option linter.unusedVariables false
def boxF (a b : Int) : Cs := fun i => (if i = 0 ∨ i = 3 then negF a else a, if i = 0 ∨ i = 1 then negF b else b)
end Go.Proofs.YtgdcphmmehedoaaGreat.Fx