/- Fixes -/
import Derived.Test.YtjhcejmfiekjgaaGreatSt1
import Derived.Test.YtjhcejmfiekjgaaGreatRows
import Derived.WalkKit
import Derived.ProofKit
import Derived.OpenShut
import Derived.Outline
import Derived.Lib.Mul64
import Derived.Laws.Bits64b
import Derived.Lib.Strings
import Derived.Lib.Slices
import Derived.Lib.Small
import Derived.Lib.Walk
import Derived.Lib.BitFns
import Derived.Deep.QuietTactic
import Derived.BigQuiet
import Derived.LoopTactic
set_option maxRecDepth 100000
set_option maxHeartbeats 64000000
/- Contracts of package fix. -/
/- Contracts of package fix's small functions. -/
namespace Go.Proofs.YtjhcejmfiekjgaaGreat.Fx
open Go.ChangeShapes Go.WideShapes Go.ChangeAt Go.RowKit
set_option linter.unusedVariables false
theorem ret_i {k : IntKind} {a b : Int} (h : a = b) : Ending.returned (.int k a) = .returned (.int k b) := by rw [h]
theorem counted_c (a : Int) (w : World) (h : I64 a) :
  Calls Tryz.prog 64 #[.int .i64 a] w fun e w' => e = .returned (.int .i64 (cl a)) ∧ w = w' := by
 obtain ⟨h0, h1⟩ := h
 by_cases hlt : a < -9223372036854775807
 ·go_enter Tryz.func64, Tryz.ntmps64
  go_wp2
  go_ret
  exact ⟨ret_i (by unfold cl; omega), rfl⟩
 ·go_enter Tryz.func64, Tryz.ntmps64
  go_wp2
  go_ret
  exact ⟨ret_i (by unfold cl; omega), rfl⟩
theorem neg_c (a : Int) (w : World) (h : I64 a) :
  Calls Tryz.prog 34 #[.int .i64 a] w fun e w' => e = .returned (.int .i64 (negF a)) ∧ w = w' := by
 have hb := cl_bd h
 unfold L M at hb
 obtain ⟨hb0, hb1⟩ := hb
 go_enter Tryz.func34, Tryz.ntmps34
 go_wp2_with (go_at_call 64; refine (counted_c _ _ h).mono ?_; rintro e w' ⟨rfl, rfl⟩)
 go_ret
 exact ⟨ret_i (by unfold negF; omega), rfl⟩
theorem abs_c (a : Int) (w : World) (h : I64 a) :
  Calls Tryz.prog 70 #[.int .i64 a] w fun e w' => e = .returned (.int .i64 (absF a)) ∧ w = w' := by
 by_cases hlt : a < 0
 ·go_enter Tryz.func70, Tryz.ntmps70
  go_wp2_with (go_at_call 34; refine (neg_c _ _ h).mono ?_; rintro e w' ⟨rfl, rfl⟩)
  go_ret
  exact ⟨ret_i (by unfold absF; rw [if_pos hlt]), rfl⟩
 ·go_enter Tryz.func70, Tryz.ntmps70
  go_wp2
  go_ret
  exact ⟨ret_i (by unfold absF; rw [if_neg (by omega)]), rfl⟩
theorem size_c (a : Int) (w : World) (h : I64 a) :
  Calls Tryz.prog 31 #[.int .i64 a] w fun e w' => e = .returned (.int .u64 (absF a)) ∧ w = w' := by
 have hb := absF_bd h
 unfold M at hb
 obtain ⟨hb0, hb1⟩ := hb
 go_enter Tryz.func31, Tryz.ntmps31
 go_wp2_with (go_at_call 70; refine (abs_c _ _ h).mono ?_; rintro e w' ⟨rfl, rfl⟩)
 go_ret
 exact ⟨ret_i (by omega), rfl⟩
theorem add_c (a b : Int) (w : World) (ha : I64 a) (hb : I64 b) :
  Calls Tryz.prog 26 #[.int .i64 a, .int .i64 b] w fun e w' => e = .returned (.int .i64 (addF a b)) ∧ w = w' := by
 have hx := cl_bd ha
 have hy := cl_bd hb
 unfold L M at hx hy
 obtain ⟨hx0, hx1⟩ := hx
 obtain ⟨hy0, hy1⟩ := hy
 have HF : Hid (addF a b = sat (cl a + cl b)) := rfl
 by_cases h1 : 0 < cl b
 ·by_cases h2 : 9223372036854775807 - cl b < cl a
  ·go_enter Tryz.func26, Tryz.ntmps26
   go_wp2_with (go_at_call 64; first | (refine (counted_c _ _ ha).mono ?_; rintro e w' ⟨rfl, rfl⟩) | (refine (counted_c _ _ hb).mono ?_; rintro e w' ⟨rfl, rfl⟩))
   go_ret
   exact ⟨ret_i (by rw [HF.out]; unfold sat; omega), rfl⟩
  ·go_enter Tryz.func26, Tryz.ntmps26
   go_wp2_with (go_at_call 64; first | (refine (counted_c _ _ ha).mono ?_; rintro e w' ⟨rfl, rfl⟩) | (refine (counted_c _ _ hb).mono ?_; rintro e w' ⟨rfl, rfl⟩))
   go_ret
   exact ⟨ret_i (by rw [HF.out]; unfold sat; omega), rfl⟩
 ·by_cases h2 : cl b < 0
  ·by_cases h3 : cl a < -9223372036854775807 - cl b
   ·go_enter Tryz.func26, Tryz.ntmps26
    go_wp2_with (go_at_call 64; first | (refine (counted_c _ _ ha).mono ?_; rintro e w' ⟨rfl, rfl⟩) | (refine (counted_c _ _ hb).mono ?_; rintro e w' ⟨rfl, rfl⟩))
    go_ret
    exact ⟨ret_i (by rw [HF.out]; unfold sat; omega), rfl⟩
   ·go_enter Tryz.func26, Tryz.ntmps26
    go_wp2_with (go_at_call 64; first | (refine (counted_c _ _ ha).mono ?_; rintro e w' ⟨rfl, rfl⟩) | (refine (counted_c _ _ hb).mono ?_; rintro e w' ⟨rfl, rfl⟩))
    go_ret
    exact ⟨ret_i (by rw [HF.out]; unfold sat; omega), rfl⟩
  ·go_enter Tryz.func26, Tryz.ntmps26
   go_wp2_with (go_at_call 64; first | (refine (counted_c _ _ ha).mono ?_; rintro e w' ⟨rfl, rfl⟩) | (refine (counted_c _ _ hb).mono ?_; rintro e w' ⟨rfl, rfl⟩))
   go_ret
   exact ⟨ret_i (by rw [HF.out]; unfold sat; omega), rfl⟩
theorem I64_neg {a : Int} (h : I64 a) : I64 (negF a) := by
 have := cl_bd h; unfold negF I64 L M at *; omega
theorem sub_c (a b : Int) (w : World) (ha : I64 a) (hb : I64 b) :
  Calls Tryz.prog 14 #[.int .i64 a, .int .i64 b] w fun e w' => e = .returned (.int .i64 (subF a b)) ∧ w = w' := by
 have hn := I64_neg hb
 go_enter Tryz.func14, Tryz.ntmps14
 go_wp2_with (first | (go_at_call 34; refine (neg_c _ _ hb).mono ?_; rintro e w' ⟨rfl, rfl⟩) | (go_at_call 26; refine (add_c _ _ _ ha hn).mono ?_; rintro e w' ⟨rfl, rfl⟩))
 go_ret
 exact ⟨ret_i (by unfold subF; rfl), rfl⟩
theorem signed_c (n : Int) (t : Bool) (w : World) (h0 : 0 ≤ n) (h1 : n ≤ 18446744073709551615) :
  Calls Tryz.prog 32 #[.int .u64 n, .bool t] w fun e w' => e = .returned (.int .i64 (signF n t)) ∧ w = w' := by
 by_cases hlt : n ≤ 9223372036854775807
 ·cases t
  ·go_enter Tryz.func32, Tryz.ntmps32
   go_wp2
   go_ret
   exact ⟨ret_i (by unfold signF; simp; omega), rfl⟩
  ·go_enter Tryz.func32, Tryz.ntmps32
   go_wp2
   go_ret
   exact ⟨ret_i (by unfold signF; simp; omega), rfl⟩
 ·cases t
  ·go_enter Tryz.func32, Tryz.ntmps32
   go_wp2
   go_ret
   exact ⟨ret_i (by unfold signF; simp; omega), rfl⟩
  ·go_enter Tryz.func32, Tryz.ntmps32
   go_wp2
   go_ret
   exact ⟨ret_i (by unfold signF; simp; omega), rfl⟩
theorem ret_ii {k : IntKind} {a b c d : Int} (h : a = b) (h' : c = d) : Ending.returned (.tuple #[.int k a, .int k c]) = .returned (.tuple #[.int k b, .int k d]) := by rw [h, h']
theorem scaled_c (a : Int) (w : World) (h : I64 a) :
  Calls Tryz.prog 68 #[.int .i64 a] w fun e w' => e = .returned (.tuple #[.int .u64 (absF a / 4294967296), .int .u64 (absF a % 4294967296 * 4294967296)]) ∧ w = w' := by
 have hb := absF_bd h
 unfold M at hb
 obtain ⟨hb0, hb1⟩ := hb
 go_enter Tryz.func68, Tryz.ntmps68
 go_wp2_with (go_at_call 31; refine (size_c _ _ h).mono ?_; rintro e w' ⟨rfl, rfl⟩)
 go_ret2
 exact ⟨ret_ii rfl (by rw [IntKind.wrap_u64]; omega), rfl⟩
end Go.Proofs.YtjhcejmfiekjgaaGreat.Fx
/- Contracts: products, quotients. -/
namespace Go.Proofs.YtjhcejmfiekjgaaGreat.Fx
open Go.ChangeShapes Go.WideShapes Go.ChangeAt Go.RowKit
set_option linter.unusedVariables false
theorem maskN (a : Nat) (ha : a < 18446744073709551616) : bits .and .u64 (a : Int) 4294967295 = ((a % 4294967296 : Nat) : Int) := by
 have h := bits_and_u64_nat a 4294967295 ha (by omega)
 have e : a &&& 4294967295 = a % 4294967296 := Nat.and_two_pow_sub_one_eq_mod a 32
 rw [e] at h
 exact h
theorem divN (a : Nat) : (a : Int) / 4294967296 = ((a / 4294967296 : Nat) : Int) := by omega
theorem mulN (a b : Nat) : (a : Int) * (b : Int) = ((a * b : Nat) : Int) := (Int.natCast_mul a b).symm
theorem addN (a b : Nat) : (a : Int) + (b : Int) = ((a + b : Nat) : Int) := (Int.natCast_add a b).symm
theorem wrapN (a : Nat) (ha : a < 18446744073709551616) : IntKind.u64.wrap (a : Int) = (a : Int) := by rw [IntKind.wrap_u64]; omega
theorem wrapM (a : Nat) : IntKind.u64.wrap (a : Int) = ((a % 18446744073709551616 : Nat) : Int) := by rw [IntKind.wrap_u64]; omega
theorem mul64_n (x y : Nat) (hx : x < 18446744073709551616) (hy : y < 18446744073709551616) (w : World) :
  Calls Tryz.prog 30 #[.int .u64 (x : Int), .int .u64 (y : Int)] w fun e w' => e = .returned (.tuple #[.int .u64 ((x * y / 18446744073709551616 : Nat) : Int), .int .u64 ((x * y % 18446744073709551616 : Nat) : Int)]) ∧ w = w' := by
 obtain ⟨bd, bt, bw, hhi⟩ := Lib.mul64_hi x y hx hy
 have ba := Lib.half_mul_le (a := x / 4294967296) (b := y / 4294967296) (by omega) (by omega)
 have bb := Lib.half_mul_le (a := x / 4294967296) (b := y % 4294967296) (by omega) (by omega)
 have bc := Lib.half_mul_le (a := x % 4294967296) (b := y / 4294967296) (by omega) (by omega)
 have ba' : x / 4294967296 * (y / 4294967296) < 18446744073709551616 := by omega
 have bb' : x / 4294967296 * (y % 4294967296) < 18446744073709551616 := by omega
 have bc' : x % 4294967296 * (y / 4294967296) < 18446744073709551616 := by omega
 have bh1 : x / 4294967296 * (y / 4294967296) + (x / 4294967296 * (y % 4294967296) + x % 4294967296 * (y % 4294967296) / 4294967296) / 4294967296 < 18446744073709551616 := by omega
 have bh : x / 4294967296 * (y / 4294967296) + (x / 4294967296 * (y % 4294967296) + x % 4294967296 * (y % 4294967296) / 4294967296) / 4294967296 + ((x / 4294967296 * (y % 4294967296) + x % 4294967296 * (y % 4294967296) / 4294967296) % 4294967296 + x % 4294967296 * (y / 4294967296)) / 4294967296 < 18446744073709551616 := by omega
 go_enter Tryz.func30, Tryz.ntmps30
 go_wp2
 simp only [maskN x hx, maskN y hy, divN, mulN, addN, wrapN _ bd, wrapN _ bb', wrapN _ bt, maskN _ bt, wrapN _ bc', wrapN _ bw, wrapN _ ba', wrapN _ bh1, wrapN _ bh, wrapM (x * y)]
 rw [hhi]
 go_ret2
 exact ⟨rfl, rfl⟩
theorem mul64_c (x y : Int) (w : World) (h0 : 0 ≤ x) (h1 : x ≤ 18446744073709551615) (h2 : 0 ≤ y) (h3 : y ≤ 18446744073709551615) :
  Calls Tryz.prog 30 #[.int .u64 x, .int .u64 y] w fun e w' => e = .returned (.tuple #[.int .u64 (x * y / 18446744073709551616), .int .u64 (x * y % 18446744073709551616)]) ∧ w = w' := by
 obtain ⟨n, rfl⟩ := Int.eq_ofNat_of_zero_le h0
 obtain ⟨m, rfl⟩ := Int.eq_ofNat_of_zero_le h2
 refine (mul64_n n m (by omega) (by omega) w).mono ?_
 rintro e w' ⟨rfl, rfl⟩
 exact ⟨ret_ii (by simp) (by simp), rfl⟩
end Go.Proofs.YtjhcejmfiekjgaaGreat.Fx
/- Contracts: products. -/
namespace Go.Proofs.YtjhcejmfiekjgaaGreat.Fx
open Go.ChangeShapes Go.WideShapes Go.ChangeAt Go.RowKit
set_option linter.unusedVariables false
theorem or_joint (a b : Int) (h0 : 0 ≤ a) (h1 : a < 4294967296) (h2 : 0 ≤ b) (h3 : b < 4294967296) :
  bits .or .u64 (a * 4294967296) b = a * 4294967296 + b := by
 obtain ⟨n, rfl⟩ := Int.eq_ofNat_of_zero_le h0
 obtain ⟨m, rfl⟩ := Int.eq_ofNat_of_zero_le h2
 have h := bits_or_u64_nat (n * 4294967296) m (by omega) (by omega)
 have e : n * 4294967296 ||| m = n * 4294967296 + m := by
  have := Nat.two_pow_add_eq_or_of_lt (i := 32) (b := m) (by omega) n
  rw [show (2 : Nat) ^ 32 = 4294967296 from rfl, Nat.mul_comm] at this
  exact this.symm
 rw [e] at h
 simpa using h
theorem prod_bd {x y : Int} (hx0 : 0 ≤ x) (hx1 : x ≤ 9223372036854775807) (hy0 : 0 ≤ y) (hy1 : y ≤ 9223372036854775807) :
  0 ≤ x * y ∧ x * y ≤ 85070591730234615847396907784232501249 := by
 refine ⟨Int.mul_nonneg hx0 hy0, ?_⟩
 have := Int.mul_le_mul hx1 hy1 hy0 (by omega)
 omega
theorem join_words (p : Int) (h0 : 0 ≤ p) (h : p / 18446744073709551616 / 4294967296 = 0) :
  bits .or .u64 (IntKind.u64.wrap (p / 18446744073709551616 * 4294967296)) (p % 18446744073709551616 / 4294967296) = p / 4294967296 := by
 rw [IntKind.wrap_u64]
 have e : p / 18446744073709551616 * 4294967296 % 18446744073709551616 = p / 18446744073709551616 * 4294967296 := by omega
 rw [e, or_joint _ _ (by omega) (by omega) (by omega) (by omega)]
 omega
theorem signF_big (n : Int) (t : Bool) (h : 9223372036854775807 ≤ n) : signF n t = signF 9223372036854775807 t := by
 unfold signF; split
 ·rw [if_neg (by omega), if_neg (by omega)]
 ·rw [if_neg (by omega), if_neg (by omega)]
theorem mul_c (a b : Int) (w : World) (ha : I64 a) (hb : I64 b) :
  Calls Tryz.prog 12 #[.int .i64 a, .int .i64 b] w fun e w' => e = .returned (.int .i64 (mulF a b)) ∧ w = w' := by
 have hx := absF_bd ha
 have hy := absF_bd hb
 unfold M at hx hy
 obtain ⟨hx0, hx1⟩ := hx
 obtain ⟨hy0, hy1⟩ := hy
 have hp := prod_bd hx0 hx1 hy0 hy1
 obtain ⟨hp0, hp1⟩ := hp
 have HF : Hid (mulF a b = signF (absF a * absF b / 4294967296) (decide (a < 0) != decide (b < 0))) := rfl
 have hx2 : absF a ≤ 18446744073709551615 := by omega
 have hy2 : absF b ≤ 18446744073709551615 := by omega
 by_cases hc : absF a * absF b / 18446744073709551616 / 4294967296 = 0
 ·have HJ : Hid _ := join_words _ hp0 hc
  have hc' : (absF a * absF b / 18446744073709551616 / 4294967296 == 0) = true := by simp [hc]
  clear hc
  go_enter Tryz.func12, Tryz.ntmps12
  go_wp2_with (first | (go_at_call 31; first | (refine (size_c _ _ ha).mono ?_; rintro e w' ⟨rfl, rfl⟩) | (refine (size_c _ _ hb).mono ?_; rintro e w' ⟨rfl, rfl⟩)) | (go_at_call 30; refine (mul64_c _ _ _ hx0 hx2 hy0 hy2).mono ?_; rintro e w' ⟨rfl, rfl⟩) | (go_at_call 32; fail))
  rw [HJ.out]
  refine (signed_c _ _ _ (by omega) (by simp at hc'; omega)).mono ?_
  rintro e w' ⟨rfl, rfl⟩
  go_wp2
  go_ret
  exact ⟨ret_i (by rw [HF.out]; rfl), rfl⟩
 ·have hc' : (absF a * absF b / 18446744073709551616 / 4294967296 == 0) = false := by simp; omega
  have HJ : Hid (9223372036854775807 ≤ absF a * absF b / 4294967296) := by unfold Hid; omega
  clear hc
  go_enter Tryz.func12, Tryz.ntmps12
  go_wp2_with (first | (go_at_call 31; first | (refine (size_c _ _ ha).mono ?_; rintro e w' ⟨rfl, rfl⟩) | (refine (size_c _ _ hb).mono ?_; rintro e w' ⟨rfl, rfl⟩)) | (go_at_call 30; refine (mul64_c _ _ _ hx0 hx2 hy0 hy2).mono ?_; rintro e w' ⟨rfl, rfl⟩) | (go_at_call 32; fail))
  refine (signed_c _ _ _ (by omega) (by omega)).mono ?_
  rintro e w' ⟨rfl, rfl⟩
  go_wp2
  go_ret
  exact ⟨ret_i (by rw [HF.out, signF_big _ _ HJ.out]; rfl), rfl⟩
end Go.Proofs.YtjhcejmfiekjgaaGreat.Fx
/- Contracts: numbers of bits. -/
namespace Go.Proofs.YtjhcejmfiekjgaaGreat.Fx
open Go.ChangeShapes Go.WideShapes Go.ChangeAt Go.RowKit
set_option linter.unusedVariables false
theorem tab_size : Lib.len8tab.size = 256 := by decide +kernel
theorem tab_all : ∀ n : Fin 256, (Lib.len8tab[n.val]'(by rw [tab_size]; exact n.isLt)).toNat = Lib.bitLen n.val := by decide +kernel
theorem tab_get (i : Nat) (h : i < Lib.len8tab.size) : (Lib.len8tab[i]'h).toNat = Lib.bitLen i :=
 tab_all ⟨i, by rw [← tab_size]; exact h⟩
theorem len_le (i : Nat) (h : i < 256) : Lib.bitLen i ≤ 8 := Lib.bitLen_le i 8 (by omega) (by omega)
theorem close0 (x : Int) (h0 : 0 ≤ x) (h1 : x < 256) : wrap64 (wrap64 (Lib.bitLen x.toNat : Int)) = Lib.bitLen x.toNat := by
 have := len_le x.toNat (by omega); unfold wrap64; omega
theorem closeK (x y : Int) (k d : Nat) (h0 : 0 ≤ y) (h1 : y < 256) (hk : k ≤ 56) (e : Lib.bitLen x.toNat = k + Lib.bitLen (x.toNat / d)) (hy : y.toNat = x.toNat / d) :
  wrap64 ((k : Int) + wrap64 (Lib.bitLen y.toNat : Int)) = Lib.bitLen x.toNat := by
 have := len_le y.toNat (by omega); rw [e, ← hy]; unfold wrap64; omega
theorem len64_c (x : Int) (w : World) (h0 : 0 ≤ x) (h1 : x ≤ 18446744073709551615) :
  Calls Tryz.prog 130 #[.int .u64 x] w fun e w' => e = .returned (.int .i64 (Lib.bitLen x.toNat)) ∧ w = w' := by
 have hs : 256 ≤ (Lib.len8tab.size : Int) := by rw [tab_size]; decide
 go_enter Tryz.func130, Tryz.ntmps130
 go_wp2
 all_goals (go_ret; refine ⟨ret_i ?_, rfl⟩; simp only [tab_get])
 ·exact closeK x _ 56 72057594037927936 (by omega) (by omega) (by omega) (Lib.bitLen_shift56 _ (by omega) (by omega)) (by omega)
 ·exact closeK x _ 48 281474976710656 (by omega) (by omega) (by omega) (Lib.bitLen_shift48 _ (by omega) (by omega)) (by omega)
 ·exact closeK x _ 40 1099511627776 (by omega) (by omega) (by omega) (Lib.bitLen_shift40 _ (by omega) (by omega)) (by omega)
 ·exact closeK x _ 32 4294967296 (by omega) (by omega) (by omega) (Lib.bitLen_shift32 _ (by omega) (by omega)) (by omega)
 ·exact closeK x _ 24 16777216 (by omega) (by omega) (by omega) (Lib.bitLen_shift24 _ (by omega) (by omega)) (by omega)
 ·exact closeK x _ 16 65536 (by omega) (by omega) (by omega) (Lib.bitLen_shift16 _ (by omega) (by omega)) (by omega)
 ·exact closeK x _ 8 256 (by omega) (by omega) (by omega) (Lib.bitLen_shift8 _ (by omega) (by omega)) (by omega)
 ·exact close0 x (by omega) (by omega)
theorem lead64_c (x : Int) (w : World) (h0 : 0 ≤ x) (h1 : x ≤ 18446744073709551615) :
  Calls Tryz.prog 106 #[.int .u64 x] w fun e w' => e = .returned (.int .i64 (64 - (Lib.bitLen x.toNat : Int))) ∧ w = w' := by
 have l : Lib.bitLen x.toNat ≤ 64 := Lib.bitLen_le x.toNat 64 (by omega) (by omega)
 go_enter Tryz.func106, Tryz.ntmps106
 go_wp2_with (go_at_call 130; refine (len64_c _ _ h0 h1).mono ?_; rintro e w' ⟨rfl, rfl⟩)
 go_ret
 exact ⟨ret_i rfl, rfl⟩
end Go.Proofs.YtjhcejmfiekjgaaGreat.Fx
/- Contracts: whole numbers. -/
namespace Go.Proofs.YtjhcejmfiekjgaaGreat.Fx
open Go.ChangeShapes Go.WideShapes Go.ChangeAt Go.RowKit
set_option linter.unusedVariables false
theorem of_c (n : Int) (w : World) (h : I64 n) :
  Calls Tryz.prog 33 #[.int .i64 n] w fun e w' => e = .returned (.int .i64 (ofF n)) ∧ w = w' := by
 obtain ⟨h0, h1⟩ := h
 by_cases h2 : 2147483647 < n
 ·go_enter Tryz.func33, Tryz.ntmps33
  go_wp2
  go_ret
  exact ⟨ret_i (by unfold ofF; omega), rfl⟩
 ·by_cases h3 : n < -2147483647
  ·go_enter Tryz.func33, Tryz.ntmps33
   go_wp2
   go_ret
   exact ⟨ret_i (by unfold ofF; omega), rfl⟩
  ·go_enter Tryz.func33, Tryz.ntmps33
   go_wp2
   go_ret
   exact ⟨ret_i (by unfold ofF; omega), rfl⟩
theorem bring_c (a b c : Int) (w : World) (ha : I64 a) (hb : I64 b) (hc : I64 c) :
  Calls Tryz.prog 62 #[.int .i64 a, .int .i64 b, .int .i64 c] w fun e w' => e = .returned (.int .i64 (bringF a b c)) ∧ w = w' := by
 have h1 := cl_bd ha
 have h2 := cl_bd hb
 have h3 := cl_bd hc
 unfold L M at h1 h2 h3
 by_cases c1 : cl a < cl b
 ·go_enter Tryz.func62, Tryz.ntmps62
  go_wp2_with (go_at_call 64; first | (refine (counted_c _ _ ha).mono ?_; rintro e w' ⟨rfl, rfl⟩) | (refine (counted_c _ _ hb).mono ?_; rintro e w' ⟨rfl, rfl⟩) | (refine (counted_c _ _ hc).mono ?_; rintro e w' ⟨rfl, rfl⟩))
  go_ret
  exact ⟨ret_i (by unfold bringF; rw [if_pos (by omega)]), rfl⟩
 ·by_cases c2 : cl c < cl a
  ·go_enter Tryz.func62, Tryz.ntmps62
   go_wp2_with (go_at_call 64; first | (refine (counted_c _ _ ha).mono ?_; rintro e w' ⟨rfl, rfl⟩) | (refine (counted_c _ _ hb).mono ?_; rintro e w' ⟨rfl, rfl⟩) | (refine (counted_c _ _ hc).mono ?_; rintro e w' ⟨rfl, rfl⟩))
   go_ret
   exact ⟨ret_i (by unfold bringF; rw [if_neg (by omega), if_pos (by omega)]), rfl⟩
  ·go_enter Tryz.func62, Tryz.ntmps62
   go_wp2_with (go_at_call 64; first | (refine (counted_c _ _ ha).mono ?_; rintro e w' ⟨rfl, rfl⟩) | (refine (counted_c _ _ hb).mono ?_; rintro e w' ⟨rfl, rfl⟩) | (refine (counted_c _ _ hc).mono ?_; rintro e w' ⟨rfl, rfl⟩))
   go_ret
   exact ⟨ret_i (by unfold bringF; rw [if_neg (by omega), if_neg (by omega)]), rfl⟩
end Go.Proofs.YtjhcejmfiekjgaaGreat.Fx
/- The plain arithmetic of the schoolbook quotient: no Go in sight. -/
namespace Go.Proofs.YtjhcejmfiekjgaaGreat.Fx
open Go
theorem bitLen_pos (z : Nat) (h0 : z ≠ 0) (h : z < 18446744073709551616) : 1 ≤ Lib.bitLen z := by
 have := Lib.bitLen_half z h0 h; omega
theorem bitLen_lo (y : Nat) (h0 : y ≠ 0) (h : y < 18446744073709551616) : 2 ^ (Lib.bitLen y - 1) ≤ y := by
 have h1 := bitLen_pos y h0 h
 have h2 := Lib.bitLen_le y 64 (by omega) (by omega)
 by_cases c : 2 ^ (Lib.bitLen y - 1) ≤ y
 ·exact c
 ·have := Lib.bitLen_le y (Lib.bitLen y - 1) (by omega) (by omega)
  omega
theorem bitLen_hi (y : Nat) (h : y < 18446744073709551616) : y < 2 ^ Lib.bitLen y := by
 by_cases c : 2 ^ Lib.bitLen y ≤ y
 ·have e := Lib.bitLen_shift (Lib.bitLen y) y c h
  have hp : 0 < 2 ^ Lib.bitLen y := Nat.pow_pos (by omega)
  have h1 : 1 ≤ y / 2 ^ Lib.bitLen y := (Nat.le_div_iff_mul_le hp).2 (by omega)
  have h2 : y / 2 ^ Lib.bitLen y ≤ y := Nat.div_le_self _ _
  have := bitLen_pos (y / 2 ^ Lib.bitLen y) (by omega) (by omega)
  omega
 ·omega
theorem pow_split (a b : Nat) (h : a + b = 64) : (2 : Nat) ^ a * 2 ^ b = 18446744073709551616 := by
 rw [← Nat.pow_add, h]
theorem norm_y (y s : Nat) (h0 : y ≠ 0) (h : y < 18446744073709551616) (hs : s = 64 - Lib.bitLen y) :
  9223372036854775808 ≤ y * 2 ^ s ∧ y * 2 ^ s < 18446744073709551616 := by
 have h1 := bitLen_pos y h0 h
 have h2 := Lib.bitLen_le y 64 (by omega) (by omega)
 have lo := bitLen_lo y h0 h
 have hi := bitLen_hi y h
 have e1 := pow_split (Lib.bitLen y) s (by omega)
 have e2 : (2 : Nat) ^ (Lib.bitLen y - 1) * 2 ^ s = 9223372036854775808 := by
  rw [← Nat.pow_add, show Lib.bitLen y - 1 + s = 63 by omega]
 have hp : 0 < 2 ^ s := Nat.pow_pos (by omega)
 constructor
 ·have := Nat.mul_le_mul_right (2 ^ s) lo; omega
 ·have := Nat.mul_lt_mul_of_pos_right hi hp; omega
theorem norm_u (hi lo y s : Nat) (h0 : hi < y) (h : lo < 18446744073709551616) (hs : s ≤ 64) :
  (hi * 2 ^ s + lo / 2 ^ (64 - s)) * 18446744073709551616 + lo * 2 ^ s % 18446744073709551616 = (hi * 18446744073709551616 + lo) * 2 ^ s ∧
  lo / 2 ^ (64 - s) < 2 ^ s ∧ hi * 2 ^ s + lo / 2 ^ (64 - s) < y * 2 ^ s := by
 have e := pow_split s (64 - s) (by omega)
 have hp : 0 < 2 ^ s := Nat.pow_pos (by omega)
 have hp' : 0 < 2 ^ (64 - s) := Nat.pow_pos (by omega)
 generalize 2 ^ s = p at *
 generalize 2 ^ (64 - s) = p' at *
 have h1 : lo / p' < p := (Nat.div_lt_iff_lt_mul hp').2 (by omega)
 have h2 := Nat.div_add_mod lo p'
 have h3 : lo * p = lo / p' * 18446744073709551616 + lo % p' * p := by
  rw [← e]
  calc lo * p = (p' * (lo / p') + lo % p') * p := by rw [h2]
   _ = _ := by rw [Nat.add_mul, Nat.mul_comm p' (lo / p'), Nat.mul_assoc, Nat.mul_comm p' p]
 have h4 : lo % p' * p < 18446744073709551616 := by
  have := Nat.mul_lt_mul_of_pos_right (Nat.mod_lt lo hp') hp
  rw [Nat.mul_comm p' p, e] at this; exact this
 refine ⟨?_, h1, ?_⟩
 ·have h5 : lo * p % 18446744073709551616 = lo % p' * p := by omega
  rw [h5, Nat.add_mul, Nat.add_mul, Nat.mul_right_comm hi p, h3]
  omega
 ·have h6 : (hi + 1) * p ≤ y * p := Nat.mul_le_mul_right p (by omega)
  rw [Nat.add_mul] at h6; omega
def Dig (n y1 q a b : Int) : Prop := q ≤ a ∧ a ≤ 4294967297 ∧ a * y1 + b = n ∧ 0 ≤ b ∧ b < 4294967296
structure DigP (n d y1 y0 q : Int) : Prop where
 hn0 : 0 ≤ n
 hn : n < y1 * 4294967296 + y0
 hd0 : 0 ≤ d
 hd : d < 4294967296
 hy1 : 2147483648 ≤ y1
 hy2 : y1 < 4294967296
 hy0 : 0 ≤ y0
 hy3 : y0 < 4294967296
 hq : q = (n * 4294967296 + d) / (y1 * 4294967296 + y0)
theorem dig_q {n d y1 y0 q : Int} (P : DigP n d y1 y0 q) : 0 ≤ q ∧ q < 4294967296 ∧ q * (y1 * 4294967296 + y0) ≤ n * 4294967296 + d ∧ n * 4294967296 + d < q * (y1 * 4294967296 + y0) + (y1 * 4294967296 + y0) := by
 obtain ⟨hn0, hn, hd0, hd, hy1, hy2, hy0, hy3, hq⟩ := P
 have hY : 0 < y1 * 4294967296 + y0 := by omega
 subst hq
 generalize hYe : y1 * 4294967296 + y0 = Y at *
 have a1 := Int.ediv_nonneg (a := n * 4294967296 + d) (b := Y) (by omega) (by omega)
 have a2 : (n * 4294967296 + d) / Y < 4294967296 := Int.ediv_lt_of_lt_mul hY (by omega)
 have a3 := Int.mul_ediv_add_emod (n * 4294967296 + d) Y
 have a4 := Int.emod_nonneg (n * 4294967296 + d) (b := Y) (by omega)
 have a5 := Int.emod_lt_of_pos (n * 4294967296 + d) hY
 rw [Int.mul_comm] at a3
 refine ⟨a1, a2, by omega, by omega⟩
theorem dig_start {n d y1 y0 q : Int} (P : DigP n d y1 y0 q) : Dig n y1 q (n / y1) (n - n / y1 * y1) := by
 obtain ⟨q0, q1, q2, q3⟩ := dig_q P
 obtain ⟨hn0, hn, hd0, hd, hy1, hy2, hy0, hy3, hq⟩ := P
 have b1 := Int.mul_ediv_add_emod n y1
 have b2 := Int.emod_nonneg n (b := y1) (by omega)
 have b3 := Int.emod_lt_of_pos n (b := y1) (by omega)
 rw [Int.mul_comm] at b1
 have e : q * (y1 * 4294967296 + y0) = q * y1 * 4294967296 + q * y0 := by rw [Int.mul_add, Int.mul_assoc]
 have p0 : 0 ≤ q * y0 := Int.mul_nonneg q0 hy0
 have le : q * y1 ≤ n := by omega
 have c1 : q ≤ n / y1 := (Int.le_ediv_iff_mul_le (by omega)).2 le
 have c2 : n / y1 < 4294967298 := Int.ediv_lt_of_lt_mul (by omega) (by omega)
 refine ⟨c1, by omega, by omega, by omega, by omega⟩
theorem dig_more {n d y1 y0 q a b : Int} (P : DigP n d y1 y0 q) (h : Dig n y1 q a b) (ht : 4294967296 ≤ a ∨ 4294967296 * b + d < a * y0) : q ≤ a - 1 := by
 obtain ⟨q0, q1, q2, q3⟩ := dig_q P
 obtain ⟨h1, h2, h3, h4, h5⟩ := h
 rcases ht with ht | ht
 ·omega
 ·by_cases c : q ≤ a - 1
  ·exact c
  ·have : a = q := by omega
   subst this
   have e : a * (y1 * 4294967296 + y0) = a * y1 * 4294967296 + a * y0 := by rw [Int.mul_add, Int.mul_assoc]
   omega
theorem dig_done {n d y1 y0 q a b : Int} (P : DigP n d y1 y0 q) (h1 : q ≤ a) (h3 : a * y1 + b = n) (h : a * y0 ≤ 4294967296 * b + d) : a = q := by
 obtain ⟨hn0, hn, hd0, hd, hy1, hy2, hy0, hy3, hq⟩ := P
 have e : a * (y1 * 4294967296 + y0) = a * y1 * 4294967296 + a * y0 := by rw [Int.mul_add, Int.mul_assoc]
 have le : a * (y1 * 4294967296 + y0) ≤ n * 4294967296 + d := by omega
 have : a ≤ (n * 4294967296 + d) / (y1 * 4294967296 + y0) := (Int.le_ediv_iff_mul_le (by omega)).2 le
 omega
theorem dig_end {n d y1 y0 q a b : Int} (P : DigP n d y1 y0 q) (h : Dig n y1 q a b) (ht : a * y0 ≤ 4294967296 * b + d) : a = q :=
 dig_done P h.1 h.2.2.1 ht
theorem dig_on {n d y1 y0 q a b : Int} (P : DigP n d y1 y0 q) (h : Dig n y1 q a b) (ht : 4294967296 ≤ a ∨ 4294967296 * b + d < a * y0) (hb : b + y1 < 4294967296) :
  Dig n y1 q (a - 1) (b + y1) := by
 have hm := dig_more P h ht
 obtain ⟨h1, h2, h3, h4, h5⟩ := h
 have := P.hy1
 refine ⟨hm, by omega, ?_, by omega, hb⟩
 rw [Int.sub_mul]; omega
theorem dig_break {n d y1 y0 q a b : Int} (P : DigP n d y1 y0 q) (h : Dig n y1 q a b) (ht : 4294967296 ≤ a ∨ 4294967296 * b + d < a * y0) (hb : 4294967296 ≤ b + y1) :
  a - 1 = q := by
 have hm := dig_more P h ht
 obtain ⟨q0, q1, q2, q3⟩ := dig_q P
 obtain ⟨h1, h2, h3, h4, h5⟩ := h
 refine dig_done (b := b + y1) P hm (by rw [Int.sub_mul]; omega) ?_
 have := P.hd0
 have : (a - 1) * y0 ≤ 4294967296 * 4294967295 := Int.mul_le_mul (by omega) (by have := P.hy3; omega) P.hy0 (by omega)
 omega
theorem two_digits {n d1 d0 Y q m p : Int} (hY : 0 < Y) (hm : m = n * 4294967296 + d1 - q * Y) (hp : p = (m * 4294967296 + d0) / Y) :
  (n * 18446744073709551616 + (d1 * 4294967296 + d0)) / Y = q * 4294967296 + p := by
 have e : n * 18446744073709551616 + (d1 * 4294967296 + d0) = (m * 4294967296 + d0) + q * 4294967296 * Y := by
  have : q * 4294967296 * Y = q * Y * 4294967296 := by rw [Int.mul_right_comm]
  omega
 rw [e, Int.add_mul_ediv_right _ _ (by omega), ← hp]
 omega
end Go.Proofs.YtjhcejmfiekjgaaGreat.Fx
/- Contracts: quotients of two words. -/
namespace Go.Proofs.YtjhcejmfiekjgaaGreat.Fx
open Go.ChangeShapes Go.WideShapes Go.ChangeAt Go.RowKit
set_option linter.unusedVariables false
theorem or_split (a b s : Nat) (h : b < 2 ^ s) : a * 2 ^ s ||| b = a * 2 ^ s + b := by
 have := Nat.two_pow_add_eq_or_of_lt (i := s) (b := b) h a
 rw [Nat.mul_comm] at this; exact this.symm
structure Norm (hi lo y : Int) (s : Nat) (Y y1 y0 n l d1 d0 q m p : Int) : Prop where
 eY : IntKind.u64.wrap (y * 2 ^ s) = Y
 e1 : Y / 4294967296 = y1
 e0 : bits .and .u64 Y 4294967295 = y0
 en : bits .or .u64 (IntKind.u64.wrap (hi * 2 ^ s)) (lo / 2 ^ (64 - s)) = n
 el : IntKind.u64.wrap (lo * 2 ^ s) = l
 f1 : l / 4294967296 = d1
 f0 : bits .and .u64 l 4294967295 = d0
 em : IntKind.u64.wrap (IntKind.u64.wrap (IntKind.u64.wrap (n * 4294967296) + d1) - IntKind.u64.wrap (q * Y)) = m
 Y0 : 9223372036854775808 ≤ Y
 Y1 : Y ≤ 18446744073709551615
 l0 : 0 ≤ l
 l1 : l ≤ 18446744073709551615
 Yn : Y = y1 * 4294967296 + y0
 P1 : DigP n d1 y1 y0 q
 P0 : DigP m d0 y1 y0 p
 all : (hi * 18446744073709551616 + lo) / y = q * 4294967296 + p
theorem maskI (a : Int) (h0 : 0 ≤ a) (h1 : a ≤ 18446744073709551615) : bits .and .u64 a 4294967295 = a % 4294967296 := by
 obtain ⟨n, rfl⟩ := Int.eq_ofNat_of_zero_le h0
 rw [maskN n (by omega)]; omega
theorem norm (hi lo y : Int) (h0 : 0 ≤ hi) (h1 : hi < y) (h2 : y ≤ 18446744073709551615) (h3 : 0 ≤ lo) (h4 : lo ≤ 18446744073709551615) (s : Nat) (hs : s = 64 - Lib.bitLen y.toNat) :
  ∃ Y y1 y0 n l d1 d0 q m p : Int, Norm hi lo y s Y y1 y0 n l d1 d0 q m p := by
 obtain ⟨hn, rfl⟩ := Int.eq_ofNat_of_zero_le h0
 obtain ⟨ln, rfl⟩ := Int.eq_ofNat_of_zero_le h3
 obtain ⟨yn, rfl⟩ := Int.eq_ofNat_of_zero_le (a := y) (by omega)
 rw [Int.toNat_natCast] at hs
 obtain ⟨a1, a2⟩ := norm_y yn s (by omega) (by omega) hs
 obtain ⟨b1, b2, b3⟩ := norm_u hn ln yn s (by omega) (by omega) (by omega)
 have hp : 0 < 2 ^ s := Nat.pow_pos (by omega)
 have c1 : (yn : Int) * 2 ^ s = ((yn * 2 ^ s : Nat) : Int) := by simp
 have c2 : (hn : Int) * 2 ^ s = ((hn * 2 ^ s : Nat) : Int) := by simp
 have c3 : (ln : Int) * 2 ^ s = ((ln * 2 ^ s : Nat) : Int) := by simp
 have c4 : (ln : Int) / 2 ^ (64 - s) = ((ln / 2 ^ (64 - s) : Nat) : Int) := by simp
 have hdiv : (hn * 18446744073709551616 + ln) / yn = ((hn * 2 ^ s + ln / 2 ^ (64 - s)) * 18446744073709551616 + ln * 2 ^ s % 18446744073709551616) / (yn * 2 ^ s) := by
  rw [b1, Nat.mul_div_mul_right _ _ hp]
 have hl : ln * 2 ^ s % 18446744073709551616 < 18446744073709551616 := Nat.mod_lt _ (by omega)
 have ho := or_split hn _ s b2
 generalize ln / 2 ^ (64 - s) = v at *
 have hor := bits_or_u64_nat (hn * 2 ^ s) v (by omega) (by omega)
 rw [ho] at hor
 rw [← c4] at hor
 have d1 : IntKind.u64.wrap ((yn : Int) * 2 ^ s) = ((yn * 2 ^ s : Nat) : Int) := by rw [c1, wrapN _ (by omega)]
 have d2 : IntKind.u64.wrap ((hn : Int) * 2 ^ s) = ((hn * 2 ^ s : Nat) : Int) := by rw [c2, wrapN _ (by omega)]
 have d3 : IntKind.u64.wrap ((ln : Int) * 2 ^ s) = ((ln * 2 ^ s % 18446744073709551616 : Nat) : Int) := by rw [c3, wrapM]
 rw [← d2] at hor
 generalize ln * 2 ^ s % 18446744073709551616 = l at *
 generalize hn * 2 ^ s + v = n at *
 generalize yn * 2 ^ s = Y at *
 clear b1 c1 c2 c3 ho d2 b2 hp
 have P1 : DigP (n : Int) ((l : Int) / 4294967296) ((Y : Int) / 4294967296) ((Y : Int) % 4294967296) (((n : Int) * 4294967296 + (l : Int) / 4294967296) / (Y : Int)) :=
  ⟨by omega, by omega, by omega, by omega, by omega, by omega, by omega, by omega, by rw [show (Y : Int) / 4294967296 * 4294967296 + (Y : Int) % 4294967296 = (Y : Int) by omega]⟩
 obtain ⟨k0, k1, k2, k3⟩ := dig_q P1
 rw [show (Y : Int) / 4294967296 * 4294967296 + (Y : Int) % 4294967296 = (Y : Int) by omega] at k2 k3
 generalize hq : ((n : Int) * 4294967296 + (l : Int) / 4294967296) / (Y : Int) = q at *
 refine ⟨Y, _, _, n, l, _, _, q, (n : Int) * 4294967296 + (l : Int) / 4294967296 - q * (Y : Int), _, d1, rfl, maskI _ (by omega) (by omega), hor, d3, rfl, maskI _ (by omega) (by omega), ?_, by omega, by omega, by omega, by omega, by omega, P1, ⟨by omega, by omega, by omega, by omega, by omega, by omega, by omega, by omega, rfl⟩, ?_⟩
 ·simp only [IntKind.wrap_u64]; omega
 ·rw [show (Y : Int) / 4294967296 * 4294967296 + (Y : Int) % 4294967296 = (Y : Int) by omega]
  have e := two_digits (n := n) (d1 := (l : Int) / 4294967296) (d0 := (l : Int) % 4294967296) (Y := Y) (q := q) (by omega) rfl rfl
  rw [← e, show (l : Int) / 4294967296 * 4294967296 + (l : Int) % 4294967296 = (l : Int) by omega]
  have := congrArg (fun x : Nat => (x : Int)) hdiv
  simpa using this
end Go.Proofs.YtjhcejmfiekjgaaGreat.Fx
/- Contracts: the quotient of two words by one. -/
namespace Go.Proofs.YtjhcejmfiekjgaaGreat.Fx
open Go.ChangeShapes Go.WideShapes Go.ChangeAt Go.RowKit
set_option linter.unusedVariables false
def QuoR (q : Int) (w : World) (e : Ending) (w' : World) : Prop := ∃ (r : Int) (k : Nat), e = .returned (.tuple #[.int .u64 q, .int .u64 r]) ∧ w' = w.drewN k
def Ret (v : Value) (w : World) (e : Ending) (w' : World) : Prop := e = .returned v ∧ ∃ k : Nat, w' = w.drewN k
theorem div64_big (hi lo y : Int) (w : World) (h0 : 0 ≤ hi) (h1 : hi < y) (h2 : y ≤ 18446744073709551615) (h3 : 0 ≤ lo) (h4 : lo ≤ 18446744073709551615) (h5 : 0 < hi) :
  Calls Tryz.prog 69 #[.int .u64 hi, .int .u64 lo, .int .u64 y] w (QuoR ((hi * 18446744073709551616 + lo) / y) w) := by
 have hy0 : 0 ≤ y := by omega
 have l64 : Lib.bitLen y.toNat ≤ 64 := Lib.bitLen_le y.toNat 64 (by omega) (by omega)
 obtain ⟨s, hs⟩ : ∃ s : Nat, s = 64 - Lib.bitLen y.toNat := ⟨_, rfl⟩
 have hs1 : s ≤ 64 := by omega
 obtain ⟨Y, y1, y0, n, l, d1, d0, q, m, p, N⟩ := norm hi lo y h0 h1 h2 h3 h4 s hs
 have HS : Hid ((64 : Int) - (Lib.bitLen y.toNat : Int) = (s : Int)) := by unfold Hid; omega
 clear hs l64
 obtain ⟨eY, e1, e0, en, el, f1, f0, em, Y0, Y1, l0, l1, Yn, P1, P0, all⟩ := N
 have HA : Hid ((hi * 18446744073709551616 + lo) / y = q * 4294967296 + p) := all
 have HP1 := P1
 have HP0 := P0
 obtain ⟨hn0, hn, hd0, hd, hy1, hy2, hy0', hy3, hq⟩ := P1
 obtain ⟨hm0, hm, hc0, hc, _, _, _, _, hp⟩ := P0
 have HD1 : Hid (DigP n d1 y1 y0 q) := HP1
 have HD0 : Hid (DigP m d0 y1 y0 p) := HP0
 clear all hq hp HP1 HP0
 obtain ⟨t1, t2, t3, t4, t5⟩ := dig_start HD1.out
 obtain ⟨q0, q1, _, _⟩ := dig_q HD1.out
 obtain ⟨p0, p1, _, _⟩ := dig_q HD0.out
 obtain ⟨r1, r2, r3, r4, r5⟩ := dig_start HD0.out
 have hn2 : n ≤ 18446744073709551615 := by omega
 have hm2 : m ≤ 18446744073709551615 := by omega
 have tt0 : 0 ≤ n / y1 * y1 := Int.mul_nonneg (Int.ediv_nonneg hn0 (by omega)) (by omega)
 have tt1 : n / y1 * y1 ≤ n := by omega
 have rr0 : 0 ≤ m / y1 * y1 := Int.mul_nonneg (Int.ediv_nonneg hm0 (by omega)) (by omega)
 have rr1 : m / y1 * y1 ≤ m := by omega
 have hyy : 1 ≤ y1 := by omega
 clear t1 t2 t3 t4 t5 r1 r2 r3 r4 r5
 have HYn : Hid (Y = y1 * 4294967296 + y0) := Yn
 clear Yn
 go_enter Tryz.func69, Tryz.ntmps69
 go_wp2_with (go_at_call 106; refine (lead64_c _ _ hy0 h2).mono ?_; rintro e w' ⟨rfl, rfl⟩; rw [HS.out])
 go_loop [15, 16] (fun u v => ∃ a b : Int, Dig n y1 q a b ∧ u = .int .u64 a ∧ v = .int .u64 b) (fun u _ => (intOf u).toNat)
 case atStart => exact ⟨_, _, dig_start HD1.out, rfl, rfl⟩
 case round =>
  obtain ⟨a, b, hD, rfl, rfl⟩ := hrel
  have HDD : Hid (Dig n y1 q a b) := hD
  obtain ⟨g1, g2, g3, g4, g5⟩ := hD
  clear g3
  by_cases ca : 4294967296 ≤ a
  ·have ht : Hid (4294967296 ≤ a ∨ 4294967296 * b + d1 < a * y0) := Or.inl ca
   have g6 := dig_more HD1.out HDD.out ht.out
   by_cases cb : 4294967296 ≤ b + y1
   ·have ea := dig_break HD1.out HDD.out ht.out cb
    go_wp2
    clear HDD HD1
    go_loop [18, 16] (fun u v => ∃ a b : Int, Dig m y1 p a b ∧ u = .int .u64 a ∧ v = .int .u64 b) (fun u _ => (intOf u).toNat)
    case atStart => exact ⟨_, _, dig_start HD0.out, rfl, rfl⟩
    case round =>
     obtain ⟨a2, b2, hD2, rfl, rfl⟩ := hrel
     have HDE : Hid (Dig m y1 p a2 b2) := hD2
     obtain ⟨k1, k2, k3, k4, k5⟩ := hD2
     clear k3
     by_cases ca2 : 4294967296 ≤ a2
     ·have hu : Hid (4294967296 ≤ a2 ∨ 4294967296 * b2 + d0 < a2 * y0) := Or.inl ca2
      have g7 := dig_more HD0.out HDE.out hu.out
      by_cases cb2 : 4294967296 ≤ b2 + y1
      ·have eb := dig_break HD0.out HDE.out hu.out cb2
       go_wp2
       go_ret2
       exact ⟨_, 0, ret_ii HA.out.symm rfl, rfl⟩
      ·go_wp2
       go_round
       case rel => exact ⟨_, _, dig_on HD0.out HDE.out hu.out (by omega), rfl, rfl⟩
       case measure => simp [intOf]; omega
     ·have u0 : 0 ≤ a2 * y0 := Int.mul_nonneg (by omega) hy0'
      have u1 : a2 * y0 ≤ 4294967295 * 4294967295 := Int.mul_le_mul (by omega) (by omega) hy0' (by omega)
      by_cases cc2 : 4294967296 * b2 + d0 < a2 * y0
      ·have hu : Hid (4294967296 ≤ a2 ∨ 4294967296 * b2 + d0 < a2 * y0) := Or.inr cc2
       have g7 := dig_more HD0.out HDE.out hu.out
       by_cases cb2 : 4294967296 ≤ b2 + y1
       ·have eb := dig_break HD0.out HDE.out hu.out cb2
        go_wp2
        go_ret2
        exact ⟨_, 0, ret_ii HA.out.symm rfl, rfl⟩
       ·go_wp2
        go_round
        case rel => exact ⟨_, _, dig_on HD0.out HDE.out hu.out (by omega), rfl, rfl⟩
        case measure => simp [intOf]; omega
      ·have eb := dig_end HD0.out HDE.out (by omega)
       subst eb
       go_wp2
       go_ret2
       exact ⟨_, 0, ret_ii HA.out.symm rfl, rfl⟩
   ·go_wp2
    go_round
    case rel => exact ⟨_, _, dig_on HD1.out HDD.out ht.out (by omega), rfl, rfl⟩
    case measure => simp [intOf]; omega
  ·have s0 : 0 ≤ a * y0 := Int.mul_nonneg (by omega) hy0'
   have s1 : a * y0 ≤ 4294967295 * 4294967295 := Int.mul_le_mul (by omega) (by omega) hy0' (by omega)
   by_cases cc : 4294967296 * b + d1 < a * y0
   ·have ht : Hid (4294967296 ≤ a ∨ 4294967296 * b + d1 < a * y0) := Or.inr cc
    have g6 := dig_more HD1.out HDD.out ht.out
    by_cases cb : 4294967296 ≤ b + y1
    ·have ea := dig_break HD1.out HDD.out ht.out cb
     go_wp2
     clear HDD HD1
     go_loop [18, 16] (fun u v => ∃ a b : Int, Dig m y1 p a b ∧ u = .int .u64 a ∧ v = .int .u64 b) (fun u _ => (intOf u).toNat)
     case atStart => exact ⟨_, _, dig_start HD0.out, rfl, rfl⟩
     case round =>
      obtain ⟨a2, b2, hD2, rfl, rfl⟩ := hrel
      have HDE : Hid (Dig m y1 p a2 b2) := hD2
      obtain ⟨k1, k2, k3, k4, k5⟩ := hD2
      clear k3
      by_cases ca2 : 4294967296 ≤ a2
      ·have hu : Hid (4294967296 ≤ a2 ∨ 4294967296 * b2 + d0 < a2 * y0) := Or.inl ca2
       have g7 := dig_more HD0.out HDE.out hu.out
       by_cases cb2 : 4294967296 ≤ b2 + y1
       ·have eb := dig_break HD0.out HDE.out hu.out cb2
        go_wp2
        go_ret2
        exact ⟨_, 0, ret_ii HA.out.symm rfl, rfl⟩
       ·go_wp2
        go_round
        case rel => exact ⟨_, _, dig_on HD0.out HDE.out hu.out (by omega), rfl, rfl⟩
        case measure => simp [intOf]; omega
      ·have u0 : 0 ≤ a2 * y0 := Int.mul_nonneg (by omega) hy0'
       have u1 : a2 * y0 ≤ 4294967295 * 4294967295 := Int.mul_le_mul (by omega) (by omega) hy0' (by omega)
       by_cases cc2 : 4294967296 * b2 + d0 < a2 * y0
       ·have hu : Hid (4294967296 ≤ a2 ∨ 4294967296 * b2 + d0 < a2 * y0) := Or.inr cc2
        have g7 := dig_more HD0.out HDE.out hu.out
        by_cases cb2 : 4294967296 ≤ b2 + y1
        ·have eb := dig_break HD0.out HDE.out hu.out cb2
         go_wp2
         go_ret2
         exact ⟨_, 0, ret_ii HA.out.symm rfl, rfl⟩
        ·go_wp2
         go_round
         case rel => exact ⟨_, _, dig_on HD0.out HDE.out hu.out (by omega), rfl, rfl⟩
         case measure => simp [intOf]; omega
       ·have eb := dig_end HD0.out HDE.out (by omega)
        subst eb
        go_wp2
        go_ret2
        exact ⟨_, 0, ret_ii HA.out.symm rfl, rfl⟩
    ·go_wp2
     go_round
     case rel => exact ⟨_, _, dig_on HD1.out HDD.out ht.out (by omega), rfl, rfl⟩
     case measure => simp [intOf]; omega
   ·have ea := dig_end HD1.out HDD.out (by omega)
    subst ea
    go_wp2
    clear HDD HD1
    go_loop [18, 16] (fun u v => ∃ a b : Int, Dig m y1 p a b ∧ u = .int .u64 a ∧ v = .int .u64 b) (fun u _ => (intOf u).toNat)
    case atStart => exact ⟨_, _, dig_start HD0.out, rfl, rfl⟩
    case round =>
     obtain ⟨a2, b2, hD2, rfl, rfl⟩ := hrel
     have HDE : Hid (Dig m y1 p a2 b2) := hD2
     obtain ⟨k1, k2, k3, k4, k5⟩ := hD2
     clear k3
     by_cases ca2 : 4294967296 ≤ a2
     ·have hu : Hid (4294967296 ≤ a2 ∨ 4294967296 * b2 + d0 < a2 * y0) := Or.inl ca2
      have g7 := dig_more HD0.out HDE.out hu.out
      by_cases cb2 : 4294967296 ≤ b2 + y1
      ·have eb := dig_break HD0.out HDE.out hu.out cb2
       go_wp2
       go_ret2
       exact ⟨_, 0, ret_ii HA.out.symm rfl, rfl⟩
      ·go_wp2
       go_round
       case rel => exact ⟨_, _, dig_on HD0.out HDE.out hu.out (by omega), rfl, rfl⟩
       case measure => simp [intOf]; omega
     ·have u0 : 0 ≤ a2 * y0 := Int.mul_nonneg (by omega) hy0'
      have u1 : a2 * y0 ≤ 4294967295 * 4294967295 := Int.mul_le_mul (by omega) (by omega) hy0' (by omega)
      by_cases cc2 : 4294967296 * b2 + d0 < a2 * y0
      ·have hu : Hid (4294967296 ≤ a2 ∨ 4294967296 * b2 + d0 < a2 * y0) := Or.inr cc2
       have g7 := dig_more HD0.out HDE.out hu.out
       by_cases cb2 : 4294967296 ≤ b2 + y1
       ·have eb := dig_break HD0.out HDE.out hu.out cb2
        go_wp2
        go_ret2
        exact ⟨_, 0, ret_ii HA.out.symm rfl, rfl⟩
       ·go_wp2
        go_round
        case rel => exact ⟨_, _, dig_on HD0.out HDE.out hu.out (by omega), rfl, rfl⟩
        case measure => simp [intOf]; omega
      ·have eb := dig_end HD0.out HDE.out (by omega)
       subst eb
       go_wp2
       go_ret2
       exact ⟨_, 0, ret_ii HA.out.symm rfl, rfl⟩
end Go.Proofs.YtjhcejmfiekjgaaGreat.Fx
/- Contracts: quotients, parts. -/
namespace Go.Proofs.YtjhcejmfiekjgaaGreat.Fx
open Go.ChangeShapes Go.WideShapes Go.ChangeAt Go.RowKit
set_option linter.unusedVariables false
theorem div64_small (lo y : Int) (w : World) (h0 : 0 ≤ lo) (h1 : 0 < y) (h2 : y ≤ 18446744073709551615) (h4 : lo ≤ 18446744073709551615) :
  Calls Tryz.prog 69 #[.int .u64 0, .int .u64 lo, .int .u64 y] w (QuoR ((0 * 18446744073709551616 + lo) / y) w) := by
 have e : (0 * 18446744073709551616 + lo) = lo := by omega
 rw [e]
 clear e
 have hy : 1 ≤ y := by omega
 go_enter Tryz.func69, Tryz.ntmps69
 go_wp2
 go_quiet (fail)
 go_wp2
 go_ret2
 exact ⟨_, _, rfl, rfl⟩
theorem div64_c (hi lo y : Int) (w : World) (h0 : 0 ≤ hi) (h1 : hi < y) (h2 : y ≤ 18446744073709551615) (h3 : 0 ≤ lo) (h4 : lo ≤ 18446744073709551615) :
  Calls Tryz.prog 69 #[.int .u64 hi, .int .u64 lo, .int .u64 y] w (QuoR ((hi * 18446744073709551616 + lo) / y) w) := by
 by_cases c : hi = 0
 ·subst c; exact div64_small lo y w h3 h1 h2 h4
 ·exact div64_big hi lo y w h0 h1 h2 h3 h4 (by omega)
theorem scaled_eq (x : Int) : x / 4294967296 * 18446744073709551616 + x % 4294967296 * 4294967296 = x * 4294967296 := by omega
theorem quo_bd {x d : Int} (h0 : 0 ≤ x) (h : x / 4294967296 < d) : 0 ≤ x * 4294967296 / d ∧ x * 4294967296 / d ≤ 18446744073709551615 := by
 have h1 : 0 ≤ x / 4294967296 := by omega
 refine ⟨Int.ediv_nonneg (by omega) (by omega), ?_⟩
 have : x * 4294967296 / d < 18446744073709551616 := Int.ediv_lt_of_lt_mul (by omega) (by omega)
 omega
theorem quo_big {x d : Int} (hd : 0 < d) (h : d ≤ x / 4294967296) : 9223372036854775807 ≤ x * 4294967296 / d := by
 exact (Int.le_ediv_iff_mul_le hd).2 (by omega)
theorem div_c (a b : Int) (w : World) (ha : I64 a) (hb : I64 b) :
  Calls Tryz.prog 29 #[.int .i64 a, .int .i64 b] w (Ret (.int .i64 (divF a b)) w) := by
 have hx := absF_bd ha
 have hy := absF_bd hb
 unfold M at hx hy
 obtain ⟨hx0, hx1⟩ := hx
 obtain ⟨hy0, hy1⟩ := hy
 have HF : Hid (divF a b = if a = 0 then 0 else signF (if absF b = 0 then 9223372036854775807 else absF a * 4294967296 / absF b) (decide (a < 0) != decide (b < 0))) := rfl
 by_cases c0 : a = 0
 ·have HZ : Hid (divF a b = 0) := by rw [HF.out, if_pos c0]; exact rfl
  have c0' : (a == 0) = true := by simp [c0]
  clear c0
  go_enter Tryz.func29, Tryz.ntmps29
  go_wp2
  go_ret
  exact ⟨ret_i HZ.out.symm, 0, rfl⟩
 ·have c0' : (a == 0) = false := by simp [c0]
  have HN : Hid (¬ a = 0) := c0
  clear c0
  by_cases c1 : absF a / 4294967296 < absF b
  ·obtain ⟨k0, k1⟩ := quo_bd hx0 c1
   go_enter Tryz.func29, Tryz.ntmps29
   go_wp2_with (first | (go_at_call 68; refine (scaled_c _ _ ha).mono ?_; rintro e w' ⟨rfl, rfl⟩) | (go_at_call 31; refine (size_c _ _ hb).mono ?_; rintro e w' ⟨rfl, rfl⟩) | (go_at_call 69; fail) | (go_at_call 32; fail))
   refine (div64_c _ _ _ _ (by omega) c1 (by omega) (by omega) (by omega)).mono ?_
   rintro e w' ⟨r, k, rfl, rfl⟩
   rw [scaled_eq]
   go_wp2_with (go_at_call 32; fail)
   refine (signed_c _ _ _ k0 k1).mono ?_
   rintro e w' ⟨rfl, rfl⟩
   go_wp2
   go_ret
   exact ⟨ret_i (by rw [HF.out, if_neg HN.out, if_neg (by omega)]; rfl), k, rfl⟩
  ·go_enter Tryz.func29, Tryz.ntmps29
   go_wp2_with (first | (go_at_call 68; refine (scaled_c _ _ ha).mono ?_; rintro e w' ⟨rfl, rfl⟩) | (go_at_call 31; refine (size_c _ _ hb).mono ?_; rintro e w' ⟨rfl, rfl⟩) | (go_at_call 69; fail) | (go_at_call 32; fail))
   refine (signed_c _ _ _ (by omega) (by omega)).mono ?_
   rintro e w' ⟨rfl, rfl⟩
   go_wp2
   go_ret
   refine ⟨ret_i ?_, 0, rfl⟩
   rw [HF.out, if_neg HN.out]
   split
   ·rfl
   ·rw [signF_big _ _ (quo_big (by omega) (by omega))]; rfl
theorem part_c (a b : Int) (w : World) (ha : I64 a) (hb : I64 b) :
  Calls Tryz.prog 13 #[.int .i64 a, .int .i64 b] w (Ret (.int .i64 (partF a b)) w) := by
 have h1 := I64_of a
 have h2 := I64_of b
 go_enter Tryz.func13, Tryz.ntmps13
 go_wp2_with fail
 refine (of_c _ _ ha).mono ?_
 rintro e w' ⟨rfl, rfl⟩
 go_wp2_with fail
 refine (of_c _ _ hb).mono ?_
 rintro e w' ⟨rfl, rfl⟩
 go_wp2_with fail
 refine (div_c _ _ _ h1 h2).mono ?_
 rintro e w' ⟨rfl, k, rfl⟩
 go_wp2
 go_ret
 exact ⟨ret_i rfl, k, rfl⟩
end Go.Proofs.YtjhcejmfiekjgaaGreat.Fx
/- Contracts: roots. -/
namespace Go.Proofs.YtjhcejmfiekjgaaGreat.Fx
open Go.ChangeShapes Go.WideShapes Go.ChangeAt Go.RowKit
set_option linter.unusedVariables false
def Rt (P S : Int) (k : Nat) (r t : Int) : Prop := k ≤ 48 ∧ 0 ≤ r ∧ r % 2 ^ k = 0 ∧ r + 2 ^ k ≤ 281474976710656 ∧ t = 2 ^ k / 2 ∧ sqAux P k r = S
theorem rt_start (P : Int) : Rt P (sqAux P 48 0) 48 0 140737488355328 := by
 refine ⟨by omega, by omega, by decide, by decide, by decide, rfl⟩
theorem two_pow_pos (k : Nat) : (0 : Int) < 2 ^ k := Int.pow_pos (by omega)
theorem rt_zero {P S : Int} {k : Nat} {r t : Int} (h : Rt P S k r t) (ht : t ≤ 0) : r = S := by
 obtain ⟨h1, h2, h3, h4, h5, h6⟩ := h
 cases k with
 | zero => simpa [sqAux] using h6
 | succ k => have := two_pow_pos k; rw [Int.pow_succ] at h5; omega
theorem rt_bd {P S : Int} {k : Nat} {r t : Int} (h : Rt P S k r t) (ht : 0 < t) : 0 ≤ r ∧ r + t + t ≤ 281474976710656 ∧ t ≤ 140737488355328 := by
 obtain ⟨h1, h2, h3, h4, h5, h6⟩ := h
 cases k with
 | zero => simp at h5; omega
 | succ k => have := two_pow_pos k; rw [Int.pow_succ] at h5 h4; omega
theorem rt_or {P S : Int} {k : Nat} {r t : Int} (h : Rt P S k r t) (ht : 0 < t) : bits .or .u64 r t = r + t := by
 obtain ⟨g1, g2, g3⟩ := rt_bd h ht
 obtain ⟨h1, h2, h3, h4, h5, h6⟩ := h
 cases k with
 | zero => simp at h5; omega
 | succ k =>
  have hp := two_pow_pos k
  have ht2 : t = 2 ^ k := by rw [Int.pow_succ] at h5; omega
  obtain ⟨n, rfl⟩ := Int.eq_ofNat_of_zero_le h2
  have e : (2 : Int) ^ (k + 1) = ((2 ^ (k + 1) : Nat) : Int) := by simp
  rw [e] at h3
  have h3' : n % 2 ^ (k + 1) = 0 := by omega
  have hdvd := Nat.div_add_mod n (2 ^ (k + 1))
  rw [h3'] at hdvd
  have ht3 : t = ((2 ^ k : Nat) : Int) := by rw [ht2]; simp
  have hlt : (2 : Nat) ^ k < 2 ^ (k + 1) := by rw [Nat.pow_succ]; have : 0 < 2 ^ k := Nat.pow_pos (by omega); omega
  have ho := Nat.two_pow_add_eq_or_of_lt hlt (n / 2 ^ (k + 1))
  have hb := bits_or_u64_nat n (2 ^ k) (by omega) (by omega)
  rw [ht3, hb]
  have : n ||| 2 ^ k = n + 2 ^ k := by
   rw [Nat.add_zero] at hdvd
   rw [hdvd] at ho; omega
  rw [this]; omega
theorem rt_step {P S : Int} {k : Nat} {r t : Int} (h : Rt P S k r t) (ht : 0 < t) :
  Rt P S (k - 1) (if (r + t) * (r + t) ≤ P then r + t else r) (t / 2) := by
 obtain ⟨h1, h2, h3, h4, h5, h6⟩ := h
 cases k with
 | zero => simp at h5; omega
 | succ k =>
  have hp := two_pow_pos k
  have ht2 : t = 2 ^ k := by rw [Int.pow_succ] at h5; omega
  subst ht2
  rw [sqAux] at h6
  rw [Int.pow_succ] at h3 h4
  have h3' : r % 2 ^ k = 0 := by
   have := Int.emod_emod_of_dvd r (Int.dvd_mul_right (2 ^ k) 2)
   rw [h3] at this; simpa using this.symm
  split
  ·rename_i hc
   rw [if_pos hc] at h6
   exact ⟨by omega, by omega, by simp [h3'], by simp; omega, rfl, h6⟩
  ·rename_i hc
   rw [if_neg hc] at h6
   exact ⟨by omega, by omega, by simp [h3'], by simp; omega, rfl, h6⟩
theorem sqrt_c (a : Int) (w : World) (ha : I64 a) :
  Calls Tryz.prog 35 #[.int .i64 a] w fun e w' => e = .returned (.int .i64 (sqrtF a)) ∧ w = w' := by
 by_cases c0 : a ≤ 0
 ·have HZ : Hid (sqrtF a = 0) := by unfold Hid sqrtF; rw [if_pos c0]
  go_enter Tryz.func35, Tryz.ntmps35
  go_wp2
  go_ret
  exact ⟨ret_i HZ.out.symm, rfl⟩
 ·have hab : absF a = a := by unfold absF; rw [if_neg (by omega)]
  have HF : Hid (sqrtF a = sqAux (a * 4294967296) 48 0) := by unfold Hid sqrtF; rw [if_neg c0]
  have h1 : a ≤ 9223372036854775807 := ha.2
  have hsc := scaled_c a w ha
  rw [hab] at hsc
  have HS := hsc
  clear hab
  go_enter Tryz.func35, Tryz.ntmps35
  go_wp2_with (go_at_call 68; refine hsc.mono ?_; rintro e w' ⟨rfl, rfl⟩)
  clear hsc HS
  go_loop [5, 6] (fun u v => ∃ (k : Nat) (r t : Int), Rt (a * 4294967296) (sqAux (a * 4294967296) 48 0) k r t ∧ u = .int .u64 r ∧ v = .int .u64 t) (fun _ v => (intOf v).toNat)
  case atStart => exact ⟨48, _, _, rt_start _, rfl, rfl⟩
  case round =>
   obtain ⟨k, r, t, hR, rfl, rfl⟩ := hrel
   have HR : Hid (Rt (a * 4294967296) (sqAux (a * 4294967296) 48 0) k r t) := hR
   clear hR
   by_cases ct : 0 < t
   ·obtain ⟨g1, g2, g3⟩ := rt_bd HR.out ct
    have eo := rt_or HR.out ct
    have HN := rt_step HR.out ct
    have HN' : Hid (Rt (a * 4294967296) (sqAux (a * 4294967296) 48 0) (k - 1) (if (r + t) * (r + t) ≤ a * 4294967296 then r + t else r) (t / 2)) := HN
    clear HN
    have q0 : 0 ≤ r + t := by omega
    have q1 : r + t ≤ 18446744073709551615 := by omega
    have x0 : 0 ≤ (r + t) * (r + t) := Int.mul_nonneg q0 q0
    by_cases c1 : (r + t) * (r + t) / 18446744073709551616 < a / 4294967296
    ·go_wp2_with (go_at_call 30; refine (mul64_c _ _ _ q0 q1 q0 q1).mono ?_; rintro e w' ⟨rfl, rfl⟩)
     go_round
     case rel => exact ⟨k - 1, r + t, t / 2, by have := HN'.out; rw [if_pos (by omega)] at this; exact this, rfl, rfl⟩
     case measure => simp [intOf]; omega
    ·by_cases c2 : (r + t) * (r + t) / 18446744073709551616 = a / 4294967296
     ·have c2' : ((r + t) * (r + t) / 18446744073709551616 == a / 4294967296) = true := by simp [c2]
      have HC2 : Hid ((r + t) * (r + t) / 18446744073709551616 = a / 4294967296) := c2
      clear c2
      by_cases c3 : (r + t) * (r + t) % 18446744073709551616 ≤ a % 4294967296 * 4294967296
      ·go_wp2_with (go_at_call 30; refine (mul64_c _ _ _ q0 q1 q0 q1).mono ?_; rintro e w' ⟨rfl, rfl⟩)
       go_round
       case rel => exact ⟨k - 1, r + t, t / 2, by have := HN'.out; have := HC2.out; rw [if_pos (by omega)] at *; assumption, rfl, rfl⟩
       case measure => simp [intOf]; omega
      ·go_wp2_with (go_at_call 30; refine (mul64_c _ _ _ q0 q1 q0 q1).mono ?_; rintro e w' ⟨rfl, rfl⟩)
       go_round
       case rel => exact ⟨k - 1, r, t / 2, by have := HN'.out; have := HC2.out; rw [if_neg (by omega)] at *; assumption, rfl, rfl⟩
       case measure => simp [intOf]; omega
     ·have c2' : ((r + t) * (r + t) / 18446744073709551616 == a / 4294967296) = false := by simp [c2]
      go_wp2_with (go_at_call 30; refine (mul64_c _ _ _ q0 q1 q0 q1).mono ?_; rintro e w' ⟨rfl, rfl⟩)
      go_round
      case rel => exact ⟨k - 1, r, t / 2, by have := HN'.out; rw [if_neg (by omega)] at this; exact this, rfl, rfl⟩
      case measure => simp [intOf]; omega
   ·have er : Hid (r = sqAux (a * 4294967296) 48 0) := rt_zero HR.out (by omega)
    have hb : 0 ≤ r ∧ r ≤ 281474976710656 := ⟨HR.out.2.1, by have := HR.out.2.2.2.1; have := two_pow_pos k; omega⟩
    obtain ⟨hb0, hb1⟩ := hb
    have ht0 : t = 0 := by have := HR.out.2.2.2.2.1; have := two_pow_pos k; omega
    subst ht0
    go_wp2
    go_ret
    exact ⟨ret_i (by rw [HF.out]; exact er.out), rfl⟩
end Go.Proofs.YtjhcejmfiekjgaaGreat.Fx
/- Sum: its contract (any number of numbers), and of three. -/
namespace Go.Proofs.YtjhcejmfiekjgaaGreat.Fx
open Go.ChangeShapes Go.WideShapes Go.ChangeAt Go.RowKit
set_option linter.unusedVariables false
theorem rgI {a : Int} (h : Rg a) : I64 a := by unfold Rg I64 at *; omega
def sumL (zs : List Int) : Int := zs.foldl addF 0
theorem sumL_bd (zs : List Int) : Rg (sumL zs) := by
 have key : ∀ (l : List Int) (x : Int), Rg x → Rg (l.foldl addF x) := by
  intro l
  induction l with
  | nil => intro x h; exact h
  | cons a l ih => intro x _; exact ih _ (sat_bd _)
 exact key zs 0 (by unfold Rg; omega)
theorem sumL_step (zs : List Int) (k : Nat) (hk : k < zs.length) : sumL (zs.take (k + 1)) = addF (sumL (zs.take k)) (zs.getD k 0) := by
 unfold sumL
 rw [List.take_add_one, List.foldl_append]
 simp [List.getD, List.getElem?_eq_getElem hk]
theorem sum_c (b off len cap : Nat) (zs : List Int) (w : World) (hz : len ≤ zs.length) (hbig : len ≤ 9223372036854775807) (hw : ∀ n ∈ zs, I64 n)
  (hc : Hid (∀ j, j < zs.length → w.cell? ⟨b, off + j, none⟩ = some (.int .i64 (zs.getD j 0)))) :
  Calls Tryz.prog 103 #[.slice (some ⟨b, off, none⟩) len cap] w fun e w' => e = .returned (.int .i64 (sumL (zs.take len))) ∧ w = w' := by
 have HW : Hid (∀ n ∈ zs, I64 n) := hw
 clear hw
 go_enter Tryz.func103, Tryz.ntmps103
 go_wp2
 go_loop [3, 8] (fun t i => ∃ k : Nat, k ≤ len ∧ i = .int .i64 k ∧ t = .int .i64 (sumL (zs.take k))) (fun _ i => len - (intOf i).toNat)
 case atStart => exact ⟨0, Nat.zero_le _, rfl, rfl⟩
 case round =>
  obtain ⟨k, hk, rfl, rfl⟩ := hrel
  by_cases hlt : k < len
  ·have hS : Hid _ := sumL_step zs k (by omega)
   have hcell := hc.out k (by omega)
   have iz : I64 (zs.getD k 0) := by
    have hm : zs.getD k 0 ∈ zs := by
     rw [List.getD_eq_getElem?_getD, List.getElem?_eq_getElem (by omega)]; exact List.getElem_mem _
    exact HW.out _ hm
   generalize zs.getD k 0 = z at *
   have is := rgI (sumL_bd (zs.take k))
   go_wp2_with (go_at_call 26; refine (add_c _ z _ is iz).mono ?_; rintro e w' ⟨rfl, rfl⟩)
   go_round
   case rel => exact ⟨k + 1, by omega, by go_num, by rw [hS.out]⟩
   case measure => simp [intOf]; omega
  ·go_wp2
   go_ret
   have : k = len := by omega
   subst this
   exact ⟨rfl, rfl⟩
theorem sum_zero {u : Int} (h : Rg u) : addF 0 u = u := by
 unfold addF
 rw [show cl 0 = 0 by unfold cl; omega]
 unfold Rg at h
 unfold cl sat
 omega
theorem sum3_is (g cap : Nat) (u v z : Int) (w : World) (hu : Rg u) (hv : Rg v) (hz : Rg z) (c0 : w.cell? ⟨g, 0, none⟩ = some (.int .i64 u)) (c1 : w.cell? ⟨g, 1, none⟩ = some (.int .i64 v)) (c2 : w.cell? ⟨g, 2, none⟩ = some (.int .i64 z)) (d : Int) (hd : addF (addF u v) z = d) :
  Calls Tryz.prog 103 #[.slice (some ⟨g, 0, none⟩) 3 cap] w fun e w' => e = .returned (.int .i64 d) ∧ w = w' := by
 have hc : Hid (∀ j, j < [u, v, z].length → w.cell? ⟨g, 0 + j, none⟩ = some (.int .i64 ([u, v, z].getD j 0))) := by
  intro j hj
  rcases (show j = 0 ∨ j = 1 ∨ j = 2 by simp at hj; omega) with rfl | rfl | rfl
  ·exact c0
  ·exact c1
  ·exact c2
 have := sum_c g 0 3 cap [u, v, z] w (by simp) (by omega) (by
  intro n hn
  rcases (show n = u ∨ n = v ∨ n = z by simpa using hn) with rfl | rfl | rfl <;> exact rgI (by assumption)) hc
 rw [show sumL ([u, v, z].take 3) = d by rw [← hd]; show addF (addF (addF 0 u) v) z = _; rw [sum_zero hu]] at this
 exact this
end Go.Proofs.YtjhcejmfiekjgaaGreat.Fx