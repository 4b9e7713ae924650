/- Contracts of package turn: angles, steps, sines. -/
import Derived.Test.YtggpchclfikneaaTurnA
import Derived.Test.YtggpchclfikneaaTurnP
import Derived.Test.YtggpchclfikneaaFixes
namespace Go.Proofs.Ytggpchclfikneaa.Fx
open Go.ChangeShapes Go.WideShapes Go.ChangeAt Go.RowKit
set_option linter.unusedVariables false

/-- the low bits of a number of whatever sign -/
theorem and_low (x : Int) (i : Nat) (hi : i ≤ 62) : bits .and .i64 x (2 ^ i - 1) = x % 2 ^ i := by
  have hpos : 0 < 2 ^ i := Nat.two_pow_pos i
  have hdvd : (2 : Nat) ^ i ∣ 2 ^ 64 := Nat.pow_dvd_pow 2 (by omega)
  have hle : (2 : Nat) ^ i ≤ 2 ^ 62 := Nat.pow_le_pow_right (by decide) hi
  have e1 : (BitVec.ofInt 64 ((2 : Int) ^ i - 1)).toNat = 2 ^ i - 1 := by
    have c : ((2 : Int) ^ i - 1) = ((2 ^ i - 1 : Nat) : Int) := by rw [Int.natCast_sub hpos]; simp
    rw [c, BitVec.ofInt_natCast, BitVec.toNat_ofNat, Nat.mod_eq_of_lt (by omega)]
  have e2 : ((BitVec.ofInt 64 x).toNat : Int) = x % 18446744073709551616 := by
    rw [BitVec.toNat_ofInt]; omega
  have hd2 : (2 : Int) ^ i ∣ 18446744073709551616 := by
    have t := Int.natCast_dvd_natCast.2 hdvd
    have e64 : ((2 ^ 64 : Nat) : Int) = 18446744073709551616 := by decide
    rw [e64, Int.natCast_pow] at t
    exact t
  unfold bits
  show IntKind.i64.wrap ((BitVec.ofInt 64 x &&& BitVec.ofInt 64 (2 ^ i - 1)).toNat : Int) = _
  rw [BitVec.toNat_and, e1, Nat.and_two_pow_sub_one_eq_mod, IntKind.wrap_i64]
  have h : (((BitVec.ofInt 64 x).toNat % 2 ^ i : Nat) : Int) = x % 2 ^ i := by
    rw [Int.natCast_emod, e2]
    have hp : (((2 : Nat) ^ i : Nat) : Int) = (2 : Int) ^ i := by rw [Int.natCast_pow]; rfl
    rw [hp]
    exact Int.emod_emod_of_dvd x hd2
  rw [h]
  have b0 : 0 ≤ x % 2 ^ i := Int.emod_nonneg _ (by have : (0:Int) < 2 ^ i := Int.pow_pos (by omega); omega)
  have b1 : x % 2 ^ i < 2 ^ i := Int.emod_lt_of_pos _ (Int.pow_pos (by omega))
  have b2 : (2 : Int) ^ i ≤ 4611686018427387904 := by
    have t := Int.ofNat_le.2 hle
    have e62 : ((2 ^ 62 : Nat) : Int) = 4611686018427387904 := by decide
    rw [e62, Int.natCast_pow] at t
    exact t
  omega
theorem and32 (x : Int) : bits .and .i64 x 4294967295 = x % 4294967296 := and_low x 32 (by omega)
theorem and22 (x : Int) : bits .and .i64 x 4194303 = x % 4194304 := and_low x 22 (by omega)
theorem and10 (x : Int) : bits .and .i64 x 1023 = x % 1024 := and_low x 10 (by omega)
theorem and8 (x : Int) : bits .and .i64 x 255 = x % 256 := and_low x 8 (by omega)
theorem bring_all {a : Int} (h : I64 a) : bringF a (-9223372036854775807) 9223372036854775807 = cl a := by
  have := cl_bd h
  unfold L M at this
  unfold bringF
  rw [show cl (-9223372036854775807) = -9223372036854775807 from by decide, show cl 9223372036854775807 = 9223372036854775807 from by decide]
  rw [if_neg (by omega), if_neg (by omega)]
theorem negF_tab (k : Int) : negF (tabF k) = -tabF k := by
  have := tabF_bd k; unfold negF cl; rw [if_neg (by omega)]
theorem I64_in {a : Int} (h0 : -9223372036854775808 ≤ a) (h1 : a ≤ 9223372036854775807) : I64 a := ⟨h0, h1⟩
theorem I64_tab (k : Int) : I64 (tabF k) := by have := tabF_bd k; unfold I64; omega
theorem sn_up (k : Int) (h : 512 < k) (h1 : k ≤ 1024) : negF (sn (k - 512)) = sn k := by
  unfold sn
  by_cases c : k ≤ 768
  · rw [if_pos (by omega), if_neg (by omega), if_neg (by omega), if_pos c, negF_tab]
  · rw [if_neg (by omega), if_pos (by omega), if_neg (by omega), if_neg (by omega), if_neg c, negF_tab]
    congr 2; omega
theorem I64_sn (k : Int) : I64 (sn k) := by have := sn_bd k; unfold I64; omega
theorem I64_cs (k : Int) : I64 (cs k) := I64_sn _
/-- a rotation as a value -/
abbrev rotV (c s : Int) : Value := .agg #[.int .i64 c, .int .i64 s]
theorem I64_wf {n : Int} (h : (Lit.int .i64 n).wf = true) : I64 n := bounds_i64 h
theorem I8_wf {n : Int} (h : (Lit.int .i8 n).wf = true) : -128 ≤ n ∧ n ≤ 127 := bounds_i8 h
theorem cl_id {a : Int} (h : -9223372036854775807 ≤ a) : cl a = a := by unfold cl; rw [if_neg (by omega)]
theorem stepF_at {a : Int} (h : -9223372036854775807 ≤ a) : stepF a = a % 4294967296 / 4194304 := by unfold stepF wrapF; rw [cl_id h]
end Go.Proofs.Ytggpchclfikneaa.Fx
