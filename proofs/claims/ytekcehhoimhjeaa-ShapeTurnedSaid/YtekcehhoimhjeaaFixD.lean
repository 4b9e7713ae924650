/- Contracts: numbers of bits. -/
import Derived.Test.YtekcehhoimhjeaaFixA
import Derived.Lib.Strings
import Derived.Lib.Slices
import Derived.Lib.Small
import Derived.Lib.Walk
import Derived.Lib.BitFns
namespace Go.Proofs.Ytekcehhoimhjeaa.Fx
open Go.ChangeShapes Go.WideShapes Go.ChangeAt Go.RowKit
set_option linter.unusedVariables false

theorem tab_size : Lib.len8tab.size = 256 := by decide +kernel
theorem tab_all : ∀ n : Fin 256, (Lib.len8tab[n.val]'(by rw [tab_size]; exact n.isLt)).toNat = Lib.bitLen n.val := by decide +kernel
theorem tab_get (i : Nat) (h : i < Lib.len8tab.size) : (Lib.len8tab[i]'h).toNat = Lib.bitLen i :=
  tab_all ⟨i, by rw [← tab_size]; exact h⟩
theorem len_le (i : Nat) (h : i < 256) : Lib.bitLen i ≤ 8 := Lib.bitLen_le i 8 (by omega) (by omega)
theorem close0 (x : Int) (h0 : 0 ≤ x) (h1 : x < 256) : wrap64 (wrap64 (Lib.bitLen x.toNat : Int)) = Lib.bitLen x.toNat := by
  have := len_le x.toNat (by omega); unfold wrap64; omega
theorem closeK (x y : Int) (k d : Nat) (h0 : 0 ≤ y) (h1 : y < 256) (hk : k ≤ 56) (e : Lib.bitLen x.toNat = k + Lib.bitLen (x.toNat / d)) (hy : y.toNat = x.toNat / d) :
    wrap64 ((k : Int) + wrap64 (Lib.bitLen y.toNat : Int)) = Lib.bitLen x.toNat := by
  have := len_le y.toNat (by omega); rw [e, ← hy]; unfold wrap64; omega
set_option maxHeartbeats 4000000 in
set_option maxRecDepth 100000 in
theorem len64_c (x : Int) (w : World) (h0 : 0 ≤ x) (h1 : x ≤ 18446744073709551615) :
    Calls Try.prog 52 #[.int .u64 x] w fun e w' => e = .returned (.int .i64 (Lib.bitLen x.toNat)) ∧ w = w' := by
  have hs : 256 ≤ (Lib.len8tab.size : Int) := by rw [tab_size]; decide
  go_enter Try.func52, Try.ntmps52
  go_wp2
  all_goals (go_ret; refine ⟨ret_i ?_, rfl⟩; simp only [tab_get])
  · exact closeK x _ 56 72057594037927936 (by omega) (by omega) (by omega) (Lib.bitLen_shift56 _ (by omega) (by omega)) (by omega)
  · exact closeK x _ 48 281474976710656 (by omega) (by omega) (by omega) (Lib.bitLen_shift48 _ (by omega) (by omega)) (by omega)
  · exact closeK x _ 40 1099511627776 (by omega) (by omega) (by omega) (Lib.bitLen_shift40 _ (by omega) (by omega)) (by omega)
  · exact closeK x _ 32 4294967296 (by omega) (by omega) (by omega) (Lib.bitLen_shift32 _ (by omega) (by omega)) (by omega)
  · exact closeK x _ 24 16777216 (by omega) (by omega) (by omega) (Lib.bitLen_shift24 _ (by omega) (by omega)) (by omega)
  · exact closeK x _ 16 65536 (by omega) (by omega) (by omega) (Lib.bitLen_shift16 _ (by omega) (by omega)) (by omega)
  · exact closeK x _ 8 256 (by omega) (by omega) (by omega) (Lib.bitLen_shift8 _ (by omega) (by omega)) (by omega)
  · exact close0 x (by omega) (by omega)
set_option maxHeartbeats 400000 in
theorem lead64_c (x : Int) (w : World) (h0 : 0 ≤ x) (h1 : x ≤ 18446744073709551615) :
    Calls Try.prog 51 #[.int .u64 x] w fun e w' => e = .returned (.int .i64 (64 - (Lib.bitLen x.toNat : Int))) ∧ w = w' := by
  have l : Lib.bitLen x.toNat ≤ 64 := Lib.bitLen_le x.toNat 64 (by omega) (by omega)
  go_enter Try.func51, Try.ntmps51
  go_wp2_with (go_at_call 52; refine (len64_c _ _ h0 h1).mono ?_; rintro e w' ⟨rfl, rfl⟩)
  go_ret
  exact ⟨ret_i rfl, rfl⟩
end Go.Proofs.Ytekcehhoimhjeaa.Fx
