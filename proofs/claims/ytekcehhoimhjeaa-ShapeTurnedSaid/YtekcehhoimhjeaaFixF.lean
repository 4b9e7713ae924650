/- Contracts: quotients of two words. -/
import Derived.Test.YtekcehhoimhjeaaFixC
import Derived.Test.YtekcehhoimhjeaaFixD
import Derived.Test.YtekcehhoimhjeaaFixN
namespace Go.Proofs.Ytekcehhoimhjeaa.Fx
open Go.ChangeShapes Go.WideShapes Go.ChangeAt Go.RowKit
set_option linter.unusedVariables false

theorem or_split (a b s : Nat) (h : b < 2 ^ s) : a * 2 ^ s ||| b = a * 2 ^ s + b := by
  have := Nat.two_pow_add_eq_or_of_lt (i := s) (b := b) h a
  rw [Nat.mul_comm] at this; exact this.symm
/-- what the code makes of both words and the divisor -/
structure Norm (hi lo y : Int) (s : Nat) (Y y1 y0 n l d1 d0 q m p : Int) : Prop where
  eY : IntKind.u64.wrap (y * 2 ^ s) = Y
  e1 : Y / 4294967296 = y1
  e0 : bits .and .u64 Y 4294967295 = y0
  en : bits .or .u64 (IntKind.u64.wrap (hi * 2 ^ s)) (lo / 2 ^ (64 - s)) = n
  el : IntKind.u64.wrap (lo * 2 ^ s) = l
  f1 : l / 4294967296 = d1
  f0 : bits .and .u64 l 4294967295 = d0
  em : IntKind.u64.wrap (IntKind.u64.wrap (IntKind.u64.wrap (n * 4294967296) + d1) - IntKind.u64.wrap (q * Y)) = m
  Y0 : 9223372036854775808 ≤ Y
  Y1 : Y ≤ 18446744073709551615
  l0 : 0 ≤ l
  l1 : l ≤ 18446744073709551615
  Yn : Y = y1 * 4294967296 + y0
  P1 : DigP n d1 y1 y0 q
  P0 : DigP m d0 y1 y0 p
  all : (hi * 18446744073709551616 + lo) / y = q * 4294967296 + p
theorem maskI (a : Int) (h0 : 0 ≤ a) (h1 : a ≤ 18446744073709551615) : bits .and .u64 a 4294967295 = a % 4294967296 := by
  obtain ⟨n, rfl⟩ := Int.eq_ofNat_of_zero_le h0
  rw [maskN n (by omega)]; omega
theorem norm (hi lo y : Int) (h0 : 0 ≤ hi) (h1 : hi < y) (h2 : y ≤ 18446744073709551615) (h3 : 0 ≤ lo) (h4 : lo ≤ 18446744073709551615) (s : Nat) (hs : s = 64 - Lib.bitLen y.toNat) :
    ∃ Y y1 y0 n l d1 d0 q m p : Int, Norm hi lo y s Y y1 y0 n l d1 d0 q m p := by
  obtain ⟨hn, rfl⟩ := Int.eq_ofNat_of_zero_le h0
  obtain ⟨ln, rfl⟩ := Int.eq_ofNat_of_zero_le h3
  obtain ⟨yn, rfl⟩ := Int.eq_ofNat_of_zero_le (a := y) (by omega)
  rw [Int.toNat_natCast] at hs
  obtain ⟨a1, a2⟩ := norm_y yn s (by omega) (by omega) hs
  obtain ⟨b1, b2, b3⟩ := norm_u hn ln yn s (by omega) (by omega) (by omega)
  have hp : 0 < 2 ^ s := Nat.pow_pos (by omega)
  have c1 : (yn : Int) * 2 ^ s = ((yn * 2 ^ s : Nat) : Int) := by simp
  have c2 : (hn : Int) * 2 ^ s = ((hn * 2 ^ s : Nat) : Int) := by simp
  have c3 : (ln : Int) * 2 ^ s = ((ln * 2 ^ s : Nat) : Int) := by simp
  have c4 : (ln : Int) / 2 ^ (64 - s) = ((ln / 2 ^ (64 - s) : Nat) : Int) := by simp
  have hdiv : (hn * 18446744073709551616 + ln) / yn = ((hn * 2 ^ s + ln / 2 ^ (64 - s)) * 18446744073709551616 + ln * 2 ^ s % 18446744073709551616) / (yn * 2 ^ s) := by
    rw [b1, Nat.mul_div_mul_right _ _ hp]
  have hl : ln * 2 ^ s % 18446744073709551616 < 18446744073709551616 := Nat.mod_lt _ (by omega)
  have ho := or_split hn _ s b2
  generalize ln / 2 ^ (64 - s) = v at *
  have hor := bits_or_u64_nat (hn * 2 ^ s) v (by omega) (by omega)
  rw [ho] at hor
  rw [← c4] at hor
  have d1 : IntKind.u64.wrap ((yn : Int) * 2 ^ s) = ((yn * 2 ^ s : Nat) : Int) := by rw [c1, wrapN _ (by omega)]
  have d2 : IntKind.u64.wrap ((hn : Int) * 2 ^ s) = ((hn * 2 ^ s : Nat) : Int) := by rw [c2, wrapN _ (by omega)]
  have d3 : IntKind.u64.wrap ((ln : Int) * 2 ^ s) = ((ln * 2 ^ s % 18446744073709551616 : Nat) : Int) := by rw [c3, wrapM]
  rw [← d2] at hor
  generalize ln * 2 ^ s % 18446744073709551616 = l at *
  generalize hn * 2 ^ s + v = n at *
  generalize yn * 2 ^ s = Y at *
  clear b1 c1 c2 c3 ho d2 b2 hp
  have P1 : DigP (n : Int) ((l : Int) / 4294967296) ((Y : Int) / 4294967296) ((Y : Int) % 4294967296) (((n : Int) * 4294967296 + (l : Int) / 4294967296) / (Y : Int)) :=
    ⟨by omega, by omega, by omega, by omega, by omega, by omega, by omega, by omega, by rw [show (Y : Int) / 4294967296 * 4294967296 + (Y : Int) % 4294967296 = (Y : Int) by omega]⟩
  obtain ⟨k0, k1, k2, k3⟩ := dig_q P1
  rw [show (Y : Int) / 4294967296 * 4294967296 + (Y : Int) % 4294967296 = (Y : Int) by omega] at k2 k3
  generalize hq : ((n : Int) * 4294967296 + (l : Int) / 4294967296) / (Y : Int) = q at *
  refine ⟨Y, _, _, n, l, _, _, q, (n : Int) * 4294967296 + (l : Int) / 4294967296 - q * (Y : Int), _, d1, rfl, maskI _ (by omega) (by omega), hor, d3, rfl, maskI _ (by omega) (by omega), ?_, by omega, by omega, by omega, by omega, by omega, P1, ⟨by omega, by omega, by omega, by omega, by omega, by omega, by omega, by omega, rfl⟩, ?_⟩
  · simp only [IntKind.wrap_u64]; omega
  · rw [show (Y : Int) / 4294967296 * 4294967296 + (Y : Int) % 4294967296 = (Y : Int) by omega]
    have e := two_digits (n := n) (d1 := (l : Int) / 4294967296) (d0 := (l : Int) % 4294967296) (Y := Y) (q := q) (by omega) rfl rfl
    rw [← e, show (l : Int) / 4294967296 * 4294967296 + (l : Int) % 4294967296 = (l : Int) by omega]
    have := congrArg (fun x : Nat => (x : Int)) hdiv
    simpa using this
end Go.Proofs.Ytekcehhoimhjeaa.Fx
