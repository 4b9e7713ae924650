/- The plain arithmetic of the schoolbook quotient: no Go in sight. -/
import Derived.Lib.BitFns
namespace Go.Proofs.Ytekcehhoimhjeaa.Fx
open Go

theorem bitLen_pos (z : Nat) (h0 : z ≠ 0) (h : z < 18446744073709551616) : 1 ≤ Lib.bitLen z := by
  have := Lib.bitLen_half z h0 h; omega
/-- a number of n bits: it lies between two powers -/
theorem bitLen_lo (y : Nat) (h0 : y ≠ 0) (h : y < 18446744073709551616) : 2 ^ (Lib.bitLen y - 1) ≤ y := by
  have h1 := bitLen_pos y h0 h
  have h2 := Lib.bitLen_le y 64 (by omega) (by omega)
  by_cases c : 2 ^ (Lib.bitLen y - 1) ≤ y
  · exact c
  · have := Lib.bitLen_le y (Lib.bitLen y - 1) (by omega) (by omega)
    omega
theorem bitLen_hi (y : Nat) (h : y < 18446744073709551616) : y < 2 ^ Lib.bitLen y := by
  by_cases c : 2 ^ Lib.bitLen y ≤ y
  · have e := Lib.bitLen_shift (Lib.bitLen y) y c h
    have hp : 0 < 2 ^ Lib.bitLen y := Nat.pow_pos (by omega)
    have h1 : 1 ≤ y / 2 ^ Lib.bitLen y := (Nat.le_div_iff_mul_le hp).2 (by omega)
    have h2 : y / 2 ^ Lib.bitLen y ≤ y := Nat.div_le_self _ _
    have := bitLen_pos (y / 2 ^ Lib.bitLen y) (by omega) (by omega)
    omega
  · omega
theorem pow_split (a b : Nat) (h : a + b = 64) : (2 : Nat) ^ a * 2 ^ b = 18446744073709551616 := by
  rw [← Nat.pow_add, h]
/-- the shift brings the highest bit to the top -/
theorem norm_y (y s : Nat) (h0 : y ≠ 0) (h : y < 18446744073709551616) (hs : s = 64 - Lib.bitLen y) :
    9223372036854775808 ≤ y * 2 ^ s ∧ y * 2 ^ s < 18446744073709551616 := by
  have h1 := bitLen_pos y h0 h
  have h2 := Lib.bitLen_le y 64 (by omega) (by omega)
  have lo := bitLen_lo y h0 h
  have hi := bitLen_hi y h
  have e1 := pow_split (Lib.bitLen y) s (by omega)
  have e2 : (2 : Nat) ^ (Lib.bitLen y - 1) * 2 ^ s = 9223372036854775808 := by
    rw [← Nat.pow_add, show Lib.bitLen y - 1 + s = 63 by omega]
  have hp : 0 < 2 ^ s := Nat.pow_pos (by omega)
  constructor
  · have := Nat.mul_le_mul_right (2 ^ s) lo; omega
  · have := Nat.mul_lt_mul_of_pos_right hi hp; omega
/-- both words, shifted -/
theorem norm_u (hi lo y s : Nat) (h0 : hi < y) (h : lo < 18446744073709551616) (hs : s ≤ 64) :
    (hi * 2 ^ s + lo / 2 ^ (64 - s)) * 18446744073709551616 + lo * 2 ^ s % 18446744073709551616 = (hi * 18446744073709551616 + lo) * 2 ^ s ∧
    lo / 2 ^ (64 - s) < 2 ^ s ∧ hi * 2 ^ s + lo / 2 ^ (64 - s) < y * 2 ^ s := by
  have e := pow_split s (64 - s) (by omega)
  have hp : 0 < 2 ^ s := Nat.pow_pos (by omega)
  have hp' : 0 < 2 ^ (64 - s) := Nat.pow_pos (by omega)
  generalize 2 ^ s = p at *
  generalize 2 ^ (64 - s) = p' at *
  have h1 : lo / p' < p := (Nat.div_lt_iff_lt_mul hp').2 (by omega)
  have h2 := Nat.div_add_mod lo p'
  have h3 : lo * p = lo / p' * 18446744073709551616 + lo % p' * p := by
    rw [← e]
    calc lo * p = (p' * (lo / p') + lo % p') * p := by rw [h2]
      _ = _ := by rw [Nat.add_mul, Nat.mul_comm p' (lo / p'), Nat.mul_assoc, Nat.mul_comm p' p]
  have h4 : lo % p' * p < 18446744073709551616 := by
    have := Nat.mul_lt_mul_of_pos_right (Nat.mod_lt lo hp') hp
    rw [Nat.mul_comm p' p, e] at this; exact this
  refine ⟨?_, h1, ?_⟩
  · have h5 : lo * p % 18446744073709551616 = lo % p' * p := by omega
    rw [h5, Nat.add_mul, Nat.add_mul, Nat.mul_right_comm hi p, h3]
    omega
  · have h6 : (hi + 1) * p ≤ y * p := Nat.mul_le_mul_right p (by omega)
    rw [Nat.add_mul] at h6; omega
/-- what one digit's loop keeps -/
def Dig (n y1 q a b : Int) : Prop := q ≤ a ∧ a ≤ 4294967297 ∧ a * y1 + b = n ∧ 0 ≤ b ∧ b < 4294967296
/-- what one digit is reckoned from -/
structure DigP (n d y1 y0 q : Int) : Prop where
  hn0 : 0 ≤ n
  hn : n < y1 * 4294967296 + y0
  hd0 : 0 ≤ d
  hd : d < 4294967296
  hy1 : 2147483648 ≤ y1
  hy2 : y1 < 4294967296
  hy0 : 0 ≤ y0
  hy3 : y0 < 4294967296
  hq : q = (n * 4294967296 + d) / (y1 * 4294967296 + y0)
theorem dig_q {n d y1 y0 q : Int} (P : DigP n d y1 y0 q) : 0 ≤ q ∧ q < 4294967296 ∧ q * (y1 * 4294967296 + y0) ≤ n * 4294967296 + d ∧ n * 4294967296 + d < q * (y1 * 4294967296 + y0) + (y1 * 4294967296 + y0) := by
  obtain ⟨hn0, hn, hd0, hd, hy1, hy2, hy0, hy3, hq⟩ := P
  have hY : 0 < y1 * 4294967296 + y0 := by omega
  subst hq
  generalize hYe : y1 * 4294967296 + y0 = Y at *
  have a1 := Int.ediv_nonneg (a := n * 4294967296 + d) (b := Y) (by omega) (by omega)
  have a2 : (n * 4294967296 + d) / Y < 4294967296 := Int.ediv_lt_of_lt_mul hY (by omega)
  have a3 := Int.mul_ediv_add_emod (n * 4294967296 + d) Y
  have a4 := Int.emod_nonneg (n * 4294967296 + d) (b := Y) (by omega)
  have a5 := Int.emod_lt_of_pos (n * 4294967296 + d) hY
  rw [Int.mul_comm] at a3
  refine ⟨a1, a2, by omega, by omega⟩
theorem dig_start {n d y1 y0 q : Int} (P : DigP n d y1 y0 q) : Dig n y1 q (n / y1) (n - n / y1 * y1) := by
  obtain ⟨q0, q1, q2, q3⟩ := dig_q P
  obtain ⟨hn0, hn, hd0, hd, hy1, hy2, hy0, hy3, hq⟩ := P
  have b1 := Int.mul_ediv_add_emod n y1
  have b2 := Int.emod_nonneg n (b := y1) (by omega)
  have b3 := Int.emod_lt_of_pos n (b := y1) (by omega)
  rw [Int.mul_comm] at b1
  have e : q * (y1 * 4294967296 + y0) = q * y1 * 4294967296 + q * y0 := by rw [Int.mul_add, Int.mul_assoc]
  have p0 : 0 ≤ q * y0 := Int.mul_nonneg q0 hy0
  have le : q * y1 ≤ n := by omega
  have c1 : q ≤ n / y1 := (Int.le_ediv_iff_mul_le (by omega)).2 le
  have c2 : n / y1 < 4294967298 := Int.ediv_lt_of_lt_mul (by omega) (by omega)
  refine ⟨c1, by omega, by omega, by omega, by omega⟩
theorem dig_more {n d y1 y0 q a b : Int} (P : DigP n d y1 y0 q) (h : Dig n y1 q a b) (ht : 4294967296 ≤ a ∨ 4294967296 * b + d < a * y0) : q ≤ a - 1 := by
  obtain ⟨q0, q1, q2, q3⟩ := dig_q P
  obtain ⟨h1, h2, h3, h4, h5⟩ := h
  rcases ht with ht | ht
  · omega
  · by_cases c : q ≤ a - 1
    · exact c
    · have : a = q := by omega
      subst this
      have e : a * (y1 * 4294967296 + y0) = a * y1 * 4294967296 + a * y0 := by rw [Int.mul_add, Int.mul_assoc]
      omega
theorem dig_done {n d y1 y0 q a b : Int} (P : DigP n d y1 y0 q) (h1 : q ≤ a) (h3 : a * y1 + b = n) (h : a * y0 ≤ 4294967296 * b + d) : a = q := by
  obtain ⟨hn0, hn, hd0, hd, hy1, hy2, hy0, hy3, hq⟩ := P
  have e : a * (y1 * 4294967296 + y0) = a * y1 * 4294967296 + a * y0 := by rw [Int.mul_add, Int.mul_assoc]
  have le : a * (y1 * 4294967296 + y0) ≤ n * 4294967296 + d := by omega
  have : a ≤ (n * 4294967296 + d) / (y1 * 4294967296 + y0) := (Int.le_ediv_iff_mul_le (by omega)).2 le
  omega
/-- the loop's test says no -/
theorem dig_end {n d y1 y0 q a b : Int} (P : DigP n d y1 y0 q) (h : Dig n y1 q a b) (ht : a * y0 ≤ 4294967296 * b + d) : a = q :=
  dig_done P h.1 h.2.2.1 ht
/-- one down, and the rest is small: go on -/
theorem dig_on {n d y1 y0 q a b : Int} (P : DigP n d y1 y0 q) (h : Dig n y1 q a b) (ht : 4294967296 ≤ a ∨ 4294967296 * b + d < a * y0) (hb : b + y1 < 4294967296) :
    Dig n y1 q (a - 1) (b + y1) := by
  have hm := dig_more P h ht
  obtain ⟨h1, h2, h3, h4, h5⟩ := h
  have := P.hy1
  refine ⟨hm, by omega, ?_, by omega, hb⟩
  rw [Int.sub_mul]; omega
/-- one down, and the rest is great: it is the digit -/
theorem dig_break {n d y1 y0 q a b : Int} (P : DigP n d y1 y0 q) (h : Dig n y1 q a b) (ht : 4294967296 ≤ a ∨ 4294967296 * b + d < a * y0) (hb : 4294967296 ≤ b + y1) :
    a - 1 = q := by
  have hm := dig_more P h ht
  obtain ⟨q0, q1, q2, q3⟩ := dig_q P
  obtain ⟨h1, h2, h3, h4, h5⟩ := h
  refine dig_done (b := b + y1) P hm (by rw [Int.sub_mul]; omega) ?_
  have := P.hd0
  have : (a - 1) * y0 ≤ 4294967296 * 4294967295 := Int.mul_le_mul (by omega) (by have := P.hy3; omega) P.hy0 (by omega)
  omega
/-- two digits make the quotient -/
theorem two_digits {n d1 d0 Y q m p : Int} (hY : 0 < Y) (hm : m = n * 4294967296 + d1 - q * Y) (hp : p = (m * 4294967296 + d0) / Y) :
    (n * 18446744073709551616 + (d1 * 4294967296 + d0)) / Y = q * 4294967296 + p := by
  have e : n * 18446744073709551616 + (d1 * 4294967296 + d0) = (m * 4294967296 + d0) + q * 4294967296 * Y := by
    have : q * 4294967296 * Y = q * Y * 4294967296 := by rw [Int.mul_right_comm]
    omega
  rw [e, Int.add_mul_ediv_right _ _ (by omega), ← hp]
  omega
end Go.Proofs.Ytekcehhoimhjeaa.Fx
