/- Contracts: the quotient of two words by one. -/
import Derived.Test.YtekcehhoimhjeaaFixF
import Derived.Deep.QuietTactic
import Derived.BigQuiet
namespace Go.Proofs.Ytekcehhoimhjeaa.Fx
open Go.ChangeShapes Go.WideShapes Go.ChangeAt Go.RowKit
set_option linter.unusedVariables false

/-- the quotient, and some rest -/
def QuoR (q : Int) (w : World) (e : Ending) (w' : World) : Prop := ∃ (r : Int) (k : Nat), e = .returned (.tuple #[.int .u64 q, .int .u64 r]) ∧ w' = w.drewN k
/-- one value; the world has but drawn -/
def Ret (v : Value) (w : World) (e : Ending) (w' : World) : Prop := e = .returned v ∧ ∃ k : Nat, w' = w.drewN k

set_option maxHeartbeats 2000000 in
theorem div64_big (hi lo y : Int) (w : World) (h0 : 0 ≤ hi) (h1 : hi < y) (h2 : y ≤ 18446744073709551615) (h3 : 0 ≤ lo) (h4 : lo ≤ 18446744073709551615) (h5 : 0 < hi) :
    Calls Try.prog 47 #[.int .u64 hi, .int .u64 lo, .int .u64 y] w (QuoR ((hi * 18446744073709551616 + lo) / y) w) := by
  have hy0 : 0 ≤ y := by omega
  have l64 : Lib.bitLen y.toNat ≤ 64 := Lib.bitLen_le y.toNat 64 (by omega) (by omega)
  obtain ⟨s, hs⟩ : ∃ s : Nat, s = 64 - Lib.bitLen y.toNat := ⟨_, rfl⟩
  have hs1 : s ≤ 64 := by omega
  obtain ⟨Y, y1, y0, n, l, d1, d0, q, m, p, N⟩ := norm hi lo y h0 h1 h2 h3 h4 s hs
  have HS : Hid ((64 : Int) - (Lib.bitLen y.toNat : Int) = (s : Int)) := by unfold Hid; omega
  clear hs l64
  obtain ⟨eY, e1, e0, en, el, f1, f0, em, Y0, Y1, l0, l1, Yn, P1, P0, all⟩ := N
  have HA : Hid ((hi * 18446744073709551616 + lo) / y = q * 4294967296 + p) := all
  have HP1 := P1
  have HP0 := P0
  obtain ⟨hn0, hn, hd0, hd, hy1, hy2, hy0', hy3, hq⟩ := P1
  obtain ⟨hm0, hm, hc0, hc, _, _, _, _, hp⟩ := P0
  have HD1 : Hid (DigP n d1 y1 y0 q) := HP1
  have HD0 : Hid (DigP m d0 y1 y0 p) := HP0
  clear all hq hp HP1 HP0
  obtain ⟨t1, t2, t3, t4, t5⟩ := dig_start HD1.out
  obtain ⟨q0, q1, _, _⟩ := dig_q HD1.out
  obtain ⟨p0, p1, _, _⟩ := dig_q HD0.out
  obtain ⟨r1, r2, r3, r4, r5⟩ := dig_start HD0.out
  have hn2 : n ≤ 18446744073709551615 := by omega
  have hm2 : m ≤ 18446744073709551615 := by omega
  have tt0 : 0 ≤ n / y1 * y1 := Int.mul_nonneg (Int.ediv_nonneg hn0 (by omega)) (by omega)
  have tt1 : n / y1 * y1 ≤ n := by omega
  have rr0 : 0 ≤ m / y1 * y1 := Int.mul_nonneg (Int.ediv_nonneg hm0 (by omega)) (by omega)
  have rr1 : m / y1 * y1 ≤ m := by omega
  have hyy : 1 ≤ y1 := by omega
  clear t1 t2 t3 t4 t5 r1 r2 r3 r4 r5
  have HYn : Hid (Y = y1 * 4294967296 + y0) := Yn
  clear Yn
  go_enter Try.func47, Try.ntmps47
  go_wp2_with (go_at_call 51; refine (lead64_c _ _ hy0 h2).mono ?_; rintro e w' ⟨rfl, rfl⟩; rw [HS.out])
  go_loop [15, 16] (fun u v => ∃ a b : Int, Dig n y1 q a b ∧ u = .int .u64 a ∧ v = .int .u64 b) (fun u _ => (intOf u).toNat)
  case atStart => exact ⟨_, _, dig_start HD1.out, rfl, rfl⟩
  case round =>
    obtain ⟨a, b, hD, rfl, rfl⟩ := hrel
    have HDD : Hid (Dig n y1 q a b) := hD
    obtain ⟨g1, g2, g3, g4, g5⟩ := hD
    clear g3
    by_cases ca : 4294967296 ≤ a
    · have ht : Hid (4294967296 ≤ a ∨ 4294967296 * b + d1 < a * y0) := Or.inl ca
      have g6 := dig_more HD1.out HDD.out ht.out
      by_cases cb : 4294967296 ≤ b + y1
      · have ea := dig_break HD1.out HDD.out ht.out cb
        go_wp2
        clear HDD HD1
        go_loop [18, 16] (fun u v => ∃ a b : Int, Dig m y1 p a b ∧ u = .int .u64 a ∧ v = .int .u64 b) (fun u _ => (intOf u).toNat)
        case atStart => exact ⟨_, _, dig_start HD0.out, rfl, rfl⟩
        case round =>
          obtain ⟨a2, b2, hD2, rfl, rfl⟩ := hrel
          have HDE : Hid (Dig m y1 p a2 b2) := hD2
          obtain ⟨k1, k2, k3, k4, k5⟩ := hD2
          clear k3
          by_cases ca2 : 4294967296 ≤ a2
          · have hu : Hid (4294967296 ≤ a2 ∨ 4294967296 * b2 + d0 < a2 * y0) := Or.inl ca2
            have g7 := dig_more HD0.out HDE.out hu.out
            by_cases cb2 : 4294967296 ≤ b2 + y1
            · have eb := dig_break HD0.out HDE.out hu.out cb2
              go_wp2
              go_ret2
              exact ⟨_, 0, ret_ii HA.out.symm rfl, rfl⟩
            · go_wp2
              go_round
              case rel => exact ⟨_, _, dig_on HD0.out HDE.out hu.out (by omega), rfl, rfl⟩
              case measure => simp [intOf]; omega
          · have u0 : 0 ≤ a2 * y0 := Int.mul_nonneg (by omega) hy0'
            have u1 : a2 * y0 ≤ 4294967295 * 4294967295 := Int.mul_le_mul (by omega) (by omega) hy0' (by omega)
            by_cases cc2 : 4294967296 * b2 + d0 < a2 * y0
            · have hu : Hid (4294967296 ≤ a2 ∨ 4294967296 * b2 + d0 < a2 * y0) := Or.inr cc2
              have g7 := dig_more HD0.out HDE.out hu.out
              by_cases cb2 : 4294967296 ≤ b2 + y1
              · have eb := dig_break HD0.out HDE.out hu.out cb2
                go_wp2
                go_ret2
                exact ⟨_, 0, ret_ii HA.out.symm rfl, rfl⟩
              · go_wp2
                go_round
                case rel => exact ⟨_, _, dig_on HD0.out HDE.out hu.out (by omega), rfl, rfl⟩
                case measure => simp [intOf]; omega
            · have eb := dig_end HD0.out HDE.out (by omega)
              subst eb
              go_wp2
              go_ret2
              exact ⟨_, 0, ret_ii HA.out.symm rfl, rfl⟩
      · go_wp2
        go_round
        case rel => exact ⟨_, _, dig_on HD1.out HDD.out ht.out (by omega), rfl, rfl⟩
        case measure => simp [intOf]; omega
    · have s0 : 0 ≤ a * y0 := Int.mul_nonneg (by omega) hy0'
      have s1 : a * y0 ≤ 4294967295 * 4294967295 := Int.mul_le_mul (by omega) (by omega) hy0' (by omega)
      by_cases cc : 4294967296 * b + d1 < a * y0
      · have ht : Hid (4294967296 ≤ a ∨ 4294967296 * b + d1 < a * y0) := Or.inr cc
        have g6 := dig_more HD1.out HDD.out ht.out
        by_cases cb : 4294967296 ≤ b + y1
        · have ea := dig_break HD1.out HDD.out ht.out cb
          go_wp2
          clear HDD HD1
          go_loop [18, 16] (fun u v => ∃ a b : Int, Dig m y1 p a b ∧ u = .int .u64 a ∧ v = .int .u64 b) (fun u _ => (intOf u).toNat)
          case atStart => exact ⟨_, _, dig_start HD0.out, rfl, rfl⟩
          case round =>
            obtain ⟨a2, b2, hD2, rfl, rfl⟩ := hrel
            have HDE : Hid (Dig m y1 p a2 b2) := hD2
            obtain ⟨k1, k2, k3, k4, k5⟩ := hD2
            clear k3
            by_cases ca2 : 4294967296 ≤ a2
            · have hu : Hid (4294967296 ≤ a2 ∨ 4294967296 * b2 + d0 < a2 * y0) := Or.inl ca2
              have g7 := dig_more HD0.out HDE.out hu.out
              by_cases cb2 : 4294967296 ≤ b2 + y1
              · have eb := dig_break HD0.out HDE.out hu.out cb2
                go_wp2
                go_ret2
                exact ⟨_, 0, ret_ii HA.out.symm rfl, rfl⟩
              · go_wp2
                go_round
                case rel => exact ⟨_, _, dig_on HD0.out HDE.out hu.out (by omega), rfl, rfl⟩
                case measure => simp [intOf]; omega
            · have u0 : 0 ≤ a2 * y0 := Int.mul_nonneg (by omega) hy0'
              have u1 : a2 * y0 ≤ 4294967295 * 4294967295 := Int.mul_le_mul (by omega) (by omega) hy0' (by omega)
              by_cases cc2 : 4294967296 * b2 + d0 < a2 * y0
              · have hu : Hid (4294967296 ≤ a2 ∨ 4294967296 * b2 + d0 < a2 * y0) := Or.inr cc2
                have g7 := dig_more HD0.out HDE.out hu.out
                by_cases cb2 : 4294967296 ≤ b2 + y1
                · have eb := dig_break HD0.out HDE.out hu.out cb2
                  go_wp2
                  go_ret2
                  exact ⟨_, 0, ret_ii HA.out.symm rfl, rfl⟩
                · go_wp2
                  go_round
                  case rel => exact ⟨_, _, dig_on HD0.out HDE.out hu.out (by omega), rfl, rfl⟩
                  case measure => simp [intOf]; omega
              · have eb := dig_end HD0.out HDE.out (by omega)
                subst eb
                go_wp2
                go_ret2
                exact ⟨_, 0, ret_ii HA.out.symm rfl, rfl⟩
        · go_wp2
          go_round
          case rel => exact ⟨_, _, dig_on HD1.out HDD.out ht.out (by omega), rfl, rfl⟩
          case measure => simp [intOf]; omega
      · have ea := dig_end HD1.out HDD.out (by omega)
        subst ea
        go_wp2
        clear HDD HD1
        go_loop [18, 16] (fun u v => ∃ a b : Int, Dig m y1 p a b ∧ u = .int .u64 a ∧ v = .int .u64 b) (fun u _ => (intOf u).toNat)
        case atStart => exact ⟨_, _, dig_start HD0.out, rfl, rfl⟩
        case round =>
          obtain ⟨a2, b2, hD2, rfl, rfl⟩ := hrel
          have HDE : Hid (Dig m y1 p a2 b2) := hD2
          obtain ⟨k1, k2, k3, k4, k5⟩ := hD2
          clear k3
          by_cases ca2 : 4294967296 ≤ a2
          · have hu : Hid (4294967296 ≤ a2 ∨ 4294967296 * b2 + d0 < a2 * y0) := Or.inl ca2
            have g7 := dig_more HD0.out HDE.out hu.out
            by_cases cb2 : 4294967296 ≤ b2 + y1
            · have eb := dig_break HD0.out HDE.out hu.out cb2
              go_wp2
              go_ret2
              exact ⟨_, 0, ret_ii HA.out.symm rfl, rfl⟩
            · go_wp2
              go_round
              case rel => exact ⟨_, _, dig_on HD0.out HDE.out hu.out (by omega), rfl, rfl⟩
              case measure => simp [intOf]; omega
          · have u0 : 0 ≤ a2 * y0 := Int.mul_nonneg (by omega) hy0'
            have u1 : a2 * y0 ≤ 4294967295 * 4294967295 := Int.mul_le_mul (by omega) (by omega) hy0' (by omega)
            by_cases cc2 : 4294967296 * b2 + d0 < a2 * y0
            · have hu : Hid (4294967296 ≤ a2 ∨ 4294967296 * b2 + d0 < a2 * y0) := Or.inr cc2
              have g7 := dig_more HD0.out HDE.out hu.out
              by_cases cb2 : 4294967296 ≤ b2 + y1
              · have eb := dig_break HD0.out HDE.out hu.out cb2
                go_wp2
                go_ret2
                exact ⟨_, 0, ret_ii HA.out.symm rfl, rfl⟩
              · go_wp2
                go_round
                case rel => exact ⟨_, _, dig_on HD0.out HDE.out hu.out (by omega), rfl, rfl⟩
                case measure => simp [intOf]; omega
            · have eb := dig_end HD0.out HDE.out (by omega)
              subst eb
              go_wp2
              go_ret2
              exact ⟨_, 0, ret_ii HA.out.symm rfl, rfl⟩
end Go.Proofs.Ytekcehhoimhjeaa.Fx
