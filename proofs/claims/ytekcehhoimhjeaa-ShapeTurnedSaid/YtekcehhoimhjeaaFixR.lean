/- Contracts: roots. -/
import Derived.Test.YtekcehhoimhjeaaFixC
namespace Go.Proofs.Ytekcehhoimhjeaa.Fx
open Go.ChangeShapes Go.WideShapes Go.ChangeAt Go.RowKit
set_option linter.unusedVariables false

/-- what the loop keeps: k bits are still to come, r is what there is of the root, t the next bit -/
def Rt (P S : Int) (k : Nat) (r t : Int) : Prop := k ≤ 48 ∧ 0 ≤ r ∧ r % 2 ^ k = 0 ∧ r + 2 ^ k ≤ 281474976710656 ∧ t = 2 ^ k / 2 ∧ sqAux P k r = S
theorem rt_start (P : Int) : Rt P (sqAux P 48 0) 48 0 140737488355328 := by
  refine ⟨by omega, by omega, by decide, by decide, by decide, rfl⟩
theorem two_pow_pos (k : Nat) : (0 : Int) < 2 ^ k := Int.pow_pos (by omega)
theorem rt_zero {P S : Int} {k : Nat} {r t : Int} (h : Rt P S k r t) (ht : t ≤ 0) : r = S := by
  obtain ⟨h1, h2, h3, h4, h5, h6⟩ := h
  cases k with
  | zero => simpa [sqAux] using h6
  | succ k => have := two_pow_pos k; rw [Int.pow_succ] at h5; omega
theorem rt_bd {P S : Int} {k : Nat} {r t : Int} (h : Rt P S k r t) (ht : 0 < t) : 0 ≤ r ∧ r + t + t ≤ 281474976710656 ∧ t ≤ 140737488355328 := by
  obtain ⟨h1, h2, h3, h4, h5, h6⟩ := h
  cases k with
  | zero => simp at h5; omega
  | succ k => have := two_pow_pos k; rw [Int.pow_succ] at h5 h4; omega
theorem rt_or {P S : Int} {k : Nat} {r t : Int} (h : Rt P S k r t) (ht : 0 < t) : bits .or .u64 r t = r + t := by
  obtain ⟨g1, g2, g3⟩ := rt_bd h ht
  obtain ⟨h1, h2, h3, h4, h5, h6⟩ := h
  cases k with
  | zero => simp at h5; omega
  | succ k =>
    have hp := two_pow_pos k
    have ht2 : t = 2 ^ k := by rw [Int.pow_succ] at h5; omega
    obtain ⟨n, rfl⟩ := Int.eq_ofNat_of_zero_le h2
    have e : (2 : Int) ^ (k + 1) = ((2 ^ (k + 1) : Nat) : Int) := by simp
    rw [e] at h3
    have h3' : n % 2 ^ (k + 1) = 0 := by omega
    have hdvd := Nat.div_add_mod n (2 ^ (k + 1))
    rw [h3'] at hdvd
    have ht3 : t = ((2 ^ k : Nat) : Int) := by rw [ht2]; simp
    have hlt : (2 : Nat) ^ k < 2 ^ (k + 1) := by rw [Nat.pow_succ]; have : 0 < 2 ^ k := Nat.pow_pos (by omega); omega
    have ho := Nat.two_pow_add_eq_or_of_lt hlt (n / 2 ^ (k + 1))
    have hb := bits_or_u64_nat n (2 ^ k) (by omega) (by omega)
    rw [ht3, hb]
    have : n ||| 2 ^ k = n + 2 ^ k := by
      rw [Nat.add_zero] at hdvd
      rw [hdvd] at ho; omega
    rw [this]; omega
theorem rt_step {P S : Int} {k : Nat} {r t : Int} (h : Rt P S k r t) (ht : 0 < t) :
    Rt P S (k - 1) (if (r + t) * (r + t) ≤ P then r + t else r) (t / 2) := by
  obtain ⟨h1, h2, h3, h4, h5, h6⟩ := h
  cases k with
  | zero => simp at h5; omega
  | succ k =>
    have hp := two_pow_pos k
    have ht2 : t = 2 ^ k := by rw [Int.pow_succ] at h5; omega
    subst ht2
    rw [sqAux] at h6
    rw [Int.pow_succ] at h3 h4
    have h3' : r % 2 ^ k = 0 := by
      have := Int.emod_emod_of_dvd r (Int.dvd_mul_right (2 ^ k) 2)
      rw [h3] at this; simpa using this.symm
    split
    · rename_i hc
      rw [if_pos hc] at h6
      exact ⟨by omega, by omega, by simp [h3'], by simp; omega, rfl, h6⟩
    · rename_i hc
      rw [if_neg hc] at h6
      exact ⟨by omega, by omega, by simp [h3'], by simp; omega, rfl, h6⟩
theorem rt_less {P S : Int} {k : Nat} {r t : Int} (h : Rt P S k r t) (ht : 0 < t) : t / 2 < t := by omega
set_option maxHeartbeats 1000000 in
theorem sqrt_c (a : Int) (w : World) (ha : I64 a) :
    Calls Try.prog 33 #[.int .i64 a] w fun e w' => e = .returned (.int .i64 (sqrtF a)) ∧ w = w' := by
  by_cases c0 : a ≤ 0
  · have HZ : Hid (sqrtF a = 0) := by unfold Hid sqrtF; rw [if_pos c0]
    go_enter Try.func33, Try.ntmps33
    go_wp2
    go_ret
    exact ⟨ret_i HZ.out.symm, rfl⟩
  · have hab : absF a = a := by unfold absF; rw [if_neg (by omega)]
    have HF : Hid (sqrtF a = sqAux (a * 4294967296) 48 0) := by unfold Hid sqrtF; rw [if_neg c0]
    have h1 : a ≤ 9223372036854775807 := ha.2
    have hsc := scaled_c a w ha
    rw [hab] at hsc
    have HS := hsc
    clear hab
    go_enter Try.func33, Try.ntmps33
    go_wp2_with (go_at_call 46; refine hsc.mono ?_; rintro e w' ⟨rfl, rfl⟩)
    clear hsc HS
    go_loop [5, 6] (fun u v => ∃ (k : Nat) (r t : Int), Rt (a * 4294967296) (sqAux (a * 4294967296) 48 0) k r t ∧ u = .int .u64 r ∧ v = .int .u64 t) (fun _ v => (intOf v).toNat)
    case atStart => exact ⟨48, _, _, rt_start _, rfl, rfl⟩
    case round =>
      obtain ⟨k, r, t, hR, rfl, rfl⟩ := hrel
      have HR : Hid (Rt (a * 4294967296) (sqAux (a * 4294967296) 48 0) k r t) := hR
      clear hR
      by_cases ct : 0 < t
      · obtain ⟨g1, g2, g3⟩ := rt_bd HR.out ct
        have eo := rt_or HR.out ct
        have HN := rt_step HR.out ct
        have HN' : Hid (Rt (a * 4294967296) (sqAux (a * 4294967296) 48 0) (k - 1) (if (r + t) * (r + t) ≤ a * 4294967296 then r + t else r) (t / 2)) := HN
        clear HN
        have q0 : 0 ≤ r + t := by omega
        have q1 : r + t ≤ 18446744073709551615 := by omega
        have x0 : 0 ≤ (r + t) * (r + t) := Int.mul_nonneg q0 q0
        by_cases c1 : (r + t) * (r + t) / 18446744073709551616 < a / 4294967296
        · go_wp2_with (go_at_call 38; refine (mul64_c _ _ _ q0 q1 q0 q1).mono ?_; rintro e w' ⟨rfl, rfl⟩)
          go_round
          case rel => exact ⟨k - 1, r + t, t / 2, by have := HN'.out; rw [if_pos (by omega)] at this; exact this, rfl, rfl⟩
          case measure => simp [intOf]; omega
        · by_cases c2 : (r + t) * (r + t) / 18446744073709551616 = a / 4294967296
          · have c2' : ((r + t) * (r + t) / 18446744073709551616 == a / 4294967296) = true := by simp [c2]
            have HC2 : Hid ((r + t) * (r + t) / 18446744073709551616 = a / 4294967296) := c2
            clear c2
            by_cases c3 : (r + t) * (r + t) % 18446744073709551616 ≤ a % 4294967296 * 4294967296
            · go_wp2_with (go_at_call 38; refine (mul64_c _ _ _ q0 q1 q0 q1).mono ?_; rintro e w' ⟨rfl, rfl⟩)
              go_round
              case rel => exact ⟨k - 1, r + t, t / 2, by have := HN'.out; have := HC2.out; rw [if_pos (by omega)] at *; assumption, rfl, rfl⟩
              case measure => simp [intOf]; omega
            · go_wp2_with (go_at_call 38; refine (mul64_c _ _ _ q0 q1 q0 q1).mono ?_; rintro e w' ⟨rfl, rfl⟩)
              go_round
              case rel => exact ⟨k - 1, r, t / 2, by have := HN'.out; have := HC2.out; rw [if_neg (by omega)] at *; assumption, rfl, rfl⟩
              case measure => simp [intOf]; omega
          · have c2' : ((r + t) * (r + t) / 18446744073709551616 == a / 4294967296) = false := by simp [c2]
            go_wp2_with (go_at_call 38; refine (mul64_c _ _ _ q0 q1 q0 q1).mono ?_; rintro e w' ⟨rfl, rfl⟩)
            go_round
            case rel => exact ⟨k - 1, r, t / 2, by have := HN'.out; rw [if_neg (by omega)] at this; exact this, rfl, rfl⟩
            case measure => simp [intOf]; omega
      · have er : Hid (r = sqAux (a * 4294967296) 48 0) := rt_zero HR.out (by omega)
        have hb : 0 ≤ r ∧ r ≤ 281474976710656 := ⟨HR.out.2.1, by have := HR.out.2.2.2.1; have := two_pow_pos k; omega⟩
        obtain ⟨hb0, hb1⟩ := hb
        have ht0 : t = 0 := by have := HR.out.2.2.2.2.1; have := two_pow_pos k; omega
        subst ht0
        go_wp2
        go_ret
        exact ⟨ret_i (by rw [HF.out]; exact er.out), rfl⟩
end Go.Proofs.Ytekcehhoimhjeaa.Fx
