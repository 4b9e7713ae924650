/- Contracts of the statements' own helpers: words. -/
import Derived.Test.YtjnklhjelgkkaaaLawD
namespace Go.Proofs.Ytjnklhjelgkkaaa.Fx
open Go.ChangeShapes Go.WideShapes Go.ChangeAt Go.RowKit
set_option linter.unusedVariables false

/-- a number of two words, as the statements hold it -/
def W2 (p : Int) : Value := .agg #[.bool false, .int .u64 (p / 18446744073709551616), .int .u64 (p % 18446744073709551616)]
set_option maxHeartbeats 400000 in
theorem times_c (x y : Int) (w : World) (h0 : 0 ≤ x) (h1 : x ≤ 18446744073709551615) (h2 : 0 ≤ y) (h3 : y ≤ 18446744073709551615) :
    Calls Try.prog 20 #[.int .u64 x, .int .u64 y] w fun e w' => e = .returned (.agg #[.bool false, .int .u64 (x * y / 18446744073709551616), .int .u64 (x * y % 18446744073709551616)]) ∧ Boxed w w' := by
  go_enter Try.func20, Try.ntmps20
  go_wp2_with fail
  refine (mul64_c x y _ h0 h1 h2 h3).mono ?_
  rintro e w' ⟨rfl, rfl⟩
  go_wp2_with fail
  exact bodyPost_ret (v := .agg #[.bool false, .int .u64 (x * y / 18446744073709551616), .int .u64 (x * y % 18446744073709551616)]) (by simp [results, Try.results20, go_sem]) rfl ⟨rfl, Boxed.mk _ _⟩
/-- two boxes more -/
def Boxed2 (w w' : World) : Prop := ∃ c d : Array Value, w' = (w.alloc (.cells c 30)).alloc (.cells d 30)
theorem Boxed2.mk (w : World) (c d : Array Value) : Boxed2 w ((w.alloc (.cells c 30)).alloc (.cells d 30)) := ⟨c, d, rfl⟩
/-- which is the less -/
def cmpF (p q : Int) : Int := if p < q then -1 else if p = q then 0 else 1
set_option maxHeartbeats 1000000 in
theorem cmp_c (p q : Int) (w : World) :
    Calls Try.prog 21 #[.agg #[.bool false, .int .u64 (p / 18446744073709551616), .int .u64 (p % 18446744073709551616)], .agg #[.bool false, .int .u64 (q / 18446744073709551616), .int .u64 (q % 18446744073709551616)]] w fun e w' => e = .returned (.int .i64 (cmpF p q)) ∧ Boxed2 w w' := by
  by_cases c1 : p / 18446744073709551616 < q / 18446744073709551616
  · have HF : Hid (cmpF p q = -1) := by unfold Hid cmpF; rw [if_pos (by omega)]
    go_enter Try.func21, Try.ntmps21
    go_wp2_with fail
    go_ret
    exact ⟨ret_i HF.out.symm, Boxed2.mk _ _ _⟩
  · by_cases c2 : p / 18446744073709551616 = q / 18446744073709551616
    · have c2' : (p / 18446744073709551616 == q / 18446744073709551616) = true := by simp [c2]
      by_cases c3 : p % 18446744073709551616 < q % 18446744073709551616
      · have HF : Hid (cmpF p q = -1) := by unfold Hid cmpF; rw [if_pos (by omega)]
        clear c2
        go_enter Try.func21, Try.ntmps21
        go_wp2_with fail
        go_ret
        exact ⟨ret_i HF.out.symm, Boxed2.mk _ _ _⟩
      · by_cases c4 : p % 18446744073709551616 = q % 18446744073709551616
        · have HF : Hid (cmpF p q = 0) := by unfold Hid cmpF; rw [if_neg (by omega), if_pos (by omega)]
          have c4' : (p % 18446744073709551616 == q % 18446744073709551616) = true := by simp [c4]
          clear c2 c4
          go_enter Try.func21, Try.ntmps21
          go_wp2_with fail
          go_ret
          exact ⟨ret_i HF.out.symm, Boxed2.mk _ _ _⟩
        · have HF : Hid (cmpF p q = 1) := by unfold Hid cmpF; rw [if_neg (by omega), if_neg (by omega)]
          have c4' : (p % 18446744073709551616 == q % 18446744073709551616) = false := by simp [c4]
          clear c2 c4
          go_enter Try.func21, Try.ntmps21
          go_wp2_with fail
          go_ret
          exact ⟨ret_i HF.out.symm, Boxed2.mk _ _ _⟩
    · have HF : Hid (cmpF p q = 1) := by unfold Hid cmpF; rw [if_neg (by omega), if_neg (by omega)]
      have c2' : (p / 18446744073709551616 == q / 18446744073709551616) = false := by simp [c2]
      clear c2
      go_enter Try.func21, Try.ntmps21
      go_wp2_with fail
      go_ret
      exact ⟨ret_i HF.out.symm, Boxed2.mk _ _ _⟩
end Go.Proofs.Ytjnklhjelgkkaaa.Fx
