/- Contracts of the statements' own helpers: sizes, sums of sizes, what fits. -/
import Derived.Test.YtjnklhjelgkkaaaFixH
import Derived.Test.YtjnklhjelgkkaaaFixR
import Derived.Below
namespace Go.Proofs.Ytjnklhjelgkkaaa.Fx
open Go.ChangeShapes Go.WideShapes Go.ChangeAt Go.RowKit
set_option linter.unusedVariables false

theorem I64_wf {n : Int} (h : (Lit.int .i64 n).wf = true) : I64 n := bounds_i64 h
theorem Grown.drewN {W w : World} (h : Grown W w) (k : Nat) : Grown W (w.drewN k) := h
/-- the statements' own size: the absolute value -/
theorem lsize_c (a : Int) (w : World) (h : I64 a) :
    Calls Try.prog 18 #[.int .i64 a] w fun e w' => e = .returned (.int .u64 (absF a)) ∧ w = w' := by
  obtain ⟨h0, h1⟩ := h
  by_cases c : a = -9223372036854775808
  · subst c
    go_enter Try.func18, Try.ntmps18
    go_wp2
    go_ret
    exact ⟨ret_i (by decide), rfl⟩
  · have c' : (a == -9223372036854775808) = false := by simp [c]
    have h2 : -9223372036854775807 ≤ a := by omega
    clear c
    by_cases c0 : a < 0
    · go_enter Try.func18, Try.ntmps18
      go_wp2
      go_ret
      exact ⟨ret_i (by unfold absF negF cl; rw [if_pos c0, if_neg (by omega)]), rfl⟩
    · go_enter Try.func18, Try.ntmps18
      go_wp2
      go_ret
      exact ⟨ret_i (by unfold absF; rw [if_neg (by omega)]), rfl⟩
/-- a box more -/
def Boxed (w w' : World) : Prop := ∃ c : Array Value, w' = w.alloc (.cells c 30)
theorem Boxed.mk (w : World) (c : Array Value) : Boxed w (w.alloc (.cells c 30)) := ⟨c, rfl⟩
theorem Boxed.grown {w w' : World} (h : Boxed w w') : Grown w w' := by obtain ⟨c, rfl⟩ := h; exact (Grown.refl _).alloc _ _
theorem Boxed.below {w w' : World} (h : Boxed w w') : Below w.heap.size w w' := by obtain ⟨c, rfl⟩ := h; exact (Below.refl _ _).alloc (Nat.le_refl _) _
/-- a sign and a size of one word -/
def lowF (t : Bool) (n : Int) : Int := if t then -(if n < 9223372036854775808 then n else 9223372036854775807) else (if n < 9223372036854775808 then n else 9223372036854775807)
set_option maxHeartbeats 400000 in
theorem lbring_c (t : Bool) (n : Int) (w : World) (h0 : 0 ≤ n) (h1 : n ≤ 18446744073709551615) :
    Calls Try.prog 29 #[.agg #[.bool t, .int .u64 0, .int .u64 n]] w fun e w' => e = .returned (.int .i64 (lowF t n)) ∧ Boxed w w' := by
  by_cases c : n < 9223372036854775808
  · cases t
    · go_enter Try.func29, Try.ntmps29
      go_wp2
      go_ret
      exact ⟨ret_i (by unfold lowF; simp; omega), Boxed.mk _ _⟩
    · go_enter Try.func29, Try.ntmps29
      go_wp2
      go_ret
      exact ⟨ret_i (by unfold lowF; simp; omega), Boxed.mk _ _⟩
  · cases t
    · go_enter Try.func29, Try.ntmps29
      go_wp2
      go_ret
      exact ⟨ret_i (by unfold lowF; simp; omega), Boxed.mk _ _⟩
    · go_enter Try.func29, Try.ntmps29
      go_wp2
      go_ret
      exact ⟨ret_i (by unfold lowF; simp; omega), Boxed.mk _ _⟩
theorem Grown.trans {a b c : World} (h : Grown a b) (k : Grown b c) : Grown a c :=
  ⟨World.keptBut_trans h.1 (World.keptBut_mono (fun _ f => f.elim) k.1), fun x => (k.2.1 x).trans (h.2.1 x), Nat.le_trans h.2.2 k.2.2⟩
end Go.Proofs.Ytjnklhjelgkkaaa.Fx
