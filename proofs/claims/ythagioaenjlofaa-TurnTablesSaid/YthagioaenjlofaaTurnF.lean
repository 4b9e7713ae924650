/- The contract of turn.Tabled. -/
import Derived.Test.YthagioaenjlofaaTurnB
import Derived.Deep.CutBlock
import Derived.Deep.LoopGhost
import Derived.LoopN
import Derived.WalkMore
namespace Go.Proofs.Ythagioaenjlofaa.Fx
open Go.ChangeShapes Go.WideShapes Go.ChangeAt Go.RowKit
set_option linter.unusedVariables false

theorem pair0 (a b x y : Int) (w : World) : (Instr.index 46 (.agg #[.int .i64 a, .int .i64 b, .int .i64 x, .int .i64 y]) (.int .i64 0)).run Try.prog w = .ok (.agg #[.int .i64 a, .int .i64 b]) w := by kernel_rfl
theorem pair1 (a b x y : Int) (w : World) : (Instr.index 46 (.agg #[.int .i64 a, .int .i64 b, .int .i64 x, .int .i64 y]) (.int .i64 1)).run Try.prog w = .ok (.agg #[.int .i64 x, .int .i64 y]) w := by kernel_rfl
set_option maxRecDepth 100000 in
set_option maxHeartbeats 2000000 in
theorem tabled_c (c s : Int) (w : World) :
    Calls Try.prog 13 #[rotV c s] w fun e w' => e = .returned (.bool (tabledB c s 1024)) ∧ Made w.heap.size w w' := by
  go_enter Try.func13, Try.ntmps13
  go_wp2_with fail
  go_step3
  go_wp2_with fail
  go_step3
  go_wp2_with fail
  go_loopg [7] 1024 (fun g t wr => ∃ k : Nat, k + g = 1024 ∧ t = .int .i64 k ∧ Hid (tabledB c s k = false) ∧ Hid (Has wr w.heap.size 26 #[.int .i64 c, .int .i64 s]) ∧ Hid (Made w.heap.size w wr))
  case atStart => exact ⟨0, by omega, rfl, rfl, has_new _ _ _, (Made.rfl_ _ _).cells (Nat.le_refl _) _ _⟩
  case round =>
    obtain ⟨k, hk, rfl, HT, HH, HM⟩ := hrel
    by_cases hlt : k < 1024
    · have hk1 : k < 1024 := hlt
      go_wp2_with fail
      refine (rotation_c k _ (by omega) (by omega)).mono ?_
      rintro e w1 ⟨rfl, hb1⟩
      have H1 : Hid (Has w1 w.heap.size 26 #[.int .i64 c, .int .i64 s]) := HH.out.stays hb1 HH.out.here
      have x0 := H1.out.at_ 0
      have x1 := H1.out.at_ 1
      simp at x0 x1
      have hz := H1.out.here
      have HM1 : Hid (Made w.heap.size w w1) := HM.out.then_ (hb1.low HM.out.1.size)
      clear hb1
      have q0 := pair0 c (cs k) s (sn k)
      have q1 := pair1 c (cs k) s (sn k)
      by_cases c1 : c = cs k
      · by_cases c2 : s = sn k
        · have HY : Hid (tabledB c s 1024 = true) := by unfold Hid; rw [c1, c2]; exact tabledB_yes k (by omega) (by omega)
          have c1' : (c == cs k) = true := by simpa using c1
          have c2' : (s == sn k) = true := by simpa using c2
          have d1' : (c != cs k) = false := by simpa using c1
          have d2' : (s != sn k) = false := by simpa using c2
          clear c1 c2
          go_wp2_with fail
          refine wp_loop_rounds 3 ?_
          rw [rounds_succ]
          go_wp2_with fail
          rw [rounds_succ]
          go_wp2_with fail
          rw [rounds_succ]
          go_wp2_with fail
          rw [Exit.noGoto_ret]
          go_ret
          exact ⟨by rw [HY.out]; rfl, by repeat (first | exact HM1.out | apply Made.draws | refine Made.cells ?_ (by have := HM1.out.1.size; simp; omega) _ _)⟩
        · have HN : Hid (tabledB c s (k + 1) = false) := by unfold Hid; rw [tabledB_succ, HT.out]; simp; intro _ h; exact c2 h.symm
          have c1' : (c == cs k) = true := by simpa using c1
          have c2' : (s == sn k) = false := by simpa using c2
          have d1' : (c != cs k) = false := by simpa using c1
          have d2' : (s != sn k) = true := by simpa using c2
          clear c1 c2
          go_wp2_with fail
          refine wp_loop_rounds 2 ?_
          rw [rounds_succ]
          go_wp2_with fail
          rw [rounds_succ]
          go_wp2_with fail
          go_roundg (1023 - k)
          case rel => exact ⟨k + 1, by omega, by go_num, HN, by repeat (first | exact H1.out | apply Has.more), by repeat (first | exact HM1.out | apply Made.draws | refine Made.cells ?_ (by have := HM1.out.1.size; simp; omega) _ _)⟩
          case measure => omega
      · have HN : Hid (tabledB c s (k + 1) = false) := by unfold Hid; rw [tabledB_succ, HT.out]; simp; intro h; exact absurd h.symm c1
        have c1' : (c == cs k) = false := by simpa using c1
        have d1' : (c != cs k) = true := by simpa using c1
        clear c1
        go_wp2_with fail
        refine wp_loop_rounds 1 ?_
        rw [rounds_succ]
        go_wp2_with fail
        go_roundg (1023 - k)
        case rel => exact ⟨k + 1, by omega, by go_num, HN, by repeat (first | exact H1.out | apply Has.more), by repeat (first | exact HM1.out | apply Made.draws | refine Made.cells ?_ (by have := HM1.out.1.size; simp; omega) _ _)⟩
        case measure => omega
    · have e : k = 1024 := by omega
      subst e
      go_wp2_with fail
      try rw [Exit.noGoto_ret]
      go_ret
      exact ⟨by rw [HT.out]; rfl, HM.out⟩
end Go.Proofs.Ythagioaenjlofaa.Fx
