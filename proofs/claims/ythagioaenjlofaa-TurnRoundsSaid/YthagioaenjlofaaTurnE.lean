/- TurnRounds: the walk. -/
import Derived.Test.YthagioaenjlofaaTurnB
import Derived.Test.YthagioaenjlofaaFixC
import Derived.Deep.QuietTactic
import Derived.BigQuiet
namespace Go.Proofs.Ythagioaenjlofaa.Fx
open Go.ChangeShapes Go.WideShapes Go.ChangeAt Go.RowKit
set_option linter.unusedVariables false

theorem mul_q (a b : Int) (w : World) (ha : I64 a) (hb : I64 b) :
    Calls Try.prog 11 #[.int .i64 a, .int .i64 b] w fun e w' => e = .returned (.int .i64 (mulF a b)) ∧ w' = w := (mul_c a b w ha hb).mono fun _ _ ⟨x, y⟩ => ⟨x, y.symm⟩
theorem add_q (a b : Int) (w : World) (ha : I64 a) (hb : I64 b) :
    Calls Try.prog 10 #[.int .i64 a, .int .i64 b] w fun e w' => e = .returned (.int .i64 (addF a b)) ∧ w' = w := (add_c a b w ha hb).mono fun _ _ ⟨x, y⟩ => ⟨x, y.symm⟩
theorem wrap_wrap (a : Int) : wrapF (wrapF a) = wrapF a := by
  have := wrapF_bd a
  have e : cl (wrapF a) = wrapF a := cl_id (by omega)
  show cl (wrapF a) % 4294967296 = wrapF a
  rw [e]; omega
theorem I64_mul (a b : Int) : I64 (mulF a b) := by
  unfold mulF signF I64
  have h0 : 0 ≤ absF a * absF b / 4294967296 := by
    have p : ∀ x : Int, 0 ≤ absF x := by intro x; unfold absF negF cl; (repeat' split) <;> omega
    exact Int.ediv_nonneg (Int.mul_nonneg (p a) (p b)) (by omega)
  (repeat' split) <;> omega
set_option maxRecDepth 100000 in
set_option maxHeartbeats 2000000 in
theorem rounds_walk (a : Int) (w : World) (ha : I64 a) :
    Calls Try.prog 3 #[.int .i64 a] w fun e w' => e = .returned (.bool true) ∧ Grown w w' := by
  have HA := hid ha
  clear ha
  obtain ⟨W, eW⟩ : ∃ W, wrapF a = W := ⟨_, rfl⟩
  have hW := wrapF_bd a
  rw [eW] at hW
  obtain ⟨W0, W1⟩ := hW
  obtain ⟨k, ek⟩ : ∃ k, k = W / 4194304 := ⟨_, rfl⟩
  have k0 : 0 ≤ k := by omega
  have k1 : k < 1024 := by omega
  obtain ⟨f1, f2, f3, f4⟩ := turn_facts k k0 k1
  have E1 : Hid (stepF W = k) := by unfold Hid; rw [stepF_at (by omega)]; omega
  have E2 : Hid (stepF (W + 1073741824) = (k + 256) % 1024) := by unfold Hid; rw [stepF_at (by omega)]; omega
  have E3 : Hid (stepF (W + 2147483648) = (k + 512) % 1024) := by unfold Hid; rw [stepF_at (by omega)]; omega
  have E4 : Hid (stepF (-(k * 4194304)) = (1024 - k) % 1024) := by unfold Hid; rw [stepF_at (by omega)]; omega
  have C1 : Hid (cs ((k + 256) % 1024) = -sn k) := by unfold Hid; rw [cs_quarter, f1]
  have C2 : Hid (sn ((k + 256) % 1024) = cs k) := rfl
  have C3 : Hid (cs ((k + 512) % 1024) = -cs k) := by
    unfold Hid; rw [cs_half, (turn_facts ((k + 256) % 1024) (by omega) (by omega)).1]; rfl
  have F1 := hid f1
  have F2 := hid f2
  have F3 := hid f3
  clear f1 f2 f3
  have Ir : Hid (-8 < addF (mulF (cs k) (cs k)) (mulF (sn k) (sn k)) - 4294967296 ∧ addF (mulF (cs k) (cs k)) (mulF (sn k) (sn k)) - 4294967296 < 8) := by
    unfold Hid
    generalize addF (mulF (cs k) (cs k)) (mulF (sn k) (sn k)) = r at f4
    unfold absF negF cl at f4
    (repeat' split at f4) <;> omega
  have HW := hid eW
  have Hk := hid ek
  clear eW ek
  have bs := sn_bd k
  have bc := cs_bd k
  obtain ⟨bs0, bs1⟩ := bs
  obtain ⟨bc0, bc1⟩ := bc
  go_enter Try.func3, Try.ntmps3
  go_wp2_with fail
  refine (tfit_c _).mono ?_
  rintro e w1 ⟨rfl, hb⟩
  have HB := hid hb
  clear hb
  go_wp2_with fail
  refine (wrap_c a _ HA.out).mono ?_
  rintro e w' ⟨rfl, rfl⟩
  rw [HW.out]
  go_wp2_with fail
  refine (turnOf_is W k _ (by unfold I64; omega) E1.out).mono ?_
  rintro e w2 ⟨rfl, hb2⟩
  go_wp2_with fail
  refine (turnOf_is (W + 1073741824) _ _ (by unfold I64; omega) E2.out).mono ?_
  rintro e w3 ⟨rfl, hb3⟩
  rw [C1.out, C2.out]
  go_wp2_with fail
  refine (turnOf_is (W + 2147483648) _ _ (by unfold I64; omega) E3.out).mono ?_
  rintro e w4 ⟨rfl, hb4⟩
  rw [C3.out, F1.out]
  have HM : Hid (Grown w w4) := gthen HB.out.grown (gthen hb2.grown (gthen hb3.grown hb4.grown))
  clear HB hb2 hb3 hb4
  go_wp2_with fail
  go_quiet ((first
    | (go_at_call 11; exact Calls.quiet_of_same (mul_q _ _ _ (by first | exact I64_cs _ | exact I64_sn _) (by first | exact I64_cs _ | exact I64_sn _)))
    | (go_at_call 10; exact Calls.quiet_of_same (add_q _ _ _ (I64_mul _ _) (I64_mul _ _)))))
  generalize addF (mulF (cs k) (cs k)) (mulF (sn k) (sn k)) = r at *
  obtain ⟨r0, r1⟩ := Ir.out
  have ek2 : W / 4194304 = k := Hk.out.symm
  go_wp2_with fail
  refine (turnOf_is (-(k * 4194304)) ((1024 - k) % 1024) _ (by unfold I64; omega) E4.out).mono ?_
  rintro e w5 ⟨rfl, hb5⟩
  clear ek2
  rw [F2.out, F3.out]
  have c0 : w5.cell? ⟨w4.heap.size, 0, none⟩ = some (.int .i64 (cs k)) := hb5.reads (by go_simp)
  have c1 : w5.cell? ⟨w4.heap.size, 1, none⟩ = some (.int .i64 (sn k)) := hb5.reads (by go_simp)
  have hz : w4.heap.size < w5.heap.size := World.block_lt_of_cell? _ _ c0
  have HM2 : Hid (Grown w w5) := gthen (by repeat (first | exact HM.out | apply Grown.drew | apply Grown.alloc)) hb5.grown
  clear hb5
  go_wp2_with fail
  refine (abs_c (r - 4294967296) _ (by unfold I64; omega)).mono ?_
  rintro e w' ⟨rfl, rfl⟩
  have G := hid f4
  go_wp2_with fail


  go_ret
  exact ⟨by simp, by repeat (first | exact HM2.out | apply Grown.drew | apply Grown.alloc)⟩
end Go.Proofs.Ythagioaenjlofaa.Fx
