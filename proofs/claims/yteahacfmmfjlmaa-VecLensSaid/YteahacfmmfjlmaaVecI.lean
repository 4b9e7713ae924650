/- VecLens: the walk. -/
import Derived.Test.YteahacfmmfjlmaaVecF
import Derived.Test.YteahacfmmfjlmaaVecQ
namespace Go.Proofs.Yteahacfmmfjlmaa.Fx
open Go.ChangeShapes Go.WideShapes Go.ChangeAt Go.RowKit
set_option linter.unusedVariables false

theorem add_is (a b r : Int) (w : World) (ha : I64 a) (hb : I64 b) (e : addF a b = r) : Calls Try.prog 12 #[.int .i64 a, .int .i64 b] w fun e w' => e = .returned (.int .i64 r) ∧ w = w' := by subst e; exact add_c a b w ha hb
theorem sx_sm {a : Int} (h : Sx a) : Sm a := by unfold Sx Sm at *; omega
theorem sx_sum {a b : Int} (ha : Sx a) (hb : Sx b) : Sm (a + b) ∧ addF a b = a + b := by
  refine ⟨by unfold Sx Sm at *; omega, ?_⟩
  rw [addR (sx_rg ha) (sx_rg hb), satR (by unfold Sx Rg at *; omega)]
theorem sx_abs {a : Int} (h : Sx a) : 0 ≤ absF a ∧ absF a ≤ 17592186044416 := by
  rw [absR (sx_rg h)]; unfold Sx at h; split <;> omega
set_option maxRecDepth 100000 in
set_option maxHeartbeats 4000000 in
theorem vlens_walk (a b c d : Int) (w : World) (ha : I64 a) (hb : I64 b) (hc : I64 c) (hd : I64 d) :
    Calls Try.prog 8 #[vecV a b, vecV c d] w fun e w' => e = .returned (.bool true) ∧ Grown w w' := by
  obtain ⟨A, eA⟩ : ∃ A, bringF a (negF 17592186044416) 17592186044416 = A := ⟨_, rfl⟩
  have sA := sx_bring ha
  rw [eA] at sA
  have rA := sx_rg sA
  have iA := i64_rg rA
  have EA := hid eA
  obtain ⟨B, eB⟩ : ∃ B, bringF b (negF 17592186044416) 17592186044416 = B := ⟨_, rfl⟩
  have sB := sx_bring hb
  rw [eB] at sB
  have rB := sx_rg sB
  have iB := i64_rg rB
  have EB := hid eB
  obtain ⟨C, eC⟩ : ∃ C, bringF c (negF 17592186044416) 17592186044416 = C := ⟨_, rfl⟩
  have sC := sx_bring hc
  rw [eC] at sC
  have rC := sx_rg sC
  have iC := i64_rg rC
  have EC := hid eC
  obtain ⟨D, eD⟩ : ∃ D, bringF d (negF 17592186044416) 17592186044416 = D := ⟨_, rfl⟩
  have sD := sx_bring hd
  rw [eD] at sD
  have rD := sx_rg sD
  have iD := i64_rg rD
  have ED := hid eD
  have iM : I64 17592186044416 := by unfold I64; omega
  have iNA := i64_rg (Rg_neg rA)
  have iNB := i64_rg (Rg_neg rB)
  have NA : Hid (negF A = -A) := hid (negR rA)
  have NB : Hid (negF B = -B) := hid (negR rB)
  have l1 := lens_sum (sx_sm sA) (sx_sm sB)
  obtain ⟨l2, l3⟩ := lens_part (sx_sm sA) (sx_sm sB)
  obtain ⟨sU, fU⟩ := sx_sum sA sC
  obtain ⟨sV, fV⟩ := sx_sum sB sD
  have l4 := lens_tri (sx_sm sA) (sx_sm sB) (sx_sm sC) (sx_sm sD) sU sV
  have l5 : lenF (-A) (-B) = lenF A B := by unfold lenF; rw [mul_two_neg rA rA, mul_two_neg rB rB]
  have b1 := sx_abs sA
  have b2 := sx_abs sB
  have b3 : 0 ≤ lenF A B ∧ lenF A B < 281474976710656 := sqrt_bd _
  have b4 : 0 ≤ lenF C D ∧ lenF C D < 281474976710656 := sqrt_bd _
  have b5 : 0 ≤ lenF (A + C) (B + D) ∧ lenF (A + C) (B + D) < 281474976710656 := sqrt_bd _
  obtain ⟨N, eN⟩ : ∃ N, lenF A B = N := ⟨_, rfl⟩
  obtain ⟨K, eK⟩ : ∃ K, lenF C D = K := ⟨_, rfl⟩
  obtain ⟨J, eJ⟩ : ∃ J, lenF (A + C) (B + D) = J := ⟨_, rfl⟩
  obtain ⟨X, eX⟩ : ∃ X, absF A = X := ⟨_, rfl⟩
  obtain ⟨Y, eY⟩ : ∃ Y, absF B = Y := ⟨_, rfl⟩
  rw [eN, eK, eJ] at l4
  rw [eN] at l1 l2 l3 l5 b3
  rw [eK] at b4
  rw [eJ] at b5
  rw [eX] at l1 l2 b1
  rw [eY] at l1 l3 b2
  obtain ⟨U, eU⟩ : ∃ U, A + C = U := ⟨_, rfl⟩
  obtain ⟨V, eV⟩ : ∃ V, B + D = V := ⟨_, rfl⟩
  rw [eU] at eJ sU fU
  rw [eV] at eJ sV fV
  obtain ⟨R, eR⟩ : ∃ R, X + Y = R := ⟨_, rfl⟩
  have fR : addF X Y = R := by
    rw [addR (by unfold Rg; omega) (by unfold Rg; omega), satR (by unfold Rg; omega), eR]
  obtain ⟨X0, X1⟩ := b1
  obtain ⟨Y0, Y1⟩ := b2
  obtain ⟨N0, N1⟩ := b3
  obtain ⟨K0, K1⟩ := b4
  obtain ⟨J0, J1⟩ := b5
  have R0 : 0 ≤ R := by omega
  have R1 : R ≤ 35184372088832 := by omega
  obtain ⟨M, eM⟩ : ∃ M, max X Y = M := ⟨_, rfl⟩
  have M0 : 0 ≤ M := by omega
  have M1 : M ≤ 17592186044416 := by omega
  have g1 : decide (R + 262144 < N) = false := decide_eq_false (by omega)
  have g2 : decide (N < M - 262144) = false := decide_eq_false (by omega)
  have g4 : decide (J ≤ N + K + 262144) = true := decide_eq_true (by omega)
  have iU := i64_rg (Sm_Rg sU)
  have iV := i64_rg (Sm_Rg sV)
  have iX : I64 X := by unfold I64; omega
  have iY : I64 Y := by unfold I64; omega
  have EN := hid eN
  have EK := hid eK
  have EJ := hid eJ
  have EX := hid eX
  have EY := hid eY
  have EU := hid fU
  have EV := hid fV
  have ER := hid fR
  have E5 := hid l5
  clear eA eB eC eD eN eK eJ eX eY eU eV eR fU fV fR l1 l2 l3 l5 sA sB sC sD sU sV rA rB rC rD
  go_enter Try.func8, Try.ntmps8
  go_wp2_with fail
  refine (vfit_c _).mono ?_
  rintro e w1 ⟨rfl, k1⟩
  have P0 := (has_new w 24 #[.int .i64 a, .int .i64 b]).more (.cells #[.int .i64 c, .int .i64 d] 24)
  have R0 := has_new (w.alloc (.cells #[.int .i64 a, .int .i64 b] 24)) 24 #[.int .i64 c, .int .i64 d]
  have P1 := P0.stays k1 (by simp; try omega)
  have R1 := R0.stays k1 (by simp; try omega)
  have hw1 := hid (made_box (made_box k1))
  clear P0 R0 k1
  go_wp2_with fail
  have c0 := P1.at_ 0
  have c1 := P1.at_ 1
  have d0 := R1.at_ 0
  have d1 := R1.at_ 1
  simp at c0 c1 d0 d1
  refine reg_made_tail 4 (by kernel_rfl) (by kernel_rfl) ?_
  intro T hT f hf
  have x0 := Class.reads hf c0
  have x1 := Class.reads hf c1
  have y0 := Class.reads hf d0
  have y1 := Class.reads hf d1
  simp only [List.take_succ_cons, List.take_zero, List.drop_succ_cons, List.drop_zero]
  repeat (go_big_quiet_step ((first
    | (go_at_call 27; with_reducible exact hf.made (vbring_is a b 17592186044416 A B _ ha hb iM EA.out EB.out))
    | (go_at_call 27; with_reducible exact hf.made (vbring_is c d 17592186044416 C D _ hc hd iM EC.out ED.out)))))
  refine wpQuiet_nil ?_
  intro w2 h2
  have k2 := hf.here h2
  have P2 := P1.stays k2 P1.here
  have R2 := R1.stays k2 R1.here
  have hw2 := hid (hw1.out.then_ (k2.low hw1.out.1.size))
  clear P1 R1 k2 hf h2 x0 x1 y0 y1 c0 c1 d0 d1
  have c0 := P2.at_ 0
  have c1 := P2.at_ 1
  have d0 := R2.at_ 0
  have d1 := R2.at_ 1
  have m0 := P2.free 0
  have m1 := P2.free 1
  have n0 := R2.free 0
  have n1 := R2.free 1
  simp at c0 c1 d0 d1 m0 m1 n0 n1
  go_wp2_with fail
  obtain ⟨W, eW⟩ : ∃ W, W = ((((w2.setCell ⟨w.heap.size, 0, none⟩ (.int .i64 A)).setCell ⟨w.heap.size, 1, none⟩ (.int .i64 B)).setCell ⟨w.heap.size + 1, 0, none⟩ (.int .i64 C)).setCell ⟨w.heap.size + 1, 1, none⟩ (.int .i64 D)) := ⟨_, rfl⟩
  have z0 : W.cell? ⟨w.heap.size, 0, none⟩ = some (.int .i64 A) := by rw [eW]; go_simp
  have z1 : W.cell? ⟨w.heap.size, 1, none⟩ = some (.int .i64 B) := by rw [eW]; go_simp
  have z2 : W.cell? ⟨w.heap.size + 1, 0, none⟩ = some (.int .i64 C) := by rw [eW]; go_simp
  have z3 : W.cell? ⟨w.heap.size + 1, 1, none⟩ = some (.int .i64 D) := by rw [eW]; go_simp
  have hW : Hid (Made w.heap.size w W) := by
    rw [eW]; exact (((hw2.out.put (by simp) _).put (by simp) _).put (by simp) _).put (by simp) _
  rw [← eW]
  clear eW P2 R2 hw2 c0 c1 d0 d1 m0 m1 n0 n1
  refine reg_made (by kernel_rfl) (by kernel_rfl) ?_
  intro T hT f hf
  have u0 := Class.reads hf z0
  have u1 := Class.reads hf z1
  have u2 := Class.reads hf z2
  have u3 := Class.reads hf z3
  repeat (go_big_quiet_step ((first
    | (go_at_call 22; with_reducible exact hf.made (vlen_is A B N _ iA iB EN.out))
    | (go_at_call 12; with_reducible exact hf.same (add_is X Y R _ iX iY ER.out))
    | (go_at_call 26; with_reducible exact hf.same (abs_is A X _ iA EX.out))
    | (go_at_call 26; with_reducible exact hf.same (abs_is B Y _ iB EY.out)))))
  refine wpQuiet_nil ?_
  intro w4 h4
  have k4 := hf.here h4
  have hW := hid (hW.out.then_ (k4.low hW.out.1.size))
  have z0 := k4.reads z0
  have z1 := k4.reads z1
  have z2 := k4.reads z2
  have z3 := k4.reads z3
  clear k4 hf h4 u0 u1 u2 u3
  go_wp2_with fail
  refine reg_made (by kernel_rfl) (by kernel_rfl) ?_
  intro T hT f hf
  have u0 := Class.reads hf z0
  have u1 := Class.reads hf z1
  have u2 := Class.reads hf z2
  have u3 := Class.reads hf z3
  repeat (go_big_quiet_step ((first
    | (go_at_call 26; with_reducible exact hf.same (abs_is A X _ iA EX.out))
    | (go_at_call 26; with_reducible exact hf.same (abs_is B Y _ iB EY.out)))))
  refine wpQuiet_nil ?_
  intro w5 h5
  have k5 := hf.here h5
  have hW := hid (hW.out.then_ (k5.low hW.out.1.size))
  have z0 := k5.reads z0
  have z1 := k5.reads z1
  have z2 := k5.reads z2
  have z3 := k5.reads z3
  clear k5 hf h5 u0 u1 u2 u3
  go_wp2_with fail
  refine reg_made (by kernel_rfl) (by kernel_rfl) ?_
  intro T hT f hf
  have u0 := Class.reads hf z0
  have u1 := Class.reads hf z1
  have u2 := Class.reads hf z2
  have u3 := Class.reads hf z3
  repeat (go_big_quiet_step ((first
    | (go_at_call 11; with_reducible exact hf.made (vadd_is A B C D U V _ iA iB iC iD EU.out EV.out))
    | (go_at_call 22; with_reducible exact hf.made (vlen_is U V J _ iU iV EJ.out))
    | (go_at_call 22; with_reducible exact hf.made (vlen_is C D K _ iC iD EK.out))
    | (go_at_call 15; with_reducible exact hf.made (vneg_is A B (-A) (-B) _ iA iB NA.out NB.out))
    | (go_at_call 22; with_reducible exact hf.made (vlen_is (-A) (-B) N _ iNA iNB E5.out)))))
  refine wpQuiet_nil ?_
  intro w6 h6
  have k6 := hf.here h6
  have hw := hid (hW.out.then_ (k6.low hW.out.1.size))
  clear k6 hf h6 u0 u1 u2 u3 z0 z1 z2 z3 hW
  go_wp2_with fail
  go_ret
  exact ⟨by simp, hw.out.grown⟩
end Go.Proofs.Yteahacfmmfjlmaa.Fx
