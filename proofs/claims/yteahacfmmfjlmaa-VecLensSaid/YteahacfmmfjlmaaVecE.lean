/- VecAdds: the walk. -/
import Derived.Test.YteahacfmmfjlmaaVecD
namespace Go.Proofs.Yteahacfmmfjlmaa.Fx
open Go.ChangeShapes Go.WideShapes Go.ChangeAt Go.RowKit
set_option linter.unusedVariables false

theorem vspun_is (s a b x y : Int) (w : World) (hs : I64 s) (ha : I64 a) (hb : I64 b) (ex : mulF (negF b) s = x) (ey : mulF a s = y) : Calls Try.prog 21 #[.int .i64 s, vecV a b] w fun e w' => e = .returned (vecV x y) ∧ Made w.heap.size w w' := by subst ex; subst ey; exact vspun_c s a b w hs ha hb
theorem tame_is (a b x y : Int) (w : World) (ha : I64 a) (hb : I64 b) (ex : cl a = x) (ey : cl b = y) : Calls Try.prog 10 #[vecV a b] w fun e w' => e = .returned (vecV x y) ∧ Made w.heap.size w w' := by subst ex; subst ey; exact tame_c a b w ha hb
theorem rg_cl {a : Int} (h : I64 a) : Rg (cl a) := by have := cl_bd h; unfold L M at this; unfold Rg; omega
/-- what goes across, turned over -/
theorem cross_swap {a b c d : Int} : subF (mulF a d) (mulF b c) = -subF (mulF c b) (mulF d a) := by
  have h1 := rg_mul a d
  have h2 := rg_mul b c
  rw [mul_comm' c b, mul_comm' d a]
  unfold subF
  rw [negR h1, negR h2, addR h1 (Rg_neg h2), addR h2 (Rg_neg h1), ← sat_neg']
  congr 1; omega
theorem dot_left {a b c d : Int} (ha : Rg a) (hd : Rg d) : addF (mulF a (-d)) (mulF b c) = -subF (mulF a d) (mulF b c) := by
  have h1 := rg_mul a d
  have h2 := rg_mul b c
  rw [mul_neg_right ha hd]
  unfold subF
  rw [negR h2, addR (Rg_neg h1) h2, addR h1 (Rg_neg h2), ← sat_neg']
  congr 1; omega
set_option maxRecDepth 100000 in
set_option maxHeartbeats 4000000 in
theorem vadds_walk (a b c d s : Int) (w : World) (ha : I64 a) (hb : I64 b) (hc : I64 c) (hd : I64 d) (hs : I64 s) :
    Calls Try.prog 3 #[vecV a b, vecV c d, .int .i64 s] w fun e w' => e = .returned (.bool true) ∧ Grown w w' := by
  obtain ⟨A, eA⟩ : ∃ A, cl a = A := ⟨_, rfl⟩
  obtain ⟨B, eB⟩ : ∃ B, cl b = B := ⟨_, rfl⟩
  obtain ⟨C, eC⟩ : ∃ C, cl c = C := ⟨_, rfl⟩
  obtain ⟨D, eD⟩ : ∃ D, cl d = D := ⟨_, rfl⟩
  have rA := rg_cl ha
  have rB := rg_cl hb
  have rC := rg_cl hc
  have rD := rg_cl hd
  rw [eA] at rA
  rw [eB] at rB
  rw [eC] at rC
  rw [eD] at rD
  have iA := i64_rg rA
  have iB := i64_rg rB
  have iC := i64_rg rC
  have iD := i64_rg rD
  obtain ⟨X, eX⟩ : ∃ X, subF (mulF C B) (mulF D A) = X := ⟨_, rfl⟩
  have rX := rg_sub (mulF C B) (mulF D A)
  rw [eX] at rX
  have EX := hid eX
  have EY : Hid (subF (mulF A D) (mulF B C) = -X) := hid (by rw [cross_swap, eX])
  have EZ : Hid (addF (mulF A (-D)) (mulF B C) = X) := hid (by rw [dot_left rA rD, cross_swap, eX]; omega)
  have NA : Hid (negF A = -A) := hid (negR rA)
  have NB : Hid (negF B = -B) := hid (negR rB)
  have ND : Hid (negF D = -D) := hid (negR rD)
  have EA := hid eA
  have EB := hid eB
  have EC := hid eC
  have ED := hid eD
  obtain ⟨A0, A1⟩ := rA
  obtain ⟨B0, B1⟩ := rB
  obtain ⟨C0, C1⟩ := rC
  obtain ⟨D0, D1⟩ := rD
  obtain ⟨X0, X1⟩ := rX
  have iNB : I64 (-B) := by unfold I64; omega
  have iND : I64 (-D) := by unfold I64; omega
  clear eA eB eC eD eX
  go_enter Try.func3, Try.ntmps3
  go_wp2_with fail
  refine (vfit_c _).mono ?_
  rintro e w1 ⟨rfl, k1⟩
  have P0 := (has_new w 24 #[.int .i64 a, .int .i64 b]).more (.cells #[.int .i64 c, .int .i64 d] 24)
  have Q0 := has_new (w.alloc (.cells #[.int .i64 a, .int .i64 b] 24)) 24 #[.int .i64 c, .int .i64 d]
  have P1 := P0.stays k1 (by simp; try omega)
  have Q1 := Q0.stays k1 (by simp; try omega)
  have hw1 := hid (made_box (made_box k1))
  clear P0 Q0 k1
  go_wp2_with fail
  have c0 := P1.at_ 0
  have c1 := P1.at_ 1
  have d0 := Q1.at_ 0
  have d1 := Q1.at_ 1
  simp at c0 c1 d0 d1
  refine reg_made_tail 4 (by kernel_rfl) (by kernel_rfl) ?_
  intro T hT f hf
  have x0 := Class.reads hf c0
  have x1 := Class.reads hf c1
  have y0 := Class.reads hf d0
  have y1 := Class.reads hf d1
  simp only [List.take_succ_cons, List.take_zero, List.drop_succ_cons, List.drop_zero]
  repeat (go_big_quiet_step ((first
    | (go_at_call 10; with_reducible exact hf.made (tame_is a b A B _ ha hb EA.out EB.out))
    | (go_at_call 10; with_reducible exact hf.made (tame_is c d C D _ hc hd EC.out ED.out)))))
  refine wpQuiet_nil ?_
  intro w2 h2
  have k2 := hf.here h2
  have P2 := P1.stays k2 P1.here
  have Q2 := Q1.stays k2 Q1.here
  have hw2 := hid (hw1.out.then_ (k2.low hw1.out.1.size))
  clear P1 Q1 k2 hf h2 x0 x1 y0 y1 c0 c1 d0 d1
  have c0 := P2.at_ 0
  have c1 := P2.at_ 1
  have d0 := Q2.at_ 0
  have d1 := Q2.at_ 1
  have m0 := P2.free 0
  have m1 := P2.free 1
  have n0 := Q2.free 0
  have n1 := Q2.free 1
  simp at c0 c1 d0 d1 m0 m1 n0 n1
  go_wp2_with fail
  obtain ⟨W, eW⟩ : ∃ W, W = ((((w2.setCell ⟨w.heap.size, 0, none⟩ (.int .i64 A)).setCell ⟨w.heap.size, 1, none⟩ (.int .i64 B)).setCell ⟨w.heap.size + 1, 0, none⟩ (.int .i64 C)).setCell ⟨w.heap.size + 1, 1, none⟩ (.int .i64 D)) := ⟨_, rfl⟩
  have z0 : W.cell? ⟨w.heap.size, 0, none⟩ = some (.int .i64 A) := by rw [eW]; go_simp
  have z1 : W.cell? ⟨w.heap.size, 1, none⟩ = some (.int .i64 B) := by rw [eW]; go_simp
  have z2 : W.cell? ⟨w.heap.size + 1, 0, none⟩ = some (.int .i64 C) := by rw [eW]; go_simp
  have z3 : W.cell? ⟨w.heap.size + 1, 1, none⟩ = some (.int .i64 D) := by rw [eW]; go_simp
  have hW : Hid (Made w.heap.size w W) := by
    rw [eW]; exact (((hw2.out.put (by simp) _).put (by simp) _).put (by simp) _).put (by simp) _
  rw [← eW]
  clear eW P2 Q2 hw2 c0 c1 d0 d1 m0 m1 n0 n1
  refine reg_made (by kernel_rfl) (by kernel_rfl) ?_
  intro T hT f hf
  have x0 := Class.reads hf z0
  have x1 := Class.reads hf z1
  have x2 := Class.reads hf z2
  have x3 := Class.reads hf z3
  repeat (go_big_quiet_step ((first
    | (go_at_call 11; exact hf.made (vadd_c _ _ _ _ _ (by first | assumption | exact i64_mul _ _ | exact i64_add _ _ | exact i64_sub _ _) (by first | assumption | exact i64_mul _ _ | exact i64_add _ _ | exact i64_sub _ _) (by first | assumption | exact i64_mul _ _ | exact i64_add _ _ | exact i64_sub _ _) (by first | assumption | exact i64_mul _ _ | exact i64_add _ _ | exact i64_sub _ _)))
    | (go_at_call 12; exact hf.same (add_c _ _ _ (by first | assumption | exact i64_mul _ _ | exact i64_add _ _ | exact i64_sub _ _) (by first | assumption | exact i64_mul _ _ | exact i64_add _ _ | exact i64_sub _ _)))
    | (go_at_call 13; exact hf.made (vsub_c _ _ _ _ _ (by first | assumption | exact i64_mul _ _ | exact i64_add _ _ | exact i64_sub _ _) (by first | assumption | exact i64_mul _ _ | exact i64_add _ _ | exact i64_sub _ _) (by first | assumption | exact i64_mul _ _ | exact i64_add _ _ | exact i64_sub _ _) (by first | assumption | exact i64_mul _ _ | exact i64_add _ _ | exact i64_sub _ _)))
    | (go_at_call 14; exact hf.same (sub_c _ _ _ (by first | assumption | exact i64_mul _ _ | exact i64_add _ _ | exact i64_sub _ _) (by first | assumption | exact i64_mul _ _ | exact i64_add _ _ | exact i64_sub _ _)))
    | (go_at_call 15; exact hf.made (vneg_is A B (-A) (-B) _ iA iB NA.out NB.out))
    | (go_at_call 16; exact hf.made (vscale_c _ _ _ _ (by first | assumption | exact i64_mul _ _ | exact i64_add _ _ | exact i64_sub _ _) (by first | assumption | exact i64_mul _ _ | exact i64_add _ _ | exact i64_sub _ _) (by first | assumption | exact i64_mul _ _ | exact i64_add _ _ | exact i64_sub _ _)))
    | (go_at_call 17; exact hf.same (mul_c _ _ _ (by first | assumption | exact i64_mul _ _ | exact i64_add _ _ | exact i64_sub _ _) (by first | assumption | exact i64_mul _ _ | exact i64_add _ _ | exact i64_sub _ _))))))
  refine wpQuiet_nil ?_
  intro w3 h3
  have k3 := hf.here h3
  have hW := hid (hW.out.then_ (k3.low hW.out.1.size))
  have z0 := k3.reads z0
  have z1 := k3.reads z1
  have z2 := k3.reads z2
  have z3 := k3.reads z3
  clear k3 hf h3 x0 x1 x2 x3
  go_wp2_with fail
  refine reg_made (by kernel_rfl) (by kernel_rfl) ?_
  intro T hT f hf
  have x0 := Class.reads hf z0
  have x1 := Class.reads hf z1
  have x2 := Class.reads hf z2
  have x3 := Class.reads hf z3
  repeat (go_big_quiet_step ((first
    | (go_at_call 18; exact hf.made (vdot_c _ _ _ _ _ (by first | assumption | exact i64_mul _ _ | exact i64_add _ _ | exact i64_sub _ _) (by first | assumption | exact i64_mul _ _ | exact i64_add _ _ | exact i64_sub _ _) (by first | assumption | exact i64_mul _ _ | exact i64_add _ _ | exact i64_sub _ _) (by first | assumption | exact i64_mul _ _ | exact i64_add _ _ | exact i64_sub _ _)))
    | (go_at_call 19; exact hf.made (vcross_c _ _ _ _ _ (by first | assumption | exact i64_mul _ _ | exact i64_add _ _ | exact i64_sub _ _) (by first | assumption | exact i64_mul _ _ | exact i64_add _ _ | exact i64_sub _ _) (by first | assumption | exact i64_mul _ _ | exact i64_add _ _ | exact i64_sub _ _) (by first | assumption | exact i64_mul _ _ | exact i64_add _ _ | exact i64_sub _ _)))
    | (go_at_call 12; exact hf.same (add_c _ _ _ (by first | assumption | exact i64_mul _ _ | exact i64_add _ _ | exact i64_sub _ _) (by first | assumption | exact i64_mul _ _ | exact i64_add _ _ | exact i64_sub _ _)))
    | (go_at_call 14; exact hf.same (sub_c _ _ _ (by first | assumption | exact i64_mul _ _ | exact i64_add _ _ | exact i64_sub _ _) (by first | assumption | exact i64_mul _ _ | exact i64_add _ _ | exact i64_sub _ _)))
    | (go_at_call 17; exact hf.same (mul_c _ _ _ (by first | assumption | exact i64_mul _ _ | exact i64_add _ _ | exact i64_sub _ _) (by first | assumption | exact i64_mul _ _ | exact i64_add _ _ | exact i64_sub _ _))))))
  refine wpQuiet_nil ?_
  intro w4 h4
  have k4 := hf.here h4
  have hW := hid (hW.out.then_ (k4.low hW.out.1.size))
  have z0 := k4.reads z0
  have z1 := k4.reads z1
  have z2 := k4.reads z2
  have z3 := k4.reads z3
  clear k4 hf h4 x0 x1 x2 x3
  go_wp2_with fail
  refine reg_made (by kernel_rfl) (by kernel_rfl) ?_
  intro T hT f hf
  have x0 := Class.reads hf z0
  have x1 := Class.reads hf z1
  have x2 := Class.reads hf z2
  have x3 := Class.reads hf z3
  repeat (go_big_quiet_step ((first
    | (go_at_call 20; with_reducible exact hf.made (vleft_is A B (-B) _ iA iB NB.out))
    | (go_at_call 20; with_reducible exact hf.made (vleft_is C D (-D) _ iC iD ND.out))
    | (go_at_call 21; exact hf.made (vspun_is s A B (mulF (-B) s) (mulF A s) _ hs iA iB (by rw [NB.out]) rfl))
    | (go_at_call 16; exact hf.made (vscale_c (-B) A s _ iNB iA hs))
    | (go_at_call 19; with_reducible exact hf.made (vcross_is A B C D (-X) _ iA iB iC iD EY.out))
    | (go_at_call 19; with_reducible exact hf.made (vcross_is C D A B X _ iC iD iA iB EX.out))
    | (go_at_call 18; exact hf.made (vdot_is A B (-D) C X _ iA iB iND iC EZ.out)))))
  refine wpQuiet_nil ?_
  intro w5 h5
  have k5 := hf.here h5
  have hw := hid (hW.out.then_ (k5.low hW.out.1.size))
  clear k5 hf h5 x0 x1 x2 x3 z0 z1 z2 z3 hW
  go_wp2_with fail
  go_ret
  exact ⟨by simp, hw.out.grown⟩
end Go.Proofs.Yteahacfmmfjlmaa.Fx
