/- VecLaws: the walk. -/
import Derived.Test.YteahacfmmfjlmaaVecE
namespace Go.Proofs.Yteahacfmmfjlmaa.Fx
open Go.ChangeShapes Go.WideShapes Go.ChangeAt Go.RowKit
set_option linter.unusedVariables false

/-- a number of at most 2^44 units -/
def Sx (a : Int) : Prop := -17592186044416 ≤ a ∧ a ≤ 17592186044416
theorem sx_bring {a : Int} (h : I64 a) : Sx (bringF a (negF 17592186044416) 17592186044416) := by
  have := bring_around h (m := 17592186044416) (by omega) (by omega)
  rw [show negF 17592186044416 = -17592186044416 from by decide]
  exact ⟨this.1, this.2.1⟩
theorem sx_rg {a : Int} (h : Sx a) : Rg a := by unfold Sx Rg at *; omega
theorem sx_neg {a : Int} (h : Sx a) : Sx (-a) := by unfold Sx at *; omega
theorem dot_left0 {a b : Int} (ha : Rg a) (hb : Rg b) : addF (mulF a (-b)) (mulF b a) = 0 := by
  have h1 := rg_mul a b
  rw [mul_neg_right ha hb, mul_comm' b a, addR (Rg_neg h1) h1, show -mulF a b + mulF a b = 0 from by omega]; decide
theorem cross_self (a b : Int) : subF (mulF a b) (mulF b a) = 0 := by
  rw [mul_comm' b a]; exact sub_self (rg_mul a b)
theorem add_sub {a c : Int} (ha : Sx a) (hc : Sx c) : subF (addF a c) c = a := by
  have e : addF a c = a + c := by rw [addR (sx_rg ha) (sx_rg hc), satR (by unfold Sx Rg at *; omega)]
  rw [e]; unfold subF
  rw [negR (sx_rg hc), addR (by unfold Sx Rg at *; omega) (Rg_neg (sx_rg hc)), show a + c + -c = a from by omega, satR (sx_rg ha)]
theorem add_comm' (a c : Int) : addF a c = addF c a := by unfold addF; rw [Int.add_comm]
theorem mul_two_neg {a b : Int} (ha : Rg a) (hb : Rg b) : mulF (-a) (-b) = mulF a b := by
  rw [mul_neg_left ha (Rg_neg hb), mul_neg_right ha hb]; omega
theorem dot_turned {a b c d : Int} (hb : Rg b) (hd : Rg d) : addF (mulF (-b) (-d)) (mulF a c) = addF (mulF a c) (mulF b d) := by
  rw [mul_two_neg hb hd, add_comm']
theorem cross_turned {a b c d : Int} (ha : Rg a) (hb : Rg b) (hc : Rg c) (hd : Rg d) : subF (mulF (-b) c) (mulF a (-d)) = subF (mulF a d) (mulF b c) := by
  have h1 := rg_mul a d
  have h2 := rg_mul b c
  rw [mul_neg_left hb hc, mul_neg_right ha hd]
  unfold subF
  rw [negR (Rg_neg h1), negR h2, addR (Rg_neg h2) (Rg_neg (Rg_neg h1)), addR h1 (Rg_neg h2)]
  congr 1; omega
theorem len_turned {a b : Int} (ha : Rg a) (hb : Rg b) : lenF (-b) a = lenF a b := by
  unfold lenF; rw [mul_two_neg hb hb, add_comm']
theorem sub_is (a b r : Int) (w : World) (ha : I64 a) (hb : I64 b) (e : subF a b = r) : Calls Try.prog 14 #[.int .i64 a, .int .i64 b] w fun e w' => e = .returned (.int .i64 r) ∧ w = w' := by subst e; exact sub_c a b w ha hb
set_option maxRecDepth 100000 in
set_option maxHeartbeats 4000000 in
theorem vlaws_walk (a b c d : Int) (w : World) (ha : I64 a) (hb : I64 b) (hc : I64 c) (hd : I64 d) :
    Calls Try.prog 7 #[vecV a b, vecV c d] w fun e w' => e = .returned (.bool true) ∧ Grown w w' := by
  obtain ⟨A, eA⟩ : ∃ A, bringF a (negF 17592186044416) 17592186044416 = A := ⟨_, rfl⟩
  have sA := sx_bring ha
  rw [eA] at sA
  have rA := sx_rg sA
  have iA := i64_rg rA
  have iNA := i64_rg (Rg_neg rA)
  have EA := hid eA
  have NA : Hid (negF A = -A) := hid (negR rA)
  have NNA : Hid (negF (-A) = A) := hid ((negR (Rg_neg rA)).trans (Int.neg_neg A))
  obtain ⟨B, eB⟩ : ∃ B, bringF b (negF 17592186044416) 17592186044416 = B := ⟨_, rfl⟩
  have sB := sx_bring hb
  rw [eB] at sB
  have rB := sx_rg sB
  have iB := i64_rg rB
  have iNB := i64_rg (Rg_neg rB)
  have EB := hid eB
  have NB : Hid (negF B = -B) := hid (negR rB)
  have NNB : Hid (negF (-B) = B) := hid ((negR (Rg_neg rB)).trans (Int.neg_neg B))
  obtain ⟨C, eC⟩ : ∃ C, bringF c (negF 17592186044416) 17592186044416 = C := ⟨_, rfl⟩
  have sC := sx_bring hc
  rw [eC] at sC
  have rC := sx_rg sC
  have iC := i64_rg rC
  have iNC := i64_rg (Rg_neg rC)
  have EC := hid eC
  have NC : Hid (negF C = -C) := hid (negR rC)
  have NNC : Hid (negF (-C) = C) := hid ((negR (Rg_neg rC)).trans (Int.neg_neg C))
  obtain ⟨D, eD⟩ : ∃ D, bringF d (negF 17592186044416) 17592186044416 = D := ⟨_, rfl⟩
  have sD := sx_bring hd
  rw [eD] at sD
  have rD := sx_rg sD
  have iD := i64_rg rD
  have iND := i64_rg (Rg_neg rD)
  have ED := hid eD
  have ND : Hid (negF D = -D) := hid (negR rD)
  have NND : Hid (negF (-D) = D) := hid ((negR (Rg_neg rD)).trans (Int.neg_neg D))
  have iM : I64 17592186044416 := by unfold I64; omega
  have iO : I64 4294967296 := by unfold I64; omega
  obtain ⟨X, eX⟩ : ∃ X, addF (mulF A C) (mulF B D) = X := ⟨_, rfl⟩
  obtain ⟨Y, eY⟩ : ∃ Y, subF (mulF A D) (mulF B C) = Y := ⟨_, rfl⟩
  obtain ⟨Z, eZ⟩ : ∃ Z, lenF A B = Z := ⟨_, rfl⟩
  obtain ⟨U, eU⟩ : ∃ U, addF A C = U := ⟨_, rfl⟩
  obtain ⟨V, eV⟩ : ∃ V, addF B D = V := ⟨_, rfl⟩
  have iU := i64_add A C
  have iV := i64_add B D
  rw [eU] at iU
  rw [eV] at iV
  have Q1 : Hid (addF (mulF A (-B)) (mulF B A) = 0) := hid (dot_left0 rA rB)
  have Q2 : Hid (subF (mulF A B) (mulF B A) = 0) := hid (cross_self A B)
  have Q3 : Hid (subF U C = A) := hid (by rw [← eU]; exact add_sub sA sC)
  have Q4 : Hid (subF V D = B) := hid (by rw [← eV]; exact add_sub sB sD)
  have Q5 : Hid (addF C A = U) := hid (by rw [add_comm', eU])
  have Q6 : Hid (addF D B = V) := hid (by rw [add_comm', eV])
  have Q7 : Hid (addF (mulF C A) (mulF D B) = X) := hid (by rw [mul_comm' C A, mul_comm' D B, eX])
  have Q8 : Hid (addF (mulF (-B) (-D)) (mulF A C) = X) := hid (by rw [dot_turned rB rD, eX])
  have Q9 : Hid (subF (mulF (-B) C) (mulF A (-D)) = Y) := hid (by rw [cross_turned rA rB rC rD, eY])
  have Q10 : Hid (lenF (-B) A = Z) := hid (by rw [len_turned rA rB, eZ])
  have Q11 : Hid (mulF A 4294967296 = A) := hid (mul_one rA)
  have Q12 : Hid (mulF B 4294967296 = B) := hid (mul_one rB)
  have EX := hid eX
  have EY := hid eY
  have EZ := hid eZ
  have EU := hid eU
  have EV := hid eV
  clear eA eB eC eD eX eY eZ eU eV sA sB sC sD rA rB rC rD
  go_enter Try.func7, Try.ntmps7
  go_wp2_with fail
  refine (vfit_c _).mono ?_
  rintro e w1 ⟨rfl, k1⟩
  have P0 := (has_new w 24 #[.int .i64 a, .int .i64 b]).more (.cells #[.int .i64 c, .int .i64 d] 24)
  have R0 := has_new (w.alloc (.cells #[.int .i64 a, .int .i64 b] 24)) 24 #[.int .i64 c, .int .i64 d]
  have P1 := P0.stays k1 (by simp; try omega)
  have R1 := R0.stays k1 (by simp; try omega)
  have hw1 := hid (made_box (made_box k1))
  clear P0 R0 k1
  go_wp2_with fail
  have c0 := P1.at_ 0
  have c1 := P1.at_ 1
  have d0 := R1.at_ 0
  have d1 := R1.at_ 1
  simp at c0 c1 d0 d1
  refine reg_made_tail 4 (by kernel_rfl) (by kernel_rfl) ?_
  intro T hT f hf
  have x0 := Class.reads hf c0
  have x1 := Class.reads hf c1
  have y0 := Class.reads hf d0
  have y1 := Class.reads hf d1
  simp only [List.take_succ_cons, List.take_zero, List.drop_succ_cons, List.drop_zero]
  repeat (go_big_quiet_step ((first
    | (go_at_call 27; with_reducible exact hf.made (vbring_is a b 17592186044416 A B _ ha hb iM EA.out EB.out))
    | (go_at_call 27; with_reducible exact hf.made (vbring_is c d 17592186044416 C D _ hc hd iM EC.out ED.out)))))
  refine wpQuiet_nil ?_
  intro w2 h2
  have k2 := hf.here h2
  have P2 := P1.stays k2 P1.here
  have R2 := R1.stays k2 R1.here
  have hw2 := hid (hw1.out.then_ (k2.low hw1.out.1.size))
  clear P1 R1 k2 hf h2 x0 x1 y0 y1 c0 c1 d0 d1
  have c0 := P2.at_ 0
  have c1 := P2.at_ 1
  have d0 := R2.at_ 0
  have d1 := R2.at_ 1
  have m0 := P2.free 0
  have m1 := P2.free 1
  have n0 := R2.free 0
  have n1 := R2.free 1
  simp at c0 c1 d0 d1 m0 m1 n0 n1
  go_wp2_with fail
  obtain ⟨W, eW⟩ : ∃ W, W = ((((w2.setCell ⟨w.heap.size, 0, none⟩ (.int .i64 A)).setCell ⟨w.heap.size, 1, none⟩ (.int .i64 B)).setCell ⟨w.heap.size + 1, 0, none⟩ (.int .i64 C)).setCell ⟨w.heap.size + 1, 1, none⟩ (.int .i64 D)) := ⟨_, rfl⟩
  have z0 : W.cell? ⟨w.heap.size, 0, none⟩ = some (.int .i64 A) := by rw [eW]; go_simp
  have z1 : W.cell? ⟨w.heap.size, 1, none⟩ = some (.int .i64 B) := by rw [eW]; go_simp
  have z2 : W.cell? ⟨w.heap.size + 1, 0, none⟩ = some (.int .i64 C) := by rw [eW]; go_simp
  have z3 : W.cell? ⟨w.heap.size + 1, 1, none⟩ = some (.int .i64 D) := by rw [eW]; go_simp
  have hW : Hid (Made w.heap.size w W) := by
    rw [eW]; exact (((hw2.out.put (by simp) _).put (by simp) _).put (by simp) _).put (by simp) _
  rw [← eW]
  clear eW P2 R2 hw2 c0 c1 d0 d1 m0 m1 n0 n1
  refine (vleft_is A B (-B) _ iA iB NB.out).mono ?_
  rintro e w3 ⟨rfl, k3⟩
  have hW := hid (hW.out.then_ (k3.low hW.out.1.size))
  have z0 := k3.reads z0
  have z1 := k3.reads z1
  have z2 := k3.reads z2
  have z3 := k3.reads z3
  have s3 : w.heap.size < w3.heap.size := World.block_lt_of_cell? _ _ z0
  have s4 : w.heap.size + 1 < w3.heap.size := World.block_lt_of_cell? _ _ z2
  clear k3
  go_wp2_with fail
  obtain ⟨W4, eW⟩ : ∃ W4, W4 = w3.alloc (.cells #[.int .i64 (-B), .int .i64 A] 24) := ⟨_, rfl⟩
  have y0 : W4.cell? ⟨w3.heap.size, 0, none⟩ = some (.int .i64 (-B)) := by rw [eW]; go_simp
  have y1 : W4.cell? ⟨w3.heap.size, 1, none⟩ = some (.int .i64 A) := by rw [eW]; go_simp
  have z0 : W4.cell? ⟨w.heap.size, 0, none⟩ = some (.int .i64 A) := by rw [eW]; go_simp
  have z1 : W4.cell? ⟨w.heap.size, 1, none⟩ = some (.int .i64 B) := by rw [eW]; go_simp
  have z2 : W4.cell? ⟨w.heap.size + 1, 0, none⟩ = some (.int .i64 C) := by rw [eW]; go_simp
  have z3 : W4.cell? ⟨w.heap.size + 1, 1, none⟩ = some (.int .i64 D) := by rw [eW]; go_simp
  have hW : Hid (Made w.heap.size w W4) := by rw [eW]; exact hW.out.cells (Nat.le_of_lt s3) _ _
  rw [← eW]
  clear eW s3 s4
  refine reg_made (by kernel_rfl) (by kernel_rfl) ?_
  intro T hT f hf
  have u0 := Class.reads hf z0
  have u1 := Class.reads hf z1
  have u2 := Class.reads hf z2
  have u3 := Class.reads hf z3
  have v0 := Class.reads hf y0
  have v1 := Class.reads hf y1
  repeat (go_big_quiet_step ((first
    | (go_at_call 20; with_reducible exact hf.made (vleft_is (-B) A (-A) _ iNB iA NA.out))
    | (go_at_call 20; with_reducible exact hf.made (vleft_is (-A) (-B) B _ iNA iNB NNB.out))
    | (go_at_call 20; with_reducible exact hf.made (vleft_is B (-A) A _ iB iNA NNA.out))
    | (go_at_call 15; with_reducible exact hf.made (vneg_is A B (-A) (-B) _ iA iB NA.out NB.out))
    | (go_at_call 18; with_reducible exact hf.made (vdot_is A B (-B) A 0 _ iA iB iNB iA Q1.out))
    | (go_at_call 19; with_reducible exact hf.made (vcross_is A B A B 0 _ iA iB iA iB Q2.out)))))
  refine wpQuiet_nil ?_
  intro w5 h5
  have k5 := hf.here h5
  have hW := hid (hW.out.then_ (k5.low hW.out.1.size))
  have z0 := k5.reads z0
  have z1 := k5.reads z1
  have z2 := k5.reads z2
  have z3 := k5.reads z3
  have y0 := k5.reads y0
  have y1 := k5.reads y1
  clear k5 hf h5 u0 u1 u2 u3 v0 v1
  go_wp2_with fail
  refine reg_made (by kernel_rfl) (by kernel_rfl) ?_
  intro T hT f hf
  have u0 := Class.reads hf z0
  have u1 := Class.reads hf z1
  have u2 := Class.reads hf z2
  have u3 := Class.reads hf z3
  have v0 := Class.reads hf y0
  have v1 := Class.reads hf y1
  repeat (go_big_quiet_step ((first
    | (go_at_call 11; with_reducible exact hf.made (vadd_is A B C D U V _ iA iB iC iD EU.out EV.out))
    | (go_at_call 11; with_reducible exact hf.made (vadd_is C D A B U V _ iC iD iA iB Q5.out Q6.out))
    | (go_at_call 13; with_reducible exact hf.made (vsub_is U V C D A B _ iU iV iC iD Q3.out Q4.out))
    | (go_at_call 18; with_reducible exact hf.made (vdot_is A B C D X _ iA iB iC iD EX.out))
    | (go_at_call 18; with_reducible exact hf.made (vdot_is C D A B X _ iC iD iA iB Q7.out)))))
  refine wpQuiet_nil ?_
  intro w6 h6
  have k6 := hf.here h6
  have hW := hid (hW.out.then_ (k6.low hW.out.1.size))
  have z0 := k6.reads z0
  have z1 := k6.reads z1
  have z2 := k6.reads z2
  have z3 := k6.reads z3
  have y0 := k6.reads y0
  have y1 := k6.reads y1
  clear k6 hf h6 u0 u1 u2 u3 v0 v1
  go_wp2_with fail
  refine reg_made (by kernel_rfl) (by kernel_rfl) ?_
  intro T hT f hf
  have u0 := Class.reads hf z0
  have u1 := Class.reads hf z1
  have u2 := Class.reads hf z2
  have u3 := Class.reads hf z3
  have v0 := Class.reads hf y0
  have v1 := Class.reads hf y1
  repeat (go_big_quiet_step ((first
    | (go_at_call 20; with_reducible exact hf.made (vleft_is C D (-D) _ iC iD ND.out))
    | (go_at_call 18; with_reducible exact hf.made (vdot_is (-B) A (-D) C X _ iNB iA iND iC Q8.out))
    | (go_at_call 18; with_reducible exact hf.made (vdot_is A B C D X _ iA iB iC iD EX.out))
    | (go_at_call 19; with_reducible exact hf.made (vcross_is (-B) A (-D) C Y _ iNB iA iND iC Q9.out))
    | (go_at_call 19; with_reducible exact hf.made (vcross_is A B C D Y _ iA iB iC iD EY.out))
    | (go_at_call 22; with_reducible exact hf.made (vlen_is (-B) A Z _ iNB iA Q10.out))
    | (go_at_call 22; with_reducible exact hf.made (vlen_is A B Z _ iA iB EZ.out))
    | (go_at_call 16; with_reducible exact hf.made (vscale_is A B 4294967296 A B _ iA iB iO Q11.out Q12.out)))))
  refine wpQuiet_nil ?_
  intro w7 h7
  have k7 := hf.here h7
  have hw := hid (hW.out.then_ (k7.low hW.out.1.size))
  clear k7 hf h7 u0 u1 u2 u3 v0 v1 z0 z1 z2 z3 y0 y1 hW
  go_wp2_with fail
  go_ret
  exact ⟨by simp, hw.out.grown⟩
end Go.Proofs.Yteahacfmmfjlmaa.Fx
