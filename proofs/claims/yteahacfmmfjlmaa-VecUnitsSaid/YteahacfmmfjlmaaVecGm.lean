/- VecUnits: a case of the walk. -/
import Derived.Test.YteahacfmmfjlmaaVecG
namespace Go.Proofs.Yteahacfmmfjlmaa.Fx
open Go.ChangeShapes Go.WideShapes Go.ChangeAt Go.RowKit
set_option linter.unusedVariables false

set_option maxRecDepth 100000 in
set_option maxHeartbeats 4000000 in
theorem vunits_mid (a b : Int) (w : World) (ha : I64 a) (hb : I64 b) (hz : ¬ lenF (cl a) (cl b) = 0) (h : 42949672 ≤ max (absF (cl a)) (absF (cl b))) (h' : max (absF (cl a)) (absF (cl b)) ≤ 17179869184000) :
    Calls Try.prog 4 #[vecV a b] w fun e w' => e = .returned (.bool true) ∧ Grown w w' := by
  obtain ⟨A, eA⟩ : ∃ A, cl a = A := ⟨_, rfl⟩
  have rA := rg_cl ha
  rw [eA] at rA
  have iA := i64_rg rA
  have EA := hid eA
  obtain ⟨B, eB⟩ : ∃ B, cl b = B := ⟨_, rfl⟩
  have rB := rg_cl hb
  rw [eB] at rB
  have iB := i64_rg rB
  have EB := hid eB
  rw [eA, eB] at hz h h'
  obtain ⟨S, eS⟩ : ∃ S, addF (mulF A A) (mulF B B) = S := ⟨_, rfl⟩
  have iS := i64_add (mulF A A) (mulF B B)
  rw [eS] at iS
  obtain ⟨N, eN⟩ : ∃ N, lenF A B = N := ⟨_, rfl⟩
  have bN := sqrt_bd S
  have eN2 : sqrtF S = N := by rw [← eS]; exact eN
  rw [eN2] at bN
  obtain ⟨N0, N1⟩ := bN
  have iN : I64 N := by unfold I64; omega
  have ES := hid eS
  have EN := hid eN
  have EN2 := hid eN2
  have hN : 0 < N := by rw [eN] at hz; omega
  clear hz
  obtain ⟨U, eU⟩ : ∃ U, divF A N = U := ⟨_, rfl⟩
  obtain ⟨V, eV⟩ : ∃ V, divF B N = V := ⟨_, rfl⟩
  have iU := i64_div A N
  have iV := i64_div B N
  rw [eU] at iU
  rw [eV] at iV
  have EX : Hid (unitV A B = .tuple #[vecV U V, .bool true]) := hid (unitV_of eN (by omega) eU eV)
  have EU := hid eU
  have EV := hid eV
  obtain ⟨X, eX⟩ : ∃ X, absF A = X := ⟨_, rfl⟩
  obtain ⟨Y, eY⟩ : ∃ Y, absF B = Y := ⟨_, rfl⟩
  have bX := absR_bd rA
  have b_Y := absR_bd rB
  rw [eX] at bX
  rw [eY] at b_Y
  obtain ⟨X0, X1⟩ := bX
  obtain ⟨Y0, Y1⟩ := b_Y
  have FX := hid eX
  have FY := hid eY
  obtain ⟨M, eM⟩ : ∃ M, max X Y = M := ⟨_, rfl⟩
  have hx := absR rA
  have hy := absR rB
  rw [eX] at hx
  rw [eY] at hy
  rw [eX, eY] at h h'
  obtain ⟨K, eK⟩ : ∃ K, lenF U V = K := ⟨_, rfl⟩
  have bK := unit_len (a := A) (b := B) (by split at hx <;> omega) (by split at hy <;> omega) (by rw [eX, eY]; omega)
  rw [eN, eU, eV, eK] at bK
  obtain ⟨K0, K1⟩ := bK
  obtain ⟨J, eJ⟩ : ∃ J, absF (K - 4294967296) = J := ⟨_, rfl⟩
  have J1 : J < 4294967 := by
    have := absR (a := K - 4294967296) (by unfold Rg; omega)
    rw [eJ] at this; split at this <;> omega
  have iK : I64 (K - 4294967296) := by unfold I64; omega
  rw [eM] at h h'
  clear hx hy
  have EK := hid eK
  have EJ := hid eJ
  clear eX eY eU eV eK eJ
  clear eA eB eS eN eN2 rA rB
  go_enter Try.func4, Try.ntmps4
  go_wp2_with fail
  refine (vfit_c _).mono ?_
  rintro e w1 ⟨rfl, k1⟩
  have P1 := (has_new w 24 #[.int .i64 a, .int .i64 b]).stays k1 (by simp; try omega)
  have hw1 := hid (made_box k1)
  clear k1
  have c0 := P1.at_ 0
  have c1 := P1.at_ 1
  simp at c0 c1
  go_wp2_with fail
  refine (tame_is a b A B _ ha hb EA.out EB.out).mono ?_
  rintro e w2 ⟨rfl, k2⟩
  have P2 := P1.stays k2 P1.here
  have hw2 := hid (hw1.out.then_ (k2.low hw1.out.1.size))
  clear P1 k2 c0 c1
  have c0 := P2.at_ 0
  have c1 := P2.at_ 1
  have m0 := P2.free 0
  have m1 := P2.free 1
  simp at c0 c1 m0 m1
  go_wp2_with fail
  obtain ⟨W, eW⟩ : ∃ W, W = ((w2.setCell ⟨w.heap.size, 0, none⟩ (.int .i64 A)).setCell ⟨w.heap.size, 1, none⟩ (.int .i64 B)) := ⟨_, rfl⟩
  have z0 : W.cell? ⟨w.heap.size, 0, none⟩ = some (.int .i64 A) := by rw [eW]; go_simp
  have z1 : W.cell? ⟨w.heap.size, 1, none⟩ = some (.int .i64 B) := by rw [eW]; go_simp
  have hW : Hid (Made w.heap.size w W) := by rw [eW]; exact (hw2.out.put (by simp) _).put (by simp) _
  rw [← eW]
  clear eW P2 hw2 c0 c1 m0 m1
  refine (vlen_is A B N _ iA iB EN.out).mono ?_
  rintro e w3 ⟨rfl, k3⟩
  have hW := hid (hW.out.then_ (k3.low hW.out.1.size))
  have z0 := k3.reads z0
  have z1 := k3.reads z1
  clear k3
  go_wp2_with fail
  refine (vunit_is A B _ _ iA iB EX.out).mono ?_
  rintro e w4 ⟨rfl, k4⟩
  have hW := hid (hW.out.then_ (k4.low hW.out.1.size))
  have z0 := k4.reads z0
  have z1 := k4.reads z1
  have s4 : w.heap.size < w4.heap.size := World.block_lt_of_cell? _ _ z0
  clear k4
  go_wp2_with fail
  refine (vdot_is A B A B S _ iA iB iA iB ES.out).mono ?_
  rintro e w5 ⟨rfl, k5⟩
  have z0 := k5.reads (p := ⟨w.heap.size, 0, none⟩) (x := .int .i64 A) (by go_simp)
  have z1 := k5.reads (p := ⟨w.heap.size, 1, none⟩) (x := .int .i64 B) (by go_simp)
  have y0 := k5.reads (p := ⟨w4.heap.size, 0, none⟩) (x := .int .i64 U) (by go_simp)
  have y1 := k5.reads (p := ⟨w4.heap.size, 1, none⟩) (x := .int .i64 V) (by go_simp)
  have hW := hid (hW.out.then_ ((made_box k5).low (Nat.le_of_lt s4)))
  clear k5 s4
  go_wp2_with fail
  refine (sqrt_is S N _ iS EN2.out).mono ?_
  rintro e w' ⟨rfl, rfl⟩
  go_wp2_with fail
  refine reg_made (by kernel_rfl) (by kernel_rfl) ?_
  intro T hT f hf
  have u0 := Class.reads hf z0
  have u1 := Class.reads hf z1
  have v0 := Class.reads hf y0
  have v1 := Class.reads hf y1
  repeat (go_big_quiet_step ((first
    | (go_at_call 25; with_reducible exact hf.drawn (div_is A N U _ iA iN EU.out))
    | (go_at_call 25; with_reducible exact hf.drawn (div_is B N V _ iB iN EV.out)))))
  refine wpQuiet_nil ?_
  intro w6 h6
  have k6 := hf.here h6
  have hW := hid (hW.out.then_ (k6.low hW.out.1.size))
  have z0 := k6.reads z0
  have z1 := k6.reads z1
  have y0 := k6.reads y0
  have y1 := k6.reads y1
  clear k6 hf h6 u0 u1 v0 v1
  go_wp2_with fail
  refine reg_made (by kernel_rfl) (by kernel_rfl) ?_
  intro T hT f hf
  have u0 := Class.reads hf z0
  have u1 := Class.reads hf z1
  have v0 := Class.reads hf y0
  have v1 := Class.reads hf y1
  repeat (go_big_quiet_step ((first
    | (go_at_call 26; with_reducible exact hf.same (abs_is A X _ iA FX.out))
    | (go_at_call 26; with_reducible exact hf.same (abs_is B Y _ iB FY.out)))))
  refine wpQuiet_nil ?_
  intro w7 h7
  have k7 := hf.here h7
  have hW := hid (hW.out.then_ (k7.low hW.out.1.size))
  have z0 := k7.reads z0
  have z1 := k7.reads z1
  have y0 := k7.reads y0
  have y1 := k7.reads y1
  clear k7 hf h7 u0 u1 v0 v1
  go_wp2_with fail
  refine (vlen_is U V K _ iU iV EK.out).mono ?_
  rintro e w8 ⟨rfl, k8⟩
  have hW := hid (hW.out.then_ (k8.low hW.out.1.size))
  clear k8 z0 z1 y0 y1
  go_wp2_with fail
  refine (abs_is (K - 4294967296) J _ iK EJ.out).mono ?_
  rintro e w' ⟨rfl, rfl⟩
  go_wp2_with fail
  go_ret
  exact ⟨by simp, hW.out.grown⟩
end Go.Proofs.Yteahacfmmfjlmaa.Fx
