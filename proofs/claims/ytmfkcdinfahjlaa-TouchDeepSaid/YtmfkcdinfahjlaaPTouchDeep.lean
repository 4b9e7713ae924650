/- TouchDeep: for every two places the statement about how deep bodies touch, and how far apart their rectangles are then, returns true and leaves its arguments; no condition. -/
import Derived.Test.YtmfkcdinfahjlaaRows
import Derived.WalkKit
import Derived.ProofKit
import Derived.OpenShut
import Derived.ShutString
import Derived.Lib.SmallJoins
import Derived.ChangeOld
import Derived.Below
import Derived.Test.YtmfkcdinfahjlaaTd
import Derived.Test.YtmfkcdinfahjlaaArr
namespace Go.Proofs.Ytmfkcdinfahjlaa.touchDeep
open Go.ChangeShapes Go.WideShapes Go.ChangeAt Go.RowKit Go.Joins Go.Deep
set_option linter.unusedVariables false

theorem own : ownKnob Try.prog.godebug = none := by kernel_rfl
theorem laidOut : laidOutB Try.prog = true := by kernel_rfl
theorem cells23 : Try.prog.cellsOf 23 = 4 := by kernel_rfl
theorem cells24 : Try.prog.cellsOf 24 = 1 := by kernel_rfl
theorem cells26 : Try.prog.cellsOf 26 = 2 := by kernel_rfl
theorem cells28 : Try.prog.cellsOf 28 = 7 := by kernel_rfl
theorem cells3 : Try.prog.cellsOf 3 = 1 := by kernel_rfl

theorem walk (x0_0 : Int) (x0_1 : Int) (x0_2 : Int) (x0_3 : Int) (x0_4 : Int) (x0_5 : Int) (x0_6 : Int) (x1_0 : Int) (x1_1 : Int) (x1_2 : Int) (x1_3 : Int) (x1_4 : Int) (x1_5 : Int) (x1_6 : Int) (w : World) (wx0_0 : (Lit.int .i64 x0_0).wf = true) (wx0_1 : (Lit.int .i64 x0_1).wf = true) (wx0_2 : (Lit.int .i64 x0_2).wf = true) (wx0_3 : (Lit.int .i64 x0_3).wf = true) (wx0_4 : (Lit.int .i64 x0_4).wf = true) (wx0_5 : (Lit.int .i64 x0_5).wf = true) (wx0_6 : (Lit.int .i64 x0_6).wf = true) (wx1_0 : (Lit.int .i64 x1_0).wf = true) (wx1_1 : (Lit.int .i64 x1_1).wf = true) (wx1_2 : (Lit.int .i64 x1_2).wf = true) (wx1_3 : (Lit.int .i64 x1_3).wf = true) (wx1_4 : (Lit.int .i64 x1_4).wf = true) (wx1_5 : (Lit.int .i64 x1_5).wf = true) (wx1_6 : (Lit.int .i64 x1_6).wf = true) :
    Calls Try.prog 3 #[.agg #[.int .i64 x0_0, .int .i64 x0_1, .int .i64 x0_2, .int .i64 x0_3, .int .i64 x0_4, .int .i64 x0_5, .int .i64 x0_6], .agg #[.int .i64 x1_0, .int .i64 x1_1, .int .i64 x1_2, .int .i64 x1_3, .int .i64 x1_4, .int .i64 x1_5, .int .i64 x1_6]] w fun e w' => e = .returned (.bool true) ∧ Below w.heap.size w w' :=
  (Fx.tdeep_walk Fx.touch_says x0_0 x0_1 x0_2 x0_3 x0_4 x0_5 x0_6 x1_0 x1_1 x1_2 x1_3 x1_4 x1_5 x1_6 w (Fx.I64_wf wx0_4) (Fx.I64_wf wx0_5) (Fx.I64_wf wx1_4) (Fx.I64_wf wx1_5)).mono fun _ _ h => ⟨h.1, by first | exact h.2 | exact h.2.1⟩

set_option maxRecDepth 100000 in
theorem lifted (os : Os) (started : os.Started) (H : Type) (enc : TypeId × Value → H) :
    ReturnsInHanded {} Try.checked os 3 .any (Rows.touchDeepSpec.pre6 enc Try.prog Try.f3 Rows.touchDeepRow.domain false) (Rows.touchDeepSpec.post enc Try.prog Try.f3 false true false false) := by
  refine returnsInHanded_of_change (C := Try.checked) own started (by kernel_rfl) Try.func3
    (ChangeSpec.witness6 (enc := enc) (C := Try.checked) false ⟨#[], #[.agg #[.int .i64 0, .int .i64 0, .int .i64 0, .int .i64 0, .int .i64 0, .int .i64 0, .int .i64 0], .agg #[.int .i64 0, .int .i64 0, .int .i64 0, .int .i64 0, .int .i64 0, .int .i64 0, .int .i64 0]], []⟩ 8 (by kernel_rfl) (by kernel_rfl) (by kernel_rfl) (by kernel_rfl)) ?_
  intro W base args ds gs before hval0 hW hcnd _
  have hval : ∀ (j : Nat) t v, Try.f3.params[j]? = some t → args[j]? = some v → Value.okWide Try.prog W .any base t v := hval0
  have hW' := hW
  obtain ⟨p, q, hA0, hV, rfl, hfz, hnd⟩ := hW
  have hA : DataW.TrodAll enc Try.prog W 0 (fun _ => true) true Try.f3.params.toList args.toList ds p := hA0
  rw [Try.params3] at hA hval
  obtain ⟨v0, vs0, d0, ds0, p0, q0, hargs, rfl, rfl, h0, r0'⟩ := trodAll_cons hA
  obtain ⟨v1, vs1, d1, ds1, p1, q1, rfl, rfl, rfl, h1, r1'⟩ := trodAll_cons r0'
  obtain ⟨rfl, rfl, rfl⟩ := trodAll_nil r1'
  obtain rfl : args = #[v0, v1] := by cases args; simp_all
  obtain ⟨rfl, rfl⟩ := trodVars_none hV
  have k0 := h0
  have lt0 : ∀ x ∈ p0, x.block < W.heap.size := by obtain ⟨m, hm⟩ := k0; exact DataW.trod_lt m _ _ _ hm
  obtain ⟨csa0, rfl, sz0⟩ := okWide_struct Try.underlying28 (hval 0 28 v0 rfl rfl)
  obtain ⟨cc0_0, cc0_1, cc0_2, cc0_3, cc0_4, cc0_5, cc0_6, rfl⟩ := Fx.array_7 (sz0.trans cells28)
  obtain ⟨fu0, hf0⟩ := h0
  simp only [Value.cells] at hf0
  obtain ⟨yy0_0_28_0, yy0_0_28_1, yy0_0_28_2, nn0_0_28, _, _, tt0_0_28_0, tt0_0_28_1, tt0_0_28_2⟩ := trod_struct3 Try.underlying28 hf0
  have tt0_0_28_0' : DataW.trod enc Try.prog W 0 (fun _ => true) true nn0_0_28 23 [cc0_0, cc0_1, cc0_2, cc0_3] = some yy0_0_28_0 := by simpa [cells23] using tt0_0_28_0
  obtain ⟨yy0_0_23_0, yy0_0_23_1, yy0_0_23_2, yy0_0_23_3, nn0_0_23, _, _, tt0_0_23_0, tt0_0_23_1, tt0_0_23_2, tt0_0_23_3⟩ := trod_struct4 Try.underlying23 tt0_0_28_0'
  have tt0_0_23_0' : DataW.trod enc Try.prog W 0 (fun _ => true) true nn0_0_23 3 [cc0_0] = some yy0_0_23_0 := by simpa [cells3] using tt0_0_23_0
  obtain ⟨x0_0, ex0_0, _, wx0_0⟩ := DataW.trod_int Try.underlying3 tt0_0_23_0'
  simp at ex0_0
  subst ex0_0
  have tt0_0_23_1' : DataW.trod enc Try.prog W 0 (fun _ => true) true nn0_0_23 3 [cc0_1] = some yy0_0_23_1 := by simpa [cells3] using tt0_0_23_1
  obtain ⟨x0_1, ex0_1, _, wx0_1⟩ := DataW.trod_int Try.underlying3 tt0_0_23_1'
  simp at ex0_1
  subst ex0_1
  have tt0_0_23_2' : DataW.trod enc Try.prog W 0 (fun _ => true) true nn0_0_23 3 [cc0_2] = some yy0_0_23_2 := by simpa [cells3] using tt0_0_23_2
  obtain ⟨x0_2, ex0_2, _, wx0_2⟩ := DataW.trod_int Try.underlying3 tt0_0_23_2'
  simp at ex0_2
  subst ex0_2
  have tt0_0_23_3' : DataW.trod enc Try.prog W 0 (fun _ => true) true nn0_0_23 3 [cc0_3] = some yy0_0_23_3 := by simpa [cells3] using tt0_0_23_3
  obtain ⟨x0_3, ex0_3, _, wx0_3⟩ := DataW.trod_int Try.underlying3 tt0_0_23_3'
  simp at ex0_3
  subst ex0_3
  have tt0_0_28_1' : DataW.trod enc Try.prog W 0 (fun _ => true) true nn0_0_28 26 [cc0_4, cc0_5] = some yy0_0_28_1 := by simpa [cells26] using tt0_0_28_1
  obtain ⟨yy0_4_26_0, yy0_4_26_1, nn0_4_26, _, _, tt0_4_26_0, tt0_4_26_1⟩ := trod_struct2 Try.underlying26 tt0_0_28_1'
  have tt0_4_26_0' : DataW.trod enc Try.prog W 0 (fun _ => true) true nn0_4_26 24 [cc0_4] = some yy0_4_26_0 := by simpa [cells24] using tt0_4_26_0
  obtain ⟨x0_4, ex0_4, _, wx0_4⟩ := DataW.trod_int Try.underlying24 tt0_4_26_0'
  simp at ex0_4
  subst ex0_4
  have tt0_4_26_1' : DataW.trod enc Try.prog W 0 (fun _ => true) true nn0_4_26 24 [cc0_5] = some yy0_4_26_1 := by simpa [cells24] using tt0_4_26_1
  obtain ⟨x0_5, ex0_5, _, wx0_5⟩ := DataW.trod_int Try.underlying24 tt0_4_26_1'
  simp at ex0_5
  subst ex0_5
  have tt0_0_28_2' : DataW.trod enc Try.prog W 0 (fun _ => true) true nn0_0_28 24 [cc0_6] = some yy0_0_28_2 := by simpa [cells24] using tt0_0_28_2
  obtain ⟨x0_6, ex0_6, _, wx0_6⟩ := DataW.trod_int Try.underlying24 tt0_0_28_2'
  simp at ex0_6
  subst ex0_6
  have k1 := h1
  have lt1 : ∀ x ∈ p1, x.block < W.heap.size := by obtain ⟨m, hm⟩ := k1; exact DataW.trod_lt m _ _ _ hm
  obtain ⟨csa1, rfl, sz1⟩ := okWide_struct Try.underlying28 (hval 1 28 v1 rfl rfl)
  obtain ⟨cc1_0, cc1_1, cc1_2, cc1_3, cc1_4, cc1_5, cc1_6, rfl⟩ := Fx.array_7 (sz1.trans cells28)
  obtain ⟨fu1, hf1⟩ := h1
  simp only [Value.cells] at hf1
  obtain ⟨yy1_0_28_0, yy1_0_28_1, yy1_0_28_2, nn1_0_28, _, _, tt1_0_28_0, tt1_0_28_1, tt1_0_28_2⟩ := trod_struct3 Try.underlying28 hf1
  have tt1_0_28_0' : DataW.trod enc Try.prog W 0 (fun _ => true) true nn1_0_28 23 [cc1_0, cc1_1, cc1_2, cc1_3] = some yy1_0_28_0 := by simpa [cells23] using tt1_0_28_0
  obtain ⟨yy1_0_23_0, yy1_0_23_1, yy1_0_23_2, yy1_0_23_3, nn1_0_23, _, _, tt1_0_23_0, tt1_0_23_1, tt1_0_23_2, tt1_0_23_3⟩ := trod_struct4 Try.underlying23 tt1_0_28_0'
  have tt1_0_23_0' : DataW.trod enc Try.prog W 0 (fun _ => true) true nn1_0_23 3 [cc1_0] = some yy1_0_23_0 := by simpa [cells3] using tt1_0_23_0
  obtain ⟨x1_0, ex1_0, _, wx1_0⟩ := DataW.trod_int Try.underlying3 tt1_0_23_0'
  simp at ex1_0
  subst ex1_0
  have tt1_0_23_1' : DataW.trod enc Try.prog W 0 (fun _ => true) true nn1_0_23 3 [cc1_1] = some yy1_0_23_1 := by simpa [cells3] using tt1_0_23_1
  obtain ⟨x1_1, ex1_1, _, wx1_1⟩ := DataW.trod_int Try.underlying3 tt1_0_23_1'
  simp at ex1_1
  subst ex1_1
  have tt1_0_23_2' : DataW.trod enc Try.prog W 0 (fun _ => true) true nn1_0_23 3 [cc1_2] = some yy1_0_23_2 := by simpa [cells3] using tt1_0_23_2
  obtain ⟨x1_2, ex1_2, _, wx1_2⟩ := DataW.trod_int Try.underlying3 tt1_0_23_2'
  simp at ex1_2
  subst ex1_2
  have tt1_0_23_3' : DataW.trod enc Try.prog W 0 (fun _ => true) true nn1_0_23 3 [cc1_3] = some yy1_0_23_3 := by simpa [cells3] using tt1_0_23_3
  obtain ⟨x1_3, ex1_3, _, wx1_3⟩ := DataW.trod_int Try.underlying3 tt1_0_23_3'
  simp at ex1_3
  subst ex1_3
  have tt1_0_28_1' : DataW.trod enc Try.prog W 0 (fun _ => true) true nn1_0_28 26 [cc1_4, cc1_5] = some yy1_0_28_1 := by simpa [cells26] using tt1_0_28_1
  obtain ⟨yy1_4_26_0, yy1_4_26_1, nn1_4_26, _, _, tt1_4_26_0, tt1_4_26_1⟩ := trod_struct2 Try.underlying26 tt1_0_28_1'
  have tt1_4_26_0' : DataW.trod enc Try.prog W 0 (fun _ => true) true nn1_4_26 24 [cc1_4] = some yy1_4_26_0 := by simpa [cells24] using tt1_4_26_0
  obtain ⟨x1_4, ex1_4, _, wx1_4⟩ := DataW.trod_int Try.underlying24 tt1_4_26_0'
  simp at ex1_4
  subst ex1_4
  have tt1_4_26_1' : DataW.trod enc Try.prog W 0 (fun _ => true) true nn1_4_26 24 [cc1_5] = some yy1_4_26_1 := by simpa [cells24] using tt1_4_26_1
  obtain ⟨x1_5, ex1_5, _, wx1_5⟩ := DataW.trod_int Try.underlying24 tt1_4_26_1'
  simp at ex1_5
  subst ex1_5
  have tt1_0_28_2' : DataW.trod enc Try.prog W 0 (fun _ => true) true nn1_0_28 24 [cc1_6] = some yy1_0_28_2 := by simpa [cells24] using tt1_0_28_2
  obtain ⟨x1_6, ex1_6, _, wx1_6⟩ := DataW.trod_int Try.underlying24 tt1_0_28_2'
  simp at ex1_6
  subst ex1_6
  clear hA0 hval0
  refine (walk x0_0 x0_1 x0_2 x0_3 x0_4 x0_5 x0_6 x1_0 x1_1 x1_2 x1_3 x1_4 x1_5 x1_6 W wx0_0 wx0_1 wx0_2 wx0_3 wx0_4 wx0_5 wx0_6 wx1_0 wx1_1 wx1_2 wx1_3 wx1_4 wx1_5 wx1_6).mono fun e W' ⟨he, bel⟩ => ?_
  subst he
  exact ⟨_, rfl, _, _, _, [], _, [], hW', trodAll_mk1 (shut_bool Try.underlying4 _), (trodAll_cons_mk (Below.trod laidOut (by kernel_rfl) (of_decide_eq_true (by kernel_rfl)) k0 bel lt0) (trodAll_cons_mk (Below.trod laidOut (by kernel_rfl) (of_decide_eq_true (by kernel_rfl)) k1 bel lt1) trodAll_mk0)), rfl, bel.frame _, fun h => by cases h⟩

theorem over : Rows.touchDeepRow.holds Try.pinned (OpenSpec.ofChange Rows.touchDeepSpec) :=
  OpenClaim.holds_of_wide 3 Try.f3 rfl rfl rfl rfl rfl rfl rfl ⟨rfl, rfl, rfl, rfl, rfl⟩ rfl rfl rfl rfl rfl (by kernel_rfl) Try.func3 (by kernel_rfl)
    (of_decide_eq_true (by kernel_rfl)) (by unfold Func.isWrapper; first | (rw [if_pos (by decide +kernel)]; kernel_rfl) | (rw [if_neg (by decide +kernel)]; exact ⟨rfl, rfl⟩))
    (fun os started H enc _ => lifted os started H enc)

theorem proved : Rows.TouchDeepSaid :=
  over
end Go.Proofs.Ytmfkcdinfahjlaa.touchDeep
