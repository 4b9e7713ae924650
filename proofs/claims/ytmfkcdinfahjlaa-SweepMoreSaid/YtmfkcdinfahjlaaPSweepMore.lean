/- SweepMore: for every slice of items and every item the statement about one item more returns true and leaves its arguments; no condition. -/
import Derived.Test.YtmfkcdinfahjlaaRows
import Derived.WalkKit
import Derived.ProofKit
import Derived.OpenShut
import Derived.ShutString
import Derived.Lib.SmallJoins
import Derived.ChangeOld
import Derived.Below
import Derived.Test.YtmfkcdinfahjlaaSwQz
import Derived.Test.YtmfkcdinfahjlaaArr
import Derived.Test.YtmfkcdinfahjlaaSwO
namespace Go.Proofs.Ytmfkcdinfahjlaa.sweepMore
open Go.ChangeShapes Go.WideShapes Go.ChangeAt Go.RowKit Go.Joins Go.Deep
set_option linter.unusedVariables false

theorem own : ownKnob Try.prog.godebug = none := by kernel_rfl
theorem laidOut : laidOutB Try.prog = true := by kernel_rfl
theorem cells24 : Try.prog.cellsOf 24 = 1 := by kernel_rfl
theorem cells26 : Try.prog.cellsOf 26 = 2 := by kernel_rfl
theorem cells3 : Try.prog.cellsOf 3 = 1 := by kernel_rfl
theorem cells4 : Try.prog.cellsOf 4 = 1 := by kernel_rfl
theorem cells43 : Try.prog.cellsOf 43 = 4 := by kernel_rfl
theorem cells61 : Try.prog.cellsOf 61 = 6 := by kernel_rfl

theorem walk (o0 : Option Addr) (n0 c0 : Nat) (l0 : List Fx.It) (x1_0 : Int) (x1_1 : Int) (x1_2 : Int) (x1_3 : Int) (x1_4 : Int) (x1_5 : Bool) (w : World) (s0 : Fx.ItIn w o0 n0 c0 l0) (wx1_0 : (Lit.int .i64 x1_0).wf = true) (wx1_1 : (Lit.int .i64 x1_1).wf = true) (wx1_2 : (Lit.int .i64 x1_2).wf = true) (wx1_3 : (Lit.int .i64 x1_3).wf = true) (wx1_4 : (Lit.int .i64 x1_4).wf = true) :
    Calls Try.prog 7 #[.slice o0 n0 c0, .agg #[.int .i64 x1_0, .int .i64 x1_1, .int .i64 x1_2, .int .i64 x1_3, .int .i64 x1_4, .bool x1_5]] w fun e w' => e = .returned (.bool true) ∧ Below w.heap.size w w' :=
  (Fx.swmore_walk o0 n0 c0 l0 x1_0 x1_1 x1_2 x1_3 x1_4 x1_5 w s0 (Fx.it_wf wx1_0 wx1_1 wx1_2 wx1_3 wx1_4)).mono fun _ _ h => ⟨h.1, by first | exact h.2 | exact h.2.1⟩

set_option maxRecDepth 100000 in
theorem lifted (os : Os) (started : os.Started) (H : Type) (enc : TypeId × Value → H) :
    ReturnsInHanded {} Try.checked os 7 .any (Rows.sweepMoreSpec.pre6 enc Try.prog Try.f7 Rows.sweepMoreRow.domain false) (Rows.sweepMoreSpec.post enc Try.prog Try.f7 false true false false) := by
  refine returnsInHanded_of_change (C := Try.checked) own started (by kernel_rfl) Try.func7
    (ChangeSpec.witness6 (enc := enc) (C := Try.checked) false ⟨#[], #[.slice none 0 0, .agg #[.int .i64 0, .int .i64 0, .int .i64 0, .int .i64 0, .int .i64 0, .bool false]], []⟩ 8 (by kernel_rfl) (by kernel_rfl) (by kernel_rfl) (by kernel_rfl)) ?_
  intro W base args ds gs before hval0 hW hcnd _
  have hval : ∀ (j : Nat) t v, Try.f7.params[j]? = some t → args[j]? = some v → Value.okWide Try.prog W .any base t v := hval0
  have hW' := hW
  obtain ⟨p, q, hA0, hV, rfl, hfz, hnd⟩ := hW
  have hA : DataW.TrodAll enc Try.prog W 0 (fun _ => true) true Try.f7.params.toList args.toList ds p := hA0
  rw [Try.params7] at hA hval
  obtain ⟨v0, vs0, d0, ds0, p0, q0, hargs, rfl, rfl, h0, r0'⟩ := trodAll_cons hA
  obtain ⟨v1, vs1, d1, ds1, p1, q1, rfl, rfl, rfl, h1, r1'⟩ := trodAll_cons r0'
  obtain ⟨rfl, rfl, rfl⟩ := trodAll_nil r1'
  obtain rfl : args = #[v0, v1] := by cases args; simp_all
  obtain ⟨rfl, rfl⟩ := trodVars_none hV
  have k0 := h0
  have lt0 : ∀ x ∈ p0, x.block < W.heap.size := by obtain ⟨m, hm⟩ := k0; exact DataW.trod_lt m _ _ _ hm
  obtain ⟨o0, n0, c0, rfl⟩ := okWide_slice Try.underlying52 (hval 0 52 v0 rfl rfl)
  obtain ⟨fu0, hf0⟩ := h0
  simp only [Value.cells] at hf0
  obtain ⟨oo0, nn0, cc0, l0, ev0, s0⟩ := Fx.open_items hf0
  cases ev0
  have k1 := h1
  have lt1 : ∀ x ∈ p1, x.block < W.heap.size := by obtain ⟨m, hm⟩ := k1; exact DataW.trod_lt m _ _ _ hm
  obtain ⟨csa1, rfl, sz1⟩ := okWide_struct Try.underlying61 (hval 1 61 v1 rfl rfl)
  obtain ⟨cc1_0, cc1_1, cc1_2, cc1_3, cc1_4, cc1_5, rfl⟩ := Fx.array_6 (sz1.trans cells61)
  obtain ⟨fu1, hf1⟩ := h1
  simp only [Value.cells] at hf1
  obtain ⟨yy1_0_61_0, yy1_0_61_1, yy1_0_61_2, nn1_0_61, _, _, tt1_0_61_0, tt1_0_61_1, tt1_0_61_2⟩ := trod_struct3 Try.underlying61 hf1
  have tt1_0_61_0' : DataW.trod enc Try.prog W 0 (fun _ => true) true nn1_0_61 3 [cc1_0] = some yy1_0_61_0 := by simpa [cells3] using tt1_0_61_0
  obtain ⟨x1_0, ex1_0, _, wx1_0⟩ := DataW.trod_int Try.underlying3 tt1_0_61_0'
  simp at ex1_0
  subst ex1_0
  have tt1_0_61_1' : DataW.trod enc Try.prog W 0 (fun _ => true) true nn1_0_61 43 [cc1_1, cc1_2, cc1_3, cc1_4] = some yy1_0_61_1 := by simpa [cells43] using tt1_0_61_1
  obtain ⟨yy1_1_43_0, yy1_1_43_1, nn1_1_43, _, _, tt1_1_43_0, tt1_1_43_1⟩ := trod_struct2 Try.underlying43 tt1_0_61_1'
  have tt1_1_43_0' : DataW.trod enc Try.prog W 0 (fun _ => true) true nn1_1_43 26 [cc1_1, cc1_2] = some yy1_1_43_0 := by simpa [cells26] using tt1_1_43_0
  obtain ⟨yy1_1_26_0, yy1_1_26_1, nn1_1_26, _, _, tt1_1_26_0, tt1_1_26_1⟩ := trod_struct2 Try.underlying26 tt1_1_43_0'
  have tt1_1_26_0' : DataW.trod enc Try.prog W 0 (fun _ => true) true nn1_1_26 24 [cc1_1] = some yy1_1_26_0 := by simpa [cells24] using tt1_1_26_0
  obtain ⟨x1_1, ex1_1, _, wx1_1⟩ := DataW.trod_int Try.underlying24 tt1_1_26_0'
  simp at ex1_1
  subst ex1_1
  have tt1_1_26_1' : DataW.trod enc Try.prog W 0 (fun _ => true) true nn1_1_26 24 [cc1_2] = some yy1_1_26_1 := by simpa [cells24] using tt1_1_26_1
  obtain ⟨x1_2, ex1_2, _, wx1_2⟩ := DataW.trod_int Try.underlying24 tt1_1_26_1'
  simp at ex1_2
  subst ex1_2
  have tt1_1_43_1' : DataW.trod enc Try.prog W 0 (fun _ => true) true nn1_1_43 26 [cc1_3, cc1_4] = some yy1_1_43_1 := by simpa [cells26] using tt1_1_43_1
  obtain ⟨yy1_3_26_0, yy1_3_26_1, nn1_3_26, _, _, tt1_3_26_0, tt1_3_26_1⟩ := trod_struct2 Try.underlying26 tt1_1_43_1'
  have tt1_3_26_0' : DataW.trod enc Try.prog W 0 (fun _ => true) true nn1_3_26 24 [cc1_3] = some yy1_3_26_0 := by simpa [cells24] using tt1_3_26_0
  obtain ⟨x1_3, ex1_3, _, wx1_3⟩ := DataW.trod_int Try.underlying24 tt1_3_26_0'
  simp at ex1_3
  subst ex1_3
  have tt1_3_26_1' : DataW.trod enc Try.prog W 0 (fun _ => true) true nn1_3_26 24 [cc1_4] = some yy1_3_26_1 := by simpa [cells24] using tt1_3_26_1
  obtain ⟨x1_4, ex1_4, _, wx1_4⟩ := DataW.trod_int Try.underlying24 tt1_3_26_1'
  simp at ex1_4
  subst ex1_4
  have tt1_0_61_2' : DataW.trod enc Try.prog W 0 (fun _ => true) true nn1_0_61 4 [cc1_5] = some yy1_0_61_2 := by simpa [cells4] using tt1_0_61_2
  obtain ⟨x1_5, ex1_5, _⟩ := DataW.trod_bool Try.underlying4 tt1_0_61_2'
  simp at ex1_5
  subst ex1_5
  clear hA0 hval0
  refine (walk o0 n0 c0 l0 x1_0 x1_1 x1_2 x1_3 x1_4 x1_5 W s0 wx1_0 wx1_1 wx1_2 wx1_3 wx1_4).mono fun e W' ⟨he, bel⟩ => ?_
  subst he
  exact ⟨_, rfl, _, _, _, [], _, [], hW', trodAll_mk1 (shut_bool Try.underlying4 _), (trodAll_cons_mk (Below.trod laidOut (by kernel_rfl) (of_decide_eq_true (by kernel_rfl)) k0 bel lt0) (trodAll_cons_mk (Below.trod laidOut (by kernel_rfl) (of_decide_eq_true (by kernel_rfl)) k1 bel lt1) trodAll_mk0)), rfl, bel.frame _, fun h => by cases h⟩

theorem over : Rows.sweepMoreRow.holds Try.pinned (OpenSpec.ofChange Rows.sweepMoreSpec) :=
  OpenClaim.holds_of_wide 7 Try.f7 rfl rfl rfl rfl rfl rfl rfl ⟨rfl, rfl, rfl, rfl, rfl⟩ rfl rfl rfl rfl rfl (by kernel_rfl) Try.func7 (by kernel_rfl)
    (of_decide_eq_true (by kernel_rfl)) (by unfold Func.isWrapper; first | (rw [if_pos (by decide +kernel)]; kernel_rfl) | (rw [if_neg (by decide +kernel)]; exact ⟨rfl, rfl⟩))
    (fun os started H enc _ => lifted os started H enc)

theorem proved : Rows.SweepMoreSaid :=
  over
end Go.Proofs.Ytmfkcdinfahjlaa.sweepMore
