/- The statements' own anchor of layer 3. -/
import Derived.Test.YteahacfmmfjlmaaVecB
namespace Go.Proofs.Yteahacfmmfjlmaa.Fx
open Go.ChangeShapes Go.WideShapes Go.ChangeAt Go.RowKit
set_option linter.unusedVariables false

theorem quarter_c (w : World) : Calls Try.prog 28 #[.int .i64 1073741824] w fun e w' => e = .returned (rotV 0 4294967296) ∧ Made w.heap.size w w' := by
  have h := turnOf_c 1073741824 w (by unfold I64; omega)
  rw [show cs (stepF 1073741824) = 0 from by decide +kernel, show sn (stepF 1073741824) = 4294967296 from by decide +kernel] at h
  exact h
theorem lit64 {a : Int} (h : -9223372036854775808 ≤ a ∧ a ≤ 9223372036854775807) : I64 a := h
set_option maxRecDepth 100000 in
set_option maxHeartbeats 1000000 in
theorem vfit_c (w : World) : Calls Try.prog 9 #[] w fun e w' => e = .returned (.bool true) ∧ Made w.heap.size w w' := by
  go_enter Try.func9, Try.ntmps9
  go_wp2_with fail
  refine (of_is 3 12884901888 _ (lit64 (by omega)) (by decide)).mono ?_
  rintro e w' ⟨rfl, rfl⟩
  go_wp2_with fail
  refine (of_is 4 17179869184 _ (lit64 (by omega)) (by decide)).mono ?_
  rintro e w' ⟨rfl, rfl⟩
  go_wp2_with fail
  refine (vunit_is 12884901888 17179869184 (.tuple #[vecV 2576980377 3435973836, .bool true]) _ (lit64 (by omega)) (lit64 (by omega)) (unitV_of (n := 21474836480) (by decide +kernel) (by decide) (by decide +kernel) (by decide +kernel))).mono ?_
  rintro e w1 ⟨rfl, k1⟩
  have c0 := k1.reads (p := ⟨w.heap.size, 0, none⟩) (x := .int .i64 12884901888) (by go_simp)
  have c1 := k1.reads (p := ⟨w.heap.size, 1, none⟩) (x := .int .i64 17179869184) (by go_simp)
  have s1 : w.heap.size < w1.heap.size := by have := k1.1.size; simp at this; omega
  have H1 := hid (made_box k1)
  clear k1
  go_wp2_with fail
  refine reg_made (by kernel_rfl) (by kernel_rfl) ?_
  intro T hT f hf
  have d0 := Class.reads hf (p := ⟨w.heap.size, 0, none⟩) (u := .int .i64 12884901888) (by go_simp)
  have d1 := Class.reads hf (p := ⟨w.heap.size, 1, none⟩) (u := .int .i64 17179869184) (by go_simp)
  have e0 := Class.reads hf (p := ⟨w1.heap.size, 0, none⟩) (u := .int .i64 2576980377) (by go_simp)
  have e1 := Class.reads hf (p := ⟨w1.heap.size, 1, none⟩) (u := .int .i64 3435973836) (by go_simp)
  repeat (go_big_quiet_step ((first
    | (go_at_call 22; exact hf.made (vlen_is 12884901888 17179869184 21474836480 _ (lit64 (by omega)) (lit64 (by omega)) (by decide +kernel)))
    | (go_at_call 32; with_reducible exact hf.same (of_is 5 21474836480 _ (lit64 (by omega)) (by decide)))
    | (go_at_call 32; with_reducible exact hf.same (of_is (-4) (-17179869184) _ (lit64 (by omega)) (by decide)))
    | (go_at_call 32; with_reducible exact hf.same (of_is 3 12884901888 _ (lit64 (by omega)) (by decide)))
    | (go_at_call 33; exact hf.drawn (part_is 3 5 2576980377 _ (lit64 (by omega)) (lit64 (by omega)) (by decide +kernel)))
    | (go_at_call 28; exact hf.made (quarter_c _))
    | (go_at_call 29; exact hf.made (vapply_is 0 4294967296 12884901888 17179869184 (-17179869184) 12884901888 _ (lit64 (by omega)) (lit64 (by omega)) (lit64 (by omega)) (lit64 (by omega)) (by decide +kernel) (by decide +kernel))))))
  refine wpQuiet_nil ?_
  intro w2 h2
  have hw := hid (H1.out.then_ ((made_box (hf.here h2)).low (Nat.le_of_lt s1)))
  clear hf h2 d0 d1 e0 e1 c0 c1
  go_wp2_with fail
  go_ret
  exact ⟨rfl, hw.out⟩
end Go.Proofs.Yteahacfmmfjlmaa.Fx
