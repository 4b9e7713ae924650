/- Contracts of package vec. -/
import Derived.Test.YtekcehhoimhjeaaReg
import Derived.Test.YtekcehhoimhjeaaTurnB
import Derived.Test.YtekcehhoimhjeaaFixC
import Derived.Test.YtekcehhoimhjeaaFixR
import Derived.Test.YtekcehhoimhjeaaFixH
import Derived.Test.YtekcehhoimhjeaaVecM
namespace Go.Proofs.Ytekcehhoimhjeaa.Fx
open Go.ChangeShapes Go.WideShapes Go.ChangeAt Go.RowKit
set_option linter.unusedVariables false

/-- a vector as a value -/
abbrev vecV (x y : Int) : Value := .agg #[.int .i64 x, .int .i64 y]
theorem made_box {w w1 : World} {A : Array Value} {t : TypeId} (hb : Made (w.alloc (.cells A t)).heap.size (w.alloc (.cells A t)) w1) : Made w.heap.size w w1 :=
  ((Made.rfl_ w.heap.size w).cells (Nat.le_refl _) A t).then_ (hb.low (by simp))
set_option maxRecDepth 100000 in
set_option maxHeartbeats 1000000 in
theorem vadd_c (a b c d : Int) (w : World) (ha : I64 a) (hb : I64 b) (hc : I64 c) (hd : I64 d) :
    Calls Try.prog 14 #[vecV a b, vecV c d] w fun e w' => e = .returned (vecV (addF a c) (addF b d)) ∧ Made w.heap.size w w' := by
  go_enter Try.func14, Try.ntmps14
  go_wp2_with fail
  refine reg_made_tail 11 (by kernel_rfl) (by kernel_rfl) ?_
  intro T hT f hf
  have c00 := Class.reads hf (p := ⟨w.heap.size, 0, none⟩) (u := .int .i64 a) (by go_simp)
  have c01 := Class.reads hf (p := ⟨w.heap.size, 1, none⟩) (u := .int .i64 b) (by go_simp)
  have c10 := Class.reads hf (p := ⟨w.heap.size + 1, 0, none⟩) (u := .int .i64 c) (by go_simp)
  have c11 := Class.reads hf (p := ⟨w.heap.size + 1, 1, none⟩) (u := .int .i64 d) (by go_simp)
  simp only [List.take_succ_cons, List.take_zero, List.drop_succ_cons, List.drop_zero]
  repeat (go_big_quiet_step (((go_at_call 31; exact hf.same (add_c _ _ _ (by first | assumption | exact i64_mul _ _ | exact i64_add _ _ | exact i64_sub _ _ | exact i64_div _ _ | exact i64_sqrt _ | exact i64_neg (by assumption)) (by first | assumption | exact i64_mul _ _ | exact i64_add _ _ | exact i64_sub _ _ | exact i64_div _ _ | exact i64_sqrt _ | exact i64_neg (by assumption)))))))
  refine wpQuiet_nil ?_
  intro w1 h1
  have hb := hf.here h1
  have r0 := hb.reads (p := ⟨w.heap.size + 1 + 1, 0, none⟩) (x := .int .i64 0) (by go_simp)
  have m0 : w1.frozen? ⟨w.heap.size + 1 + 1, 0, none⟩ = false := (hb.2 _).trans (by go_simp)
  have r1 := hb.reads (p := ⟨w.heap.size + 1 + 1, 1, none⟩) (x := .int .i64 0) (by go_simp)
  have m1 : w1.frozen? ⟨w.heap.size + 1 + 1, 1, none⟩ = false := (hb.2 _).trans (by go_simp)
  have hw := hid (made_box (made_box (made_box (hb))))
  clear hb hf h1 c00 c01 c10 c11
  go_wp2_with fail
  refine bodyPost_ret (v := vecV (addF a c) (addF b d)) (by simp [results, Try.results14, go_sem, r0, r1]) rfl ⟨rfl, ?_⟩
  exact (hw.out.put (by simp; try omega) _).put (by simp; try omega) _
set_option maxRecDepth 100000 in
set_option maxHeartbeats 1000000 in
theorem vsub_c (a b c d : Int) (w : World) (ha : I64 a) (hb : I64 b) (hc : I64 c) (hd : I64 d) :
    Calls Try.prog 19 #[vecV a b, vecV c d] w fun e w' => e = .returned (vecV (subF a c) (subF b d)) ∧ Made w.heap.size w w' := by
  go_enter Try.func19, Try.ntmps19
  go_wp2_with fail
  refine reg_made_tail 11 (by kernel_rfl) (by kernel_rfl) ?_
  intro T hT f hf
  have c00 := Class.reads hf (p := ⟨w.heap.size, 0, none⟩) (u := .int .i64 a) (by go_simp)
  have c01 := Class.reads hf (p := ⟨w.heap.size, 1, none⟩) (u := .int .i64 b) (by go_simp)
  have c10 := Class.reads hf (p := ⟨w.heap.size + 1, 0, none⟩) (u := .int .i64 c) (by go_simp)
  have c11 := Class.reads hf (p := ⟨w.heap.size + 1, 1, none⟩) (u := .int .i64 d) (by go_simp)
  simp only [List.take_succ_cons, List.take_zero, List.drop_succ_cons, List.drop_zero]
  repeat (go_big_quiet_step (((go_at_call 32; exact hf.same (sub_c _ _ _ (by first | assumption | exact i64_mul _ _ | exact i64_add _ _ | exact i64_sub _ _ | exact i64_div _ _ | exact i64_sqrt _ | exact i64_neg (by assumption)) (by first | assumption | exact i64_mul _ _ | exact i64_add _ _ | exact i64_sub _ _ | exact i64_div _ _ | exact i64_sqrt _ | exact i64_neg (by assumption)))))))
  refine wpQuiet_nil ?_
  intro w1 h1
  have hb := hf.here h1
  have r0 := hb.reads (p := ⟨w.heap.size + 1 + 1, 0, none⟩) (x := .int .i64 0) (by go_simp)
  have m0 : w1.frozen? ⟨w.heap.size + 1 + 1, 0, none⟩ = false := (hb.2 _).trans (by go_simp)
  have r1 := hb.reads (p := ⟨w.heap.size + 1 + 1, 1, none⟩) (x := .int .i64 0) (by go_simp)
  have m1 : w1.frozen? ⟨w.heap.size + 1 + 1, 1, none⟩ = false := (hb.2 _).trans (by go_simp)
  have hw := hid (made_box (made_box (made_box (hb))))
  clear hb hf h1 c00 c01 c10 c11
  go_wp2_with fail
  refine bodyPost_ret (v := vecV (subF a c) (subF b d)) (by simp [results, Try.results19, go_sem, r0, r1]) rfl ⟨rfl, ?_⟩
  exact (hw.out.put (by simp; try omega) _).put (by simp; try omega) _
set_option maxRecDepth 100000 in
set_option maxHeartbeats 1000000 in
theorem vdot_c (a b c d : Int) (w : World) (ha : I64 a) (hb : I64 b) (hc : I64 c) (hd : I64 d) :
    Calls Try.prog 21 #[vecV a b, vecV c d] w fun e w' => e = .returned (.int .i64 (addF (mulF a c) (mulF b d))) ∧ Made w.heap.size w w' := by
  go_enter Try.func21, Try.ntmps21
  go_wp2_with fail
  refine reg_made (by kernel_rfl) (by kernel_rfl) ?_
  intro T hT f hf
  have c00 := Class.reads hf (p := ⟨w.heap.size, 0, none⟩) (u := .int .i64 a) (by go_simp)
  have c01 := Class.reads hf (p := ⟨w.heap.size, 1, none⟩) (u := .int .i64 b) (by go_simp)
  have c10 := Class.reads hf (p := ⟨w.heap.size + 1, 0, none⟩) (u := .int .i64 c) (by go_simp)
  have c11 := Class.reads hf (p := ⟨w.heap.size + 1, 1, none⟩) (u := .int .i64 d) (by go_simp)
  repeat (go_big_quiet_step ((first
      | (go_at_call 23; exact hf.same (mul_c _ _ _ (by first | assumption | exact i64_mul _ _ | exact i64_add _ _ | exact i64_sub _ _ | exact i64_div _ _ | exact i64_sqrt _ | exact i64_neg (by assumption)) (by first | assumption | exact i64_mul _ _ | exact i64_add _ _ | exact i64_sub _ _ | exact i64_div _ _ | exact i64_sqrt _ | exact i64_neg (by assumption))))
      | (go_at_call 31; exact hf.same (add_c _ _ _ (by first | assumption | exact i64_mul _ _ | exact i64_add _ _ | exact i64_sub _ _ | exact i64_div _ _ | exact i64_sqrt _ | exact i64_neg (by assumption)) (by first | assumption | exact i64_mul _ _ | exact i64_add _ _ | exact i64_sub _ _ | exact i64_div _ _ | exact i64_sqrt _ | exact i64_neg (by assumption)))))))
  refine wpQuiet_nil ?_
  intro w1 h1
  have hb := hf.here h1
  have hw := hid (made_box (made_box (hb)))
  clear hb hf h1 c00 c01 c10 c11
  go_wp2_with fail
  go_ret
  exact ⟨rfl, hw.out⟩
set_option maxRecDepth 100000 in
set_option maxHeartbeats 1000000 in
theorem vcross_c (a b c d : Int) (w : World) (ha : I64 a) (hb : I64 b) (hc : I64 c) (hd : I64 d) :
    Calls Try.prog 27 #[vecV a b, vecV c d] w fun e w' => e = .returned (.int .i64 (subF (mulF a d) (mulF b c))) ∧ Made w.heap.size w w' := by
  go_enter Try.func27, Try.ntmps27
  go_wp2_with fail
  refine reg_made (by kernel_rfl) (by kernel_rfl) ?_
  intro T hT f hf
  have c00 := Class.reads hf (p := ⟨w.heap.size, 0, none⟩) (u := .int .i64 a) (by go_simp)
  have c01 := Class.reads hf (p := ⟨w.heap.size, 1, none⟩) (u := .int .i64 b) (by go_simp)
  have c10 := Class.reads hf (p := ⟨w.heap.size + 1, 0, none⟩) (u := .int .i64 c) (by go_simp)
  have c11 := Class.reads hf (p := ⟨w.heap.size + 1, 1, none⟩) (u := .int .i64 d) (by go_simp)
  repeat (go_big_quiet_step ((first
      | (go_at_call 23; exact hf.same (mul_c _ _ _ (by first | assumption | exact i64_mul _ _ | exact i64_add _ _ | exact i64_sub _ _ | exact i64_div _ _ | exact i64_sqrt _ | exact i64_neg (by assumption)) (by first | assumption | exact i64_mul _ _ | exact i64_add _ _ | exact i64_sub _ _ | exact i64_div _ _ | exact i64_sqrt _ | exact i64_neg (by assumption))))
      | (go_at_call 32; exact hf.same (sub_c _ _ _ (by first | assumption | exact i64_mul _ _ | exact i64_add _ _ | exact i64_sub _ _ | exact i64_div _ _ | exact i64_sqrt _ | exact i64_neg (by assumption)) (by first | assumption | exact i64_mul _ _ | exact i64_add _ _ | exact i64_sub _ _ | exact i64_div _ _ | exact i64_sqrt _ | exact i64_neg (by assumption)))))))
  refine wpQuiet_nil ?_
  intro w1 h1
  have hb := hf.here h1
  have hw := hid (made_box (made_box (hb)))
  clear hb hf h1 c00 c01 c10 c11
  go_wp2_with fail
  go_ret
  exact ⟨rfl, hw.out⟩
set_option maxRecDepth 100000 in
set_option maxHeartbeats 1000000 in
theorem vapply_c (c s a b : Int) (w : World) (hc : I64 c) (hs : I64 s) (ha : I64 a) (hb : I64 b) :
    Calls Try.prog 15 #[vecV c s, vecV a b] w fun e w' => e = .returned (vecV (subF (mulF c a) (mulF s b)) (addF (mulF s a) (mulF c b))) ∧ Made w.heap.size w w' := by
  go_enter Try.func15, Try.ntmps15
  go_wp2_with fail
  refine reg_made_tail 23 (by kernel_rfl) (by kernel_rfl) ?_
  intro T hT f hf
  have c00 := Class.reads hf (p := ⟨w.heap.size, 0, none⟩) (u := .int .i64 c) (by go_simp)
  have c01 := Class.reads hf (p := ⟨w.heap.size, 1, none⟩) (u := .int .i64 s) (by go_simp)
  have c10 := Class.reads hf (p := ⟨w.heap.size + 1, 0, none⟩) (u := .int .i64 a) (by go_simp)
  have c11 := Class.reads hf (p := ⟨w.heap.size + 1, 1, none⟩) (u := .int .i64 b) (by go_simp)
  simp only [List.take_succ_cons, List.take_zero, List.drop_succ_cons, List.drop_zero]
  repeat (go_big_quiet_step ((first
      | (go_at_call 23; exact hf.same (mul_c _ _ _ (by first | assumption | exact i64_mul _ _ | exact i64_add _ _ | exact i64_sub _ _ | exact i64_div _ _ | exact i64_sqrt _ | exact i64_neg (by assumption)) (by first | assumption | exact i64_mul _ _ | exact i64_add _ _ | exact i64_sub _ _ | exact i64_div _ _ | exact i64_sqrt _ | exact i64_neg (by assumption))))
      | (go_at_call 32; exact hf.same (sub_c _ _ _ (by first | assumption | exact i64_mul _ _ | exact i64_add _ _ | exact i64_sub _ _ | exact i64_div _ _ | exact i64_sqrt _ | exact i64_neg (by assumption)) (by first | assumption | exact i64_mul _ _ | exact i64_add _ _ | exact i64_sub _ _ | exact i64_div _ _ | exact i64_sqrt _ | exact i64_neg (by assumption))))
      | (go_at_call 31; exact hf.same (add_c _ _ _ (by first | assumption | exact i64_mul _ _ | exact i64_add _ _ | exact i64_sub _ _ | exact i64_div _ _ | exact i64_sqrt _ | exact i64_neg (by assumption)) (by first | assumption | exact i64_mul _ _ | exact i64_add _ _ | exact i64_sub _ _ | exact i64_div _ _ | exact i64_sqrt _ | exact i64_neg (by assumption)))))))
  refine wpQuiet_nil ?_
  intro w1 h1
  have hb := hf.here h1
  have r0 := hb.reads (p := ⟨w.heap.size + 1 + 1, 0, none⟩) (x := .int .i64 0) (by go_simp)
  have m0 : w1.frozen? ⟨w.heap.size + 1 + 1, 0, none⟩ = false := (hb.2 _).trans (by go_simp)
  have r1 := hb.reads (p := ⟨w.heap.size + 1 + 1, 1, none⟩) (x := .int .i64 0) (by go_simp)
  have m1 : w1.frozen? ⟨w.heap.size + 1 + 1, 1, none⟩ = false := (hb.2 _).trans (by go_simp)
  have hw := hid (made_box (made_box (made_box (hb))))
  clear hb hf h1 c00 c01 c10 c11
  go_wp2_with fail
  refine bodyPost_ret (v := vecV (subF (mulF c a) (mulF s b)) (addF (mulF s a) (mulF c b))) (by simp [results, Try.results15, go_sem, r0, r1]) rfl ⟨rfl, ?_⟩
  exact (hw.out.put (by simp; try omega) _).put (by simp; try omega) _
end Go.Proofs.Ytekcehhoimhjeaa.Fx
