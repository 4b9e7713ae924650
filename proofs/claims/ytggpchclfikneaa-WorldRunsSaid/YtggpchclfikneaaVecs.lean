/- Contracts of package vec. -/
import Derived.Test.YtggpchclfikneaaMem
import Derived.Test.YtggpchclfikneaaTurnB
import Derived.Test.YtggpchclfikneaaFixes
import Derived.Test.YtggpchclfikneaaPlain

/- Contracts of package vec. -/
namespace Go.Proofs.Ytggpchclfikneaa.Fx
open Go.ChangeShapes Go.WideShapes Go.ChangeAt Go.RowKit
set_option linter.unusedVariables false

/-- a vector as a value -/
abbrev vecV (x y : Int) : Value := .agg #[.int .i64 x, .int .i64 y]
theorem made_box {w w1 : World} {A : Array Value} {t : TypeId} (hb : Made (w.alloc (.cells A t)).heap.size (w.alloc (.cells A t)) w1) : Made w.heap.size w w1 :=
  ((Made.rfl_ w.heap.size w).cells (Nat.le_refl _) A t).then_ (hb.low (by simp))
set_option maxRecDepth 100000 in
set_option maxHeartbeats 1000000 in
theorem vsub_c (a b c d : Int) (w : World) (ha : I64 a) (hb : I64 b) (hc : I64 c) (hd : I64 d) :
    Calls Try.prog 76 #[vecV a b, vecV c d] w fun e w' => e = .returned (vecV (subF a c) (subF b d)) ∧ Made w.heap.size w w' := by
  go_enter Try.func76, Try.ntmps76
  go_wp2_with fail
  refine reg_made_tail 11 (by kernel_rfl) (by kernel_rfl) ?_
  intro T hT f hf
  have c00 := Class.reads hf (p := ⟨w.heap.size, 0, none⟩) (u := .int .i64 a) (by go_simp)
  have c01 := Class.reads hf (p := ⟨w.heap.size, 1, none⟩) (u := .int .i64 b) (by go_simp)
  have c10 := Class.reads hf (p := ⟨w.heap.size + 1, 0, none⟩) (u := .int .i64 c) (by go_simp)
  have c11 := Class.reads hf (p := ⟨w.heap.size + 1, 1, none⟩) (u := .int .i64 d) (by go_simp)
  simp only [List.take_succ_cons, List.take_zero, List.drop_succ_cons, List.drop_zero]
  repeat (go_big_quiet_step (((go_at_call 93; exact hf.same (sub_c _ _ _ (by first | assumption | exact i64_mul _ _ | exact i64_add _ _ | exact i64_sub _ _ | exact i64_div _ _ | exact i64_sqrt _ | exact i64_neg (by assumption)) (by first | assumption | exact i64_mul _ _ | exact i64_add _ _ | exact i64_sub _ _ | exact i64_div _ _ | exact i64_sqrt _ | exact i64_neg (by assumption)))))))
  refine wpQuiet_nil ?_
  intro w1 h1
  have hb := hf.here h1
  have r0 := hb.reads (p := ⟨w.heap.size + 1 + 1, 0, none⟩) (x := .int .i64 0) (by go_simp)
  have m0 : w1.frozen? ⟨w.heap.size + 1 + 1, 0, none⟩ = false := (hb.2 _).trans (by go_simp)
  have r1 := hb.reads (p := ⟨w.heap.size + 1 + 1, 1, none⟩) (x := .int .i64 0) (by go_simp)
  have m1 : w1.frozen? ⟨w.heap.size + 1 + 1, 1, none⟩ = false := (hb.2 _).trans (by go_simp)
  have hw := hid (made_box (made_box (made_box (hb))))
  clear hb hf h1 c00 c01 c10 c11
  go_wp2_with fail
  refine bodyPost_ret (v := vecV (subF a c) (subF b d)) (by simp [results, Try.results76, go_sem, r0, r1]) rfl ⟨rfl, ?_⟩
  exact (hw.out.put (by simp; try omega) _).put (by simp; try omega) _
set_option maxRecDepth 100000 in
set_option maxHeartbeats 1000000 in
theorem vcross_c (a b c d : Int) (w : World) (ha : I64 a) (hb : I64 b) (hc : I64 c) (hd : I64 d) :
    Calls Try.prog 78 #[vecV a b, vecV c d] w fun e w' => e = .returned (.int .i64 (subF (mulF a d) (mulF b c))) ∧ Made w.heap.size w w' := by
  go_enter Try.func78, Try.ntmps78
  go_wp2_with fail
  refine reg_made (by kernel_rfl) (by kernel_rfl) ?_
  intro T hT f hf
  have c00 := Class.reads hf (p := ⟨w.heap.size, 0, none⟩) (u := .int .i64 a) (by go_simp)
  have c01 := Class.reads hf (p := ⟨w.heap.size, 1, none⟩) (u := .int .i64 b) (by go_simp)
  have c10 := Class.reads hf (p := ⟨w.heap.size + 1, 0, none⟩) (u := .int .i64 c) (by go_simp)
  have c11 := Class.reads hf (p := ⟨w.heap.size + 1, 1, none⟩) (u := .int .i64 d) (by go_simp)
  repeat (go_big_quiet_step ((first
      | (go_at_call 94; exact hf.same (mul_c _ _ _ (by first | assumption | exact i64_mul _ _ | exact i64_add _ _ | exact i64_sub _ _ | exact i64_div _ _ | exact i64_sqrt _ | exact i64_neg (by assumption)) (by first | assumption | exact i64_mul _ _ | exact i64_add _ _ | exact i64_sub _ _ | exact i64_div _ _ | exact i64_sqrt _ | exact i64_neg (by assumption))))
      | (go_at_call 93; exact hf.same (sub_c _ _ _ (by first | assumption | exact i64_mul _ _ | exact i64_add _ _ | exact i64_sub _ _ | exact i64_div _ _ | exact i64_sqrt _ | exact i64_neg (by assumption)) (by first | assumption | exact i64_mul _ _ | exact i64_add _ _ | exact i64_sub _ _ | exact i64_div _ _ | exact i64_sqrt _ | exact i64_neg (by assumption)))))))
  refine wpQuiet_nil ?_
  intro w1 h1
  have hb := hf.here h1
  have hw := hid (made_box (made_box (hb)))
  clear hb hf h1 c00 c01 c10 c11
  go_wp2_with fail
  go_ret
  exact ⟨rfl, hw.out⟩
end Go.Proofs.Ytggpchclfikneaa.Fx

/- Contracts of package vec: Bring, Spun, Len, Unit. -/
namespace Go.Proofs.Ytggpchclfikneaa.Fx
open Go.ChangeShapes Go.WideShapes Go.ChangeAt Go.RowKit
set_option linter.unusedVariables false

set_option maxRecDepth 100000 in
set_option maxHeartbeats 1000000 in
theorem vbring_c (a b m : Int) (w : World) (ha : I64 a) (hb : I64 b) (hm : I64 m) :
    Calls Try.prog 18 #[vecV a b, .int .i64 m] w fun e w' => e = .returned (vecV (bringF a (negF m) m) (bringF b (negF m) m)) ∧ Made w.heap.size w w' := by
  have hn := i64_neg hm
  go_enter Try.func18, Try.ntmps18
  go_wp2_with fail
  refine (neg_c m _ hm).mono ?_
  rintro e w' ⟨rfl, rfl⟩
  go_wp2_with fail
  refine reg_made_tail 11 (by kernel_rfl) (by kernel_rfl) ?_
  intro T hT f hf
  have c00 := Class.reads hf (p := ⟨w.heap.size, 0, none⟩) (u := .int .i64 a) (by go_simp)
  have c01 := Class.reads hf (p := ⟨w.heap.size, 1, none⟩) (u := .int .i64 b) (by go_simp)
  simp only [List.take_succ_cons, List.take_zero, List.drop_succ_cons, List.drop_zero]
  repeat (go_big_quiet_step ((go_at_call 22; exact hf.same (bring_c _ _ _ _ (by assumption) (by assumption) (by assumption)))))
  refine wpQuiet_nil ?_
  intro w1 h1
  have hb := hf.here h1
  have r0 := hb.reads (p := ⟨w.heap.size + 1, 0, none⟩) (x := .int .i64 0) (by go_simp)
  have m0 : w1.frozen? ⟨w.heap.size + 1, 0, none⟩ = false := (hb.2 _).trans (by go_simp)
  have r1 := hb.reads (p := ⟨w.heap.size + 1, 1, none⟩) (x := .int .i64 0) (by go_simp)
  have m1 : w1.frozen? ⟨w.heap.size + 1, 1, none⟩ = false := (hb.2 _).trans (by go_simp)
  have hw := hid (made_box (made_box hb))
  clear hb hf h1 c00 c01
  go_wp2_with fail
  refine bodyPost_ret (v := vecV (bringF a (negF m) m) (bringF b (negF m) m)) (by simp [results, Try.results18, go_sem, r0, r1]) rfl ⟨rfl, ?_⟩
  exact (hw.out.put (by simp; try omega) _).put (by simp; try omega) _

theorem i64_len (a b : Int) : I64 (lenF a b) := i64_sqrt _
/-- a unit vector -/
def unitV (a b : Int) : Value := if lenF a b = 0 then .tuple #[vecV 0 0, .bool false] else .tuple #[vecV (divF a (lenF a b)) (divF b (lenF a b)), .bool true]
theorem unitV_of {a b n x y : Int} (hn : lenF a b = n) (h : n ≠ 0) (hx : divF a n = x) (hy : divF b n = y) : unitV a b = .tuple #[vecV x y, .bool true] := by
  subst hn; subst hx; subst hy; unfold unitV; rw [if_neg h]
theorem unitV_no {a b : Int} (hn : lenF a b = 0) : unitV a b = .tuple #[vecV 0 0, .bool false] := by unfold unitV; rw [if_pos hn]
/-! ### the same, the answer by another name -/
theorem vcross_is (a b c d r : Int) (w : World) (ha : I64 a) (hb : I64 b) (hc : I64 c) (hd : I64 d) (e : subF (mulF a d) (mulF b c) = r) : Calls Try.prog 78 #[vecV a b, vecV c d] w fun e w' => e = .returned (.int .i64 r) ∧ Made w.heap.size w w' := by subst e; exact vcross_c a b c d w ha hb hc hd
theorem vsub_is (a b c d x y : Int) (w : World) (ha : I64 a) (hb : I64 b) (hc : I64 c) (hd : I64 d) (ex : subF a c = x) (ey : subF b d = y) : Calls Try.prog 76 #[vecV a b, vecV c d] w fun e w' => e = .returned (vecV x y) ∧ Made w.heap.size w w' := by subst ex; subst ey; exact vsub_c a b c d w ha hb hc hd
theorem vbring_is (a b m x y : Int) (w : World) (ha : I64 a) (hb : I64 b) (hm : I64 m) (ex : bringF a (negF m) m = x) (ey : bringF b (negF m) m = y) : Calls Try.prog 18 #[vecV a b, .int .i64 m] w fun e w' => e = .returned (vecV x y) ∧ Made w.heap.size w w' := by subst ex; subst ey; exact vbring_c a b m w ha hb hm
end Go.Proofs.Ytggpchclfikneaa.Fx

/- The statements' own anchor of layer 3. -/
namespace Go.Proofs.Ytggpchclfikneaa.Fx
open Go.ChangeShapes Go.WideShapes Go.ChangeAt Go.RowKit
set_option linter.unusedVariables false

theorem lit64 {a : Int} (h : -9223372036854775808 ≤ a ∧ a ≤ 9223372036854775807) : I64 a := h
end Go.Proofs.Ytggpchclfikneaa.Fx

/- VecBrings: the walk. -/
namespace Go.Proofs.Ytggpchclfikneaa.Fx
open Go.ChangeShapes Go.WideShapes Go.ChangeAt Go.RowKit
set_option linter.unusedVariables false

theorem bring_is (a b c r : Int) (w : World) (ha : I64 a) (hb : I64 b) (hc : I64 c) (e : bringF a b c = r) : Calls Try.prog 22 #[.int .i64 a, .int .i64 b, .int .i64 c] w fun e w' => e = .returned (.int .i64 r) ∧ w = w' := by subst e; exact bring_c a b c w ha hb hc
theorem abs_is (a r : Int) (w : World) (ha : I64 a) (e : absF a = r) : Calls Try.prog 99 #[.int .i64 a] w fun e w' => e = .returned (.int .i64 r) ∧ w = w' := by subst e; exact abs_c a w ha
/-- a number brought to a range around 0 -/
theorem bring_around {a m : Int} (ha : I64 a) (h0 : 0 ≤ m) (h1 : m ≤ 9223372036854775807) : -m ≤ bringF a (-m) m ∧ bringF a (-m) m ≤ m ∧ bringF (bringF a (-m) m) (-m) m = bringF a (-m) m := by
  have h2 := cl_bd ha
  unfold L M at h2
  have e1 : cl (-m) = -m := cl_id (by omega)
  have e2 : cl m = m := cl_id (by omega)
  have h : -m ≤ bringF a (-m) m ∧ bringF a (-m) m ≤ m := by unfold bringF; rw [e1, e2]; (repeat' split) <;> omega
  refine ⟨h.1, h.2, ?_⟩
  generalize bringF a (-m) m = x at h
  unfold bringF; rw [e1, e2, cl_id (by omega)]; (repeat' split) <;> omega
theorem negF_in {a : Int} (h : -9223372036854775807 ≤ a) : negF a = -a := by unfold negF; rw [cl_id h]
theorem absF_le {x m : Int} (h0 : -m ≤ x) (h1 : x ≤ m) (h2 : m ≤ 9223372036854775807) : 0 ≤ absF x ∧ absF x ≤ m := by
  unfold absF; split
  · rw [negF_in (by omega)]; omega
  · omega
end Go.Proofs.Ytggpchclfikneaa.Fx

/- VecAdds: the walk. -/
namespace Go.Proofs.Ytggpchclfikneaa.Fx
open Go.ChangeShapes Go.WideShapes Go.ChangeAt Go.RowKit
set_option linter.unusedVariables false

theorem rg_cl {a : Int} (h : I64 a) : Rg (cl a) := by have := cl_bd h; unfold L M at this; unfold Rg; omega
/-- what goes across, turned over -/
theorem cross_swap {a b c d : Int} : subF (mulF a d) (mulF b c) = -subF (mulF c b) (mulF d a) := by
  have h1 := rg_mul a d
  have h2 := rg_mul b c
  rw [mul_comm' c b, mul_comm' d a]
  unfold subF
  rw [negR h1, negR h2, addR h1 (Rg_neg h2), addR h2 (Rg_neg h1), ← sat_neg']
  congr 1; omega
theorem dot_left {a b c d : Int} (ha : Rg a) (hd : Rg d) : addF (mulF a (-d)) (mulF b c) = -subF (mulF a d) (mulF b c) := by
  have h1 := rg_mul a d
  have h2 := rg_mul b c
  rw [mul_neg_right ha hd]
  unfold subF
  rw [negR h2, addR (Rg_neg h1) h2, addR h1 (Rg_neg h2), ← sat_neg']
  congr 1; omega
end Go.Proofs.Ytggpchclfikneaa.Fx

/- VecLaws: the walk. -/
namespace Go.Proofs.Ytggpchclfikneaa.Fx
open Go.ChangeShapes Go.WideShapes Go.ChangeAt Go.RowKit
set_option linter.unusedVariables false

/-- a number of at most 2^44 units -/
def Sx (a : Int) : Prop := -17592186044416 ≤ a ∧ a ≤ 17592186044416
theorem sx_bring {a : Int} (h : I64 a) : Sx (bringF a (negF 17592186044416) 17592186044416) := by
  have := bring_around h (m := 17592186044416) (by omega) (by omega)
  rw [show negF 17592186044416 = -17592186044416 from by decide]
  exact ⟨this.1, this.2.1⟩
theorem sx_rg {a : Int} (h : Sx a) : Rg a := by unfold Sx Rg at *; omega
theorem sx_neg {a : Int} (h : Sx a) : Sx (-a) := by unfold Sx at *; omega
theorem dot_left0 {a b : Int} (ha : Rg a) (hb : Rg b) : addF (mulF a (-b)) (mulF b a) = 0 := by
  have h1 := rg_mul a b
  rw [mul_neg_right ha hb, mul_comm' b a, addR (Rg_neg h1) h1, show -mulF a b + mulF a b = 0 from by omega]; decide
theorem cross_self (a b : Int) : subF (mulF a b) (mulF b a) = 0 := by
  rw [mul_comm' b a]; exact sub_self (rg_mul a b)
theorem add_sub {a c : Int} (ha : Sx a) (hc : Sx c) : subF (addF a c) c = a := by
  have e : addF a c = a + c := by rw [addR (sx_rg ha) (sx_rg hc), satR (by unfold Sx Rg at *; omega)]
  rw [e]; unfold subF
  rw [negR (sx_rg hc), addR (by unfold Sx Rg at *; omega) (Rg_neg (sx_rg hc)), show a + c + -c = a from by omega, satR (sx_rg ha)]
theorem add_comm' (a c : Int) : addF a c = addF c a := by unfold addF; rw [Int.add_comm]
theorem mul_two_neg {a b : Int} (ha : Rg a) (hb : Rg b) : mulF (-a) (-b) = mulF a b := by
  rw [mul_neg_left ha (Rg_neg hb), mul_neg_right ha hb]; omega
theorem dot_turned {a b c d : Int} (hb : Rg b) (hd : Rg d) : addF (mulF (-b) (-d)) (mulF a c) = addF (mulF a c) (mulF b d) := by
  rw [mul_two_neg hb hd, add_comm']
theorem cross_turned {a b c d : Int} (ha : Rg a) (hb : Rg b) (hc : Rg c) (hd : Rg d) : subF (mulF (-b) c) (mulF a (-d)) = subF (mulF a d) (mulF b c) := by
  have h1 := rg_mul a d
  have h2 := rg_mul b c
  rw [mul_neg_left hb hc, mul_neg_right ha hd]
  unfold subF
  rw [negR (Rg_neg h1), negR h2, addR (Rg_neg h2) (Rg_neg (Rg_neg h1)), addR h1 (Rg_neg h2)]
  congr 1; omega
theorem len_turned {a b : Int} (ha : Rg a) (hb : Rg b) : lenF (-b) a = lenF a b := by
  unfold lenF; rw [mul_two_neg hb hb, add_comm']
theorem sub_is (a b r : Int) (w : World) (ha : I64 a) (hb : I64 b) (e : subF a b = r) : Calls Try.prog 93 #[.int .i64 a, .int .i64 b] w fun e w' => e = .returned (.int .i64 r) ∧ w = w' := by subst e; exact sub_c a b w ha hb
end Go.Proofs.Ytggpchclfikneaa.Fx

/- VecUnits: the walk. -/
namespace Go.Proofs.Ytggpchclfikneaa.Fx
open Go.ChangeShapes Go.WideShapes Go.ChangeAt Go.RowKit
set_option linter.unusedVariables false

end Go.Proofs.Ytggpchclfikneaa.Fx

/- VecLens: the walk. -/
namespace Go.Proofs.Ytggpchclfikneaa.Fx
open Go.ChangeShapes Go.WideShapes Go.ChangeAt Go.RowKit
set_option linter.unusedVariables false

theorem add_is (a b r : Int) (w : World) (ha : I64 a) (hb : I64 b) (e : addF a b = r) : Calls Try.prog 95 #[.int .i64 a, .int .i64 b] w fun e w' => e = .returned (.int .i64 r) ∧ w = w' := by subst e; exact add_c a b w ha hb
theorem sx_sm {a : Int} (h : Sx a) : Sm a := by unfold Sx Sm at *; omega
theorem sx_sum {a b : Int} (ha : Sx a) (hb : Sx b) : Sm (a + b) ∧ addF a b = a + b := by
  refine ⟨by unfold Sx Sm at *; omega, ?_⟩
  rw [addR (sx_rg ha) (sx_rg hb), satR (by unfold Sx Rg at *; omega)]
theorem sx_abs {a : Int} (h : Sx a) : 0 ≤ absF a ∧ absF a ≤ 17592186044416 := by
  rw [absR (sx_rg h)]; unfold Sx at h; split <;> omega
end Go.Proofs.Ytggpchclfikneaa.Fx
