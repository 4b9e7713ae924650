/- Contracts of package vec: Bring, Spun, Len, Unit. -/
import Derived.Test.YtekcehhoimhjeaaVecA
namespace Go.Proofs.Ytekcehhoimhjeaa.Fx
open Go.ChangeShapes Go.WideShapes Go.ChangeAt Go.RowKit
set_option linter.unusedVariables false

set_option maxRecDepth 100000 in
set_option maxHeartbeats 1000000 in
theorem vbring_c (a b m : Int) (w : World) (ha : I64 a) (hb : I64 b) (hm : I64 m) :
    Calls Try.prog 41 #[vecV a b, .int .i64 m] w fun e w' => e = .returned (vecV (bringF a (negF m) m) (bringF b (negF m) m)) ∧ Made w.heap.size w w' := by
  have hn := i64_neg hm
  go_enter Try.func41, Try.ntmps41
  go_wp2_with fail
  refine (neg_c m _ hm).mono ?_
  rintro e w' ⟨rfl, rfl⟩
  go_wp2_with fail
  refine reg_made_tail 11 (by kernel_rfl) (by kernel_rfl) ?_
  intro T hT f hf
  have c00 := Class.reads hf (p := ⟨w.heap.size, 0, none⟩) (u := .int .i64 a) (by go_simp)
  have c01 := Class.reads hf (p := ⟨w.heap.size, 1, none⟩) (u := .int .i64 b) (by go_simp)
  simp only [List.take_succ_cons, List.take_zero, List.drop_succ_cons, List.drop_zero]
  repeat (go_big_quiet_step ((go_at_call 49; exact hf.same (bring_c _ _ _ _ (by assumption) (by assumption) (by assumption)))))
  refine wpQuiet_nil ?_
  intro w1 h1
  have hb := hf.here h1
  have r0 := hb.reads (p := ⟨w.heap.size + 1, 0, none⟩) (x := .int .i64 0) (by go_simp)
  have m0 : w1.frozen? ⟨w.heap.size + 1, 0, none⟩ = false := (hb.2 _).trans (by go_simp)
  have r1 := hb.reads (p := ⟨w.heap.size + 1, 1, none⟩) (x := .int .i64 0) (by go_simp)
  have m1 : w1.frozen? ⟨w.heap.size + 1, 1, none⟩ = false := (hb.2 _).trans (by go_simp)
  have hw := hid (made_box (made_box hb))
  clear hb hf h1 c00 c01
  go_wp2_with fail
  refine bodyPost_ret (v := vecV (bringF a (negF m) m) (bringF b (negF m) m)) (by simp [results, Try.results41, go_sem, r0, r1]) rfl ⟨rfl, ?_⟩
  exact (hw.out.put (by simp; try omega) _).put (by simp; try omega) _

theorem i64_len (a b : Int) : I64 (lenF a b) := i64_sqrt _
set_option maxRecDepth 100000 in
set_option maxHeartbeats 1000000 in
theorem vlen_c (a b : Int) (w : World) (ha : I64 a) (hb : I64 b) :
    Calls Try.prog 16 #[vecV a b] w fun e w' => e = .returned (.int .i64 (lenF a b)) ∧ Made w.heap.size w w' := by
  go_enter Try.func16, Try.ntmps16
  go_wp2_with fail
  refine (vdot_c a b a b _ ha hb ha hb).mono ?_
  rintro e w1 ⟨rfl, k1⟩
  have hw := hid (made_box k1)
  clear k1
  go_wp2_with fail
  refine (sqrt_c (addF (mulF a a) (mulF b b)) _ (i64_add _ _)).mono ?_
  rintro e w' ⟨rfl, rfl⟩
  go_wp2_with fail
  go_ret
  exact ⟨rfl, hw.out⟩

/-- a unit vector -/
def unitV (a b : Int) : Value := if lenF a b = 0 then .tuple #[vecV 0 0, .bool false] else .tuple #[vecV (divF a (lenF a b)) (divF b (lenF a b)), .bool true]
set_option maxRecDepth 100000 in
set_option maxHeartbeats 1000000 in
theorem vunit_c (a b : Int) (w : World) (ha : I64 a) (hb : I64 b) :
    Calls Try.prog 20 #[vecV a b] w fun e w' => e = .returned (unitV a b) ∧ Made w.heap.size w w' := by
  have hn := i64_len a b
  by_cases hz : lenF a b = 0
  · have E : Hid (unitV a b = .tuple #[vecV 0 0, .bool false]) := by unfold Hid unitV; rw [if_pos hz]
    have hz' := hid hz
    clear hz
    go_enter Try.func20, Try.ntmps20
    go_wp2_with fail
    refine (vlen_c a b _ ha hb).mono ?_
    rintro e w1 ⟨rfl, k1⟩
    rw [hz'.out]
    have r0 := k1.reads (p := ⟨w.heap.size + 1, 0, none⟩) (x := .int .i64 0) (by go_simp)
    have m0 : w1.frozen? ⟨w.heap.size + 1, 0, none⟩ = false := (k1.2 _).trans (by go_simp)
    have r1 := k1.reads (p := ⟨w.heap.size + 1, 1, none⟩) (x := .int .i64 0) (by go_simp)
    have m1 : w1.frozen? ⟨w.heap.size + 1, 1, none⟩ = false := (k1.2 _).trans (by go_simp)
    have hw := hid (made_box (made_box k1))
    clear k1
    go_wp2_with fail
    refine bodyPost_ret (v := .tuple #[vecV 0 0, .bool false]) (by simp [results, Try.results20, go_sem, r0, r1]) rfl ⟨by rw [E.out], ?_⟩
    exact (hw.out.put (by simp; try omega) _).put (by simp; try omega) _
  · have E : Hid (unitV a b = .tuple #[vecV (divF a (lenF a b)) (divF b (lenF a b)), .bool true]) := by unfold Hid unitV; rw [if_neg hz]
    have hz' : (lenF a b == 0) = false := by simp [hz]
    clear hz
    go_enter Try.func20, Try.ntmps20
    go_wp2_with fail
    refine (vlen_c a b _ ha hb).mono ?_
    rintro e w1 ⟨rfl, k1⟩
    have c0 := k1.reads (p := ⟨w.heap.size, 0, none⟩) (x := .int .i64 a) (by go_simp)
    have c1 := k1.reads (p := ⟨w.heap.size, 1, none⟩) (x := .int .i64 b) (by go_simp)
    have r0 := k1.reads (p := ⟨w.heap.size + 1, 0, none⟩) (x := .int .i64 0) (by go_simp)
    have m0 : w1.frozen? ⟨w.heap.size + 1, 0, none⟩ = false := (k1.2 _).trans (by go_simp)
    have r1 := k1.reads (p := ⟨w.heap.size + 1, 1, none⟩) (x := .int .i64 0) (by go_simp)
    have m1 : w1.frozen? ⟨w.heap.size + 1, 1, none⟩ = false := (k1.2 _).trans (by go_simp)
    have s1 : w.heap.size ≤ w1.heap.size := by have := k1.1.size; simp at this; omega
    have H1 := hid (made_box (made_box k1))
    have R0 := hid r0
    have R1 := hid r1
    have M0 := hid m0
    have M1 := hid m1
    clear k1 r0 r1 m0 m1
    go_wp2_with fail
    refine reg_made_tail 9 (by kernel_rfl) (by kernel_rfl) ?_
    intro T hT f hf
    have d0 := Class.reads hf c0
    have d1 := Class.reads hf c1
    simp only [List.take_succ_cons, List.take_zero, List.drop_succ_cons, List.drop_zero]
    repeat (go_big_quiet_step ((go_at_call 36; exact hf.drawn (div_c _ _ _ (by assumption) (by assumption)))))
    refine wpQuiet_nil ?_
    intro w2 h2
    have k2 := hf.here h2
    have r0 := k2.reads R0.out
    have r1 := k2.reads R1.out
    have m0 := (k2.2 _).trans M0.out
    have m1 := (k2.2 _).trans M1.out
    have hw := hid (H1.out.then_ (k2.low s1))
    clear k2 hf h2 c0 c1 d0 d1
    go_wp2_with fail
    refine bodyPost_ret (v := .tuple #[vecV (divF a (lenF a b)) (divF b (lenF a b)), .bool true]) (by simp [results, Try.results20, go_sem, r0, r1]) rfl ⟨by rw [E.out], ?_⟩
    exact (hw.out.put (by simp; try omega) _).put (by simp; try omega) _

theorem unitV_of {a b n x y : Int} (hn : lenF a b = n) (h : n ≠ 0) (hx : divF a n = x) (hy : divF b n = y) : unitV a b = .tuple #[vecV x y, .bool true] := by
  subst hn; subst hx; subst hy; unfold unitV; rw [if_neg h]
theorem unitV_no {a b : Int} (hn : lenF a b = 0) : unitV a b = .tuple #[vecV 0 0, .bool false] := by unfold unitV; rw [if_pos hn]
/-! ### the same, the answer by another name -/
theorem vlen_is (a b r : Int) (w : World) (ha : I64 a) (hb : I64 b) (e : lenF a b = r) : Calls Try.prog 16 #[vecV a b] w fun e w' => e = .returned (.int .i64 r) ∧ Made w.heap.size w w' := by subst e; exact vlen_c a b w ha hb
theorem vunit_is (a b : Int) (r : Value) (w : World) (ha : I64 a) (hb : I64 b) (e : unitV a b = r) : Calls Try.prog 20 #[vecV a b] w fun e w' => e = .returned r ∧ Made w.heap.size w w' := by subst e; exact vunit_c a b w ha hb
theorem vdot_is (a b c d r : Int) (w : World) (ha : I64 a) (hb : I64 b) (hc : I64 c) (hd : I64 d) (e : addF (mulF a c) (mulF b d) = r) : Calls Try.prog 21 #[vecV a b, vecV c d] w fun e w' => e = .returned (.int .i64 r) ∧ Made w.heap.size w w' := by subst e; exact vdot_c a b c d w ha hb hc hd
theorem vcross_is (a b c d r : Int) (w : World) (ha : I64 a) (hb : I64 b) (hc : I64 c) (hd : I64 d) (e : subF (mulF a d) (mulF b c) = r) : Calls Try.prog 27 #[vecV a b, vecV c d] w fun e w' => e = .returned (.int .i64 r) ∧ Made w.heap.size w w' := by subst e; exact vcross_c a b c d w ha hb hc hd
theorem vadd_is (a b c d x y : Int) (w : World) (ha : I64 a) (hb : I64 b) (hc : I64 c) (hd : I64 d) (ex : addF a c = x) (ey : addF b d = y) : Calls Try.prog 14 #[vecV a b, vecV c d] w fun e w' => e = .returned (vecV x y) ∧ Made w.heap.size w w' := by subst ex; subst ey; exact vadd_c a b c d w ha hb hc hd
theorem vsub_is (a b c d x y : Int) (w : World) (ha : I64 a) (hb : I64 b) (hc : I64 c) (hd : I64 d) (ex : subF a c = x) (ey : subF b d = y) : Calls Try.prog 19 #[vecV a b, vecV c d] w fun e w' => e = .returned (vecV x y) ∧ Made w.heap.size w w' := by subst ex; subst ey; exact vsub_c a b c d w ha hb hc hd
theorem vbring_is (a b m x y : Int) (w : World) (ha : I64 a) (hb : I64 b) (hm : I64 m) (ex : bringF a (negF m) m = x) (ey : bringF b (negF m) m = y) : Calls Try.prog 41 #[vecV a b, .int .i64 m] w fun e w' => e = .returned (vecV x y) ∧ Made w.heap.size w w' := by subst ex; subst ey; exact vbring_c a b m w ha hb hm
theorem vapply_is (c s a b x y : Int) (w : World) (hc : I64 c) (hs : I64 s) (ha : I64 a) (hb : I64 b) (ex : subF (mulF c a) (mulF s b) = x) (ey : addF (mulF s a) (mulF c b) = y) : Calls Try.prog 15 #[vecV c s, vecV a b] w fun e w' => e = .returned (vecV x y) ∧ Made w.heap.size w w' := by subst ex; subst ey; exact vapply_c c s a b w hc hs ha hb
end Go.Proofs.Ytekcehhoimhjeaa.Fx
