/- What package box answers: at, Join, within, Grow, Holds, Meet. -/
import Derived.Test.YtmfkcdinfahjlaaBoxA
namespace Go.Proofs.Ytmfkcdinfahjlaa.Fx
open Go.ChangeShapes Go.WideShapes Go.ChangeAt Go.RowKit
set_option linter.unusedVariables false

theorem sub_le {a c : Int} (ha : Rg a) (hc : Rg c) : subF a c ≤ 0 ↔ a ≤ c := by
  unfold subF addF negF cl sat
  unfold Rg at ha hc
  (repeat' split) <;> omega

set_option maxRecDepth 100000 in
set_option maxHeartbeats 1000000 in
theorem at_c (x y : Int) (w : World) :
    Calls Try.prog 30 #[vecV x y] w fun e w' => e = .returned (rectV x y x y) ∧ Made w.heap.size w w' := by
  go_enter Try.func30, Try.ntmps30
  go_wp2_with fail
  refine bodyPost_ret (v := rectV x y x y) (by simp [results, Try.results30, go_sem]) rfl ⟨rfl, ?_⟩
  exact ((Made.rfl_ _ _).cells (Nat.le_refl _) _ _).cells (by simp) _ _

set_option maxRecDepth 100000 in
set_option maxHeartbeats 2000000 in
theorem join_is (lx ly hx hy x y u v p q r s : Int) (w : World) (e0 : min lx x = p) (e1 : min ly y = q) (e2 : max hx u = r) (e3 : max hy v = s) :
    Calls Try.prog 32 #[rectV lx ly hx hy, rectV x y u v] w fun e w' => e = .returned (rectV p q r s) ∧ Made w.heap.size w w' := by
  go_enter Try.func32, Try.ntmps32
  go_wp2_with fail
  refine bodyPost_ret (v := rectV p q r s) (by simp [results, Try.results32, go_sem]) rfl ⟨rfl, ?_⟩
  exact (((Made.rfl_ _ _).cells (Nat.le_refl _) _ _).cells (by simp) _ _).cells (by simp; try omega) _ _

set_option maxRecDepth 100000 in
set_option maxHeartbeats 2000000 in
theorem within_is (a b c d : Int) (r : Bool) (w : World) (ha : Rg a) (hb : Rg b) (hc : Rg c) (hd : Rg d) (hr : r = true ↔ a ≤ c ∧ b ≤ d) :
    Calls Try.prog 28 #[vecV a b, vecV c d] w fun e w' => e = .returned (.bool r) ∧ Made w.heap.size w w' := by
  have ia := i64_rg ha
  have ib := i64_rg hb
  have ic := i64_rg hc
  have id_ := i64_rg hd
  have s1 := sub_le ha hc
  have s2 := sub_le hb hd
  obtain ⟨X, eX⟩ : ∃ X, subF a c = X := ⟨_, rfl⟩
  obtain ⟨Y, eY⟩ : ∃ X, subF b d = X := ⟨_, rfl⟩
  rw [eX] at s1
  rw [eY] at s2
  have EX := hid eX
  have EY := hid eY
  have HR : Hid (r = (decide (X ≤ 0) && decide (Y ≤ 0))) := by
    unfold Hid
    rw [Bool.eq_iff_iff, hr, ← s1, ← s2, Bool.and_eq_true, decide_eq_true_iff, decide_eq_true_iff]
  clear eX eY s1 s2 hr ha hb hc hd
  by_cases g : X ≤ 0
  · have g1 : decide (X ≤ 0) = true := decide_eq_true g
    have HR : Hid (r = decide (Y ≤ 0)) := by have := HR.out; rw [g1, Bool.true_and] at this; exact this
    clear g
    go_enter Try.func28, Try.ntmps28
    go_wp2_with fail
    refine (vsub_is a b c d X Y _ ia ib ic id_ EX.out EY.out).mono ?_
    rintro e w1 ⟨rfl, k1⟩
    have M1 := hid (made_box (made_box k1))
    clear k1
    go_wp2_with fail
    go_ret
    exact ⟨by rw [HR.out]; rfl, M1.out.cells M1.out.1.size _ _⟩
  · have g1 : decide (X ≤ 0) = false := decide_eq_false g
    have HR : Hid (r = false) := by have := HR.out; rw [g1, Bool.false_and] at this; exact this
    clear g
    go_enter Try.func28, Try.ntmps28
    go_wp2_with fail
    refine (vsub_is a b c d X Y _ ia ib ic id_ EX.out EY.out).mono ?_
    rintro e w1 ⟨rfl, k1⟩
    have M1 := hid (made_box (made_box k1))
    clear k1
    go_wp2_with fail
    go_ret
    exact ⟨by rw [HR.out]; rfl, M1.out.cells M1.out.1.size _ _⟩

set_option maxRecDepth 100000 in
set_option maxHeartbeats 2000000 in
theorem grow_is (lx ly hx hy d p q r s : Int) (w : World) (i0 : I64 lx) (i1 : I64 ly) (i2 : I64 hx) (i3 : I64 hy) (i4 : I64 d) (e0 : subF lx d = p) (e1 : subF ly d = q) (e2 : addF hx d = r) (e3 : addF hy d = s) :
    Calls Try.prog 13 #[rectV lx ly hx hy, .int .i64 d] w fun e w' => e = .returned (rectV p q r s) ∧ Made w.heap.size w w' := by
  have E0 := hid e0
  have E1 := hid e1
  have E2 := hid e2
  have E3 := hid e3
  clear e0 e1 e2 e3
  go_enter Try.func13, Try.ntmps13
  go_wp2_with fail
  refine reg_made_tail 9 (by kernel_rfl) (by kernel_rfl) ?_
  intro T hT f hf
  have c0 := Class.reads hf (p := ⟨w.heap.size, 0, none⟩) (u := .int .i64 lx) (by go_simp)
  have c1 := Class.reads hf (p := ⟨w.heap.size, 1, none⟩) (u := .int .i64 ly) (by go_simp)
  have c2 := Class.reads hf (p := ⟨w.heap.size, 2, none⟩) (u := .int .i64 hx) (by go_simp)
  have c3 := Class.reads hf (p := ⟨w.heap.size, 3, none⟩) (u := .int .i64 hy) (by go_simp)
  have c4 := Class.reads hf (p := ⟨w.heap.size + 1 + 1, 0, none⟩) (u := .int .i64 d) (by go_simp)
  have c5 := Class.reads hf (p := ⟨w.heap.size + 1 + 1, 1, none⟩) (u := .int .i64 d) (by go_simp)
  simp only [List.take_succ_cons, List.take_zero, List.drop_succ_cons, List.drop_zero]
  repeat (go_big_quiet_step ((first
    | (go_at_call 29; with_reducible exact hf.made (vsub_is _ _ _ _ _ _ _ (by assumption) (by assumption) (by assumption) (by assumption) E0.out E1.out))
    | (go_at_call 16; with_reducible exact hf.made (vadd_is _ _ _ _ _ _ _ (by assumption) (by assumption) (by assumption) (by assumption) E2.out E3.out)))))
  refine wpQuiet_nil ?_
  intro w1 h1
  have hb := hf.here h1
  have r0 := hb.reads (p := ⟨w.heap.size + 1, 0, none⟩) (x := .int .i64 0) (by go_simp)
  have m0 : w1.frozen? ⟨w.heap.size + 1, 0, none⟩ = false := (hb.2 _).trans (by go_simp)
  have r1 := hb.reads (p := ⟨w.heap.size + 1, 1, none⟩) (x := .int .i64 0) (by go_simp)
  have m1 : w1.frozen? ⟨w.heap.size + 1, 1, none⟩ = false := (hb.2 _).trans (by go_simp)
  have r2 := hb.reads (p := ⟨w.heap.size + 1, 2, none⟩) (x := .int .i64 0) (by go_simp)
  have m2 : w1.frozen? ⟨w.heap.size + 1, 2, none⟩ = false := (hb.2 _).trans (by go_simp)
  have r3 := hb.reads (p := ⟨w.heap.size + 1, 3, none⟩) (x := .int .i64 0) (by go_simp)
  have m3 : w1.frozen? ⟨w.heap.size + 1, 3, none⟩ = false := (hb.2 _).trans (by go_simp)
  have hw := hid (made_box (made_box (made_box (hb))))
  clear hb hf h1 c0 c1 c2 c3 c4 c5
  go_wp2_with fail
  refine bodyPost_ret (v := rectV p q r s) (by simp [results, Try.results13, go_sem, r0, r1, r2, r3]) rfl ⟨rfl, ?_⟩
  exact (((hw.out.put (by simp; try omega) _).put (by simp; try omega) _).put (by simp; try omega) _).put (by simp; try omega) _

set_option maxRecDepth 100000 in
set_option maxHeartbeats 2000000 in
theorem holds_is (lx ly hx hy x y : Int) (r : Bool) (w : World) (g0 : Rg lx) (g1 : Rg ly) (g2 : Rg hx) (g3 : Rg hy) (g4 : Rg x) (g5 : Rg y) (hr : r = true ↔ (lx ≤ x ∧ x ≤ hx) ∧ (ly ≤ y ∧ y ≤ hy)) :
    Calls Try.prog 63 #[rectV lx ly hx hy, vecV x y] w fun e w' => e = .returned (.bool r) ∧ Made w.heap.size w w' := by
  by_cases h1 : lx ≤ x ∧ ly ≤ y
  · have H1 := hid (fun w => within_is lx ly x y true w g0 g1 g4 g5 ⟨fun _ => h1, fun _ => rfl⟩)
    have H2 := hid (fun w => within_is x y hx hy r w g4 g5 g2 g3 ⟨fun h => ⟨(hr.1 h).1.2, (hr.1 h).2.2⟩, fun h => hr.2 ⟨⟨h1.1, h.1⟩, h1.2, h.2⟩⟩)
    clear hr h1 g0 g1 g2 g3 g4 g5
    go_enter Try.func63, Try.ntmps63
    go_wp2_with fail
    refine (H1.out _).mono ?_
    rintro e w1 ⟨rfl, k1⟩
    have c2 := k1.reads (p := ⟨w.heap.size, 2, none⟩) (x := .int .i64 hx) (by go_simp)
    have c3 := k1.reads (p := ⟨w.heap.size, 3, none⟩) (x := .int .i64 hy) (by go_simp)
    have c4 := k1.reads (p := ⟨w.heap.size + 1, 0, none⟩) (x := .int .i64 x) (by go_simp)
    have c5 := k1.reads (p := ⟨w.heap.size + 1, 1, none⟩) (x := .int .i64 y) (by go_simp)
    have M1 := hid (made_box (made_box k1))
    clear k1
    go_wp2_with fail
    refine (H2.out _).mono ?_
    rintro e w2 ⟨rfl, k2⟩
    have M2 := hid (M1.out.then_ (k2.low M1.out.1.size))
    clear k2
    go_wp2_with fail
    go_ret
    exact ⟨rfl, M2.out⟩
  · have H1 := hid (fun w => within_is lx ly x y false w g0 g1 g4 g5 ⟨fun h => (by cases h), fun h => absurd h h1⟩)
    have HR : Hid (r = false) := Bool.eq_false_iff.2 fun h => h1 ⟨(hr.1 h).1.1, (hr.1 h).2.1⟩
    clear hr h1 g0 g1 g2 g3 g4 g5
    go_enter Try.func63, Try.ntmps63
    go_wp2_with fail
    refine (H1.out _).mono ?_
    rintro e w1 ⟨rfl, k1⟩
    have M1 := hid (made_box (made_box k1))
    clear k1
    go_wp2_with fail
    go_ret
    exact ⟨by rw [HR.out]; rfl, M1.out⟩

set_option maxRecDepth 100000 in
set_option maxHeartbeats 2000000 in
theorem meet_is (lx ly hx hy x y u v : Int) (r : Bool) (w : World) (g0 : Rg lx) (g1 : Rg ly) (g2 : Rg hx) (g3 : Rg hy) (g4 : Rg x) (g5 : Rg y) (g6 : Rg u) (g7 : Rg v) (hr : r = true ↔ (lx ≤ u ∧ x ≤ hx) ∧ (ly ≤ v ∧ y ≤ hy)) :
    Calls Try.prog 12 #[rectV lx ly hx hy, rectV x y u v] w fun e w' => e = .returned (.bool r) ∧ Made w.heap.size w w' := by
  by_cases h1 : lx ≤ u ∧ ly ≤ v
  · have H1 := hid (fun w => within_is lx ly u v true w g0 g1 g6 g7 ⟨fun _ => h1, fun _ => rfl⟩)
    have H2 := hid (fun w => within_is x y hx hy r w g4 g5 g2 g3 ⟨fun h => ⟨(hr.1 h).1.2, (hr.1 h).2.2⟩, fun h => hr.2 ⟨⟨h1.1, h.1⟩, h1.2, h.2⟩⟩)
    clear hr h1 g0 g1 g2 g3 g4 g5
    go_enter Try.func12, Try.ntmps12
    go_wp2_with fail
    refine (H1.out _).mono ?_
    rintro e w1 ⟨rfl, k1⟩
    have c2 := k1.reads (p := ⟨w.heap.size, 2, none⟩) (x := .int .i64 hx) (by go_simp)
    have c3 := k1.reads (p := ⟨w.heap.size, 3, none⟩) (x := .int .i64 hy) (by go_simp)
    have c4 := k1.reads (p := ⟨w.heap.size + 1, 0, none⟩) (x := .int .i64 x) (by go_simp)
    have c5 := k1.reads (p := ⟨w.heap.size + 1, 1, none⟩) (x := .int .i64 y) (by go_simp)
    have M1 := hid (made_box (made_box k1))
    clear k1
    go_wp2_with fail
    refine (H2.out _).mono ?_
    rintro e w2 ⟨rfl, k2⟩
    have M2 := hid (M1.out.then_ (k2.low M1.out.1.size))
    clear k2
    go_wp2_with fail
    go_ret
    exact ⟨rfl, M2.out⟩
  · have H1 := hid (fun w => within_is lx ly u v false w g0 g1 g6 g7 ⟨fun h => (by cases h), fun h => absurd h h1⟩)
    have HR : Hid (r = false) := Bool.eq_false_iff.2 fun h => h1 ⟨(hr.1 h).1.1, (hr.1 h).2.1⟩
    clear hr h1 g0 g1 g2 g3 g4 g5
    go_enter Try.func12, Try.ntmps12
    go_wp2_with fail
    refine (H1.out _).mono ?_
    rintro e w1 ⟨rfl, k1⟩
    have M1 := hid (made_box (made_box k1))
    clear k1
    go_wp2_with fail
    go_ret
    exact ⟨by rw [HR.out]; rfl, M1.out⟩

set_option maxRecDepth 100000 in
set_option maxHeartbeats 2000000 in
theorem disc_is (X Y A R : Int) (w : World) (i0 : I64 X) (i1 : I64 Y) (i2 : I64 R) :
    Calls Try.prog 14 #[bodyV 0 X Y 0 0 A 0 0 1 R (.slice none 0 0)] w fun e w' => e = .returned (rectV (subF X R) (subF Y R) (addF X R) (addF Y R)) ∧ Made w.heap.size w w' := by
  obtain ⟨p, ep⟩ : ∃ p, subF X R = p := ⟨_, rfl⟩
  obtain ⟨q, eq⟩ : ∃ p, subF Y R = p := ⟨_, rfl⟩
  obtain ⟨r, er⟩ : ∃ p, addF X R = p := ⟨_, rfl⟩
  obtain ⟨s, es⟩ : ∃ p, addF Y R = p := ⟨_, rfl⟩
  rw [ep, eq, er, es]
  have E0 := hid ep
  have E1 := hid eq
  have E2 := hid er
  have E3 := hid es
  clear ep eq er es
  go_enter Try.func14, Try.ntmps14
  go_wp2_with fail
  refine reg_made_tail 7 (by kernel_rfl) (by kernel_rfl) ?_
  intro T hT f hf
  have c0 := Class.reads hf (p := ⟨w.heap.size, 1, none⟩) (u := .int .i64 X) (by go_simp)
  have c1 := Class.reads hf (p := ⟨w.heap.size, 2, none⟩) (u := .int .i64 Y) (by go_simp)
  have c2 := Class.reads hf (p := ⟨w.heap.size, 9, none⟩) (u := .int .i64 R) (by go_simp)
  simp only [List.take_succ_cons, List.take_zero, List.drop_succ_cons, List.drop_zero]
  repeat (go_big_quiet_step ((first
    | (go_at_call 30; with_reducible exact hf.made (at_c _ _ _))
    | (go_at_call 13; with_reducible exact hf.made (grow_is _ _ _ _ _ _ _ _ _ _ (by assumption) (by assumption) (by assumption) (by assumption) (by assumption) E0.out E1.out E2.out E3.out)))))
  refine wpQuiet_nil ?_
  intro w1 h1
  have hb := hf.here h1
  have r0 := hb.reads (p := ⟨w.heap.size + 1, 0, none⟩) (x := .int .i64 0) (by go_simp)
  have m0 : w1.frozen? ⟨w.heap.size + 1, 0, none⟩ = false := (hb.2 _).trans (by go_simp)
  have r1 := hb.reads (p := ⟨w.heap.size + 1, 1, none⟩) (x := .int .i64 0) (by go_simp)
  have m1 : w1.frozen? ⟨w.heap.size + 1, 1, none⟩ = false := (hb.2 _).trans (by go_simp)
  have r2 := hb.reads (p := ⟨w.heap.size + 1, 2, none⟩) (x := .int .i64 0) (by go_simp)
  have m2 : w1.frozen? ⟨w.heap.size + 1, 2, none⟩ = false := (hb.2 _).trans (by go_simp)
  have r3 := hb.reads (p := ⟨w.heap.size + 1, 3, none⟩) (x := .int .i64 0) (by go_simp)
  have m3 : w1.frozen? ⟨w.heap.size + 1, 3, none⟩ = false := (hb.2 _).trans (by go_simp)
  have hw := hid (made_box (made_box (hb)))
  clear hb hf h1 c0 c1 c2
  go_wp2_with fail
  refine bodyPost_ret (v := rectV p q r s) (by simp [results, Try.results14, go_sem, r0, r1, r2, r3]) rfl ⟨rfl, ?_⟩
  exact (((hw.out.put (by simp; try omega) _).put (by simp; try omega) _).put (by simp; try omega) _).put (by simp; try omega) _
end Go.Proofs.Ytmfkcdinfahjlaa.Fx
