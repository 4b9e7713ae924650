/- What package box answers of any rectangles: Meet, Holds, Join. -/
import Derived.Test.YtmfkcdinfahjlaaVecs
import Derived.Test.YtmfkcdinfahjlaaSwP
namespace Go.Proofs.Ytmfkcdinfahjlaa.Fx
open Go.ChangeShapes Go.WideShapes Go.ChangeAt Go.RowKit
set_option linter.unusedVariables false

theorem sub_cl {a c : Int} (ha : I64 a) (hc : I64 c) : subF a c ≤ 0 ↔ cl a ≤ cl c := by
  unfold subF addF negF cl sat
  unfold I64 at ha hc
  (repeat' split) <;> omega
abbrev rectW (lx ly hx hy : Int) : Value := .agg #[.int .i64 lx, .int .i64 ly, .int .i64 hx, .int .i64 hy]

set_option maxRecDepth 100000 in
set_option maxHeartbeats 2000000 in
theorem join_w (lx ly hx hy x y u v p q r s : Int) (w : World) (e0 : min lx x = p) (e1 : min ly y = q) (e2 : max hx u = r) (e3 : max hy v = s) :
    Calls Try.prog 32 #[rectW lx ly hx hy, rectW x y u v] w fun e w' => e = .returned (rectW p q r s) ∧ Made w.heap.size w w' := by
  go_enter Try.func32, Try.ntmps32
  go_wp2_with fail
  refine bodyPost_ret (v := rectW p q r s) (by simp [results, Try.results32, go_sem]) rfl ⟨rfl, ?_⟩
  exact (((Made.rfl_ _ _).cells (Nat.le_refl _) _ _).cells (by simp) _ _).cells (by simp; try omega) _ _

set_option maxRecDepth 100000 in
set_option maxHeartbeats 2000000 in
theorem within_w (a b c d : Int) (r : Bool) (w : World) (ia : I64 a) (ib : I64 b) (ic : I64 c) (id_ : I64 d) (hr : r = true ↔ cl a ≤ cl c ∧ cl b ≤ cl d) :
    Calls Try.prog 28 #[vecV a b, vecV c d] w fun e w' => e = .returned (.bool r) ∧ Made w.heap.size w w' := by
  have s1 := sub_cl ia ic
  have s2 := sub_cl ib id_
  obtain ⟨X, eX⟩ : ∃ X, subF a c = X := ⟨_, rfl⟩
  obtain ⟨Y, eY⟩ : ∃ X, subF b d = X := ⟨_, rfl⟩
  rw [eX] at s1
  rw [eY] at s2
  have EX := hid eX
  have EY := hid eY
  have HR : Hid (r = (decide (X ≤ 0) && decide (Y ≤ 0))) := by
    unfold Hid
    rw [Bool.eq_iff_iff, hr, ← s1, ← s2, Bool.and_eq_true, decide_eq_true_iff, decide_eq_true_iff]
  clear eX eY s1 s2 hr
  by_cases g : X ≤ 0
  · have g1 : decide (X ≤ 0) = true := decide_eq_true g
    have HR : Hid (r = decide (Y ≤ 0)) := by have := HR.out; rw [g1, Bool.true_and] at this; exact this
    clear g
    go_enter Try.func28, Try.ntmps28
    go_wp2_with fail
    refine (vsub_is a b c d X Y _ ia ib ic id_ EX.out EY.out).mono ?_
    rintro e w1 ⟨rfl, k1⟩
    have M1 := hid (made_box (made_box k1))
    clear k1
    go_wp2_with fail
    go_ret
    exact ⟨by rw [HR.out]; rfl, M1.out.cells M1.out.1.size _ _⟩
  · have g1 : decide (X ≤ 0) = false := decide_eq_false g
    have HR : Hid (r = false) := by have := HR.out; rw [g1, Bool.false_and] at this; exact this
    clear g
    go_enter Try.func28, Try.ntmps28
    go_wp2_with fail
    refine (vsub_is a b c d X Y _ ia ib ic id_ EX.out EY.out).mono ?_
    rintro e w1 ⟨rfl, k1⟩
    have M1 := hid (made_box (made_box k1))
    clear k1
    go_wp2_with fail
    go_ret
    exact ⟨by rw [HR.out]; rfl, M1.out.cells M1.out.1.size _ _⟩

set_option maxRecDepth 100000 in
set_option maxHeartbeats 2000000 in
theorem holds_w (lx ly hx hy x y : Int) (r : Bool) (w : World) (g0 : I64 lx) (g1 : I64 ly) (g2 : I64 hx) (g3 : I64 hy) (g4 : I64 x) (g5 : I64 y) (hr : r = true ↔ (cl lx ≤ cl x ∧ cl x ≤ cl hx) ∧ (cl ly ≤ cl y ∧ cl y ≤ cl hy)) :
    Calls Try.prog 63 #[rectW lx ly hx hy, vecV x y] w fun e w' => e = .returned (.bool r) ∧ Made w.heap.size w w' := by
  by_cases h1 : cl lx ≤ cl x ∧ cl ly ≤ cl y
  · have H1 := hid (fun w => within_w lx ly x y true w g0 g1 g4 g5 ⟨fun _ => h1, fun _ => rfl⟩)
    have H2 := hid (fun w => within_w x y hx hy r w g4 g5 g2 g3 ⟨fun h => ⟨(hr.1 h).1.2, (hr.1 h).2.2⟩, fun h => hr.2 ⟨⟨h1.1, h.1⟩, h1.2, h.2⟩⟩)
    clear hr h1 g0 g1 g2 g3 g4 g5
    go_enter Try.func63, Try.ntmps63
    go_wp2_with fail
    refine (H1.out _).mono ?_
    rintro e w1 ⟨rfl, k1⟩
    have c2 := k1.reads (p := ⟨w.heap.size, 2, none⟩) (x := .int .i64 hx) (by go_simp)
    have c3 := k1.reads (p := ⟨w.heap.size, 3, none⟩) (x := .int .i64 hy) (by go_simp)
    have c4 := k1.reads (p := ⟨w.heap.size + 1, 0, none⟩) (x := .int .i64 x) (by go_simp)
    have c5 := k1.reads (p := ⟨w.heap.size + 1, 1, none⟩) (x := .int .i64 y) (by go_simp)
    have M1 := hid (made_box (made_box k1))
    clear k1
    go_wp2_with fail
    refine (H2.out _).mono ?_
    rintro e w2 ⟨rfl, k2⟩
    have M2 := hid (M1.out.then_ (k2.low M1.out.1.size))
    clear k2
    go_wp2_with fail
    go_ret
    exact ⟨rfl, M2.out⟩
  · have H1 := hid (fun w => within_w lx ly x y false w g0 g1 g4 g5 ⟨fun h => (by cases h), fun h => absurd h h1⟩)
    have HR : Hid (r = false) := Bool.eq_false_iff.2 fun h => h1 ⟨(hr.1 h).1.1, (hr.1 h).2.1⟩
    clear hr h1 g0 g1 g2 g3 g4 g5
    go_enter Try.func63, Try.ntmps63
    go_wp2_with fail
    refine (H1.out _).mono ?_
    rintro e w1 ⟨rfl, k1⟩
    have M1 := hid (made_box (made_box k1))
    clear k1
    go_wp2_with fail
    go_ret
    exact ⟨by rw [HR.out]; rfl, M1.out⟩

set_option maxRecDepth 100000 in
set_option maxHeartbeats 2000000 in
theorem meet_w (lx ly hx hy x y u v : Int) (r : Bool) (w : World) (g0 : I64 lx) (g1 : I64 ly) (g2 : I64 hx) (g3 : I64 hy) (g4 : I64 x) (g5 : I64 y) (g6 : I64 u) (g7 : I64 v) (hr : r = true ↔ (cl lx ≤ cl u ∧ cl x ≤ cl hx) ∧ (cl ly ≤ cl v ∧ cl y ≤ cl hy)) :
    Calls Try.prog 12 #[rectW lx ly hx hy, rectW x y u v] w fun e w' => e = .returned (.bool r) ∧ Made w.heap.size w w' := by
  by_cases h1 : cl lx ≤ cl u ∧ cl ly ≤ cl v
  · have H1 := hid (fun w => within_w lx ly u v true w g0 g1 g6 g7 ⟨fun _ => h1, fun _ => rfl⟩)
    have H2 := hid (fun w => within_w x y hx hy r w g4 g5 g2 g3 ⟨fun h => ⟨(hr.1 h).1.2, (hr.1 h).2.2⟩, fun h => hr.2 ⟨⟨h1.1, h.1⟩, h1.2, h.2⟩⟩)
    clear hr h1 g0 g1 g2 g3 g4 g5
    go_enter Try.func12, Try.ntmps12
    go_wp2_with fail
    refine (H1.out _).mono ?_
    rintro e w1 ⟨rfl, k1⟩
    have c2 := k1.reads (p := ⟨w.heap.size, 2, none⟩) (x := .int .i64 hx) (by go_simp)
    have c3 := k1.reads (p := ⟨w.heap.size, 3, none⟩) (x := .int .i64 hy) (by go_simp)
    have c4 := k1.reads (p := ⟨w.heap.size + 1, 0, none⟩) (x := .int .i64 x) (by go_simp)
    have c5 := k1.reads (p := ⟨w.heap.size + 1, 1, none⟩) (x := .int .i64 y) (by go_simp)
    have M1 := hid (made_box (made_box k1))
    clear k1
    go_wp2_with fail
    refine (H2.out _).mono ?_
    rintro e w2 ⟨rfl, k2⟩
    have M2 := hid (M1.out.then_ (k2.low M1.out.1.size))
    clear k2
    go_wp2_with fail
    go_ret
    exact ⟨rfl, M2.out⟩
  · have H1 := hid (fun w => within_w lx ly u v false w g0 g1 g6 g7 ⟨fun h => (by cases h), fun h => absurd h h1⟩)
    have HR : Hid (r = false) := Bool.eq_false_iff.2 fun h => h1 ⟨(hr.1 h).1.1, (hr.1 h).2.1⟩
    clear hr h1 g0 g1 g2 g3 g4 g5
    go_enter Try.func12, Try.ntmps12
    go_wp2_with fail
    refine (H1.out _).mono ?_
    rintro e w1 ⟨rfl, k1⟩
    have M1 := hid (made_box (made_box k1))
    clear k1
    go_wp2_with fail
    go_ret
    exact ⟨by rw [HR.out]; rfl, M1.out⟩

set_option maxRecDepth 100000 in
set_option maxHeartbeats 2000000 in
/-- b begins beyond a -/
theorem beyond_w (lx ly hx hy x y u v : Int) (r : Bool) (w : World) (g2 : I64 hx) (g4 : I64 x) (g5 : I64 y) (hr : r = decide (cl hx < cl x)) :
    Calls Try.prog 37 #[rectW lx ly hx hy, rectW x y u v] w fun e w' => e = .returned (.bool r) ∧ Made w.heap.size w w' := by
  have HH := hid (fun w => holds_w x y hx y x y (!r) w g4 g5 g2 g5 g4 g5 (by rw [hr]; simp))
  clear hr g2 g4 g5
  go_enter Try.func37, Try.ntmps37
  go_wp2_with fail
  refine (HH.out _).mono ?_
  rintro e w1 ⟨rfl, k1⟩
  have M1 := hid k1
  clear k1
  go_wp2_with fail
  go_ret
  refine ⟨by simp, ?_⟩
  have h1 := M1.out
  refine Made.then_ ?_ (h1.low ?_)
  · repeat (first | exact Made.rfl_ _ _ | refine Made.put ?_ ?_ _ | refine Made.cells ?_ ?_ _ _)
    all_goals (first | exact Nat.le_refl _ | (simp; done) | (simp; omega))
  · simp; omega
end Go.Proofs.Ytmfkcdinfahjlaa.Fx
