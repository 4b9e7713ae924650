/- ShapeRights: the walk. -/
import Derived.Test.YtekcehhoimhjeaaShapeH
namespace Go.Proofs.Ytekcehhoimhjeaa.Fx
open Go.ChangeShapes Go.WideShapes Go.ChangeAt Go.RowKit
set_option linter.unusedVariables false

set_option maxRecDepth 100000 in
set_option maxHeartbeats 2000000 in
theorem srights_long (K R : Int) (ao : Option Addr) (len cap : Nat) (a b c d : Int) (w : World) (h : 12 < len) :
    Calls Try.prog 3 #[shapeV K R (.slice ao len cap), seedV a b c d] w fun e w' => e = .returned (.bool true) ∧ Made w.heap.size w w' := by
  go_enter Try.func3, Try.ntmps3
  go_wp2_with fail
  refine (sfit_c _).mono ?_
  rintro e w1 ⟨rfl, k1⟩
  have x2 := k1.reads (p := ⟨w.heap.size, 2, none⟩) (x := .slice ao len cap) (by go_simp)
  have M1 := hid (made_box (made_box k1))
  clear k1
  go_wp2_with fail
  go_ret
  exact ⟨rfl, M1.out⟩
theorem beql (r : Bool) (w : World) : (binOp .eql 4 (.bool r) (.bool r)).run Try.prog w = .ok (.bool true) w := by cases r <;> go_simp
/-- what a seed makes may be, by the program and by the statements -/
theorem seed_right (a b c d : Int) (w : World) : Calls Try.prog 11 #[seedV a b c d] w fun e w' => ∃ sv, e = .returned sv ∧ Made w.heap.size w w' ∧
    (∀ u, Made w'.heap.size w' u → Calls Try.prog 9 #[sv] u fun e v => e = .returned (.bool true) ∧ Made u.heap.size u v) ∧
    (∀ u, Made w'.heap.size w' u → Calls Try.prog 10 #[sv] u fun e v => e = .returned (.bool true) ∧ Made u.heap.size u v) := by
  refine (seed_is a b c d w).mono ?_
  rintro e w' ⟨h, k⟩
  rcases h with ⟨R, h0, h1, rfl⟩ | ⟨g, c, n, x, y, k', gr, rfl, _, hrow⟩
  · have hR : RightP 1 R 0 (fun _ => (0, 0)) := .inl ⟨rfl, rfl, by omega, by omega⟩
    exact ⟨_, rfl, k, fun u _ => right_circle R none 0 0 _ u true (yes_iff hR), fun u _ => lright_circle R none 0 0 _ u true (yes_iff hR)⟩
  · exact ⟨_, rfl, k, fun u hu => right_poly g 0 n c _ u gr.n0 gr.n1 (hrow.kept hu).pts (grid_i64 gr) true (yes_iff (grid_right gr)),
      fun u hu => lright_poly g 0 n c _ u gr.n0 gr.n1 (hrow.kept hu).pts (grid_i64 gr) true (yes_iff (grid_right gr))⟩

set_option maxRecDepth 100000 in
set_option maxHeartbeats 4000000 in
theorem srights_walk (K R : Int) (ao : Option Addr) (len cap : Nat) (f : Cs) (a b c d : Int) (w : World) (h : len ≤ 12) (hs : Sl w ao len f) (hi : Cin f len) :
    Calls Try.prog 3 #[shapeV K R (.slice ao len cap), seedV a b c d] w fun e w' => e = .returned (.bool true) ∧ Made w.heap.size w w' := by
  have HS : Hid (∀ v, Made w.heap.size w v → Sl v ao len f) := fun v k => hs.kept k
  have HI := hid hi
  clear hs hi
  obtain ⟨r, hr⟩ : ∃ r : Bool, r = true ↔ RightP K R len f := by
    by_cases hp : RightP K R len f
    · exact ⟨true, yes_iff hp⟩
    · exact ⟨false, no_iff hp⟩
  have HR : Hid (r = true ↔ RightP K R len f) := hr
  clear hr
  have q := beql r
  go_enter Try.func3, Try.ntmps3
  go_wp2_with fail
  refine (sfit_c _).mono ?_
  rintro e w1 ⟨rfl, k1⟩
  have x0 := k1.reads (p := ⟨w.heap.size, 0, none⟩) (x := .int .i64 K) (by go_simp)
  have x1 := k1.reads (p := ⟨w.heap.size, 1, none⟩) (x := .int .i64 R) (by go_simp)
  have x2 := k1.reads (p := ⟨w.heap.size, 2, none⟩) (x := .slice ao len cap) (by go_simp)
  have y0 := k1.reads (p := ⟨w.heap.size + 1, 0, none⟩) (x := .int .i64 a) (by go_simp)
  have y1 := k1.reads (p := ⟨w.heap.size + 1, 1, none⟩) (x := .int .i64 b) (by go_simp)
  have y2 := k1.reads (p := ⟨w.heap.size + 1, 2, none⟩) (x := .int .i64 c) (by go_simp)
  have y3 := k1.reads (p := ⟨w.heap.size + 1, 3, none⟩) (x := .int .i64 d) (by go_simp)
  have M1 := hid (made_box (made_box k1))
  clear k1
  go_wp2_with fail
  refine reg_made_tail 7 (by kernel_rfl) (by kernel_rfl) ?_
  intro T hT fw hf
  have HK : Hid (∀ x, Made w.heap.size w (fw x)) := fun x => M1.out.then_ ((hf.1 x).low M1.out.1.size)
  have a0 := Class.reads hf x0
  have a1 := Class.reads hf x1
  have a2 := Class.reads hf x2
  have b0 := Class.reads hf y0
  have b1 := Class.reads hf y1
  have b2 := Class.reads hf y2
  have b3 := Class.reads hf y3
  simp only [List.take_succ_cons, List.take_zero, List.drop_succ_cons, List.drop_zero]
  repeat (go_big_quiet_step ((first
    | (go_at_call 9; with_reducible exact hf.made (right_is K R ao len cap f _ (HS.out _ (HK.out _)) HI.out r HR.out))
    | (go_at_call 10; with_reducible exact hf.made (lright_is K R ao len cap f _ (HS.out _ (HK.out _)) HI.out r HR.out)))))
  refine wpQuiet_nil ?_
  intro w2 h2
  have k2 := hf.here h2
  have y0 := k2.reads y0
  have y1 := k2.reads y1
  have y2 := k2.reads y2
  have y3 := k2.reads y3
  have M2 : Hid (Made w.heap.size w w2) := M1.out.then_ (k2.low M1.out.1.size)
  clear HK k2 hf h2 a0 a1 a2 b0 b1 b2 b3 x0 x1 x2
  go_wp2_with fail
  refine (seed_right a b c d _).mono ?_
  rintro e w3 ⟨sv, rfl, k3, c3, _⟩
  have M3 : Hid (Made w.heap.size w w3) := M2.out.then_ (k3.low M2.out.1.size)
  have y0 := k3.reads y0
  have y1 := k3.reads y1
  have y2 := k3.reads y2
  have y3 := k3.reads y3
  have C3 := hid (c3 _ (Made.rfl_ _ _))
  clear k3 c3
  go_wp2_with fail
  refine C3.out.mono ?_
  rintro e w4 ⟨rfl, k4⟩
  have M4 : Hid (Made w.heap.size w w4) := M3.out.then_ (k4.low M3.out.1.size)
  have y0 := k4.reads y0
  have y1 := k4.reads y1
  have y2 := k4.reads y2
  have y3 := k4.reads y3
  clear k4 C3
  go_wp2_with fail
  refine (seed_right a b c d _).mono ?_
  rintro e w5 ⟨sv5, rfl, k5, _, c5⟩
  have M5 : Hid (Made w.heap.size w w5) := M4.out.then_ (k5.low M4.out.1.size)
  have C5 := hid (c5 _ (Made.rfl_ _ _))
  clear k5 c5
  go_wp2_with fail
  refine C5.out.mono ?_
  rintro e w6 ⟨rfl, k6⟩
  have M6 : Hid (Made w.heap.size w w6) := M5.out.then_ (k6.low M5.out.1.size)
  clear k6
  go_wp2_with fail
  go_ret
  exact ⟨rfl, M6.out⟩
end Go.Proofs.Ytekcehhoimhjeaa.Fx
