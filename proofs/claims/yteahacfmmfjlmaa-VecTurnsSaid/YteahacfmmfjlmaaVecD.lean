/- VecBrings: the walk. -/
import Derived.Test.YteahacfmmfjlmaaVecC
namespace Go.Proofs.Yteahacfmmfjlmaa.Fx
open Go.ChangeShapes Go.WideShapes Go.ChangeAt Go.RowKit
set_option linter.unusedVariables false

theorem bring_is (a b c r : Int) (w : World) (ha : I64 a) (hb : I64 b) (hc : I64 c) (e : bringF a b c = r) : Calls Try.prog 31 #[.int .i64 a, .int .i64 b, .int .i64 c] w fun e w' => e = .returned (.int .i64 r) ∧ w = w' := by subst e; exact bring_c a b c w ha hb hc
theorem abs_is (a r : Int) (w : World) (ha : I64 a) (e : absF a = r) : Calls Try.prog 26 #[.int .i64 a] w fun e w' => e = .returned (.int .i64 r) ∧ w = w' := by subst e; exact abs_c a w ha
/-- a number brought to a range around 0 -/
theorem bring_around {a m : Int} (ha : I64 a) (h0 : 0 ≤ m) (h1 : m ≤ 9223372036854775807) : -m ≤ bringF a (-m) m ∧ bringF a (-m) m ≤ m ∧ bringF (bringF a (-m) m) (-m) m = bringF a (-m) m := by
  have h2 := cl_bd ha
  unfold L M at h2
  have e1 : cl (-m) = -m := cl_id (by omega)
  have e2 : cl m = m := cl_id (by omega)
  have h : -m ≤ bringF a (-m) m ∧ bringF a (-m) m ≤ m := by unfold bringF; rw [e1, e2]; (repeat' split) <;> omega
  refine ⟨h.1, h.2, ?_⟩
  generalize bringF a (-m) m = x at h
  unfold bringF; rw [e1, e2, cl_id (by omega)]; (repeat' split) <;> omega
theorem negF_in {a : Int} (h : -9223372036854775807 ≤ a) : negF a = -a := by unfold negF; rw [cl_id h]
theorem absF_le {x m : Int} (h0 : -m ≤ x) (h1 : x ≤ m) (h2 : m ≤ 9223372036854775807) : 0 ≤ absF x ∧ absF x ≤ m := by
  unfold absF; split
  · rw [negF_in (by omega)]; omega
  · omega
set_option maxRecDepth 100000 in
set_option maxHeartbeats 2000000 in
theorem brings_walk (a b m : Int) (w : World) (ha : I64 a) (hb : I64 b) (hm : I64 m) :
    Calls Try.prog 6 #[vecV a b, .int .i64 m] w fun e w' => e = .returned (.bool true) ∧ Grown w w' := by
  obtain ⟨A, eA⟩ : ∃ A, absF m = A := ⟨_, rfl⟩
  have bA := absF_bd hm
  unfold M at bA
  rw [eA] at bA
  obtain ⟨A0, A1⟩ := bA
  have bx := bring_around ha A0 A1
  have b_y := bring_around hb A0 A1
  obtain ⟨X, eX⟩ : ∃ X, bringF a (-A) A = X := ⟨_, rfl⟩
  obtain ⟨Y, eY⟩ : ∃ Y, bringF b (-A) A = Y := ⟨_, rfl⟩
  rw [eX] at bx
  rw [eY] at b_y
  obtain ⟨X0, X1, X2⟩ := bx
  obtain ⟨Y0, Y1, Y2⟩ := b_y
  obtain ⟨U, eU⟩ : ∃ U, absF X = U := ⟨_, rfl⟩
  obtain ⟨V, eV⟩ : ∃ V, absF Y = V := ⟨_, rfl⟩
  have bU := absF_le X0 X1 A1
  have bV := absF_le Y0 Y1 A1
  rw [eU] at bU
  rw [eV] at bV
  obtain ⟨U0, U1⟩ := bU
  obtain ⟨V0, V1⟩ := bV
  have iA : I64 A := by unfold I64; omega
  have iN : I64 (-A) := by unfold I64; omega
  have iX : I64 X := by unfold I64; omega
  have iY : I64 Y := by unfold I64; omega
  have eN : negF A = -A := negF_in (by omega)
  have EA := hid eA
  have EX := hid eX
  have EY := hid eY
  have EX2 := hid X2
  have EY2 := hid Y2
  have EU := hid eU
  have EV := hid eV
  have EN := hid eN
  clear eA eX eY X2 Y2 eU eV eN
  go_enter Try.func6, Try.ntmps6
  go_wp2_with fail
  refine (vfit_c _).mono ?_
  rintro e w1 ⟨rfl, k1⟩
  have c0 := k1.reads (p := ⟨w.heap.size, 0, none⟩) (x := .int .i64 a) (by go_simp)
  have c1 := k1.reads (p := ⟨w.heap.size, 1, none⟩) (x := .int .i64 b) (by go_simp)
  have H1 := hid (made_box k1)
  clear k1
  go_wp2_with fail
  refine (abs_is m A _ hm EA.out).mono ?_
  rintro e w' ⟨rfl, rfl⟩
  go_wp2_with fail
  refine (vbring_is a b A X Y _ ha hb iA (by rw [EN.out]; exact EX.out) (by rw [EN.out]; exact EY.out)).mono ?_
  rintro e w2 ⟨rfl, k2⟩
  have d0 := k2.reads c0
  have d1 := k2.reads c1
  have s2 : w.heap.size < w2.heap.size := World.block_lt_of_cell? _ _ d0
  have H2 := hid (H1.out.then_ (k2.low H1.out.1.size))
  clear k2 c0 c1
  go_wp2_with fail
  refine reg_made (by kernel_rfl) (by kernel_rfl) ?_
  intro T hT f hf
  have g0 := Class.reads hf (p := ⟨w.heap.size, 0, none⟩) (u := .int .i64 a) (by go_simp)
  have g1 := Class.reads hf (p := ⟨w.heap.size, 1, none⟩) (u := .int .i64 b) (by go_simp)
  have e0 := Class.reads hf (p := ⟨w2.heap.size, 0, none⟩) (u := .int .i64 X) (by go_simp)
  have e1 := Class.reads hf (p := ⟨w2.heap.size, 1, none⟩) (u := .int .i64 Y) (by go_simp)
  repeat (go_big_quiet_step ((first
    | (go_at_call 31; with_reducible exact hf.same (bring_is a (-A) A X _ ha iN iA EX.out))
    | (go_at_call 31; with_reducible exact hf.same (bring_is b (-A) A Y _ hb iN iA EY.out))
    | (go_at_call 26; with_reducible exact hf.same (abs_is X U _ iX EU.out))
    | (go_at_call 26; with_reducible exact hf.same (abs_is Y V _ iY EV.out))
    | (go_at_call 27; exact hf.made (vbring_is X Y A X Y _ iX iY iA (by rw [EN.out]; exact EX2.out) (by rw [EN.out]; exact EY2.out))))))
  refine wpQuiet_nil ?_
  intro w3 h3
  have hw := hid (H2.out.then_ ((made_box (hf.here h3)).low (Nat.le_of_lt s2)))
  clear hf h3 d0 d1 g0 g1 e0 e1
  go_wp2_with fail
  go_ret
  exact ⟨by simp, hw.out.grown⟩
end Go.Proofs.Yteahacfmmfjlmaa.Fx
