/- ShapeBoxes: the walk. -/
import Derived.Test.YtekcehhoimhjeaaShapeH
import Derived.Deep.DeepCutAuto
namespace Go.Proofs.Ytekcehhoimhjeaa.Fx
open Go.ChangeShapes Go.WideShapes Go.ChangeAt Go.RowKit
set_option linter.unusedVariables false

theorem mul_is (a b r : Int) (w : World) (ha : I64 a) (hb : I64 b) (e : mulF a b = r) : Calls Try.prog 23 #[.int .i64 a, .int .i64 b] w fun e w' => e = .returned (.int .i64 r) ∧ w = w' := by subst e; exact mul_c a b w ha hb
theorem and40 (x : Int) : bits .and .i64 x 1099511627775 = x % 1099511627776 := and_low x 40 (by omega)
/-- every cross of a rectangle is the product of its sides -/
theorem box_cross {a b p : Int} (ha : -1099511627776 ≤ a ∧ a ≤ 1099511627776) (hb : -1099511627776 ≤ b ∧ b ≤ 1099511627776) (hp : mulF (2 * a) (2 * b) = p) :
    ∀ i, i < 4 → ∀ j, j < 4 → j ≠ i → j ≠ (i + 1) % 4 → crossF (boxF a b) i ((i + 1) % 4) j = p := by
  have na : negF a = -a := negR (by unfold Rg; omega)
  have nb : negF b = -b := negR (by unfold Rg; omega)
  have s1 : subF a (-a) = 2 * a := by rw [sub_exact (by unfold Rg; omega) (by unfold Rg; omega) (by unfold Rg; omega)]; omega
  have s2 : subF (-a) a = -(2 * a) := by rw [sub_exact (by unfold Rg; omega) (by unfold Rg; omega) (by unfold Rg; omega)]; omega
  have s3 : subF b (-b) = 2 * b := by rw [sub_exact (by unfold Rg; omega) (by unfold Rg; omega) (by unfold Rg; omega)]; omega
  have s4 : subF (-b) b = -(2 * b) := by rw [sub_exact (by unfold Rg; omega) (by unfold Rg; omega) (by unfold Rg; omega)]; omega
  have s5 : subF a a = 0 := sub_self (by unfold Rg; omega)
  have s6 : subF b b = 0 := sub_self (by unfold Rg; omega)
  have s7 : subF (-a) (-a) = 0 := sub_self (by unfold Rg; omega)
  have s8 : subF (-b) (-b) = 0 := sub_self (by unfold Rg; omega)
  have ra : Rg (2 * a) := by unfold Rg; omega
  have rb : Rg (2 * b) := by unfold Rg; omega
  have m1 : mulF (2 * b) (2 * a) = p := by rw [mul_comm']; exact hp
  have m2 : mulF (2 * b) (-(2 * a)) = -p := by rw [mul_neg_right rb ra, m1]
  have m3 : mulF (-(2 * b)) (2 * a) = -p := by rw [mul_neg_left rb ra, m1]
  have m4 : mulF (-(2 * a)) (-(2 * b)) = p := by rw [mul_neg_right (Rg_neg ra) rb, mul_neg_left ra rb, hp]; omega
  have z1 : ∀ x, mulF 0 x = 0 := fun x => by rw [mul_comm']; exact mul_zero x
  have rp : Rg p := by rw [← hp]; exact rg_mul _ _
  have t1 : subF p 0 = p := by rw [sub_exact rp (by unfold Rg; omega) (by rw [Int.sub_zero]; exact rp)]; omega
  have t2 : subF 0 (-p) = p := by rw [sub_exact (by unfold Rg; omega) (Rg_neg rp) (by unfold Rg at *; omega)]; omega
  intro i hi j hj h1 h2
  rcases (show i = 0 ∨ i = 1 ∨ i = 2 ∨ i = 3 by omega) with rfl | rfl | rfl | rfl <;> rcases (show j = 0 ∨ j = 1 ∨ j = 2 ∨ j = 3 by omega) with rfl | rfl | rfl | rfl <;>
    first
    | (exfalso; omega)
    | (unfold crossF boxF
       simp only [Nat.reduceAdd, Nat.reduceMod, Nat.reduceEqDiff, true_or, or_true, or_self, if_true, if_false, na, nb, s1, s2, s3, s4, s5, s6, s7, s8, hp, m2, m3, m4, z1, t1, t2])
theorem box_right {a b p : Int} (ha : -1099511627776 ≤ a ∧ a ≤ 1099511627776) (hb : -1099511627776 ≤ b ∧ b ≤ 1099511627776) (hp : mulF (2 * a) (2 * b) = p) :
    RightP 2 0 4 (boxF a b) ↔ (-274877906944 ≤ a ∧ a ≤ 274877906944) ∧ (-274877906944 ≤ b ∧ b ≤ 274877906944) ∧ 0 < p := by
  have na : negF a = -a := negR (by unfold Rg; omega)
  have nb : negF b = -b := negR (by unfold Rg; omega)
  have cr := box_cross ha hb hp
  constructor
  · rintro (h | ⟨_, _, _, _, h1, h2⟩)
    · omega
    · have n2 : NearP (boxF a b 2) := h1 2 (by omega)
      have e : boxF a b 2 = (a, b) := rfl
      rw [e] at n2
      have c := h2 0 (by omega) 2 (by omega) (by omega) (by omega)
      rw [cr 0 (by omega) 2 (by omega) (by omega) (by omega)] at c
      exact ⟨n2.1, n2.2, c⟩
  · rintro ⟨h1, h2, h3⟩
    refine .inr ⟨rfl, rfl, by omega, by omega, fun i hi => ?_, fun i hi j hj g1 g2 => ?_⟩
    · unfold NearP boxF
      rw [na, nb]
      simp only []
      constructor <;> split <;> omega
    · rw [cr i hi j hj g1 g2]; exact h3
theorem box_i64 {a b : Int} (ha : I64 a) (hb : I64 b) : Cin (boxF a b) 4 := fun i hi => by
  unfold boxF
  simp only []
  constructor <;> split <;> first | exact i64_neg (by assumption) | assumption

set_option maxRecDepth 100000 in
set_option maxHeartbeats 4000000 in
theorem sboxes_walk (a b : Int) (w : World) (ha : I64 a) (hb : I64 b) :
    Calls Try.prog 7 #[.int .i64 a, .int .i64 b] w fun e w' => e = .returned (.bool true) ∧ Made w.heap.size w w' := by
  have aA := and40 a
  have aB := and40 b
  obtain ⟨A, eA⟩ : ∃ A, a % 1099511627776 = A := ⟨_, rfl⟩
  obtain ⟨B, eB⟩ : ∃ B, b % 1099511627776 = B := ⟨_, rfl⟩
  have A0 : 0 ≤ A := by omega
  have A1 : A < 1099511627776 := by omega
  have B0 : 0 ≤ B := by omega
  have B1 : B < 1099511627776 := by omega
  rw [eA] at aA
  rw [eB] at aB
  clear eA eB
  obtain ⟨p, ep⟩ : ∃ p, mulF (2 * A) (2 * B) = p := ⟨_, rfl⟩
  have iA : I64 A := by unfold I64; omega
  have iB : I64 B := by unfold I64; omega
  have iN : I64 (-A) := by unfold I64; omega
  have i2A : I64 (2 * A) := by unfold I64; omega
  have i2B : I64 (2 * B) := by unfold I64; omega
  have p0 : 0 ≤ p := by
    rw [← ep]
    have := mul_le (a := 0) (b := 2 * A) (d := 2 * B) (by unfold Rg; omega) (by unfold Rg; omega) (by unfold Rg; omega) (by omega) (by omega)
    rw [mul_comm' 0, mul_zero] at this
    exact this
  have r1 := box_right (a := A) (b := B) (by omega) (by omega) ep
  have r2 := box_right (a := -A) (b := B) (p := -p) (by omega) (by omega) (by rw [← ep, show 2 * -A = -(2 * A) by omega, mul_neg_left (by unfold Rg; omega) (by unfold Rg; omega)])
  have RF : Hid (¬ RightP 2 0 4 (boxF (-A) B)) := fun h => by have := r2.1 h; omega
  have R1 := hid r1
  have EP := hid ep
  have CA : Hid (Cin (boxF A B) 4) := box_i64 iA iB
  have CN : Hid (Cin (boxF (-A) B) 4) := box_i64 iN iB
  clear r1 r2 ep
  go_enter Try.func7, Try.ntmps7
  go_wp2_with fail
  refine (sfit_c _).mono ?_
  rintro e w1 ⟨rfl, k1⟩
  have M1 := hid k1
  clear k1
  by_cases hA : 274877906944 < A
  · have RN : Hid (¬ RightP 2 0 4 (boxF A B)) := fun h => by have := R1.out.1 h; omega
    go_wp2_with fail
    refine (mul_is (2 * A) (2 * B) p _ i2A i2B EP.out).mono ?_
    rintro e w' ⟨rfl, rfl⟩
    go_wp2_with fail
    refine (box_is A B _ (boxF A B) iA iB (fun _ _ => rfl)).mono ?_
    rintro e w2 ⟨g, rfl, hg, hrow, k2⟩
    have M2 : Hid (Made w.heap.size w w2) := M1.out.then_ (k2.low M1.out.1.size)
    have P2 := hid hrow.pts
    clear hg hrow k2
    go_wp2_with fail
    refine (right_poly g 0 4 4 _ _ (by omega) (by omega) P2.out CA.out false (no_iff RN.out)).mono ?_
    rintro e w3 ⟨rfl, k3⟩
    have M3 : Hid (Made w.heap.size w w3) := M2.out.then_ (k3.low M2.out.1.size)
    clear k3
    go_wp2_with fail
    refine (box_is (-A) B _ (boxF (-A) B) iN iB (fun _ _ => rfl)).mono ?_
    rintro e w4 ⟨g4, rfl, hg, hrow, k4⟩
    have M4 : Hid (Made w.heap.size w w4) := M3.out.then_ (k4.low M3.out.1.size)
    have P4 := hid hrow.pts
    clear hg hrow k4
    go_wp2_with fail
    refine (right_poly g4 0 4 4 _ _ (by omega) (by omega) P4.out CN.out false (no_iff RF.out)).mono ?_
    rintro e w5 ⟨rfl, k5⟩
    have M5 : Hid (Made w.heap.size w w5) := M4.out.then_ (k5.low M4.out.1.size)
    clear k5
    go_wp2_with fail
    go_ret
    exact ⟨rfl, M5.out⟩
  by_cases hB : 274877906944 < B
  · have RN : Hid (¬ RightP 2 0 4 (boxF A B)) := fun h => by have := R1.out.1 h; omega
    go_wp2_with fail
    refine (mul_is (2 * A) (2 * B) p _ i2A i2B EP.out).mono ?_
    rintro e w' ⟨rfl, rfl⟩
    go_wp2_with fail
    refine (box_is A B _ (boxF A B) iA iB (fun _ _ => rfl)).mono ?_
    rintro e w2 ⟨g, rfl, hg, hrow, k2⟩
    have M2 : Hid (Made w.heap.size w w2) := M1.out.then_ (k2.low M1.out.1.size)
    have P2 := hid hrow.pts
    clear hg hrow k2
    go_wp2_with fail
    refine (right_poly g 0 4 4 _ _ (by omega) (by omega) P2.out CA.out false (no_iff RN.out)).mono ?_
    rintro e w3 ⟨rfl, k3⟩
    have M3 : Hid (Made w.heap.size w w3) := M2.out.then_ (k3.low M2.out.1.size)
    clear k3
    go_wp2_with fail
    refine (box_is (-A) B _ (boxF (-A) B) iN iB (fun _ _ => rfl)).mono ?_
    rintro e w4 ⟨g4, rfl, hg, hrow, k4⟩
    have M4 : Hid (Made w.heap.size w w4) := M3.out.then_ (k4.low M3.out.1.size)
    have P4 := hid hrow.pts
    clear hg hrow k4
    go_wp2_with fail
    refine (right_poly g4 0 4 4 _ _ (by omega) (by omega) P4.out CN.out false (no_iff RF.out)).mono ?_
    rintro e w5 ⟨rfl, k5⟩
    have M5 : Hid (Made w.heap.size w w5) := M4.out.then_ (k5.low M4.out.1.size)
    clear k5
    go_wp2_with fail
    go_ret
    exact ⟨rfl, M5.out⟩
  by_cases hp : p = 0
  · have RN : Hid (¬ RightP 2 0 4 (boxF A B)) := fun h => by have := R1.out.1 h; omega
    have EP0 : Hid (mulF (2 * A) (2 * B) = 0) := EP.out.trans hp
    clear hp
    go_wp2_with fail
    refine (mul_is (2 * A) (2 * B) 0 _ i2A i2B EP0.out).mono ?_
    rintro e w' ⟨rfl, rfl⟩
    go_wp2_with fail
    refine (box_is A B _ (boxF A B) iA iB (fun _ _ => rfl)).mono ?_
    rintro e w2 ⟨g, rfl, hg, hrow, k2⟩
    have M2 : Hid (Made w.heap.size w w2) := M1.out.then_ (k2.low M1.out.1.size)
    have P2 := hid hrow.pts
    clear hg hrow k2
    go_wp2_with fail
    refine (right_poly g 0 4 4 _ _ (by omega) (by omega) P2.out CA.out false (no_iff RN.out)).mono ?_
    rintro e w3 ⟨rfl, k3⟩
    have M3 : Hid (Made w.heap.size w w3) := M2.out.then_ (k3.low M2.out.1.size)
    clear k3
    go_wp2_with fail
    refine (box_is (-A) B _ (boxF (-A) B) iN iB (fun _ _ => rfl)).mono ?_
    rintro e w4 ⟨g4, rfl, hg, hrow, k4⟩
    have M4 : Hid (Made w.heap.size w w4) := M3.out.then_ (k4.low M3.out.1.size)
    have P4 := hid hrow.pts
    clear hg hrow k4
    go_wp2_with fail
    refine (right_poly g4 0 4 4 _ _ (by omega) (by omega) P4.out CN.out false (no_iff RF.out)).mono ?_
    rintro e w5 ⟨rfl, k5⟩
    have M5 : Hid (Made w.heap.size w w5) := M4.out.then_ (k5.low M4.out.1.size)
    clear k5
    go_wp2_with fail
    go_ret
    exact ⟨rfl, M5.out⟩
  · have RY : Hid (RightP 2 0 4 (boxF A B)) := R1.out.2 (by omega)
    have hp' : (p == 0) = false := by simpa using hp
    have dA : decide (274877906944 < A) = false := by simpa using hA
    have dB : decide (274877906944 < B) = false := by simpa using hB
    go_wp2_with fail
    refine (mul_is (2 * A) (2 * B) p _ i2A i2B EP.out).mono ?_
    rintro e w' ⟨rfl, rfl⟩
    go_wp2_with fail
    refine (box_is A B _ (boxF A B) iA iB (fun _ _ => rfl)).mono ?_
    rintro e w2 ⟨g, rfl, hg, hrow, k2⟩
    have M2 : Hid (Made w.heap.size w w2) := M1.out.then_ (k2.low M1.out.1.size)
    have P2 := hid hrow.pts
    clear hg hrow k2
    go_wp2_with fail
    refine (right_poly g 0 4 4 _ _ (by omega) (by omega) P2.out CA.out true (yes_iff RY.out)).mono ?_
    rintro e w3 ⟨rfl, k3⟩
    have M3 : Hid (Made w.heap.size w w3) := M2.out.then_ (k3.low M2.out.1.size)
    clear k3
    go_wp2_with fail
    refine (box_is (-A) B _ (boxF (-A) B) iN iB (fun _ _ => rfl)).mono ?_
    rintro e w4 ⟨g4, rfl, hg, hrow, k4⟩
    have M4 : Hid (Made w.heap.size w w4) := M3.out.then_ (k4.low M3.out.1.size)
    have P4 := hid hrow.pts
    clear hg hrow k4
    go_wp2_with fail
    refine (right_poly g4 0 4 4 _ _ (by omega) (by omega) P4.out CN.out false (no_iff RF.out)).mono ?_
    rintro e w5 ⟨rfl, k5⟩
    have M5 : Hid (Made w.heap.size w w5) := M4.out.then_ (k5.low M4.out.1.size)
    clear k5
    go_wp2_with fail
    go_ret
    exact ⟨rfl, M5.out⟩
end Go.Proofs.Ytekcehhoimhjeaa.Fx
