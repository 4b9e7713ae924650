/- Plain words for masses: circles, rectangles, densities. No Go in sight. -/
import Derived.Test.YtahbnbaldoblaaaPlain
namespace Go.Proofs.Ytahbnbaldoblaaa.Fx
set_option linter.unusedVariables false

/-- a product of two that are no less than nothing, and not great -/
theorem mul_floor {a b : Int} (a0 : 0 ≤ a) (b0 : 0 ≤ b) (ra : Rg a) (rb : Rg b) (h : a * b ≤ 19807040628566084398385987584) : mulF a b = a * b / 4294967296 ∧ 0 ≤ a * b / 4294967296 := by
  have p0 : 0 ≤ a * b := Int.mul_nonneg a0 b0
  have q0 : 0 ≤ a * b / 4294967296 := Int.ediv_nonneg p0 (by omega)
  refine ⟨?_, q0⟩
  unfold mulF
  rw [absR ra, absR rb, if_neg (by omega), if_neg (by omega), decide_eq_false (by omega), decide_eq_false (by omega), sign_small _ (by omega)]
  rfl
theorem floor_le (p : Int) : 4294967296 * (p / 4294967296) ≤ p ∧ p < 4294967296 * (p / 4294967296) + 4294967296 := ⟨Int.mul_ediv_self_le (by omega), Int.lt_mul_ediv_self_add (by omega)⟩
theorem half_floor {a : Int} (a0 : 0 ≤ a) (ra : Rg a) : divF a 8589934592 = a / 2 := by
  rw [div_eq ra (by unfold Rg; omega) (by omega), absR ra, if_neg (by omega), decide_eq_false (by omega)]
  have e : a * 4294967296 / 8589934592 = a / 2 := by omega
  rw [e, sign_small _ (by unfold Rg at ra; omega)]
  rfl

/-! ### circles -/
def areaC (R : Int) : Int := mulF 13493037705 (mulF R R)
def roundC (R : Int) : Int := divF (mulF (areaC R) (mulF R R)) 8589934592
theorem sq_floor {R : Int} (h0 : 0 ≤ R) (h1 : R ≤ 140737488355328) : mulF R R = R * R / 4294967296 ∧ 0 ≤ R * R / 4294967296 ∧ R * R / 4294967296 ≤ 4611686018427387904 := by
  have p := prod_in (x := R) (y := R) (X := 140737488355328) (Y := 140737488355328) (by omega) h1 (by omega) h1
  have f := mul_floor h0 h0 (by unfold Rg; omega) (by unfold Rg; omega) (by omega)
  exact ⟨f.1, f.2, by omega⟩
theorem circle_nn {R : Int} (h : Rg R) : 0 ≤ areaC R ∧ 0 ≤ roundC R := by
  have m : 0 ≤ mulF R R := by
    unfold mulF
    rw [show (decide (R < 0) != decide (R < 0)) = false by simp]
    exact sign_nonneg (Int.ediv_nonneg (Int.mul_nonneg (absF_nn _) (absF_nn _)) (by omega))
  have a : 0 ≤ areaC R := mul_nn (by unfold Rg; omega) (rg_mul _ _) (by omega) m
  exact ⟨a, div_nn (rg_mul _ _) (by unfold Rg; omega) (by omega) (mul_nn (rg_mul _ _) (rg_mul _ _) a m)⟩
/-- a greater circle has more -/
theorem circle_mono {R S : Int} (h0 : 0 ≤ R) (h : R ≤ S) (rS : Rg S) : areaC R ≤ areaC S ∧ roundC R ≤ roundC S := by
  have rR : Rg R := by unfold Rg at *; omega
  have m := mul_le2 rR rR rS rS h0 h h0 h
  have m0 := mul_nn rR rR h0 h0
  have a : areaC R ≤ areaC S := mul_le2 (by unfold Rg; omega) (rg_mul _ _) (by unfold Rg; omega) (rg_mul _ _) (by omega) (Int.le_refl _) m0 m
  have a0 := (circle_nn rR).1
  exact ⟨a, div_le (rg_mul _ _) (rg_mul _ _) (by unfold Rg; omega) (by omega) (mul_le2 (rg_mul _ _) (rg_mul _ _) (rg_mul _ _) (rg_mul _ _) a0 a m0 m)⟩
/-- between the squares within and around it -/
theorem circle_between {a : Int} (h0 : 0 ≤ a) (h1 : a ≤ 137438953472) : areaC a ≤ mulF (2 * a) (2 * a) ∧ 2 * mulF a a ≤ areaC a ∧ roundC a ≤ mulF (areaC a) (mulF a a) ∧ mulF a a ≤ 4398046511104 ∧ 0 ≤ mulF a a := by
  have p := prod_in (x := a) (y := a) (X := 137438953472) (Y := 137438953472) (by omega) h1 (by omega) h1
  have s1 := sq_floor h0 (by omega)
  have s2 := sq_floor (R := 2 * a) (by omega) (by omega)
  have e : 2 * a * (2 * a) = 4 * (a * a) := by rw [Int.mul_assoc, Int.mul_left_comm a 2 a]; omega
  rw [e] at s2
  unfold roundC areaC
  rw [s2.1, s1.1]
  obtain ⟨_, q0, _⟩ := s1
  have f := floor_le (a * a)
  generalize a * a / 4294967296 = q at *
  have q1 : q ≤ 4398046511104 := by omega
  have g := mul_floor (a := 13493037705) (b := q) (by omega) q0 (by unfold Rg; omega) (by unfold Rg; omega) (by omega)
  rw [g.1]
  have r1 : 13493037705 * q / 4294967296 ≤ 17592186044416 := by omega
  have r2 : 2 * q ≤ 13493037705 * q / 4294967296 := by omega
  have r3 : 13493037705 * q / 4294967296 ≤ 4 * (a * a) / 4294967296 := by omega
  generalize 13493037705 * q / 4294967296 = v at *
  have m := prod_in (x := v) (y := q) (X := 17592186044416) (Y := 4398046511104) (by omega) (by omega) (by omega) (by omega)
  have t := mul_floor (a := v) (b := q) (by omega) q0 (by unfold Rg; omega) (by unfold Rg; omega) (by omega)
  rw [t.1]
  have t0 := t.2
  have t1 : v * q / 4294967296 ≤ 9223372036854775807 := by omega
  generalize v * q / 4294967296 = u at *
  rw [half_floor t0 (by unfold Rg; omega)]
  omega

theorem add_exact {a b c : Int} (ha : Rg a) (hb : Rg b) (hc : Rg c) (h : a + b = c) : addF a b = c := by rw [addR ha hb, h, satR hc]
/-! ### rectangles -/
set_option maxHeartbeats 2000000 in
theorem box_area {f : Cs} {a b : Int} (a0 : 0 ≤ a) (a1 : a ≤ 137438953472) (b0 : 0 ≤ b) (b1 : b ≤ 137438953472) (f0 : f 0 = (-a, -b)) (f1 : f 1 = (a, -b)) (f2 : f 2 = (a, b)) (f3 : f 3 = (-a, b)) :
    ∃ m, sumT areaT f 4 4 = 4 * m ∧ 4 * m ≤ mulF (2 * a) (2 * b) ∧ mulF (2 * a) (2 * b) ≤ 4 * m + 3 ∧ 0 ≤ m ∧ m ≤ 4398046511104 := by
  have ra : Rg a := by unfold Rg; omega
  have rb : Rg b := by unfold Rg; omega
  have p := prod_in (x := a) (y := b) (X := 137438953472) (Y := 137438953472) (by omega) a1 (by omega) b1
  obtain ⟨e1, m0⟩ := mul_floor a0 b0 ra rb (by omega)
  have e : 2 * a * (2 * b) = 4 * (a * b) := by rw [Int.mul_assoc, Int.mul_left_comm a 2 b]; omega
  obtain ⟨e2, _⟩ := mul_floor (a := 2 * a) (b := 2 * b) (by omega) (by omega) (by unfold Rg; omega) (by unfold Rg; omega) (by omega)
  rw [e] at e2
  obtain ⟨m, em⟩ : ∃ m, a * b / 4294967296 = m := ⟨_, rfl⟩
  rw [em] at e1 m0
  have fl := floor_le (a * b)
  rw [em] at fl
  have mb : m ≤ 4398046511104 := by omega
  have n1 : mulF (-a) b = -m := by rw [mul_neg_left ra rb, e1]
  have n2 : mulF a (-b) = -m := by rw [mul_neg_right ra rb, e1]
  have n3 : mulF (-a) (-b) = m := by rw [mul_neg_right (Rg_neg ra) rb, n1]; omega
  have n4 : mulF b a = m := by rw [mul_comm']; exact e1
  have n5 : mulF (-b) a = -m := by rw [mul_comm']; exact n2
  have n6 : mulF b (-a) = -m := by rw [mul_comm']; exact n1
  have n7 : mulF (-b) (-a) = m := by rw [mul_comm']; exact n3
  have s1 : subF m (-m) = 2 * m := by rw [sub_exact (by unfold Rg; omega) (by unfold Rg; omega) (by unfold Rg; omega)]; omega
  have d1 : divF (2 * m) 8589934592 = m := by rw [half_floor (by omega) (by unfold Rg; omega)]; omega
  have g1 : addF (0) m = m := add_exact (by unfold Rg; omega) (by unfold Rg; omega) (by unfold Rg; omega) (by omega)
  have g2 : addF (m) m = 2 * m := add_exact (by unfold Rg; omega) (by unfold Rg; omega) (by unfold Rg; omega) (by omega)
  have g3 : addF (2 * m) m = 3 * m := add_exact (by unfold Rg; omega) (by unfold Rg; omega) (by unfold Rg; omega) (by omega)
  have g4 : addF (3 * m) m = 4 * m := add_exact (by unfold Rg; omega) (by unfold Rg; omega) (by unfold Rg; omega) (by omega)
  have t0 : areaT (f 0) (f 1) = m := by
    rw [f0, f1]; show divF (subF (mulF (-a) (-b)) (mulF (-b) a)) 8589934592 = m
    rw [n3, n5, s1, d1]
  have t1 : areaT (f 1) (f 2) = m := by
    rw [f1, f2]; show divF (subF (mulF a b) (mulF (-b) a)) 8589934592 = m
    rw [e1, n5, s1, d1]
  have t2 : areaT (f 2) (f 3) = m := by
    rw [f2, f3]; show divF (subF (mulF a b) (mulF b (-a))) 8589934592 = m
    rw [e1, n6, s1, d1]
  have t3 : areaT (f 3) (f 0) = m := by
    rw [f3, f0]; show divF (subF (mulF (-a) (-b)) (mulF b (-a))) 8589934592 = m
    rw [n3, n6, s1, d1]
  have es : sumT areaT f 4 4 = addF (addF (addF (addF 0 (areaT (f 0) (f 1))) (areaT (f 1) (f 2))) (areaT (f 2) (f 3))) (areaT (f 3) (f 0)) := by simp only [sumT, Nat.reduceAdd, Nat.reduceMod]
  rw [e2]
  refine ⟨m, by rw [es, t0, t1, t2, t3, g1, g2, g3, g4], ?_, ?_, m0, mb⟩ <;> (clear e1 e2 n1 n2 n3 n4 n5 n6 n7 s1 d1 g1 g2 g3 g4 t0 t1 t2 t3 es; generalize a * b = P at *; omega)

/-! ### densities -/
def massF (d A : Int) : Int := max (mulF d A) 1
theorem mass_pos (d A : Int) : 1 ≤ massF d A ∧ Rg (massF d A) := by
  have := rg_mul d A
  unfold massF
  unfold Rg at *
  omega
/-- a greater mass is moved less -/
theorem move_less {M N : Int} (h0 : 0 < M) (h : M ≤ N) (rN : Rg N) : divF 4294967296 N ≤ divF 4294967296 M := by
  have rM : Rg M := by unfold Rg at *; omega
  rw [div_eq (by unfold Rg; omega) rN (by omega), div_eq (by unfold Rg; omega) rM h0]
  rw [decide_eq_false (by omega)]
  refine sign_le ?_
  have hX : 0 ≤ absF 4294967296 * 4294967296 := Int.mul_nonneg (absF_nn _) (by omega)
  generalize absF 4294967296 * 4294967296 = X at *
  refine Int.le_ediv_of_mul_le h0 ?_
  have q0 : 0 ≤ X / N := Int.ediv_nonneg hX (by omega)
  have a := Int.mul_le_mul_of_nonneg_left h q0
  have b := Int.ediv_mul_le X (show N ≠ 0 by omega)
  omega
theorem dense_mass {d A : Int} (d0 : 1 ≤ d) (d1 : d ≤ 2199023255552) (A0 : 0 ≤ A) (A1 : A ≤ 1099511627776) :
    massF (2 * d) A ≤ 2 * massF d A + 1 ∧ 2 * massF d A - 1 ≤ massF (2 * d) A + 1 ∧ massF d A ≤ massF (2 * d) A ∧ massF (2 * d) A ≤ 1125899906842624 := by
  have p := prod_in (x := d) (y := A) (X := 2199023255552) (Y := 1099511627776) (by omega) d1 (by omega) A1
  have a := mul_floor (a := d) (b := A) (by omega) A0 (by unfold Rg; omega) (by unfold Rg; omega) (by omega)
  have e : 2 * d * A = 2 * (d * A) := Int.mul_assoc _ _ _
  have b := mul_floor (a := 2 * d) (b := A) (by omega) A0 (by unfold Rg; omega) (by unfold Rg; omega) (by omega)
  rw [e] at b
  unfold massF
  rw [a.1, b.1]
  generalize d * A = P at *
  omega
theorem dense_round {d B : Int} (d0 : 1 ≤ d) (d1 : d ≤ 2199023255552) (B0 : 0 ≤ B) (rB : Rg B) : massF d B ≤ massF (2 * d) B := by
  have := mul_le (a := d) (b := 2 * d) (d := B) (by unfold Rg; omega) (by unfold Rg; omega) rB B0 (by omega)
  unfold massF
  omega
end Go.Proofs.Ytahbnbaldoblaaa.Fx
