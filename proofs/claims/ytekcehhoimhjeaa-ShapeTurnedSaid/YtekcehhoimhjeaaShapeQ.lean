/- Plain words for shapes: the ways away from the sides. -/
import Derived.Test.YtekcehhoimhjeaaShapeP
namespace Go.Proofs.Ytekcehhoimhjeaa.Fx
set_option linter.unusedVariables false

/-- a unit vector, (0, 0) if there is none -/
def uF (a b : Int) : Int × Int := if lenF a b = 0 then (0, 0) else (divF a (lenF a b), divF b (lenF a b))
/-- the way away from the side from corner i on -/
def normF (f : Cs) (n i : Nat) : Int × Int :=
  let u := uF (subF (f ((i + 1) % n)).1 (f i).1) (subF (f ((i + 1) % n)).2 (f i).2)
  (u.2, negF u.1)
theorem addF_comm (a b : Int) : addF a b = addF b a := by unfold addF; rw [Int.add_comm]
theorem len_turn {a b : Int} (ha : Rg a) : lenF b (-a) = lenF a b := by
  unfold lenF
  rw [mul_neg_right (Rg_neg ha) ha, mul_neg_left ha ha, Int.neg_neg, addF_comm]
theorem div_times {a n : Int} (ha : Rg a) (hn : 131073 ≤ n) (hm : n < 281474976710656) (h : absF a < n + 131073) :
    (-n ≤ n * divF a n - a * 4294967296 ∧ n * divF a n - a * 4294967296 ≤ n) ∧ (-8589934592 ≤ divF a n ∧ divF a n ≤ 8589934592) := by
  have h0 := (absR_bd ha).1
  rw [div_eq ha (by unfold Rg; omega) (by omega)]
  have q0 : 0 ≤ absF a * 4294967296 / n := Int.ediv_nonneg (by omega) (by omega)
  have q1 : n * (absF a * 4294967296 / n) ≤ absF a * 4294967296 := Int.mul_ediv_self_le (by omega)
  have q2 : absF a * 4294967296 < n * (absF a * 4294967296 / n) + n := Int.lt_mul_ediv_self_add (by omega)
  have q3 : absF a * 4294967296 / n ≤ 8589934592 := by
    refine Int.le_of_lt_add_one (Int.ediv_lt_of_lt_mul (by omega) ?_)
    omega
  rw [sign_small _ (by omega)]
  generalize absF a * 4294967296 / n = q at *
  rw [absR ha] at q1 q2
  by_cases hs : a < 0
  · simp only [hs, if_true, decide_true] at *
    rw [Int.mul_neg]; omega
  · simp only [hs, if_false, decide_false, Bool.false_eq_true] at *
    omega
/-- what lies to the left of a way does not lie beyond it -/
theorem dot_out {A B E F : Int} (hA : -68719476736 ≤ A ∧ A ≤ 68719476736) (hB : -68719476736 ≤ B ∧ B ≤ 68719476736) (hE : -68719476736 ≤ E ∧ E ≤ 68719476736) (hF : -68719476736 ≤ F ∧ F ≤ 68719476736)
    (hc : 0 ≤ A * F - B * E) (hs : 4194304 ≤ absF A ∨ 4194304 ≤ absF B) :
    lenF A B ≠ 0 ∧ addF (mulF (divF B (lenF A B)) E) (mulF (divF (-A) (lenF A B)) F) ≤ 4294967 := by
  have rA : Rg A := by unfold Rg; omega
  have rB : Rg B := by unfold Rg; omega
  have sA : Sm A := by unfold Sm; omega
  have sB : Sm B := by unfold Sm; omega
  obtain ⟨p1, p2⟩ := lens_part sA sB
  have nm : lenF A B < 281474976710656 := (sqrt_bd _).2
  have p3 : absF (-A) < lenF A B + 131073 := by rw [absR_neg rA]; exact p1
  generalize lenF A B = n at *
  have n1 : 131073 ≤ n := by omega
  refine ⟨by omega, ?_⟩
  obtain ⟨⟨u1, u2⟩, u3, u4⟩ := div_times rB n1 nm p2
  obtain ⟨⟨v1, v2⟩, v3, v4⟩ := div_times (Rg_neg rA) n1 nm p3
  generalize divF B n = u at *
  generalize divF (-A) n = v at *
  obtain ⟨r, er⟩ : ∃ r, n * u - B * 4294967296 = r := ⟨_, rfl⟩
  obtain ⟨s, es⟩ : ∃ s, n * v - -A * 4294967296 = s := ⟨_, rfl⟩
  rw [er] at u1 u2
  rw [es] at v1 v2
  have a1 := (prod_in (x := r) (y := E) (X := n) (Y := 68719476736) u1 u2 hE.1 hE.2).2
  have a2 := (prod_in (x := s) (y := F) (X := n) (Y := 68719476736) v1 v2 hF.1 hF.2).2
  have e1 : n * u * E = B * E * 4294967296 + r * E := by
    rw [show n * u = B * 4294967296 + r by omega, Int.add_mul, Int.mul_right_comm]
  have e2 : n * v * F = -(A * F * 4294967296) + s * F := by
    rw [show n * v = -A * 4294967296 + s by omega, Int.add_mul, Int.mul_right_comm, Int.neg_mul, Int.neg_mul]
  have T : u * E + v * F ≤ 137438953472 := by
    refine Int.not_lt.1 fun h => ?_
    have h1 := Int.mul_le_mul_of_nonneg_left (show 137438953473 ≤ u * E + v * F by omega) (show 0 ≤ n by omega)
    rw [Int.mul_add, ← Int.mul_assoc, ← Int.mul_assoc, e1, e2] at h1
    generalize A * F = z1 at *; generalize B * E = z2 at *; generalize r * E = z3 at *; generalize s * F = z4 at *
    omega
  have m1 := mul_near (a := u) (b := E) (by unfold Sm; omega) (by unfold Sm; omega)
  have m2 := mul_near (a := v) (b := F) (by unfold Sm; omega) (by unfold Sm; omega)
  have w1 := prod_in (x := u) (y := E) (X := 8589934592) (Y := 68719476736) u3 u4 hE.1 hE.2
  have w2 := prod_in (x := v) (y := F) (X := 8589934592) (Y := 68719476736) v3 v4 hF.1 hF.2
  rw [addR (rg_mul _ _) (rg_mul _ _)]
  generalize mulF u E = m at *
  generalize mulF v F = m' at *
  generalize u * E = p at *
  generalize v * F = q at *
  rw [satR (by unfold Rg; omega)]
  omega

/-- all that the statement about normals asks of a side of a grid and a corner of it -/
theorem grid_norm {x y : Nat → Int} {k : Int} {n : Nat} (g : Grid x y k n) {i : Nat} (hi : i < n) {dx dy : Int}
    (ex : subF (grid x y k ((i + 1) % n)).1 (grid x y k i).1 = dx) (ey : subF (grid x y k ((i + 1) % n)).2 (grid x y k i).2 = dy) :
    (-68719476736 ≤ dx ∧ dx ≤ 68719476736) ∧ (-68719476736 ≤ dy ∧ dy ≤ 68719476736) ∧ lenF dy (-dx) ≠ 0 ∧ normF (grid x y k) n i = (divF dy (lenF dy (-dx)), divF (-dx) (lenF dy (-dx))) ∧
    ∀ j, j < n → addF (mulF (divF dy (lenF dy (-dx))) (subF (grid x y k j).1 (grid x y k i).1)) (mulF (divF (-dx) (lenF dy (-dx))) (subF (grid x y k j).2 (grid x y k i).2)) ≤ 4294967 := by
  have n0 := g.n0
  have hl : (i + 1) % n < n := Nat.mod_lt _ (by omega)
  have hz := st_of g.k0 g.k1
  have xi := g.xb i hi; have yi := g.yb i hi
  have xl := g.xb _ hl; have yl := g.yb _ hl
  have eX : dx = (x ((i + 1) % n) - x i) * (k * 4194304) := by rw [← ex]; exact sub_grid hz xl xi
  have eY : dy = (y ((i + 1) % n) - y i) * (k * 4194304) := by rw [← ey]; exact sub_grid hz yl yi
  obtain ⟨X, hX⟩ : ∃ X, x ((i + 1) % n) - x i = X := ⟨_, rfl⟩
  obtain ⟨Y, hY⟩ : ∃ Y, y ((i + 1) % n) - y i = Y := ⟨_, rfl⟩
  obtain ⟨z, ez⟩ : ∃ z, k * 4194304 = z := ⟨_, rfl⟩
  have key : 0 < icross x y i ((i + 1) % n) ((i + 2) % n) := by
    refine g.cv i hi _ (Nat.mod_lt _ (by omega)) ?_ ?_ <;>
    · have n1 := g.n1
      rcases (show n = 3 ∨ n = 4 ∨ n = 5 ∨ n = 6 ∨ n = 7 ∨ n = 8 by omega) with rfl | rfl | rfl | rfl | rfl | rfl <;> omega
  have nz : X ≠ 0 ∨ Y ≠ 0 := by
    refine Classical.byContradiction fun h => ?_
    have hx0 : X = 0 := by omega
    have hy0 : Y = 0 := by omega
    unfold icross at key
    rw [hX, hY, hx0, hy0] at key
    simp at key
  rw [hX, ez] at eX
  rw [hY, ez] at eY
  rw [ez] at hz
  have bX := st_rg hz (a := X) (by omega) (by omega)
  have bY := st_rg hz (a := Y) (by omega) (by omega)
  have rX : Rg dx := by rw [eX]; exact bX.1
  have rY : Rg dy := by rw [eY]; exact bY.1
  have big : 4194304 ≤ absF dx ∨ 4194304 ≤ absF dy := by
    have far : ∀ a : Int, a ≠ 0 → a * z ≤ -4194304 ∨ 4194304 ≤ a * z := fun a h0 => by
      unfold St at hz
      rcases (show a ≤ -1 ∨ 1 ≤ a by omega) with h | h
      · left; have := Int.mul_le_mul_of_nonneg_right h (show 0 ≤ z by omega); omega
      · right; have := Int.mul_le_mul_of_nonneg_right h (show 0 ≤ z by omega); omega
    rw [absR rX, absR rY]
    rcases nz with h | h
    · left; have := far X h; rw [eX]; split <;> omega
    · right; have := far Y h; rw [eY]; split <;> omega
  have out : ∀ j, j < n → lenF dx dy ≠ 0 ∧ addF (mulF (divF dy (lenF dx dy)) (subF (grid x y k j).1 (grid x y k i).1)) (mulF (divF (-dx) (lenF dx dy)) (subF (grid x y k j).2 (grid x y k i).2)) ≤ 4294967 := fun j hj => by
    have xj := g.xb j hj; have yj := g.yb j hj
    have fE : subF (grid x y k j).1 (grid x y k i).1 = (x j - x i) * z := by unfold grid; simp only [ez]; exact sub_grid hz xj xi
    have fF : subF (grid x y k j).2 (grid x y k i).2 = (y j - y i) * z := by unfold grid; simp only [ez]; exact sub_grid hz yj yi
    rw [fE, fF]
    refine dot_out (by omega) (by omega) ?_ ?_ ?_ big
    · have := st_rg hz (a := x j - x i) (by omega) (by omega); omega
    · have := st_rg hz (a := y j - y i) (by omega) (by omega); omega
    · have ic : 0 ≤ X * (y j - y i) - Y * (x j - x i) := by
        by_cases c1 : j = i
        · subst c1; simp
        · by_cases c2 : j = (i + 1) % n
          · rw [c2, hX, hY, Int.mul_comm]; omega
          · have := g.cv i hi j hj c1 c2
            unfold icross at this
            rw [hX, hY] at this; omega
      have e : dx * ((y j - y i) * z) - dy * ((x j - x i) * z) = (X * (y j - y i) - Y * (x j - x i)) * (z * z) := by
        rw [eX, eY, Int.sub_mul (X * (y j - y i)) (Y * (x j - x i)) (z * z)]; congr 1 <;> ac_rfl
      rw [e]
      exact Int.mul_nonneg ic (sq_nn z)
  have len0 := (out i hi).1
  rw [len_turn rX]
  refine ⟨by omega, by omega, len0, ?_, fun j hj => (out j hj).2⟩
  unfold normF uF
  rw [ex, ey, if_neg len0, div_neg rX]
  simp only []
  rw [negR (rg_div _ _)]
end Go.Proofs.Ytekcehhoimhjeaa.Fx
