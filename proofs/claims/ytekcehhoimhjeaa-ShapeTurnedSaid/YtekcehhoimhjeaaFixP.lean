/- The plain laws of fixed-point numbers: no Go in sight. -/
import Derived.Test.YtekcehhoimhjeaaFixM
namespace Go.Proofs.Ytekcehhoimhjeaa.Fx
set_option linter.unusedVariables false

/-- a number of the range -/
def Rg (a : Int) : Prop := -9223372036854775807 ≤ a ∧ a ≤ 9223372036854775807
theorem absR {a : Int} (h : Rg a) : absF a = if a < 0 then -a else a := by
  unfold absF negF cl Rg at *
  split
  · rw [if_neg (by omega)]
  · rfl
theorem absR_bd {a : Int} (h : Rg a) : 0 ≤ absF a ∧ absF a ≤ 9223372036854775807 := by
  rw [absR h]; unfold Rg at h; split <;> omega
theorem absR_neg {a : Int} (h : Rg a) : absF (-a) = absF a := by
  rw [absR h, absR (by unfold Rg at *; omega)]; (repeat' split) <;> omega
theorem absR_zero {a : Int} (h : Rg a) : absF a = 0 ↔ a = 0 := by
  rw [absR h]; split <;> omega
theorem sign_not (n : Int) (t : Bool) : signF n (!t) = - signF n t := by
  unfold signF; cases t <;> simp
theorem sign_zero (t : Bool) : signF 0 t = 0 := by cases t <;> decide
theorem sign_abs {a : Int} (h : Rg a) : signF (absF a) (decide (a < 0)) = a := by
  have hb := absR_bd h
  have e : signF (absF a) (decide (a < 0)) = if a < 0 then - absF a else absF a := by
    unfold signF
    by_cases c : a < 0
    · rw [decide_eq_true c, if_pos rfl, if_pos c]; split <;> omega
    · rw [decide_eq_false c, if_neg (by simp), if_neg c]; split <;> omega
  rw [e, absR h]; (repeat' split) <;> omega
theorem mul_one {a : Int} (h : Rg a) : mulF a 4294967296 = a := by
  have e : absF 4294967296 = 4294967296 := by decide
  unfold mulF
  rw [e, Int.mul_ediv_cancel _ (by omega)]
  have : decide ((4294967296 : Int) < 0) = false := by decide
  rw [this, Bool.bne_false]
  exact sign_abs h
theorem mul_zero (a : Int) : mulF a 0 = 0 := by
  have e : absF 0 = 0 := by decide
  unfold mulF; rw [e, Int.mul_zero]; exact sign_zero _
theorem mul_neg_right {a b : Int} (ha : Rg a) (hb : Rg b) : mulF a (-b) = - mulF a b := by
  unfold mulF
  rw [absR_neg hb]
  by_cases c : b = 0
  · subst c
    have e : absF 0 = 0 := by decide
    rw [e, Int.mul_zero]
    rw [show (0 : Int) / 4294967296 = 0 from by decide, sign_zero, sign_zero]; rfl
  · have : decide (-b < 0) = !decide (b < 0) := by
      by_cases d : b < 0
      · rw [decide_eq_true d, decide_eq_false (by omega)]; rfl
      · rw [decide_eq_false d, decide_eq_true (by omega)]; rfl
    rw [this, Bool.bne_not, sign_not]
theorem bnec (a b : Bool) : (a != b) = (b != a) := by cases a <;> cases b <;> rfl
theorem mul_comm' (a b : Int) : mulF a b = mulF b a := by
  unfold mulF; rw [Int.mul_comm, bnec]
theorem mul_neg_left {a b : Int} (ha : Rg a) (hb : Rg b) : mulF (-a) b = - mulF a b := by
  rw [mul_comm', mul_neg_right hb ha, mul_comm']
theorem Rg_neg {a : Int} (h : Rg a) : Rg (-a) := by unfold Rg at *; omega
theorem mul_minus {a : Int} (h : Rg a) : mulF a (-4294967296) = -a := by
  rw [mul_neg_right h (by unfold Rg; omega), mul_one h]
theorem div_one {a : Int} (h : Rg a) : divF a 4294967296 = a := by
  have e : absF 4294967296 = 4294967296 := by decide
  unfold divF
  split
  · omega
  · rw [e, if_neg (by decide), Int.mul_ediv_cancel _ (by omega)]
    have : decide ((4294967296 : Int) < 0) = false := by decide
    rw [this, Bool.bne_false]
    exact sign_abs h
theorem div_neg {a b : Int} (ha : Rg a) : divF (-a) b = - divF a b := by
  unfold divF
  by_cases c : a = 0
  · rw [if_pos (by omega), if_pos c]; rfl
  · rw [if_neg (by omega), if_neg c, absR_neg ha]
    have : decide (-a < 0) = !decide (a < 0) := by
      by_cases d : a < 0
      · rw [decide_eq_true d, decide_eq_false (by omega)]; rfl
      · rw [decide_eq_false d, decide_eq_true (by omega)]; rfl
    rw [this, Bool.not_bne, sign_not]
theorem div_self {a : Int} (ha : Rg a) (h : a ≠ 0) : divF a a = 4294967296 := by
  unfold divF
  have hz : absF a ≠ 0 := fun e => h ((absR_zero ha).1 e)
  rw [if_neg h, if_neg hz, Int.mul_comm, Int.mul_ediv_cancel _ hz]
  have : (decide (a < 0) != decide (a < 0)) = false := by simp
  rw [this]; decide
theorem clR {a : Int} (h : Rg a) : cl a = a := by unfold cl Rg at *; rw [if_neg (by omega)]
theorem addR {a b : Int} (ha : Rg a) (hb : Rg b) : addF a b = sat (a + b) := by unfold addF; rw [clR ha, clR hb]
theorem satR {a : Int} (h : Rg a) : sat a = a := by unfold sat Rg at *; rw [if_neg (by omega), if_neg (by omega)]
theorem add_zero {a : Int} (h : Rg a) : addF a 0 = a := by
  rw [addR h (by unfold Rg; omega), Int.add_zero, satR h]
theorem sat_neg' (a : Int) : sat (-a) = - sat a := by unfold sat; (repeat' split) <;> omega
theorem negR {a : Int} (h : Rg a) : negF a = -a := by unfold negF; rw [clR h]
theorem sub_self {a : Int} (h : Rg a) : subF a a = 0 := by
  unfold subF
  rw [negR h, addR h (Rg_neg h), show a + -a = 0 from by omega]; decide
theorem add_neg {a b : Int} (ha : Rg a) (hb : Rg b) : addF (-a) (-b) = - addF a b := by
  rw [addR ha hb, addR (Rg_neg ha) (Rg_neg hb), ← sat_neg']; congr 1; omega
/-! ### order -/
theorem sat_le {a b : Int} (h : a ≤ b) : sat a ≤ sat b := by unfold sat; (repeat' split) <;> omega
theorem cl_le {a b : Int} (h : a ≤ b) : cl a ≤ cl b := by unfold cl; (repeat' split) <;> omega
theorem add_le {a b : Int} (c : Int) (h : a ≤ b) : addF a c ≤ addF b c := by
  unfold addF; exact sat_le (by have := cl_le h; omega)
theorem neg_le {a b : Int} (h : a ≤ b) : negF b ≤ negF a := by unfold negF; have := cl_le h; omega
theorem sign_pos {n : Int} : signF n false = if n < 9223372036854775807 then n else 9223372036854775807 := by unfold signF; rfl
theorem sign_le {m n : Int} (h : m ≤ n) : signF m false ≤ signF n false := by rw [sign_pos, sign_pos]; (repeat' split) <;> omega
theorem sign_ge {m n : Int} (h : m ≤ n) : signF n true ≤ signF m true := by
  have := sign_le h
  have a := sign_not n false
  have b := sign_not m false
  simp only [Bool.not_false] at a b; omega
theorem sign_nonneg {n : Int} (h : 0 ≤ n) : 0 ≤ signF n false := by rw [sign_pos]; split <;> omega
theorem sign_nonpos {n : Int} (h : 0 ≤ n) : signF n true ≤ 0 := by
  have := sign_nonneg h
  have a := sign_not n false
  simp only [Bool.not_false] at a; omega
theorem mul_le {a b d : Int} (ha : Rg a) (hb : Rg b) (hd : Rg d) (h0 : 0 ≤ d) (h : a ≤ b) : mulF a d ≤ mulF b d := by
  have dd : decide (d < 0) = false := decide_eq_false (by omega)
  have ad := absR_bd ha
  have bd := absR_bd hb
  have cd := absR_bd hd
  have pa : 0 ≤ absF a * absF d / 4294967296 := Int.ediv_nonneg (Int.mul_nonneg ad.1 cd.1) (by omega)
  have pb : 0 ≤ absF b * absF d / 4294967296 := Int.ediv_nonneg (Int.mul_nonneg bd.1 cd.1) (by omega)
  unfold mulF
  rw [dd, Bool.bne_false, Bool.bne_false]
  by_cases c1 : a < 0
  · rw [decide_eq_true c1]
    by_cases c2 : b < 0
    · rw [decide_eq_true c2]
      refine sign_ge (Int.ediv_le_ediv (by omega) (Int.mul_le_mul_of_nonneg_right ?_ cd.1))
      rw [absR ha, absR hb, if_pos c1, if_pos c2]; omega
    · rw [decide_eq_false c2]
      have := sign_nonneg pb
      have := sign_nonpos pa
      omega
  · have c2 : ¬ b < 0 := by omega
    rw [decide_eq_false c1, decide_eq_false c2]
    refine sign_le (Int.ediv_le_ediv (by omega) (Int.mul_le_mul_of_nonneg_right ?_ cd.1))
    rw [absR ha, absR hb, if_neg c1, if_neg c2]; omega
theorem div_eq {a d : Int} (ha : Rg a) (hd : Rg d) (h0 : 0 < d) : divF a d = signF (absF a * 4294967296 / d) (decide (a < 0)) := by
  have dd : decide (d < 0) = false := decide_eq_false (by omega)
  have ed : absF d = d := by rw [absR hd, if_neg (by omega)]
  unfold divF
  rw [ed, if_neg (show ¬ d = 0 by omega), dd, Bool.bne_false]
  split
  · rename_i hz; subst hz
    have : absF 0 = 0 := by decide
    rw [this, Int.zero_mul, Int.zero_ediv, sign_zero]
  · rfl
theorem div_le {a b d : Int} (ha : Rg a) (hb : Rg b) (hd : Rg d) (h0 : 0 < d) (h : a ≤ b) : divF a d ≤ divF b d := by
  have ad := absR_bd ha
  have bd := absR_bd hb
  have pa : 0 ≤ absF a * 4294967296 / d := Int.ediv_nonneg (by omega) (by omega)
  have pb : 0 ≤ absF b * 4294967296 / d := Int.ediv_nonneg (by omega) (by omega)
  rw [div_eq ha hd h0, div_eq hb hd h0]
  by_cases c1 : a < 0
  · rw [decide_eq_true c1]
    by_cases c2 : b < 0
    · rw [decide_eq_true c2]
      refine sign_ge (Int.ediv_le_ediv (by omega) ?_)
      rw [absR ha, absR hb, if_pos c1, if_pos c2]; omega
    · rw [decide_eq_false c2]
      have := sign_nonneg pb
      have := sign_nonpos pa
      omega
  · have c2 : ¬ b < 0 := by omega
    rw [decide_eq_false c1, decide_eq_false c2]
    refine sign_le (Int.ediv_le_ediv (by omega) ?_)
    rw [absR ha, absR hb, if_neg c1, if_neg c2]; omega
/-! ### roots -/
theorem sq_spec (P : Int) : ∀ (k : Nat) (r : Int), 0 ≤ r → r * r ≤ P → P < (r + 2 ^ k) * (r + 2 ^ k) → 0 ≤ sqAux P k r ∧ r ≤ sqAux P k r ∧ sqAux P k r < r + 2 ^ k ∧ sqAux P k r * sqAux P k r ≤ P ∧ P < (sqAux P k r + 1) * (sqAux P k r + 1)
  | 0, r, h0, h1, h2 => by simp [sqAux] at *; exact ⟨h0, by omega, h1, h2⟩
  | k + 1, r, h0, h1, h2 => by
    have hp : (0 : Int) < 2 ^ k := Int.pow_pos (by omega)
    have e : (2 : Int) ^ (k + 1) = 2 ^ k + 2 ^ k := by rw [Int.pow_succ]; omega
    rw [e] at h2
    rw [sqAux]
    split
    · rename_i hc
      obtain ⟨a1, a2, a3, a4, a5⟩ := sq_spec P k (r + 2 ^ k) (by omega) hc (by rw [Int.add_assoc]; exact h2)
      exact ⟨a1, by omega, by omega, a4, a5⟩
    · rename_i hc
      obtain ⟨a1, a2, a3, a4, a5⟩ := sq_spec P k r h0 h1 (by omega)
      exact ⟨a1, a2, by omega, a4, a5⟩
theorem sqrt_spec {a : Int} (h0 : 0 < a) (h1 : a ≤ 9223372036854775807) : 0 ≤ sqrtF a ∧ sqrtF a < 281474976710656 ∧ sqrtF a * sqrtF a ≤ a * 4294967296 ∧ a * 4294967296 < (sqrtF a + 1) * (sqrtF a + 1) := by
  unfold sqrtF
  rw [if_neg (by omega)]
  have e : ((0 : Int) + 2 ^ 48) * (0 + 2 ^ 48) = 79228162514264337593543950336 := by decide
  obtain ⟨a1, a2, a3, a4, a5⟩ := sq_spec (a * 4294967296) 48 0 (by omega) (by omega) (by rw [e]; omega)
  exact ⟨a1, by simpa using a3, a4, a5⟩
theorem sqrt_nonneg {a : Int} (h1 : a ≤ 9223372036854775807) : 0 ≤ sqrtF a ∧ sqrtF a < 281474976710656 := by
  by_cases c : 0 < a
  · obtain ⟨a1, a2, a3⟩ := sqrt_spec c h1; exact ⟨a1, a2⟩
  · unfold sqrtF; rw [if_pos (by omega)]; omega
theorem sqrt_le {a b : Int} (hb : b ≤ 9223372036854775807) (h : a ≤ b) : sqrtF a ≤ sqrtF b := by
  by_cases c : 0 < a
  · obtain ⟨a1, a2, a3, a4⟩ := sqrt_spec c (by omega)
    obtain ⟨b1, b2, b3, b4⟩ := sqrt_spec (a := b) (by omega) hb
    by_cases d : sqrtF a ≤ sqrtF b
    · exact d
    · have : (sqrtF b + 1) * (sqrtF b + 1) ≤ sqrtF a * sqrtF a := Int.mul_le_mul (by omega) (by omega) (by omega) a1
      omega
  · have := (sqrt_nonneg hb).1
    unfold sqrtF at *; rw [if_pos (by omega)]; exact this
end Go.Proofs.Ytekcehhoimhjeaa.Fx
