/- Plain words: numbers, turns, vectors, shapes, masses. No Go in sight. -/


/- The plain arithmetic of fixed-point numbers: no Go in sight. -/
namespace Go.Proofs.YtmdhlobonnikcaaDoor.Fx

/-- the least number -/
def L : Int := -9223372036854775807
/-- the most number -/
def M : Int := 9223372036854775807
theorem L_eq : L = -9223372036854775807 := rfl
theorem M_eq : M = 9223372036854775807 := rfl
/-- a number of 64 bits -/
def I64 (a : Int) : Prop := -9223372036854775808 ≤ a ∧ a ≤ 9223372036854775807
def cl (a : Int) : Int := if a < -9223372036854775807 then -9223372036854775807 else a
theorem cl_bd {a : Int} (h : I64 a) : L ≤ cl a ∧ cl a ≤ M := by
  unfold cl L M I64 at *; split <;> omega
/-- brought to the range -/
def sat (a : Int) : Int := if a < -9223372036854775807 then -9223372036854775807 else if 9223372036854775807 < a then 9223372036854775807 else a
theorem sat_bd (a : Int) : L ≤ sat a ∧ sat a ≤ M := by
  unfold sat L M; split
  · omega
  · split <;> omega
theorem sat_in {a : Int} (h0 : L ≤ a) (h1 : a ≤ M) : sat a = a := by
  unfold sat L M at *; rw [if_neg (by omega), if_neg (by omega)]
def addF (a b : Int) : Int := sat (cl a + cl b)
def negF (a : Int) : Int := - cl a
def subF (a b : Int) : Int := addF a (negF b)
def absF (a : Int) : Int := if a < 0 then negF a else a
theorem absF_bd {a : Int} (h : I64 a) : 0 ≤ absF a ∧ absF a ≤ M := by
  unfold absF negF cl I64 M at *; split
  · split <;> omega
  · omega
/-- a size with a sign, brought -/
def signF (n : Int) (t : Bool) : Int := if t then -(if n < 9223372036854775807 then n else 9223372036854775807) else (if n < 9223372036854775807 then n else 9223372036854775807)
def mulF (a b : Int) : Int := signF (absF a * absF b / 4294967296) (decide (a < 0) != decide (b < 0))
def ofF (n : Int) : Int := if 2147483647 < n then 9223372036854775807 else if n < -2147483647 then -9223372036854775807 else n * 4294967296
def bringF (a b c : Int) : Int := if cl a < cl b then cl b else if cl c < cl a then cl c else cl a
def divF (a b : Int) : Int := if a = 0 then 0 else signF (if absF b = 0 then 9223372036854775807 else absF a * 4294967296 / absF b) (decide (a < 0) != decide (b < 0))
def partF (n d : Int) : Int := divF (ofF n) (ofF d)
/-- a root, bit by bit: k bits are still to come -/
def sqAux (P : Int) : Nat → Int → Int
  | 0, r => r
  | k + 1, r => if (r + 2 ^ k) * (r + 2 ^ k) ≤ P then sqAux P k (r + 2 ^ k) else sqAux P k r
def sqrtF (a : Int) : Int := if a ≤ 0 then 0 else sqAux (a * 4294967296) 48 0
theorem I64_of (n : Int) : I64 (ofF n) := by unfold I64 ofF; split <;> (try split) <;> omega
end Go.Proofs.YtmdhlobonnikcaaDoor.Fx

/- The plain laws of fixed-point numbers: no Go in sight. -/
namespace Go.Proofs.YtmdhlobonnikcaaDoor.Fx
set_option linter.unusedVariables false

/-- a number of the range -/
def Rg (a : Int) : Prop := -9223372036854775807 ≤ a ∧ a ≤ 9223372036854775807
theorem absR {a : Int} (h : Rg a) : absF a = if a < 0 then -a else a := by
  unfold absF negF cl Rg at *
  split
  · rw [if_neg (by omega)]
  · rfl
theorem absR_bd {a : Int} (h : Rg a) : 0 ≤ absF a ∧ absF a ≤ 9223372036854775807 := by
  rw [absR h]; unfold Rg at h; split <;> omega
theorem absR_neg {a : Int} (h : Rg a) : absF (-a) = absF a := by
  rw [absR h, absR (by unfold Rg at *; omega)]; (repeat' split) <;> omega
theorem absR_zero {a : Int} (h : Rg a) : absF a = 0 ↔ a = 0 := by
  rw [absR h]; split <;> omega
theorem sign_not (n : Int) (t : Bool) : signF n (!t) = - signF n t := by
  unfold signF; cases t <;> simp
theorem sign_zero (t : Bool) : signF 0 t = 0 := by cases t <;> decide
theorem sign_abs {a : Int} (h : Rg a) : signF (absF a) (decide (a < 0)) = a := by
  have hb := absR_bd h
  have e : signF (absF a) (decide (a < 0)) = if a < 0 then - absF a else absF a := by
    unfold signF
    by_cases c : a < 0
    · rw [decide_eq_true c, if_pos rfl, if_pos c]; split <;> omega
    · rw [decide_eq_false c, if_neg (by simp), if_neg c]; split <;> omega
  rw [e, absR h]; (repeat' split) <;> omega
theorem mul_one {a : Int} (h : Rg a) : mulF a 4294967296 = a := by
  have e : absF 4294967296 = 4294967296 := by decide
  unfold mulF
  rw [e, Int.mul_ediv_cancel _ (by omega)]
  have : decide ((4294967296 : Int) < 0) = false := by decide
  rw [this, Bool.bne_false]
  exact sign_abs h
theorem mul_zero (a : Int) : mulF a 0 = 0 := by
  have e : absF 0 = 0 := by decide
  unfold mulF; rw [e, Int.mul_zero]; exact sign_zero _
theorem mul_neg_right {a b : Int} (ha : Rg a) (hb : Rg b) : mulF a (-b) = - mulF a b := by
  unfold mulF
  rw [absR_neg hb]
  by_cases c : b = 0
  · subst c
    have e : absF 0 = 0 := by decide
    rw [e, Int.mul_zero]
    rw [show (0 : Int) / 4294967296 = 0 from by decide, sign_zero, sign_zero]; rfl
  · have : decide (-b < 0) = !decide (b < 0) := by
      by_cases d : b < 0
      · rw [decide_eq_true d, decide_eq_false (by omega)]; rfl
      · rw [decide_eq_false d, decide_eq_true (by omega)]; rfl
    rw [this, Bool.bne_not, sign_not]
theorem bnec (a b : Bool) : (a != b) = (b != a) := by cases a <;> cases b <;> rfl
theorem mul_comm' (a b : Int) : mulF a b = mulF b a := by
  unfold mulF; rw [Int.mul_comm, bnec]
theorem mul_neg_left {a b : Int} (ha : Rg a) (hb : Rg b) : mulF (-a) b = - mulF a b := by
  rw [mul_comm', mul_neg_right hb ha, mul_comm']
theorem Rg_neg {a : Int} (h : Rg a) : Rg (-a) := by unfold Rg at *; omega
theorem mul_minus {a : Int} (h : Rg a) : mulF a (-4294967296) = -a := by
  rw [mul_neg_right h (by unfold Rg; omega), mul_one h]
theorem div_one {a : Int} (h : Rg a) : divF a 4294967296 = a := by
  have e : absF 4294967296 = 4294967296 := by decide
  unfold divF
  split
  · omega
  · rw [e, if_neg (by decide), Int.mul_ediv_cancel _ (by omega)]
    have : decide ((4294967296 : Int) < 0) = false := by decide
    rw [this, Bool.bne_false]
    exact sign_abs h
theorem div_neg {a b : Int} (ha : Rg a) : divF (-a) b = - divF a b := by
  unfold divF
  by_cases c : a = 0
  · rw [if_pos (by omega), if_pos c]; rfl
  · rw [if_neg (by omega), if_neg c, absR_neg ha]
    have : decide (-a < 0) = !decide (a < 0) := by
      by_cases d : a < 0
      · rw [decide_eq_true d, decide_eq_false (by omega)]; rfl
      · rw [decide_eq_false d, decide_eq_true (by omega)]; rfl
    rw [this, Bool.not_bne, sign_not]
theorem div_self {a : Int} (ha : Rg a) (h : a ≠ 0) : divF a a = 4294967296 := by
  unfold divF
  have hz : absF a ≠ 0 := fun e => h ((absR_zero ha).1 e)
  rw [if_neg h, if_neg hz, Int.mul_comm, Int.mul_ediv_cancel _ hz]
  have : (decide (a < 0) != decide (a < 0)) = false := by simp
  rw [this]; decide
theorem clR {a : Int} (h : Rg a) : cl a = a := by unfold cl Rg at *; rw [if_neg (by omega)]
theorem addR {a b : Int} (ha : Rg a) (hb : Rg b) : addF a b = sat (a + b) := by unfold addF; rw [clR ha, clR hb]
theorem satR {a : Int} (h : Rg a) : sat a = a := by unfold sat Rg at *; rw [if_neg (by omega), if_neg (by omega)]
theorem add_zero {a : Int} (h : Rg a) : addF a 0 = a := by
  rw [addR h (by unfold Rg; omega), Int.add_zero, satR h]
theorem sat_neg' (a : Int) : sat (-a) = - sat a := by unfold sat; (repeat' split) <;> omega
theorem negR {a : Int} (h : Rg a) : negF a = -a := by unfold negF; rw [clR h]
theorem sub_self {a : Int} (h : Rg a) : subF a a = 0 := by
  unfold subF
  rw [negR h, addR h (Rg_neg h), show a + -a = 0 from by omega]; decide
theorem add_neg {a b : Int} (ha : Rg a) (hb : Rg b) : addF (-a) (-b) = - addF a b := by
  rw [addR ha hb, addR (Rg_neg ha) (Rg_neg hb), ← sat_neg']; congr 1; omega
/-! ### order -/
theorem sat_le {a b : Int} (h : a ≤ b) : sat a ≤ sat b := by unfold sat; (repeat' split) <;> omega
theorem cl_le {a b : Int} (h : a ≤ b) : cl a ≤ cl b := by unfold cl; (repeat' split) <;> omega
theorem add_le {a b : Int} (c : Int) (h : a ≤ b) : addF a c ≤ addF b c := by
  unfold addF; exact sat_le (by have := cl_le h; omega)
theorem neg_le {a b : Int} (h : a ≤ b) : negF b ≤ negF a := by unfold negF; have := cl_le h; omega
theorem sign_pos {n : Int} : signF n false = if n < 9223372036854775807 then n else 9223372036854775807 := by unfold signF; rfl
theorem sign_le {m n : Int} (h : m ≤ n) : signF m false ≤ signF n false := by rw [sign_pos, sign_pos]; (repeat' split) <;> omega
theorem sign_ge {m n : Int} (h : m ≤ n) : signF n true ≤ signF m true := by
  have := sign_le h
  have a := sign_not n false
  have b := sign_not m false
  simp only [Bool.not_false] at a b; omega
theorem sign_nonneg {n : Int} (h : 0 ≤ n) : 0 ≤ signF n false := by rw [sign_pos]; split <;> omega
theorem sign_nonpos {n : Int} (h : 0 ≤ n) : signF n true ≤ 0 := by
  have := sign_nonneg h
  have a := sign_not n false
  simp only [Bool.not_false] at a; omega
theorem mul_le {a b d : Int} (ha : Rg a) (hb : Rg b) (hd : Rg d) (h0 : 0 ≤ d) (h : a ≤ b) : mulF a d ≤ mulF b d := by
  have dd : decide (d < 0) = false := decide_eq_false (by omega)
  have ad := absR_bd ha
  have bd := absR_bd hb
  have cd := absR_bd hd
  have pa : 0 ≤ absF a * absF d / 4294967296 := Int.ediv_nonneg (Int.mul_nonneg ad.1 cd.1) (by omega)
  have pb : 0 ≤ absF b * absF d / 4294967296 := Int.ediv_nonneg (Int.mul_nonneg bd.1 cd.1) (by omega)
  unfold mulF
  rw [dd, Bool.bne_false, Bool.bne_false]
  by_cases c1 : a < 0
  · rw [decide_eq_true c1]
    by_cases c2 : b < 0
    · rw [decide_eq_true c2]
      refine sign_ge (Int.ediv_le_ediv (by omega) (Int.mul_le_mul_of_nonneg_right ?_ cd.1))
      rw [absR ha, absR hb, if_pos c1, if_pos c2]; omega
    · rw [decide_eq_false c2]
      have := sign_nonneg pb
      have := sign_nonpos pa
      omega
  · have c2 : ¬ b < 0 := by omega
    rw [decide_eq_false c1, decide_eq_false c2]
    refine sign_le (Int.ediv_le_ediv (by omega) (Int.mul_le_mul_of_nonneg_right ?_ cd.1))
    rw [absR ha, absR hb, if_neg c1, if_neg c2]; omega
theorem div_eq {a d : Int} (ha : Rg a) (hd : Rg d) (h0 : 0 < d) : divF a d = signF (absF a * 4294967296 / d) (decide (a < 0)) := by
  have dd : decide (d < 0) = false := decide_eq_false (by omega)
  have ed : absF d = d := by rw [absR hd, if_neg (by omega)]
  unfold divF
  rw [ed, if_neg (show ¬ d = 0 by omega), dd, Bool.bne_false]
  split
  · rename_i hz; subst hz
    have : absF 0 = 0 := by decide
    rw [this, Int.zero_mul, Int.zero_ediv, sign_zero]
  · rfl
theorem div_le {a b d : Int} (ha : Rg a) (hb : Rg b) (hd : Rg d) (h0 : 0 < d) (h : a ≤ b) : divF a d ≤ divF b d := by
  have ad := absR_bd ha
  have bd := absR_bd hb
  have pa : 0 ≤ absF a * 4294967296 / d := Int.ediv_nonneg (by omega) (by omega)
  have pb : 0 ≤ absF b * 4294967296 / d := Int.ediv_nonneg (by omega) (by omega)
  rw [div_eq ha hd h0, div_eq hb hd h0]
  by_cases c1 : a < 0
  · rw [decide_eq_true c1]
    by_cases c2 : b < 0
    · rw [decide_eq_true c2]
      refine sign_ge (Int.ediv_le_ediv (by omega) ?_)
      rw [absR ha, absR hb, if_pos c1, if_pos c2]; omega
    · rw [decide_eq_false c2]
      have := sign_nonneg pb
      have := sign_nonpos pa
      omega
  · have c2 : ¬ b < 0 := by omega
    rw [decide_eq_false c1, decide_eq_false c2]
    refine sign_le (Int.ediv_le_ediv (by omega) ?_)
    rw [absR ha, absR hb, if_neg c1, if_neg c2]; omega
/-! ### roots -/
theorem sq_spec (P : Int) : ∀ (k : Nat) (r : Int), 0 ≤ r → r * r ≤ P → P < (r + 2 ^ k) * (r + 2 ^ k) → 0 ≤ sqAux P k r ∧ r ≤ sqAux P k r ∧ sqAux P k r < r + 2 ^ k ∧ sqAux P k r * sqAux P k r ≤ P ∧ P < (sqAux P k r + 1) * (sqAux P k r + 1)
  | 0, r, h0, h1, h2 => by simp [sqAux] at *; exact ⟨h0, by omega, h1, h2⟩
  | k + 1, r, h0, h1, h2 => by
    have hp : (0 : Int) < 2 ^ k := Int.pow_pos (by omega)
    have e : (2 : Int) ^ (k + 1) = 2 ^ k + 2 ^ k := by rw [Int.pow_succ]; omega
    rw [e] at h2
    rw [sqAux]
    split
    · rename_i hc
      obtain ⟨a1, a2, a3, a4, a5⟩ := sq_spec P k (r + 2 ^ k) (by omega) hc (by rw [Int.add_assoc]; exact h2)
      exact ⟨a1, by omega, by omega, a4, a5⟩
    · rename_i hc
      obtain ⟨a1, a2, a3, a4, a5⟩ := sq_spec P k r h0 h1 (by omega)
      exact ⟨a1, a2, by omega, a4, a5⟩
theorem sqrt_spec {a : Int} (h0 : 0 < a) (h1 : a ≤ 9223372036854775807) : 0 ≤ sqrtF a ∧ sqrtF a < 281474976710656 ∧ sqrtF a * sqrtF a ≤ a * 4294967296 ∧ a * 4294967296 < (sqrtF a + 1) * (sqrtF a + 1) := by
  unfold sqrtF
  rw [if_neg (by omega)]
  have e : ((0 : Int) + 2 ^ 48) * (0 + 2 ^ 48) = 79228162514264337593543950336 := by decide
  obtain ⟨a1, a2, a3, a4, a5⟩ := sq_spec (a * 4294967296) 48 0 (by omega) (by omega) (by rw [e]; omega)
  exact ⟨a1, by simpa using a3, a4, a5⟩
theorem sqrt_nonneg {a : Int} (h1 : a ≤ 9223372036854775807) : 0 ≤ sqrtF a ∧ sqrtF a < 281474976710656 := by
  by_cases c : 0 < a
  · obtain ⟨a1, a2, a3⟩ := sqrt_spec c h1; exact ⟨a1, a2⟩
  · unfold sqrtF; rw [if_pos (by omega)]; omega
theorem sqrt_le {a b : Int} (hb : b ≤ 9223372036854775807) (h : a ≤ b) : sqrtF a ≤ sqrtF b := by
  by_cases c : 0 < a
  · obtain ⟨a1, a2, a3, a4⟩ := sqrt_spec c (by omega)
    obtain ⟨b1, b2, b3, b4⟩ := sqrt_spec (a := b) (by omega) hb
    by_cases d : sqrtF a ≤ sqrtF b
    · exact d
    · have : (sqrtF b + 1) * (sqrtF b + 1) ≤ sqrtF a * sqrtF a := Int.mul_le_mul (by omega) (by omega) (by omega) a1
      omega
  · have := (sqrt_nonneg hb).1
    unfold sqrtF at *; rw [if_pos (by omega)]; exact this
end Go.Proofs.YtmdhlobonnikcaaDoor.Fx

/- The plain laws of fixed-point numbers: what comes back. -/
namespace Go.Proofs.YtmdhlobonnikcaaDoor.Fx
set_option linter.unusedVariables false

theorem sign_small {n : Int} (t : Bool) (h1 : n ≤ 9223372036854775807) : signF n t = if t then -n else n := by
  unfold signF; cases t <;> simp <;> omega
/-- a small number -/
def Sm (a : Int) : Prop := -70368744177664 < a ∧ a < 70368744177664
theorem Sm_Rg {a : Int} (h : Sm a) : Rg a := by unfold Sm Rg at *; omega
theorem tmod_Sm (a : Int) : Sm (a.tmod 70368744177664) := by
  unfold Sm
  by_cases h : 0 ≤ a
  · rw [Int.tmod_eq_emod_of_nonneg h]; omega
  · have e : a = -(-a) := by omega
    rw [e, Int.neg_tmod, Int.tmod_eq_emod_of_nonneg (by omega)]; omega
theorem abs_Sm {a : Int} (h : Sm a) : 0 ≤ absF a ∧ absF a < 70368744177664 := by
  rw [absR (Sm_Rg h)]; unfold Sm at h; split <;> omega
theorem abs_ite {n : Int} {t : Bool} (h0 : 0 ≤ n) (h1 : n ≤ 9223372036854775807) : absF (if t then -n else n) = n := by
  cases t
  · simp; rw [absR (by unfold Rg; omega)]; omega
  · simp; rw [absR (by unfold Rg; omega)]; omega
theorem prod_Sm {x y : Int} (hx0 : 0 ≤ x) (hx1 : x < 70368744177664) (hy0 : 0 ≤ y) (hy1 : y < 70368744177664) : 0 ≤ x * y ∧ x * y ≤ 4951760157141380478003019809 + 1000000000000000 := by
  refine ⟨Int.mul_nonneg hx0 hy0, ?_⟩
  have : x * y ≤ 70368744177663 * 70368744177663 := Int.mul_le_mul (by omega) (by omega) hy0 (by omega)
  omega
theorem back_quo {a b : Int} (ha : Sm a) (hb : Sm b) (h : b ≠ 0) :
    divF (mulF a b) b = (if decide (a < 0) then -(absF a * absF b / 4294967296 * 4294967296 / absF b) else absF a * absF b / 4294967296 * 4294967296 / absF b) ∧
    0 ≤ absF a * absF b / 4294967296 * 4294967296 / absF b ∧ absF a * absF b / 4294967296 * 4294967296 / absF b ≤ absF a := by
  have hx := abs_Sm ha
  have hy := abs_Sm hb
  have hp := prod_Sm hx.1 hx.2 hy.1 hy.2
  have hyz : absF b ≠ 0 := fun e => h ((absR_zero (Sm_Rg hb)).1 e)
  have hn0 : 0 ≤ absF a * absF b / 4294967296 := by omega
  have hm : mulF a b = if (decide (a < 0) != decide (b < 0)) then -(absF a * absF b / 4294967296) else absF a * absF b / 4294967296 := by
    unfold mulF; exact sign_small _ (by omega)
  have hm0 : 0 ≤ absF a * absF b / 4294967296 * 4294967296 / absF b := Int.ediv_nonneg (by omega) hy.1
  have hm1 : absF a * absF b / 4294967296 * 4294967296 / absF b ≤ absF a := by
    have h1 : absF a * absF b / 4294967296 * 4294967296 ≤ absF a * absF b := by omega
    have h2 := Int.ediv_le_ediv (c := absF b) (by omega) h1
    rw [Int.mul_ediv_cancel _ hyz] at h2; exact h2
  refine ⟨?_, hm0, hm1⟩
  have habs : absF (mulF a b) = absF a * absF b / 4294967296 := by rw [hm]; exact abs_ite hn0 (by omega)
  generalize absF a * absF b / 4294967296 = n at *
  by_cases hz : n = 0
  · subst hz
    have : mulF a b = 0 := by rw [hm]; split <;> rfl
    rw [this]; unfold divF
    rw [if_pos rfl, Int.zero_mul, Int.zero_ediv]; split <;> rfl
  · have hmz : mulF a b ≠ 0 := by rw [hm]; split <;> omega
    unfold divF
    rw [if_neg hmz, if_neg hyz, habs, sign_small _ (by omega)]
    have hs : decide (mulF a b < 0) = (decide (a < 0) != decide (b < 0)) := by
      rw [hm]
      by_cases c : (decide (a < 0) != decide (b < 0)) = true
      · rw [c, if_pos rfl]; exact decide_eq_true (by omega)
      · rw [Bool.not_eq_true] at c
        rw [c, if_neg (by simp)]; exact decide_eq_false (by omega)
    rw [hs]
    have : ((decide (a < 0) != decide (b < 0)) != decide (b < 0)) = decide (a < 0) := by
      cases decide (a < 0) <;> cases decide (b < 0) <;> rfl
    rw [this]
theorem one_quo {b : Int} (hb : Sm b) (h : b ≠ 0) : absF (divF 1 b) = 4294967296 / absF b ∧ 0 ≤ 4294967296 / absF b ∧ 4294967296 / absF b ≤ 4294967296 := by
  have hy := abs_Sm hb
  have hyz : absF b ≠ 0 := fun e => h ((absR_zero (Sm_Rg hb)).1 e)
  have h0 : 0 ≤ 4294967296 / absF b := Int.ediv_nonneg (by omega) hy.1
  have h1 : 4294967296 / absF b ≤ 4294967296 := Int.ediv_le_self _ (by omega)
  refine ⟨?_, h0, h1⟩
  have e : absF 1 = 1 := by decide
  unfold divF
  rw [if_neg (by omega), if_neg hyz, e, Int.one_mul, sign_small _ (by omega)]
  exact abs_ite h0 (by omega)
theorem back_off {a b : Int} (ha : Sm a) (hb : Sm b) (h : b ≠ 0) : absF (subF (divF (mulF a b) b) a) ≤ absF (divF 1 b) + 1 ∧ absF (divF 1 b) ≤ 4294967296 ∧ 0 ≤ absF (divF 1 b) := by
  obtain ⟨q1, q2, q3⟩ := back_quo ha hb h
  obtain ⟨d1, d2, d3⟩ := one_quo hb h
  rw [d1]
  refine ⟨?_, d3, d2⟩
  rw [q1]
  have hx := abs_Sm ha
  have hy := abs_Sm hb
  have hp := prod_Sm hx.1 hx.2 hy.1 hy.2
  have hyz : absF b ≠ 0 := fun e => h ((absR_zero (Sm_Rg hb)).1 e)
  have key : absF a - 4294967296 / absF b - 1 ≤ absF a * absF b / 4294967296 * 4294967296 / absF b := by
    refine (Int.le_ediv_iff_mul_le (by omega)).2 ?_
    have e1 := Int.mul_ediv_add_emod 4294967296 (absF b)
    have e2 := Int.emod_lt_of_pos 4294967296 (b := absF b) (by omega)
    rw [Int.mul_comm] at e1
    have e3 : (absF a - 4294967296 / absF b - 1) * absF b = absF a * absF b - 4294967296 / absF b * absF b - absF b := by
      rw [Int.sub_mul, Int.sub_mul, Int.one_mul]
    rw [e3]; omega
  generalize absF a * absF b / 4294967296 * 4294967296 / absF b = m at *
  have hA := absR (Sm_Rg ha)
  have e : subF (if decide (a < 0) then -m else m) a = (if decide (a < 0) then -m else m) - a := by
    have hr : Rg (if decide (a < 0) then -m else m) := by unfold Rg; split <;> omega
    unfold subF
    rw [negR (Sm_Rg ha), addR hr (Rg_neg (Sm_Rg ha)), satR]
    · omega
    · unfold Rg Sm at *; split <;> omega
  rw [e]
  have e2 : absF ((if decide (a < 0) then -m else m) - a) = absF a - m := by
    rw [absR (by unfold Rg Sm at *; split <;> omega), hA]
    by_cases c : a < 0
    · have e3 : (if decide (a < 0) = true then -m else m) = -m := by rw [decide_eq_true c]; rfl
      rw [e3, if_pos c]; rw [hA, if_pos c] at q3; split <;> omega
    · have e3 : (if decide (a < 0) = true then -m else m) = m := by rw [decide_eq_false c]; rfl
      rw [e3, if_neg c]; rw [hA, if_neg c] at q3; split <;> omega
  rw [e2]; omega
theorem back_root {x : Int} (h0 : 0 ≤ x) (h1 : x < 70368744177664) :
    0 ≤ sqrtF x ∧ sqrtF x < 281474976710656 ∧ 0 ≤ mulF 2 (sqrtF x) ∧ mulF 2 (sqrtF x) ≤ 281474976710656 ∧ 0 ≤ subF x (mulF (sqrtF x) (sqrtF x)) ∧ subF x (mulF (sqrtF x) (sqrtF x)) ≤ 2 * sqrtF x + 1 := by
  have hb : 0 ≤ sqrtF x ∧ sqrtF x < 281474976710656 ∧ sqrtF x * sqrtF x ≤ x * 4294967296 ∧ x * 4294967296 < (sqrtF x + 1) * (sqrtF x + 1) := by
    by_cases c : 0 < x
    · exact sqrt_spec c (by omega)
    · have : x = 0 := by omega
      subst this; decide
  obtain ⟨b0, b1, b2, b3⟩ := hb
  generalize sqrtF x = s at *
  have hs : Rg s := by unfold Rg; omega
  have es : absF s = s := by rw [absR hs, if_neg (by omega)]
  have e2 : absF 2 = 2 := by decide
  have ds : decide (s < 0) = false := decide_eq_false (by omega)
  have ss : 0 ≤ s * s := Int.mul_nonneg b0 b0
  have m1 : mulF s s = s * s / 4294967296 := by
    unfold mulF; rw [es, ds, sign_small _ (by omega)]; rfl
  have m2 : mulF 2 s = 2 * s / 4294967296 := by
    unfold mulF; rw [es, e2, ds, sign_small _ (by omega)]; rfl
  have rs : Rg (s * s / 4294967296) := by unfold Rg; omega
  have sb : subF x (s * s / 4294967296) = x - s * s / 4294967296 := by
    unfold subF
    rw [negR rs, addR (by unfold Rg; omega) (Rg_neg rs), satR (by unfold Rg; omega)]; omega
  rw [m1, m2, sb]
  have e3 : (s + 1) * (s + 1) = s * s + 2 * s + 1 := by rw [Int.add_mul, Int.mul_add]; omega
  rw [e3] at b3
  refine ⟨b0, b1, by omega, by omega, by omega, by omega⟩
end Go.Proofs.YtmdhlobonnikcaaDoor.Fx

/- The table of sines, plain: the numbers of the program's own table. -/
namespace Go.Proofs.YtmdhlobonnikcaaDoor.Fx

def tabL : List Int := [0, 26353424, 52705856, 79056303, 105403774, 131747276, 158085819, 184418409, 210744057, 237061769, 263370557, 289669429,
  315957395, 342233465, 368496651, 394745962, 420980412, 447199012, 473400776, 499584716, 525749847, 551895183, 578019742, 604122538,
  630202589, 656258914, 682290530, 708296459, 734275721, 760227338, 786150333, 812043729, 837906553, 863737830, 889536587, 915301854,
  941032661, 966728038, 992387019, 1018008636, 1043591926, 1069135926, 1094639673, 1120102207, 1145522571, 1170899806, 1196232957, 1221521071,
  1246763195, 1271958380, 1297105676, 1322204136, 1347252816, 1372250773, 1397197066, 1422090755, 1446930903, 1471716574, 1496446837, 1521120759,
  1545737412, 1570295869, 1594795204, 1619234497, 1643612827, 1667929275, 1692182927, 1716372869, 1740498191, 1764557983, 1788551342, 1812477362,
  1836335144, 1860123788, 1883842400, 1907490086, 1931065957, 1954569124, 1977998702, 2001353810, 2024633568, 2047837100, 2070963532, 2094011993,
  2116981616, 2139871536, 2162680890, 2185408821, 2208054473, 2230616993, 2253095531, 2275489241, 2297797281, 2320018810, 2342152991, 2364198992,
  2386155981, 2408023134, 2429799626, 2451484637, 2473077351, 2494576955, 2515982640, 2537293599, 2558509031, 2579628136, 2600650120, 2621574191,
  2642399561, 2663125446, 2683751066, 2704275644, 2724698408, 2745018589, 2765235421, 2785348143, 2805355999, 2825258235, 2845054101, 2864742853,
  2884323748, 2903796051, 2923159027, 2942411948, 2961554089, 2980584729, 2999503152, 3018308645, 3037000500, 3055578014, 3074040487, 3092387225,
  3110617535, 3128730733, 3146726136, 3164603066, 3182360851, 3199998822, 3217516315, 3234912670, 3252187232, 3269339351, 3286368382, 3303273682,
  3320054617, 3336710553, 3353240863, 3369644927, 3385922125, 3402071844, 3418093478, 3433986423, 3449750080, 3465383855, 3480887161, 3496259414,
  3511500034, 3526608449, 3541584088, 3556426389, 3571134792, 3585708745, 3600147697, 3614451106, 3628618433, 3642649144, 3656542712, 3670298613,
  3683916329, 3697395348, 3710735162, 3723935269, 3736995171, 3749914379, 3762692404, 3775328765, 3787822988, 3800174601, 3812383140, 3824448145,
  3836369162, 3848145741, 3859777440, 3871263820, 3882604450, 3893798902, 3904846754, 3915747591, 3926501002, 3937106583, 3947563934, 3957872662,
  3968032378, 3978042699, 3987903250, 3997613658, 4007173558, 4016582591, 4025840401, 4034946641, 4043900968, 4052703044, 4061352537, 4069849124,
  4078192482, 4086382299, 4094418266, 4102300081, 4110027446, 4117600071, 4125017671, 4132279966, 4139386683, 4146337555, 4153132319, 4159770720,
  4166252509, 4172577440, 4178745276, 4184755784, 4190608739, 4196303920, 4201841112, 4207220108, 4212440704, 4217502704, 4222405917, 4227150159,
  4231735252, 4236161021, 4240427302, 4244533933, 4248480760, 4252267634, 4255894413, 4259360959, 4262667143, 4265812840, 4268797931, 4271622305,
  4274285855, 4276788480, 4279130086, 4281310585, 4283329896, 4285187942, 4286884652, 4288419964, 4289793820, 4291006167, 4292056960, 4292946160,
  4293673732, 4294239650, 4294643893, 4294886444, 4294967296]
/-- the table at a step; 0 of others -/
def tabF (n : Int) : Int := if n < 0 ∨ 257 ≤ n then 0 else tabL.getD n.toNat 0
theorem tabF_no {n : Int} (h : n < 0 ∨ 257 ≤ n) : tabF n = 0 := by unfold tabF; rw [if_pos h]
theorem tabF_in {n : Int} (h0 : 0 ≤ n) (h1 : n < 257) : tabF n = tabL.getD n.toNat 0 := by unfold tabF; rw [if_neg (by omega)]
theorem tabL_len : tabL.length = 257 := by decide +kernel
end Go.Proofs.YtmdhlobonnikcaaDoor.Fx

/- Plain words for vectors: bounds of what the calls answer. -/
namespace Go.Proofs.YtmdhlobonnikcaaDoor.Fx
set_option linter.unusedVariables false

theorem i64_rg {a : Int} (h : Rg a) : I64 a := by unfold Rg I64 at *; omega
theorem absF_nn (a : Int) : 0 ≤ absF a := by unfold absF negF cl; (repeat' split) <;> omega
theorem rg_sign {n : Int} (t : Bool) (h : 0 ≤ n) : Rg (signF n t) := by unfold signF Rg; (repeat' split) <;> omega
theorem rg_mul (a b : Int) : Rg (mulF a b) := by
  unfold mulF; exact rg_sign _ (Int.ediv_nonneg (Int.mul_nonneg (absF_nn _) (absF_nn _)) (by omega))
theorem rg_div (a b : Int) : Rg (divF a b) := by
  unfold divF; split
  · unfold Rg; omega
  · refine rg_sign _ ?_
    split
    · omega
    · have := absF_nn b
      exact Int.ediv_nonneg (Int.mul_nonneg (absF_nn _) (by omega)) this
theorem rg_sat (a : Int) : Rg (sat a) := by unfold sat Rg; (repeat' split) <;> omega
theorem rg_add (a b : Int) : Rg (addF a b) := rg_sat _
theorem rg_sub (a b : Int) : Rg (subF a b) := rg_sat _
theorem sqAux_bd (P : Int) : ∀ (k : Nat) (r : Int), r ≤ sqAux P k r ∧ sqAux P k r < r + 2 ^ k
  | 0, r => by simp [sqAux]; omega
  | k + 1, r => by
    have hp : (0 : Int) < 2 ^ k := Int.pow_pos (by omega)
    have e : (2 : Int) ^ (k + 1) = 2 ^ k + 2 ^ k := by rw [Int.pow_succ]; omega
    have h1 := sqAux_bd P k (r + 2 ^ k)
    have h2 := sqAux_bd P k r
    rw [sqAux, e]; split <;> omega
theorem sqrt_bd (a : Int) : 0 ≤ sqrtF a ∧ sqrtF a < 281474976710656 := by
  unfold sqrtF; split
  · omega
  · have := sqAux_bd (a * 4294967296) 48 0
    have e : (2 : Int) ^ 48 = 281474976710656 := by decide
    rw [e] at this; omega
theorem i64_mul (a b : Int) : I64 (mulF a b) := i64_rg (rg_mul a b)
theorem i64_div (a b : Int) : I64 (divF a b) := i64_rg (rg_div a b)
theorem i64_add (a b : Int) : I64 (addF a b) := i64_rg (rg_add a b)
theorem i64_sub (a b : Int) : I64 (subF a b) := i64_rg (rg_sub a b)
theorem i64_sqrt (a : Int) : I64 (sqrtF a) := by have := sqrt_bd a; unfold I64; omega
theorem i64_neg {a : Int} (h : I64 a) : I64 (negF a) := by have := cl_bd h; unfold negF I64 L M at *; omega
theorem i64_bring {a b c : Int} (ha : I64 a) (hb : I64 b) (hc : I64 c) : I64 (bringF a b c) := by
  have h1 := cl_bd ha; have h2 := cl_bd hb; have h3 := cl_bd hc
  unfold bringF I64 L M at *; (repeat' split) <;> omega
/-- a length -/
def lenF (a b : Int) : Int := sqrtF (addF (mulF a a) (mulF b b))
end Go.Proofs.YtmdhlobonnikcaaDoor.Fx

/- Lengths, plain: what a length says of the squares, and a unit vector's length. -/
namespace Go.Proofs.YtmdhlobonnikcaaDoor.Fx
set_option linter.unusedVariables false

theorem lt_or_le (x y : Int) : x < y ∨ y ≤ x := by omega
theorem sq_le {x y : Int} (h0 : 0 ≤ x) (h : x ≤ y) : x * x ≤ y * y := Int.mul_le_mul h h h0 (by omega)
theorem sq_add (x y : Int) : (x + y) * (x + y) = x * x + 2 * (x * y) + y * y := by
  rw [Int.add_mul, Int.mul_add, Int.mul_add, Int.mul_comm y x]; omega
theorem sq_lt {x y : Int} (h0 : 0 ≤ x) (h : x < y) : x * x < y * y := by
  have h1 := sq_le (x := x + 1) (y := y) (by omega) (by omega)
  rw [sq_add] at h1; omega
theorem lt_of_sq {x y : Int} (hy : 0 ≤ y) (h : x * x < y * y) : x < y := by
  rcases lt_or_le x y with c | c
  · exact c
  · have := sq_le hy c; omega
theorem le_of_sq {x y : Int} (hy : 0 ≤ y) (h : x * x ≤ y * y) : x ≤ y := by
  rcases lt_or_le y x with c | c
  · have := sq_lt hy c; omega
  · exact c
theorem sq_nn (x : Int) : 0 ≤ x * x := by
  rcases Int.le_total 0 x with h | h
  · exact Int.mul_nonneg h h
  · have := Int.mul_nonneg (a := -x) (b := -x) (by omega) (by omega)
    rw [Int.neg_mul_neg] at this; exact this
theorem abs_sq {a : Int} (h : Rg a) : absF a * absF a = a * a := by
  rw [absR h]; split
  · rw [Int.neg_mul_neg]
  · rfl
theorem prod_in {x y X Y : Int} (hx0 : -X ≤ x) (hx1 : x ≤ X) (hy0 : -Y ≤ y) (hy1 : y ≤ Y) : -(X * Y) ≤ x * y ∧ x * y ≤ X * Y := by
  rcases Int.le_total 0 x with h | h
  · have a1 : x * y ≤ x * Y := Int.mul_le_mul_of_nonneg_left hy1 h
    have a2 : x * (-Y) ≤ x * y := Int.mul_le_mul_of_nonneg_left hy0 h
    have a3 : x * Y ≤ X * Y := Int.mul_le_mul_of_nonneg_right hx1 (by omega)
    rw [Int.mul_neg] at a2
    omega
  · have a1 : (-x) * y ≤ (-x) * Y := Int.mul_le_mul_of_nonneg_left hy1 (by omega)
    have a2 : (-x) * (-Y) ≤ (-x) * y := Int.mul_le_mul_of_nonneg_left hy0 (by omega)
    have a3 : (-x) * Y ≤ X * Y := Int.mul_le_mul_of_nonneg_right (by omega) (by omega)
    rw [Int.neg_mul_neg] at a2
    rw [Int.neg_mul] at a1 a2 a3
    rw [Int.neg_mul] at a1
    omega
/-- a product is rounded by less than a unit -/
theorem mul_near {a b : Int} (ha : Sm a) (hb : Sm b) : -4294967296 < 4294967296 * mulF a b - a * b ∧ 4294967296 * mulF a b - a * b < 4294967296 := by
  have hx := abs_Sm ha
  have hy := abs_Sm hb
  have hp := prod_Sm hx.1 hx.2 hy.1 hy.2
  have e : mulF a b = if (decide (a < 0) != decide (b < 0)) = true then -(absF a * absF b / 4294967296) else absF a * absF b / 4294967296 := by
    unfold mulF; exact sign_small _ (by omega)
  have f : a * b = if (decide (a < 0) != decide (b < 0)) = true then -(absF a * absF b) else absF a * absF b := by
    rw [absR (Sm_Rg ha), absR (Sm_Rg hb)]
    by_cases c : a < 0 <;> by_cases d : b < 0 <;> simp [c, d, Int.neg_mul, Int.mul_neg]
  rw [e, f]
  generalize absF a * absF b = p at *
  split <;> omega
theorem mul_self {a : Int} (ha : Sm a) : mulF a a = a * a / 4294967296 ∧ 0 ≤ a * a ∧ a * a ≤ 4951760157141380478003019809 + 1000000000000000 := by
  have hx := abs_Sm ha
  have hp := prod_Sm hx.1 hx.2 hx.1 hx.2
  rw [abs_sq (Sm_Rg ha)] at hp
  refine ⟨?_, hp.1, hp.2⟩
  unfold mulF
  rw [abs_sq (Sm_Rg ha), show (decide (a < 0) != decide (a < 0)) = false by simp, sign_small _ (by omega)]; simp
/-- a length squared, and one more squared, against the sum of squares -/
theorem len_spec {a b : Int} (ha : Sm a) (hb : Sm b) : 0 ≤ lenF a b ∧ lenF a b * lenF a b ≤ a * a + b * b ∧ a * a + b * b < (lenF a b + 1) * (lenF a b + 1) + 8589934592 := by
  obtain ⟨e1, p1, q1⟩ := mul_self ha
  obtain ⟨e2, p2, q2⟩ := mul_self hb
  have ed : addF (mulF a a) (mulF b b) = a * a / 4294967296 + b * b / 4294967296 := by
    rw [addR (rg_mul _ _) (rg_mul _ _), e1, e2, satR (by unfold Rg; omega)]
  unfold lenF
  rw [ed]
  generalize a * a = p at *
  generalize b * b = q at *
  by_cases c : 0 < p / 4294967296 + q / 4294967296
  · obtain ⟨a1, a2, a3, a4⟩ := sqrt_spec c (by omega)
    generalize sqrtF (p / 4294967296 + q / 4294967296) = n at *
    exact ⟨a1, by omega, by omega⟩
  · have : sqrtF (p / 4294967296 + q / 4294967296) = 0 := by unfold sqrtF; rw [if_pos (by omega)]
    rw [this]; omega
theorem len_part {a n S : Int} (hn : 0 ≤ n) (h0 : 0 ≤ a) (h : a * a ≤ S) (hS : S < (n + 1) * (n + 1) + 8589934592) : a < n + 131073 := by
  refine lt_of_sq (by omega) ?_
  have e1 := sq_add (n + 1) 131072
  rw [show n + 1 + 131072 = n + 131073 by omega] at e1
  have : 0 ≤ (n + 1) * 131072 := Int.mul_nonneg (by omega) (by omega)
  omega
/-- a quotient by a length -/
theorem div_len {a n : Int} (ha : Rg a) (hn : 42949500 ≤ n) (hm : n < 281474976710656) (h : absF a < n + 131073) :
    0 ≤ absF (divF a n) ∧ absF (divF a n) ≤ 4308100000 ∧ absF (divF a n) * n ≤ absF a * 4294967296 ∧ absF a * 4294967296 < (absF (divF a n) + 1) * n ∧ Sm (divF a n) := by
  have hb := absR_bd ha
  have e : divF a n = signF (absF a * 4294967296 / n) (decide (a < 0)) := div_eq ha (by unfold Rg; omega) (by omega)
  have q0 : 0 ≤ absF a * 4294967296 / n := Int.ediv_nonneg (by omega) (by omega)
  have q1 : absF a * 4294967296 / n ≤ 4308100000 := by
    have : absF a * 4294967296 / n < 4308100001 := (Int.ediv_lt_iff_lt_mul (by omega)).2 (by omega)
    omega
  have f : absF (divF a n) = absF a * 4294967296 / n := by
    rw [e, sign_small _ (by omega)]; exact abs_ite q0 (by omega)
  have g := Int.emod_add_mul_ediv (absF a * 4294967296) n
  have g0 := Int.emod_nonneg (absF a * 4294967296) (show n ≠ 0 by omega)
  have g1 := Int.emod_lt_of_pos (absF a * 4294967296) (show 0 < n by omega)
  rw [f]
  rw [Int.mul_comm n] at g
  refine ⟨q0, q1, by omega, by rw [Int.add_mul]; omega, ?_⟩
  rw [e, sign_small _ (by omega)]
  unfold Sm; split <;> omega
theorem unit_len {a b : Int} (ha : -17179869184000 ≤ a ∧ a ≤ 17179869184000) (hb : -17179869184000 ≤ b ∧ b ≤ 17179869184000) (hx : 42949672 ≤ absF a ∨ 42949672 ≤ absF b) :
    -4294967 < lenF (divF a (lenF a b)) (divF b (lenF a b)) - 4294967296 ∧ lenF (divF a (lenF a b)) (divF b (lenF a b)) - 4294967296 < 4294967 := by
  have sa : Sm a := by unfold Sm; omega
  have sb : Sm b := by unfold Sm; omega
  have ra := Sm_Rg sa
  have rb := Sm_Rg sb
  obtain ⟨n0, n1, n2⟩ := len_spec sa sb
  have nM := (sqrt_bd (addF (mulF a a) (mulF b b))).2
  change lenF a b < _ at nM
  generalize lenF a b = n at *
  have qa := abs_sq ra
  have qb := abs_sq rb
  have pa := absF_nn a
  have pb := absF_nn b
  have za := sq_nn a
  have zb := sq_nn b
  have big : 42949500 ≤ n := by
    rcases lt_or_le n 42949500 with c | c
    · have h1 := sq_le (x := n + 1) (y := 42949500) (by omega) (by omega)
      rcases hx with hx | hx
      · have h2 := sq_le (x := 42949672) (by omega) hx; omega
      · have h2 := sq_le (x := 42949672) (by omega) hx; omega
    · exact c
  have la : absF a < n + 131073 := len_part n0 pa (by omega) n2
  have lb : absF b < n + 131073 := len_part n0 pb (by omega) n2
  obtain ⟨u0, u1, u2, u3, u4⟩ := div_len ra big nM la
  obtain ⟨v0, v1, v2, v3, v4⟩ := div_len rb big nM lb
  obtain ⟨m0, m1, m2⟩ := len_spec u4 v4
  rw [← abs_sq (Sm_Rg u4), ← abs_sq (Sm_Rg v4)] at m1 m2
  generalize lenF (divF a n) (divF b n) = m at *
  generalize absF (divF a n) = u at *
  generalize absF (divF b n) = v at *
  generalize absF a = x at *
  generalize absF b = y at *
  -- the squares of the bounds
  have w1 := sq_le (Int.mul_nonneg u0 n0) u2
  have w2 := sq_le (Int.mul_nonneg v0 n0) v2
  have w3 := sq_lt (Int.mul_nonneg pa (by omega)) u3
  have w4 := sq_lt (Int.mul_nonneg pb (by omega)) v3
  have mix : ∀ s t : Int, s * t * (s * t) = s * s * (t * t) := fun s t => by
    rw [Int.mul_assoc s t, Int.mul_assoc s s, Int.mul_left_comm t s t]
  rw [mix, mix] at w1 w2 w3 w4
  have nn := sq_nn n
  have n3 : 42949500 * n ≤ n * n := Int.mul_le_mul_of_nonneg_right big n0
  have e1 := sq_add n 1
  have e2 := sq_add u 1
  have e3 := sq_add v 1
  have e4 := sq_add m 1
  constructor
  · -- not too short
    rcases lt_or_le (-4294967) (m - 4294967296) with c | c
    · exact c
    · exfalso
      have h1 := sq_le (x := m + 1) (y := 4290672330) (by omega) (by omega)
      have h2 : (u + 1) * (u + 1) + (v + 1) * (v + 1) ≤ 18446744073709551616 := by omega
      have h3 : ((u + 1) * (u + 1) + (v + 1) * (v + 1)) * (n * n) ≤ 18446744073709551616 * (n * n) := Int.mul_le_mul_of_nonneg_right h2 nn
      rw [Int.add_mul] at h3
      omega
  · rcases lt_or_le (m - 4294967296) 4294967 with c | c
    · exact c
    · exfalso
      have h1 := sq_le (x := 4299262263) (y := m) (by omega) (by omega)
      have h2 : 4299262263 * 4299262263 ≤ u * u + v * v := by omega
      have h3 : 4299262263 * 4299262263 * (n * n) ≤ (u * u + v * v) * (n * n) := Int.mul_le_mul_of_nonneg_right h2 nn
      rw [Int.add_mul] at h3
      omega
end Go.Proofs.YtmdhlobonnikcaaDoor.Fx

/- Lengths, plain: a length against its parts, and the way along two others. -/
namespace Go.Proofs.YtmdhlobonnikcaaDoor.Fx
set_option linter.unusedVariables false

theorem lens_sum {a b : Int} (ha : Sm a) (hb : Sm b) : lenF a b ≤ absF a + absF b := by
  obtain ⟨n0, n1, n2⟩ := len_spec ha hb
  have pa := absF_nn a
  have pb := absF_nn b
  rw [← abs_sq (Sm_Rg ha), ← abs_sq (Sm_Rg hb)] at n1
  refine le_of_sq (by omega) ?_
  have := Int.mul_nonneg pa pb
  rw [sq_add]; omega
theorem lens_part {a b : Int} (ha : Sm a) (hb : Sm b) : absF a < lenF a b + 131073 ∧ absF b < lenF a b + 131073 := by
  obtain ⟨n0, n1, n2⟩ := len_spec ha hb
  have za := sq_nn a
  have zb := sq_nn b
  have qa := abs_sq (Sm_Rg ha)
  have qb := abs_sq (Sm_Rg hb)
  exact ⟨len_part n0 (absF_nn a) (by omega) n2, len_part n0 (absF_nn b) (by omega) n2⟩
theorem lagrange (a b c d : Int) : (a * a + b * b) * (c * c + d * d) = (a * c + b * d) * (a * c + b * d) + (a * d - b * c) * (a * d - b * c) := by
  simp only [Int.mul_add, Int.mul_sub, Int.mul_comm, Int.mul_left_comm]
  omega
theorem len_wide {S n : Int} (n0 : 0 ≤ n) (n2 : S < (n + 1) * (n + 1) + 8589934592) : S < (n + 131072) * (n + 131072) := by
  have e := sq_add (n + 1) 131071
  rw [show n + 1 + 131071 = n + 131072 by omega] at e
  have : 0 ≤ (n + 1) * 131071 := Int.mul_nonneg (by omega) (by omega)
  omega
theorem lens_tri {a b c d : Int} (ha : Sm a) (hb : Sm b) (hc : Sm c) (hd : Sm d) (he : Sm (a + c)) (hf : Sm (b + d)) :
    lenF (a + c) (b + d) ≤ lenF a b + lenF c d + 262144 := by
  obtain ⟨n0, n1, n2⟩ := len_spec ha hb
  obtain ⟨k0, k1, k2⟩ := len_spec hc hd
  obtain ⟨m0, m1, m2⟩ := len_spec he hf
  have hp := len_wide n0 n2
  have hq := len_wide k0 k2
  generalize lenF a b = n at *
  generalize lenF c d = k at *
  generalize lenF (a + c) (b + d) = m at *
  obtain ⟨P, eP⟩ : ∃ P, P = n + 131072 := ⟨_, rfl⟩
  obtain ⟨Q, eQ⟩ : ∃ Q, Q = k + 131072 := ⟨_, rfl⟩
  rw [← eP] at hp
  rw [← eQ] at hq
  have P0 : 0 ≤ P := by omega
  have Q0 : 0 ≤ Q := by omega
  have PQ : 0 ≤ P * Q := Int.mul_nonneg P0 Q0
  have zc := sq_nn c
  have zd := sq_nn d
  have zp := sq_nn P
  have L := lagrange a b c d
  have zl := sq_nn (a * d - b * c)
  have hm : (a * a + b * b) * (c * c + d * d) ≤ P * P * (Q * Q) := Int.mul_le_mul (by omega) (by omega) (by omega) (by omega)
  have e : P * P * (Q * Q) = P * Q * (P * Q) := by rw [Int.mul_assoc P P, Int.mul_assoc P Q, Int.mul_left_comm Q P Q]
  have hg : a * c + b * d ≤ P * Q := le_of_sq PQ (by omega)
  have hs := sq_add P Q
  have ha2 := sq_add a c
  have hb2 := sq_add b d
  have : m < P + Q := lt_of_sq (by omega) (by omega)
  omega
end Go.Proofs.YtmdhlobonnikcaaDoor.Fx

/- Plain words for shapes: corners by a function, what a shape must keep. No Go in sight. -/
namespace Go.Proofs.YtmdhlobonnikcaaDoor.Fx
set_option linter.unusedVariables false

/-- corners: corner i is f i -/
abbrev Cs := Nat → Int × Int
/-- Cross of the way from corner i to corner k and of that from i to j -/
def crossF (f : Cs) (i k j : Nat) : Int :=
  subF (mulF (subF (f k).1 (f i).1) (subF (f j).2 (f i).2)) (mulF (subF (f k).2 (f i).2) (subF (f j).1 (f i).1))
/-- none beyond 64 -/
def NearP (p : Int × Int) : Prop := (-274877906944 ≤ p.1 ∧ p.1 ≤ 274877906944) ∧ (-274877906944 ≤ p.2 ∧ p.2 ≤ 274877906944)
/-- each side has all corners but its own two to its left -/
def CvxP (f : Cs) (n : Nat) : Prop := ∀ i, i < n → ∀ j, j < n → j ≠ i → j ≠ (i + 1) % n → 0 < crossF f i ((i + 1) % n) j
def RightP (K R : Int) (n : Nat) (f : Cs) : Prop :=
  (K = 1 ∧ n = 0 ∧ 16777216 ≤ R ∧ R ≤ 274877906944) ∨ (K = 2 ∧ R = 0 ∧ 3 ≤ n ∧ n ≤ 8 ∧ (∀ i, i < n → NearP (f i)) ∧ CvxP f n)
/-- the same, counted from the side on -/
theorem cvx_on {f : Cs} {n : Nat} (h3 : 3 ≤ n) (h8 : n ≤ 8) : CvxP f n ↔ ∀ i, i < n → ∀ on, 2 ≤ on → on < n → 0 < crossF f i ((i + 1) % n) ((i + on) % n) := by
  constructor
  · intro h i hi on h2 hn
    refine h i hi _ (Nat.mod_lt _ (by omega)) ?_ ?_
    · rcases (show n = 3 ∨ n = 4 ∨ n = 5 ∨ n = 6 ∨ n = 7 ∨ n = 8 by omega) with rfl | rfl | rfl | rfl | rfl | rfl <;> omega
    · rcases (show n = 3 ∨ n = 4 ∨ n = 5 ∨ n = 6 ∨ n = 7 ∨ n = 8 by omega) with rfl | rfl | rfl | rfl | rfl | rfl <;> omega
  · intro h i hi j hj h1 h2
    have e : ∃ on, 2 ≤ on ∧ on < n ∧ (i + on) % n = j := by
      refine ⟨(j + n - i) % n, ?_, Nat.mod_lt _ (by omega), ?_⟩ <;>
      rcases (show n = 3 ∨ n = 4 ∨ n = 5 ∨ n = 6 ∨ n = 7 ∨ n = 8 by omega) with rfl | rfl | rfl | rfl | rfl | rfl <;> omega
    obtain ⟨on, a, b, rfl⟩ := e
    exact h i hi on a b

theorem near_bring {x : Int} (h : I64 x) : bringF x (negF 274877906944) 274877906944 = x ↔ (-274877906944 ≤ x ∧ x ≤ 274877906944) := by
  have e : negF 274877906944 = -274877906944 := by decide
  rw [e]; unfold bringF cl I64 at *
  constructor
  · intro h1; revert h1; (repeat' split) <;> omega
  · intro h1; (repeat' split) <;> omega

/-- how far the corners go -/
def Top (f : Cs) (n : Nat) (r : Int) : Prop := 0 ≤ r ∧ (∀ i, i < n → lenF (f i).1 (f i).2 ≤ r) ∧ (r = 0 ∨ ∃ i, i < n ∧ r = lenF (f i).1 (f i).2)
theorem len_nn (a b : Int) : 0 ≤ lenF a b := (sqrt_bd _).1
theorem top_one {f : Cs} {n : Nat} {r s : Int} (h : Top f n r) (k : Top f n s) : r = s := by
  obtain ⟨a, b, c⟩ := h
  obtain ⟨a', b', c'⟩ := k
  have x : r ≤ s := by
    rcases c with rfl | ⟨i, hi, rfl⟩
    · exact a'
    · exact b' i hi
  have y : s ≤ r := by
    rcases c' with rfl | ⟨i, hi, rfl⟩
    · exact a
    · exact b i hi
  omega
theorem top_nil (f : Cs) : Top f 0 0 := ⟨by omega, fun i hi => absurd hi (by omega), .inl rfl⟩
theorem top_next {f : Cs} {n : Nat} {r : Int} (h : Top f n r) : Top f (n + 1) (max r (lenF (f n).1 (f n).2)) := by
  obtain ⟨a, b, c⟩ := h
  have l := len_nn (f n).1 (f n).2
  refine ⟨by omega, fun i hi => ?_, ?_⟩
  · rcases (show i < n ∨ i = n by omega) with h | rfl
    · have := b i h; omega
    · omega
  · rcases (show r ≤ lenF (f n).1 (f n).2 ∨ lenF (f n).1 (f n).2 < r by omega) with h | h
    · exact .inr ⟨n, by omega, by omega⟩
    · rcases c with rfl | ⟨i, hi, e⟩
      · omega
      · exact .inr ⟨i, by omega, by omega⟩
theorem top_has (f : Cs) : ∀ n, ∃ r, Top f n r
  | 0 => ⟨0, top_nil f⟩
  | n + 1 => by obtain ⟨r, h⟩ := top_has f n; exact ⟨_, top_next h⟩
/-- corners in another order go as far -/
theorem top_same {f g : Cs} {n : Nat} {r : Int} (h : Top f n r) (p : ∀ i, i < n → ∃ j, j < n ∧ g i = f j) (q : ∀ i, i < n → ∃ j, j < n ∧ f i = g j) : Top g n r := by
  obtain ⟨a, b, c⟩ := h
  refine ⟨a, fun i hi => ?_, ?_⟩
  · obtain ⟨j, hj, e⟩ := p i hi
    rw [e]; exact b j hj
  · rcases c with c | ⟨i, hi, e⟩
    · exact .inl c
    · obtain ⟨j, hj, e'⟩ := q i hi
      exact .inr ⟨j, hj, by rw [← e']; exact e⟩
theorem top_i64 {f : Cs} {n : Nat} {r : Int} (h : Top f n r) : I64 r := by
  obtain ⟨a, b, c⟩ := h
  rcases c with c | ⟨i, _, e⟩
  · subst c; unfold I64; omega
  · rw [e]; have := sqrt_bd (addF (mulF (f i).1 (f i).1) (mulF (f i).2 (f i).2)); unfold I64 lenF; omega

end Go.Proofs.YtmdhlobonnikcaaDoor.Fx

/- Plain words for shapes whose corners lie on a grid: boxes, and places of the ring. -/
namespace Go.Proofs.YtmdhlobonnikcaaDoor.Fx
set_option linter.unusedVariables false

/-- corner i is (x i, y i) times k times 2^22 -/
def grid (x y : Nat → Int) (k : Int) : Cs := fun i => (x i * (k * 4194304), y i * (k * 4194304))
def icross (x y : Nat → Int) (i k j : Nat) : Int := (x k - x i) * (y j - y i) - (y k - y i) * (x j - x i)
/-- a grid of corners that may be -/
structure Grid (x y : Nat → Int) (k : Int) (n : Nat) : Prop where
  k0 : 1 ≤ k
  k1 : k ≤ 64
  n0 : 3 ≤ n
  n1 : n ≤ 8
  xb : ∀ i, i < n → -65 ≤ x i ∧ x i ≤ 65
  yb : ∀ i, i < n → -65 ≤ y i ∧ y i ≤ 65
  cv : ∀ i, i < n → ∀ j, j < n → j ≠ i → j ≠ (i + 1) % n → 0 < icross x y i ((i + 1) % n) j

theorem mul_exact {a b c : Int} (ha : Rg a) (hb : Rg b) (hc : Rg c) (h : a * b = 4294967296 * c) : mulF a b = c := by
  unfold mulF
  rw [absR ha, absR hb]
  by_cases h0 : a < 0 <;> by_cases h1 : b < 0 <;> simp only [h0, h1, if_true, if_false, decide_true, decide_false, bne_self_eq_false, Bool.true_bne, Bool.false_bne, Bool.not_false]
  · have e : -a * -b = 4294967296 * c := by rw [Int.neg_mul_neg]; exact h
    have p : 0 < a * b := Int.mul_pos_of_neg_of_neg h0 h1
    rw [e, Int.mul_ediv_cancel_left c (by omega), sign_small false (by unfold Rg at hc; omega)]; simp
  · have e : -a * b = 4294967296 * (-c) := by rw [Int.neg_mul, h]; omega
    rw [e, Int.mul_ediv_cancel_left _ (by omega), sign_small true (by unfold Rg at hc; omega)]; simp
  · have e : a * -b = 4294967296 * (-c) := by rw [Int.mul_neg, h]; omega
    rw [e, Int.mul_ediv_cancel_left _ (by omega), sign_small true (by unfold Rg at hc; omega)]; simp
  · rw [h, Int.mul_ediv_cancel_left c (by omega), sign_small false (by unfold Rg at hc; omega)]; simp
theorem sub_exact {a b : Int} (ha : Rg a) (hb : Rg b) (h : Rg (a - b)) : subF a b = a - b := by
  unfold subF
  rw [negR hb, addR ha (Rg_neg hb), satR (by rw [← Int.sub_eq_add_neg]; exact h), Int.sub_eq_add_neg]

/-- the grid's step -/
def St (z : Int) : Prop := 4194304 ≤ z ∧ z ≤ 268435456
theorem st_of {k : Int} (h0 : 1 ≤ k) (h1 : k ≤ 64) : St (k * 4194304) := by unfold St; omega
theorem st_mul {z a A : Int} (hz : St z) (h0 : -A ≤ a) (h1 : a ≤ A) (hA : 0 ≤ A) : -(268435456 * A) ≤ a * z ∧ a * z ≤ 268435456 * A := by
  have h := prod_in (x := a) (y := z) (X := A) (Y := 268435456) h0 h1 (by unfold St at hz; omega) hz.2
  rw [Int.mul_comm 268435456 A]; exact h
theorem st_rg {z a : Int} (hz : St z) (h0 : -200 ≤ a) (h1 : a ≤ 200) : Rg (a * z) ∧ -53687091200 ≤ a * z ∧ a * z ≤ 53687091200 := by
  have h := st_mul hz h0 h1 (by omega)
  unfold Rg; omega
theorem sub_grid {z a b : Int} (hz : St z) (ha : -65 ≤ a ∧ a ≤ 65) (hb : -65 ≤ b ∧ b ≤ 65) : subF (a * z) (b * z) = (a - b) * z := by
  have e : (a - b) * z = a * z - b * z := Int.sub_mul a b z
  rw [sub_exact (st_rg hz (by omega) (by omega)).1 (st_rg hz (by omega) (by omega)).1 (by rw [← e]; exact (st_rg hz (by omega) (by omega)).1), e]
theorem mul_grid {k a b : Int} (h0 : 1 ≤ k) (h1 : k ≤ 64) (ha : -130 ≤ a ∧ a ≤ 130) (hb : -130 ≤ b ∧ b ≤ 130) : mulF (a * (k * 4194304)) (b * (k * 4194304)) = a * b * (k * k * 4096) ∧ -283548057600 ≤ a * b * (k * k * 4096) ∧ a * b * (k * k * 4096) ≤ 283548057600 := by
  have hz := st_of h0 h1
  have kk := prod_in (x := k) (y := k) (X := 64) (Y := 64) (by omega) h1 (by omega) h1
  have k2 := sq_nn k
  have ab := prod_in (x := a) (y := b) (X := 130) (Y := 130) ha.1 ha.2 hb.1 hb.2
  have q := prod_in (x := a * b) (y := k * k * 4096) (X := 16900) (Y := 16777216) (by omega) (by omega) (by omega) (by omega)
  have e : a * (k * 4194304) * (b * (k * 4194304)) = 4294967296 * (a * b * (k * k * 4096)) := by
    have e0 : ∀ z : Int, a * (k * z) * (b * (k * z)) = a * b * (k * k) * (z * z) := fun z => by ac_rfl
    rw [e0, show a * b * (k * k * 4096) = a * b * (k * k) * 4096 from (Int.mul_assoc _ _ _).symm]; omega
  refine ⟨mul_exact (st_rg hz (by omega) (by omega)).1 (st_rg hz (by omega) (by omega)).1 (by unfold Rg; omega) e, by omega, by omega⟩
theorem cross_grid {x y : Nat → Int} {k : Int} {n i l j : Nat} (g : Grid x y k n) (hi : i < n) (hl : l < n) (hj : j < n) : crossF (grid x y k) i l j = icross x y i l j * (k * k * 4096) := by
  have hz := st_of g.k0 g.k1
  have xi := g.xb i hi; have xl := g.xb l hl; have xj := g.xb j hj
  have yi := g.yb i hi; have yl := g.yb l hl; have yj := g.yb j hj
  unfold crossF grid icross
  simp only []
  rw [sub_grid hz xl xi, sub_grid hz yj yi, sub_grid hz yl yi, sub_grid hz xj xi]
  obtain ⟨e1, b1, b2⟩ := mul_grid (a := x l - x i) (b := y j - y i) g.k0 g.k1 (by omega) (by omega)
  obtain ⟨e2, b3, b4⟩ := mul_grid (a := y l - y i) (b := x j - x i) g.k0 g.k1 (by omega) (by omega)
  rw [e1, e2, sub_exact (by unfold Rg; omega) (by unfold Rg; omega) (by unfold Rg; omega)]
  exact (Int.sub_mul _ _ _).symm
theorem kk_pos {k : Int} (h0 : 1 ≤ k) : 0 < k * k * 4096 := by
  have := Int.mul_pos (show 0 < k by omega) (show 0 < k by omega); omega
theorem pos_mul {a z : Int} (hz : 0 < z) : 0 < a * z ↔ 0 < a := by
  constructor
  · intro h
    refine Int.not_le.1 fun h0 => ?_
    have := Int.mul_le_mul_of_nonneg_right h0 (show 0 ≤ z by omega)
    omega
  · intro h; exact Int.mul_pos h hz
theorem grid_i64 {x y : Nat → Int} {k : Int} {n : Nat} (g : Grid x y k n) : ∀ i, i < n → I64 (grid x y k i).1 ∧ I64 (grid x y k i).2 := fun i hi =>
  ⟨i64_rg (st_rg (st_of g.k0 g.k1) (by have := g.xb i hi; omega) (by have := g.xb i hi; omega)).1, i64_rg (st_rg (st_of g.k0 g.k1) (by have := g.yb i hi; omega) (by have := g.yb i hi; omega)).1⟩
theorem grid_near {x y : Nat → Int} {k : Int} {n : Nat} (g : Grid x y k n) : ∀ i, i < n → NearP (grid x y k i) := fun i hi => by
  have a := st_rg (st_of g.k0 g.k1) (a := x i) (by have := g.xb i hi; omega) (by have := g.xb i hi; omega)
  have b := st_rg (st_of g.k0 g.k1) (a := y i) (by have := g.yb i hi; omega) (by have := g.yb i hi; omega)
  unfold NearP grid
  simp only []
  omega
theorem grid_right {x y : Nat → Int} {k : Int} {n : Nat} (g : Grid x y k n) : RightP 2 0 n (grid x y k) := by
  refine .inr ⟨rfl, rfl, g.n0, g.n1, grid_near g, fun i hi j hj h1 h2 => ?_⟩
  rw [cross_grid g hi (Nat.mod_lt _ (by have := g.n0; omega)) hj]
  exact (pos_mul (kk_pos g.k0)).2 (g.cv i hi j hj h1 h2)
/-- whichever corner is the first -/
theorem grid_turn {x y : Nat → Int} {k : Int} {n : Nat} (g : Grid x y k n) (m : Nat) : Grid (fun i => x ((i + m) % n)) (fun i => y ((i + m) % n)) k n := by
  have n0 := g.n0; have n1 := g.n1
  have md : ∀ a, (a % n + m) % n = (a + m) % n := fun a => by rw [Nat.mod_add_mod]
  have e : ∀ i, ((i + 1) % n + m) % n = ((i + m) % n + 1) % n := fun i => by
    rw [Nat.mod_add_mod, Nat.mod_add_mod, Nat.add_right_comm]
  refine ⟨g.k0, g.k1, n0, n1, fun i hi => g.xb _ (Nat.mod_lt _ (by omega)), fun i hi => g.yb _ (Nat.mod_lt _ (by omega)), fun i hi j hj h1 h2 => ?_⟩
  have h := g.cv ((i + m) % n) (Nat.mod_lt _ (by omega)) ((j + m) % n) (Nat.mod_lt _ (by omega)) ?_ ?_
  · rw [← e] at h
    exact h
  · intro h3
    have h4 : (i + m) % n < n := Nat.mod_lt _ (by omega)
    rcases (show n = 3 ∨ n = 4 ∨ n = 5 ∨ n = 6 ∨ n = 7 ∨ n = 8 by omega) with rfl | rfl | rfl | rfl | rfl | rfl <;> omega
  · intro h3
    rw [← e] at h3
    have h4 : (i + 1) % n < n := Nat.mod_lt _ (by omega)
    generalize (i + 1) % n = q at *
    rcases (show n = 3 ∨ n = 4 ∨ n = 5 ∨ n = 6 ∨ n = 7 ∨ n = 8 by omega) with rfl | rfl | rfl | rfl | rfl | rfl <;> omega
theorem turned_eq (x y : Nat → Int) (k : Int) (n m : Nat) : (fun i => grid x y k ((i + m) % n)) = grid (fun i => x ((i + m) % n)) (fun i => y ((i + m) % n)) k := rfl
/-- the other way round -/
theorem grid_back {x y : Nat → Int} {k : Int} {n : Nat} (g : Grid x y k n) : ¬ RightP 2 0 n (fun i => grid x y k (n - 1 - i)) := by
  have n0 := g.n0; have n1 := g.n1
  intro h
  rcases h with h | ⟨_, _, _, _, _, h⟩
  · omega
  · have m1 : (0 + 1) % n = 1 := by rw [Nat.mod_eq_of_lt (by omega)]
    have a := h 0 (by omega) 2 (by omega) (by omega) (by rw [m1]; omega)
    rw [m1] at a
    have e : crossF (fun i => grid x y k (n - 1 - i)) 0 1 2 = crossF (grid x y k) (n - 1 - 0) (n - 1 - 1) (n - 1 - 2) := rfl
    rw [e, cross_grid g (by omega) (by omega) (by omega), pos_mul (kk_pos g.k0)] at a
    have m2 : (n - 1 - 2 + 1) % n = n - 1 - 1 := by rw [Nat.mod_eq_of_lt (by omega)]; omega
    have b := g.cv (n - 1 - 2) (by omega) (n - 1 - 0) (by omega) (by omega) (by rw [m2]; omega)
    rw [m2] at b
    have c : icross x y (n - 1 - 2) (n - 1 - 1) (n - 1 - 0) = - icross x y (n - 1 - 0) (n - 1 - 1) (n - 1 - 2) := by
      unfold icross
      generalize x (n - 1 - 0) = a0; generalize x (n - 1 - 1) = a1; generalize x (n - 1 - 2) = a2
      generalize y (n - 1 - 0) = b0; generalize y (n - 1 - 1) = b1; generalize y (n - 1 - 2) = b2
      simp only [Int.sub_mul, Int.mul_sub]
      simp only [Int.mul_comm b0, Int.mul_comm b1, Int.mul_comm b2]
      omega
    omega

/-! ### the ring -/
def ringL : List (Int × Int) := [(65, 0), (52, 39), (25, 60), (-25, 60), (-52, 39), (-65, 0), (-52, -39), (-25, -60), (25, -60), (52, -39)]
def ringX (n t i : Nat) : Int := (ringL.getD ((i * 10 / n + t) % 10) (0, 0)).1
def ringY (n t i : Nat) : Int := (ringL.getD ((i * 10 / n + t) % 10) (0, 0)).2
def ringOk (n t : Nat) : Bool := (List.range n).all fun i => decide (-65 ≤ ringX n t i) && decide (ringX n t i ≤ 65) && decide (-65 ≤ ringY n t i) && decide (ringY n t i ≤ 65) &&
  (List.range n).all fun j => decide (j = i) || decide (j = (i + 1) % n) || decide (0 < icross (ringX n t) (ringY n t) i ((i + 1) % n) j)
theorem ring_check : (List.range 6).all (fun n => (List.range 10).all fun t => ringOk (3 + n) t) = true := by decide +kernel
theorem ring_mod (n t : Nat) : ringX n t = ringX n (t % 10) ∧ ringY n t = ringY n (t % 10) := by
  constructor <;> funext i <;> (first | unfold ringX | unfold ringY) <;> rw [Nat.add_mod_mod]
theorem ring_grid {k : Int} {n : Nat} (t : Nat) (k0 : 1 ≤ k) (k1 : k ≤ 64) (n0 : 3 ≤ n) (n1 : n ≤ 8) : Grid (ringX n t) (ringY n t) k n := by
  have h := ring_check
  rw [List.all_eq_true] at h
  have h1 := h (n - 3) (List.mem_range.2 (by omega))
  rw [List.all_eq_true] at h1
  have h2 := h1 (t % 10) (List.mem_range.2 (Nat.mod_lt _ (by omega)))
  rw [show 3 + (n - 3) = n by omega] at h2
  unfold ringOk at h2
  rw [List.all_eq_true] at h2
  rw [(ring_mod n t).1, (ring_mod n t).2]
  refine ⟨k0, k1, n0, n1, fun i hi => ?_, fun i hi => ?_, fun i hi j hj a b => ?_⟩
  · have h3 := h2 i (List.mem_range.2 hi)
    simp only [Bool.and_eq_true, decide_eq_true_eq] at h3
    omega
  · have h3 := h2 i (List.mem_range.2 hi)
    simp only [Bool.and_eq_true, decide_eq_true_eq] at h3
    omega
  · have h3 := h2 i (List.mem_range.2 hi)
    simp only [Bool.and_eq_true, decide_eq_true_eq] at h3
    have h4 := h3.2
    rw [List.all_eq_true] at h4
    have h5 := h4 j (List.mem_range.2 hj)
    simp only [Bool.or_eq_true, decide_eq_true_eq] at h5
    rcases h5 with (h5 | h5) | h5
    · exact absurd h5 a
    · exact absurd h5 b
    · exact h5

/-! ### boxes -/
def boxX (a : Int) (i : Nat) : Int := if i = 0 ∨ i = 3 then -a else a
def boxY (b : Int) (i : Nat) : Int := if i = 0 ∨ i = 1 then -b else b
theorem box_grid {a b : Int} (a0 : 1 ≤ a) (a1 : a ≤ 64) (b0 : 1 ≤ b) (b1 : b ≤ 64) : Grid (boxX a) (boxY b) 64 4 := by
  have p := Int.mul_pos (show 0 < a by omega) (show 0 < b by omega)
  refine ⟨by omega, by omega, by omega, by omega, fun i hi => by unfold boxX; split <;> omega, fun i hi => by unfold boxY; split <;> omega, fun i hi j hj h1 h2 => ?_⟩
  unfold icross
  rcases (show i = 0 ∨ i = 1 ∨ i = 2 ∨ i = 3 by omega) with rfl | rfl | rfl | rfl <;> rcases (show j = 0 ∨ j = 1 ∨ j = 2 ∨ j = 3 by omega) with rfl | rfl | rfl | rfl <;>
    first
    | (exfalso; omega)
    | (simp only [boxX, boxY, true_or, or_true, if_true, if_false, Nat.reduceAdd, Nat.reduceMod, Nat.reduceEqDiff, or_self, Int.sub_mul, Int.mul_sub, Int.mul_neg, Int.neg_mul, Int.mul_comm b a]; omega)
end Go.Proofs.YtmdhlobonnikcaaDoor.Fx

/- Plain words for shapes: the ways away from the sides. -/
namespace Go.Proofs.YtmdhlobonnikcaaDoor.Fx
set_option linter.unusedVariables false

/-- a unit vector, (0, 0) if there is none -/
def uF (a b : Int) : Int × Int := if lenF a b = 0 then (0, 0) else (divF a (lenF a b), divF b (lenF a b))
/-- the way away from the side from corner i on -/
def normF (f : Cs) (n i : Nat) : Int × Int :=
  let u := uF (subF (f ((i + 1) % n)).1 (f i).1) (subF (f ((i + 1) % n)).2 (f i).2)
  (u.2, negF u.1)
theorem addF_comm (a b : Int) : addF a b = addF b a := by unfold addF; rw [Int.add_comm]
theorem len_turn {a b : Int} (ha : Rg a) : lenF b (-a) = lenF a b := by
  unfold lenF
  rw [mul_neg_right (Rg_neg ha) ha, mul_neg_left ha ha, Int.neg_neg, addF_comm]
theorem div_times {a n : Int} (ha : Rg a) (hn : 131073 ≤ n) (hm : n < 281474976710656) (h : absF a < n + 131073) :
    (-n ≤ n * divF a n - a * 4294967296 ∧ n * divF a n - a * 4294967296 ≤ n) ∧ (-8589934592 ≤ divF a n ∧ divF a n ≤ 8589934592) := by
  have h0 := (absR_bd ha).1
  rw [div_eq ha (by unfold Rg; omega) (by omega)]
  have q0 : 0 ≤ absF a * 4294967296 / n := Int.ediv_nonneg (by omega) (by omega)
  have q1 : n * (absF a * 4294967296 / n) ≤ absF a * 4294967296 := Int.mul_ediv_self_le (by omega)
  have q2 : absF a * 4294967296 < n * (absF a * 4294967296 / n) + n := Int.lt_mul_ediv_self_add (by omega)
  have q3 : absF a * 4294967296 / n ≤ 8589934592 := by
    refine Int.le_of_lt_add_one (Int.ediv_lt_of_lt_mul (by omega) ?_)
    omega
  rw [sign_small _ (by omega)]
  generalize absF a * 4294967296 / n = q at *
  rw [absR ha] at q1 q2
  by_cases hs : a < 0
  · simp only [hs, if_true, decide_true] at *
    rw [Int.mul_neg]; omega
  · simp only [hs, if_false, decide_false, Bool.false_eq_true] at *
    omega
/-- what lies to the left of a way does not lie beyond it -/
theorem dot_out {A B E F : Int} (hA : -68719476736 ≤ A ∧ A ≤ 68719476736) (hB : -68719476736 ≤ B ∧ B ≤ 68719476736) (hE : -68719476736 ≤ E ∧ E ≤ 68719476736) (hF : -68719476736 ≤ F ∧ F ≤ 68719476736)
    (hc : 0 ≤ A * F - B * E) (hs : 4194304 ≤ absF A ∨ 4194304 ≤ absF B) :
    lenF A B ≠ 0 ∧ addF (mulF (divF B (lenF A B)) E) (mulF (divF (-A) (lenF A B)) F) ≤ 4294967 := by
  have rA : Rg A := by unfold Rg; omega
  have rB : Rg B := by unfold Rg; omega
  have sA : Sm A := by unfold Sm; omega
  have sB : Sm B := by unfold Sm; omega
  obtain ⟨p1, p2⟩ := lens_part sA sB
  have nm : lenF A B < 281474976710656 := (sqrt_bd _).2
  have p3 : absF (-A) < lenF A B + 131073 := by rw [absR_neg rA]; exact p1
  generalize lenF A B = n at *
  have n1 : 131073 ≤ n := by omega
  refine ⟨by omega, ?_⟩
  obtain ⟨⟨u1, u2⟩, u3, u4⟩ := div_times rB n1 nm p2
  obtain ⟨⟨v1, v2⟩, v3, v4⟩ := div_times (Rg_neg rA) n1 nm p3
  generalize divF B n = u at *
  generalize divF (-A) n = v at *
  obtain ⟨r, er⟩ : ∃ r, n * u - B * 4294967296 = r := ⟨_, rfl⟩
  obtain ⟨s, es⟩ : ∃ s, n * v - -A * 4294967296 = s := ⟨_, rfl⟩
  rw [er] at u1 u2
  rw [es] at v1 v2
  have a1 := (prod_in (x := r) (y := E) (X := n) (Y := 68719476736) u1 u2 hE.1 hE.2).2
  have a2 := (prod_in (x := s) (y := F) (X := n) (Y := 68719476736) v1 v2 hF.1 hF.2).2
  have e1 : n * u * E = B * E * 4294967296 + r * E := by
    rw [show n * u = B * 4294967296 + r by omega, Int.add_mul, Int.mul_right_comm]
  have e2 : n * v * F = -(A * F * 4294967296) + s * F := by
    rw [show n * v = -A * 4294967296 + s by omega, Int.add_mul, Int.mul_right_comm, Int.neg_mul, Int.neg_mul]
  have T : u * E + v * F ≤ 137438953472 := by
    refine Int.not_lt.1 fun h => ?_
    have h1 := Int.mul_le_mul_of_nonneg_left (show 137438953473 ≤ u * E + v * F by omega) (show 0 ≤ n by omega)
    rw [Int.mul_add, ← Int.mul_assoc, ← Int.mul_assoc, e1, e2] at h1
    generalize A * F = z1 at *; generalize B * E = z2 at *; generalize r * E = z3 at *; generalize s * F = z4 at *
    omega
  have m1 := mul_near (a := u) (b := E) (by unfold Sm; omega) (by unfold Sm; omega)
  have m2 := mul_near (a := v) (b := F) (by unfold Sm; omega) (by unfold Sm; omega)
  have w1 := prod_in (x := u) (y := E) (X := 8589934592) (Y := 68719476736) u3 u4 hE.1 hE.2
  have w2 := prod_in (x := v) (y := F) (X := 8589934592) (Y := 68719476736) v3 v4 hF.1 hF.2
  rw [addR (rg_mul _ _) (rg_mul _ _)]
  generalize mulF u E = m at *
  generalize mulF v F = m' at *
  generalize u * E = p at *
  generalize v * F = q at *
  rw [satR (by unfold Rg; omega)]
  omega

/-- all that the statement about normals asks of a side of a grid and a corner of it -/
theorem grid_norm {x y : Nat → Int} {k : Int} {n : Nat} (g : Grid x y k n) {i : Nat} (hi : i < n) {dx dy : Int}
    (ex : subF (grid x y k ((i + 1) % n)).1 (grid x y k i).1 = dx) (ey : subF (grid x y k ((i + 1) % n)).2 (grid x y k i).2 = dy) :
    (-68719476736 ≤ dx ∧ dx ≤ 68719476736) ∧ (-68719476736 ≤ dy ∧ dy ≤ 68719476736) ∧ lenF dy (-dx) ≠ 0 ∧ normF (grid x y k) n i = (divF dy (lenF dy (-dx)), divF (-dx) (lenF dy (-dx))) ∧
    ∀ j, j < n → addF (mulF (divF dy (lenF dy (-dx))) (subF (grid x y k j).1 (grid x y k i).1)) (mulF (divF (-dx) (lenF dy (-dx))) (subF (grid x y k j).2 (grid x y k i).2)) ≤ 4294967 := by
  have n0 := g.n0
  have hl : (i + 1) % n < n := Nat.mod_lt _ (by omega)
  have hz := st_of g.k0 g.k1
  have xi := g.xb i hi; have yi := g.yb i hi
  have xl := g.xb _ hl; have yl := g.yb _ hl
  have eX : dx = (x ((i + 1) % n) - x i) * (k * 4194304) := by rw [← ex]; exact sub_grid hz xl xi
  have eY : dy = (y ((i + 1) % n) - y i) * (k * 4194304) := by rw [← ey]; exact sub_grid hz yl yi
  obtain ⟨X, hX⟩ : ∃ X, x ((i + 1) % n) - x i = X := ⟨_, rfl⟩
  obtain ⟨Y, hY⟩ : ∃ Y, y ((i + 1) % n) - y i = Y := ⟨_, rfl⟩
  obtain ⟨z, ez⟩ : ∃ z, k * 4194304 = z := ⟨_, rfl⟩
  have key : 0 < icross x y i ((i + 1) % n) ((i + 2) % n) := by
    refine g.cv i hi _ (Nat.mod_lt _ (by omega)) ?_ ?_ <;>
    · have n1 := g.n1
      rcases (show n = 3 ∨ n = 4 ∨ n = 5 ∨ n = 6 ∨ n = 7 ∨ n = 8 by omega) with rfl | rfl | rfl | rfl | rfl | rfl <;> omega
  have nz : X ≠ 0 ∨ Y ≠ 0 := by
    refine Classical.byContradiction fun h => ?_
    have hx0 : X = 0 := by omega
    have hy0 : Y = 0 := by omega
    unfold icross at key
    rw [hX, hY, hx0, hy0] at key
    simp at key
  rw [hX, ez] at eX
  rw [hY, ez] at eY
  rw [ez] at hz
  have bX := st_rg hz (a := X) (by omega) (by omega)
  have bY := st_rg hz (a := Y) (by omega) (by omega)
  have rX : Rg dx := by rw [eX]; exact bX.1
  have rY : Rg dy := by rw [eY]; exact bY.1
  have big : 4194304 ≤ absF dx ∨ 4194304 ≤ absF dy := by
    have far : ∀ a : Int, a ≠ 0 → a * z ≤ -4194304 ∨ 4194304 ≤ a * z := fun a h0 => by
      unfold St at hz
      rcases (show a ≤ -1 ∨ 1 ≤ a by omega) with h | h
      · left; have := Int.mul_le_mul_of_nonneg_right h (show 0 ≤ z by omega); omega
      · right; have := Int.mul_le_mul_of_nonneg_right h (show 0 ≤ z by omega); omega
    rw [absR rX, absR rY]
    rcases nz with h | h
    · left; have := far X h; rw [eX]; split <;> omega
    · right; have := far Y h; rw [eY]; split <;> omega
  have out : ∀ j, j < n → lenF dx dy ≠ 0 ∧ addF (mulF (divF dy (lenF dx dy)) (subF (grid x y k j).1 (grid x y k i).1)) (mulF (divF (-dx) (lenF dx dy)) (subF (grid x y k j).2 (grid x y k i).2)) ≤ 4294967 := fun j hj => by
    have xj := g.xb j hj; have yj := g.yb j hj
    have fE : subF (grid x y k j).1 (grid x y k i).1 = (x j - x i) * z := by unfold grid; simp only [ez]; exact sub_grid hz xj xi
    have fF : subF (grid x y k j).2 (grid x y k i).2 = (y j - y i) * z := by unfold grid; simp only [ez]; exact sub_grid hz yj yi
    rw [fE, fF]
    refine dot_out (by omega) (by omega) ?_ ?_ ?_ big
    · have := st_rg hz (a := x j - x i) (by omega) (by omega); omega
    · have := st_rg hz (a := y j - y i) (by omega) (by omega); omega
    · have ic : 0 ≤ X * (y j - y i) - Y * (x j - x i) := by
        by_cases c1 : j = i
        · subst c1; simp
        · by_cases c2 : j = (i + 1) % n
          · rw [c2, hX, hY, Int.mul_comm]; omega
          · have := g.cv i hi j hj c1 c2
            unfold icross at this
            rw [hX, hY] at this; omega
      have e : dx * ((y j - y i) * z) - dy * ((x j - x i) * z) = (X * (y j - y i) - Y * (x j - x i)) * (z * z) := by
        rw [eX, eY, Int.sub_mul (X * (y j - y i)) (Y * (x j - x i)) (z * z)]; congr 1 <;> ac_rfl
      rw [e]
      exact Int.mul_nonneg ic (sq_nn z)
  have len0 := (out i hi).1
  rw [len_turn rX]
  refine ⟨by omega, by omega, len0, ?_, fun j hj => (out j hj).2⟩
  unfold normF uF
  rw [ex, ey, if_neg len0, div_neg rX]
  simp only []
  rw [negR (rg_div _ _)]
end Go.Proofs.YtmdhlobonnikcaaDoor.Fx

/- Grids around the middle: the middle lies to the left of each side. No Go in sight. -/
namespace Go.Proofs.YtmdhlobonnikcaaDoor.Fx
set_option linter.unusedVariables false

/-! ### grids around the middle -/
/-- the middle lies to the left of each side -/
def Round (x y : Nat → Int) (n : Nat) : Prop := ∀ i, i < n → 0 ≤ x i * y ((i + 1) % n) - y i * x ((i + 1) % n)
theorem box_round {a b : Int} (a0 : 1 ≤ a) (b0 : 1 ≤ b) : Round (boxX a) (boxY b) 4 := fun i hi => by
  have p := Int.mul_pos (show 0 < a by omega) (show 0 < b by omega)
  rcases (show i = 0 ∨ i = 1 ∨ i = 2 ∨ i = 3 by omega) with rfl | rfl | rfl | rfl <;>
    (simp only [boxX, boxY, true_or, or_true, if_true, if_false, Nat.reduceAdd, Nat.reduceMod, Nat.reduceEqDiff, or_self, Int.mul_neg, Int.neg_mul, Int.mul_comm b a]; omega)
def roundOk (n t : Nat) : Bool := (List.range n).all fun i => decide (0 ≤ ringX n t i * ringY n t ((i + 1) % n) - ringY n t i * ringX n t ((i + 1) % n))
theorem round_check : (List.range 6).all (fun n => (List.range 10).all fun t => roundOk (3 + n) t) = true := by decide +kernel
theorem ring_round {n : Nat} (t : Nat) (n0 : 3 ≤ n) (n1 : n ≤ 8) : Round (ringX n t) (ringY n t) n := fun i hi => by
  have h := round_check
  rw [List.all_eq_true] at h
  have h1 := h (n - 3) (List.mem_range.2 (by omega))
  rw [List.all_eq_true] at h1
  have h2 := h1 (t % 10) (List.mem_range.2 (Nat.mod_lt _ (by omega)))
  rw [show 3 + (n - 3) = n by omega] at h2
  unfold roundOk at h2
  rw [List.all_eq_true] at h2
  have h3 := h2 i (List.mem_range.2 hi)
  rw [(ring_mod n t).1, (ring_mod n t).2]
  simpa using h3

end Go.Proofs.YtmdhlobonnikcaaDoor.Fx

/- Plain words for masses: areas, and how a shape resists to be spun, of grids, circles and rectangles. No Go in sight. -/
namespace Go.Proofs.YtmdhlobonnikcaaDoor.Fx
set_option linter.unusedVariables false

def crossV (a b : Int × Int) : Int := subF (mulF a.1 b.2) (mulF a.2 b.1)
def dotV (a b : Int × Int) : Int := addF (mulF a.1 b.1) (mulF a.2 b.2)
/-- a side's part of the area -/
def areaT (a b : Int × Int) : Int := divF (crossV a b) 8589934592
/-- a side's part of what resists -/
def roundT (a b : Int × Int) : Int := divF (mulF (crossV a b) (addF (addF (dotV a a) (dotV a b)) (dotV b b))) 51539607552
/-- the first m sides' parts, from the first on -/
def sumT (T : Int × Int → Int × Int → Int) (f : Cs) (n : Nat) : Nat → Int
  | 0 => 0
  | m + 1 => addF (sumT T f n m) (T (f m) (f ((m + 1) % n)))
/-- their plain sum -/
def sumP (T : Int × Int → Int × Int → Int) (f : Cs) (n : Nat) : Nat → Int
  | 0 => 0
  | m + 1 => sumP T f n m + T (f m) (f ((m + 1) % n))
theorem sum_rg (T : Int × Int → Int × Int → Int) (f : Cs) (n : Nat) : ∀ m, Rg (sumT T f n m)
  | 0 => by unfold sumT Rg; omega
  | m + 1 => rg_add _ _
/-- small parts are summed plainly -/
theorem sum_plain {T : Int × Int → Int × Int → Int} {f : Cs} {n : Nat} {B : Int} (hB : B ≤ 1000000000000000000) : ∀ m, m ≤ 8 → (∀ i, i < m → 0 ≤ T (f i) (f ((i + 1) % n)) ∧ T (f i) (f ((i + 1) % n)) ≤ B) →
    sumT T f n m = sumP T f n m ∧ 0 ≤ sumP T f n m ∧ sumP T f n m ≤ B * m
  | 0, _, _ => by simp [sumT, sumP]
  | m + 1, h8, h => by
    obtain ⟨e, h0, h1⟩ := sum_plain hB m (by omega) fun i hi => h i (by omega)
    obtain ⟨t0, t1⟩ := h m (by omega)
    have hb : B * ((m + 1 : Nat) : Int) = B * (m : Int) + B := by rw [Int.natCast_add, Int.mul_add]; simp
    have hm : B * (m : Int) ≤ 8000000000000000000 := by
      rcases (show m = 0 ∨ m = 1 ∨ m = 2 ∨ m = 3 ∨ m = 4 ∨ m = 5 ∨ m = 6 ∨ m = 7 by omega) with rfl | rfl | rfl | rfl | rfl | rfl | rfl | rfl <;> omega
    unfold sumT sumP
    rw [e, hb]
    refine ⟨?_, by omega, by omega⟩
    rw [addR (by unfold Rg; omega) (by unfold Rg; omega), satR (by unfold Rg; omega)]
theorem sum_mono {T : Int × Int → Int × Int → Int} {f g : Cs} {n : Nat} : ∀ m, (∀ i, i < m → T (f i) (f ((i + 1) % n)) ≤ T (g i) (g ((i + 1) % n))) → sumT T f n m ≤ sumT T g n m
  | 0, _ => by simp [sumT]
  | m + 1, h => by
    have a := sum_mono m fun i hi => h i (by omega)
    have b := h m (by omega)
    unfold sumT
    have x := add_le (T (f m) (f ((m + 1) % n))) a
    have y := add_le (sumT T g n m) b
    have e1 : addF (T (f m) (f ((m + 1) % n))) (sumT T g n m) = addF (sumT T g n m) (T (f m) (f ((m + 1) % n))) := by unfold addF; rw [Int.add_comm]
    have e2 : addF (T (g m) (g ((m + 1) % n))) (sumT T g n m) = addF (sumT T g n m) (T (g m) (g ((m + 1) % n))) := by unfold addF; rw [Int.add_comm]
    omega
/-- whichever corner is the first -/
theorem sum_turn {T : Int × Int → Int × Int → Int} {f : Cs} {n : Nat} (n0 : 3 ≤ n) (n1 : n ≤ 8) (t : Nat) : sumP T (fun i => f ((i + t) % n)) n n = sumP T f n n := by
  have e : ∀ i, f ((i + t) % n) = f ((i + t % n) % n) := fun i => by rw [Nat.add_mod_mod]
  have hr : t % n < n := Nat.mod_lt _ (by omega)
  have e' : (fun i => f ((i + t) % n)) = fun i => f ((i + t % n) % n) := by funext i; exact e i
  rw [e']
  generalize t % n = r at *
  rcases (show n = 3 ∨ n = 4 ∨ n = 5 ∨ n = 6 ∨ n = 7 ∨ n = 8 by omega) with rfl | rfl | rfl | rfl | rfl | rfl
  · rcases (show r = 0 ∨ r = 1 ∨ r = 2 by omega) with rfl | rfl | rfl <;> simp only [sumP, Nat.reduceAdd, Nat.reduceMod] <;> omega
  · rcases (show r = 0 ∨ r = 1 ∨ r = 2 ∨ r = 3 by omega) with rfl | rfl | rfl | rfl <;> simp only [sumP, Nat.reduceAdd, Nat.reduceMod] <;> omega
  · rcases (show r = 0 ∨ r = 1 ∨ r = 2 ∨ r = 3 ∨ r = 4 by omega) with rfl | rfl | rfl | rfl | rfl <;> simp only [sumP, Nat.reduceAdd, Nat.reduceMod] <;> omega
  · rcases (show r = 0 ∨ r = 1 ∨ r = 2 ∨ r = 3 ∨ r = 4 ∨ r = 5 by omega) with rfl | rfl | rfl | rfl | rfl | rfl <;> simp only [sumP, Nat.reduceAdd, Nat.reduceMod] <;> omega
  · rcases (show r = 0 ∨ r = 1 ∨ r = 2 ∨ r = 3 ∨ r = 4 ∨ r = 5 ∨ r = 6 by omega) with rfl | rfl | rfl | rfl | rfl | rfl | rfl <;> simp only [sumP, Nat.reduceAdd, Nat.reduceMod] <;> omega
  · rcases (show r = 0 ∨ r = 1 ∨ r = 2 ∨ r = 3 ∨ r = 4 ∨ r = 5 ∨ r = 6 ∨ r = 7 by omega) with rfl | rfl | rfl | rfl | rfl | rfl | rfl | rfl <;> simp only [sumP, Nat.reduceAdd, Nat.reduceMod] <;> omega

section
variable {x y : Nat → Int} {k : Int} {n i l : Nat}
theorem mul_side (g : Grid x y k n) {a b : Int} (ha : -65 ≤ a ∧ a ≤ 65) (hb : -65 ≤ b ∧ b ≤ 65) : mulF (a * (k * 4194304)) (b * (k * 4194304)) = a * b * (k * k * 4096) :=
  (mul_grid g.k0 g.k1 (by omega) (by omega)).1
theorem kk_bd (g : Grid x y k n) : 4096 ≤ k * k * 4096 ∧ k * k * 4096 ≤ 16777216 := by
  have k0 := g.k0; have k1 := g.k1
  have a := prod_in (x := k) (y := k) (X := 64) (Y := 64) (by omega) k1 (by omega) k1
  have b := Int.mul_le_mul k0 k0 (by omega) (by omega)
  omega
theorem ab_bd {a b : Int} (ha : -65 ≤ a ∧ a ≤ 65) (hb : -65 ≤ b ∧ b ≤ 65) : -4225 ≤ a * b ∧ a * b ≤ 4225 := prod_in (X := 65) (Y := 65) ha.1 ha.2 hb.1 hb.2
theorem gg_bd {z c C : Int} (hz : 4096 ≤ z ∧ z ≤ 16777216) (h0 : -C ≤ c) (h1 : c ≤ C) (hC : 0 ≤ C) : -(C * 16777216) ≤ c * z ∧ c * z ≤ C * 16777216 := prod_in (X := C) (Y := 16777216) h0 h1 (by omega) hz.2
/-- the cross of two corners of a grid -/
theorem crossV_grid (g : Grid x y k n) (hi : i < n) (hl : l < n) : crossV (grid x y k i) (grid x y k l) = (x i * y l - y i * x l) * (k * k * 4096) := by
  have z := kk_bd g
  have e1 := ab_bd (g.xb i hi) (g.yb l hl)
  have e2 := ab_bd (g.yb i hi) (g.xb l hl)
  unfold crossV grid
  simp only []
  rw [mul_side g (g.xb i hi) (g.yb l hl), mul_side g (g.yb i hi) (g.xb l hl), Int.sub_mul]
  have b1 := gg_bd z e1.1 e1.2 (by omega)
  have b2 := gg_bd z e2.1 e2.2 (by omega)
  exact sub_exact (by unfold Rg; omega) (by unfold Rg; omega) (by unfold Rg; omega)
theorem dotV_grid (g : Grid x y k n) (hi : i < n) (hl : l < n) : dotV (grid x y k i) (grid x y k l) = (x i * x l + y i * y l) * (k * k * 4096) := by
  have z := kk_bd g
  have e1 := ab_bd (g.xb i hi) (g.xb l hl)
  have e2 := ab_bd (g.yb i hi) (g.yb l hl)
  unfold dotV grid
  simp only []
  rw [mul_side g (g.xb i hi) (g.xb l hl), mul_side g (g.yb i hi) (g.yb l hl), Int.add_mul]
  have b1 := gg_bd z e1.1 e1.2 (by omega)
  have b2 := gg_bd z e2.1 e2.2 (by omega)
  rw [addR (by unfold Rg; omega) (by unfold Rg; omega), satR (by unfold Rg; omega)]
theorem form_nn (a b c d : Int) : 0 ≤ a * a + b * b + (a * c + b * d) + (c * c + d * d) := by
  have h1 := sq_nn (a + c)
  have h2 := sq_nn (b + d)
  rw [sq_add] at h1 h2
  have h3 := sq_nn a; have h4 := sq_nn b; have h5 := sq_nn c; have h6 := sq_nn d
  generalize a * c = p at *
  generalize b * d = q at *
  omega
/-- the three dots of a side, together -/
theorem dots_grid (g : Grid x y k n) (hi : i < n) (hl : l < n) :
    addF (addF (dotV (grid x y k i) (grid x y k i)) (dotV (grid x y k i) (grid x y k l))) (dotV (grid x y k l) (grid x y k l)) =
      (x i * x i + y i * y i + (x i * x l + y i * y l) + (x l * x l + y l * y l)) * (k * k * 4096) := by
  have z := kk_bd g
  have e1 := ab_bd (g.xb i hi) (g.xb i hi); have e2 := ab_bd (g.yb i hi) (g.yb i hi)
  have e3 := ab_bd (g.xb i hi) (g.xb l hl); have e4 := ab_bd (g.yb i hi) (g.yb l hl)
  have e5 := ab_bd (g.xb l hl) (g.xb l hl); have e6 := ab_bd (g.yb l hl) (g.yb l hl)
  rw [dotV_grid g hi hi, dotV_grid g hi hl, dotV_grid g hl hl]
  have b1 := gg_bd (C := 8450) z (c := x i * x i + y i * y i) (by omega) (by omega) (by omega)
  have b2 := gg_bd (C := 8450) z (c := x i * x l + y i * y l) (by omega) (by omega) (by omega)
  have b3 := gg_bd (C := 8450) z (c := x l * x l + y l * y l) (by omega) (by omega) (by omega)
  generalize x i * x i + y i * y i = p at *
  generalize x i * x l + y i * y l = q at *
  generalize x l * x l + y l * y l = s at *
  rw [Int.add_mul (p + q) s, Int.add_mul p q]
  rw [addR (a := p * (k * k * 4096)) (by unfold Rg; omega) (by unfold Rg; omega), satR (by unfold Rg; omega), addR (by unfold Rg; omega) (by unfold Rg; omega), satR (by unfold Rg; omega)]
theorem mul_nn {a b : Int} (ha : Rg a) (hb : Rg b) (h0 : 0 ≤ a) (h1 : 0 ≤ b) : 0 ≤ mulF a b := by
  have := mul_le (a := 0) (b := a) (d := b) (by unfold Rg; omega) ha hb h1 h0
  rw [mul_comm' 0, mul_zero] at this
  exact this
theorem mul_le2 {a b c d : Int} (ha : Rg a) (hb : Rg b) (hc : Rg c) (hd : Rg d) (h0 : 0 ≤ a) (h1 : a ≤ c) (h2 : 0 ≤ b) (h3 : b ≤ d) : mulF a b ≤ mulF c d := by
  have x := mul_le ha hc hb h2 h1
  have y := mul_le hb hd hc (by omega) h3
  rw [mul_comm' b c, mul_comm' d c] at y
  omega
theorem div_nn {a d : Int} (ha : Rg a) (hd : Rg d) (h0 : 0 < d) (h : 0 ≤ a) : 0 ≤ divF a d := by
  have := div_le (a := 0) (b := a) (d := d) (by unfold Rg; omega) ha hd h0 h
  unfold divF at this
  rw [if_pos rfl] at this
  exact this
/-- a side's parts: none is less than nothing, none is great -/
theorem area_bd (g : Grid x y k n) (r : Round x y n) (hi : i < n) : 0 ≤ areaT (grid x y k i) (grid x y k ((i + 1) % n)) ∧ areaT (grid x y k i) (grid x y k ((i + 1) % n)) ≤ 100000000000 := by
  have hl : (i + 1) % n < n := Nat.mod_lt _ (by have := g.n0; omega)
  have c := r i hi
  have z := kk_bd g
  have e1 := ab_bd (g.xb i hi) (g.yb _ hl)
  have e2 := ab_bd (g.yb i hi) (g.xb _ hl)
  unfold areaT
  rw [crossV_grid g hi hl]
  have c1 : x i * y ((i + 1) % n) - y i * x ((i + 1) % n) ≤ 8450 := by omega
  generalize x i * y ((i + 1) % n) - y i * x ((i + 1) % n) = C at *
  have b := gg_bd (C := 8450) z (c := C) (by omega) (by omega) (by omega)
  have b0 : 0 ≤ C * (k * k * 4096) := Int.mul_nonneg c (by omega)
  generalize C * (k * k * 4096) = D at *
  refine ⟨div_nn (by unfold Rg; omega) (by unfold Rg; omega) (by omega) b0, ?_⟩
  rw [div_eq (by unfold Rg; omega) (by unfold Rg; omega) (by omega), absR (by unfold Rg; omega), if_neg (by omega), decide_eq_false (by omega), sign_small _ (by omega)]
  simp only [Bool.false_eq_true, if_false]
  omega
theorem round_bd (g : Grid x y k n) (r : Round x y n) (hi : i < n) : 0 ≤ roundT (grid x y k i) (grid x y k ((i + 1) % n)) ∧ roundT (grid x y k i) (grid x y k ((i + 1) % n)) ≤ 1000000000000000000 := by
  have hl : (i + 1) % n < n := Nat.mod_lt _ (by have := g.n0; omega)
  have c := r i hi
  have z := kk_bd g
  have e1 := ab_bd (g.xb i hi) (g.yb _ hl)
  have e2 := ab_bd (g.yb i hi) (g.xb _ hl)
  have e3 := ab_bd (g.xb i hi) (g.xb i hi); have e4 := ab_bd (g.yb i hi) (g.yb i hi)
  have e5 := ab_bd (g.xb i hi) (g.xb _ hl); have e6 := ab_bd (g.yb i hi) (g.yb _ hl)
  have e7 := ab_bd (g.xb _ hl) (g.xb _ hl); have e8 := ab_bd (g.yb _ hl) (g.yb _ hl)
  have f := form_nn (x i) (y i) (x ((i + 1) % n)) (y ((i + 1) % n))
  unfold roundT
  rw [crossV_grid g hi hl, dots_grid g hi hl]
  have f1 : x i * x i + y i * y i + (x i * x ((i + 1) % n) + y i * y ((i + 1) % n)) + (x ((i + 1) % n) * x ((i + 1) % n) + y ((i + 1) % n) * y ((i + 1) % n)) ≤ 25350 := by omega
  generalize x i * x i + y i * y i + (x i * x ((i + 1) % n) + y i * y ((i + 1) % n)) + (x ((i + 1) % n) * x ((i + 1) % n) + y ((i + 1) % n) * y ((i + 1) % n)) = E at *
  have c1 : x i * y ((i + 1) % n) - y i * x ((i + 1) % n) ≤ 8450 := by omega
  generalize x i * y ((i + 1) % n) - y i * x ((i + 1) % n) = C at *
  have b := gg_bd (C := 8450) z (c := C) (by omega) (by omega) (by omega)
  have b0 : 0 ≤ C * (k * k * 4096) := Int.mul_nonneg c (by omega)
  have d := gg_bd (C := 25350) z (c := E) (by omega) (by omega) (by omega)
  have d0 : 0 ≤ E * (k * k * 4096) := Int.mul_nonneg f (by omega)
  generalize C * (k * k * 4096) = D at *
  generalize E * (k * k * 4096) = K at *
  have rD : Rg D := by unfold Rg; omega
  have rK : Rg K := by unfold Rg; omega
  have m0 := mul_nn rD rK b0 d0
  have m1 : mulF D K ≤ 18446744073709551616 := by have := rg_mul D K; unfold Rg at this; omega
  have p := prod_in (x := D) (y := K) (X := 141767475200) (Y := 425302425600) (by omega) (by omega) (by omega) (by omega)
  have m2 : mulF D K ≤ 14038394937937 + 1 := by
    have := (mul_near (a := D) (b := K) (by unfold Sm; omega) (by unfold Sm; omega)).2
    omega
  generalize mulF D K = m at *
  refine ⟨div_nn (by unfold Rg; omega) (by unfold Rg; omega) (by omega) m0, ?_⟩
  rw [div_eq (by unfold Rg; omega) (by unfold Rg; omega) (by omega), absR (by unfold Rg; omega), if_neg (by omega), decide_eq_false (by omega), sign_small _ (by omega)]
  simp only [Bool.false_eq_true, if_false]
  omega
/-- twice as great -/
def twice (f : Cs) : Cs := fun i => (2 * (f i).1, 2 * (f i).2)
theorem mul_twice (g : Grid x y k n) {a b : Int} (ha : -65 ≤ a ∧ a ≤ 65) (hb : -65 ≤ b ∧ b ≤ 65) : mulF (2 * (a * (k * 4194304))) (2 * (b * (k * 4194304))) = 4 * (a * b * (k * k * 4096)) := by
  have z := kk_bd g
  have e := ab_bd ha hb
  have b1 := gg_bd z e.1 e.2 (by omega)
  have r1 := st_rg (st_of g.k0 g.k1) (a := a) (by omega) (by omega)
  have r2 := st_rg (st_of g.k0 g.k1) (a := b) (by omega) (by omega)
  refine mul_exact (by unfold Rg; omega) (by unfold Rg; omega) (by unfold Rg; omega) ?_
  have e0 : ∀ w : Int, 2 * (a * (k * w)) * (2 * (b * (k * w))) = 2 * 2 * (a * b * (k * k) * (w * w)) := fun w => by ac_rfl
  rw [e0, show a * b * (k * k * 4096) = a * b * (k * k) * 4096 from (Int.mul_assoc _ _ _).symm]
  omega
theorem crossV_twice (g : Grid x y k n) (hi : i < n) (hl : l < n) : crossV (twice (grid x y k) i) (twice (grid x y k) l) = 4 * crossV (grid x y k i) (grid x y k l) := by
  have z := kk_bd g
  have e1 := ab_bd (g.xb i hi) (g.yb l hl)
  have e2 := ab_bd (g.yb i hi) (g.xb l hl)
  rw [crossV_grid g hi hl, Int.sub_mul]
  unfold crossV twice grid
  simp only []
  rw [mul_twice g (g.xb i hi) (g.yb l hl), mul_twice g (g.yb i hi) (g.xb l hl)]
  have b1 := gg_bd z e1.1 e1.2 (by omega)
  have b2 := gg_bd z e2.1 e2.2 (by omega)
  rw [sub_exact (by unfold Rg; omega) (by unfold Rg; omega) (by unfold Rg; omega)]
  omega
theorem dotV_twice (g : Grid x y k n) (hi : i < n) (hl : l < n) : dotV (twice (grid x y k) i) (twice (grid x y k) l) = 4 * dotV (grid x y k i) (grid x y k l) := by
  have z := kk_bd g
  have e1 := ab_bd (g.xb i hi) (g.xb l hl)
  have e2 := ab_bd (g.yb i hi) (g.yb l hl)
  rw [dotV_grid g hi hl, Int.add_mul]
  unfold dotV twice grid
  simp only []
  rw [mul_twice g (g.xb i hi) (g.xb l hl), mul_twice g (g.yb i hi) (g.yb l hl)]
  have b1 := gg_bd z e1.1 e1.2 (by omega)
  have b2 := gg_bd z e2.1 e2.2 (by omega)
  rw [addR (by unfold Rg; omega) (by unfold Rg; omega), satR (by unfold Rg; omega)]
  omega
theorem area_twice (g : Grid x y k n) (r : Round x y n) (hi : i < n) : areaT (grid x y k i) (grid x y k ((i + 1) % n)) ≤ areaT (twice (grid x y k) i) (twice (grid x y k) ((i + 1) % n)) := by
  have hl : (i + 1) % n < n := Nat.mod_lt _ (by have := g.n0; omega)
  have c := r i hi
  have z := kk_bd g
  have e1 := ab_bd (g.xb i hi) (g.yb _ hl)
  have e2 := ab_bd (g.yb i hi) (g.xb _ hl)
  unfold areaT
  rw [crossV_twice g hi hl, crossV_grid g hi hl]
  have c1 : x i * y ((i + 1) % n) - y i * x ((i + 1) % n) ≤ 8450 := by omega
  generalize x i * y ((i + 1) % n) - y i * x ((i + 1) % n) = C at *
  have b := gg_bd (C := 8450) z (c := C) (by omega) (by omega) (by omega)
  have b0 : 0 ≤ C * (k * k * 4096) := Int.mul_nonneg c (by omega)
  exact div_le (by unfold Rg; omega) (by unfold Rg; omega) (by unfold Rg; omega) (by omega) (by omega)
theorem round_twice (g : Grid x y k n) (r : Round x y n) (hi : i < n) : roundT (grid x y k i) (grid x y k ((i + 1) % n)) ≤ roundT (twice (grid x y k) i) (twice (grid x y k) ((i + 1) % n)) := by
  have hl : (i + 1) % n < n := Nat.mod_lt _ (by have := g.n0; omega)
  have c := r i hi
  have z := kk_bd g
  have e1 := ab_bd (g.xb i hi) (g.yb _ hl)
  have e2 := ab_bd (g.yb i hi) (g.xb _ hl)
  have e3 := ab_bd (g.xb i hi) (g.xb i hi); have e4 := ab_bd (g.yb i hi) (g.yb i hi)
  have e5 := ab_bd (g.xb i hi) (g.xb _ hl); have e6 := ab_bd (g.yb i hi) (g.yb _ hl)
  have e7 := ab_bd (g.xb _ hl) (g.xb _ hl); have e8 := ab_bd (g.yb _ hl) (g.yb _ hl)
  have f := form_nn (x i) (y i) (x ((i + 1) % n)) (y ((i + 1) % n))
  have dd : addF (addF (dotV (twice (grid x y k) i) (twice (grid x y k) i)) (dotV (twice (grid x y k) i) (twice (grid x y k) ((i + 1) % n)))) (dotV (twice (grid x y k) ((i + 1) % n)) (twice (grid x y k) ((i + 1) % n))) =
      4 * addF (addF (dotV (grid x y k i) (grid x y k i)) (dotV (grid x y k i) (grid x y k ((i + 1) % n)))) (dotV (grid x y k ((i + 1) % n)) (grid x y k ((i + 1) % n))) := by
    rw [dotV_twice g hi hi, dotV_twice g hi hl, dotV_twice g hl hl, dotV_grid g hi hi, dotV_grid g hi hl, dotV_grid g hl hl]
    have b1 := gg_bd (C := 8450) z (c := x i * x i + y i * y i) (by omega) (by omega) (by omega)
    have b2 := gg_bd (C := 8450) z (c := x i * x ((i + 1) % n) + y i * y ((i + 1) % n)) (by omega) (by omega) (by omega)
    have b3 := gg_bd (C := 8450) z (c := x ((i + 1) % n) * x ((i + 1) % n) + y ((i + 1) % n) * y ((i + 1) % n)) (by omega) (by omega) (by omega)
    generalize (x i * x i + y i * y i) * (k * k * 4096) = p at *
    generalize (x i * x ((i + 1) % n) + y i * y ((i + 1) % n)) * (k * k * 4096) = q at *
    generalize (x ((i + 1) % n) * x ((i + 1) % n) + y ((i + 1) % n) * y ((i + 1) % n)) * (k * k * 4096) = s at *
    rw [addR (a := 4 * p) (by unfold Rg; omega) (by unfold Rg; omega), satR (a := 4 * p + 4 * q) (by unfold Rg; omega), addR (a := 4 * p + 4 * q) (by unfold Rg; omega) (by unfold Rg; omega), satR (a := 4 * p + 4 * q + 4 * s) (by unfold Rg; omega),
      addR (a := p) (by unfold Rg; omega) (by unfold Rg; omega), satR (a := p + q) (by unfold Rg; omega), addR (a := p + q) (by unfold Rg; omega) (by unfold Rg; omega), satR (a := p + q + s) (by unfold Rg; omega)]
    omega
  unfold roundT
  rw [dd, crossV_twice g hi hl, crossV_grid g hi hl, dots_grid g hi hl]
  have f1 : x i * x i + y i * y i + (x i * x ((i + 1) % n) + y i * y ((i + 1) % n)) + (x ((i + 1) % n) * x ((i + 1) % n) + y ((i + 1) % n) * y ((i + 1) % n)) ≤ 25350 := by omega
  generalize x i * x i + y i * y i + (x i * x ((i + 1) % n) + y i * y ((i + 1) % n)) + (x ((i + 1) % n) * x ((i + 1) % n) + y ((i + 1) % n) * y ((i + 1) % n)) = E at *
  have c1 : x i * y ((i + 1) % n) - y i * x ((i + 1) % n) ≤ 8450 := by omega
  generalize x i * y ((i + 1) % n) - y i * x ((i + 1) % n) = C at *
  have b := gg_bd (C := 8450) z (c := C) (by omega) (by omega) (by omega)
  have b0 : 0 ≤ C * (k * k * 4096) := Int.mul_nonneg c (by omega)
  have d := gg_bd (C := 25350) z (c := E) (by omega) (by omega) (by omega)
  have d0 : 0 ≤ E * (k * k * 4096) := Int.mul_nonneg f (by omega)
  generalize C * (k * k * 4096) = D at *
  generalize E * (k * k * 4096) = K at *
  exact div_le (rg_mul _ _) (rg_mul _ _) (by unfold Rg; omega) (by omega) (mul_le2 (by unfold Rg; omega) (by unfold Rg; omega) (by unfold Rg; omega) (by unfold Rg; omega) (by omega) (by omega) (by omega) (by omega))
end
end Go.Proofs.YtmdhlobonnikcaaDoor.Fx
