/- The plain arithmetic of fixed-point numbers: no Go in sight. -/
namespace Go.Proofs.Ytekcehhoimhjeaa.Fx

/-- the least number -/
def L : Int := -9223372036854775807
/-- the most number -/
def M : Int := 9223372036854775807
theorem L_eq : L = -9223372036854775807 := rfl
theorem M_eq : M = 9223372036854775807 := rfl
/-- a number of 64 bits -/
def I64 (a : Int) : Prop := -9223372036854775808 ≤ a ∧ a ≤ 9223372036854775807
def cl (a : Int) : Int := if a < -9223372036854775807 then -9223372036854775807 else a
theorem cl_bd {a : Int} (h : I64 a) : L ≤ cl a ∧ cl a ≤ M := by
  unfold cl L M I64 at *; split <;> omega
/-- brought to the range -/
def sat (a : Int) : Int := if a < -9223372036854775807 then -9223372036854775807 else if 9223372036854775807 < a then 9223372036854775807 else a
theorem sat_bd (a : Int) : L ≤ sat a ∧ sat a ≤ M := by
  unfold sat L M; split
  · omega
  · split <;> omega
theorem sat_in {a : Int} (h0 : L ≤ a) (h1 : a ≤ M) : sat a = a := by
  unfold sat L M at *; rw [if_neg (by omega), if_neg (by omega)]
def addF (a b : Int) : Int := sat (cl a + cl b)
def negF (a : Int) : Int := - cl a
def subF (a b : Int) : Int := addF a (negF b)
def absF (a : Int) : Int := if a < 0 then negF a else a
theorem absF_bd {a : Int} (h : I64 a) : 0 ≤ absF a ∧ absF a ≤ M := by
  unfold absF negF cl I64 M at *; split
  · split <;> omega
  · omega
/-- a size with a sign, brought -/
def signF (n : Int) (t : Bool) : Int := if t then -(if n < 9223372036854775807 then n else 9223372036854775807) else (if n < 9223372036854775807 then n else 9223372036854775807)
def mulF (a b : Int) : Int := signF (absF a * absF b / 4294967296) (decide (a < 0) != decide (b < 0))
def ofF (n : Int) : Int := if 2147483647 < n then 9223372036854775807 else if n < -2147483647 then -9223372036854775807 else n * 4294967296
def bringF (a b c : Int) : Int := if cl a < cl b then cl b else if cl c < cl a then cl c else cl a
def divF (a b : Int) : Int := if a = 0 then 0 else signF (if absF b = 0 then 9223372036854775807 else absF a * 4294967296 / absF b) (decide (a < 0) != decide (b < 0))
def partF (n d : Int) : Int := divF (ofF n) (ofF d)
/-- a root, bit by bit: k bits are still to come -/
def sqAux (P : Int) : Nat → Int → Int
  | 0, r => r
  | k + 1, r => if (r + 2 ^ k) * (r + 2 ^ k) ≤ P then sqAux P k (r + 2 ^ k) else sqAux P k r
def sqrtF (a : Int) : Int := if a ≤ 0 then 0 else sqAux (a * 4294967296) 48 0
theorem I64_of (n : Int) : I64 (ofF n) := by unfold I64 ofF; split <;> (try split) <;> omega
end Go.Proofs.Ytekcehhoimhjeaa.Fx
