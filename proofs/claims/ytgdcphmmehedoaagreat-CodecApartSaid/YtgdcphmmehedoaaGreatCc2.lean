/- Plain SwP SwW Fixes TurnA TurnP TurnB -/
import Derived.Test.YtgdcphmmehedoaaGreatCc0
import Derived.Test.YtgdcphmmehedoaaGreatRows
import Derived.WalkKit
import Derived.ProofKit
import Derived.OpenShut
import Derived.Outline
import Derived.Lib.Mul64
import Derived.Laws.Bits64b
import Derived.Lib.Strings
import Derived.Lib.Slices
import Derived.Lib.Small
import Derived.Lib.Walk
import Derived.Lib.BitFns
import Derived.Deep.QuietTactic
import Derived.BigQuiet
import Derived.LoopTactic
import Derived.Great.BuildSlice
import Derived.Great.Walk
import Derived.Deep.DeepCutAuto
set_option maxRecDepth 100000
set_option maxHeartbeats 64000000
/- Plain words: numbers, turns, vectors, shapes, masses. No Go in sight. -/
/- The plain arithmetic of fixed-point numbers: no Go in sight. -/
namespace Go.Proofs.YtgdcphmmehedoaaGreat.Fx
def L : Int := -9223372036854775807
def M : Int := 9223372036854775807
def I64 (a : Int) : Prop := -9223372036854775808 ≤ a ∧ a ≤ 9223372036854775807
def cl (a : Int) : Int := if a < -9223372036854775807 then -9223372036854775807 else a
theorem cl_bd {a : Int} (h : I64 a) : L ≤ cl a ∧ cl a ≤ M := by
 unfold cl L M I64 at *; split <;> omega
def sat (a : Int) : Int := if a < -9223372036854775807 then -9223372036854775807 else if 9223372036854775807 < a then 9223372036854775807 else a
def addF (a b : Int) : Int := sat (cl a + cl b)
def negF (a : Int) : Int := - cl a
def subF (a b : Int) : Int := addF a (negF b)
def absF (a : Int) : Int := if a < 0 then negF a else a
theorem absF_bd {a : Int} (h : I64 a) : 0 ≤ absF a ∧ absF a ≤ M := by
 unfold absF negF cl I64 M at *; split
 ·split <;> omega
 ·omega
def signF (n : Int) (t : Bool) : Int := if t then -(if n < 9223372036854775807 then n else 9223372036854775807) else (if n < 9223372036854775807 then n else 9223372036854775807)
def mulF (a b : Int) : Int := signF (absF a * absF b / 4294967296) (decide (a < 0) != decide (b < 0))
def ofF (n : Int) : Int := if 2147483647 < n then 9223372036854775807 else if n < -2147483647 then -9223372036854775807 else n * 4294967296
def bringF (a b c : Int) : Int := if cl a < cl b then cl b else if cl c < cl a then cl c else cl a
def divF (a b : Int) : Int := if a = 0 then 0 else signF (if absF b = 0 then 9223372036854775807 else absF a * 4294967296 / absF b) (decide (a < 0) != decide (b < 0))
def partF (n d : Int) : Int := divF (ofF n) (ofF d)
def sqAux (P : Int) : Nat → Int → Int
 | 0, r => r
 | k + 1, r => if (r + 2 ^ k) * (r + 2 ^ k) ≤ P then sqAux P k (r + 2 ^ k) else sqAux P k r
def sqrtF (a : Int) : Int := if a ≤ 0 then 0 else sqAux (a * 4294967296) 48 0
end Go.Proofs.YtgdcphmmehedoaaGreat.Fx
/- The plain laws of fixed-point numbers: no Go in sight. -/
namespace Go.Proofs.YtgdcphmmehedoaaGreat.Fx
set_option linter.unusedVariables false
def Rg (a : Int) : Prop := -9223372036854775807 ≤ a ∧ a ≤ 9223372036854775807
theorem absR {a : Int} (h : Rg a) : absF a = if a < 0 then -a else a := by
 unfold absF negF cl Rg at *
 split
 ·rw [if_neg (by omega)]
 ·rfl
theorem absR_bd {a : Int} (h : Rg a) : 0 ≤ absF a ∧ absF a ≤ 9223372036854775807 := by
 rw [absR h]; unfold Rg at h; split <;> omega
theorem sign_zero (t : Bool) : signF 0 t = 0 := by cases t <;> decide
theorem sign_abs {a : Int} (h : Rg a) : signF (absF a) (decide (a < 0)) = a := by
 have hb := absR_bd h
 have e : signF (absF a) (decide (a < 0)) = if a < 0 then - absF a else absF a := by
  unfold signF
  by_cases c : a < 0
  ·rw [decide_eq_true c, if_pos rfl, if_pos c]; split <;> omega
  ·rw [decide_eq_false c, if_neg (by simp), if_neg c]; split <;> omega
 rw [e, absR h]; (repeat' split) <;> omega
theorem mul_one {a : Int} (h : Rg a) : mulF a 4294967296 = a := by
 have e : absF 4294967296 = 4294967296 := by decide
 unfold mulF
 rw [e, Int.mul_ediv_cancel _ (by omega)]
 have : decide ((4294967296 : Int) < 0) = false := by decide
 rw [this, Bool.bne_false]
 exact sign_abs h
theorem mul_zero (a : Int) : mulF a 0 = 0 := by
 have e : absF 0 = 0 := by decide
 unfold mulF; rw [e, Int.mul_zero]; exact sign_zero _
theorem Rg_neg {a : Int} (h : Rg a) : Rg (-a) := by unfold Rg at *; omega
theorem clR {a : Int} (h : Rg a) : cl a = a := by unfold cl Rg at *; rw [if_neg (by omega)]
theorem addR {a b : Int} (ha : Rg a) (hb : Rg b) : addF a b = sat (a + b) := by unfold addF; rw [clR ha, clR hb]
theorem satR {a : Int} (h : Rg a) : sat a = a := by unfold sat Rg at *; rw [if_neg (by omega), if_neg (by omega)]
theorem add_zero {a : Int} (h : Rg a) : addF a 0 = a := by
 rw [addR h (by unfold Rg; omega), Int.add_zero, satR h]
theorem negR {a : Int} (h : Rg a) : negF a = -a := by unfold negF; rw [clR h]
theorem sub_self {a : Int} (h : Rg a) : subF a a = 0 := by
 unfold subF
 rw [negR h, addR h (Rg_neg h), show a + -a = 0 from by omega]; decide
end Go.Proofs.YtgdcphmmehedoaaGreat.Fx
/- The plain laws of fixed-point numbers: what comes back. -/
namespace Go.Proofs.YtgdcphmmehedoaaGreat.Fx
set_option linter.unusedVariables false
theorem sign_small {n : Int} (t : Bool) (h1 : n ≤ 9223372036854775807) : signF n t = if t then -n else n := by
 unfold signF; cases t <;> simp <;> omega
def Sm (a : Int) : Prop := -70368744177664 < a ∧ a < 70368744177664
end Go.Proofs.YtgdcphmmehedoaaGreat.Fx
/- The table of sines, plain: the numbers of the program's own table. -/
namespace Go.Proofs.YtgdcphmmehedoaaGreat.Fx
def tabL : List Int := [0, 26353424, 52705856, 79056303, 105403774, 131747276, 158085819, 184418409, 210744057, 237061769, 263370557, 289669429,
 315957395, 342233465, 368496651, 394745962, 420980412, 447199012, 473400776, 499584716, 525749847, 551895183, 578019742, 604122538,
 630202589, 656258914, 682290530, 708296459, 734275721, 760227338, 786150333, 812043729, 837906553, 863737830, 889536587, 915301854,
 941032661, 966728038, 992387019, 1018008636, 1043591926, 1069135926, 1094639673, 1120102207, 1145522571, 1170899806, 1196232957, 1221521071,
 1246763195, 1271958380, 1297105676, 1322204136, 1347252816, 1372250773, 1397197066, 1422090755, 1446930903, 1471716574, 1496446837, 1521120759,
 1545737412, 1570295869, 1594795204, 1619234497, 1643612827, 1667929275, 1692182927, 1716372869, 1740498191, 1764557983, 1788551342, 1812477362,
 1836335144, 1860123788, 1883842400, 1907490086, 1931065957, 1954569124, 1977998702, 2001353810, 2024633568, 2047837100, 2070963532, 2094011993,
 2116981616, 2139871536, 2162680890, 2185408821, 2208054473, 2230616993, 2253095531, 2275489241, 2297797281, 2320018810, 2342152991, 2364198992,
 2386155981, 2408023134, 2429799626, 2451484637, 2473077351, 2494576955, 2515982640, 2537293599, 2558509031, 2579628136, 2600650120, 2621574191,
 2642399561, 2663125446, 2683751066, 2704275644, 2724698408, 2745018589, 2765235421, 2785348143, 2805355999, 2825258235, 2845054101, 2864742853,
 2884323748, 2903796051, 2923159027, 2942411948, 2961554089, 2980584729, 2999503152, 3018308645, 3037000500, 3055578014, 3074040487, 3092387225,
 3110617535, 3128730733, 3146726136, 3164603066, 3182360851, 3199998822, 3217516315, 3234912670, 3252187232, 3269339351, 3286368382, 3303273682,
 3320054617, 3336710553, 3353240863, 3369644927, 3385922125, 3402071844, 3418093478, 3433986423, 3449750080, 3465383855, 3480887161, 3496259414,
 3511500034, 3526608449, 3541584088, 3556426389, 3571134792, 3585708745, 3600147697, 3614451106, 3628618433, 3642649144, 3656542712, 3670298613,
 3683916329, 3697395348, 3710735162, 3723935269, 3736995171, 3749914379, 3762692404, 3775328765, 3787822988, 3800174601, 3812383140, 3824448145,
 3836369162, 3848145741, 3859777440, 3871263820, 3882604450, 3893798902, 3904846754, 3915747591, 3926501002, 3937106583, 3947563934, 3957872662,
 3968032378, 3978042699, 3987903250, 3997613658, 4007173558, 4016582591, 4025840401, 4034946641, 4043900968, 4052703044, 4061352537, 4069849124,
 4078192482, 4086382299, 4094418266, 4102300081, 4110027446, 4117600071, 4125017671, 4132279966, 4139386683, 4146337555, 4153132319, 4159770720,
 4166252509, 4172577440, 4178745276, 4184755784, 4190608739, 4196303920, 4201841112, 4207220108, 4212440704, 4217502704, 4222405917, 4227150159,
 4231735252, 4236161021, 4240427302, 4244533933, 4248480760, 4252267634, 4255894413, 4259360959, 4262667143, 4265812840, 4268797931, 4271622305,
 4274285855, 4276788480, 4279130086, 4281310585, 4283329896, 4285187942, 4286884652, 4288419964, 4289793820, 4291006167, 4292056960, 4292946160,
 4293673732, 4294239650, 4294643893, 4294886444, 4294967296]
def tabF (n : Int) : Int := if n < 0 ∨ 257 ≤ n then 0 else tabL.getD n.toNat 0
theorem tabF_in {n : Int} (h0 : 0 ≤ n) (h1 : n < 257) : tabF n = tabL.getD n.toNat 0 := by unfold tabF; rw [if_neg (by omega)]
theorem tabL_len : tabL.length = 257 := by decide +kernel
end Go.Proofs.YtgdcphmmehedoaaGreat.Fx
/- Plain words for vectors: bounds of what the calls answer. -/
namespace Go.Proofs.YtgdcphmmehedoaaGreat.Fx
set_option linter.unusedVariables false
theorem i64_rg {a : Int} (h : Rg a) : I64 a := by unfold Rg I64 at *; omega
theorem absF_nn (a : Int) : 0 ≤ absF a := by unfold absF negF cl; (repeat' split) <;> omega
theorem rg_sign {n : Int} (t : Bool) (h : 0 ≤ n) : Rg (signF n t) := by unfold signF Rg; (repeat' split) <;> omega
theorem rg_mul (a b : Int) : Rg (mulF a b) := by
 unfold mulF; exact rg_sign _ (Int.ediv_nonneg (Int.mul_nonneg (absF_nn _) (absF_nn _)) (by omega))
theorem rg_div (a b : Int) : Rg (divF a b) := by
 unfold divF; split
 ·unfold Rg; omega
 ·refine rg_sign _ ?_
  split
  ·omega
  ·have := absF_nn b
   exact Int.ediv_nonneg (Int.mul_nonneg (absF_nn _) (by omega)) this
theorem rg_sat (a : Int) : Rg (sat a) := by unfold sat Rg; (repeat' split) <;> omega
theorem rg_add (a b : Int) : Rg (addF a b) := rg_sat _
theorem rg_sub (a b : Int) : Rg (subF a b) := rg_sat _
theorem sqAux_bd (P : Int) : ∀ (k : Nat) (r : Int), r ≤ sqAux P k r ∧ sqAux P k r < r + 2 ^ k
 | 0, r => by simp [sqAux]; omega
 | k + 1, r => by
  have hp : (0 : Int) < 2 ^ k := Int.pow_pos (by omega)
  have e : (2 : Int) ^ (k + 1) = 2 ^ k + 2 ^ k := by rw [Int.pow_succ]; omega
  have h1 := sqAux_bd P k (r + 2 ^ k)
  have h2 := sqAux_bd P k r
  rw [sqAux, e]; split <;> omega
theorem sqrt_bd (a : Int) : 0 ≤ sqrtF a ∧ sqrtF a < 281474976710656 := by
 unfold sqrtF; split
 ·omega
 ·have := sqAux_bd (a * 4294967296) 48 0
  have e : (2 : Int) ^ 48 = 281474976710656 := by decide
  rw [e] at this; omega
theorem i64_mul (a b : Int) : I64 (mulF a b) := i64_rg (rg_mul a b)
theorem i64_div (a b : Int) : I64 (divF a b) := i64_rg (rg_div a b)
theorem i64_add (a b : Int) : I64 (addF a b) := i64_rg (rg_add a b)
theorem i64_sub (a b : Int) : I64 (subF a b) := i64_rg (rg_sub a b)
theorem i64_sqrt (a : Int) : I64 (sqrtF a) := by have := sqrt_bd a; unfold I64; omega
theorem i64_neg {a : Int} (h : I64 a) : I64 (negF a) := by have := cl_bd h; unfold negF I64 L M at *; omega
def lenF (a b : Int) : Int := sqrtF (addF (mulF a a) (mulF b b))
end Go.Proofs.YtgdcphmmehedoaaGreat.Fx
/- Lengths, plain: what a length says of the squares, and a unit vector's length. -/
namespace Go.Proofs.YtgdcphmmehedoaaGreat.Fx
set_option linter.unusedVariables false
theorem sq_nn (x : Int) : 0 ≤ x * x := by
 rcases Int.le_total 0 x with h | h
 ·exact Int.mul_nonneg h h
 ·have := Int.mul_nonneg (a := -x) (b := -x) (by omega) (by omega)
  rw [Int.neg_mul_neg] at this; exact this
theorem prod_in {x y X Y : Int} (hx0 : -X ≤ x) (hx1 : x ≤ X) (hy0 : -Y ≤ y) (hy1 : y ≤ Y) : -(X * Y) ≤ x * y ∧ x * y ≤ X * Y := by
 rcases Int.le_total 0 x with h | h
 ·have a1 : x * y ≤ x * Y := Int.mul_le_mul_of_nonneg_left hy1 h
  have a2 : x * (-Y) ≤ x * y := Int.mul_le_mul_of_nonneg_left hy0 h
  have a3 : x * Y ≤ X * Y := Int.mul_le_mul_of_nonneg_right hx1 (by omega)
  rw [Int.mul_neg] at a2
  omega
 ·have a1 : (-x) * y ≤ (-x) * Y := Int.mul_le_mul_of_nonneg_left hy1 (by omega)
  have a2 : (-x) * (-Y) ≤ (-x) * y := Int.mul_le_mul_of_nonneg_left hy0 (by omega)
  have a3 : (-x) * Y ≤ X * Y := Int.mul_le_mul_of_nonneg_right (by omega) (by omega)
  rw [Int.neg_mul_neg] at a2
  rw [Int.neg_mul] at a1 a2 a3
  rw [Int.neg_mul] at a1
  omega
end Go.Proofs.YtgdcphmmehedoaaGreat.Fx
/- Lengths, plain: a length against its parts, and the way along two others. -/
namespace Go.Proofs.YtgdcphmmehedoaaGreat.Fx
set_option linter.unusedVariables false
end Go.Proofs.YtgdcphmmehedoaaGreat.Fx
/- Plain words for shapes: corners by a function, what a shape must keep. No Go in sight. -/
namespace Go.Proofs.YtgdcphmmehedoaaGreat.Fx
set_option linter.unusedVariables false
abbrev Cs := Nat → Int × Int
def crossF (f : Cs) (i k j : Nat) : Int :=
 subF (mulF (subF (f k).1 (f i).1) (subF (f j).2 (f i).2)) (mulF (subF (f k).2 (f i).2) (subF (f j).1 (f i).1))
def NearP (p : Int × Int) : Prop := (-274877906944 ≤ p.1 ∧ p.1 ≤ 274877906944) ∧ (-274877906944 ≤ p.2 ∧ p.2 ≤ 274877906944)
def CvxP (f : Cs) (n : Nat) : Prop := ∀ i, i < n → ∀ j, j < n → j ≠ i → j ≠ (i + 1) % n → 0 < crossF f i ((i + 1) % n) j
def RightP (K R : Int) (n : Nat) (f : Cs) : Prop :=
 (K = 1 ∧ n = 0 ∧ 16777216 ≤ R ∧ R ≤ 274877906944) ∨ (K = 2 ∧ R = 0 ∧ 3 ≤ n ∧ n ≤ 8 ∧ (∀ i, i < n → NearP (f i)) ∧ CvxP f n)
theorem cvx_on {f : Cs} {n : Nat} (h3 : 3 ≤ n) (h8 : n ≤ 8) : CvxP f n ↔ ∀ i, i < n → ∀ on, 2 ≤ on → on < n → 0 < crossF f i ((i + 1) % n) ((i + on) % n) := by
 constructor
 ·intro h i hi on h2 hn
  refine h i hi _ (Nat.mod_lt _ (by omega)) ?_ ?_
  ·rcases (show n = 3 ∨ n = 4 ∨ n = 5 ∨ n = 6 ∨ n = 7 ∨ n = 8 by omega) with rfl | rfl | rfl | rfl | rfl | rfl <;> omega
  ·rcases (show n = 3 ∨ n = 4 ∨ n = 5 ∨ n = 6 ∨ n = 7 ∨ n = 8 by omega) with rfl | rfl | rfl | rfl | rfl | rfl <;> omega
 ·intro h i hi j hj h1 h2
  have e : ∃ on, 2 ≤ on ∧ on < n ∧ (i + on) % n = j := by
   refine ⟨(j + n - i) % n, ?_, Nat.mod_lt _ (by omega), ?_⟩ <;>
   rcases (show n = 3 ∨ n = 4 ∨ n = 5 ∨ n = 6 ∨ n = 7 ∨ n = 8 by omega) with rfl | rfl | rfl | rfl | rfl | rfl <;> omega
  obtain ⟨on, a, b, rfl⟩ := e
  exact h i hi on a b
theorem near_bring {x : Int} (h : I64 x) : bringF x (negF 274877906944) 274877906944 = x ↔ (-274877906944 ≤ x ∧ x ≤ 274877906944) := by
 have e : negF 274877906944 = -274877906944 := by decide
 rw [e]; unfold bringF cl I64 at *
 constructor
 ·intro h1; revert h1; (repeat' split) <;> omega
 ·intro h1; (repeat' split) <;> omega
def Top (f : Cs) (n : Nat) (r : Int) : Prop := 0 ≤ r ∧ (∀ i, i < n → lenF (f i).1 (f i).2 ≤ r) ∧ (r = 0 ∨ ∃ i, i < n ∧ r = lenF (f i).1 (f i).2)
end Go.Proofs.YtgdcphmmehedoaaGreat.Fx
/- Plain words for shapes whose corners lie on a grid: boxes, and places of the ring. -/
namespace Go.Proofs.YtgdcphmmehedoaaGreat.Fx
set_option linter.unusedVariables false
def grid (x y : Nat → Int) (k : Int) : Cs := fun i => (x i * (k * 4194304), y i * (k * 4194304))
def icross (x y : Nat → Int) (i k j : Nat) : Int := (x k - x i) * (y j - y i) - (y k - y i) * (x j - x i)
structure Grid (x y : Nat → Int) (k : Int) (n : Nat) : Prop where
 k0 : 1 ≤ k
 k1 : k ≤ 64
 n0 : 3 ≤ n
 n1 : n ≤ 8
 xb : ∀ i, i < n → -65 ≤ x i ∧ x i ≤ 65
 yb : ∀ i, i < n → -65 ≤ y i ∧ y i ≤ 65
 cv : ∀ i, i < n → ∀ j, j < n → j ≠ i → j ≠ (i + 1) % n → 0 < icross x y i ((i + 1) % n) j
theorem mul_exact {a b c : Int} (ha : Rg a) (hb : Rg b) (hc : Rg c) (h : a * b = 4294967296 * c) : mulF a b = c := by
 unfold mulF
 rw [absR ha, absR hb]
 by_cases h0 : a < 0 <;> by_cases h1 : b < 0 <;> simp only [h0, h1, if_true, if_false, decide_true, decide_false, bne_self_eq_false, Bool.true_bne, Bool.false_bne, Bool.not_false]
 ·have e : -a * -b = 4294967296 * c := by rw [Int.neg_mul_neg]; exact h
  have p : 0 < a * b := Int.mul_pos_of_neg_of_neg h0 h1
  rw [e, Int.mul_ediv_cancel_left c (by omega), sign_small false (by unfold Rg at hc; omega)]; simp
 ·have e : -a * b = 4294967296 * (-c) := by rw [Int.neg_mul, h]; omega
  rw [e, Int.mul_ediv_cancel_left _ (by omega), sign_small true (by unfold Rg at hc; omega)]; simp
 ·have e : a * -b = 4294967296 * (-c) := by rw [Int.mul_neg, h]; omega
  rw [e, Int.mul_ediv_cancel_left _ (by omega), sign_small true (by unfold Rg at hc; omega)]; simp
 ·rw [h, Int.mul_ediv_cancel_left c (by omega), sign_small false (by unfold Rg at hc; omega)]; simp
theorem sub_exact {a b : Int} (ha : Rg a) (hb : Rg b) (h : Rg (a - b)) : subF a b = a - b := by
 unfold subF
 rw [negR hb, addR ha (Rg_neg hb), satR (by rw [← Int.sub_eq_add_neg]; exact h), Int.sub_eq_add_neg]
def St (z : Int) : Prop := 4194304 ≤ z ∧ z ≤ 268435456
theorem st_of {k : Int} (h0 : 1 ≤ k) (h1 : k ≤ 64) : St (k * 4194304) := by unfold St; omega
theorem st_mul {z a A : Int} (hz : St z) (h0 : -A ≤ a) (h1 : a ≤ A) (hA : 0 ≤ A) : -(268435456 * A) ≤ a * z ∧ a * z ≤ 268435456 * A := by
 have h := prod_in (x := a) (y := z) (X := A) (Y := 268435456) h0 h1 (by unfold St at hz; omega) hz.2
 rw [Int.mul_comm 268435456 A]; exact h
theorem st_rg {z a : Int} (hz : St z) (h0 : -200 ≤ a) (h1 : a ≤ 200) : Rg (a * z) ∧ -53687091200 ≤ a * z ∧ a * z ≤ 53687091200 := by
 have h := st_mul hz h0 h1 (by omega)
 unfold Rg; omega
theorem sub_grid {z a b : Int} (hz : St z) (ha : -65 ≤ a ∧ a ≤ 65) (hb : -65 ≤ b ∧ b ≤ 65) : subF (a * z) (b * z) = (a - b) * z := by
 have e : (a - b) * z = a * z - b * z := Int.sub_mul a b z
 rw [sub_exact (st_rg hz (by omega) (by omega)).1 (st_rg hz (by omega) (by omega)).1 (by rw [← e]; exact (st_rg hz (by omega) (by omega)).1), e]
theorem mul_grid {k a b : Int} (h0 : 1 ≤ k) (h1 : k ≤ 64) (ha : -130 ≤ a ∧ a ≤ 130) (hb : -130 ≤ b ∧ b ≤ 130) : mulF (a * (k * 4194304)) (b * (k * 4194304)) = a * b * (k * k * 4096) ∧ -283548057600 ≤ a * b * (k * k * 4096) ∧ a * b * (k * k * 4096) ≤ 283548057600 := by
 have hz := st_of h0 h1
 have kk := prod_in (x := k) (y := k) (X := 64) (Y := 64) (by omega) h1 (by omega) h1
 have k2 := sq_nn k
 have ab := prod_in (x := a) (y := b) (X := 130) (Y := 130) ha.1 ha.2 hb.1 hb.2
 have q := prod_in (x := a * b) (y := k * k * 4096) (X := 16900) (Y := 16777216) (by omega) (by omega) (by omega) (by omega)
 have e : a * (k * 4194304) * (b * (k * 4194304)) = 4294967296 * (a * b * (k * k * 4096)) := by
  have e0 : ∀ z : Int, a * (k * z) * (b * (k * z)) = a * b * (k * k) * (z * z) := fun z => by ac_rfl
  rw [e0, show a * b * (k * k * 4096) = a * b * (k * k) * 4096 from (Int.mul_assoc _ _ _).symm]; omega
 refine ⟨mul_exact (st_rg hz (by omega) (by omega)).1 (st_rg hz (by omega) (by omega)).1 (by unfold Rg; omega) e, by omega, by omega⟩
theorem cross_grid {x y : Nat → Int} {k : Int} {n i l j : Nat} (g : Grid x y k n) (hi : i < n) (hl : l < n) (hj : j < n) : crossF (grid x y k) i l j = icross x y i l j * (k * k * 4096) := by
 have hz := st_of g.k0 g.k1
 have xi := g.xb i hi; have xl := g.xb l hl; have xj := g.xb j hj
 have yi := g.yb i hi; have yl := g.yb l hl; have yj := g.yb j hj
 unfold crossF grid icross
 simp only []
 rw [sub_grid hz xl xi, sub_grid hz yj yi, sub_grid hz yl yi, sub_grid hz xj xi]
 obtain ⟨e1, b1, b2⟩ := mul_grid (a := x l - x i) (b := y j - y i) g.k0 g.k1 (by omega) (by omega)
 obtain ⟨e2, b3, b4⟩ := mul_grid (a := y l - y i) (b := x j - x i) g.k0 g.k1 (by omega) (by omega)
 rw [e1, e2, sub_exact (by unfold Rg; omega) (by unfold Rg; omega) (by unfold Rg; omega)]
 exact (Int.sub_mul _ _ _).symm
theorem kk_pos {k : Int} (h0 : 1 ≤ k) : 0 < k * k * 4096 := by
 have := Int.mul_pos (show 0 < k by omega) (show 0 < k by omega); omega
theorem pos_mul {a z : Int} (hz : 0 < z) : 0 < a * z ↔ 0 < a := by
 constructor
 ·intro h
  refine Int.not_le.1 fun h0 => ?_
  have := Int.mul_le_mul_of_nonneg_right h0 (show 0 ≤ z by omega)
  omega
 ·intro h; exact Int.mul_pos h hz
theorem grid_i64 {x y : Nat → Int} {k : Int} {n : Nat} (g : Grid x y k n) : ∀ i, i < n → I64 (grid x y k i).1 ∧ I64 (grid x y k i).2 := fun i hi =>
 ⟨i64_rg (st_rg (st_of g.k0 g.k1) (by have := g.xb i hi; omega) (by have := g.xb i hi; omega)).1, i64_rg (st_rg (st_of g.k0 g.k1) (by have := g.yb i hi; omega) (by have := g.yb i hi; omega)).1⟩
theorem grid_near {x y : Nat → Int} {k : Int} {n : Nat} (g : Grid x y k n) : ∀ i, i < n → NearP (grid x y k i) := fun i hi => by
 have a := st_rg (st_of g.k0 g.k1) (a := x i) (by have := g.xb i hi; omega) (by have := g.xb i hi; omega)
 have b := st_rg (st_of g.k0 g.k1) (a := y i) (by have := g.yb i hi; omega) (by have := g.yb i hi; omega)
 unfold NearP grid
 simp only []
 omega
theorem grid_right {x y : Nat → Int} {k : Int} {n : Nat} (g : Grid x y k n) : RightP 2 0 n (grid x y k) := by
 refine .inr ⟨rfl, rfl, g.n0, g.n1, grid_near g, fun i hi j hj h1 h2 => ?_⟩
 rw [cross_grid g hi (Nat.mod_lt _ (by have := g.n0; omega)) hj]
 exact (pos_mul (kk_pos g.k0)).2 (g.cv i hi j hj h1 h2)
def ringL : List (Int × Int) := [(65, 0), (52, 39), (25, 60), (-25, 60), (-52, 39), (-65, 0), (-52, -39), (-25, -60), (25, -60), (52, -39)]
def ringX (n t i : Nat) : Int := (ringL.getD ((i * 10 / n + t) % 10) (0, 0)).1
def ringY (n t i : Nat) : Int := (ringL.getD ((i * 10 / n + t) % 10) (0, 0)).2
def ringOk (n t : Nat) : Bool := (List.range n).all fun i => decide (-65 ≤ ringX n t i) && decide (ringX n t i ≤ 65) && decide (-65 ≤ ringY n t i) && decide (ringY n t i ≤ 65) &&
 (List.range n).all fun j => decide (j = i) || decide (j = (i + 1) % n) || decide (0 < icross (ringX n t) (ringY n t) i ((i + 1) % n) j)
theorem ring_check : (List.range 6).all (fun n => (List.range 10).all fun t => ringOk (3 + n) t) = true := by decide +kernel
theorem ring_mod (n t : Nat) : ringX n t = ringX n (t % 10) ∧ ringY n t = ringY n (t % 10) := by
 constructor <;> funext i <;> (first | unfold ringX | unfold ringY) <;> rw [Nat.add_mod_mod]
theorem ring_grid {k : Int} {n : Nat} (t : Nat) (k0 : 1 ≤ k) (k1 : k ≤ 64) (n0 : 3 ≤ n) (n1 : n ≤ 8) : Grid (ringX n t) (ringY n t) k n := by
 have h := ring_check
 rw [List.all_eq_true] at h
 have h1 := h (n - 3) (List.mem_range.2 (by omega))
 rw [List.all_eq_true] at h1
 have h2 := h1 (t % 10) (List.mem_range.2 (Nat.mod_lt _ (by omega)))
 rw [show 3 + (n - 3) = n by omega] at h2
 unfold ringOk at h2
 rw [List.all_eq_true] at h2
 rw [(ring_mod n t).1, (ring_mod n t).2]
 refine ⟨k0, k1, n0, n1, fun i hi => ?_, fun i hi => ?_, fun i hi j hj a b => ?_⟩
 ·have h3 := h2 i (List.mem_range.2 hi)
  simp only [Bool.and_eq_true, decide_eq_true_eq] at h3
  omega
 ·have h3 := h2 i (List.mem_range.2 hi)
  simp only [Bool.and_eq_true, decide_eq_true_eq] at h3
  omega
 ·have h3 := h2 i (List.mem_range.2 hi)
  simp only [Bool.and_eq_true, decide_eq_true_eq] at h3
  have h4 := h3.2
  rw [List.all_eq_true] at h4
  have h5 := h4 j (List.mem_range.2 hj)
  simp only [Bool.or_eq_true, decide_eq_true_eq] at h5
  rcases h5 with (h5 | h5) | h5
  ·exact absurd h5 a
  ·exact absurd h5 b
  ·exact h5
def boxX (a : Int) (i : Nat) : Int := if i = 0 ∨ i = 3 then -a else a
def boxY (b : Int) (i : Nat) : Int := if i = 0 ∨ i = 1 then -b else b
theorem box_grid {a b : Int} (a0 : 1 ≤ a) (a1 : a ≤ 64) (b0 : 1 ≤ b) (b1 : b ≤ 64) : Grid (boxX a) (boxY b) 64 4 := by
 have p := Int.mul_pos (show 0 < a by omega) (show 0 < b by omega)
 refine ⟨by omega, by omega, by omega, by omega, fun i hi => by unfold boxX; split <;> omega, fun i hi => by unfold boxY; split <;> omega, fun i hi j hj h1 h2 => ?_⟩
 unfold icross
 rcases (show i = 0 ∨ i = 1 ∨ i = 2 ∨ i = 3 by omega) with rfl | rfl | rfl | rfl <;> rcases (show j = 0 ∨ j = 1 ∨ j = 2 ∨ j = 3 by omega) with rfl | rfl | rfl | rfl <;>
  first
  | (exfalso; omega)
  | (simp only [boxX, boxY, true_or, or_true, if_true, if_false, Nat.reduceAdd, Nat.reduceMod, Nat.reduceEqDiff, or_self, Int.sub_mul, Int.mul_sub, Int.mul_neg, Int.neg_mul, Int.mul_comm b a]; omega)
end Go.Proofs.YtgdcphmmehedoaaGreat.Fx
/- Plain words for shapes: the ways away from the sides. -/
namespace Go.Proofs.YtgdcphmmehedoaaGreat.Fx
set_option linter.unusedVariables false
def uF (a b : Int) : Int × Int := if lenF a b = 0 then (0, 0) else (divF a (lenF a b), divF b (lenF a b))
def normF (f : Cs) (n i : Nat) : Int × Int :=
 let u := uF (subF (f ((i + 1) % n)).1 (f i).1) (subF (f ((i + 1) % n)).2 (f i).2)
 (u.2, negF u.1)
end Go.Proofs.YtgdcphmmehedoaaGreat.Fx
/- Grids around the middle: the middle lies to the left of each side. No Go in sight. -/
namespace Go.Proofs.YtgdcphmmehedoaaGreat.Fx
set_option linter.unusedVariables false
def Round (x y : Nat → Int) (n : Nat) : Prop := ∀ i, i < n → 0 ≤ x i * y ((i + 1) % n) - y i * x ((i + 1) % n)
theorem box_round {a b : Int} (a0 : 1 ≤ a) (b0 : 1 ≤ b) : Round (boxX a) (boxY b) 4 := fun i hi => by
 have p := Int.mul_pos (show 0 < a by omega) (show 0 < b by omega)
 rcases (show i = 0 ∨ i = 1 ∨ i = 2 ∨ i = 3 by omega) with rfl | rfl | rfl | rfl <;>
  (simp only [boxX, boxY, true_or, or_true, if_true, if_false, Nat.reduceAdd, Nat.reduceMod, Nat.reduceEqDiff, or_self, Int.mul_neg, Int.neg_mul, Int.mul_comm b a]; omega)
def roundOk (n t : Nat) : Bool := (List.range n).all fun i => decide (0 ≤ ringX n t i * ringY n t ((i + 1) % n) - ringY n t i * ringX n t ((i + 1) % n))
theorem round_check : (List.range 6).all (fun n => (List.range 10).all fun t => roundOk (3 + n) t) = true := by decide +kernel
theorem ring_round {n : Nat} (t : Nat) (n0 : 3 ≤ n) (n1 : n ≤ 8) : Round (ringX n t) (ringY n t) n := fun i hi => by
 have h := round_check
 rw [List.all_eq_true] at h
 have h1 := h (n - 3) (List.mem_range.2 (by omega))
 rw [List.all_eq_true] at h1
 have h2 := h1 (t % 10) (List.mem_range.2 (Nat.mod_lt _ (by omega)))
 rw [show 3 + (n - 3) = n by omega] at h2
 unfold roundOk at h2
 rw [List.all_eq_true] at h2
 have h3 := h2 i (List.mem_range.2 hi)
 rw [(ring_mod n t).1, (ring_mod n t).2]
 simpa using h3
end Go.Proofs.YtgdcphmmehedoaaGreat.Fx
/- Plain words for masses: areas, and how a shape resists to be spun, of grids, circles and rectangles. No Go in sight. -/
namespace Go.Proofs.YtgdcphmmehedoaaGreat.Fx
set_option linter.unusedVariables false
def crossV (a b : Int × Int) : Int := subF (mulF a.1 b.2) (mulF a.2 b.1)
def dotV (a b : Int × Int) : Int := addF (mulF a.1 b.1) (mulF a.2 b.2)
def areaT (a b : Int × Int) : Int := divF (crossV a b) 8589934592
def roundT (a b : Int × Int) : Int := divF (mulF (crossV a b) (addF (addF (dotV a a) (dotV a b)) (dotV b b))) 51539607552
def sumT (T : Int × Int → Int × Int → Int) (f : Cs) (n : Nat) : Nat → Int
 | 0 => 0
 | m + 1 => addF (sumT T f n m) (T (f m) (f ((m + 1) % n)))
def sumP (T : Int × Int → Int × Int → Int) (f : Cs) (n : Nat) : Nat → Int
 | 0 => 0
 | m + 1 => sumP T f n m + T (f m) (f ((m + 1) % n))
section
variable {x y : Nat → Int} {k : Int} {n i l : Nat}
def twice (f : Cs) : Cs := fun i => (2 * (f i).1, 2 * (f i).2)
end
end Go.Proofs.YtgdcphmmehedoaaGreat.Fx
/- Items and the pairs of them that meet, plain. -/
namespace Go.Proofs.YtgdcphmmehedoaaGreat.Fx
set_option linter.unusedVariables false
structure It where
 id : Int
 lx : Int
 ly : Int
 hx : Int
 hy : Int
 st : Bool
instance : Inhabited It := ⟨⟨0, 0, 0, 0, 0, false⟩⟩
def meetP (a b : It) : Prop := (cl a.lx ≤ cl b.hx ∧ cl b.lx ≤ cl a.hx) ∧ (cl a.ly ≤ cl b.hy ∧ cl b.ly ≤ cl a.hy)
instance (a b : It) : Decidable (meetP a b) := by unfold meetP; infer_instance
def taken (a b : It) : Bool := !(a.st && b.st) && decide (meetP a b)
def beyB (a b : It) : Bool := decide (cl a.hx < cl b.lx)
def pairOf (a b : It) : Int × Int := (min a.id b.id, max a.id b.id)
def inner (a : It) : List It → List (Int × Int)
 | [] => []
 | b :: l => if beyB a b then [] else if taken a b then pairOf a b :: inner a l else inner a l
def outer : List It → List (Int × Int)
 | [] => []
 | a :: l => inner a l ++ outer l
def withF (a : It) (l : List It) : List (Int × Int) := (l.filter (taken a)).map (pairOf a)
def collect : List It → List (Int × Int)
 | [] => []
 | a :: l => withF a l ++ collect l
def ltP (p q : Int × Int) : Bool := decide (p.1 < q.1) || (decide (p.1 = q.1) && decide (p.2 < q.2))
def leP (p q : Int × Int) : Bool := !ltP q p
def sortP (l : List (Int × Int)) : List (Int × Int) := l.mergeSort leP
def pairsF (l : List It) : List (Int × Int) := sortP (collect l)
def Apart (l : List It) : Prop := l.Pairwise (fun a b => a.id ≠ b.id)
def keepP (z : Int) (p : Int × Int) : Bool := !(decide (p.1 = z) || decide (p.2 = z))
end Go.Proofs.YtgdcphmmehedoaaGreat.Fx
/- Lists in memory, whatever the elements' cells. -/
namespace Go.Proofs.YtgdcphmmehedoaaGreat.Fx
open Go.ChangeShapes Go.WideShapes Go.ChangeAt Go.RowKit
set_option linter.unusedVariables false
section
variable {α : Type} {enc : α → List Value} {k : Nat}
def flatE (enc : α → List Value) (l : List α) : List Value := l.flatMap enc
theorem flatE_len (hk : ∀ x, (enc x).length = k) : ∀ l : List α, (flatE enc l).length = l.length * k
 | [] => by simp [flatE]
 | x :: l => by
  have := flatE_len hk l
  show (enc x ++ flatE enc l).length = _
  rw [List.length_append, hk, this, List.length_cons, Nat.add_mul, Nat.one_mul, Nat.add_comm]
theorem flatE_snoc (l : List α) (x : α) : flatE enc l ++ enc x = flatE enc (l ++ [x]) := by
 unfold flatE; rw [List.flatMap_append]; simp
theorem flatE_at (hk : ∀ x, (enc x).length = k) : ∀ (l : List α) (i : Nat) (x : α), l[i]? = some x → ∀ j, j < k → (flatE enc l)[i * k + j]? = (enc x)[j]?
 | [], i, x, h, _, _ => by simp at h
 | y :: l, 0, x, h, j, hj => by
  cases h
  show (enc y ++ flatE enc l)[0 * k + j]? = _
  rw [Nat.zero_mul, Nat.zero_add, List.getElem?_append_left (by rw [hk]; exact hj)]
 | y :: l, i + 1, x, h, j, hj => by
  have h' : l[i]? = some x := by simpa using h
  show (enc y ++ flatE enc l)[(i + 1) * k + j]? = _
  rw [List.getElem?_append_right (by rw [hk, Nat.add_mul, Nat.one_mul]; omega), hk, ← flatE_at hk l i x h' j hj]
  congr 1
  rw [Nat.add_mul, Nat.one_mul]; omega
theorem flatE_one (h1 : ∀ x, ∀ v ∈ enc x, v.oneCell' = true) (l : List α) : ∀ u ∈ flatE enc l, u.oneCell' = true := by
 intro u hu
 obtain ⟨x, _, hx⟩ := List.mem_flatMap.1 hu
 exact h1 x u hx
def ElT (enc : α → List Value) (w : World) (b o : Nat) (x : α) : Prop := ∀ j v, (enc x)[j]? = some v → w.cell? ⟨b, o + j, none⟩ = some v
def LsB (enc : α → List Value) (k : Nat) (w : World) (b off : Nat) (l : List α) : Prop := ∀ i x, l[i]? = some x → ElT enc w b (off + i * k) x
def LsT (enc : α → List Value) (k : Nat) (w : World) (ao : Option Addr) (l : List α) : Prop := 0 < l.length → ∃ b off, ao = some ⟨b, off, none⟩ ∧ b < w.heap.size ∧ LsB enc k w b off l
theorem LsB.below {w v : World} {b off B : Nat} {l : List α} (h : LsB enc k w b off l) (kk : Below B w v) (hb : b < B) : LsB enc k v b off l := fun i x hi j u hu => (kk.cell (p := ⟨b, off + i * k + j, none⟩) hb).trans (h i x hi j u hu)
theorem LsT.below {w v : World} {ao : Option Addr} {l : List α} (h : LsT enc k w ao l) (kk : Below w.heap.size w v) : LsT enc k v ao l := fun hl => by
 obtain ⟨b, off, e, hb, h⟩ := h hl
 exact ⟨b, off, e, Nat.lt_of_lt_of_le hb kk.size, h.below kk hb⟩
theorem LsT.kept {w v : World} {ao : Option Addr} {l : List α} (h : LsT enc k w ao l) (kk : Made w.heap.size w v) : LsT enc k v ao l := h.below kk.1
def Lies (B : Nat) (ao : Option Addr) : Prop := ∀ g off, ao = some ⟨g, off, none⟩ → g < B
theorem LsT.stays {w v : World} {ao : Option Addr} {l : List α} {B : Nat} (h : LsT enc k w ao l) (kk : Below B w v) (hB : Lies B ao) : LsT enc k v ao l := fun hl => by
 obtain ⟨b, off, e, hb, h⟩ := h hl
 exact ⟨b, off, e, Nat.lt_of_lt_of_le hb kk.size, h.below kk (hB b off e)⟩
theorem LsT.flat_at (hk : ∀ x, (enc x).length = k) {w : World} {b off : Nat} {l : List α} (h : LsB enc k w b off l) : ∀ j u, (flatE enc l)[j]? = some u → w.cell? ⟨b, off + j, none⟩ = some u := by
 intro j u hu
 have hj : j < l.length * k := by rw [← flatE_len hk l]; exact (List.getElem?_eq_some_iff.1 hu).1
 have k0 : 0 < k := by rcases Nat.eq_zero_or_pos k with e | e
                       ·subst e; simp at hj
                       ·exact e
 have hi : j / k < l.length := Nat.div_lt_of_lt_mul (by rw [Nat.mul_comm]; exact hj)
 have hr : j % k < k := Nat.mod_lt _ k0
 have e : j / k * k + j % k = j := by rw [Nat.mul_comm]; exact Nat.div_add_mod j k
 have hx : l[j / k]? = some l[j / k] := List.getElem?_eq_getElem hi
 have := flatE_at hk l (j / k) _ hx (j % k) hr
 rw [e, hu] at this
 have := h (j / k) _ hx (j % k) u this.symm
 rw [Nat.add_assoc, e] at this
 exact this
theorem LsT.of_own (hk : ∀ x, (enc x).length = k) {w : World} {base : Nat} {t : TypeId} {v : Value} {l : List α} (h : w.ownsRow base t k v l.length (flatE enc l)) :
  ∃ ao c, v = .slice ao l.length c ∧ l.length ≤ c ∧ LsT enc k w ao l ∧ ∀ g off, ao = some ⟨g, off, none⟩ → base ≤ g ∧ g < w.heap.size := by
 rcases h.2 with ⟨hv, h0⟩ | ⟨g, cap, cur, hv, hb, hh, hc, hm, hs, ht⟩
 ·exact ⟨none, 0, by rw [h0]; exact hv, by omega, fun hl => by omega, fun g off e => by cases e⟩
 ·refine ⟨_, cap, hv, hc, fun hl => ⟨g, 0, rfl, Has.here (t := t) (cs := cur) hh, fun i x hi j u hu => ?_⟩, fun g' off e => ?_⟩
  ·have hj : j < k := by rw [← hk x]; exact (List.getElem?_eq_some_iff.1 hu).1
   have hi' : i < l.length := (List.getElem?_eq_some_iff.1 hi).1
   have hlt : i * k + j < l.length * k := by
    have := Nat.mul_le_mul_right k (show i + 1 ≤ l.length from hi'); rw [Nat.add_mul, Nat.one_mul] at this; omega
   have e := flatE_at hk l i x hi j hj
   have hG : Has w g t cur := hh
   rw [Nat.zero_add, hG.at_, ← hu, ← e, ← ht, List.getElem?_take, if_pos hlt]
   simp
  ·cases e
   exact ⟨hb, Has.here (t := t) (cs := cur) hh⟩
theorem own_apart {w : World} {base n g : Nat} {t t' : TypeId} {size : Nat} {x : Value} {xs : List Value} {cs : Array Value} (h : w.ownsRow base t size x n xs) (hh : Has w g t' cs) (ht : t ≠ t') : some g ≠ x.ownBlock := by
 intro e
 rcases h.2 with ⟨hv, _⟩ | ⟨g', cap, cur, hv, _, hc, _⟩
 ·rw [hv] at e; cases e
 ·rw [hv] at e
  cases e
  have := hc.symm.trans hh
  simp at this
  exact ht this.2
end
def encI (x : It) : List Value := [.int .i64 x.id, .int .i64 x.lx, .int .i64 x.ly, .int .i64 x.hx, .int .i64 x.hy, .bool x.st]
def encP (p : Int × Int) : List Value := [.int .i64 p.1, .int .i64 p.2]
theorem ElT.i6 {w : World} {b o : Nat} {x : It} (h : ElT encI w b o x) : w.cell? ⟨b, o, none⟩ = some (.int .i64 x.id) ∧ w.cell? ⟨b, o + 1, none⟩ = some (.int .i64 x.lx) ∧ w.cell? ⟨b, o + 2, none⟩ = some (.int .i64 x.ly) ∧ w.cell? ⟨b, o + 3, none⟩ = some (.int .i64 x.hx) ∧ w.cell? ⟨b, o + 4, none⟩ = some (.int .i64 x.hy) ∧ w.cell? ⟨b, o + 5, none⟩ = some (.bool x.st) :=
 ⟨h 0 _ rfl, h 1 _ rfl, h 2 _ rfl, h 3 _ rfl, h 4 _ rfl, h 5 _ rfl⟩
theorem ElT.p2 {w : World} {b o : Nat} {p : Int × Int} (h : ElT encP w b o p) : w.cell? ⟨b, o, none⟩ = some (.int .i64 p.1) ∧ w.cell? ⟨b, o + 1, none⟩ = some (.int .i64 p.2) :=
 ⟨h 0 _ rfl, h 1 _ rfl⟩
def ItI (x : It) : Prop := I64 x.id ∧ I64 x.lx ∧ I64 x.ly ∧ I64 x.hx ∧ I64 x.hy
def ItsI (l : List It) : Prop := ∀ x ∈ l, ItI x
end Go.Proofs.YtgdcphmmehedoaaGreat.Fx
/- Contracts of package fix. -/
/- Contracts of package fix's small functions. -/
namespace Go.Proofs.YtgdcphmmehedoaaGreat.Fx
open Go.ChangeShapes Go.WideShapes Go.ChangeAt Go.RowKit
set_option linter.unusedVariables false
theorem ret_i {k : IntKind} {a b : Int} (h : a = b) : Ending.returned (.int k a) = .returned (.int k b) := by rw [h]
theorem counted_c (a : Int) (w : World) (h : I64 a) :
  Calls Tryz.prog 106 #[.int .i64 a] w fun e w' => e = .returned (.int .i64 (cl a)) ∧ w = w' := by
 obtain ⟨h0, h1⟩ := h
 by_cases hlt : a < -9223372036854775807
 ·go_enter Tryz.func106, Tryz.ntmps106
  go_wp2
  go_ret
  exact ⟨ret_i (by unfold cl; omega), rfl⟩
 ·go_enter Tryz.func106, Tryz.ntmps106
  go_wp2
  go_ret
  exact ⟨ret_i (by unfold cl; omega), rfl⟩
theorem neg_c (a : Int) (w : World) (h : I64 a) :
  Calls Tryz.prog 105 #[.int .i64 a] w fun e w' => e = .returned (.int .i64 (negF a)) ∧ w = w' := by
 have hb := cl_bd h
 unfold L M at hb
 obtain ⟨hb0, hb1⟩ := hb
 go_enter Tryz.func105, Tryz.ntmps105
 go_wp2_with (go_at_call 106; refine (counted_c _ _ h).mono ?_; rintro e w' ⟨rfl, rfl⟩)
 go_ret
 exact ⟨ret_i (by unfold negF; omega), rfl⟩
theorem abs_c (a : Int) (w : World) (h : I64 a) :
  Calls Tryz.prog 159 #[.int .i64 a] w fun e w' => e = .returned (.int .i64 (absF a)) ∧ w = w' := by
 by_cases hlt : a < 0
 ·go_enter Tryz.func159, Tryz.ntmps159
  go_wp2_with (go_at_call 105; refine (neg_c _ _ h).mono ?_; rintro e w' ⟨rfl, rfl⟩)
  go_ret
  exact ⟨ret_i (by unfold absF; rw [if_pos hlt]), rfl⟩
 ·go_enter Tryz.func159, Tryz.ntmps159
  go_wp2
  go_ret
  exact ⟨ret_i (by unfold absF; rw [if_neg (by omega)]), rfl⟩
theorem size_c (a : Int) (w : World) (h : I64 a) :
  Calls Tryz.prog 157 #[.int .i64 a] w fun e w' => e = .returned (.int .u64 (absF a)) ∧ w = w' := by
 have hb := absF_bd h
 unfold M at hb
 obtain ⟨hb0, hb1⟩ := hb
 go_enter Tryz.func157, Tryz.ntmps157
 go_wp2_with (go_at_call 159; refine (abs_c _ _ h).mono ?_; rintro e w' ⟨rfl, rfl⟩)
 go_ret
 exact ⟨ret_i (by omega), rfl⟩
theorem add_c (a b : Int) (w : World) (ha : I64 a) (hb : I64 b) :
  Calls Tryz.prog 155 #[.int .i64 a, .int .i64 b] w fun e w' => e = .returned (.int .i64 (addF a b)) ∧ w = w' := by
 have hx := cl_bd ha
 have hy := cl_bd hb
 unfold L M at hx hy
 obtain ⟨hx0, hx1⟩ := hx
 obtain ⟨hy0, hy1⟩ := hy
 have HF : Hid (addF a b = sat (cl a + cl b)) := rfl
 by_cases h1 : 0 < cl b
 ·by_cases h2 : 9223372036854775807 - cl b < cl a
  ·go_enter Tryz.func155, Tryz.ntmps155
   go_wp2_with (go_at_call 106; first | (refine (counted_c _ _ ha).mono ?_; rintro e w' ⟨rfl, rfl⟩) | (refine (counted_c _ _ hb).mono ?_; rintro e w' ⟨rfl, rfl⟩))
   go_ret
   exact ⟨ret_i (by rw [HF.out]; unfold sat; omega), rfl⟩
  ·go_enter Tryz.func155, Tryz.ntmps155
   go_wp2_with (go_at_call 106; first | (refine (counted_c _ _ ha).mono ?_; rintro e w' ⟨rfl, rfl⟩) | (refine (counted_c _ _ hb).mono ?_; rintro e w' ⟨rfl, rfl⟩))
   go_ret
   exact ⟨ret_i (by rw [HF.out]; unfold sat; omega), rfl⟩
 ·by_cases h2 : cl b < 0
  ·by_cases h3 : cl a < -9223372036854775807 - cl b
   ·go_enter Tryz.func155, Tryz.ntmps155
    go_wp2_with (go_at_call 106; first | (refine (counted_c _ _ ha).mono ?_; rintro e w' ⟨rfl, rfl⟩) | (refine (counted_c _ _ hb).mono ?_; rintro e w' ⟨rfl, rfl⟩))
    go_ret
    exact ⟨ret_i (by rw [HF.out]; unfold sat; omega), rfl⟩
   ·go_enter Tryz.func155, Tryz.ntmps155
    go_wp2_with (go_at_call 106; first | (refine (counted_c _ _ ha).mono ?_; rintro e w' ⟨rfl, rfl⟩) | (refine (counted_c _ _ hb).mono ?_; rintro e w' ⟨rfl, rfl⟩))
    go_ret
    exact ⟨ret_i (by rw [HF.out]; unfold sat; omega), rfl⟩
  ·go_enter Tryz.func155, Tryz.ntmps155
   go_wp2_with (go_at_call 106; first | (refine (counted_c _ _ ha).mono ?_; rintro e w' ⟨rfl, rfl⟩) | (refine (counted_c _ _ hb).mono ?_; rintro e w' ⟨rfl, rfl⟩))
   go_ret
   exact ⟨ret_i (by rw [HF.out]; unfold sat; omega), rfl⟩
theorem I64_neg {a : Int} (h : I64 a) : I64 (negF a) := by
 have := cl_bd h; unfold negF I64 L M at *; omega
theorem sub_c (a b : Int) (w : World) (ha : I64 a) (hb : I64 b) :
  Calls Tryz.prog 153 #[.int .i64 a, .int .i64 b] w fun e w' => e = .returned (.int .i64 (subF a b)) ∧ w = w' := by
 have hn := I64_neg hb
 go_enter Tryz.func153, Tryz.ntmps153
 go_wp2_with (first | (go_at_call 105; refine (neg_c _ _ hb).mono ?_; rintro e w' ⟨rfl, rfl⟩) | (go_at_call 155; refine (add_c _ _ _ ha hn).mono ?_; rintro e w' ⟨rfl, rfl⟩))
 go_ret
 exact ⟨ret_i (by unfold subF; rfl), rfl⟩
theorem signed_c (n : Int) (t : Bool) (w : World) (h0 : 0 ≤ n) (h1 : n ≤ 18446744073709551615) :
  Calls Tryz.prog 158 #[.int .u64 n, .bool t] w fun e w' => e = .returned (.int .i64 (signF n t)) ∧ w = w' := by
 by_cases hlt : n ≤ 9223372036854775807
 ·cases t
  ·go_enter Tryz.func158, Tryz.ntmps158
   go_wp2
   go_ret
   exact ⟨ret_i (by unfold signF; simp; omega), rfl⟩
  ·go_enter Tryz.func158, Tryz.ntmps158
   go_wp2
   go_ret
   exact ⟨ret_i (by unfold signF; simp; omega), rfl⟩
 ·cases t
  ·go_enter Tryz.func158, Tryz.ntmps158
   go_wp2
   go_ret
   exact ⟨ret_i (by unfold signF; simp; omega), rfl⟩
  ·go_enter Tryz.func158, Tryz.ntmps158
   go_wp2
   go_ret
   exact ⟨ret_i (by unfold signF; simp; omega), rfl⟩
theorem ret_ii {k : IntKind} {a b c d : Int} (h : a = b) (h' : c = d) : Ending.returned (.tuple #[.int k a, .int k c]) = .returned (.tuple #[.int k b, .int k d]) := by rw [h, h']
end Go.Proofs.YtgdcphmmehedoaaGreat.Fx
/- Contracts: products, quotients. -/
namespace Go.Proofs.YtgdcphmmehedoaaGreat.Fx
open Go.ChangeShapes Go.WideShapes Go.ChangeAt Go.RowKit
set_option linter.unusedVariables false
theorem maskN (a : Nat) (ha : a < 18446744073709551616) : bits .and .u64 (a : Int) 4294967295 = ((a % 4294967296 : Nat) : Int) := by
 have h := bits_and_u64_nat a 4294967295 ha (by omega)
 have e : a &&& 4294967295 = a % 4294967296 := Nat.and_two_pow_sub_one_eq_mod a 32
 rw [e] at h
 exact h
theorem divN (a : Nat) : (a : Int) / 4294967296 = ((a / 4294967296 : Nat) : Int) := by omega
theorem mulN (a b : Nat) : (a : Int) * (b : Int) = ((a * b : Nat) : Int) := (Int.natCast_mul a b).symm
theorem addN (a b : Nat) : (a : Int) + (b : Int) = ((a + b : Nat) : Int) := (Int.natCast_add a b).symm
theorem wrapN (a : Nat) (ha : a < 18446744073709551616) : IntKind.u64.wrap (a : Int) = (a : Int) := by rw [IntKind.wrap_u64]; omega
theorem wrapM (a : Nat) : IntKind.u64.wrap (a : Int) = ((a % 18446744073709551616 : Nat) : Int) := by rw [IntKind.wrap_u64]; omega
theorem mul64_n (x y : Nat) (hx : x < 18446744073709551616) (hy : y < 18446744073709551616) (w : World) :
  Calls Tryz.prog 156 #[.int .u64 (x : Int), .int .u64 (y : Int)] w fun e w' => e = .returned (.tuple #[.int .u64 ((x * y / 18446744073709551616 : Nat) : Int), .int .u64 ((x * y % 18446744073709551616 : Nat) : Int)]) ∧ w = w' := by
 obtain ⟨bd, bt, bw, hhi⟩ := Lib.mul64_hi x y hx hy
 have ba := Lib.half_mul_le (a := x / 4294967296) (b := y / 4294967296) (by omega) (by omega)
 have bb := Lib.half_mul_le (a := x / 4294967296) (b := y % 4294967296) (by omega) (by omega)
 have bc := Lib.half_mul_le (a := x % 4294967296) (b := y / 4294967296) (by omega) (by omega)
 have ba' : x / 4294967296 * (y / 4294967296) < 18446744073709551616 := by omega
 have bb' : x / 4294967296 * (y % 4294967296) < 18446744073709551616 := by omega
 have bc' : x % 4294967296 * (y / 4294967296) < 18446744073709551616 := by omega
 have bh1 : x / 4294967296 * (y / 4294967296) + (x / 4294967296 * (y % 4294967296) + x % 4294967296 * (y % 4294967296) / 4294967296) / 4294967296 < 18446744073709551616 := by omega
 have bh : x / 4294967296 * (y / 4294967296) + (x / 4294967296 * (y % 4294967296) + x % 4294967296 * (y % 4294967296) / 4294967296) / 4294967296 + ((x / 4294967296 * (y % 4294967296) + x % 4294967296 * (y % 4294967296) / 4294967296) % 4294967296 + x % 4294967296 * (y / 4294967296)) / 4294967296 < 18446744073709551616 := by omega
 go_enter Tryz.func156, Tryz.ntmps156
 go_wp2
 simp only [maskN x hx, maskN y hy, divN, mulN, addN, wrapN _ bd, wrapN _ bb', wrapN _ bt, maskN _ bt, wrapN _ bc', wrapN _ bw, wrapN _ ba', wrapN _ bh1, wrapN _ bh, wrapM (x * y)]
 rw [hhi]
 go_ret2
 exact ⟨rfl, rfl⟩
theorem mul64_c (x y : Int) (w : World) (h0 : 0 ≤ x) (h1 : x ≤ 18446744073709551615) (h2 : 0 ≤ y) (h3 : y ≤ 18446744073709551615) :
  Calls Tryz.prog 156 #[.int .u64 x, .int .u64 y] w fun e w' => e = .returned (.tuple #[.int .u64 (x * y / 18446744073709551616), .int .u64 (x * y % 18446744073709551616)]) ∧ w = w' := by
 obtain ⟨n, rfl⟩ := Int.eq_ofNat_of_zero_le h0
 obtain ⟨m, rfl⟩ := Int.eq_ofNat_of_zero_le h2
 refine (mul64_n n m (by omega) (by omega) w).mono ?_
 rintro e w' ⟨rfl, rfl⟩
 exact ⟨ret_ii (by simp) (by simp), rfl⟩
end Go.Proofs.YtgdcphmmehedoaaGreat.Fx
/- Contracts: products. -/
namespace Go.Proofs.YtgdcphmmehedoaaGreat.Fx
open Go.ChangeShapes Go.WideShapes Go.ChangeAt Go.RowKit
set_option linter.unusedVariables false
theorem or_joint (a b : Int) (h0 : 0 ≤ a) (h1 : a < 4294967296) (h2 : 0 ≤ b) (h3 : b < 4294967296) :
  bits .or .u64 (a * 4294967296) b = a * 4294967296 + b := by
 obtain ⟨n, rfl⟩ := Int.eq_ofNat_of_zero_le h0
 obtain ⟨m, rfl⟩ := Int.eq_ofNat_of_zero_le h2
 have h := bits_or_u64_nat (n * 4294967296) m (by omega) (by omega)
 have e : n * 4294967296 ||| m = n * 4294967296 + m := by
  have := Nat.two_pow_add_eq_or_of_lt (i := 32) (b := m) (by omega) n
  rw [show (2 : Nat) ^ 32 = 4294967296 from rfl, Nat.mul_comm] at this
  exact this.symm
 rw [e] at h
 simpa using h
theorem prod_bd {x y : Int} (hx0 : 0 ≤ x) (hx1 : x ≤ 9223372036854775807) (hy0 : 0 ≤ y) (hy1 : y ≤ 9223372036854775807) :
  0 ≤ x * y ∧ x * y ≤ 85070591730234615847396907784232501249 := by
 refine ⟨Int.mul_nonneg hx0 hy0, ?_⟩
 have := Int.mul_le_mul hx1 hy1 hy0 (by omega)
 omega
theorem join_words (p : Int) (h0 : 0 ≤ p) (h : p / 18446744073709551616 / 4294967296 = 0) :
  bits .or .u64 (IntKind.u64.wrap (p / 18446744073709551616 * 4294967296)) (p % 18446744073709551616 / 4294967296) = p / 4294967296 := by
 rw [IntKind.wrap_u64]
 have e : p / 18446744073709551616 * 4294967296 % 18446744073709551616 = p / 18446744073709551616 * 4294967296 := by omega
 rw [e, or_joint _ _ (by omega) (by omega) (by omega) (by omega)]
 omega
theorem signF_big (n : Int) (t : Bool) (h : 9223372036854775807 ≤ n) : signF n t = signF 9223372036854775807 t := by
 unfold signF; split
 ·rw [if_neg (by omega), if_neg (by omega)]
 ·rw [if_neg (by omega), if_neg (by omega)]
theorem mul_c (a b : Int) (w : World) (ha : I64 a) (hb : I64 b) :
  Calls Tryz.prog 154 #[.int .i64 a, .int .i64 b] w fun e w' => e = .returned (.int .i64 (mulF a b)) ∧ w = w' := by
 have hx := absF_bd ha
 have hy := absF_bd hb
 unfold M at hx hy
 obtain ⟨hx0, hx1⟩ := hx
 obtain ⟨hy0, hy1⟩ := hy
 have hp := prod_bd hx0 hx1 hy0 hy1
 obtain ⟨hp0, hp1⟩ := hp
 have HF : Hid (mulF a b = signF (absF a * absF b / 4294967296) (decide (a < 0) != decide (b < 0))) := rfl
 have hx2 : absF a ≤ 18446744073709551615 := by omega
 have hy2 : absF b ≤ 18446744073709551615 := by omega
 by_cases hc : absF a * absF b / 18446744073709551616 / 4294967296 = 0
 ·have HJ : Hid _ := join_words _ hp0 hc
  have hc' : (absF a * absF b / 18446744073709551616 / 4294967296 == 0) = true := by simp [hc]
  clear hc
  go_enter Tryz.func154, Tryz.ntmps154
  go_wp2_with (first | (go_at_call 157; first | (refine (size_c _ _ ha).mono ?_; rintro e w' ⟨rfl, rfl⟩) | (refine (size_c _ _ hb).mono ?_; rintro e w' ⟨rfl, rfl⟩)) | (go_at_call 156; refine (mul64_c _ _ _ hx0 hx2 hy0 hy2).mono ?_; rintro e w' ⟨rfl, rfl⟩) | (go_at_call 158; fail))
  rw [HJ.out]
  refine (signed_c _ _ _ (by omega) (by simp at hc'; omega)).mono ?_
  rintro e w' ⟨rfl, rfl⟩
  go_wp2
  go_ret
  exact ⟨ret_i (by rw [HF.out]; rfl), rfl⟩
 ·have hc' : (absF a * absF b / 18446744073709551616 / 4294967296 == 0) = false := by simp; omega
  have HJ : Hid (9223372036854775807 ≤ absF a * absF b / 4294967296) := by unfold Hid; omega
  clear hc
  go_enter Tryz.func154, Tryz.ntmps154
  go_wp2_with (first | (go_at_call 157; first | (refine (size_c _ _ ha).mono ?_; rintro e w' ⟨rfl, rfl⟩) | (refine (size_c _ _ hb).mono ?_; rintro e w' ⟨rfl, rfl⟩)) | (go_at_call 156; refine (mul64_c _ _ _ hx0 hx2 hy0 hy2).mono ?_; rintro e w' ⟨rfl, rfl⟩) | (go_at_call 158; fail))
  refine (signed_c _ _ _ (by omega) (by omega)).mono ?_
  rintro e w' ⟨rfl, rfl⟩
  go_wp2
  go_ret
  exact ⟨ret_i (by rw [HF.out, signF_big _ _ HJ.out]; rfl), rfl⟩
end Go.Proofs.YtgdcphmmehedoaaGreat.Fx
/- Contracts: numbers of bits. -/
namespace Go.Proofs.YtgdcphmmehedoaaGreat.Fx
open Go.ChangeShapes Go.WideShapes Go.ChangeAt Go.RowKit
set_option linter.unusedVariables false
end Go.Proofs.YtgdcphmmehedoaaGreat.Fx
/- Contracts: whole numbers. -/
namespace Go.Proofs.YtgdcphmmehedoaaGreat.Fx
open Go.ChangeShapes Go.WideShapes Go.ChangeAt Go.RowKit
set_option linter.unusedVariables false
theorem bring_c (a b c : Int) (w : World) (ha : I64 a) (hb : I64 b) (hc : I64 c) :
  Calls Tryz.prog 82 #[.int .i64 a, .int .i64 b, .int .i64 c] w fun e w' => e = .returned (.int .i64 (bringF a b c)) ∧ w = w' := by
 have h1 := cl_bd ha
 have h2 := cl_bd hb
 have h3 := cl_bd hc
 unfold L M at h1 h2 h3
 by_cases c1 : cl a < cl b
 ·go_enter Tryz.func82, Tryz.ntmps82
  go_wp2_with (go_at_call 106; first | (refine (counted_c _ _ ha).mono ?_; rintro e w' ⟨rfl, rfl⟩) | (refine (counted_c _ _ hb).mono ?_; rintro e w' ⟨rfl, rfl⟩) | (refine (counted_c _ _ hc).mono ?_; rintro e w' ⟨rfl, rfl⟩))
  go_ret
  exact ⟨ret_i (by unfold bringF; rw [if_pos (by omega)]), rfl⟩
 ·by_cases c2 : cl c < cl a
  ·go_enter Tryz.func82, Tryz.ntmps82
   go_wp2_with (go_at_call 106; first | (refine (counted_c _ _ ha).mono ?_; rintro e w' ⟨rfl, rfl⟩) | (refine (counted_c _ _ hb).mono ?_; rintro e w' ⟨rfl, rfl⟩) | (refine (counted_c _ _ hc).mono ?_; rintro e w' ⟨rfl, rfl⟩))
   go_ret
   exact ⟨ret_i (by unfold bringF; rw [if_neg (by omega), if_pos (by omega)]), rfl⟩
  ·go_enter Tryz.func82, Tryz.ntmps82
   go_wp2_with (go_at_call 106; first | (refine (counted_c _ _ ha).mono ?_; rintro e w' ⟨rfl, rfl⟩) | (refine (counted_c _ _ hb).mono ?_; rintro e w' ⟨rfl, rfl⟩) | (refine (counted_c _ _ hc).mono ?_; rintro e w' ⟨rfl, rfl⟩))
   go_ret
   exact ⟨ret_i (by unfold bringF; rw [if_neg (by omega), if_neg (by omega)]), rfl⟩
end Go.Proofs.YtgdcphmmehedoaaGreat.Fx
/- The plain arithmetic of the schoolbook quotient: no Go in sight. -/
namespace Go.Proofs.YtgdcphmmehedoaaGreat.Fx
open Go
def Dig (n y1 q a b : Int) : Prop := q ≤ a ∧ a ≤ 4294967297 ∧ a * y1 + b = n ∧ 0 ≤ b ∧ b < 4294967296
structure DigP (n d y1 y0 q : Int) : Prop where
 hn0 : 0 ≤ n
 hn : n < y1 * 4294967296 + y0
 hd0 : 0 ≤ d
 hd : d < 4294967296
 hy1 : 2147483648 ≤ y1
 hy2 : y1 < 4294967296
 hy0 : 0 ≤ y0
 hy3 : y0 < 4294967296
 hq : q = (n * 4294967296 + d) / (y1 * 4294967296 + y0)
end Go.Proofs.YtgdcphmmehedoaaGreat.Fx
/- Contracts: quotients of two words. -/
namespace Go.Proofs.YtgdcphmmehedoaaGreat.Fx
open Go.ChangeShapes Go.WideShapes Go.ChangeAt Go.RowKit
set_option linter.unusedVariables false
structure Norm (hi lo y : Int) (s : Nat) (Y y1 y0 n l d1 d0 q m p : Int) : Prop where
 eY : IntKind.u64.wrap (y * 2 ^ s) = Y
 e1 : Y / 4294967296 = y1
 e0 : bits .and .u64 Y 4294967295 = y0
 en : bits .or .u64 (IntKind.u64.wrap (hi * 2 ^ s)) (lo / 2 ^ (64 - s)) = n
 el : IntKind.u64.wrap (lo * 2 ^ s) = l
 f1 : l / 4294967296 = d1
 f0 : bits .and .u64 l 4294967295 = d0
 em : IntKind.u64.wrap (IntKind.u64.wrap (IntKind.u64.wrap (n * 4294967296) + d1) - IntKind.u64.wrap (q * Y)) = m
 Y0 : 9223372036854775808 ≤ Y
 Y1 : Y ≤ 18446744073709551615
 l0 : 0 ≤ l
 l1 : l ≤ 18446744073709551615
 Yn : Y = y1 * 4294967296 + y0
 P1 : DigP n d1 y1 y0 q
 P0 : DigP m d0 y1 y0 p
 all : (hi * 18446744073709551616 + lo) / y = q * 4294967296 + p
end Go.Proofs.YtgdcphmmehedoaaGreat.Fx
/- Contracts: the quotient of two words by one. -/
namespace Go.Proofs.YtgdcphmmehedoaaGreat.Fx
open Go.ChangeShapes Go.WideShapes Go.ChangeAt Go.RowKit
set_option linter.unusedVariables false
def QuoR (q : Int) (w : World) (e : Ending) (w' : World) : Prop := ∃ (r : Int) (k : Nat), e = .returned (.tuple #[.int .u64 q, .int .u64 r]) ∧ w' = w.drewN k
def Ret (v : Value) (w : World) (e : Ending) (w' : World) : Prop := e = .returned v ∧ ∃ k : Nat, w' = w.drewN k
end Go.Proofs.YtgdcphmmehedoaaGreat.Fx
/- Contracts: quotients, parts. -/
namespace Go.Proofs.YtgdcphmmehedoaaGreat.Fx
open Go.ChangeShapes Go.WideShapes Go.ChangeAt Go.RowKit
set_option linter.unusedVariables false
end Go.Proofs.YtgdcphmmehedoaaGreat.Fx
/- Contracts: roots. -/
namespace Go.Proofs.YtgdcphmmehedoaaGreat.Fx
open Go.ChangeShapes Go.WideShapes Go.ChangeAt Go.RowKit
set_option linter.unusedVariables false
def Rt (P S : Int) (k : Nat) (r t : Int) : Prop := k ≤ 48 ∧ 0 ≤ r ∧ r % 2 ^ k = 0 ∧ r + 2 ^ k ≤ 281474976710656 ∧ t = 2 ^ k / 2 ∧ sqAux P k r = S
theorem two_pow_pos (k : Nat) : (0 : Int) < 2 ^ k := Int.pow_pos (by omega)
end Go.Proofs.YtgdcphmmehedoaaGreat.Fx
/- Sum: its contract (any number of numbers), and of three. -/
namespace Go.Proofs.YtgdcphmmehedoaaGreat.Fx
open Go.ChangeShapes Go.WideShapes Go.ChangeAt Go.RowKit
set_option linter.unusedVariables false
def sumL (zs : List Int) : Int := zs.foldl addF 0
end Go.Proofs.YtgdcphmmehedoaaGreat.Fx
/- Contracts of the table of sines. -/
namespace Go.Proofs.YtgdcphmmehedoaaGreat.Fx
open Go.ChangeShapes Go.WideShapes Go.ChangeAt Go.RowKit
set_option linter.unusedVariables false
def tabV : Array Value := (tabL.map (Value.int .i64)).toArray
def zeroV : Array Value := (List.replicate 257 (Value.int .i64 0)).toArray
theorem tabV_at (k : Nat) (h : k < 257) : tabV[k]? = some (.int .i64 (tabF k)) := by
 unfold tabV
 rw [tabF_in (by omega) (by omega)]
 have hl := tabL_len
 rw [List.getElem?_toArray, List.getElem?_map, List.getD_eq_getElem?_getD, Int.toNat_natCast, List.getElem?_eq_getElem (by omega)]
 rfl
def rowSet (cs : Array Value) : Obj → Obj
 | .cells _ t f => .cells cs t f
 | o => o
def Tabbed (w wx : World) : Prop := Made w.heap.size w wx ∧ ∀ k : Nat, k < 257 → wx.cell? ⟨w.heap.size, k, none⟩ = some (.int .i64 (tabF k))
theorem Tabbed.mk (w : World) (t : TypeId) : Tabbed w ((w.alloc (.cells zeroV t)).setRow w.heap.size tabV) := by
 have hg : (w.alloc (.cells zeroV t)).heap[w.heap.size]? = some (.cells zeroV t (0, 0)) := by
  show (w.heap.push _)[w.heap.size]? = _
  simp
 refine ⟨?_, fun k hk => ?_⟩
 ·exact ⟨⟨rfl, rfl, rfl, by simp, fun k hk => (setRow_other _ _ _ _ (by omega)).trans (Below.heap_alloc _ _ _ hk)⟩, fun a => (frozen_setRow _ _ _ a).trans (frozen?_alloc_cells _ _ _ a)⟩
 ·rw [cell_setRow_same _ _ _ _ _ _ _ hg]; exact tabV_at k hk
end Go.Proofs.YtgdcphmmehedoaaGreat.Fx
/- Sines and cosines of steps, plain: what the statements of layer 2 need to know of the table. -/
namespace Go.Proofs.YtgdcphmmehedoaaGreat.Fx
def sn (k : Int) : Int := if k ≤ 256 then tabF k else if k ≤ 512 then tabF (512 - k) else if k ≤ 768 then -tabF (k - 512) else -tabF (1024 - k)
def cs (k : Int) : Int := sn ((k + 256) % 1024)
def wrapF (a : Int) : Int := cl a % 4294967296
def stepF (a : Int) : Int := wrapF a / 4194304
def tabOk (k : Int) : Bool := decide (0 ≤ tabF k) && decide (tabF k ≤ 4294967296)
def gapOk (k : Int) : Bool := decide (tabF k + 4 ≤ tabF (k + 1))
def turnOk (k : Int) : Bool := decide (sn ((k + 512) % 1024) = -sn k) && decide (sn ((1024 - k) % 1024) = -sn k) && decide (cs ((1024 - k) % 1024) = cs k) && decide (absF (addF (mulF (cs k) (cs k)) (mulF (sn k) (sn k)) - 4294967296) < 8)
def quartOk (k : Int) : Bool := decide (sn k < sn (k + 1)) && decide (cs (k + 1) < cs k) && decide (0 ≤ sn k) && decide (0 < cs k)
def tabledB (c s : Int) (n : Nat) : Bool := (List.range n).any fun k => decide (cs k = c) && decide (sn k = s)
end Go.Proofs.YtgdcphmmehedoaaGreat.Fx
/- Contracts of package turn: angles, steps, sines. -/
namespace Go.Proofs.YtgdcphmmehedoaaGreat.Fx
open Go.ChangeShapes Go.WideShapes Go.ChangeAt Go.RowKit
set_option linter.unusedVariables false
theorem and_low (x : Int) (i : Nat) (hi : i ≤ 62) : bits .and .i64 x (2 ^ i - 1) = x % 2 ^ i := by
 have hpos : 0 < 2 ^ i := Nat.two_pow_pos i
 have hdvd : (2 : Nat) ^ i ∣ 2 ^ 64 := Nat.pow_dvd_pow 2 (by omega)
 have hle : (2 : Nat) ^ i ≤ 2 ^ 62 := Nat.pow_le_pow_right (by decide) hi
 have e1 : (BitVec.ofInt 64 ((2 : Int) ^ i - 1)).toNat = 2 ^ i - 1 := by
  have c : ((2 : Int) ^ i - 1) = ((2 ^ i - 1 : Nat) : Int) := by rw [Int.natCast_sub hpos]; simp
  rw [c, BitVec.ofInt_natCast, BitVec.toNat_ofNat, Nat.mod_eq_of_lt (by omega)]
 have e2 : ((BitVec.ofInt 64 x).toNat : Int) = x % 18446744073709551616 := by
  rw [BitVec.toNat_ofInt]; omega
 have hd2 : (2 : Int) ^ i ∣ 18446744073709551616 := by
  have t := Int.natCast_dvd_natCast.2 hdvd
  have e64 : ((2 ^ 64 : Nat) : Int) = 18446744073709551616 := by decide
  rw [e64, Int.natCast_pow] at t
  exact t
 unfold bits
 show IntKind.i64.wrap ((BitVec.ofInt 64 x &&& BitVec.ofInt 64 (2 ^ i - 1)).toNat : Int) = _
 rw [BitVec.toNat_and, e1, Nat.and_two_pow_sub_one_eq_mod, IntKind.wrap_i64]
 have h : (((BitVec.ofInt 64 x).toNat % 2 ^ i : Nat) : Int) = x % 2 ^ i := by
  rw [Int.natCast_emod, e2]
  have hp : (((2 : Nat) ^ i : Nat) : Int) = (2 : Int) ^ i := by rw [Int.natCast_pow]; rfl
  rw [hp]
  exact Int.emod_emod_of_dvd x hd2
 rw [h]
 have b0 : 0 ≤ x % 2 ^ i := Int.emod_nonneg _ (by have : (0:Int) < 2 ^ i := Int.pow_pos (by omega); omega)
 have b1 : x % 2 ^ i < 2 ^ i := Int.emod_lt_of_pos _ (Int.pow_pos (by omega))
 have b2 : (2 : Int) ^ i ≤ 4611686018427387904 := by
  have t := Int.ofNat_le.2 hle
  have e62 : ((2 ^ 62 : Nat) : Int) = 4611686018427387904 := by decide
  rw [e62, Int.natCast_pow] at t
  exact t
 omega
theorem and32 (x : Int) : bits .and .i64 x 4294967295 = x % 4294967296 := and_low x 32 (by omega)
theorem and8 (x : Int) : bits .and .i64 x 255 = x % 256 := and_low x 8 (by omega)
abbrev rotV (c s : Int) : Value := .agg #[.int .i64 c, .int .i64 s]
theorem I64_wf {n : Int} (h : (Lit.int .i64 n).wf = true) : I64 n := bounds_i64 h
theorem cl_id {a : Int} (h : -9223372036854775807 ≤ a) : cl a = a := by unfold cl; rw [if_neg (by omega)]
end Go.Proofs.YtgdcphmmehedoaaGreat.Fx