/- Plain SwP SwW -/
import Derived.Test.YtjhcejmfiekjgaaGreatSt0
set_option maxRecDepth 100000
set_option maxHeartbeats 64000000
/- Plain words: numbers, turns, vectors, shapes, masses. No Go in sight. -/
/- The plain arithmetic of fixed-point numbers: no Go in sight. -/
namespace Go.Proofs.YtjhcejmfiekjgaaGreat.Fx
def L : Int := -9223372036854775807
def M : Int := 9223372036854775807
def I64 (a : Int) : Prop := -9223372036854775808 ≤ a ∧ a ≤ 9223372036854775807
def cl (a : Int) : Int := if a < -9223372036854775807 then -9223372036854775807 else a
theorem cl_bd {a : Int} (h : I64 a) : L ≤ cl a ∧ cl a ≤ M := by
 unfold cl L M I64 at *; split <;> omega
def sat (a : Int) : Int := if a < -9223372036854775807 then -9223372036854775807 else if 9223372036854775807 < a then 9223372036854775807 else a
theorem sat_bd (a : Int) : L ≤ sat a ∧ sat a ≤ M := by
 unfold sat L M; split
 ·omega
 ·split <;> omega
def addF (a b : Int) : Int := sat (cl a + cl b)
def negF (a : Int) : Int := - cl a
def subF (a b : Int) : Int := addF a (negF b)
def absF (a : Int) : Int := if a < 0 then negF a else a
theorem absF_bd {a : Int} (h : I64 a) : 0 ≤ absF a ∧ absF a ≤ M := by
 unfold absF negF cl I64 M at *; split
 ·split <;> omega
 ·omega
def signF (n : Int) (t : Bool) : Int := if t then -(if n < 9223372036854775807 then n else 9223372036854775807) else (if n < 9223372036854775807 then n else 9223372036854775807)
def mulF (a b : Int) : Int := signF (absF a * absF b / 4294967296) (decide (a < 0) != decide (b < 0))
def ofF (n : Int) : Int := if 2147483647 < n then 9223372036854775807 else if n < -2147483647 then -9223372036854775807 else n * 4294967296
def bringF (a b c : Int) : Int := if cl a < cl b then cl b else if cl c < cl a then cl c else cl a
def divF (a b : Int) : Int := if a = 0 then 0 else signF (if absF b = 0 then 9223372036854775807 else absF a * 4294967296 / absF b) (decide (a < 0) != decide (b < 0))
def partF (n d : Int) : Int := divF (ofF n) (ofF d)
def sqAux (P : Int) : Nat → Int → Int
 | 0, r => r
 | k + 1, r => if (r + 2 ^ k) * (r + 2 ^ k) ≤ P then sqAux P k (r + 2 ^ k) else sqAux P k r
def sqrtF (a : Int) : Int := if a ≤ 0 then 0 else sqAux (a * 4294967296) 48 0
theorem I64_of (n : Int) : I64 (ofF n) := by unfold I64 ofF; split <;> (try split) <;> omega
end Go.Proofs.YtjhcejmfiekjgaaGreat.Fx
/- The plain laws of fixed-point numbers: no Go in sight. -/
namespace Go.Proofs.YtjhcejmfiekjgaaGreat.Fx
set_option linter.unusedVariables false
def Rg (a : Int) : Prop := -9223372036854775807 ≤ a ∧ a ≤ 9223372036854775807
theorem absR {a : Int} (h : Rg a) : absF a = if a < 0 then -a else a := by
 unfold absF negF cl Rg at *
 split
 ·rw [if_neg (by omega)]
 ·rfl
theorem absR_bd {a : Int} (h : Rg a) : 0 ≤ absF a ∧ absF a ≤ 9223372036854775807 := by
 rw [absR h]; unfold Rg at h; split <;> omega
theorem absR_neg {a : Int} (h : Rg a) : absF (-a) = absF a := by
 rw [absR h, absR (by unfold Rg at *; omega)]; (repeat' split) <;> omega
theorem absR_zero {a : Int} (h : Rg a) : absF a = 0 ↔ a = 0 := by
 rw [absR h]; split <;> omega
theorem sign_not (n : Int) (t : Bool) : signF n (!t) = - signF n t := by
 unfold signF; cases t <;> simp
theorem sign_zero (t : Bool) : signF 0 t = 0 := by cases t <;> decide
theorem mul_zero (a : Int) : mulF a 0 = 0 := by
 have e : absF 0 = 0 := by decide
 unfold mulF; rw [e, Int.mul_zero]; exact sign_zero _
theorem bnec (a b : Bool) : (a != b) = (b != a) := by cases a <;> cases b <;> rfl
theorem mul_comm' (a b : Int) : mulF a b = mulF b a := by
 unfold mulF; rw [Int.mul_comm, bnec]
theorem Rg_neg {a : Int} (h : Rg a) : Rg (-a) := by unfold Rg at *; omega
theorem clR {a : Int} (h : Rg a) : cl a = a := by unfold cl Rg at *; rw [if_neg (by omega)]
theorem addR {a b : Int} (ha : Rg a) (hb : Rg b) : addF a b = sat (a + b) := by unfold addF; rw [clR ha, clR hb]
theorem satR {a : Int} (h : Rg a) : sat a = a := by unfold sat Rg at *; rw [if_neg (by omega), if_neg (by omega)]
theorem add_zero {a : Int} (h : Rg a) : addF a 0 = a := by
 rw [addR h (by unfold Rg; omega), Int.add_zero, satR h]
theorem negR {a : Int} (h : Rg a) : negF a = -a := by unfold negF; rw [clR h]
theorem sub_self {a : Int} (h : Rg a) : subF a a = 0 := by
 unfold subF
 rw [negR h, addR h (Rg_neg h), show a + -a = 0 from by omega]; decide
theorem sat_le {a b : Int} (h : a ≤ b) : sat a ≤ sat b := by unfold sat; (repeat' split) <;> omega
theorem sign_pos {n : Int} : signF n false = if n < 9223372036854775807 then n else 9223372036854775807 := by unfold signF; rfl
theorem sign_le {m n : Int} (h : m ≤ n) : signF m false ≤ signF n false := by rw [sign_pos, sign_pos]; (repeat' split) <;> omega
theorem sign_ge {m n : Int} (h : m ≤ n) : signF n true ≤ signF m true := by
 have := sign_le h
 have a := sign_not n false
 have b := sign_not m false
 simp only [Bool.not_false] at a b; omega
theorem sign_nonneg {n : Int} (h : 0 ≤ n) : 0 ≤ signF n false := by rw [sign_pos]; split <;> omega
theorem sign_nonpos {n : Int} (h : 0 ≤ n) : signF n true ≤ 0 := by
 have := sign_nonneg h
 have a := sign_not n false
 simp only [Bool.not_false] at a; omega
theorem mul_le {a b d : Int} (ha : Rg a) (hb : Rg b) (hd : Rg d) (h0 : 0 ≤ d) (h : a ≤ b) : mulF a d ≤ mulF b d := by
 have dd : decide (d < 0) = false := decide_eq_false (by omega)
 have ad := absR_bd ha
 have bd := absR_bd hb
 have cd := absR_bd hd
 have pa : 0 ≤ absF a * absF d / 4294967296 := Int.ediv_nonneg (Int.mul_nonneg ad.1 cd.1) (by omega)
 have pb : 0 ≤ absF b * absF d / 4294967296 := Int.ediv_nonneg (Int.mul_nonneg bd.1 cd.1) (by omega)
 unfold mulF
 rw [dd, Bool.bne_false, Bool.bne_false]
 by_cases c1 : a < 0
 ·rw [decide_eq_true c1]
  by_cases c2 : b < 0
  ·rw [decide_eq_true c2]
   refine sign_ge (Int.ediv_le_ediv (by omega) (Int.mul_le_mul_of_nonneg_right ?_ cd.1))
   rw [absR ha, absR hb, if_pos c1, if_pos c2]; omega
  ·rw [decide_eq_false c2]
   have := sign_nonneg pb
   have := sign_nonpos pa
   omega
 ·have c2 : ¬ b < 0 := by omega
  rw [decide_eq_false c1, decide_eq_false c2]
  refine sign_le (Int.ediv_le_ediv (by omega) (Int.mul_le_mul_of_nonneg_right ?_ cd.1))
  rw [absR ha, absR hb, if_neg c1, if_neg c2]; omega
theorem sq_spec (P : Int) : ∀ (k : Nat) (r : Int), 0 ≤ r → r * r ≤ P → P < (r + 2 ^ k) * (r + 2 ^ k) → 0 ≤ sqAux P k r ∧ r ≤ sqAux P k r ∧ sqAux P k r < r + 2 ^ k ∧ sqAux P k r * sqAux P k r ≤ P ∧ P < (sqAux P k r + 1) * (sqAux P k r + 1)
 | 0, r, h0, h1, h2 => by simp [sqAux] at *; exact ⟨h0, by omega, h1, h2⟩
 | k + 1, r, h0, h1, h2 => by
  have hp : (0 : Int) < 2 ^ k := Int.pow_pos (by omega)
  have e : (2 : Int) ^ (k + 1) = 2 ^ k + 2 ^ k := by rw [Int.pow_succ]; omega
  rw [e] at h2
  rw [sqAux]
  split
  ·rename_i hc
   obtain ⟨a1, a2, a3, a4, a5⟩ := sq_spec P k (r + 2 ^ k) (by omega) hc (by rw [Int.add_assoc]; exact h2)
   exact ⟨a1, by omega, by omega, a4, a5⟩
  ·rename_i hc
   obtain ⟨a1, a2, a3, a4, a5⟩ := sq_spec P k r h0 h1 (by omega)
   exact ⟨a1, a2, by omega, a4, a5⟩
theorem sqrt_spec {a : Int} (h0 : 0 < a) (h1 : a ≤ 9223372036854775807) : 0 ≤ sqrtF a ∧ sqrtF a < 281474976710656 ∧ sqrtF a * sqrtF a ≤ a * 4294967296 ∧ a * 4294967296 < (sqrtF a + 1) * (sqrtF a + 1) := by
 unfold sqrtF
 rw [if_neg (by omega)]
 have e : ((0 : Int) + 2 ^ 48) * (0 + 2 ^ 48) = 79228162514264337593543950336 := by decide
 obtain ⟨a1, a2, a3, a4, a5⟩ := sq_spec (a * 4294967296) 48 0 (by omega) (by omega) (by rw [e]; omega)
 exact ⟨a1, by simpa using a3, a4, a5⟩
theorem sqrt_nonneg {a : Int} (h1 : a ≤ 9223372036854775807) : 0 ≤ sqrtF a ∧ sqrtF a < 281474976710656 := by
 by_cases c : 0 < a
 ·obtain ⟨a1, a2, a3⟩ := sqrt_spec c h1; exact ⟨a1, a2⟩
 ·unfold sqrtF; rw [if_pos (by omega)]; omega
end Go.Proofs.YtjhcejmfiekjgaaGreat.Fx
/- The plain laws of fixed-point numbers: what comes back. -/
namespace Go.Proofs.YtjhcejmfiekjgaaGreat.Fx
set_option linter.unusedVariables false
theorem sign_small {n : Int} (t : Bool) (h1 : n ≤ 9223372036854775807) : signF n t = if t then -n else n := by
 unfold signF; cases t <;> simp <;> omega
def Sm (a : Int) : Prop := -70368744177664 < a ∧ a < 70368744177664
theorem Sm_Rg {a : Int} (h : Sm a) : Rg a := by unfold Sm Rg at *; omega
theorem abs_Sm {a : Int} (h : Sm a) : 0 ≤ absF a ∧ absF a < 70368744177664 := by
 rw [absR (Sm_Rg h)]; unfold Sm at h; split <;> omega
theorem abs_ite {n : Int} {t : Bool} (h0 : 0 ≤ n) (h1 : n ≤ 9223372036854775807) : absF (if t then -n else n) = n := by
 cases t
 ·simp; rw [absR (by unfold Rg; omega)]; omega
 ·simp; rw [absR (by unfold Rg; omega)]; omega
theorem one_quo {b : Int} (hb : Sm b) (h : b ≠ 0) : absF (divF 1 b) = 4294967296 / absF b ∧ 0 ≤ 4294967296 / absF b ∧ 4294967296 / absF b ≤ 4294967296 := by
 have hy := abs_Sm hb
 have hyz : absF b ≠ 0 := fun e => h ((absR_zero (Sm_Rg hb)).1 e)
 have h0 : 0 ≤ 4294967296 / absF b := Int.ediv_nonneg (by omega) hy.1
 have h1 : 4294967296 / absF b ≤ 4294967296 := Int.ediv_le_self _ (by omega)
 refine ⟨?_, h0, h1⟩
 have e : absF 1 = 1 := by decide
 unfold divF
 rw [if_neg (by omega), if_neg hyz, e, Int.one_mul, sign_small _ (by omega)]
 exact abs_ite h0 (by omega)
end Go.Proofs.YtjhcejmfiekjgaaGreat.Fx
/- The table of sines, plain: the numbers of the program's own table. -/
namespace Go.Proofs.YtjhcejmfiekjgaaGreat.Fx
def tabL : List Int := [0, 26353424, 52705856, 79056303, 105403774, 131747276, 158085819, 184418409, 210744057, 237061769, 263370557, 289669429,
 315957395, 342233465, 368496651, 394745962, 420980412, 447199012, 473400776, 499584716, 525749847, 551895183, 578019742, 604122538,
 630202589, 656258914, 682290530, 708296459, 734275721, 760227338, 786150333, 812043729, 837906553, 863737830, 889536587, 915301854,
 941032661, 966728038, 992387019, 1018008636, 1043591926, 1069135926, 1094639673, 1120102207, 1145522571, 1170899806, 1196232957, 1221521071,
 1246763195, 1271958380, 1297105676, 1322204136, 1347252816, 1372250773, 1397197066, 1422090755, 1446930903, 1471716574, 1496446837, 1521120759,
 1545737412, 1570295869, 1594795204, 1619234497, 1643612827, 1667929275, 1692182927, 1716372869, 1740498191, 1764557983, 1788551342, 1812477362,
 1836335144, 1860123788, 1883842400, 1907490086, 1931065957, 1954569124, 1977998702, 2001353810, 2024633568, 2047837100, 2070963532, 2094011993,
 2116981616, 2139871536, 2162680890, 2185408821, 2208054473, 2230616993, 2253095531, 2275489241, 2297797281, 2320018810, 2342152991, 2364198992,
 2386155981, 2408023134, 2429799626, 2451484637, 2473077351, 2494576955, 2515982640, 2537293599, 2558509031, 2579628136, 2600650120, 2621574191,
 2642399561, 2663125446, 2683751066, 2704275644, 2724698408, 2745018589, 2765235421, 2785348143, 2805355999, 2825258235, 2845054101, 2864742853,
 2884323748, 2903796051, 2923159027, 2942411948, 2961554089, 2980584729, 2999503152, 3018308645, 3037000500, 3055578014, 3074040487, 3092387225,
 3110617535, 3128730733, 3146726136, 3164603066, 3182360851, 3199998822, 3217516315, 3234912670, 3252187232, 3269339351, 3286368382, 3303273682,
 3320054617, 3336710553, 3353240863, 3369644927, 3385922125, 3402071844, 3418093478, 3433986423, 3449750080, 3465383855, 3480887161, 3496259414,
 3511500034, 3526608449, 3541584088, 3556426389, 3571134792, 3585708745, 3600147697, 3614451106, 3628618433, 3642649144, 3656542712, 3670298613,
 3683916329, 3697395348, 3710735162, 3723935269, 3736995171, 3749914379, 3762692404, 3775328765, 3787822988, 3800174601, 3812383140, 3824448145,
 3836369162, 3848145741, 3859777440, 3871263820, 3882604450, 3893798902, 3904846754, 3915747591, 3926501002, 3937106583, 3947563934, 3957872662,
 3968032378, 3978042699, 3987903250, 3997613658, 4007173558, 4016582591, 4025840401, 4034946641, 4043900968, 4052703044, 4061352537, 4069849124,
 4078192482, 4086382299, 4094418266, 4102300081, 4110027446, 4117600071, 4125017671, 4132279966, 4139386683, 4146337555, 4153132319, 4159770720,
 4166252509, 4172577440, 4178745276, 4184755784, 4190608739, 4196303920, 4201841112, 4207220108, 4212440704, 4217502704, 4222405917, 4227150159,
 4231735252, 4236161021, 4240427302, 4244533933, 4248480760, 4252267634, 4255894413, 4259360959, 4262667143, 4265812840, 4268797931, 4271622305,
 4274285855, 4276788480, 4279130086, 4281310585, 4283329896, 4285187942, 4286884652, 4288419964, 4289793820, 4291006167, 4292056960, 4292946160,
 4293673732, 4294239650, 4294643893, 4294886444, 4294967296]
def tabF (n : Int) : Int := if n < 0 ∨ 257 ≤ n then 0 else tabL.getD n.toNat 0
theorem tabF_no {n : Int} (h : n < 0 ∨ 257 ≤ n) : tabF n = 0 := by unfold tabF; rw [if_pos h]
theorem tabF_in {n : Int} (h0 : 0 ≤ n) (h1 : n < 257) : tabF n = tabL.getD n.toNat 0 := by unfold tabF; rw [if_neg (by omega)]
theorem tabL_len : tabL.length = 257 := by decide +kernel
end Go.Proofs.YtjhcejmfiekjgaaGreat.Fx
/- Plain words for vectors: bounds of what the calls answer. -/
namespace Go.Proofs.YtjhcejmfiekjgaaGreat.Fx
set_option linter.unusedVariables false
theorem i64_rg {a : Int} (h : Rg a) : I64 a := by unfold Rg I64 at *; omega
theorem absF_nn (a : Int) : 0 ≤ absF a := by unfold absF negF cl; (repeat' split) <;> omega
theorem rg_sign {n : Int} (t : Bool) (h : 0 ≤ n) : Rg (signF n t) := by unfold signF Rg; (repeat' split) <;> omega
theorem rg_mul (a b : Int) : Rg (mulF a b) := by
 unfold mulF; exact rg_sign _ (Int.ediv_nonneg (Int.mul_nonneg (absF_nn _) (absF_nn _)) (by omega))
theorem rg_div (a b : Int) : Rg (divF a b) := by
 unfold divF; split
 ·unfold Rg; omega
 ·refine rg_sign _ ?_
  split
  ·omega
  ·have := absF_nn b
   exact Int.ediv_nonneg (Int.mul_nonneg (absF_nn _) (by omega)) this
theorem rg_sat (a : Int) : Rg (sat a) := by unfold sat Rg; (repeat' split) <;> omega
theorem rg_add (a b : Int) : Rg (addF a b) := rg_sat _
theorem rg_sub (a b : Int) : Rg (subF a b) := rg_sat _
theorem sqAux_bd (P : Int) : ∀ (k : Nat) (r : Int), r ≤ sqAux P k r ∧ sqAux P k r < r + 2 ^ k
 | 0, r => by simp [sqAux]; omega
 | k + 1, r => by
  have hp : (0 : Int) < 2 ^ k := Int.pow_pos (by omega)
  have e : (2 : Int) ^ (k + 1) = 2 ^ k + 2 ^ k := by rw [Int.pow_succ]; omega
  have h1 := sqAux_bd P k (r + 2 ^ k)
  have h2 := sqAux_bd P k r
  rw [sqAux, e]; split <;> omega
theorem sqrt_bd (a : Int) : 0 ≤ sqrtF a ∧ sqrtF a < 281474976710656 := by
 unfold sqrtF; split
 ·omega
 ·have := sqAux_bd (a * 4294967296) 48 0
  have e : (2 : Int) ^ 48 = 281474976710656 := by decide
  rw [e] at this; omega
theorem i64_mul (a b : Int) : I64 (mulF a b) := i64_rg (rg_mul a b)
theorem i64_div (a b : Int) : I64 (divF a b) := i64_rg (rg_div a b)
theorem i64_add (a b : Int) : I64 (addF a b) := i64_rg (rg_add a b)
theorem i64_sub (a b : Int) : I64 (subF a b) := i64_rg (rg_sub a b)
theorem i64_sqrt (a : Int) : I64 (sqrtF a) := by have := sqrt_bd a; unfold I64; omega
theorem i64_neg {a : Int} (h : I64 a) : I64 (negF a) := by have := cl_bd h; unfold negF I64 L M at *; omega
theorem i64_bring {a b c : Int} (ha : I64 a) (hb : I64 b) (hc : I64 c) : I64 (bringF a b c) := by
 have h1 := cl_bd ha; have h2 := cl_bd hb; have h3 := cl_bd hc
 unfold bringF I64 L M at *; (repeat' split) <;> omega
def lenF (a b : Int) : Int := sqrtF (addF (mulF a a) (mulF b b))
end Go.Proofs.YtjhcejmfiekjgaaGreat.Fx
/- Lengths, plain: what a length says of the squares, and a unit vector's length. -/
namespace Go.Proofs.YtjhcejmfiekjgaaGreat.Fx
set_option linter.unusedVariables false
theorem sq_nn (x : Int) : 0 ≤ x * x := by
 rcases Int.le_total 0 x with h | h
 ·exact Int.mul_nonneg h h
 ·have := Int.mul_nonneg (a := -x) (b := -x) (by omega) (by omega)
  rw [Int.neg_mul_neg] at this; exact this
theorem prod_in {x y X Y : Int} (hx0 : -X ≤ x) (hx1 : x ≤ X) (hy0 : -Y ≤ y) (hy1 : y ≤ Y) : -(X * Y) ≤ x * y ∧ x * y ≤ X * Y := by
 rcases Int.le_total 0 x with h | h
 ·have a1 : x * y ≤ x * Y := Int.mul_le_mul_of_nonneg_left hy1 h
  have a2 : x * (-Y) ≤ x * y := Int.mul_le_mul_of_nonneg_left hy0 h
  have a3 : x * Y ≤ X * Y := Int.mul_le_mul_of_nonneg_right hx1 (by omega)
  rw [Int.mul_neg] at a2
  omega
 ·have a1 : (-x) * y ≤ (-x) * Y := Int.mul_le_mul_of_nonneg_left hy1 (by omega)
  have a2 : (-x) * (-Y) ≤ (-x) * y := Int.mul_le_mul_of_nonneg_left hy0 (by omega)
  have a3 : (-x) * Y ≤ X * Y := Int.mul_le_mul_of_nonneg_right (by omega) (by omega)
  rw [Int.neg_mul_neg] at a2
  rw [Int.neg_mul] at a1 a2 a3
  rw [Int.neg_mul] at a1
  omega
end Go.Proofs.YtjhcejmfiekjgaaGreat.Fx
/- Lengths, plain: a length against its parts, and the way along two others. -/
namespace Go.Proofs.YtjhcejmfiekjgaaGreat.Fx
set_option linter.unusedVariables false
end Go.Proofs.YtjhcejmfiekjgaaGreat.Fx
/- Plain words for shapes: corners by a function, what a shape must keep. No Go in sight. -/
namespace Go.Proofs.YtjhcejmfiekjgaaGreat.Fx
set_option linter.unusedVariables false
abbrev Cs := Nat → Int × Int
def crossF (f : Cs) (i k j : Nat) : Int :=
 subF (mulF (subF (f k).1 (f i).1) (subF (f j).2 (f i).2)) (mulF (subF (f k).2 (f i).2) (subF (f j).1 (f i).1))
def NearP (p : Int × Int) : Prop := (-274877906944 ≤ p.1 ∧ p.1 ≤ 274877906944) ∧ (-274877906944 ≤ p.2 ∧ p.2 ≤ 274877906944)
def CvxP (f : Cs) (n : Nat) : Prop := ∀ i, i < n → ∀ j, j < n → j ≠ i → j ≠ (i + 1) % n → 0 < crossF f i ((i + 1) % n) j
def RightP (K R : Int) (n : Nat) (f : Cs) : Prop :=
 (K = 1 ∧ n = 0 ∧ 16777216 ≤ R ∧ R ≤ 274877906944) ∨ (K = 2 ∧ R = 0 ∧ 3 ≤ n ∧ n ≤ 8 ∧ (∀ i, i < n → NearP (f i)) ∧ CvxP f n)
theorem cvx_on {f : Cs} {n : Nat} (h3 : 3 ≤ n) (h8 : n ≤ 8) : CvxP f n ↔ ∀ i, i < n → ∀ on, 2 ≤ on → on < n → 0 < crossF f i ((i + 1) % n) ((i + on) % n) := by
 constructor
 ·intro h i hi on h2 hn
  refine h i hi _ (Nat.mod_lt _ (by omega)) ?_ ?_
  ·rcases (show n = 3 ∨ n = 4 ∨ n = 5 ∨ n = 6 ∨ n = 7 ∨ n = 8 by omega) with rfl | rfl | rfl | rfl | rfl | rfl <;> omega
  ·rcases (show n = 3 ∨ n = 4 ∨ n = 5 ∨ n = 6 ∨ n = 7 ∨ n = 8 by omega) with rfl | rfl | rfl | rfl | rfl | rfl <;> omega
 ·intro h i hi j hj h1 h2
  have e : ∃ on, 2 ≤ on ∧ on < n ∧ (i + on) % n = j := by
   refine ⟨(j + n - i) % n, ?_, Nat.mod_lt _ (by omega), ?_⟩ <;>
   rcases (show n = 3 ∨ n = 4 ∨ n = 5 ∨ n = 6 ∨ n = 7 ∨ n = 8 by omega) with rfl | rfl | rfl | rfl | rfl | rfl <;> omega
  obtain ⟨on, a, b, rfl⟩ := e
  exact h i hi on a b
theorem near_bring {x : Int} (h : I64 x) : bringF x (negF 274877906944) 274877906944 = x ↔ (-274877906944 ≤ x ∧ x ≤ 274877906944) := by
 have e : negF 274877906944 = -274877906944 := by decide
 rw [e]; unfold bringF cl I64 at *
 constructor
 ·intro h1; revert h1; (repeat' split) <;> omega
 ·intro h1; (repeat' split) <;> omega
def Top (f : Cs) (n : Nat) (r : Int) : Prop := 0 ≤ r ∧ (∀ i, i < n → lenF (f i).1 (f i).2 ≤ r) ∧ (r = 0 ∨ ∃ i, i < n ∧ r = lenF (f i).1 (f i).2)
theorem len_nn (a b : Int) : 0 ≤ lenF a b := (sqrt_bd _).1
theorem top_nil (f : Cs) : Top f 0 0 := ⟨by omega, fun i hi => absurd hi (by omega), .inl rfl⟩
theorem top_next {f : Cs} {n : Nat} {r : Int} (h : Top f n r) : Top f (n + 1) (max r (lenF (f n).1 (f n).2)) := by
 obtain ⟨a, b, c⟩ := h
 have l := len_nn (f n).1 (f n).2
 refine ⟨by omega, fun i hi => ?_, ?_⟩
 ·rcases (show i < n ∨ i = n by omega) with h | rfl
  ·have := b i h; omega
  ·omega
 ·rcases (show r ≤ lenF (f n).1 (f n).2 ∨ lenF (f n).1 (f n).2 < r by omega) with h | h
  ·exact .inr ⟨n, by omega, by omega⟩
  ·rcases c with rfl | ⟨i, hi, e⟩
   ·omega
   ·exact .inr ⟨i, by omega, by omega⟩
theorem top_has (f : Cs) : ∀ n, ∃ r, Top f n r
 | 0 => ⟨0, top_nil f⟩
 | n + 1 => by obtain ⟨r, h⟩ := top_has f n; exact ⟨_, top_next h⟩
end Go.Proofs.YtjhcejmfiekjgaaGreat.Fx
/- Plain words for shapes whose corners lie on a grid: boxes, and places of the ring. -/
namespace Go.Proofs.YtjhcejmfiekjgaaGreat.Fx
set_option linter.unusedVariables false
def grid (x y : Nat → Int) (k : Int) : Cs := fun i => (x i * (k * 4194304), y i * (k * 4194304))
def icross (x y : Nat → Int) (i k j : Nat) : Int := (x k - x i) * (y j - y i) - (y k - y i) * (x j - x i)
structure Grid (x y : Nat → Int) (k : Int) (n : Nat) : Prop where
 k0 : 1 ≤ k
 k1 : k ≤ 64
 n0 : 3 ≤ n
 n1 : n ≤ 8
 xb : ∀ i, i < n → -65 ≤ x i ∧ x i ≤ 65
 yb : ∀ i, i < n → -65 ≤ y i ∧ y i ≤ 65
 cv : ∀ i, i < n → ∀ j, j < n → j ≠ i → j ≠ (i + 1) % n → 0 < icross x y i ((i + 1) % n) j
theorem mul_exact {a b c : Int} (ha : Rg a) (hb : Rg b) (hc : Rg c) (h : a * b = 4294967296 * c) : mulF a b = c := by
 unfold mulF
 rw [absR ha, absR hb]
 by_cases h0 : a < 0 <;> by_cases h1 : b < 0 <;> simp only [h0, h1, if_true, if_false, decide_true, decide_false, bne_self_eq_false, Bool.true_bne, Bool.false_bne, Bool.not_false]
 ·have e : -a * -b = 4294967296 * c := by rw [Int.neg_mul_neg]; exact h
  have p : 0 < a * b := Int.mul_pos_of_neg_of_neg h0 h1
  rw [e, Int.mul_ediv_cancel_left c (by omega), sign_small false (by unfold Rg at hc; omega)]; simp
 ·have e : -a * b = 4294967296 * (-c) := by rw [Int.neg_mul, h]; omega
  rw [e, Int.mul_ediv_cancel_left _ (by omega), sign_small true (by unfold Rg at hc; omega)]; simp
 ·have e : a * -b = 4294967296 * (-c) := by rw [Int.mul_neg, h]; omega
  rw [e, Int.mul_ediv_cancel_left _ (by omega), sign_small true (by unfold Rg at hc; omega)]; simp
 ·rw [h, Int.mul_ediv_cancel_left c (by omega), sign_small false (by unfold Rg at hc; omega)]; simp
theorem sub_exact {a b : Int} (ha : Rg a) (hb : Rg b) (h : Rg (a - b)) : subF a b = a - b := by
 unfold subF
 rw [negR hb, addR ha (Rg_neg hb), satR (by rw [← Int.sub_eq_add_neg]; exact h), Int.sub_eq_add_neg]
def St (z : Int) : Prop := 4194304 ≤ z ∧ z ≤ 268435456
theorem st_of {k : Int} (h0 : 1 ≤ k) (h1 : k ≤ 64) : St (k * 4194304) := by unfold St; omega
theorem st_mul {z a A : Int} (hz : St z) (h0 : -A ≤ a) (h1 : a ≤ A) (hA : 0 ≤ A) : -(268435456 * A) ≤ a * z ∧ a * z ≤ 268435456 * A := by
 have h := prod_in (x := a) (y := z) (X := A) (Y := 268435456) h0 h1 (by unfold St at hz; omega) hz.2
 rw [Int.mul_comm 268435456 A]; exact h
theorem st_rg {z a : Int} (hz : St z) (h0 : -200 ≤ a) (h1 : a ≤ 200) : Rg (a * z) ∧ -53687091200 ≤ a * z ∧ a * z ≤ 53687091200 := by
 have h := st_mul hz h0 h1 (by omega)
 unfold Rg; omega
theorem sub_grid {z a b : Int} (hz : St z) (ha : -65 ≤ a ∧ a ≤ 65) (hb : -65 ≤ b ∧ b ≤ 65) : subF (a * z) (b * z) = (a - b) * z := by
 have e : (a - b) * z = a * z - b * z := Int.sub_mul a b z
 rw [sub_exact (st_rg hz (by omega) (by omega)).1 (st_rg hz (by omega) (by omega)).1 (by rw [← e]; exact (st_rg hz (by omega) (by omega)).1), e]
theorem mul_grid {k a b : Int} (h0 : 1 ≤ k) (h1 : k ≤ 64) (ha : -130 ≤ a ∧ a ≤ 130) (hb : -130 ≤ b ∧ b ≤ 130) : mulF (a * (k * 4194304)) (b * (k * 4194304)) = a * b * (k * k * 4096) ∧ -283548057600 ≤ a * b * (k * k * 4096) ∧ a * b * (k * k * 4096) ≤ 283548057600 := by
 have hz := st_of h0 h1
 have kk := prod_in (x := k) (y := k) (X := 64) (Y := 64) (by omega) h1 (by omega) h1
 have k2 := sq_nn k
 have ab := prod_in (x := a) (y := b) (X := 130) (Y := 130) ha.1 ha.2 hb.1 hb.2
 have q := prod_in (x := a * b) (y := k * k * 4096) (X := 16900) (Y := 16777216) (by omega) (by omega) (by omega) (by omega)
 have e : a * (k * 4194304) * (b * (k * 4194304)) = 4294967296 * (a * b * (k * k * 4096)) := by
  have e0 : ∀ z : Int, a * (k * z) * (b * (k * z)) = a * b * (k * k) * (z * z) := fun z => by ac_rfl
  rw [e0, show a * b * (k * k * 4096) = a * b * (k * k) * 4096 from (Int.mul_assoc _ _ _).symm]; omega
 refine ⟨mul_exact (st_rg hz (by omega) (by omega)).1 (st_rg hz (by omega) (by omega)).1 (by unfold Rg; omega) e, by omega, by omega⟩
theorem cross_grid {x y : Nat → Int} {k : Int} {n i l j : Nat} (g : Grid x y k n) (hi : i < n) (hl : l < n) (hj : j < n) : crossF (grid x y k) i l j = icross x y i l j * (k * k * 4096) := by
 have hz := st_of g.k0 g.k1
 have xi := g.xb i hi; have xl := g.xb l hl; have xj := g.xb j hj
 have yi := g.yb i hi; have yl := g.yb l hl; have yj := g.yb j hj
 unfold crossF grid icross
 simp only []
 rw [sub_grid hz xl xi, sub_grid hz yj yi, sub_grid hz yl yi, sub_grid hz xj xi]
 obtain ⟨e1, b1, b2⟩ := mul_grid (a := x l - x i) (b := y j - y i) g.k0 g.k1 (by omega) (by omega)
 obtain ⟨e2, b3, b4⟩ := mul_grid (a := y l - y i) (b := x j - x i) g.k0 g.k1 (by omega) (by omega)
 rw [e1, e2, sub_exact (by unfold Rg; omega) (by unfold Rg; omega) (by unfold Rg; omega)]
 exact (Int.sub_mul _ _ _).symm
theorem kk_pos {k : Int} (h0 : 1 ≤ k) : 0 < k * k * 4096 := by
 have := Int.mul_pos (show 0 < k by omega) (show 0 < k by omega); omega
theorem pos_mul {a z : Int} (hz : 0 < z) : 0 < a * z ↔ 0 < a := by
 constructor
 ·intro h
  refine Int.not_le.1 fun h0 => ?_
  have := Int.mul_le_mul_of_nonneg_right h0 (show 0 ≤ z by omega)
  omega
 ·intro h; exact Int.mul_pos h hz
theorem grid_i64 {x y : Nat → Int} {k : Int} {n : Nat} (g : Grid x y k n) : ∀ i, i < n → I64 (grid x y k i).1 ∧ I64 (grid x y k i).2 := fun i hi =>
 ⟨i64_rg (st_rg (st_of g.k0 g.k1) (by have := g.xb i hi; omega) (by have := g.xb i hi; omega)).1, i64_rg (st_rg (st_of g.k0 g.k1) (by have := g.yb i hi; omega) (by have := g.yb i hi; omega)).1⟩
theorem grid_near {x y : Nat → Int} {k : Int} {n : Nat} (g : Grid x y k n) : ∀ i, i < n → NearP (grid x y k i) := fun i hi => by
 have a := st_rg (st_of g.k0 g.k1) (a := x i) (by have := g.xb i hi; omega) (by have := g.xb i hi; omega)
 have b := st_rg (st_of g.k0 g.k1) (a := y i) (by have := g.yb i hi; omega) (by have := g.yb i hi; omega)
 unfold NearP grid
 simp only []
 omega
theorem grid_right {x y : Nat → Int} {k : Int} {n : Nat} (g : Grid x y k n) : RightP 2 0 n (grid x y k) := by
 refine .inr ⟨rfl, rfl, g.n0, g.n1, grid_near g, fun i hi j hj h1 h2 => ?_⟩
 rw [cross_grid g hi (Nat.mod_lt _ (by have := g.n0; omega)) hj]
 exact (pos_mul (kk_pos g.k0)).2 (g.cv i hi j hj h1 h2)
def ringL : List (Int × Int) := [(65, 0), (52, 39), (25, 60), (-25, 60), (-52, 39), (-65, 0), (-52, -39), (-25, -60), (25, -60), (52, -39)]
def ringX (n t i : Nat) : Int := (ringL.getD ((i * 10 / n + t) % 10) (0, 0)).1
def ringY (n t i : Nat) : Int := (ringL.getD ((i * 10 / n + t) % 10) (0, 0)).2
def ringOk (n t : Nat) : Bool := (List.range n).all fun i => decide (-65 ≤ ringX n t i) && decide (ringX n t i ≤ 65) && decide (-65 ≤ ringY n t i) && decide (ringY n t i ≤ 65) &&
 (List.range n).all fun j => decide (j = i) || decide (j = (i + 1) % n) || decide (0 < icross (ringX n t) (ringY n t) i ((i + 1) % n) j)
theorem ring_check : (List.range 6).all (fun n => (List.range 10).all fun t => ringOk (3 + n) t) = true := by decide +kernel
theorem ring_mod (n t : Nat) : ringX n t = ringX n (t % 10) ∧ ringY n t = ringY n (t % 10) := by
 constructor <;> funext i <;> (first | unfold ringX | unfold ringY) <;> rw [Nat.add_mod_mod]
theorem ring_grid {k : Int} {n : Nat} (t : Nat) (k0 : 1 ≤ k) (k1 : k ≤ 64) (n0 : 3 ≤ n) (n1 : n ≤ 8) : Grid (ringX n t) (ringY n t) k n := by
 have h := ring_check
 rw [List.all_eq_true] at h
 have h1 := h (n - 3) (List.mem_range.2 (by omega))
 rw [List.all_eq_true] at h1
 have h2 := h1 (t % 10) (List.mem_range.2 (Nat.mod_lt _ (by omega)))
 rw [show 3 + (n - 3) = n by omega] at h2
 unfold ringOk at h2
 rw [List.all_eq_true] at h2
 rw [(ring_mod n t).1, (ring_mod n t).2]
 refine ⟨k0, k1, n0, n1, fun i hi => ?_, fun i hi => ?_, fun i hi j hj a b => ?_⟩
 ·have h3 := h2 i (List.mem_range.2 hi)
  simp only [Bool.and_eq_true, decide_eq_true_eq] at h3
  omega
 ·have h3 := h2 i (List.mem_range.2 hi)
  simp only [Bool.and_eq_true, decide_eq_true_eq] at h3
  omega
 ·have h3 := h2 i (List.mem_range.2 hi)
  simp only [Bool.and_eq_true, decide_eq_true_eq] at h3
  have h4 := h3.2
  rw [List.all_eq_true] at h4
  have h5 := h4 j (List.mem_range.2 hj)
  simp only [Bool.or_eq_true, decide_eq_true_eq] at h5
  rcases h5 with (h5 | h5) | h5
  ·exact absurd h5 a
  ·exact absurd h5 b
  ·exact h5
def boxX (a : Int) (i : Nat) : Int := if i = 0 ∨ i = 3 then -a else a
def boxY (b : Int) (i : Nat) : Int := if i = 0 ∨ i = 1 then -b else b
theorem box_grid {a b : Int} (a0 : 1 ≤ a) (a1 : a ≤ 64) (b0 : 1 ≤ b) (b1 : b ≤ 64) : Grid (boxX a) (boxY b) 64 4 := by
 have p := Int.mul_pos (show 0 < a by omega) (show 0 < b by omega)
 refine ⟨by omega, by omega, by omega, by omega, fun i hi => by unfold boxX; split <;> omega, fun i hi => by unfold boxY; split <;> omega, fun i hi j hj h1 h2 => ?_⟩
 unfold icross
 rcases (show i = 0 ∨ i = 1 ∨ i = 2 ∨ i = 3 by omega) with rfl | rfl | rfl | rfl <;> rcases (show j = 0 ∨ j = 1 ∨ j = 2 ∨ j = 3 by omega) with rfl | rfl | rfl | rfl <;>
  first
  | (exfalso; omega)
  | (simp only [boxX, boxY, true_or, or_true, if_true, if_false, Nat.reduceAdd, Nat.reduceMod, Nat.reduceEqDiff, or_self, Int.sub_mul, Int.mul_sub, Int.mul_neg, Int.neg_mul, Int.mul_comm b a]; omega)
end Go.Proofs.YtjhcejmfiekjgaaGreat.Fx
/- Plain words for shapes: the ways away from the sides. -/
namespace Go.Proofs.YtjhcejmfiekjgaaGreat.Fx
set_option linter.unusedVariables false
def uF (a b : Int) : Int × Int := if lenF a b = 0 then (0, 0) else (divF a (lenF a b), divF b (lenF a b))
def normF (f : Cs) (n i : Nat) : Int × Int :=
 let u := uF (subF (f ((i + 1) % n)).1 (f i).1) (subF (f ((i + 1) % n)).2 (f i).2)
 (u.2, negF u.1)
end Go.Proofs.YtjhcejmfiekjgaaGreat.Fx
/- Grids around the middle: the middle lies to the left of each side. No Go in sight. -/
namespace Go.Proofs.YtjhcejmfiekjgaaGreat.Fx
set_option linter.unusedVariables false
def Round (x y : Nat → Int) (n : Nat) : Prop := ∀ i, i < n → 0 ≤ x i * y ((i + 1) % n) - y i * x ((i + 1) % n)
theorem box_round {a b : Int} (a0 : 1 ≤ a) (b0 : 1 ≤ b) : Round (boxX a) (boxY b) 4 := fun i hi => by
 have p := Int.mul_pos (show 0 < a by omega) (show 0 < b by omega)
 rcases (show i = 0 ∨ i = 1 ∨ i = 2 ∨ i = 3 by omega) with rfl | rfl | rfl | rfl <;>
  (simp only [boxX, boxY, true_or, or_true, if_true, if_false, Nat.reduceAdd, Nat.reduceMod, Nat.reduceEqDiff, or_self, Int.mul_neg, Int.neg_mul, Int.mul_comm b a]; omega)
def roundOk (n t : Nat) : Bool := (List.range n).all fun i => decide (0 ≤ ringX n t i * ringY n t ((i + 1) % n) - ringY n t i * ringX n t ((i + 1) % n))
theorem round_check : (List.range 6).all (fun n => (List.range 10).all fun t => roundOk (3 + n) t) = true := by decide +kernel
theorem ring_round {n : Nat} (t : Nat) (n0 : 3 ≤ n) (n1 : n ≤ 8) : Round (ringX n t) (ringY n t) n := fun i hi => by
 have h := round_check
 rw [List.all_eq_true] at h
 have h1 := h (n - 3) (List.mem_range.2 (by omega))
 rw [List.all_eq_true] at h1
 have h2 := h1 (t % 10) (List.mem_range.2 (Nat.mod_lt _ (by omega)))
 rw [show 3 + (n - 3) = n by omega] at h2
 unfold roundOk at h2
 rw [List.all_eq_true] at h2
 have h3 := h2 i (List.mem_range.2 hi)
 rw [(ring_mod n t).1, (ring_mod n t).2]
 simpa using h3
end Go.Proofs.YtjhcejmfiekjgaaGreat.Fx
/- Plain words for masses: areas, and how a shape resists to be spun, of grids, circles and rectangles. No Go in sight. -/
namespace Go.Proofs.YtjhcejmfiekjgaaGreat.Fx
set_option linter.unusedVariables false
def crossV (a b : Int × Int) : Int := subF (mulF a.1 b.2) (mulF a.2 b.1)
def dotV (a b : Int × Int) : Int := addF (mulF a.1 b.1) (mulF a.2 b.2)
def areaT (a b : Int × Int) : Int := divF (crossV a b) 8589934592
def roundT (a b : Int × Int) : Int := divF (mulF (crossV a b) (addF (addF (dotV a a) (dotV a b)) (dotV b b))) 51539607552
def sumT (T : Int × Int → Int × Int → Int) (f : Cs) (n : Nat) : Nat → Int
 | 0 => 0
 | m + 1 => addF (sumT T f n m) (T (f m) (f ((m + 1) % n)))
def sumP (T : Int × Int → Int × Int → Int) (f : Cs) (n : Nat) : Nat → Int
 | 0 => 0
 | m + 1 => sumP T f n m + T (f m) (f ((m + 1) % n))
theorem sum_rg (T : Int × Int → Int × Int → Int) (f : Cs) (n : Nat) : ∀ m, Rg (sumT T f n m)
 | 0 => by unfold sumT Rg; omega
 | m + 1 => rg_add _ _
section
variable {x y : Nat → Int} {k : Int} {n i l : Nat}
theorem mul_nn {a b : Int} (ha : Rg a) (hb : Rg b) (h0 : 0 ≤ a) (h1 : 0 ≤ b) : 0 ≤ mulF a b := by
 have := mul_le (a := 0) (b := a) (d := b) (by unfold Rg; omega) ha hb h1 h0
 rw [mul_comm' 0, mul_zero] at this
 exact this
def twice (f : Cs) : Cs := fun i => (2 * (f i).1, 2 * (f i).2)
end
end Go.Proofs.YtjhcejmfiekjgaaGreat.Fx
/- Items and the pairs of them that meet, plain. -/
namespace Go.Proofs.YtjhcejmfiekjgaaGreat.Fx
set_option linter.unusedVariables false
structure It where
 id : Int
 lx : Int
 ly : Int
 hx : Int
 hy : Int
 st : Bool
instance : Inhabited It := ⟨⟨0, 0, 0, 0, 0, false⟩⟩
def meetP (a b : It) : Prop := (cl a.lx ≤ cl b.hx ∧ cl b.lx ≤ cl a.hx) ∧ (cl a.ly ≤ cl b.hy ∧ cl b.ly ≤ cl a.hy)
instance (a b : It) : Decidable (meetP a b) := by unfold meetP; infer_instance
def taken (a b : It) : Bool := !(a.st && b.st) && decide (meetP a b)
def beyB (a b : It) : Bool := decide (cl a.hx < cl b.lx)
def pairOf (a b : It) : Int × Int := (min a.id b.id, max a.id b.id)
def inner (a : It) : List It → List (Int × Int)
 | [] => []
 | b :: l => if beyB a b then [] else if taken a b then pairOf a b :: inner a l else inner a l
def outer : List It → List (Int × Int)
 | [] => []
 | a :: l => inner a l ++ outer l
def withF (a : It) (l : List It) : List (Int × Int) := (l.filter (taken a)).map (pairOf a)
def collect : List It → List (Int × Int)
 | [] => []
 | a :: l => withF a l ++ collect l
def ltP (p q : Int × Int) : Bool := decide (p.1 < q.1) || (decide (p.1 = q.1) && decide (p.2 < q.2))
def leP (p q : Int × Int) : Bool := !ltP q p
def sortP (l : List (Int × Int)) : List (Int × Int) := l.mergeSort leP
def pairsF (l : List It) : List (Int × Int) := sortP (collect l)
def Apart (l : List It) : Prop := l.Pairwise (fun a b => a.id ≠ b.id)
def keepP (z : Int) (p : Int × Int) : Bool := !(decide (p.1 = z) || decide (p.2 = z))
end Go.Proofs.YtjhcejmfiekjgaaGreat.Fx
/- Lists in memory, whatever the elements' cells. -/
namespace Go.Proofs.YtjhcejmfiekjgaaGreat.Fx
open Go.ChangeShapes Go.WideShapes Go.ChangeAt Go.RowKit
set_option linter.unusedVariables false
section
variable {α : Type} {enc : α → List Value} {k : Nat}
def flatE (enc : α → List Value) (l : List α) : List Value := l.flatMap enc
theorem flatE_len (hk : ∀ x, (enc x).length = k) : ∀ l : List α, (flatE enc l).length = l.length * k
 | [] => by simp [flatE]
 | x :: l => by
  have := flatE_len hk l
  show (enc x ++ flatE enc l).length = _
  rw [List.length_append, hk, this, List.length_cons, Nat.add_mul, Nat.one_mul, Nat.add_comm]
theorem flatE_snoc (l : List α) (x : α) : flatE enc l ++ enc x = flatE enc (l ++ [x]) := by
 unfold flatE; rw [List.flatMap_append]; simp
theorem flatE_append (l r : List α) : flatE enc l ++ flatE enc r = flatE enc (l ++ r) := by
 unfold flatE; rw [List.flatMap_append]
theorem flatE_at (hk : ∀ x, (enc x).length = k) : ∀ (l : List α) (i : Nat) (x : α), l[i]? = some x → ∀ j, j < k → (flatE enc l)[i * k + j]? = (enc x)[j]?
 | [], i, x, h, _, _ => by simp at h
 | y :: l, 0, x, h, j, hj => by
  cases h
  show (enc y ++ flatE enc l)[0 * k + j]? = _
  rw [Nat.zero_mul, Nat.zero_add, List.getElem?_append_left (by rw [hk]; exact hj)]
 | y :: l, i + 1, x, h, j, hj => by
  have h' : l[i]? = some x := by simpa using h
  show (enc y ++ flatE enc l)[(i + 1) * k + j]? = _
  rw [List.getElem?_append_right (by rw [hk, Nat.add_mul, Nat.one_mul]; omega), hk, ← flatE_at hk l i x h' j hj]
  congr 1
  rw [Nat.add_mul, Nat.one_mul]; omega
theorem flatE_one (h1 : ∀ x, ∀ v ∈ enc x, v.oneCell' = true) (l : List α) : ∀ u ∈ flatE enc l, u.oneCell' = true := by
 intro u hu
 obtain ⟨x, _, hx⟩ := List.mem_flatMap.1 hu
 exact h1 x u hx
def ElT (enc : α → List Value) (w : World) (b o : Nat) (x : α) : Prop := ∀ j v, (enc x)[j]? = some v → w.cell? ⟨b, o + j, none⟩ = some v
def LsB (enc : α → List Value) (k : Nat) (w : World) (b off : Nat) (l : List α) : Prop := ∀ i x, l[i]? = some x → ElT enc w b (off + i * k) x
def LsT (enc : α → List Value) (k : Nat) (w : World) (ao : Option Addr) (l : List α) : Prop := 0 < l.length → ∃ b off, ao = some ⟨b, off, none⟩ ∧ b < w.heap.size ∧ LsB enc k w b off l
theorem LsB.below {w v : World} {b off B : Nat} {l : List α} (h : LsB enc k w b off l) (kk : Below B w v) (hb : b < B) : LsB enc k v b off l := fun i x hi j u hu => (kk.cell (p := ⟨b, off + i * k + j, none⟩) hb).trans (h i x hi j u hu)
theorem LsT.below {w v : World} {ao : Option Addr} {l : List α} (h : LsT enc k w ao l) (kk : Below w.heap.size w v) : LsT enc k v ao l := fun hl => by
 obtain ⟨b, off, e, hb, h⟩ := h hl
 exact ⟨b, off, e, Nat.lt_of_lt_of_le hb kk.size, h.below kk hb⟩
theorem LsT.kept {w v : World} {ao : Option Addr} {l : List α} (h : LsT enc k w ao l) (kk : Made w.heap.size w v) : LsT enc k v ao l := h.below kk.1
def Lies (B : Nat) (ao : Option Addr) : Prop := ∀ g off, ao = some ⟨g, off, none⟩ → g < B
theorem LsT.stays {w v : World} {ao : Option Addr} {l : List α} {B : Nat} (h : LsT enc k w ao l) (kk : Below B w v) (hB : Lies B ao) : LsT enc k v ao l := fun hl => by
 obtain ⟨b, off, e, hb, h⟩ := h hl
 exact ⟨b, off, e, Nat.lt_of_lt_of_le hb kk.size, h.below kk (hB b off e)⟩
theorem LsT.flat_at (hk : ∀ x, (enc x).length = k) {w : World} {b off : Nat} {l : List α} (h : LsB enc k w b off l) : ∀ j u, (flatE enc l)[j]? = some u → w.cell? ⟨b, off + j, none⟩ = some u := by
 intro j u hu
 have hj : j < l.length * k := by rw [← flatE_len hk l]; exact (List.getElem?_eq_some_iff.1 hu).1
 have k0 : 0 < k := by rcases Nat.eq_zero_or_pos k with e | e
                       ·subst e; simp at hj
                       ·exact e
 have hi : j / k < l.length := Nat.div_lt_of_lt_mul (by rw [Nat.mul_comm]; exact hj)
 have hr : j % k < k := Nat.mod_lt _ k0
 have e : j / k * k + j % k = j := by rw [Nat.mul_comm]; exact Nat.div_add_mod j k
 have hx : l[j / k]? = some l[j / k] := List.getElem?_eq_getElem hi
 have := flatE_at hk l (j / k) _ hx (j % k) hr
 rw [e, hu] at this
 have := h (j / k) _ hx (j % k) u this.symm
 rw [Nat.add_assoc, e] at this
 exact this
theorem LsT.of_own (hk : ∀ x, (enc x).length = k) {w : World} {base : Nat} {t : TypeId} {v : Value} {l : List α} (h : w.ownsRow base t k v l.length (flatE enc l)) :
  ∃ ao c, v = .slice ao l.length c ∧ l.length ≤ c ∧ LsT enc k w ao l ∧ ∀ g off, ao = some ⟨g, off, none⟩ → base ≤ g ∧ g < w.heap.size := by
 rcases h.2 with ⟨hv, h0⟩ | ⟨g, cap, cur, hv, hb, hh, hc, hm, hs, ht⟩
 ·exact ⟨none, 0, by rw [h0]; exact hv, by omega, fun hl => by omega, fun g off e => by cases e⟩
 ·refine ⟨_, cap, hv, hc, fun hl => ⟨g, 0, rfl, Has.here (t := t) (cs := cur) hh, fun i x hi j u hu => ?_⟩, fun g' off e => ?_⟩
  ·have hj : j < k := by rw [← hk x]; exact (List.getElem?_eq_some_iff.1 hu).1
   have hi' : i < l.length := (List.getElem?_eq_some_iff.1 hi).1
   have hlt : i * k + j < l.length * k := by
    have := Nat.mul_le_mul_right k (show i + 1 ≤ l.length from hi'); rw [Nat.add_mul, Nat.one_mul] at this; omega
   have e := flatE_at hk l i x hi j hj
   have hG : Has w g t cur := hh
   rw [Nat.zero_add, hG.at_, ← hu, ← e, ← ht, List.getElem?_take, if_pos hlt]
   simp
  ·cases e
   exact ⟨hb, Has.here (t := t) (cs := cur) hh⟩
theorem own_below {w v : World} {base n : Nat} {t : TypeId} {size B : Nat} {x : Value} {xs : List Value} (h : w.ownsRow base t size x n xs) (kk : Below w.heap.size w v) : v.ownsRow base t size x n xs := by
 obtain ⟨h1, h2⟩ := h
 refine ⟨h1, h2.imp id ?_⟩
 rintro ⟨g, cap, cur, e, hb, hh, r⟩
 have hg : g < w.heap.size := Has.here (t := t) (cs := cur) hh
 exact ⟨g, cap, cur, e, hb, (kk.block g hg).trans hh, r⟩
theorem own_apart {w : World} {base n g : Nat} {t t' : TypeId} {size : Nat} {x : Value} {xs : List Value} {cs : Array Value} (h : w.ownsRow base t size x n xs) (hh : Has w g t' cs) (ht : t ≠ t') : some g ≠ x.ownBlock := by
 intro e
 rcases h.2 with ⟨hv, _⟩ | ⟨g', cap, cur, hv, _, hc, _⟩
 ·rw [hv] at e; cases e
 ·rw [hv] at e
  cases e
  have := hc.symm.trans hh
  simp at this
  exact ht this.2
end
def encI (x : It) : List Value := [.int .i64 x.id, .int .i64 x.lx, .int .i64 x.ly, .int .i64 x.hx, .int .i64 x.hy, .bool x.st]
def encP (p : Int × Int) : List Value := [.int .i64 p.1, .int .i64 p.2]
theorem ElT.i6 {w : World} {b o : Nat} {x : It} (h : ElT encI w b o x) : w.cell? ⟨b, o, none⟩ = some (.int .i64 x.id) ∧ w.cell? ⟨b, o + 1, none⟩ = some (.int .i64 x.lx) ∧ w.cell? ⟨b, o + 2, none⟩ = some (.int .i64 x.ly) ∧ w.cell? ⟨b, o + 3, none⟩ = some (.int .i64 x.hx) ∧ w.cell? ⟨b, o + 4, none⟩ = some (.int .i64 x.hy) ∧ w.cell? ⟨b, o + 5, none⟩ = some (.bool x.st) :=
 ⟨h 0 _ rfl, h 1 _ rfl, h 2 _ rfl, h 3 _ rfl, h 4 _ rfl, h 5 _ rfl⟩
theorem ElT.p2 {w : World} {b o : Nat} {p : Int × Int} (h : ElT encP w b o p) : w.cell? ⟨b, o, none⟩ = some (.int .i64 p.1) ∧ w.cell? ⟨b, o + 1, none⟩ = some (.int .i64 p.2) :=
 ⟨h 0 _ rfl, h 1 _ rfl⟩
def ItI (x : It) : Prop := I64 x.id ∧ I64 x.lx ∧ I64 x.ly ∧ I64 x.hx ∧ I64 x.hy
def ItsI (l : List It) : Prop := ∀ x ∈ l, ItI x
end Go.Proofs.YtjhcejmfiekjgaaGreat.Fx