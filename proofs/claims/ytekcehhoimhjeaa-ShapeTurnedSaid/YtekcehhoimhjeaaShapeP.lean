/- Plain words for shapes whose corners lie on a grid: boxes, and places of the ring. -/
import Derived.Test.YtekcehhoimhjeaaShapeM
namespace Go.Proofs.Ytekcehhoimhjeaa.Fx
set_option linter.unusedVariables false

/-- corner i is (x i, y i) times k times 2^22 -/
def grid (x y : Nat → Int) (k : Int) : Cs := fun i => (x i * (k * 4194304), y i * (k * 4194304))
def icross (x y : Nat → Int) (i k j : Nat) : Int := (x k - x i) * (y j - y i) - (y k - y i) * (x j - x i)
/-- a grid of corners that may be -/
structure Grid (x y : Nat → Int) (k : Int) (n : Nat) : Prop where
  k0 : 1 ≤ k
  k1 : k ≤ 64
  n0 : 3 ≤ n
  n1 : n ≤ 8
  xb : ∀ i, i < n → -65 ≤ x i ∧ x i ≤ 65
  yb : ∀ i, i < n → -65 ≤ y i ∧ y i ≤ 65
  cv : ∀ i, i < n → ∀ j, j < n → j ≠ i → j ≠ (i + 1) % n → 0 < icross x y i ((i + 1) % n) j

theorem mul_exact {a b c : Int} (ha : Rg a) (hb : Rg b) (hc : Rg c) (h : a * b = 4294967296 * c) : mulF a b = c := by
  unfold mulF
  rw [absR ha, absR hb]
  by_cases h0 : a < 0 <;> by_cases h1 : b < 0 <;> simp only [h0, h1, if_true, if_false, decide_true, decide_false, bne_self_eq_false, Bool.true_bne, Bool.false_bne, Bool.not_false]
  · have e : -a * -b = 4294967296 * c := by rw [Int.neg_mul_neg]; exact h
    have p : 0 < a * b := Int.mul_pos_of_neg_of_neg h0 h1
    rw [e, Int.mul_ediv_cancel_left c (by omega), sign_small false (by unfold Rg at hc; omega)]; simp
  · have e : -a * b = 4294967296 * (-c) := by rw [Int.neg_mul, h]; omega
    rw [e, Int.mul_ediv_cancel_left _ (by omega), sign_small true (by unfold Rg at hc; omega)]; simp
  · have e : a * -b = 4294967296 * (-c) := by rw [Int.mul_neg, h]; omega
    rw [e, Int.mul_ediv_cancel_left _ (by omega), sign_small true (by unfold Rg at hc; omega)]; simp
  · rw [h, Int.mul_ediv_cancel_left c (by omega), sign_small false (by unfold Rg at hc; omega)]; simp
theorem sub_exact {a b : Int} (ha : Rg a) (hb : Rg b) (h : Rg (a - b)) : subF a b = a - b := by
  unfold subF
  rw [negR hb, addR ha (Rg_neg hb), satR (by rw [← Int.sub_eq_add_neg]; exact h), Int.sub_eq_add_neg]

/-- the grid's step -/
def St (z : Int) : Prop := 4194304 ≤ z ∧ z ≤ 268435456
theorem st_of {k : Int} (h0 : 1 ≤ k) (h1 : k ≤ 64) : St (k * 4194304) := by unfold St; omega
theorem st_mul {z a A : Int} (hz : St z) (h0 : -A ≤ a) (h1 : a ≤ A) (hA : 0 ≤ A) : -(268435456 * A) ≤ a * z ∧ a * z ≤ 268435456 * A := by
  have h := prod_in (x := a) (y := z) (X := A) (Y := 268435456) h0 h1 (by unfold St at hz; omega) hz.2
  rw [Int.mul_comm 268435456 A]; exact h
theorem st_rg {z a : Int} (hz : St z) (h0 : -200 ≤ a) (h1 : a ≤ 200) : Rg (a * z) ∧ -53687091200 ≤ a * z ∧ a * z ≤ 53687091200 := by
  have h := st_mul hz h0 h1 (by omega)
  unfold Rg; omega
theorem sub_grid {z a b : Int} (hz : St z) (ha : -65 ≤ a ∧ a ≤ 65) (hb : -65 ≤ b ∧ b ≤ 65) : subF (a * z) (b * z) = (a - b) * z := by
  have e : (a - b) * z = a * z - b * z := Int.sub_mul a b z
  rw [sub_exact (st_rg hz (by omega) (by omega)).1 (st_rg hz (by omega) (by omega)).1 (by rw [← e]; exact (st_rg hz (by omega) (by omega)).1), e]
theorem mul_grid {k a b : Int} (h0 : 1 ≤ k) (h1 : k ≤ 64) (ha : -130 ≤ a ∧ a ≤ 130) (hb : -130 ≤ b ∧ b ≤ 130) : mulF (a * (k * 4194304)) (b * (k * 4194304)) = a * b * (k * k * 4096) ∧ -283548057600 ≤ a * b * (k * k * 4096) ∧ a * b * (k * k * 4096) ≤ 283548057600 := by
  have hz := st_of h0 h1
  have kk := prod_in (x := k) (y := k) (X := 64) (Y := 64) (by omega) h1 (by omega) h1
  have k2 := sq_nn k
  have ab := prod_in (x := a) (y := b) (X := 130) (Y := 130) ha.1 ha.2 hb.1 hb.2
  have q := prod_in (x := a * b) (y := k * k * 4096) (X := 16900) (Y := 16777216) (by omega) (by omega) (by omega) (by omega)
  have e : a * (k * 4194304) * (b * (k * 4194304)) = 4294967296 * (a * b * (k * k * 4096)) := by
    have e0 : ∀ z : Int, a * (k * z) * (b * (k * z)) = a * b * (k * k) * (z * z) := fun z => by ac_rfl
    rw [e0, show a * b * (k * k * 4096) = a * b * (k * k) * 4096 from (Int.mul_assoc _ _ _).symm]; omega
  refine ⟨mul_exact (st_rg hz (by omega) (by omega)).1 (st_rg hz (by omega) (by omega)).1 (by unfold Rg; omega) e, by omega, by omega⟩
theorem cross_grid {x y : Nat → Int} {k : Int} {n i l j : Nat} (g : Grid x y k n) (hi : i < n) (hl : l < n) (hj : j < n) : crossF (grid x y k) i l j = icross x y i l j * (k * k * 4096) := by
  have hz := st_of g.k0 g.k1
  have xi := g.xb i hi; have xl := g.xb l hl; have xj := g.xb j hj
  have yi := g.yb i hi; have yl := g.yb l hl; have yj := g.yb j hj
  unfold crossF grid icross
  simp only []
  rw [sub_grid hz xl xi, sub_grid hz yj yi, sub_grid hz yl yi, sub_grid hz xj xi]
  obtain ⟨e1, b1, b2⟩ := mul_grid (a := x l - x i) (b := y j - y i) g.k0 g.k1 (by omega) (by omega)
  obtain ⟨e2, b3, b4⟩ := mul_grid (a := y l - y i) (b := x j - x i) g.k0 g.k1 (by omega) (by omega)
  rw [e1, e2, sub_exact (by unfold Rg; omega) (by unfold Rg; omega) (by unfold Rg; omega)]
  exact (Int.sub_mul _ _ _).symm
theorem kk_pos {k : Int} (h0 : 1 ≤ k) : 0 < k * k * 4096 := by
  have := Int.mul_pos (show 0 < k by omega) (show 0 < k by omega); omega
theorem pos_mul {a z : Int} (hz : 0 < z) : 0 < a * z ↔ 0 < a := by
  constructor
  · intro h
    refine Int.not_le.1 fun h0 => ?_
    have := Int.mul_le_mul_of_nonneg_right h0 (show 0 ≤ z by omega)
    omega
  · intro h; exact Int.mul_pos h hz
theorem grid_i64 {x y : Nat → Int} {k : Int} {n : Nat} (g : Grid x y k n) : ∀ i, i < n → I64 (grid x y k i).1 ∧ I64 (grid x y k i).2 := fun i hi =>
  ⟨i64_rg (st_rg (st_of g.k0 g.k1) (by have := g.xb i hi; omega) (by have := g.xb i hi; omega)).1, i64_rg (st_rg (st_of g.k0 g.k1) (by have := g.yb i hi; omega) (by have := g.yb i hi; omega)).1⟩
theorem grid_near {x y : Nat → Int} {k : Int} {n : Nat} (g : Grid x y k n) : ∀ i, i < n → NearP (grid x y k i) := fun i hi => by
  have a := st_rg (st_of g.k0 g.k1) (a := x i) (by have := g.xb i hi; omega) (by have := g.xb i hi; omega)
  have b := st_rg (st_of g.k0 g.k1) (a := y i) (by have := g.yb i hi; omega) (by have := g.yb i hi; omega)
  unfold NearP grid
  simp only []
  omega
theorem grid_right {x y : Nat → Int} {k : Int} {n : Nat} (g : Grid x y k n) : RightP 2 0 n (grid x y k) := by
  refine .inr ⟨rfl, rfl, g.n0, g.n1, grid_near g, fun i hi j hj h1 h2 => ?_⟩
  rw [cross_grid g hi (Nat.mod_lt _ (by have := g.n0; omega)) hj]
  exact (pos_mul (kk_pos g.k0)).2 (g.cv i hi j hj h1 h2)
/-- whichever corner is the first -/
theorem grid_turn {x y : Nat → Int} {k : Int} {n : Nat} (g : Grid x y k n) (m : Nat) : Grid (fun i => x ((i + m) % n)) (fun i => y ((i + m) % n)) k n := by
  have n0 := g.n0; have n1 := g.n1
  have md : ∀ a, (a % n + m) % n = (a + m) % n := fun a => by rw [Nat.mod_add_mod]
  have e : ∀ i, ((i + 1) % n + m) % n = ((i + m) % n + 1) % n := fun i => by
    rw [Nat.mod_add_mod, Nat.mod_add_mod, Nat.add_right_comm]
  refine ⟨g.k0, g.k1, n0, n1, fun i hi => g.xb _ (Nat.mod_lt _ (by omega)), fun i hi => g.yb _ (Nat.mod_lt _ (by omega)), fun i hi j hj h1 h2 => ?_⟩
  have h := g.cv ((i + m) % n) (Nat.mod_lt _ (by omega)) ((j + m) % n) (Nat.mod_lt _ (by omega)) ?_ ?_
  · rw [← e] at h
    exact h
  · intro h3
    have h4 : (i + m) % n < n := Nat.mod_lt _ (by omega)
    rcases (show n = 3 ∨ n = 4 ∨ n = 5 ∨ n = 6 ∨ n = 7 ∨ n = 8 by omega) with rfl | rfl | rfl | rfl | rfl | rfl <;> omega
  · intro h3
    rw [← e] at h3
    have h4 : (i + 1) % n < n := Nat.mod_lt _ (by omega)
    generalize (i + 1) % n = q at *
    rcases (show n = 3 ∨ n = 4 ∨ n = 5 ∨ n = 6 ∨ n = 7 ∨ n = 8 by omega) with rfl | rfl | rfl | rfl | rfl | rfl <;> omega
theorem turned_eq (x y : Nat → Int) (k : Int) (n m : Nat) : (fun i => grid x y k ((i + m) % n)) = grid (fun i => x ((i + m) % n)) (fun i => y ((i + m) % n)) k := rfl
/-- the other way round -/
theorem grid_back {x y : Nat → Int} {k : Int} {n : Nat} (g : Grid x y k n) : ¬ RightP 2 0 n (fun i => grid x y k (n - 1 - i)) := by
  have n0 := g.n0; have n1 := g.n1
  intro h
  rcases h with h | ⟨_, _, _, _, _, h⟩
  · omega
  · have m1 : (0 + 1) % n = 1 := by rw [Nat.mod_eq_of_lt (by omega)]
    have a := h 0 (by omega) 2 (by omega) (by omega) (by rw [m1]; omega)
    rw [m1] at a
    have e : crossF (fun i => grid x y k (n - 1 - i)) 0 1 2 = crossF (grid x y k) (n - 1 - 0) (n - 1 - 1) (n - 1 - 2) := rfl
    rw [e, cross_grid g (by omega) (by omega) (by omega), pos_mul (kk_pos g.k0)] at a
    have m2 : (n - 1 - 2 + 1) % n = n - 1 - 1 := by rw [Nat.mod_eq_of_lt (by omega)]; omega
    have b := g.cv (n - 1 - 2) (by omega) (n - 1 - 0) (by omega) (by omega) (by rw [m2]; omega)
    rw [m2] at b
    have c : icross x y (n - 1 - 2) (n - 1 - 1) (n - 1 - 0) = - icross x y (n - 1 - 0) (n - 1 - 1) (n - 1 - 2) := by
      unfold icross
      generalize x (n - 1 - 0) = a0; generalize x (n - 1 - 1) = a1; generalize x (n - 1 - 2) = a2
      generalize y (n - 1 - 0) = b0; generalize y (n - 1 - 1) = b1; generalize y (n - 1 - 2) = b2
      simp only [Int.sub_mul, Int.mul_sub]
      simp only [Int.mul_comm b0, Int.mul_comm b1, Int.mul_comm b2]
      omega
    omega

/-! ### the ring -/
def ringL : List (Int × Int) := [(65, 0), (52, 39), (25, 60), (-25, 60), (-52, 39), (-65, 0), (-52, -39), (-25, -60), (25, -60), (52, -39)]
def ringX (n t i : Nat) : Int := (ringL.getD ((i * 10 / n + t) % 10) (0, 0)).1
def ringY (n t i : Nat) : Int := (ringL.getD ((i * 10 / n + t) % 10) (0, 0)).2
def ringOk (n t : Nat) : Bool := (List.range n).all fun i => decide (-65 ≤ ringX n t i) && decide (ringX n t i ≤ 65) && decide (-65 ≤ ringY n t i) && decide (ringY n t i ≤ 65) &&
  (List.range n).all fun j => decide (j = i) || decide (j = (i + 1) % n) || decide (0 < icross (ringX n t) (ringY n t) i ((i + 1) % n) j)
theorem ring_check : (List.range 6).all (fun n => (List.range 10).all fun t => ringOk (3 + n) t) = true := by decide +kernel
theorem ring_mod (n t : Nat) : ringX n t = ringX n (t % 10) ∧ ringY n t = ringY n (t % 10) := by
  constructor <;> funext i <;> (first | unfold ringX | unfold ringY) <;> rw [Nat.add_mod_mod]
theorem ring_grid {k : Int} {n : Nat} (t : Nat) (k0 : 1 ≤ k) (k1 : k ≤ 64) (n0 : 3 ≤ n) (n1 : n ≤ 8) : Grid (ringX n t) (ringY n t) k n := by
  have h := ring_check
  rw [List.all_eq_true] at h
  have h1 := h (n - 3) (List.mem_range.2 (by omega))
  rw [List.all_eq_true] at h1
  have h2 := h1 (t % 10) (List.mem_range.2 (Nat.mod_lt _ (by omega)))
  rw [show 3 + (n - 3) = n by omega] at h2
  unfold ringOk at h2
  rw [List.all_eq_true] at h2
  rw [(ring_mod n t).1, (ring_mod n t).2]
  refine ⟨k0, k1, n0, n1, fun i hi => ?_, fun i hi => ?_, fun i hi j hj a b => ?_⟩
  · have h3 := h2 i (List.mem_range.2 hi)
    simp only [Bool.and_eq_true, decide_eq_true_eq] at h3
    omega
  · have h3 := h2 i (List.mem_range.2 hi)
    simp only [Bool.and_eq_true, decide_eq_true_eq] at h3
    omega
  · have h3 := h2 i (List.mem_range.2 hi)
    simp only [Bool.and_eq_true, decide_eq_true_eq] at h3
    have h4 := h3.2
    rw [List.all_eq_true] at h4
    have h5 := h4 j (List.mem_range.2 hj)
    simp only [Bool.or_eq_true, decide_eq_true_eq] at h5
    rcases h5 with (h5 | h5) | h5
    · exact absurd h5 a
    · exact absurd h5 b
    · exact h5

/-! ### boxes -/
def boxX (a : Int) (i : Nat) : Int := if i = 0 ∨ i = 3 then -a else a
def boxY (b : Int) (i : Nat) : Int := if i = 0 ∨ i = 1 then -b else b
theorem box_grid {a b : Int} (a0 : 1 ≤ a) (a1 : a ≤ 64) (b0 : 1 ≤ b) (b1 : b ≤ 64) : Grid (boxX a) (boxY b) 64 4 := by
  have p := Int.mul_pos (show 0 < a by omega) (show 0 < b by omega)
  refine ⟨by omega, by omega, by omega, by omega, fun i hi => by unfold boxX; split <;> omega, fun i hi => by unfold boxY; split <;> omega, fun i hi j hj h1 h2 => ?_⟩
  unfold icross
  rcases (show i = 0 ∨ i = 1 ∨ i = 2 ∨ i = 3 by omega) with rfl | rfl | rfl | rfl <;> rcases (show j = 0 ∨ j = 1 ∨ j = 2 ∨ j = 3 by omega) with rfl | rfl | rfl | rfl <;>
    first
    | (exfalso; omega)
    | (simp only [boxX, boxY, true_or, or_true, if_true, if_false, Nat.reduceAdd, Nat.reduceMod, Nat.reduceEqDiff, or_self, Int.sub_mul, Int.mul_sub, Int.mul_neg, Int.neg_mul, Int.mul_comm b a]; omega)
end Go.Proofs.Ytekcehhoimhjeaa.Fx
