/- Plain words for bounding boxes: the least and the greatest of some numbers, rounded products in order, quarter turns, how far a turned corner goes. No Go in sight. -/
import Derived.Test.YtmfkcdinfahjlaaVecR
import Derived.Test.YtmfkcdinfahjlaaMid
namespace Go.Proofs.Ytmfkcdinfahjlaa.Fx
set_option linter.unusedVariables false

/-- lo and hi are the least and the greatest of the first n -/
def Ext (h : Nat → Int) (n : Nat) (lo hi : Int) : Prop := (∀ i, i < n → lo ≤ h i ∧ h i ≤ hi) ∧ (∃ i, i < n ∧ h i = lo) ∧ (∃ i, i < n ∧ h i = hi)
theorem Ext.one {h : Nat → Int} {n : Nat} {a b c d : Int} (e : Ext h n a b) (f : Ext h n c d) : a = c ∧ b = d := by
  obtain ⟨e0, ⟨i, hi, ei⟩, ⟨j, hj, ej⟩⟩ := e
  obtain ⟨f0, ⟨k, hk, ek⟩, ⟨l, hl, el⟩⟩ := f
  have := f0 i hi; have := f0 j hj; have := e0 k hk; have := e0 l hl
  omega
theorem Ext.first (h : Nat → Int) : Ext h 1 (h 0) (h 0) := by
  refine ⟨fun i hi => ?_, ⟨0, by omega, rfl⟩, ⟨0, by omega, rfl⟩⟩
  obtain rfl : i = 0 := by omega
  exact ⟨Int.le_refl _, Int.le_refl _⟩
theorem Ext.next {h : Nat → Int} {n : Nat} {a b : Int} (e : Ext h n a b) : Ext h (n + 1) (min a (h n)) (max b (h n)) := by
  obtain ⟨e0, ⟨i, hi, ei⟩, ⟨j, hj, ej⟩⟩ := e
  refine ⟨fun k hk => ?_, ?_, ?_⟩
  · rcases (show k < n ∨ k = n by omega) with h1 | rfl
    · have := e0 k h1; omega
    · omega
  · by_cases h1 : a ≤ h n
    · exact ⟨i, by omega, by omega⟩
    · exact ⟨n, by omega, by omega⟩
  · by_cases h1 : h n ≤ b
    · exact ⟨j, by omega, by omega⟩
    · exact ⟨n, by omega, by omega⟩
theorem Ext.step {h : Nat → Int} {m : Nat} {a b : Int} (e : Ext h (max m 1) a b) : Ext h (max (m + 1) 1) (min a (h m)) (max b (h m)) := by
  rcases Nat.eq_zero_or_pos m with rfl | h0
  · obtain ⟨e0, ⟨i, hi, ei⟩, ⟨j, hj, ej⟩⟩ := e
    obtain rfl : i = 0 := by simp at hi; exact hi
    obtain rfl : j = 0 := by simp at hj; exact hj
    rw [← ei, ← ej, Int.min_self, Int.max_self]
    exact Ext.first h
  · rw [Nat.max_eq_left h0] at e
    rw [Nat.max_eq_left (by omega)]
    exact e.next
theorem Ext.has (h : Nat → Int) : ∀ n, 0 < n → ∃ lo hi, Ext h n lo hi
  | 1, _ => ⟨_, _, Ext.first h⟩
  | n + 2, _ => by
    obtain ⟨lo, hi, e⟩ := Ext.has h (n + 1) (by omega)
    exact ⟨_, _, e.next⟩
theorem Ext.congr {h k : Nat → Int} {n : Nat} {a b : Int} (e : Ext h n a b) (f : ∀ i, i < n → h i = k i) : Ext k n a b := by
  obtain ⟨e0, ⟨i, hi, ei⟩, ⟨j, hj, ej⟩⟩ := e
  exact ⟨fun m hm => by rw [← f m hm]; exact e0 m hm, ⟨i, hi, by rw [← f i hi]; exact ei⟩, ⟨j, hj, by rw [← f j hj]; exact ej⟩⟩
theorem Ext.moved {h : Nat → Int} {n : Nat} {a b : Int} (e : Ext h n a b) (d : Int) : Ext (fun i => h i + d) n (a + d) (b + d) := by
  obtain ⟨e0, ⟨i, hi, ei⟩, ⟨j, hj, ej⟩⟩ := e
  exact ⟨fun m hm => by have := e0 m hm; simp only []; omega, ⟨i, hi, by simp only []; omega⟩, ⟨j, hj, by simp only []; omega⟩⟩
theorem Ext.neg {h : Nat → Int} {n : Nat} {a b : Int} (e : Ext h n a b) : Ext (fun i => -h i) n (-b) (-a) := by
  obtain ⟨e0, ⟨i, hi, ei⟩, ⟨j, hj, ej⟩⟩ := e
  exact ⟨fun m hm => by have := e0 m hm; simp only []; omega, ⟨j, hj, by simp only []; omega⟩, ⟨i, hi, by simp only []; omega⟩⟩

/-! ### products, rounded toward nothing, in order -/
def trF (p : Int) : Int := if 0 ≤ p then p / 4294967296 else -(-p / 4294967296)
theorem tr_mono {p q : Int} (h : p ≤ q) : trF p ≤ trF q := by unfold trF; split <;> split <;> omega
theorem mul_pos_tr {a b : Int} (a0 : 0 ≤ a) (b0 : 0 ≤ b) (a1 : a ≤ 70368744177663) (b1 : b ≤ 70368744177663) : mulF a b = a * b / 4294967296 := by
  have p := prod_in (x := a) (y := b) (X := 70368744177663) (Y := 70368744177663) (by omega) a1 (by omega) b1
  have s1 : (decide (a < 0) != decide (b < 0)) = false := by rw [decide_eq_false (by omega), decide_eq_false (by omega)]; rfl
  have e1 : absF a = a := by unfold absF; rw [if_neg (by omega)]
  have e2 : absF b = b := by unfold absF; rw [if_neg (by omega)]
  unfold mulF
  rw [s1, e1, e2]
  unfold signF
  rw [if_neg (by simp), if_pos (by omega)]
theorem mul_tr {a b : Int} (ha : Sm a) (hb : Sm b) : mulF a b = trF (a * b) := by
  unfold Sm at ha hb
  rcases Int.le_total 0 a with a0 | a0 <;> rcases Int.le_total 0 b with b0 | b0
  · rw [mul_pos_tr a0 b0 (by omega) (by omega)]
    unfold trF; rw [if_pos (Int.mul_nonneg a0 b0)]
  · obtain ⟨c, rfl⟩ : ∃ c, b = -c := ⟨-b, by omega⟩
    rw [mul_neg_right (by unfold Rg; omega) (by unfold Rg; omega), mul_pos_tr a0 (by omega) (by omega) (by omega), Int.mul_neg]
    have := Int.mul_nonneg a0 (show 0 ≤ c by omega)
    unfold trF; split <;> omega
  · obtain ⟨c, rfl⟩ : ∃ c, a = -c := ⟨-a, by omega⟩
    rw [mul_neg_left (by unfold Rg; omega) (by unfold Rg; omega), mul_pos_tr (by omega) b0 (by omega) (by omega), Int.neg_mul]
    have := Int.mul_nonneg (show 0 ≤ c by omega) b0
    unfold trF; split <;> omega
  · obtain ⟨c, rfl⟩ : ∃ c, a = -c := ⟨-a, by omega⟩
    obtain ⟨d, rfl⟩ : ∃ d, b = -d := ⟨-b, by omega⟩
    rw [mul_neg_left (by unfold Rg; omega) (by unfold Rg; omega), mul_neg_right (by unfold Rg; omega) (by unfold Rg; omega), mul_pos_tr (by omega) (by omega) (by omega) (by omega), Int.neg_mul, Int.mul_neg]
    have := Int.mul_nonneg (show 0 ≤ c by omega) (show 0 ≤ d by omega)
    unfold trF; split <;> omega

/-! ### corners, turned, before they are moved -/
def offX (f : Cs) (c s : Int) (i : Nat) : Int := mulF c (f i).1 - mulF s (f i).2
def offY (f : Cs) (c s : Int) (i : Nat) : Int := mulF s (f i).1 + mulF c (f i).2
/-- corners of at most some 4 -/
def Tiny (f : Cs) (n : Nat) : Prop := ∀ i, i < n → (-17448304640 ≤ (f i).1 ∧ (f i).1 ≤ 17448304640) ∧ (-17448304640 ≤ (f i).2 ∧ (f i).2 ≤ 17448304640)
theorem tiny_mul {c a : Int} (hc : Cn c) (ha : -17448304640 ≤ a ∧ a ≤ 17448304640) : -17448304640 ≤ mulF c a ∧ mulF c a ≤ 17448304640 := by
  rw [mul_tr (cn_sm hc) (by unfold Sm; omega)]
  have p := cn_mul hc ha.1 ha.2
  unfold trF
  split <;> omega
theorem off_bd {f : Cs} {n : Nat} {c s : Int} (hc : Cn c) (hs : Cn s) (h : Tiny f n) {i : Nat} (hi : i < n) :
    (-34896609280 ≤ offX f c s i ∧ offX f c s i ≤ 34896609280) ∧ (-34896609280 ≤ offY f c s i ∧ offY f c s i ≤ 34896609280) := by
  obtain ⟨h1, h2⟩ := h i hi
  have a := tiny_mul hc h1
  have b := tiny_mul hs h2
  have d := tiny_mul hs h1
  have e := tiny_mul hc h2
  unfold offX offY
  omega
theorem off_sub {f : Cs} {n : Nat} {c s : Int} (hc : Cn c) (hs : Cn s) (h : Tiny f n) {i : Nat} (hi : i < n) :
    subF (mulF c (f i).1) (mulF s (f i).2) = offX f c s i ∧ addF (mulF s (f i).1) (mulF c (f i).2) = offY f c s i := by
  obtain ⟨h1, h2⟩ := h i hi
  have a := tiny_mul hc h1
  have b := tiny_mul hs h2
  have d := tiny_mul hs h1
  have e := tiny_mul hc h2
  unfold offX offY
  constructor
  · unfold subF
    rw [negR (rg_mul _ _), addR (rg_mul _ _) (Rg_neg (rg_mul _ _)), satR (by unfold Rg; omega)]; omega
  · rw [addR (rg_mul _ _) (rg_mul _ _), satR (by unfold Rg; omega)]
/-- a place of at most 4096 -/
def Pl (x : Int) : Prop := -17592186044416 ≤ x ∧ x ≤ 17592186044416
theorem off_add {x z : Int} (hx : Pl x) (hz : -34896609280 ≤ z ∧ z ≤ 34896609280) : addF z x = z + x := by
  unfold Pl at hx
  rw [addR (by unfold Rg; omega) (by unfold Rg; omega), satR (by unfold Rg; omega)]

/-! ### the middle lies between -/
section
variable {x y : Nat → Int} {k : Int} {n : Nat} {c s : Int}
theorem grid_tiny (g : Grid x y k n) : Tiny (grid x y k) n := fun i hi => by
  have k0 := g.k0
  have k1 := g.k1
  have a := prod_in (x := x i) (y := k * 4194304) (X := 65) (Y := 268435456) (g.xb i hi).1 (g.xb i hi).2 (by omega) (by omega)
  have b := prod_in (x := y i) (y := k * 4194304) (X := 65) (Y := 268435456) (g.yb i hi).1 (g.yb i hi).2 (by omega) (by omega)
  unfold grid
  simp only []
  omega
theorem scaled_le {u v z : Int} (hz : 0 ≤ z) (h : u ≤ v) : u * z ≤ v * z := Int.mul_le_mul_of_nonneg_right h hz
theorem off_le (g : Grid x y k n) (hc : Cn c) (hs : Cn s) {i : Nat} (hi : i < n) (h : c * x i + -s * y i ≤ 0) : offX (grid x y k) c s i ≤ 0 := by
  obtain ⟨t1, t2⟩ := grid_tiny g i hi
  have k0 := g.k0
  unfold offX
  rw [mul_tr (cn_sm hc) (by unfold Sm; omega), mul_tr (cn_sm hs) (by unfold Sm; omega)]
  have e := scaled_le (z := k * 4194304) (by omega) (show c * x i ≤ s * y i by rw [Int.neg_mul] at h; omega)
  have := tr_mono (show c * (grid x y k i).1 ≤ s * (grid x y k i).2 by unfold grid; simp only []; rw [← Int.mul_assoc c (x i) (k * 4194304), ← Int.mul_assoc s (y i) (k * 4194304)]; exact e)
  omega
theorem off_ge (g : Grid x y k n) (hc : Cn c) (hs : Cn s) {i : Nat} (hi : i < n) (h : 0 ≤ c * x i + -s * y i) : 0 ≤ offX (grid x y k) c s i := by
  obtain ⟨t1, t2⟩ := grid_tiny g i hi
  have k0 := g.k0
  unfold offX
  rw [mul_tr (cn_sm hc) (by unfold Sm; omega), mul_tr (cn_sm hs) (by unfold Sm; omega)]
  have e := scaled_le (z := k * 4194304) (by omega) (show s * y i ≤ c * x i by rw [Int.neg_mul] at h; omega)
  have := tr_mono (show s * (grid x y k i).2 ≤ c * (grid x y k i).1 by unfold grid; simp only []; rw [← Int.mul_assoc c (x i) (k * 4194304), ← Int.mul_assoc s (y i) (k * 4194304)]; exact e)
  omega
theorem straddle_x (g : Grid x y k n) (m : Mid x y n) (hc : Cn c) (hs : Cn s) {lo hi : Int} (e : Ext (offX (grid x y k) c s) n lo hi) : lo ≤ 0 ∧ 0 ≤ hi := by
  obtain ⟨i, hi', h1⟩ := mid_low m c (-s)
  obtain ⟨j, hj', h2⟩ := mid_high m c (-s)
  have a := off_le g hc hs hi' h1
  have b := off_ge g hc hs hj' h2
  have := e.1 i hi'
  have := e.1 j hj'
  omega
/-- a quarter on, the sums are the differences -/
theorem quarter_x (f : Cs) (i : Nat) (h : Rg (f i).1) (hs : Cn s) : offX f (-s) c i = -offY f c s i := by
  unfold offX offY
  rw [mul_neg_left (by unfold Cn at hs; unfold Rg; omega) h]; omega
theorem quarter_y (f : Cs) (i : Nat) (h : Rg (f i).2) (hs : Cn s) : offY f (-s) c i = offX f c s i := by
  unfold offX offY
  rw [mul_neg_left (by unfold Cn at hs; unfold Rg; omega) h]; omega
theorem back_x (f : Cs) (i : Nat) (h : Rg (f i).2) (hc : Cn c) : offX f s (-c) i = offY f c s i := by
  unfold offX offY
  rw [mul_neg_left (by unfold Cn at hc; unfold Rg; omega) h]; omega
theorem back_y (f : Cs) (i : Nat) (h : Rg (f i).1) (hc : Cn c) : offY f s (-c) i = -offX f c s i := by
  unfold offX offY
  rw [mul_neg_left (by unfold Cn at hc; unfold Rg; omega) h]; omega
theorem half_x (f : Cs) (i : Nat) (h1 : Rg (f i).1) (h2 : Rg (f i).2) (hc : Cn c) (hs : Cn s) : offX f (-c) (-s) i = -offX f c s i := by
  unfold offX
  rw [mul_neg_left (by unfold Cn at hc; unfold Rg; omega) h1, mul_neg_left (by unfold Cn at hs; unfold Rg; omega) h2]; omega
theorem half_y (f : Cs) (i : Nat) (h1 : Rg (f i).1) (h2 : Rg (f i).2) (hc : Cn c) (hs : Cn s) : offY f (-c) (-s) i = -offY f c s i := by
  unfold offY
  rw [mul_neg_left (by unfold Cn at hc; unfold Rg; omega) h2, mul_neg_left (by unfold Cn at hs; unfold Rg; omega) h1]; omega
theorem straddle_y (g : Grid x y k n) (m : Mid x y n) (hc : Cn c) (hs : Cn s) {lo hi : Int} (e : Ext (offY (grid x y k) c s) n lo hi) : lo ≤ 0 ∧ 0 ≤ hi := by
  have hn : Cn (-c) := by unfold Cn at *; omega
  have e' : Ext (offX (grid x y k) s (-c)) n lo hi := e.congr fun i hi => by
    have := grid_tiny g i hi
    exact (back_x _ i (by unfold Rg; omega) hc).symm
  exact straddle_x g m hs hn e'
end

/-! ### how far a turned corner goes -/
theorem comp_reach {C S a b p : Int} (hC : Cn C) (hS : Cn S) (hn : 18446744056529682432 ≤ C * C + S * S ∧ C * C + S * S ≤ 18446744090889420800) (ha : -17448304640 ≤ a ∧ a ≤ 17448304640) (hb : -17448304640 ≤ b ∧ b ≤ 17448304640)
    (e1 : -8589934592 ≤ 4294967296 * p - C * a - S * b ∧ 4294967296 * p - C * a - S * b ≤ 8589934592) : p ≤ lenF a b + 1048576 := by
  obtain ⟨n0, n1, n2⟩ := len_spec (a := a) (b := b) (by unfold Sm; omega) (by unfold Sm; omega)
  have qa := prod_in ha.1 ha.2 ha.1 ha.2
  have qb := prod_in hb.1 hb.2 hb.1 hb.2
  have hn1 : lenF a b ≤ 34896609280 := by
    refine Int.not_lt.1 fun h => ?_
    have := sq_le (show (0 : Int) ≤ 34896609281 by omega) (show 34896609281 ≤ lenF a b by omega)
    omega
  generalize lenF a b = n at *
  refine Int.not_lt.1 fun h => ?_
  obtain ⟨G, eG⟩ : ∃ G, G = C * a + S * b := ⟨_, rfl⟩
  have hG : 4294967296 * (n + 1048575) ≤ G := by omega
  have L := lagrange C S a b
  rw [← eG] at L
  have z := sq_nn (C * b - S * a)
  have s1 := sq_le (show 0 ≤ 4294967296 * (n + 1048575) by omega) hG
  have t1 : 4294967296 * (n + 1048575) * (4294967296 * (n + 1048575)) = 18446744073709551616 * ((n + 1048575) * (n + 1048575)) := by
    rw [Int.mul_assoc, Int.mul_left_comm (n + 1048575)]; omega
  rw [t1] at s1
  have s2 := sq_add (n + 1) 1048574
  rw [show n + 1 + 1048574 = n + 1048575 by omega] at s2
  have u1 := Int.mul_le_mul_of_nonneg_right hn.2 (show 0 ≤ a * a + b * b by have := sq_nn a; have := sq_nn b; omega)
  have q := prod_in (x := n + 1) (y := n + 1) (X := 34896609281) (Y := 34896609281) (by omega) (by omega) (by omega) (by omega)
  have q2 := Int.mul_le_mul_of_nonneg_right (show n + 1 ≤ 34896609281 by omega) (show 0 ≤ n + 1 by omega)
  generalize (n + 1) * (n + 1) = N at *
  generalize (n + 1048575) * (n + 1048575) = N2 at *
  generalize a * a + b * b = P at *
  generalize (C * b - S * a) * (C * b - S * a) = Z at *
  generalize G * G = GG at *
  rw [L] at u1
  omega
end Go.Proofs.Ytmfkcdinfahjlaa.Fx
