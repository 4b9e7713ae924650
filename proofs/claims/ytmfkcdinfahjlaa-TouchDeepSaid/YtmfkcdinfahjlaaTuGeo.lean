/- Plain words for TouchDeep: polygons in place, what lies near what, the points of a touch -/
import Derived.Test.YtmfkcdinfahjlaaGeo
import Derived.Test.YtmfkcdinfahjlaaTuN
import Derived.Test.YtmfkcdinfahjlaaBoxP

/- Plain words: two convex polygons that no side parts lie near each other along the first axis. -/
namespace Go.Proofs.Ytmfkcdinfahjlaa.Fx
set_option linter.unusedVariables false

def eX (P : Cs) (n i : Nat) : Int := (P ((i + 1) % n)).1 - (P i).1
def eY (P : Cs) (n i : Nat) : Int := (P ((i + 1) % n)).2 - (P i).2
/-- how long a side is, at most -/
def sN (P : Cs) (n i : Nat) : Int := ab (eX P n i) + ab (eY P n i)
/-- a convex polygon, in whole numbers, without corners too sharp or too flat -/
structure PolyX (P : Cs) (n : Nat) (K : Int) : Prop where
  n0 : 0 < n
  cv : ∀ i, i < n → ∀ j, j < n → 0 ≤ eX P n i * ((P j).2 - (P i).2) - eY P n i * ((P j).1 - (P i).1)
  fat : ∀ i, i < n → sN P n i * sN P n ((i + 1) % n) ≤ K * (eX P n i * eY P n ((i + 1) % n) - eY P n i * eX P n ((i + 1) % n))
  pos : ∀ i, i < n → 0 < sN P n i
/-- from each side of P some corner of Q lies at most so far -/
def GapX (P : Cs) (n : Nat) (Q : Cs) (m : Nat) (τ : Int) : Prop := ∀ i, i < n → ∃ j, j < m ∧ eY P n i * ((Q j).1 - (P i).1) - eX P n i * ((Q j).2 - (P i).2) ≤ τ * sN P n i
theorem prev_is {n a : Nat} (ha : a < n) : (a + n - 1) % n < n ∧ ((a + n - 1) % n + 1) % n = a := by
  refine ⟨Nat.mod_lt _ (by omega), ?_⟩
  rcases Nat.eq_zero_or_pos a with h | h
  · subst h
    have e : (0 + n - 1) % n = n - 1 := by rw [Nat.zero_add]; exact Nat.mod_eq_of_lt (by omega)
    rw [e, show n - 1 + 1 = n by omega, Nat.mod_self]
  · have e : (a + n - 1) % n = a - 1 := by
      rw [show a + n - 1 = (a - 1) + n by omega, Nat.add_mod_right, Nat.mod_eq_of_lt (by omega)]
    rw [e, show a - 1 + 1 = a by omega, Nat.mod_eq_of_lt ha]
/-- in a cone: what both ways see behind, it sees behind -/
theorem in_cone {a1 b1 a2 b2 c d vx vy : Int} (hx : 0 < a1 * b2 - b1 * a2) (h1 : 0 ≤ a1 * d - b1 * c) (h2 : 0 ≤ c * b2 - d * a2) (v1 : 0 ≤ a1 * vx + b1 * vy) (v2 : 0 ≤ a2 * vx + b2 * vy) : 0 ≤ c * vx + d * vy := by
  have i : (a1 * b2 - b1 * a2) * (c * vx + d * vy) = (c * b2 - d * a2) * (a1 * vx + b1 * vy) + (a1 * d - b1 * c) * (a2 * vx + b2 * vy) := by grind
  have p1 := Int.mul_nonneg h2 v1
  have p2 := Int.mul_nonneg h1 v2
  rcases Int.lt_or_le (c * vx + d * vy) 0 with h | h
  · have := Int.mul_neg_of_pos_of_neg hx h
    omega
  · exact h
theorem pos_cross {s t K x : Int} (hs : 0 < s) (ht : 0 < t) (hK : 1 ≤ K) (h : s * t ≤ K * x) : 0 < x := by
  have := Int.mul_pos hs ht
  rcases Int.lt_or_le 0 x with h' | h'
  · exact h'
  · have := mul_l (show 0 ≤ K by omega) h'
    omega
theorem sep_x {P Q : Cs} {n m : Nat} {K τ : Int} (hP : PolyX P n K) (hQ : PolyX Q m K) (gP : GapX P n Q m τ) (gQ : GapX Q m P n τ) (hK : 1 ≤ K) (hτ : 0 ≤ τ) : ∃ i j, i < n ∧ j < m ∧ (Q j).1 - (P i).1 ≤ 2 * (K * τ) := by
  obtain ⟨a, ha, ta⟩ : ∃ a, a < n ∧ ∀ i, i < n → (P i).1 ≤ (P a).1 := by
    have := hP.n0
    have h1 := firstF_le (fun i => (P i).1) (n - 1)
    exact ⟨firstF (fun i => (P i).1) (n - 1), by omega, fun i hi => firstF_top (fun i => (P i).1) (n - 1) i (by omega)⟩
  obtain ⟨b, hb, tb⟩ : ∃ b, b < m ∧ ∀ i, i < m → (Q b).1 ≤ (Q i).1 := by
    have := hQ.n0
    have h1 := botF_le (fun i => (Q i).1) (m - 1)
    exact ⟨botF (fun i => (Q i).1) (m - 1), by omega, fun i hi => botF_low (fun i => (Q i).1) (m - 1) i (by omega)⟩
  refine ⟨a, b, ha, hb, ?_⟩
  obtain ⟨hp, ep⟩ := prev_is ha
  obtain ⟨hq, eq⟩ := prev_is hb
  generalize (a + n - 1) % n = p at *
  generalize (b + m - 1) % m = q at *
  have hn : (a + 1) % n < n := Nat.mod_lt _ hP.n0
  have hm : (b + 1) % m < m := Nat.mod_lt _ hQ.n0
  have x1 : eX P n p = (P a).1 - (P p).1 := by unfold eX; rw [ep]
  have y1 : eY P n p = (P a).2 - (P p).2 := by unfold eY; rw [ep]
  have x3 : eX Q m q = (Q b).1 - (Q q).1 := by unfold eX; rw [eq]
  have y3 : eY Q m q = (Q b).2 - (Q q).2 := by unfold eY; rw [eq]
  have x2 : eX P n a = (P ((a + 1) % n)).1 - (P a).1 := rfl
  have x4 : eX Q m b = (Q ((b + 1) % m)).1 - (Q b).1 := rfl
  have f1 := hP.fat p hp
  have f2 := hQ.fat q hq
  rw [ep] at f1
  rw [eq] at f2
  have s1 := hP.pos p hp
  have s2 := hP.pos a ha
  have s3 := hQ.pos q hq
  have s4 := hQ.pos b hb
  have t1 := ta p hp
  have t2 := ta _ hn
  have t3 := tb q hq
  have t4 := tb _ hm
  have cx1 := pos_cross s1 s2 hK f1
  have cx2 := pos_cross s3 s4 hK f2
  have u1 : ∀ v : Int × Int, eX P n p * (v.2 - (P a).2) - eY P n p * (v.1 - (P a).1) = eX P n p * (v.2 - (P p).2) - eY P n p * (v.1 - (P p).1) := fun v => by rw [x1, y1]; grind
  have u3 : ∀ v : Int × Int, eX Q m q * (v.2 - (Q b).2) - eY Q m q * (v.1 - (Q b).1) = eX Q m q * (v.2 - (Q q).2) - eY Q m q * (v.1 - (Q q).1) := fun v => by rw [x3, y3]; grind
  have k1 : ∀ i, i < n → 0 ≤ eX P n p * ((P i).2 - (P a).2) - eY P n p * ((P i).1 - (P a).1) := fun i hi => by rw [u1]; exact hP.cv p hp i hi
  have k2 : ∀ i, i < n → 0 ≤ eX P n a * ((P i).2 - (P a).2) - eY P n a * ((P i).1 - (P a).1) := fun i hi => hP.cv a ha i hi
  have k3 : ∀ i, i < m → 0 ≤ eX Q m q * ((Q i).2 - (Q b).2) - eY Q m q * ((Q i).1 - (Q b).1) := fun i hi => by rw [u3]; exact hQ.cv q hq i hi
  have k4 : ∀ i, i < m → 0 ≤ eX Q m b * ((Q i).2 - (Q b).2) - eY Q m b * ((Q i).1 - (Q b).1) := fun i hi => hQ.cv b hb i hi
  have gp := gP p hp
  have ga := gP a ha
  have gq := gQ q hq
  have gb := gQ b hb
  have w1 : ab (eY P n p) + ab (-eX P n p) = sN P n p := by rw [ab_neg]; unfold sN; omega
  have w2 : ab (eY P n a) + ab (-eX P n a) = sN P n a := by rw [ab_neg]; unfold sN; omega
  have w3 : ab (-eY Q m q) + ab (eX Q m q) = sN Q m q := by rw [ab_neg]; unfold sN; omega
  have w4 : ab (-eY Q m b) + ab (eX Q m b) = sN Q m b := by rw [ab_neg]; unfold sN; omega
  clear x2 x4
  have b1 : 0 ≤ eX P n p := by rw [x1]; omega
  have b2 : eX P n a ≤ 0 := by unfold eX; omega
  have b3 : eX Q m q ≤ 0 := by rw [x3]; omega
  have b4 : 0 ≤ eX Q m b := by unfold eX; omega
  generalize sN P n p = S1 at *
  generalize sN P n a = S2 at *
  generalize sN Q m q = S3 at *
  generalize sN Q m b = S4 at *
  have z1 : eX P n p * ((P a).2 - (P p).2) - eY P n p * ((P a).1 - (P p).1) = 0 := by rw [x1, y1]; grind
  have z3 : eX Q m q * ((Q b).2 - (Q q).2) - eY Q m q * ((Q b).1 - (Q q).1) = 0 := by rw [x3, y3]; grind
  clear x1 y1 x3 y3 u1 u3
  generalize eX P n p = X1 at *
  generalize eY P n p = Y1 at *
  generalize eX P n a = X2 at *
  generalize eY P n a = Y2 at *
  generalize eX Q m q = X3 at *
  generalize eY Q m q = Y3 at *
  generalize eX Q m b = X4 at *
  generalize eY Q m b = Y4 at *
  have c1 : 0 < Y1 * -X2 - -X1 * Y2 := by grind
  have c2 : 0 < -Y3 * X4 - X3 * -Y4 := by grind
  refine cones (a1 := Y1) (b1 := -X1) (a2 := Y2) (b2 := -X2) (c1 := -Y3) (d1 := X3) (c2 := -Y4) (d2 := X4) (dy := (Q b).2 - (P a).2) (K := K) (τ := τ) (s1 := S1) (s2 := S2) (t1 := S3) (t2 := S4) (by omega) (by omega) b3 b4 w1 w2 w3 w4 s1 s2 s3 s4 hK hτ (by grind) (by grind) ?_ ?_ ?_ ?_
  · intro h1 h2
    obtain ⟨j, hj, g⟩ := gp
    have := in_cone (a1 := -Y3) (b1 := X3) (a2 := -Y4) (b2 := X4) (c := Y1) (d := -X1) (vx := (Q j).1 - (Q b).1) (vy := (Q j).2 - (Q b).2) c2 (by grind) (by grind) (by have := k3 j hj; grind) (by have := k4 j hj; grind)
    grind
  · intro h1 h2
    obtain ⟨j, hj, g⟩ := ga
    have := in_cone (a1 := -Y3) (b1 := X3) (a2 := -Y4) (b2 := X4) (c := Y2) (d := -X2) (vx := (Q j).1 - (Q b).1) (vy := (Q j).2 - (Q b).2) c2 (by grind) (by grind) (by have := k3 j hj; grind) (by have := k4 j hj; grind)
    grind
  · intro h1 h2
    obtain ⟨i, hi, g⟩ := gq
    have := in_cone (a1 := Y1) (b1 := -X1) (a2 := Y2) (b2 := -X2) (c := -Y3) (d := X3) (vx := (P a).1 - (P i).1) (vy := (P a).2 - (P i).2) c1 (by grind) (by grind) (by have := k1 i hi; grind) (by have := k2 i hi; grind)
    grind
  · intro h1 h2
    obtain ⟨i, hi, g⟩ := gb
    have := in_cone (a1 := Y1) (b1 := -X1) (a2 := Y2) (b2 := -X2) (c := -Y4) (d := X4) (vx := (P a).1 - (P i).1) (vy := (P a).2 - (P i).2) c1 (by grind) (by grind) (by have := k1 i hi; grind) (by have := k2 i hi; grind)
    grind
/-- turned by a quarter -/
def rot (P : Cs) : Cs := fun i => ((P i).2, -(P i).1)
theorem rot_X (P : Cs) (n i : Nat) : eX (rot P) n i = eY P n i := rfl
theorem rot_Y (P : Cs) (n i : Nat) : eY (rot P) n i = -eX P n i := by unfold eY eX rot; simp only []; omega
theorem rot_s (P : Cs) (n i : Nat) : sN (rot P) n i = sN P n i := by unfold sN; rw [rot_X, rot_Y, ab_neg]; omega
theorem PolyX.rot {P : Cs} {n : Nat} {K : Int} (h : PolyX P n K) : PolyX (rot P) n K := by
  refine ⟨h.n0, fun i hi j hj => ?_, fun i hi => ?_, fun i hi => by rw [rot_s]; exact h.pos i hi⟩
  · rw [rot_X, rot_Y]
    have := h.cv i hi j hj
    show 0 ≤ eY P n i * (-(P j).1 - -(P i).1) - -eX P n i * ((P j).2 - (P i).2)
    grind
  · rw [rot_s, rot_s, rot_X, rot_Y, rot_X, rot_Y]
    have := h.fat i hi
    grind
theorem GapX.rot {P Q : Cs} {n m : Nat} {τ : Int} (h : GapX P n Q m τ) : GapX (rot P) n (rot Q) m τ := fun i hi => by
  obtain ⟨j, hj, g⟩ := h i hi
  refine ⟨j, hj, ?_⟩
  rw [rot_s, rot_X, rot_Y]
  show -eX P n i * ((Q j).2 - (P i).2) - eY P n i * (-(Q j).1 - -(P i).1) ≤ _
  grind
/-- neither lies beyond the other, nearly, along either axis -/
theorem sep_all {P Q : Cs} {n m : Nat} {K τ : Int} (hP : PolyX P n K) (hQ : PolyX Q m K) (gP : GapX P n Q m τ) (gQ : GapX Q m P n τ) (hK : 1 ≤ K) (hτ : 0 ≤ τ) :
    (∃ i j, i < n ∧ j < m ∧ (Q j).1 - (P i).1 ≤ 2 * (K * τ)) ∧ (∃ i j, i < n ∧ j < m ∧ (P i).1 - (Q j).1 ≤ 2 * (K * τ)) ∧ (∃ i j, i < n ∧ j < m ∧ (Q j).2 - (P i).2 ≤ 2 * (K * τ)) ∧ (∃ i j, i < n ∧ j < m ∧ (P i).2 - (Q j).2 ≤ 2 * (K * τ)) := by
  refine ⟨sep_x hP hQ gP gQ hK hτ, ?_, sep_x hP.rot hQ.rot gP.rot gQ.rot hK hτ, ?_⟩
  · obtain ⟨j, i, hj, hi, h⟩ := sep_x hQ hP gQ gP hK hτ
    exact ⟨i, j, hi, hj, h⟩
  · obtain ⟨j, i, hj, hi, h⟩ := sep_x hQ.rot hP.rot gQ.rot gP.rot hK hτ
    exact ⟨i, j, hi, hj, h⟩

/-- a gap that is less than 0, in whole numbers -/
theorem gap_neg {P Q : Cs} {n m i : Nat} (hn : 0 < n) (hm : 0 < m) (hi : i < n) (hp : ∀ i, i < n → (-4402341478400 ≤ (P i).1 ∧ (P i).1 ≤ 4402341478400) ∧ (-4402341478400 ≤ (P i).2 ∧ (P i).2 ≤ 4402341478400)) (hq : ∀ i, i < m → (-4402341478400 ≤ (Q i).1 ∧ (Q i).1 ≤ 4402341478400) ∧ (-4402341478400 ≤ (Q i).2 ∧ (Q i).2 ≤ 4402341478400))
    (hl : 1048576 ≤ ab (eX P n i) ∨ 1048576 ≤ ab (eY P n i)) (hg : gapF P n Q m i ≤ 0) : ∃ j, j < m ∧ eY P n i * ((Q j).1 - (P i).1) - eX P n i * ((Q j).2 - (P i).2) ≤ 4102 * sN P n i := by
  obtain ⟨j, hj, ej⟩ := leastF_at (fun j => dotV (normF P n i) (subV (Q j) (P i))) (m - 1)
  have hg' : dotV (normF P n i) (subV (Q j) (P i)) ≤ 0 := by
    unfold gapF at hg
    rw [ej] at hg
    exact hg
  refine ⟨j, by omega, ?_⟩
  have h1 := hp i hi
  have h2 := hp ((i + 1) % n) (Nat.mod_lt _ hn)
  have h3 := hq j (by omega)
  have sx : subF (P ((i + 1) % n)).1 (P i).1 = eX P n i := sub_exact (by unfold Rg; omega) (by unfold Rg; omega) (by unfold Rg; omega)
  have sy : subF (P ((i + 1) % n)).2 (P i).2 = eY P n i := sub_exact (by unfold Rg; omega) (by unfold Rg; omega) (by unfold Rg; omega)
  have dx : subF (Q j).1 (P i).1 = (Q j).1 - (P i).1 := sub_exact (by unfold Rg; omega) (by unfold Rg; omega) (by unfold Rg; omega)
  have dy : subF (Q j).2 (P i).2 = (Q j).2 - (P i).2 := sub_exact (by unfold Rg; omega) (by unfold Rg; omega) (by unfold Rg; omega)
  have bx : -8804682956800 ≤ eX P n i ∧ eX P n i ≤ 8804682956800 := by unfold eX; omega
  have b_y : -8804682956800 ≤ eY P n i ∧ eY P n i ≤ 8804682956800 := by unfold eY; omega
  unfold sN
  unfold normF dotV subV at hg'
  simp only [] at hg'
  rw [sx, sy, dx, dy] at hg'
  generalize eX P n i = X at *
  generalize eY P n i = Y at *
  have bdx : -8804682956800 ≤ (Q j).1 - (P i).1 ∧ (Q j).1 - (P i).1 ≤ 8804682956800 := by omega
  have bdy : -8804682956800 ≤ (Q j).2 - (P i).2 ∧ (Q j).2 - (P i).2 ≤ 8804682956800 := by omega
  generalize (Q j).1 - (P i).1 = U at *
  generalize (Q j).2 - (P i).2 = V at *
  have mX : Sm X := by unfold Sm; omega
  have mY : Sm Y := by unfold Sm; omega
  obtain ⟨p1, p2⟩ := lens_part mX mY
  have aX : absF X = ab X := by rw [absR (Sm_Rg mX)]; rfl
  have aY : absF Y = ab Y := by rw [absR (Sm_Rg mY)]; rfl
  have ls := lens_sum mX mY
  rw [aX, aY] at ls
  have nb : lenF X Y < 281474976710656 := (sqrt_bd _).2
  have n1 : 131073 ≤ lenF X Y := by rw [aX] at p1; rw [aY] at p2; omega
  have eu : uF X Y = (divF X (lenF X Y), divF Y (lenF X Y)) := by unfold uF; rw [if_neg (by omega)]
  rw [eu] at hg'
  simp only [] at hg'
  obtain ⟨t1, t2⟩ := div_times (Sm_Rg mX) n1 nb p1
  obtain ⟨t3, t4⟩ := div_times (Sm_Rg mY) n1 nb p2
  rw [negR (rg_div _ _)] at hg'
  generalize lenF X Y = L at *
  generalize divF X L = c at *
  generalize divF Y L = d at *
  have k1 := mul_near (a := d) (b := U) (by unfold Sm; omega) (by unfold Sm; omega)
  have k2 := mul_near (a := -c) (b := V) (by unfold Sm; omega) (by unfold Sm; omega)
  rw [addR (rg_mul _ _) (rg_mul _ _)] at hg'
  have hs : mulF d U + mulF (-c) V ≤ 0 := by unfold sat at hg'; split at hg' <;> (try split at hg') <;> omega
  have hsum : d * U + -c * V ≤ 8589934592 := by omega
  -- L times that
  have f1 := mul_l (show 0 ≤ L by omega) hsum
  have f2 : L * (d * U + -c * V) = (L * d) * U - (L * c) * V := by grind
  have g1 : ∀ e x : Int, -L ≤ e → e ≤ L → -8804682956800 ≤ x → x ≤ 8804682956800 → -(L * 8804682956800) ≤ e * x ∧ e * x ≤ L * 8804682956800 := fun e x q1 q2 q3 q4 => prod_in q1 q2 q3 q4
  obtain ⟨r1, r2⟩ := g1 (L * d - Y * 4294967296) U t3.1 t3.2 bdx.1 bdx.2
  obtain ⟨r3, r4⟩ := g1 (L * c - X * 4294967296) V t1.1 t1.2 bdy.1 bdy.2
  have e1 : (L * d - Y * 4294967296) * U = (L * d) * U - 4294967296 * (Y * U) := by grind
  have e2 : (L * c - X * 4294967296) * V = (L * c) * V - 4294967296 * (X * V) := by grind
  rw [f2] at f1
  have key : 4294967296 * (Y * U - X * V) ≤ L * 17617955848192 := by omega
  have key2 : Y * U - X * V ≤ 4102 * L := by omega
  omega
end Go.Proofs.Ytmfkcdinfahjlaa.Fx

/- Plain words: a polygon in place is convex, in whole numbers. -/
namespace Go.Proofs.Ytmfkcdinfahjlaa.Fx
set_option linter.unusedVariables false

theorem mul_ab {a b A B : Int} (h1 : ab a ≤ A) (h2 : ab b ≤ B) : ab (a * b) ≤ A * B := by
  have n1 := ab_nn a
  have n2 := ab_nn b
  have l1 := ab_le a
  have l2 := ab_le b
  have := prod_in (x := a) (y := b) (X := A) (Y := B) (by omega) (by omega) (by omega) (by omega)
  unfold ab; split <;> omega
/-- what a turn does to a cross product, nearly -/
theorem cross_near {A B A' B' E1 E2 E1' E2' c s Z : Int} (hA : ab A ≤ 130) (hB : ab B ≤ 130) (hA' : ab A' ≤ 130) (hB' : ab B' ≤ 130) (hZ : 4194304 ≤ Z ∧ Z ≤ 268435456) (hc : ab c ≤ 4294967296) (hs : ab s ≤ 4294967296)
    (h1 : ab (4294967296 * E1 - (c * (A * Z) - s * (B * Z))) ≤ 17179869184) (h2 : ab (4294967296 * E2 - (s * (A * Z) + c * (B * Z))) ≤ 17179869184)
    (h3 : ab (4294967296 * E1' - (c * (A' * Z) - s * (B' * Z))) ≤ 17179869184) (h4 : ab (4294967296 * E2' - (s * (A' * Z) + c * (B' * Z))) ≤ 17179869184) :
    ab (18446744073709551616 * (E1 * E2' - E2 * E1') - (c * c + s * s) * (Z * Z * (A * B' - B * A'))) ≤ 18446744073709551616 * (4160 * Z + 32) := by
  have zz : ab Z = Z := ab_of (by omega)
  have q : ∀ a b : Int, ab a ≤ 4294967296 → ab b ≤ 130 → ab (a * (b * Z)) ≤ 4294967296 * (130 * Z) := fun a b g1 g2 => mul_ab g1 (mul_ab g2 (by omega))
  have neg : ∀ a b : Int, ab (a - b) ≤ ab a + ab b := fun a b => by have := ab_add a (-b); rw [ab_neg] at this; exact this
  have u1 : ab (c * (A * Z) - s * (B * Z)) ≤ 1116691496960 * Z := by have := neg (c * (A * Z)) (s * (B * Z)); have := q c A hc hA; have := q s B hs hB; omega
  have u2 : ab (s * (A * Z) + c * (B * Z)) ≤ 1116691496960 * Z := by have := ab_add (s * (A * Z)) (c * (B * Z)); have := q s A hs hA; have := q c B hc hB; omega
  have u3 : ab (c * (A' * Z) - s * (B' * Z)) ≤ 1116691496960 * Z := by have := neg (c * (A' * Z)) (s * (B' * Z)); have := q c A' hc hA'; have := q s B' hs hB'; omega
  have u4 : ab (s * (A' * Z) + c * (B' * Z)) ≤ 1116691496960 * Z := by have := ab_add (s * (A' * Z)) (c * (B' * Z)); have := q s A' hs hA'; have := q c B' hc hB'; omega
  have key : 18446744073709551616 * (E1 * E2' - E2 * E1') - (c * c + s * s) * (Z * Z * (A * B' - B * A')) =
      (c * (A * Z) - s * (B * Z)) * (4294967296 * E2' - (s * (A' * Z) + c * (B' * Z))) + (4294967296 * E1 - (c * (A * Z) - s * (B * Z))) * (s * (A' * Z) + c * (B' * Z)) + (4294967296 * E1 - (c * (A * Z) - s * (B * Z))) * (4294967296 * E2' - (s * (A' * Z) + c * (B' * Z)))
      - ((s * (A * Z) + c * (B * Z)) * (4294967296 * E1' - (c * (A' * Z) - s * (B' * Z))) + (4294967296 * E2 - (s * (A * Z) + c * (B * Z))) * (c * (A' * Z) - s * (B' * Z)) + (4294967296 * E2 - (s * (A * Z) + c * (B * Z))) * (4294967296 * E1' - (c * (A' * Z) - s * (B' * Z)))) := by grind
  rw [key]
  clear key
  generalize c * (A * Z) - s * (B * Z) = U1 at *
  generalize s * (A * Z) + c * (B * Z) = U2 at *
  generalize c * (A' * Z) - s * (B' * Z) = U3 at *
  generalize s * (A' * Z) + c * (B' * Z) = U4 at *
  generalize 4294967296 * E1 - U1 = r1 at *
  generalize 4294967296 * E2 - U2 = r2 at *
  generalize 4294967296 * E1' - U3 = r3 at *
  generalize 4294967296 * E2' - U4 = r4 at *
  have m1 := mul_ab u1 h4
  have m2 := mul_ab h1 u4
  have m3 := mul_ab h1 h4
  have m4 := mul_ab u2 h3
  have m5 := mul_ab h2 u3
  have m6 := mul_ab h2 h3
  have n1 := neg (U1 * r4 + r1 * U4 + r1 * r4) (U2 * r3 + r2 * U3 + r2 * r3)
  have n2 := ab_add (U1 * r4 + r1 * U4) (r1 * r4)
  have n3 := ab_add (U1 * r4) (r1 * U4)
  have n4 := ab_add (U2 * r3 + r2 * U3) (r2 * r3)
  have n5 := ab_add (U2 * r3) (r2 * U3)
  omega
section
variable {x y : Nat → Int} {k : Int} {n : Nat} {c s X Y : Int}
/-- the way from one corner to another, turned -/
theorem off_rot (g : Grid x y k n) (hc : ab c ≤ 4294967296) (hs : ab s ≤ 4294967296) {i l : Nat} (hi : i < n) (hl : l < n) :
    ab (4294967296 * (offX (grid x y k) c s l - offX (grid x y k) c s i) - (c * ((x l - x i) * (k * 4194304)) - s * ((y l - y i) * (k * 4194304)))) ≤ 17179869184 ∧
    ab (4294967296 * (offY (grid x y k) c s l - offY (grid x y k) c s i) - (s * ((x l - x i) * (k * 4194304)) + c * ((y l - y i) * (k * 4194304)))) ≤ 17179869184 := by
  have t1 := grid_tiny g i hi
  have t2 := grid_tiny g l hl
  have lc := ab_le c
  have ls := ab_le s
  have sc : Sm c := by unfold Sm; omega
  have ss : Sm s := by unfold Sm; omega
  have a1 := mul_near sc (b := (grid x y k i).1) (by unfold Sm; omega)
  have a2 := mul_near ss (b := (grid x y k i).2) (by unfold Sm; omega)
  have a3 := mul_near sc (b := (grid x y k l).1) (by unfold Sm; omega)
  have a4 := mul_near ss (b := (grid x y k l).2) (by unfold Sm; omega)
  have a5 := mul_near ss (b := (grid x y k i).1) (by unfold Sm; omega)
  have a6 := mul_near sc (b := (grid x y k i).2) (by unfold Sm; omega)
  have a7 := mul_near ss (b := (grid x y k l).1) (by unfold Sm; omega)
  have a8 := mul_near sc (b := (grid x y k l).2) (by unfold Sm; omega)
  have e1 : c * ((x l - x i) * (k * 4194304)) - s * ((y l - y i) * (k * 4194304)) = (c * (grid x y k l).1 - s * (grid x y k l).2) - (c * (grid x y k i).1 - s * (grid x y k i).2) := by unfold grid; simp only []; grind
  have e2 : s * ((x l - x i) * (k * 4194304)) + c * ((y l - y i) * (k * 4194304)) = (s * (grid x y k l).1 + c * (grid x y k l).2) - (s * (grid x y k i).1 + c * (grid x y k i).2) := by unfold grid; simp only []; grind
  rw [e1, e2]
  unfold offX offY ab
  constructor <;> (split <;> omega)
end
end Go.Proofs.Ytmfkcdinfahjlaa.Fx

/- Plain words: a polygon in place is convex and fat, in whole numbers. -/
namespace Go.Proofs.Ytmfkcdinfahjlaa.Fx
set_option linter.unusedVariables false

theorem cr_low {N Z q W : Int} (hN : 18446744056529682432 ≤ N) (hZ : 4194304 ≤ Z) (hq : 1 ≤ q) (h : ab (18446744073709551616 * W - N * (Z * Z * q)) ≤ 18446744073709551616 * (4160 * Z + 32)) : q * ((Z + 4) * (Z + 4)) ≤ 2 * W := by
  have l := (ab_le (18446744073709551616 * W - N * (Z * Z * q))).2
  have z1 : 4194304 * (Z * q) ≤ Z * (Z * q) := by
    have := Int.mul_le_mul_of_nonneg_right hZ (Int.mul_nonneg (show 0 ≤ Z by omega) (show 0 ≤ q by omega)); exact this
  have z2 : 4194304 * q ≤ Z * q := Int.mul_le_mul_of_nonneg_right hZ (by omega)
  have z3 : Z * 1 ≤ Z * q := mul_l (by omega) hq
  have e1 : Z * Z * q = Z * (Z * q) := Int.mul_assoc _ _ _
  have e2 : q * ((Z + 4) * (Z + 4)) = Z * (Z * q) + 8 * (Z * q) + 16 * q := by grind
  rw [e1] at h l
  rw [e2]
  have z4 : 18446744056529682432 * (Z * (Z * q)) ≤ N * (Z * (Z * q)) := Int.mul_le_mul_of_nonneg_right hN (by omega)
  generalize Z * (Z * q) = H at *
  generalize Z * q = G at *
  generalize N * H = M at *
  omega
section
variable {x y : Nat → Int} {k : Int} {n : Nat} {c s X Y : Int}
theorem next_is {n i : Nat} (hn : 3 ≤ n) (hi : i < n) : ((i + 1) % n + 1) % n = (i + 2) % n ∧ (i + 2) % n ≠ i ∧ (i + 2) % n ≠ (i + 1) % n := by
  rcases (show i + 2 < n ∨ i + 2 = n ∨ i + 1 = n by omega) with h | h | h
  · rw [Nat.mod_eq_of_lt (show i + 1 < n by omega), Nat.mod_eq_of_lt h]; omega
  · rw [Nat.mod_eq_of_lt (show i + 1 < n by omega), show i + 1 + 1 = n by omega, Nat.mod_self]; omega
  · have e : (i + 2) % n = 1 := by rw [show i + 2 = 1 + n by omega, Nat.add_mod_right, Nat.mod_eq_of_lt (by omega)]
    rw [e, h, Nat.mod_self, Nat.mod_eq_of_lt (show 0 + 1 < n by omega)]; omega
/-- what a polygon in place has -/
structure InPlace (x y : Nat → Int) (k c s X Y : Int) (n : Nat) : Prop where
  g : Grid x y k n
  f : Fat x y n
  hc : Cn c
  hs : Cn s
  hN : 18446744056529682432 ≤ c * c + s * s
  hX : Pl X
  hY : Pl Y
theorem InPlace.way (h : InPlace x y k c s X Y n) {i l : Nat} (hi : i < n) (hl : l < n) :
    (placeF (grid x y k) c s X Y l).1 - (placeF (grid x y k) c s X Y i).1 = offX (grid x y k) c s l - offX (grid x y k) c s i ∧
    (placeF (grid x y k) c s X Y l).2 - (placeF (grid x y k) c s X Y i).2 = offY (grid x y k) c s l - offY (grid x y k) c s i := by
  rw [place_off h.hc h.hs (grid_tiny h.g) h.hX h.hY hi, place_off h.hc h.hs (grid_tiny h.g) h.hX h.hY hl]
  simp only []
  omega
theorem InPlace.near (h : InPlace x y k c s X Y n) {i l : Nat} (hi : i < n) (hl : l < n) :
    ab (4294967296 * ((placeF (grid x y k) c s X Y l).1 - (placeF (grid x y k) c s X Y i).1) - (c * ((x l - x i) * (k * 4194304)) - s * ((y l - y i) * (k * 4194304)))) ≤ 17179869184 ∧
    ab (4294967296 * ((placeF (grid x y k) c s X Y l).2 - (placeF (grid x y k) c s X Y i).2) - (s * ((x l - x i) * (k * 4194304)) + c * ((y l - y i) * (k * 4194304)))) ≤ 17179869184 := by
  rw [(h.way hi hl).1, (h.way hi hl).2]
  have hc := h.hc
  have hs := h.hs
  unfold Cn at hc hs
  exact off_rot h.g (by unfold ab; split <;> omega) (by unfold ab; split <;> omega) hi hl
theorem ab_cn {c : Int} (h : Cn c) : ab c ≤ 4294967296 := by unfold Cn at h; unfold ab; split <;> omega
theorem way_bd (g : Grid x y k n) {i l : Nat} (hi : i < n) (hl : l < n) : ab (x l - x i) ≤ 130 ∧ ab (y l - y i) ≤ 130 := by
  have := g.xb i hi
  have := g.xb l hl
  have := g.yb i hi
  have := g.yb l hl
  unfold ab
  constructor <;> (split <;> omega)
/-- the cross product of two ways in place -/
theorem InPlace.cross (h : InPlace x y k c s X Y n) {i l i' l' : Nat} (hi : i < n) (hl : l < n) (hi' : i' < n) (hl' : l' < n) (q : Int) (eq : (x l - x i) * (y l' - y i') - (y l - y i) * (x l' - x i') = q) (hq : 1 ≤ q) :
    q * ((k * 4194304 + 4) * (k * 4194304 + 4)) ≤ 2 * (((placeF (grid x y k) c s X Y l).1 - (placeF (grid x y k) c s X Y i).1) * ((placeF (grid x y k) c s X Y l').2 - (placeF (grid x y k) c s X Y i').2) - ((placeF (grid x y k) c s X Y l).2 - (placeF (grid x y k) c s X Y i).2) * ((placeF (grid x y k) c s X Y l').1 - (placeF (grid x y k) c s X Y i').1)) := by
  have k0 := h.g.k0
  have k1 := h.g.k1
  have n1 := h.near hi hl
  have n2 := h.near hi' hl'
  have b1 := way_bd h.g hi hl
  have b2 := way_bd h.g hi' hl'
  have := cross_near (Z := k * 4194304) b1.1 b1.2 b2.1 b2.2 (by omega) (ab_cn h.hc) (ab_cn h.hs) n1.1 n1.2 n2.1 n2.2
  rw [eq] at this
  exact cr_low h.hN (by omega) hq this
/-- a way in place is long -/
theorem InPlace.long (h : InPlace x y k c s X Y n) {i l : Nat} (hi : i < n) (hl : l < n) (hq : x l - x i ≠ 0 ∨ y l - y i ≠ 0) :
    1048576 ≤ ab ((placeF (grid x y k) c s X Y l).1 - (placeF (grid x y k) c s X Y i).1) ∨ 1048576 ≤ ab ((placeF (grid x y k) c s X Y l).2 - (placeF (grid x y k) c s X Y i).2) := by
  have k0 := h.g.k0
  have k1 := h.g.k1
  have n1 := h.near hi hl
  have b1 := way_bd h.g hi hl
  generalize (placeF (grid x y k) c s X Y l).1 - (placeF (grid x y k) c s X Y i).1 = E1 at *
  generalize (placeF (grid x y k) c s X Y l).2 - (placeF (grid x y k) c s X Y i).2 = E2 at *
  generalize x l - x i = A at *
  generalize y l - y i = B at *
  have m1 : ab (4294967296 * (-E2) - (c * (-B * (k * 4194304)) - s * (A * (k * 4194304)))) ≤ 17179869184 := by
    have e : 4294967296 * (-E2) - (c * (-B * (k * 4194304)) - s * (A * (k * 4194304))) = -(4294967296 * E2 - (s * (A * (k * 4194304)) + c * (B * (k * 4194304)))) := by grind
    rw [e, ab_neg]; exact n1.2
  have m2 : ab (4294967296 * E1 - (s * (-B * (k * 4194304)) + c * (A * (k * 4194304)))) ≤ 17179869184 := by
    have e : 4294967296 * E1 - (s * (-B * (k * 4194304)) + c * (A * (k * 4194304))) = 4294967296 * E1 - (c * (A * (k * 4194304)) - s * (B * (k * 4194304))) := by grind
    rw [e]; exact n1.1
  have t := cross_near (Z := k * 4194304) b1.1 b1.2 (show ab (-B) ≤ 130 by rw [ab_neg]; exact b1.2) b1.1 (by omega) (ab_cn h.hc) (ab_cn h.hs) n1.1 n1.2 m1 m2
  have p1 : 0 ≤ A * A := by rcases (show 0 ≤ A ∨ A ≤ 0 by omega) with g | g; exact Int.mul_nonneg g g; exact Int.mul_nonneg_of_nonpos_of_nonpos g g
  have p2 : 0 ≤ B * B := by rcases (show 0 ≤ B ∨ B ≤ 0 by omega) with g | g; exact Int.mul_nonneg g g; exact Int.mul_nonneg_of_nonpos_of_nonpos g g
  have p3 : 1 ≤ A * A - B * -B := by
    rw [Int.mul_neg]
    rcases hq with g | g
    · have : A * A ≠ 0 := Int.mul_ne_zero g g
      omega
    · have : B * B ≠ 0 := Int.mul_ne_zero g g
      omega
  have r := cr_low h.hN (by omega) p3 t
  have r1 : 1 * ((k * 4194304 + 4) * (k * 4194304 + 4)) ≤ (A * A - B * -B) * ((k * 4194304 + 4) * (k * 4194304 + 4)) := Int.mul_le_mul_of_nonneg_right p3 (Int.mul_nonneg (by omega) (by omega))
  have r2 : 4194304 * 4194304 ≤ (k * 4194304 + 4) * (k * 4194304 + 4) := Int.mul_le_mul (by omega) (by omega) (by omega) (by omega)
  refine Classical.byContradiction fun hh => ?_
  have a1 := mul_ab (show ab E1 ≤ 1048576 by omega) (show ab E1 ≤ 1048576 by omega)
  have a2 := mul_ab (show ab E2 ≤ 1048576 by omega) (show ab E2 ≤ 1048576 by omega)
  have l1 := (ab_le (E1 * E1)).1
  have l2 := (ab_le (E2 * E2)).1
  simp only [Int.mul_neg] at r r1
  omega
/-- a way in place is not too long -/
theorem InPlace.short (h : InPlace x y k c s X Y n) {i l : Nat} (hi : i < n) (hl : l < n) :
    ab ((placeF (grid x y k) c s X Y l).1 - (placeF (grid x y k) c s X Y i).1) + ab ((placeF (grid x y k) c s X Y l).2 - (placeF (grid x y k) c s X Y i).2) ≤ 2 * ((k * 4194304) * (ab (x l - x i) + ab (y l - y i))) + 8 := by
  have k0 := h.g.k0
  have n1 := h.near hi hl
  have zz : ab (k * 4194304) = k * 4194304 := ab_of (by omega)
  have q : ∀ a b : Int, ab a ≤ 4294967296 → ab (a * (b * (k * 4194304))) ≤ 4294967296 * (ab b * (k * 4194304)) := fun a b g => mul_ab g (by rw [ab_mul (by omega)]; omega)
  generalize (placeF (grid x y k) c s X Y l).1 - (placeF (grid x y k) c s X Y i).1 = E1 at *
  generalize (placeF (grid x y k) c s X Y l).2 - (placeF (grid x y k) c s X Y i).2 = E2 at *
  generalize x l - x i = A at *
  generalize y l - y i = B at *
  have hc := ab_cn h.hc
  have hs := ab_cn h.hs
  have q1 := q c A hc
  have q2 := q s B hs
  have q3 := q s A hs
  have q4 := q c B hc
  have e : (k * 4194304) * (ab A + ab B) = ab A * (k * 4194304) + ab B * (k * 4194304) := by grind
  rw [e]
  generalize ab A * (k * 4194304) = U at *
  generalize ab B * (k * 4194304) = V at *
  generalize c * (A * (k * 4194304)) = v1 at *
  generalize s * (B * (k * 4194304)) = v2 at *
  generalize s * (A * (k * 4194304)) = v3 at *
  generalize c * (B * (k * 4194304)) = v4 at *
  have f1 : ab E1 ≤ U + V + 4 := by obtain ⟨n3, n4⟩ := n1; unfold ab at *; grind
  have f2 : ab E2 ≤ U + V + 4 := by obtain ⟨n3, n4⟩ := n1; unfold ab at *; grind
  omega
theorem InPlace.poly (h : InPlace x y k c s X Y n) : PolyX (placeF (grid x y k) c s X Y) n 32 ∧ ∀ i, i < n → 1048576 ≤ ab (eX (placeF (grid x y k) c s X Y) n i) ∨ 1048576 ≤ ab (eY (placeF (grid x y k) c s X Y) n i) := by
  have n0 := h.g.n0
  have k0 := h.g.k0
  have nz : ∀ i, i < n → x ((i + 1) % n) - x i ≠ 0 ∨ y ((i + 1) % n) - y i ≠ 0 := fun i hi => by
    obtain ⟨e, d1, d2⟩ := next_is n0 hi
    have := h.g.cv i hi ((i + 2) % n) (Nat.mod_lt _ (by omega)) d1 d2
    unfold icross at this
    refine Classical.byContradiction fun hh => ?_
    have z1 : x ((i + 1) % n) - x i = 0 := by omega
    have z2 : y ((i + 1) % n) - y i = 0 := by omega
    rw [z1, z2, Int.zero_mul, Int.zero_mul] at this
    omega
  have lg : ∀ i, i < n → 1048576 ≤ ab (eX (placeF (grid x y k) c s X Y) n i) ∨ 1048576 ≤ ab (eY (placeF (grid x y k) c s X Y) n i) := fun i hi => h.long hi (Nat.mod_lt _ (by omega)) (nz i hi)
  refine ⟨⟨by omega, fun i hi j hj => ?_, fun i hi => ?_, fun i hi => ?_⟩, lg⟩
  · unfold eX eY
    by_cases d1 : j = i
    · subst d1; rw [Int.sub_self, Int.sub_self]; omega
    by_cases d2 : j = (i + 1) % n
    · rw [d2, Int.mul_comm, Int.sub_self]; omega
    have cv := h.g.cv i hi j hj d1 d2
    have r := h.cross hi (Nat.mod_lt (i + 1) (by omega)) hi hj (icross x y i ((i + 1) % n) j) rfl (show 1 ≤ icross x y i ((i + 1) % n) j by omega)
    have : 0 ≤ icross x y i ((i + 1) % n) j * ((k * 4194304 + 4) * (k * 4194304 + 4)) := Int.mul_nonneg (by omega) (Int.mul_nonneg (by omega) (by omega))
    omega
  · obtain ⟨e, d1, d2⟩ := next_is n0 hi
    have hi1 : (i + 1) % n < n := Nat.mod_lt _ (by omega)
    have hi2 : (i + 2) % n < n := Nat.mod_lt _ (by omega)
    have cv := h.g.cv i hi ((i + 2) % n) hi2 d1 d2
    have ft := h.f i hi
    have z1 := nz i hi
    have z2 := nz _ hi1
    rw [e] at z2
    have s1 := h.short hi hi1
    have s2 := h.short hi1 hi2
    have eq : (x ((i + 1) % n) - x i) * (y ((i + 2) % n) - y ((i + 1) % n)) - (y ((i + 1) % n) - y i) * (x ((i + 2) % n) - x ((i + 1) % n)) = icross x y i ((i + 1) % n) ((i + 2) % n) := by unfold icross; grind
    have r := h.cross hi hi1 hi1 hi2 _ eq (by omega)
    rw [eq] at ft
    unfold sN eX eY
    rw [e]
    generalize icross x y i ((i + 1) % n) ((i + 2) % n) = q at *
    have a1 : 1 ≤ ab (x ((i + 1) % n) - x i) + ab (y ((i + 1) % n) - y i) := by unfold ab; split <;> split <;> omega
    have a2 : 1 ≤ ab (x ((i + 2) % n) - x ((i + 1) % n)) + ab (y ((i + 2) % n) - y ((i + 1) % n)) := by unfold ab; split <;> split <;> omega
    generalize ab (x ((i + 1) % n) - x i) + ab (y ((i + 1) % n) - y i) = a at *
    generalize ab (x ((i + 2) % n) - x ((i + 1) % n)) + ab (y ((i + 2) % n) - y ((i + 1) % n)) = b at *
    have t1 := ab_nn ((placeF (grid x y k) c s X Y ((i + 1) % n)).1 - (placeF (grid x y k) c s X Y i).1)
    have t2 := ab_nn ((placeF (grid x y k) c s X Y ((i + 1) % n)).2 - (placeF (grid x y k) c s X Y i).2)
    have t3 := ab_nn ((placeF (grid x y k) c s X Y ((i + 2) % n)).1 - (placeF (grid x y k) c s X Y ((i + 1) % n)).1)
    have t4 := ab_nn ((placeF (grid x y k) c s X Y ((i + 2) % n)).2 - (placeF (grid x y k) c s X Y ((i + 1) % n)).2)
    have g1 := Int.add_nonneg t1 t2
    have g2 := Int.add_nonneg t3 t4
    generalize ab ((placeF (grid x y k) c s X Y ((i + 1) % n)).1 - (placeF (grid x y k) c s X Y i).1) + ab ((placeF (grid x y k) c s X Y ((i + 1) % n)).2 - (placeF (grid x y k) c s X Y i).2) = S1 at *
    generalize ab ((placeF (grid x y k) c s X Y ((i + 2) % n)).1 - (placeF (grid x y k) c s X Y ((i + 1) % n)).1) + ab ((placeF (grid x y k) c s X Y ((i + 2) % n)).2 - (placeF (grid x y k) c s X Y ((i + 1) % n)).2) = S2 at *
    have u1 : S1 ≤ 2 * (a * (k * 4194304 + 4)) := by rw [Int.mul_comm (k * 4194304) a] at s1; rw [Int.mul_add]; omega
    have u2 : S2 ≤ 2 * (b * (k * 4194304 + 4)) := by rw [Int.mul_comm (k * 4194304) b] at s2; rw [Int.mul_add]; omega
    have v : S1 * S2 ≤ (2 * (a * (k * 4194304 + 4))) * (2 * (b * (k * 4194304 + 4))) := by
      have w1 : S1 * S2 ≤ S1 * (2 * (b * (k * 4194304 + 4))) := mul_l g1 u2
      have w2 : S1 * (2 * (b * (k * 4194304 + 4))) ≤ (2 * (a * (k * 4194304 + 4))) * (2 * (b * (k * 4194304 + 4))) := Int.mul_le_mul_of_nonneg_right u1 (by have := Int.mul_nonneg (show 0 ≤ b by omega) (show 0 ≤ k * 4194304 + 4 by omega); omega)
      omega
    have v2 : (2 * (a * (k * 4194304 + 4))) * (2 * (b * (k * 4194304 + 4))) = 4 * ((a * b) * ((k * 4194304 + 4) * (k * 4194304 + 4))) := by grind
    have v3 : (a * b) * ((k * 4194304 + 4) * (k * 4194304 + 4)) ≤ (4 * q) * ((k * 4194304 + 4) * (k * 4194304 + 4)) := Int.mul_le_mul_of_nonneg_right ft (Int.mul_nonneg (by omega) (by omega))
    rw [Int.mul_assoc 4 q] at v3
    omega
  · have := lg i hi
    unfold sN
    have := ab_nn (eX (placeF (grid x y k) c s X Y) n i)
    have := ab_nn (eY (placeF (grid x y k) c s X Y) n i)
    omega
end
end Go.Proofs.Ytmfkcdinfahjlaa.Fx

/- Plain words: two polygons that touch reach to within a little of each other, both ways along each axis. -/
namespace Go.Proofs.Ytmfkcdinfahjlaa.Fx
set_option linter.unusedVariables false

theorem sides_neg {P Q : Cs} {n m : Nat} (n0 : 0 < n) (h : gapF P n Q m (sideF P n Q m) < 0) : ∀ i, i < n → gapF P n Q m i ≤ 0 := fun i hi => by
  have := firstF_top (gapF P n Q m) (n - 1) i (by omega)
  unfold sideF at h
  omega
section
variable {x y x' y' : Nat → Int} {k c s X Y k' c' s' X' Y' : Int} {n m : Nat}
theorem InPlace.corners (h : InPlace x y k c s X Y n) (hX : -4294967296000 ≤ X ∧ X ≤ 4294967296000) (hY : -4294967296000 ≤ Y ∧ Y ≤ 4294967296000) : ∀ i, i < n →
    (-4402341478400 ≤ (placeF (grid x y k) c s X Y i).1 ∧ (placeF (grid x y k) c s X Y i).1 ≤ 4402341478400) ∧ (-4402341478400 ≤ (placeF (grid x y k) c s X Y i).2 ∧ (placeF (grid x y k) c s X Y i).2 ≤ 4402341478400) := fun i hi => by
  have b := off_bd h.hc h.hs (grid_tiny h.g) hi
  rw [place_off h.hc h.hs (grid_tiny h.g) h.hX h.hY hi]
  simp only []
  omega
theorem InPlace.gaps (h : InPlace x y k c s X Y n) (hX : -4294967296000 ≤ X ∧ X ≤ 4294967296000) (hY : -4294967296000 ≤ Y ∧ Y ≤ 4294967296000) {Q : Cs} (m0 : 0 < m)
    (hq : ∀ i, i < m → (-4402341478400 ≤ (Q i).1 ∧ (Q i).1 ≤ 4402341478400) ∧ (-4402341478400 ≤ (Q i).2 ∧ (Q i).2 ≤ 4402341478400))
    (hg : gapF (placeF (grid x y k) c s X Y) n Q m (sideF (placeF (grid x y k) c s X Y) n Q m) < 0) : GapX (placeF (grid x y k) c s X Y) n Q m 4102 := fun i hi =>
  gap_neg (by omega) m0 hi (h.corners hX hY) hq (h.poly.2 i hi) (sides_neg (by omega) hg i hi)
/-- two polygons that touch -/
theorem polys_near (h : InPlace x y k c s X Y n) (h' : InPlace x' y' k' c' s' X' Y' m) (hX : -4294967296000 ≤ X ∧ X ≤ 4294967296000) (hY : -4294967296000 ≤ Y ∧ Y ≤ 4294967296000) (hX' : -4294967296000 ≤ X' ∧ X' ≤ 4294967296000) (hY' : -4294967296000 ≤ Y' ∧ Y' ≤ 4294967296000)
    (ht : polysF (placeF (grid x y k) c s X Y) n (placeF (grid x' y' k') c' s' X' Y') m ≠ none) :
    (∃ i j, i < n ∧ j < m ∧ (placeF (grid x' y' k') c' s' X' Y' j).1 - (placeF (grid x y k) c s X Y i).1 ≤ 262528) ∧ (∃ i j, i < n ∧ j < m ∧ (placeF (grid x y k) c s X Y i).1 - (placeF (grid x' y' k') c' s' X' Y' j).1 ≤ 262528) ∧
    (∃ i j, i < n ∧ j < m ∧ (placeF (grid x' y' k') c' s' X' Y' j).2 - (placeF (grid x y k) c s X Y i).2 ≤ 262528) ∧ (∃ i j, i < n ∧ j < m ∧ (placeF (grid x y k) c s X Y i).2 - (placeF (grid x' y' k') c' s' X' Y' j).2 ≤ 262528) := by
  have n0 := h.g.n0
  have m0 := h'.g.n0
  have hh : ¬ (0 ≤ gapF (placeF (grid x y k) c s X Y) n (placeF (grid x' y' k') c' s' X' Y') m (sideF (placeF (grid x y k) c s X Y) n (placeF (grid x' y' k') c' s' X' Y') m) ∨ 0 ≤ gapF (placeF (grid x' y' k') c' s' X' Y') m (placeF (grid x y k) c s X Y) n (sideF (placeF (grid x' y' k') c' s' X' Y') m (placeF (grid x y k) c s X Y) n)) := fun g => ht (polys_far _ _ _ _ g).1
  have g1 := h.gaps hX hY (by omega) (h'.corners hX' hY') (by omega)
  have g2 := h'.gaps hX' hY' (by omega) (h.corners hX hY) (by omega)
  exact sep_all h.poly.1 h'.poly.1 g1 g2 (by omega) (by omega)
/-- the same, for the least and the greatest of the corners -/
theorem ext_near {f g : Nat → Int} {a b p q d : Int} (hf : Ext f n a b) (hg : Ext g m p q) (h : ∃ i j, i < n ∧ j < m ∧ g j - f i ≤ d) : p ≤ b + d := by
  obtain ⟨i, j, hi, hj, e⟩ := h
  have := (hf.1 i hi).2
  have := (hg.1 j hj).1
  omega
end
end Go.Proofs.Ytmfkcdinfahjlaa.Fx

/- Plain words: a point that lies beyond no side of a convex polygon, nearly, lies beyond no corner of it along an axis, nearly. -/
namespace Go.Proofs.Ytmfkcdinfahjlaa.Fx
set_option linter.unusedVariables false

theorem pt_x {P : Cs} {n : Nat} {K τ : Int} {v : Int × Int} (hP : PolyX P n K) (gP : GapX P n (fun _ => v) 1 τ) (hK : 0 ≤ K) (hτ : 0 ≤ τ) : ∃ i, i < n ∧ v.1 - (P i).1 ≤ 2 * (K * τ) := by
  obtain ⟨a, ha, ta⟩ : ∃ a, a < n ∧ ∀ i, i < n → (P i).1 ≤ (P a).1 := by
    have := hP.n0
    have h1 := firstF_le (fun i => (P i).1) (n - 1)
    exact ⟨firstF (fun i => (P i).1) (n - 1), by omega, fun i hi => firstF_top (fun i => (P i).1) (n - 1) i (by omega)⟩
  refine ⟨a, ha, ?_⟩
  obtain ⟨hp, ep⟩ := prev_is ha
  generalize (a + n - 1) % n = p at *
  have hn : (a + 1) % n < n := Nat.mod_lt _ hP.n0
  have x1 : eX P n p = (P a).1 - (P p).1 := by unfold eX; rw [ep]
  have y1 : eY P n p = (P a).2 - (P p).2 := by unfold eY; rw [ep]
  have f1 := hP.fat p hp
  rw [ep] at f1
  have s1 := hP.pos p hp
  have s2 := hP.pos a ha
  have t1 := ta p hp
  have t2 := ta _ hn
  obtain ⟨j1, hj1, gp⟩ := gP p hp
  obtain ⟨j2, hj2, ga⟩ := gP a ha
  simp only [] at gp ga
  have w1 : ab (eY P n p) + ab (-eX P n p) = sN P n p := by rw [ab_neg]; unfold sN; omega
  have w2 : ab (eY P n a) + ab (-eX P n a) = sN P n a := by rw [ab_neg]; unfold sN; omega
  have b1 : 0 ≤ eX P n p := by rw [x1]; omega
  have b2 : eX P n a ≤ 0 := by unfold eX; omega
  have z1 : eX P n p * ((P a).2 - (P p).2) - eY P n p * ((P a).1 - (P p).1) = 0 := by rw [x1, y1]; grind
  clear x1 y1
  generalize sN P n p = S1 at *
  generalize sN P n a = S2 at *
  generalize eX P n p = X1 at *
  generalize eY P n p = Y1 at *
  generalize eX P n a = X2 at *
  generalize eY P n a = Y2 at *
  have e : X1 * Y2 - Y1 * X2 = Y1 * -X2 - -X1 * Y2 := by grind
  rw [e] at f1
  exact cone_one (a1 := Y1) (b1 := -X1) (a2 := Y2) (b2 := -X2) (dy := v.2 - (P a).2) (by omega) (by omega) w1 w2 s1 s2 hK hτ f1 (by grind) (by grind)
theorem pt_all {P : Cs} {n : Nat} {K τ : Int} {v : Int × Int} (hP : PolyX P n K) (gP : GapX P n (fun _ => v) 1 τ) (hK : 0 ≤ K) (hτ : 0 ≤ τ) :
    (∃ i, i < n ∧ v.1 - (P i).1 ≤ 2 * (K * τ)) ∧ (∃ i, i < n ∧ (P i).1 - v.1 ≤ 2 * (K * τ)) ∧ (∃ i, i < n ∧ v.2 - (P i).2 ≤ 2 * (K * τ)) ∧ (∃ i, i < n ∧ (P i).2 - v.2 ≤ 2 * (K * τ)) := by
  have g1 : GapX (rot P) n (fun _ => (v.2, -v.1)) 1 τ := gP.rot
  have g2 : GapX (rot (rot P)) n (fun _ => (-v.1, -v.2)) 1 τ := g1.rot
  have g3 : GapX (rot (rot (rot P))) n (fun _ => (-v.2, - -v.1)) 1 τ := g2.rot
  obtain ⟨i1, h1, e1⟩ := pt_x hP gP hK hτ
  obtain ⟨i2, h2, e2⟩ := pt_x hP.rot g1 hK hτ
  obtain ⟨i3, h3, e3⟩ := pt_x hP.rot.rot g2 hK hτ
  obtain ⟨i4, h4, e4⟩ := pt_x hP.rot.rot.rot g3 hK hτ
  unfold rot at e2 e3 e4
  simp only [] at e2 e3 e4
  exact ⟨⟨i1, h1, e1⟩, ⟨i3, h3, by omega⟩, ⟨i2, h2, e2⟩, ⟨i4, h4, by omega⟩⟩
section
variable {x y : Nat → Int} {k c s X Y : Int} {n : Nat}
/-- a circle whose middle lies beyond no side -/
theorem flat_near (h : InPlace x y k c s X Y n) (hX : -4294967296000 ≤ X ∧ X ≤ 4294967296000) (hY : -4294967296000 ≤ Y ∧ Y ≤ 4294967296000) {v : Int × Int}
    (hv : (-4402341478400 ≤ v.1 ∧ v.1 ≤ 4402341478400) ∧ (-4402341478400 ≤ v.2 ∧ v.2 ≤ 4402341478400))
    (hg : ∀ i, i < n → gapF (placeF (grid x y k) c s X Y) n (fun _ => v) 1 i ≤ 0) :
    (∃ i, i < n ∧ v.1 - (placeF (grid x y k) c s X Y i).1 ≤ 262528) ∧ (∃ i, i < n ∧ (placeF (grid x y k) c s X Y i).1 - v.1 ≤ 262528) ∧ (∃ i, i < n ∧ v.2 - (placeF (grid x y k) c s X Y i).2 ≤ 262528) ∧ (∃ i, i < n ∧ (placeF (grid x y k) c s X Y i).2 - v.2 ≤ 262528) := by
  have n0 := h.g.n0
  have g1 : GapX (placeF (grid x y k) c s X Y) n (fun _ => v) 1 4102 := fun i hi => gap_neg (by omega) (by omega) hi (h.corners hX hY) (fun _ _ => hv) (h.poly.2 i hi) (hg i hi)
  exact pt_all h.poly.1 g1 (by omega) (by omega)
end
end Go.Proofs.Ytmfkcdinfahjlaa.Fx

/- Plain words: two circles that touch, and a circle that touches a corner, reach near each other. -/
namespace Go.Proofs.Ytmfkcdinfahjlaa.Fx
set_option linter.unusedVariables false

/-- no corner lies so far out -/
def Far (p : Int × Int) : Prop := (-4402341478400 ≤ p.1 ∧ p.1 ≤ 4402341478400) ∧ (-4402341478400 ≤ p.2 ∧ p.2 ≤ 4402341478400)
theorem way_near {p q : Int × Int} {r : Int} (hp : Far p) (hq : Far q) (h : lenV (subV q p) < r) : ab (q.1 - p.1) ≤ r + 131072 ∧ ab (q.2 - p.2) ≤ r + 131072 := by
  unfold Far at hp hq
  unfold lenV subV at h
  simp only [] at h
  rw [sub_exact (a := q.1) (b := p.1) (by unfold Rg; omega) (by unfold Rg; omega) (by unfold Rg; omega), sub_exact (a := q.2) (b := p.2) (by unfold Rg; omega) (by unfold Rg; omega) (by unfold Rg; omega)] at h
  have m1 : Sm (q.1 - p.1) := by unfold Sm; omega
  have m2 : Sm (q.2 - p.2) := by unfold Sm; omega
  obtain ⟨l1, l2⟩ := lens_part m1 m2
  have a1 : absF (q.1 - p.1) = ab (q.1 - p.1) := by rw [absR (Sm_Rg m1)]; rfl
  have a2 : absF (q.2 - p.2) = ab (q.2 - p.2) := by rw [absR (Sm_Rg m2)]; rfl
  rw [a1] at l1
  rw [a2] at l2
  omega
theorem rounds_near {a b : Int × Int} {ra rb : Int} (ha : Far a) (hb : Far b) (r0 : 0 ≤ ra ∧ ra ≤ 4402341478400) (r1 : 0 ≤ rb ∧ rb ≤ 4402341478400) (h : roundsF a ra b rb ≠ none) : ab (b.1 - a.1) ≤ ra + rb + 131072 ∧ ab (b.2 - a.2) ≤ ra + rb + 131072 := by
  unfold roundsF at h
  by_cases g : addF ra rb ≤ lenV (subV b a)
  · rw [if_pos g] at h; exact absurd rfl h
  rw [addR (by unfold Rg; omega) (by unfold Rg; omega), satR (by unfold Rg; omega)] at g
  exact way_near ha hb (by omega)
theorem corner_near {N p v : Int × Int} {r key : Int} (hp : Far p) (hv : Far v) (h : cornerF N p (subV v p) r key ≠ none) : ab (v.1 - p.1) ≤ r + 131072 ∧ ab (v.2 - p.2) ≤ r + 131072 := by
  unfold cornerF at h
  by_cases g : r ≤ lenV (subV v p)
  · rw [if_pos g] at h; exact absurd rfl h
  exact way_near hp hv (by omega)
end Go.Proofs.Ytmfkcdinfahjlaa.Fx

/- Plain words: a circle that touches a side of a polygon reaches near it. -/
namespace Go.Proofs.Ytmfkcdinfahjlaa.Fx
set_option linter.unusedVariables false

theorem ab_sq (z : Int) : ab z * ab z = z * z := by unfold ab; split; rw [Int.neg_mul_neg]; rfl
/-- where the foot lies -/
theorem foot {S D X C Y r L U : Int} (e : S * U = D * X + C * Y) (hS : S = X * X + Y * Y) (h0 : 8796093022208 ≤ S) (L0 : 0 ≤ L) (hL : L * L ≤ S) (r0 : 0 ≤ r)
    (d1 : -8589934592 ≤ D) (d2 : D ≤ S + 8589934592) (c1 : ab C ≤ r * L + 4102 * (ab X + ab Y)) :
    min 0 X - r - 12300 ≤ U ∧ U ≤ max 0 X + r + 12300 := by
  have x0 := ab_nn X
  have y0 := ab_nn Y
  have xx := ab_sq X
  have yy := ab_sq Y
  have lX := ab_le X
  have f1 : 2097152 * ab X ≤ S := by
    have := sq_nn (ab X - 2097152)
    have g : (ab X - 2097152) * (ab X - 2097152) = ab X * ab X - 4194304 * ab X + 4398046511104 := by grind
    have := sq_nn Y
    omega
  have f2 : L * ab Y ≤ S := by
    have := sq_nn (L - ab Y)
    have g : (L - ab Y) * (L - ab Y) = L * L - 2 * (L * ab Y) + ab Y * ab Y := by grind
    have := sq_nn X
    omega
  have f3 : ab X * ab Y ≤ S := by
    have := sq_nn (ab X - ab Y)
    have g : (ab X - ab Y) * (ab X - ab Y) = ab X * ab X - 2 * (ab X * ab Y) + ab Y * ab Y := by grind
    omega
  have f4 : ab Y * ab Y ≤ S := by have := sq_nn X; omega
  have f5 : ab (C * Y) ≤ S * r + 8204 * S := by
    have m : ab (C * Y) ≤ (r * L + 4102 * (ab X + ab Y)) * ab Y := mul_ab c1 (Int.le_refl _)
    have g : (r * L + 4102 * (ab X + ab Y)) * ab Y = r * (L * ab Y) + 4102 * (ab X * ab Y) + 4102 * (ab Y * ab Y) := by grind
    have := mul_l r0 f2
    have := Int.mul_comm r S
    omega
  have lC := ab_le (C * Y)
  have f6 : S * min 0 X - 4096 * S ≤ D * X ∧ D * X ≤ S * max 0 X + 4096 * S := by
    rcases Int.le_total 0 X with hx | hx
    · rw [Int.min_eq_left hx, Int.max_eq_right hx]
      have e1 : ab X = X := ab_of hx
      have k1 := Int.mul_le_mul_of_nonneg_right d1 hx
      have k2 := Int.mul_le_mul_of_nonneg_right d2 hx
      rw [Int.add_mul] at k2
      omega
    · rw [Int.min_eq_right hx, Int.max_eq_left hx]
      have e1 : ab X = -X := ab_of' hx
      have k1 := Int.mul_le_mul_of_nonneg_right d1 (show 0 ≤ -X by omega)
      have k2 := Int.mul_le_mul_of_nonneg_right d2 (show 0 ≤ -X by omega)
      rw [Int.add_mul] at k2
      simp only [Int.mul_neg] at k1 k2
      omega
  constructor
  · refine Int.le_of_mul_le_mul_left (a := S) ?_ (by omega)
    have g : S * (min 0 X - r - 12300) = S * min 0 X - S * r - 12300 * S := by grind
    omega
  · refine Int.le_of_mul_le_mul_left (a := S) ?_ (by omega)
    have g : S * (max 0 X + r + 12300) = S * max 0 X + S * r + 12300 * S := by grind
    omega
theorem sat_pos {z : Int} (h : 0 < sat z) : 0 < z := by unfold sat at h; split at h; omega; split at h <;> omega
theorem sat_lt {z r : Int} (hr : r ≤ 17179869184) (h : sat z < r) : z < r := by unfold sat at h; split at h; omega; split at h <;> omega
theorem dot_pos {a b c d : Int} (ha : Sm a) (hb : Sm b) (hc : Sm c) (hd : Sm d) (h : 0 < dotV (a, b) (c, d)) : -8589934592 ≤ a * c + b * d := by
  unfold dotV at h
  simp only [] at h
  rw [addR (rg_mul _ _) (rg_mul _ _)] at h
  have := sat_pos h
  have := mul_near ha hc
  have := mul_near hb hd
  omega
/-- how far a place lies beyond a side, in whole numbers -/
theorem cross_gap {X Y U V r : Int} (bX : -8804682956800 ≤ X ∧ X ≤ 8804682956800) (bY : -8804682956800 ≤ Y ∧ Y ≤ 8804682956800) (bU : -8804682956800 ≤ U ∧ U ≤ 8804682956800) (bV : -8804682956800 ≤ V ∧ V ≤ 8804682956800)
    (hl : 1048576 ≤ ab X ∨ 1048576 ≤ ab Y) (r1 : r ≤ 17179869184) (h0 : 0 < dotV ((uF X Y).2, negF (uF X Y).1) (U, V)) (hg : dotV ((uF X Y).2, negF (uF X Y).1) (U, V) < r) :
    ab (Y * U - X * V) ≤ r * lenF X Y + 4102 * (ab X + ab Y) := by
  have mX : Sm X := by unfold Sm; omega
  have mY : Sm Y := by unfold Sm; omega
  obtain ⟨p1, p2⟩ := lens_part mX mY
  have aX : absF X = ab X := by rw [absR (Sm_Rg mX)]; rfl
  have aY : absF Y = ab Y := by rw [absR (Sm_Rg mY)]; rfl
  have ls := lens_sum mX mY
  rw [aX, aY] at ls
  have nb : lenF X Y < 281474976710656 := (sqrt_bd _).2
  have n1 : 131073 ≤ lenF X Y := by rw [aX] at p1; rw [aY] at p2; omega
  have eu : uF X Y = (divF X (lenF X Y), divF Y (lenF X Y)) := by unfold uF; rw [if_neg (by omega)]
  rw [eu] at hg h0
  unfold dotV at hg h0
  simp only [] at hg h0
  obtain ⟨t1, t2⟩ := div_times (Sm_Rg mX) n1 nb p1
  obtain ⟨t3, t4⟩ := div_times (Sm_Rg mY) n1 nb p2
  rw [negR (rg_div _ _), addR (rg_mul _ _) (rg_mul _ _)] at hg h0
  generalize lenF X Y = L at *
  generalize divF X L = c at *
  generalize divF Y L = d at *
  have k1 := mul_near (a := d) (b := U) (by unfold Sm; omega) (by unfold Sm; omega)
  have k2 := mul_near (a := -c) (b := V) (by unfold Sm; omega) (by unfold Sm; omega)
  have hs := sat_lt r1 hg
  have hz := sat_pos h0
  have hsum : d * U + -c * V ≤ 4294967296 * r + 8589934592 := by omega
  have hsum0 : -8589934592 ≤ d * U + -c * V := by omega
  have f1 := mul_l (show 0 ≤ L by omega) hsum
  have f0 := mul_l (show 0 ≤ L by omega) hsum0
  have f2 : L * (d * U + -c * V) = (L * d) * U - (L * c) * V := by grind
  have g1 : ∀ e x : Int, -L ≤ e → e ≤ L → -8804682956800 ≤ x → x ≤ 8804682956800 → -(L * 8804682956800) ≤ e * x ∧ e * x ≤ L * 8804682956800 := fun e x q1 q2 q3 q4 => prod_in q1 q2 q3 q4
  obtain ⟨r1, r2⟩ := g1 (L * d - Y * 4294967296) U t3.1 t3.2 bU.1 bU.2
  obtain ⟨r3, r4⟩ := g1 (L * c - X * 4294967296) V t1.1 t1.2 bV.1 bV.2
  have e1 : (L * d - Y * 4294967296) * U = (L * d) * U - 4294967296 * (Y * U) := by grind
  have e2 : (L * c - X * 4294967296) * V = (L * c) * V - 4294967296 * (X * V) := by grind
  have e3 : L * (4294967296 * r + 8589934592) = 4294967296 * (r * L) + L * 8589934592 := by grind
  rw [f2] at f1 f0
  have key : 4294967296 * (Y * U - X * V) ≤ 4294967296 * (r * L) + L * 17617955848192 := by omega
  have key0 : -(L * 17617955848192) ≤ 4294967296 * (Y * U - X * V) := by omega
  have key2 : Y * U - X * V ≤ r * L + 4102 * L := by omega
  have key3 : -(4102 * L) ≤ Y * U - X * V := by omega
  have r0 : 0 ≤ r * L := by
    refine Int.mul_nonneg ?_ (by omega)
    unfold sat at h0 hg; split at hg <;> (try split at hg) <;> omega
  generalize r * L = RL at *
  generalize Y * U = p at *
  generalize X * V = q at *
  unfold ab at *
  split <;> omega
theorem side_near {X Y U V r : Int} (bX : -8804682956800 ≤ X ∧ X ≤ 8804682956800) (bY : -8804682956800 ≤ Y ∧ Y ≤ 8804682956800) (bU : -8804682956800 ≤ U ∧ U ≤ 8804682956800) (bV : -8804682956800 ≤ V ∧ V ≤ 8804682956800)
    (hl : 1048576 ≤ ab X ∨ 1048576 ≤ ab Y) (hS : 8796093022208 ≤ X * X + Y * Y) (r0 : 0 ≤ r) (r1 : r ≤ 17179869184) (h0 : 0 < dotV ((uF X Y).2, negF (uF X Y).1) (U, V)) (hg : dotV ((uF X Y).2, negF (uF X Y).1) (U, V) < r)
    (hd1 : 0 < dotV (U, V) (X, Y)) (hd2 : 0 < dotV (U - X, V - Y) (-X, -Y)) :
    (min 0 X - r - 12300 ≤ U ∧ U ≤ max 0 X + r + 12300) ∧ (min 0 Y - r - 12300 ≤ V ∧ V ≤ max 0 Y + r + 12300) := by
  have mX : Sm X := by unfold Sm; omega
  have mY : Sm Y := by unfold Sm; omega
  have mU : Sm U := by unfold Sm; omega
  have mV : Sm V := by unfold Sm; omega
  have c := cross_gap bX bY bU bV hl r1 h0 hg
  have d1 := dot_pos mU mV mX mY hd1
  have d2 := dot_pos (by unfold Sm; omega) (by unfold Sm; omega) (by unfold Sm; omega) (by unfold Sm; omega) hd2
  have d3 : (U - X) * -X + (V - Y) * -Y = (X * X + Y * Y) - (U * X + V * Y) := by grind
  obtain ⟨l0, l1, _⟩ := len_spec mX mY
  refine ⟨foot (S := X * X + Y * Y) (D := U * X + V * Y) (C := Y * U - X * V) (Y := Y) (L := lenF X Y) (by grind) rfl hS l0 l1 r0 d1 (by omega) c,
    foot (S := X * X + Y * Y) (D := U * X + V * Y) (C := -(Y * U - X * V)) (Y := X) (L := lenF X Y) (by grind) (by omega) hS l0 l1 r0 d1 (by omega) (by rw [ab_neg]; omega)⟩
section
variable {x y : Nat → Int} {k c s X Y : Int} {n : Nat}
/-- a way in place, squared -/
theorem InPlace.sq (h : InPlace x y k c s X Y n) {i l : Nat} (hi : i < n) (hl : l < n) (hq : x l - x i ≠ 0 ∨ y l - y i ≠ 0) :
    8796093022208 ≤ ((placeF (grid x y k) c s X Y l).1 - (placeF (grid x y k) c s X Y i).1) * ((placeF (grid x y k) c s X Y l).1 - (placeF (grid x y k) c s X Y i).1) + ((placeF (grid x y k) c s X Y l).2 - (placeF (grid x y k) c s X Y i).2) * ((placeF (grid x y k) c s X Y l).2 - (placeF (grid x y k) c s X Y i).2) := by
  have k0 := h.g.k0
  have k1 := h.g.k1
  have n1 := h.near hi hl
  have b1 := way_bd h.g hi hl
  generalize (placeF (grid x y k) c s X Y l).1 - (placeF (grid x y k) c s X Y i).1 = E1 at *
  generalize (placeF (grid x y k) c s X Y l).2 - (placeF (grid x y k) c s X Y i).2 = E2 at *
  generalize x l - x i = A at *
  generalize y l - y i = B at *
  have m1 : ab (4294967296 * (-E2) - (c * (-B * (k * 4194304)) - s * (A * (k * 4194304)))) ≤ 17179869184 := by
    have e : 4294967296 * (-E2) - (c * (-B * (k * 4194304)) - s * (A * (k * 4194304))) = -(4294967296 * E2 - (s * (A * (k * 4194304)) + c * (B * (k * 4194304)))) := by grind
    rw [e, ab_neg]; exact n1.2
  have m2 : ab (4294967296 * E1 - (s * (-B * (k * 4194304)) + c * (A * (k * 4194304)))) ≤ 17179869184 := by
    have e : 4294967296 * E1 - (s * (-B * (k * 4194304)) + c * (A * (k * 4194304))) = 4294967296 * E1 - (c * (A * (k * 4194304)) - s * (B * (k * 4194304))) := by grind
    rw [e]; exact n1.1
  have t := cross_near (Z := k * 4194304) b1.1 b1.2 (show ab (-B) ≤ 130 by rw [ab_neg]; exact b1.2) b1.1 (by omega) (ab_cn h.hc) (ab_cn h.hs) n1.1 n1.2 m1 m2
  have p1 : 0 ≤ A * A := sq_nn A
  have p2 : 0 ≤ B * B := sq_nn B
  have p3 : 1 ≤ A * A - B * -B := by
    rw [Int.mul_neg]
    rcases hq with g | g
    · have : A * A ≠ 0 := Int.mul_ne_zero g g
      omega
    · have : B * B ≠ 0 := Int.mul_ne_zero g g
      omega
  have r := cr_low h.hN (by omega) p3 t
  have r1 : 1 * ((k * 4194304 + 4) * (k * 4194304 + 4)) ≤ (A * A - B * -B) * ((k * 4194304 + 4) * (k * 4194304 + 4)) := Int.mul_le_mul_of_nonneg_right p3 (Int.mul_nonneg (by omega) (by omega))
  have r2 : 4194304 * 4194304 ≤ (k * 4194304 + 4) * (k * 4194304 + 4) := Int.mul_le_mul (by omega) (by omega) (by omega) (by omega)
  simp only [Int.mul_neg] at r r1
  omega
theorem InPlace.nz (h : InPlace x y k c s X Y n) {i : Nat} (hi : i < n) : x ((i + 1) % n) - x i ≠ 0 ∨ y ((i + 1) % n) - y i ≠ 0 := by
  have n0 := h.g.n0
  obtain ⟨e, d1, d2⟩ := next_is n0 hi
  have := h.g.cv i hi ((i + 2) % n) (Nat.mod_lt _ (by omega)) d1 d2
  unfold icross at this
  refine Classical.byContradiction fun hh => ?_
  have z1 : x ((i + 1) % n) - x i = 0 := by omega
  have z2 : y ((i + 1) % n) - y i = 0 := by omega
  rw [z1, z2, Int.zero_mul, Int.zero_mul] at this
  omega
theorem exact_sub {p q : Int × Int} (hp : Far p) (hq : Far q) : subV q p = (q.1 - p.1, q.2 - p.2) := by
  unfold Far at hp hq
  unfold subV
  rw [sub_exact (a := q.1) (b := p.1) (by unfold Rg; omega) (by unfold Rg; omega) (by unfold Rg; omega), sub_exact (a := q.2) (b := p.2) (by unfold Rg; omega) (by unfold Rg; omega) (by unfold Rg; omega)]
/-- a polygon and a circle that touch -/
theorem mixed_near (h : InPlace x y k c s X Y n) (hX : -4294967296000 ≤ X ∧ X ≤ 4294967296000) (hY : -4294967296000 ≤ Y ∧ Y ≤ 4294967296000) {v : Int × Int} {r : Int} (hv : Far v) (r0 : 0 ≤ r) (r1 : r ≤ 17179869184)
    (ht : mixedF (placeF (grid x y k) c s X Y) n v r ≠ none) :
    (∃ i, i < n ∧ v.1 - (placeF (grid x y k) c s X Y i).1 ≤ r + 262528) ∧ (∃ i, i < n ∧ (placeF (grid x y k) c s X Y i).1 - v.1 ≤ r + 262528) ∧ (∃ i, i < n ∧ v.2 - (placeF (grid x y k) c s X Y i).2 ≤ r + 262528) ∧ (∃ i, i < n ∧ (placeF (grid x y k) c s X Y i).2 - v.2 ≤ r + 262528) := by
  have n0 := h.g.n0
  have hf : ∀ i, i < n → Far (placeF (grid x y k) c s X Y i) := fun i hi => h.corners hX hY i hi
  have top := firstF_top (gapF (placeF (grid x y k) c s X Y) n (fun _ => v) 1) (n - 1)
  have fle := firstF_le (gapF (placeF (grid x y k) c s X Y) n (fun _ => v) 1) (n - 1)
  unfold mixedF at ht
  have esd : sideF (placeF (grid x y k) c s X Y) n (fun _ => v) 1 = firstF (gapF (placeF (grid x y k) c s X Y) n (fun _ => v) 1) (n - 1) := rfl
  rw [esd] at ht
  generalize firstF (gapF (placeF (grid x y k) c s X Y) n (fun _ => v) 1) (n - 1) = i at *
  have hi : i < n := by omega
  have hj : (i + 1) % n < n := Nat.mod_lt _ (by omega)
  unfold mixedI at ht
  by_cases g1 : r ≤ gapF (placeF (grid x y k) c s X Y) n (fun _ => v) 1 i
  · rw [if_pos g1] at ht; exact absurd rfl ht
  rw [if_neg g1] at ht
  by_cases g2 : gapF (placeF (grid x y k) c s X Y) n (fun _ => v) 1 i ≤ 0
  · obtain ⟨⟨i1, h1, e1⟩, ⟨i2, h2, e2⟩, ⟨i3, h3, e3⟩, ⟨i4, h4, e4⟩⟩ := flat_near h hX hY hv (fun j hj => by have := top j (by omega); omega)
    exact ⟨⟨i1, h1, by omega⟩, ⟨i2, h2, by omega⟩, ⟨i3, h3, by omega⟩, ⟨i4, h4, by omega⟩⟩
  rw [if_neg g2] at ht
  by_cases g3 : dotV (subV v (placeF (grid x y k) c s X Y i)) (subV (placeF (grid x y k) c s X Y ((i + 1) % n)) (placeF (grid x y k) c s X Y i)) ≤ 0
  · rw [if_pos g3] at ht
    have := corner_near (hf i hi) hv ht
    have := ab_le (v.1 - (placeF (grid x y k) c s X Y i).1)
    have := ab_le (v.2 - (placeF (grid x y k) c s X Y i).2)
    exact ⟨⟨i, hi, by omega⟩, ⟨i, hi, by omega⟩, ⟨i, hi, by omega⟩, ⟨i, hi, by omega⟩⟩
  rw [if_neg g3] at ht
  by_cases g4 : dotV (subV v (placeF (grid x y k) c s X Y ((i + 1) % n))) (negV (subV (placeF (grid x y k) c s X Y ((i + 1) % n)) (placeF (grid x y k) c s X Y i))) ≤ 0
  · rw [if_pos g4] at ht
    have := corner_near (hf _ hj) hv ht
    have := ab_le (v.1 - (placeF (grid x y k) c s X Y ((i + 1) % n)).1)
    have := ab_le (v.2 - (placeF (grid x y k) c s X Y ((i + 1) % n)).2)
    exact ⟨⟨_, hj, by omega⟩, ⟨_, hj, by omega⟩, ⟨_, hj, by omega⟩, ⟨_, hj, by omega⟩⟩
  clear ht top fle esd
  have sq := h.sq hi hj (h.nz hi)
  have lg := h.poly.2 i hi
  have eg : gapF (placeF (grid x y k) c s X Y) n (fun _ => v) 1 i = dotV (normF (placeF (grid x y k) c s X Y) n i) (subV v (placeF (grid x y k) c s X Y i)) := rfl
  rw [eg] at g1 g2
  have p1 := hf i hi
  have p2 := hf _ hj
  have eN : normF (placeF (grid x y k) c s X Y) n i = ((uF (subV (placeF (grid x y k) c s X Y ((i + 1) % n)) (placeF (grid x y k) c s X Y i)).1 (subV (placeF (grid x y k) c s X Y ((i + 1) % n)) (placeF (grid x y k) c s X Y i)).2).2, negF (uF (subV (placeF (grid x y k) c s X Y ((i + 1) % n)) (placeF (grid x y k) c s X Y i)).1 (subV (placeF (grid x y k) c s X Y ((i + 1) % n)) (placeF (grid x y k) c s X Y i)).2).1) := rfl
  rw [eN] at g1 g2
  unfold eX eY at lg
  obtain ⟨q, eq⟩ : ∃ q, placeF (grid x y k) c s X Y ((i + 1) % n) = q := ⟨_, rfl⟩
  obtain ⟨p, ep⟩ : ∃ p, placeF (grid x y k) c s X Y i = p := ⟨_, rfl⟩
  rw [eq] at g1 g2 g3 g4 sq lg p2
  rw [ep] at g1 g2 g3 g4 sq lg p1
  rw [exact_sub p1 hv, exact_sub p1 p2] at g1 g2 g3
  rw [exact_sub p2 hv, exact_sub p1 p2] at g4
  have hn : negV (q.1 - p.1, q.2 - p.2) = (-(q.1 - p.1), -(q.2 - p.2)) := by
    unfold Far at p1 p2
    unfold negV
    simp only []
    rw [negR (by unfold Rg; omega), negR (by unfold Rg; omega)]
  rw [hn, show v.1 - q.1 = (v.1 - p.1) - (q.1 - p.1) by omega, show v.2 - q.2 = (v.2 - p.2) - (q.2 - p.2) by omega] at g4
  have P := hf i hi
  have hv' := hv
  unfold Far at p1 p2 hv
  have H := side_near (X := q.1 - p.1) (Y := q.2 - p.2) (U := v.1 - p.1) (V := v.2 - p.2) (r := r) (by omega) (by omega) (by omega) (by omega) lg sq r0 r1 (by simpa using g2) (by simpa using g1) (by simpa using g3) (by simpa using g4)
  obtain ⟨⟨a1, a2⟩, a3, a4⟩ := H
  refine ⟨?_, ?_, ?_, ?_⟩
  · rcases Int.le_total 0 (q.1 - p.1) with hx | hx
    · exact ⟨_, hj, by rw [eq]; omega⟩
    · exact ⟨i, hi, by rw [ep]; omega⟩
  · rcases Int.le_total 0 (q.1 - p.1) with hx | hx
    · exact ⟨i, hi, by rw [ep]; omega⟩
    · exact ⟨_, hj, by rw [eq]; omega⟩
  · rcases Int.le_total 0 (q.2 - p.2) with hx | hx
    · exact ⟨_, hj, by rw [eq]; omega⟩
    · exact ⟨i, hi, by rw [ep]; omega⟩
  · rcases Int.le_total 0 (q.2 - p.2) with hx | hx
    · exact ⟨i, hi, by rw [ep]; omega⟩
    · exact ⟨_, hj, by rw [eq]; omega⟩
end
end Go.Proofs.Ytmfkcdinfahjlaa.Fx

/- Plain words: bodies that touch have rectangles that meet, nearly; what a touch's points are. -/
namespace Go.Proofs.Ytmfkcdinfahjlaa.Fx
set_option linter.unusedVariables false

/-- a body's rectangle -/
def BoxB : Bdy → Int → Int → Int → Int → Prop
  | .disc c r, lx, ly, hx, hy => lx = c.1 - r ∧ ly = c.2 - r ∧ hx = c.1 + r ∧ hy = c.2 + r
  | .poly P n, lx, ly, hx, hy => Ext (fun i => (P i).1) n lx hx ∧ Ext (fun i => (P i).2) n ly hy
/-- a body of a place -/
def InB : Bdy → Prop
  | .disc c r => (-4294967296000 ≤ c.1 ∧ c.1 ≤ 4294967296000) ∧ (-4294967296000 ≤ c.2 ∧ c.2 ≤ 4294967296000) ∧ 0 < r ∧ r ≤ 17179869184
  | .poly P n => ∃ x y k c s X Y, InPlace x y k c s X Y n ∧ (-4294967296000 ≤ X ∧ X ≤ 4294967296000) ∧ (-4294967296000 ≤ Y ∧ Y ≤ 4294967296000) ∧ P = placeF (grid x y k) c s X Y
theorem ext_up {f : Nat → Int} {n : Nat} {a b z d : Int} (h : Ext f n a b) (e : ∃ i, i < n ∧ z - f i ≤ d) : z ≤ b + d := by
  obtain ⟨i, hi, g⟩ := e
  have := h.1 i hi
  omega
theorem ext_dn {f : Nat → Int} {n : Nat} {a b z d : Int} (h : Ext f n a b) (e : ∃ i, i < n ∧ f i - z ≤ d) : a ≤ z + d := by
  obtain ⟨i, hi, g⟩ := e
  have := h.1 i hi
  omega
def Near (l1 l2 h1 h2 m1 m2 k1 k2 : Int) : Prop := (l1 - 67108864 ≤ k1 ∧ m1 ≤ h1 + 67108864) ∧ (l2 - 67108864 ≤ k2 ∧ m2 ≤ h2 + 67108864)
theorem Near.turn {l1 l2 h1 h2 m1 m2 k1 k2 : Int} (h : Near l1 l2 h1 h2 m1 m2 k1 k2) : Near m1 m2 k1 k2 l1 l2 h1 h2 := by unfold Near at *; omega
theorem mixed_meets {P : Cs} {n : Nat} {c : Int × Int} {r l1 l2 h1 h2 m1 m2 k1 k2 : Int} (ha : InB (.poly P n)) (hb : InB (.disc c r)) (ht : mixedF P n c r ≠ none) (B1 : BoxB (.poly P n) l1 l2 h1 h2) (B2 : BoxB (.disc c r) m1 m2 k1 k2) : Near l1 l2 h1 h2 m1 m2 k1 k2 := by
  obtain ⟨x, y, k, c', s, X, Y, h, hX, hY, rfl⟩ := ha
  obtain ⟨b1, b2, r0, r1⟩ := hb
  obtain ⟨rfl, rfl, rfl, rfl⟩ := B2
  obtain ⟨e1, e2⟩ := B1
  obtain ⟨f1, f2, f3, f4⟩ := mixed_near h hX hY (v := c) (by unfold Far; omega) (by omega) r1 ht
  have := ext_up e1 f1
  have := ext_dn e1 f2
  have := ext_up e2 f3
  have := ext_dn e2 f4
  unfold Near
  omega
theorem want_meets {a b : Bdy} {l1 l2 h1 h2 m1 m2 k1 k2 : Int} (ha : InB a) (hb : InB b) (ht : wantF a b ≠ none) (B1 : BoxB a l1 l2 h1 h2) (B2 : BoxB b m1 m2 k1 k2) : Near l1 l2 h1 h2 m1 m2 k1 k2 := by
  cases a with
  | disc c r =>
    cases b with
    | disc d t =>
      obtain ⟨b1, b2, r0, r1⟩ := ha
      obtain ⟨b3, b4, r2, r3⟩ := hb
      obtain ⟨rfl, rfl, rfl, rfl⟩ := B1
      obtain ⟨rfl, rfl, rfl, rfl⟩ := B2
      have := rounds_near (by unfold Far; omega) (by unfold Far; omega) (by omega) (by omega) ht
      have := ab_le (d.1 - c.1)
      have := ab_le (d.2 - c.2)
      unfold Near
      omega
    | poly P n =>
      refine (mixed_meets hb ha (fun e => ht ?_) B2 B1).turn
      unfold wantF
      simp only [e]
      rfl
  | poly P n =>
    cases b with
    | disc c r => exact mixed_meets ha hb ht B1 B2
    | poly Q m =>
      obtain ⟨x, y, k, c, s, X, Y, h, hX, hY, rfl⟩ := ha
      obtain ⟨x', y', k', c', s', X', Y', h', hX', hY', rfl⟩ := hb
      obtain ⟨e1, e2⟩ := B1
      obtain ⟨e3, e4⟩ := B2
      obtain ⟨f1, f2, f3, f4⟩ := polys_near h h' hX hY hX' hY' ht
      have := ext_near e1 e3 f1
      have := ext_near e2 e4 f3
      have g2 := ext_near e3 e1 (by obtain ⟨i, j, hi, hj, g⟩ := f2; exact ⟨j, i, hj, hi, g⟩)
      have g4 := ext_near e4 e2 (by obtain ⟨i, j, hi, hj, g⟩ := f4; exact ⟨j, i, hj, hi, g⟩)
      unfold Near
      omega

/-- one point or two, deep, with unlike keys -/
def Good (l : List Pnt) : Prop := (∃ p, l = [p] ∧ 0 < p.d ∧ 0 ≤ p.k) ∨ ∃ p q, l = [p, q] ∧ (0 < p.d ∧ 0 ≤ p.k) ∧ (0 < q.d ∧ 0 ≤ q.k) ∧ q.k ≠ p.k
theorem sub_pos {a c : Int} (ha : Rg a) (hc : Rg c) (h : c < a) : 0 < subF a c := by
  unfold subF addF negF cl sat
  unfold Rg at ha hc
  (repeat' split) <;> omega
theorem rg_dot (a b : Int × Int) : Rg (dotV a b) := rg_add _ _
theorem rg_gap (P : Cs) (n : Nat) (Q : Cs) (m i : Nat) : Rg (gapF P n Q m i) := by
  unfold gapF
  obtain ⟨j, _, e⟩ := leastF_at (fun j => dotV (normF P n i) (subV (Q j) (P i))) (m - 1)
  rw [e]
  exact rg_dot _ _
theorem rg_len (a : Int × Int) : Rg (lenV a) := by have := sqrt_bd (addF (mulF a.1 a.1) (mulF a.2 a.2)); unfold lenV lenF Rg; omega
theorem one_good (n v : Int × Int) {d k : Int} (h : 0 < d) (hk : 0 ≤ k) : Good (oneT n v d k).pts := .inl ⟨_, rfl, h, hk⟩
theorem corner_good {N v u : Int × Int} {r key : Int} {t : Tch} (hr : Rg r) (hk : 0 ≤ key) (h : cornerF N v u r key = some t) : Good t.pts := by
  unfold cornerF at h
  by_cases g : r ≤ lenV u
  · rw [if_pos g] at h; cases h
  rw [if_neg g] at h
  cases h
  exact one_good _ _ (sub_pos hr (rg_len _) (by omega)) hk
theorem mixed_good {P : Cs} {n : Nat} {c : Int × Int} {r : Int} {t : Tch} (hr : Rg r) (h : mixedF P n c r = some t) : Good t.pts := by
  unfold mixedF at h
  generalize sideF P n (fun _ => c) 1 = i at h
  unfold mixedI at h
  by_cases g1 : r ≤ gapF P n (fun _ => c) 1 i
  · rw [if_pos g1] at h; cases h
  rw [if_neg g1] at h
  have d := sub_pos hr (rg_gap P n (fun _ => c) 1 i) (by omega)
  split at h
  · cases h
    exact one_good _ _ d (by omega)
  · split at h
    · exact corner_good hr (by omega) h
    · split at h
      · exact corner_good hr (by omega) h
      · cases h
        exact one_good _ _ d (by omega)
theorem points_good {N v x y : Int × Int} {key : Int} {t : Tch} (hk : 0 ≤ key) (h : pointsF N v x y key = some t) : Good t.pts := by
  unfold pointsF at h
  split at h
  · cases h
  · rename_i g
    cases h
    unfold endsF at g ⊢
    simp only []
    by_cases h1 : 0 < -dotV N (subV x v) <;> by_cases h2 : 0 < -dotV N (subV y v)
    · rw [if_pos h1, if_pos h2]; exact .inr ⟨_, _, rfl, ⟨h1, hk⟩, ⟨h2, by simp only []; omega⟩, by simp only []; omega⟩
    · rw [if_pos h1, if_neg h2]; exact .inl ⟨_, rfl, h1, hk⟩
    · rw [if_neg h1, if_pos h2]; exact .inl ⟨_, rfl, h2, by simp only []; omega⟩
    · rw [if_neg h1, if_neg h2] at g; exact absurd rfl g
theorem clip_good {P : Cs} {n : Nat} {Q : Cs} {m i : Nat} {key : Int} {t : Tch} (hk : 0 ≤ key) (h : clipF P n Q m i key = some t) : Good t.pts := by
  unfold clipF clipV at h
  split at h
  · cases h
  · split at h
    · cases h
    · exact points_good hk h
theorem neg_good {o : Option Tch} {t : Tch} (hg : ∀ u, o = some u → Good u.pts) (h : o.map negT = some t) : Good t.pts := by
  cases o with
  | none => cases h
  | some u =>
    cases h
    exact hg u rfl
theorem want_good {a b : Bdy} {t : Tch} (ha : InB a) (hb : InB b) (h : wantF a b = some t) : Good t.pts := by
  cases a with
  | disc c r =>
    cases b with
    | disc d s =>
      have h : roundsF c r d s = some t := h
      unfold roundsF at h
      split at h
      · cases h
      · cases h
        exact one_good _ _ (sub_pos (rg_add _ _) (rg_len _) (by omega)) (by omega)
    | poly P n =>
      obtain ⟨_, _, r0, r1⟩ := ha
      exact neg_good (fun u hu => mixed_good (by unfold Rg; omega) hu) h
  | poly P n =>
    cases b with
    | disc c r =>
      obtain ⟨_, _, r0, r1⟩ := hb
      exact mixed_good (by unfold Rg; omega) h
    | poly Q m =>
      have h : polysF P n Q m = some t := h
      unfold polysF at h
      split at h
      · cases h
      · split at h
        · exact neg_good (fun u hu => clip_good (by omega) hu) h
        · exact clip_good (by omega) h
end Go.Proofs.Ytmfkcdinfahjlaa.Fx
